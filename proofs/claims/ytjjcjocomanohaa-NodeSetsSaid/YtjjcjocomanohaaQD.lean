/-
  Contract of Same, of the answer of the document. No conditions but those that each theorem names.
-/
import Derived.Test.YtjjcjocomanohaaQB
namespace Go.Proofs.Ytjjcjocomanohaa
open Go.RowKit
set_option linter.unusedVariables false
set_option linter.unusedSimpArgs false
set_option maxRecDepth 100000

theorem same_ads {p q : Pt} (h : like p q = true) : same p q = (p.ads == q.ads) := by
  simp only [like, sameB, Bool.and_eq_true, beq_iff_eq] at h
  simp [same, h.2.1.1, h.2.1.2, h.2.2]
theorem same_not_like {p q : Pt} (h : like p q = false) : same p q = false := by
  cases hs : same p q with
  | false => rfl
  | true => rw [same_iff.1 hs, like_refl] at h; cases h
set_option maxHeartbeats 4000000 in
theorem RefSame_any (x y : Value) (p q : Pt) (w : World) (hp : PtV w x p) (hq : PtV w y q) (hl : p.ads.length ≤ 1000000) :
    Calls Try.prog 24 #[x, y] w fun e w' => e = .returned (.bool (same p q)) ∧ Frm [] w w' := by
  have HP := Lib.hid hp
  have HQ := Lib.hid hq
  have HK := Lib.hid (fun W (f : Frm [] w W) => RefLike_any x y p q W (HP.out.keep0 f) (HQ.out.keep0 f))
  obtain ⟨a, cap, sp, hx, s1, z1⟩ := hp
  obtain ⟨a2, cap2, sp2, hy, s2, z2⟩ := hq
  obtain ⟨A, rfl, hA, hb1⟩ := HP.out.box
  obtain ⟨B, rfl, hB, hb2⟩ := HQ.out.box
  have b1 : Boxed ((w.alloc (.cells A 26)).alloc (.cells B 26)) w.heap.size (.agg A) p := (hb1 w).keep0 ((Frm.refl [] _).alloc _)
  have b2 : Boxed ((w.alloc (.cells A 26)).alloc (.cells B 26)) (w.heap.size + 1) (.agg B) q := by have := hb2 (w.alloc (.cells A 26)); simpa using this
  have k1 : ((w.alloc (.cells A 26)).alloc (.cells B 26)).cell? ⟨w.heap.size, 0, none⟩ = some (.slice a p.ads.length cap) := by
    have h : (w.alloc (.cells A 26)).heap[w.heap.size]? = some (.cells (pc (.slice a p.ads.length cap) p.b p.l p.s).toArray 26 (0, 0)) := by rw [heap_alloc_new]; simp only [pv, Value.agg.injEq] at hx; rw [hx]
    exact ((Frm.refl [] _).alloc _).cell (by rw [cell_of_heap h]; rfl) (by simp)
  have k2 : ((w.alloc (.cells A 26)).alloc (.cells B 26)).cell? ⟨w.heap.size + 1, 0, none⟩ = some (.slice a2 q.ads.length cap2) := by
    have h : ((w.alloc (.cells A 26)).alloc (.cells B 26)).heap[w.heap.size + 1]? = some (.cells (pc (.slice a2 q.ads.length cap2) q.b q.l q.s).toArray 26 (0, 0)) := by rw [heap_alloc_at (by simp)]; simp only [pv, Value.agg.injEq] at hy; rw [hy]
    rw [cell_of_heap h]; rfl
  have f : Frm [] w ((w.alloc (.cells A 26)).alloc (.cells B 26)) := ((Frm.refl [] w).alloc _).alloc _
  have H1 := Lib.hid s1
  have H2 := Lib.hid s2
  obtain ⟨_, _, hv2, _, hm2⟩ := s2.form
  simp only [Value.slice.injEq, true_and] at hv2
  obtain ⟨rfl, rfl⟩ := hv2
  have hm9 : q.ads.length ≤ maxLen := by omega
  unfold maxLen at hm9
  have hl9 : ((p.ads.length : Nat) : Int) ≤ 1000000 := by omega
  have hl8 : ((q.ads.length : Nat) : Int) ≤ 9223372036854775807 := by omega
  clear s1 s2 hl hb1 hb2 hx hy z1 z2 hm2
  have HSL := Lib.hid (@same_not_like p q)
  have HSA := Lib.hid (@same_ads p q)
  generalize same p q = sm at *
  generalize like p q = lk at *
  generalize p.ads = l at *
  generalize q.ads = m at *
  go_enter Try.func24, Try.ntmps24
  go_upto_region 1 with (fail)
  generalize (w.alloc (.cells A 26)).alloc (.cells B 26) = W at *
  have B1 := Lib.hid b1
  have B2 := Lib.hid b2
  have F := Lib.hid f
  clear b1 b2 f
  cases lk with
  | false =>
    have E := Lib.hid (HSL.out (by simp))
    go_wp2_with (first | ((with_reducible (show wpList _ _ _ (Oper.mk _ (Op.load 26 (.tmp 2)) _ _ _ _ :: _) _ _)); refine wpList_load_g (by rfl) 26 _ rfl _ rfl B1.out.load ?_) | ((with_reducible (show wpList _ _ _ (Oper.mk _ (Op.load 26 (.tmp 3)) _ _ _ _ :: _) _ _)); refine wpList_load_g (by rfl) 26 _ rfl _ rfl B2.out.load ?_) | (go_at_call 26; refine (HK.out _ F.out).mono ?_; rintro r w1 ⟨rfl, f1⟩; have k3 := f1.cell k1 (by simp); have k4 := f1.cell k2 (by simp)))
    go_ret
    exact ⟨ret_bool E.out.symm, F.out.trans f1 (by simp)⟩
  | true =>
    obtain E := Lib.hid (HSA.out (by simp))
    by_cases hlm : l.length = m.length
    · have HLM := Lib.hid hlm
      rw [← hlm] at H2 hl8 k2
      have hd : ((l.length : Int) != (l.length : Int)) = false := by simp
      clear hlm
      go_upto_region 3 with (first | ((with_reducible (show wpList _ _ _ (Oper.mk _ (Op.load 26 (.tmp 2)) _ _ _ _ :: _) _ _)); refine wpList_load_g (by rfl) 26 _ rfl _ rfl B1.out.load ?_) | ((with_reducible (show wpList _ _ _ (Oper.mk _ (Op.load 26 (.tmp 3)) _ _ _ _ :: _) _ _)); refine wpList_load_g (by rfl) 26 _ rfl _ rfl B2.out.load ?_) | (go_at_call 26; refine (HK.out _ F.out).mono ?_; rintro r w1 ⟨rfl, f1⟩; have k3 := f1.cell k1 (by simp); have k4 := f1.cell k2 (by simp)))
      have F1 := Lib.hid (F.out.trans f1 (by simp))
      clear f1 k1 k2
      go_wp2_with fail
      go_loopw [5] (PreRel l m w1) (fun cv _ => l.length - (intOf cv).toNat)
      case atStart => exact ⟨0, by omega, rfl, fun j hj => by omega, Frm.refl _ _⟩
      case round =>
        obtain ⟨k, hk, rfl, hp, f⟩ := hrel
        have HP := Lib.hid hp
        have k5 := f.cell k3 (by simp)
        have k6 := f.cell k4 (by simp)
        clear hp k3 k4
        by_cases hlt : k < l.length
        · have hlt2 : k < m.length := by rw [← HLM.out]; exact hlt
          have hH2 := H2.out
          rw [HLM.out] at hH2
          obtain ⟨b0, off, rfl⟩ := H1.out.at (by omega)
          obtain ⟨b1, off1, rfl⟩ := hH2.at (by omega)
          obtain ⟨c0, c1⟩ := (H1.out.keep (F1.out.trans f (by simp)) (by simp)).cells k hlt
          obtain ⟨d0, d1⟩ := (hH2.keep (F1.out.trans f (by simp)) (by simp)).cells k hlt2
          have hn := @pre_not l m k hlt hlt2
          have hy : ∀ j, j < k + 1 → l[k] = m[k] → l[j]? = m[j]? := fun j hj he => by
            rcases Nat.lt_or_ge j k with h | h
            · exact HP.out j h
            · obtain rfl : j = k := by omega
              rw [List.getElem?_eq_getElem hlt, List.getElem?_eq_getElem hlt2, he]
          generalize l[k] = y at *
          generalize m[k] = z at *
          have FF := Lib.hid f
          have HN := Lib.hid hn
          have HY := Lib.hid hy
          clear f hn hy hH2 hlt2
          by_cases e1 : y.1 = z.1
          · by_cases e2 : y.2 = z.2
            · have e3 := ad_ext e1 e2
              subst e3
              go_wp2_with fail
              go_quiet (fail)
              go_wp2_with fail
              go_roundw
              case rel => exact ⟨k + 1, by omega, by go_num, fun j hj => by first | exact HY.out j hj rfl | exact HY.out j hj trivial, FF.out.drewN _⟩
              case measure => simp [intOf]; omega
            · have E2 := Lib.hid (HN.out fun e => e2 (by rw [e]))
              have e2' : (y.2 == z.2) = false := by simpa using e2
              rw [← e1] at d0
              clear e2
              go_wp2_with fail
              go_quiet (fail)
              go_wp2_with fail
              go_ret
              exact ⟨ret_bool (E.out.trans E2.out).symm, F1.out.trans (FF.out.drewN _) (by simp)⟩
          · have E2 := Lib.hid (HN.out fun e => e1 (by rw [e]))
            have e1' : (y.1 == z.1) = false := by simpa using e1
            clear e1
            go_wp2_with fail
            go_quiet (fail)
            go_wp2_with fail
            go_ret
            exact ⟨ret_bool (E.out.trans E2.out).symm, F1.out.trans (FF.out.drewN _) (by simp)⟩
        · obtain rfl : k = l.length := by omega
          have FF := Lib.hid f
          clear f
          go_wp2_with fail
          go_ret
          exact ⟨ret_bool (E.out.trans (pre_all HLM.out HP.out)).symm, F1.out.trans FF.out (by simp)⟩
    · have E2 := Lib.hid (len_not hlm)
      have hd : ((l.length : Int) != (m.length : Int)) = true := by simp; omega
      clear hlm
      go_wp2_with (first | ((with_reducible (show wpList _ _ _ (Oper.mk _ (Op.load 26 (.tmp 2)) _ _ _ _ :: _) _ _)); refine wpList_load_g (by rfl) 26 _ rfl _ rfl B1.out.load ?_) | ((with_reducible (show wpList _ _ _ (Oper.mk _ (Op.load 26 (.tmp 3)) _ _ _ _ :: _) _ _)); refine wpList_load_g (by rfl) 26 _ rfl _ rfl B2.out.load ?_) | (go_at_call 26; refine (HK.out _ F.out).mono ?_; rintro r w1 ⟨rfl, f1⟩; have k3 := f1.cell k1 (by simp); have k4 := f1.cell k2 (by simp)))
      go_ret
      exact ⟨ret_bool (E.out.trans E2.out).symm, F.out.trans f1 (by simp)⟩
end Go.Proofs.Ytjjcjocomanohaa
