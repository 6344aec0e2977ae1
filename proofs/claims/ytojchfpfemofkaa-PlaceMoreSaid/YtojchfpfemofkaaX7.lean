/-
  The walk of PlaceMore. No conditions but those that each theorem names.
-/
import Derived.Test.YtojchfpfemofkaaX6
namespace Go.Proofs.Ytojchfpfemofkaa
open Go.RowKit
set_option linter.unusedVariables false
set_option linter.unusedSimpArgs false
set_option maxRecDepth 100000

def md (x : Int) : Int := x.tmod 201
theorem md_rng {x : Int} (h : 0 ≤ x) : 0 ≤ md x ∧ md x ≤ 200 := by
  unfold md
  have h1 := Int.tmod_lt_of_pos x (show (0 : Int) < 201 by decide)
  have h2 := Int.tmod_nonneg 201 h
  omega
/-- The first ones are cut down already. -/
def mdL (L : List Int) (k : Nat) : List Int := (L.take k).map md ++ L.drop k
theorem mdL_length (L : List Int) (k : Nat) : (mdL L k).length = L.length := by simp [mdL]; omega
theorem mdL_zero (L : List Int) : mdL L 0 = L := by simp [mdL]
theorem mdL_all (L : List Int) (k : Nat) (h : L.length ≤ k) : mdL L k = L.map md := by simp [mdL, List.take_of_length_le h, List.drop_eq_nil_of_le h]
theorem mdL_get (L : List Int) (k : Nat) (h : k < L.length) : gt (mdL L k) k = gt L k := by
  rw [gt_lt (by rw [mdL_length]; exact h), gt_lt h]
  unfold mdL
  rw [List.getElem_append_right (by simp; omega)]
  simp [Nat.min_eq_left (Nat.le_of_lt h)]
theorem mdL_set (L : List Int) (k : Nat) (h : k < L.length) : (mdL L k).set k (md (gt L k)) = mdL L (k + 1) := by
  unfold mdL
  rw [List.set_append_right _ _ (by simp; omega), List.take_succ_eq_append_getElem h, List.map_append, List.append_assoc, gt_lt h]
  congr 1
  rw [List.drop_eq_getElem_cons h]
  simp only [List.length_map, List.length_take, Nat.min_eq_left (Nat.le_of_lt h), Nat.sub_self, List.set_cons_zero, List.map_cons, List.map_nil, List.cons_append, List.nil_append]
theorem gt_map_md (L : List Int) (i : Nat) : gt (L.map md) i = md (gt L i) := by
  by_cases h : i < L.length
  · rw [gt_lt (by simpa using h), gt_lt h]; simp
  · rw [gt_ge (by simp; omega), gt_ge (by omega)]; rfl
theorem sumN_bnd {r : List Int} {b : Int} (h : ∀ i, 0 ≤ gt r i ∧ gt r i ≤ b) : ∀ k : Nat, 0 ≤ sumN k (gt r) ∧ sumN k (gt r) ≤ b * k
  | 0 => by simp [sumN]
  | k + 1 => by
    have h1 := sumN_bnd h k
    have h2 := h k
    simp only [sumN]
    rw [show ((k + 1 : Nat) : Int) = (k : Int) + 1 by omega, Int.mul_add, Int.mul_one]
    omega
theorem MnR.fine {f : List Int} {t : List Bool} {c : Int} {k : Nat} {e : Int} (h : MnR f t c k e) (hF : Fine f t c) : e = 0 ∧ Mny (wt c t) (Ytojchfpfemofkaa.rm f t) k := by
  rcases h with ⟨h, _⟩ | ⟨_, hm, rfl⟩
  · exact absurd hF h
  · exact ⟨rfl, hm⟩
theorem mny_none {w : Nat} {r : List Int} {k : Nat} (h : Mny w r k) (hn : cho r w = none) : k = 0 := h.eq (Mny.zero hn)
theorem mny_some {w : Nat} {r : List Int} {k : Nat} {l : List Nat} (h : Mny w r k) (hl : cho r w = some l) : 0 < k := by
  obtain ⟨r', e, e2⟩ := h
  rcases Nat.eq_zero_or_pos k with rfl | h
  · simp [aft] at e
    subst e
    rw [hl] at e2; cases e2
  · exact h
theorem mny_le {w : Nat} {r : List Int} {k : Nat} (h : Mny w r k) (h0 : ∀ i, 0 ≤ gt r i ∧ gt r i ≤ 4096) (hn : r.length ≤ 8) : k ≤ 32768 := by
  obtain ⟨r', e, _⟩ := h
  exact aft_le e h0 hn
theorem mny_sum {w : Nat} {r : List Int} {k : Nat} (h : Mny w r k) (h0 : ∀ i, 0 ≤ gt r i) : (k : Int) * (w : Int) ≤ sumN r.length (gt r) := by
  obtain ⟨r', e, _⟩ := h
  obtain ⟨i1, i2, i3⟩ := aft_sum w k r r' h0 e
  have h1 : 0 ≤ sumN r.length (gt r') := by
    rw [← sumN_zero r.length]; exact sumN_le fun i _ => i2 i
  rw [Int.mul_comm]
  omega
theorem fine_set {f : List Int} {t : List Bool} {c : Int} (h : Fine f t c) (i : Nat) (y : Int) (hi : i < f.length) (hy : 0 ≤ y ∧ y ≤ 4096) : Fine (f.set i y) t c := by
  refine ⟨by rw [List.length_set]; exact h.n2, by rw [List.length_set]; exact h.n8, by rw [List.length_set]; exact h.tl, h.c1, h.c3, fun j => ?_⟩
  rw [gt_set hi]
  split
  · exact hy
  · exact h.rng j
theorem mny_more {f : List Int} {t : List Bool} {c : Int} (h : Fine f t c) {w k j : Nat} (h1 : Mny w (rm f t) k) (i : Nat) (hi : i < f.length) (y : Int) (hy : gt f i ≤ y) (h2 : Mny w (rm (f.set i y) t) j) : k ≤ j := by
  refine h1.more h2 (by simp [rm_length]) (fun i => (h.rm i).1) fun j => ?_
  rw [gt_rm, gt_rm, gt_set hi]
  split
  · split
    · rename_i e; subst e; exact hy
    · exact Int.le_refl _
  · exact Int.le_refl _
def SumRel (L : List Int) (B : List Bool) (g n cap : Nat) (sp : List Value) (w0 : World) (sv uv cv : Value) (wr : World) : Prop := ∃ k : Nat, k ≤ n ∧ cv = .int .i64 k ∧ sv = .int .i64 (sumN k (gt (rm (L.map md) B))) ∧ uv = .int .i64 (upN (B.take k)) ∧ OwnI wr (.slice (some ⟨g, 0, none⟩) n cap) (mdL L k) sp ∧ Frm [g] w0 wr
set_option maxHeartbeats 16000000 in
theorem more_law (x : Int) (v d : Value) (f : List Int) (t : List Bool) (c y z : Int) (sp dsp : List Value) (w : World) (hS : SlI w v f sp) (hT : SlO w d t dsp) : Calls Try.prog 7 #[.int .i64 x, v, d, .int .i64 c, .int .i64 y, .int .i64 z] w (Yes w) := by
  have HS := Lib.hid hS
  have HT := Lib.hid hT
  have HP := Lib.hid (Pick_any c 3 (by omega) (by omega))
  have hpr := pick_range c 3 (by omega)
  obtain ⟨cc, hcc⟩ : ∃ cc, 1 + pick c 3 = cc := ⟨_, rfl⟩
  have hw1 : IntKind.i64.wrap (1 + pick c 3) = cc := by rw [IntWalk.i64_in _ (by omega)]; exact hcc
  have HCC := Lib.hid (show 1 ≤ cc ∧ cc ≤ 3 by omega)
  have HPK2 := Lib.hid (Pick_any z 100 (by omega) (by omega))
  have HPK := Lib.hid (pick_range z 100 (by omega))
  generalize pick z 100 = pk at *
  generalize pick c 3 = pc at *
  clear hS hT hpr hcc
  go_enter Try.func7, Try.ntmps7
  go_wp2_with fail
  refine Calls.mono (awake_any _) ?_
  rintro e1 W1 ⟨rfl, f1⟩
  go_wp2_with fail
  refine Calls.mono (room_any x _ _ f t _ _ _ (HS.out.keep0 f1) (HT.out.keep0 f1)) ?_
  rintro e2 W2 ⟨n, p1, p2, c1, c2, L, B, sp1, sp2, hn2, hn8, rfl, tw⟩
  obtain ⟨g1, rfl⟩ := tw.o1.at (by rw [tw.len1]; omega)
  obtain ⟨g2, rfl⟩ := tw.o2.at (by rw [tw.len2]; omega)
  have TW := Lib.hid (tw.mono f1)
  have HN := Lib.hid (And.intro hn2 hn8)
  have hn9 : (n : Int) ≤ 8 := by omega
  have HL := Lib.hid tw.len1
  have HBL := Lib.hid tw.len2
  have HG12 := Lib.hid (show g1 ≠ g2 from fun h => tw.d12 g1 (by simp [blk]) (by simp [blk, h]))
  have HG1N := Lib.hid (show w.heap.size ≤ g1 from Nat.le_trans f1.size (tw.n1 g1 (by simp [blk])))
  have HF0 := Lib.hid (tw.fine hn2 hn8 HCC.out)
  have HFM0 := Lib.hid (show Fine (L.map md) B cc from by
    have h := tw.fine hn2 hn8 HCC.out
    refine ⟨by simpa using h.n2, by simpa using h.n8, by simpa using h.tl, h.c1, h.c3, fun i => ?_⟩
    rw [gt_map_md]
    have := md_rng (h.rng i).1
    omega)
  have HM200 := Lib.hid (show ∀ i, 0 ≤ gt (rm (L.map md) B) i ∧ gt (rm (L.map md) B) i ≤ 200 from fun i => by
    rw [gt_rm, gt_map_md]
    have := md_rng ((tw.fine hn2 hn8 HCC.out).rng i).1
    split <;> omega)
  have HLR := Lib.hid (show ∀ i, 0 ≤ gt L i ∧ gt L i ≤ 4096 from (tw.fine hn2 hn8 HCC.out).rng)
  clear tw f1 HS HT hn2 hn8
  go_wp2_with (go_at_call 24; refine Calls.mono (HP.out _) ?_; rintro ee W3 ⟨rfl, rfl⟩)
  go_loopw [16, 17, 18] (SumRel L B g1 n c1 sp1 W3) (fun _ _ cv _ => n - (intOf cv).toNat)
  case atStart => exact ⟨0, by omega, rfl, rfl, rfl, by rw [mdL_zero]; exact TW.out.o1, Frm.refl _ _⟩
  case round =>
    obtain ⟨k, hk, rfl, rfl, rfl, o, f6⟩ := hrel
    have ub := upN_le (B.take k)
    have htl : (B.take k).length ≤ k := by simp; omega
    have sb := sumN_bnd HM200.out k
    have o2 := TW.out.o2.keep f6 (by have := HG12.out; simp [blk]; omega)
    by_cases hlt : k < n
    · have hkL : k < L.length := by rw [HL.out]; exact hlt
      have hkB : k < B.length := by rw [HBL.out]; exact hlt
      have c0 := cellI0 o.sl k (by rw [mdL_length]; exact hkL)
      rw [mdL_get L k hkL] at c0
      have c1 := cellO0 o2.sl k hkB
      have z0 := frozen_of_heap (OwnE.heap o) (0 + k)
      rw [Nat.zero_add] at z0
      have hst := OwnE.store encI o k 0 (by rw [mdL_length]; exact hkL) (by omega) (md (gt L k)) (.int .i64 (md (gt L k))) rfl
      rw [mdL_set L k hkL] at hst
      simp only [Nat.add_zero, Nat.mul_one] at hst
      have hus := upN_stepD B k hkB
      have hss : sumN (k + 1) (gt (rm (L.map md) B)) = sumN k (gt (rm (L.map md) B)) + gt (rm (L.map md) B) k := rfl
      have hgr := gt_rm (L.map md) B k
      rw [gt_map_md] at hgr
      have hmr := md_rng (HLR.out k).1
      have hmd : IntKind.i64.wrap ((gt L k).tmod 201) = md (gt L k) := by unfold md at *; exact IntWalk.i64_in _ (by omega)
      have hk9 : (k : Int) < (n : Int) := by omega
      have hk3 : (k : Int) ≤ 8 := by omega
      have hbn : (200 : Int) * (k : Int) ≤ 1600 := by omega
      have c0' := cell_of_heap (OwnE.heap hst) k
      have c2' := cellI0 (OwnE.sl hst) k (by rw [mdL_length]; exact hkL)
      have hgm : gt (mdL L (k + 1)) k = md (gt L k) := by
        rw [← mdL_set L k hkL, gt_set (by rw [mdL_length]; exact hkL), if_pos rfl]
      rw [hgm] at c2'
      have c1' := ((Frm.refl [g1] wr).setCell ⟨g1, k, none⟩ (.int .i64 (md (gt L k))) (.inl (by simp))).cell c1 (by have := HG12.out; simp; omega)
      clear c0' hgm c1 hmd
      have em : md (gt L k) = (gt L k).tmod 201 := rfl
      rw [em] at hst c1' c2' hmr hgr
      clear em
      cases hb : B.getD k false with
      | false =>
        rw [hb] at c1' hgr hus
        simp only [Bool.false_eq_true, if_false] at hgr hus
        rw [hgr, Int.add_zero] at hss
        have HU := Lib.hid hus
        have HSS := Lib.hid hss
        have ST := Lib.hid hst
        have F6 := Lib.hid f6
        clear hus hss hgr hb ub htl sb hst f6 o o2 hmr
        generalize sumN k (gt (rm (L.map md) B)) = s at *
        generalize upN (B.take k) = u at *
        generalize gt L k = m0 at *
        go_wp2_with fail
        go_roundw
        case rel => exact ⟨k + 1, by omega, by go_num, by rw [HSS.out], by rw [HU.out], ST.out, F6.out.setCell _ _ (.inl (by simp))⟩
        case measure => simp [intOf]; omega
      | true =>
        rw [hb] at c1' hgr hus
        rw [if_pos rfl] at hgr hus
        rw [hgr] at hss
        have HU := Lib.hid hus
        have HSS := Lib.hid hss
        have ST := Lib.hid hst
        have F6 := Lib.hid f6
        clear hus hss hgr hb hst f6 o o2
        generalize sumN k (gt (rm (L.map md) B)) = s at *
        generalize upN (B.take k) = u at *
        generalize gt L k = m0 at *
        have hwu : IntKind.i64.wrap ((u : Int) + 1) = (u : Int) + 1 := IntWalk.i64_in _ (by omega)
        have hws : IntKind.i64.wrap (s + m0.tmod 201) = s + m0.tmod 201 := IntWalk.i64_in _ (by omega)
        clear ub htl sb hmr
        go_wp2_with fail
        go_roundw
        case rel => exact ⟨k + 1, by omega, by go_num, by rw [HSS.out], by rw [HU.out]; go_num, ST.out, F6.out.setCell _ _ (.inl (by simp))⟩
        case measure => simp [intOf]; omega
    · obtain rfl : k = n := by omega
      have hbt : B.take k = B := List.take_of_length_le (by rw [HBL.out]; exact Nat.le_refl _)
      rw [hbt] at ub ⊢
      rw [mdL_all L k (by rw [HL.out]; exact Nat.le_refl _)] at o
      have HML := Lib.hid (show (L.map md).length = k by simpa using HL.out)
      have FR0 := Lib.hid (TW.out.fr.trans f6 (fun i hi => .inr (by have := HG1N.out; simp at hi; subst hi; exact this)))
      have HMR := Lib.hid (show ∀ i, 0 ≤ gt (L.map md) i ∧ gt (L.map md) i ≤ 200 from fun i => by rw [gt_map_md]; exact md_rng (HLR.out i).1)
      clear f6 hbt TW HLR HF0 htl
      generalize L.map md = M at *
      have O1 := Lib.hid o
      have O2 := Lib.hid o2
      clear o o2
      have hwt : min cc (upN B : Int) = ((wt cc B : Nat) : Int) := by
        have := HCC.out.1
        unfold wt
        omega
      go_wp2_with fail
      refine Calls.mono (Many_any _ _ M B cc _ _ _ O1.out.sl O2.out.sl (by rw [HML.out]; omega) (by rw [HBL.out]; omega)) ?_
      rintro e5 W5 ⟨n1, er1, mm1, rfl, f5⟩
      obtain ⟨rfl, hm1⟩ := mm1.fine HFM0.out
      have HMNY := Lib.hid hm1
      have FR1 := Lib.hid (FR0.out.trans f5 (by simp))
      have O1a := Lib.hid (O1.out.keep0 f5)
      have O2a := Lib.hid (O2.out.keep0 f5)
      have hn1 : n1 ≤ 32768 := mny_le hm1 HFM0.out.rm (by rw [rm_length, HML.out]; have := HN.out; omega)
      have hsu := mny_sum hm1 (fun i => (HM200.out i).1)
      rw [rm_length, HML.out] at hsu
      have hwn3 : wt cc B ≤ 3 := by
        have := HCC.out
        unfold wt
        omega
      have HFM := Lib.hid (fun dn (h : dn < k) y0 (hy : 0 ≤ y0 ∧ y0 ≤ 4096) => fine_set HFM0.out dn y0 (by rw [HML.out]; exact h) hy)
      have HMORE := Lib.hid (fun dn (h : dn < k) y0 (hy : gt M dn ≤ y0) j (h2 : Mny (wt cc B) (rm (M.set dn y0) B) j) => mny_more HFM0.out hm1 dn (by rw [HML.out]; exact h) y0 hy h2)
      have hpd := pick_range y k (by have := HN.out; omega)
      obtain ⟨dn, hdn⟩ : ∃ dn : Nat, pick y k = dn := ⟨(pick y k).toNat, by omega⟩
      have HPD := Lib.hid (fun W => Pick_any y k (by have := HN.out; omega) (by omega) W)
      rw [hdn] at HPD hpd
      have HDN := Lib.hid (show dn < k by omega)
      clear hm1 mm1 f5 O1 O2 FR0 hdn hpd HM200
      have hs0 := (sumN_bnd HFM0.out.rm k).1
      have hs1 : sumN k (gt (rm M B)) ≤ 32768 := by
        have := (sumN_bnd HFM0.out.rm k).2
        omega
      clear sb
      generalize hsg : sumN k (gt (rm M B)) = s at *
      clear hsg
      cases hl : cho (rm M B) (wt cc B) with
      | none =>
        obtain rfl := mny_none HMNY.out hl
        have hA := chA_none HFM0.out hl
        have HCH := Lib.hid (Choose_any _ _ M B cc _ _ W5 O1a.out.sl O2a.out.sl (by rw [HML.out]; omega) (by rw [HBL.out]; omega))
        rw [hA] at HCH
        have hs2 : ¬ s < 0 := by omega
        clear hl hA HMNY hn1 hsu
        go_wp2_with fail
        refine Calls.mono (HCH.out) ?_
        rintro e6 W6 ⟨r1, s1, rfl, o6, f6, n6⟩
        have FR2 := Lib.hid (FR1.out.trans f6 (by simp))
        have O1b := Lib.hid (O1a.out.keep0 f6)
        have O2b := Lib.hid (O2a.out.keep0 f6)
        clear o6 f6 n6 FR1 O1a O2a
        go_wp2_with fail
        refine Calls.mono (HPD.out _) ?_
        rintro eA WA ⟨rfl, rfl⟩
        go_wp2_with fail
        have c0 := cellI0 O1b.out.sl dn (by have := HDN.out; have := HML.out; omega)
        have z0 := frozen_of_heap (OwnE.heap O1b.out) (0 + dn)
        rw [Nat.zero_add] at z0
        have hst := OwnE.store encI (O1b.out.keep0 ((Frm.refl [] _).drewN 1)) dn 0 (by have := HDN.out; have := HML.out; omega) (by omega) (gt M dn + pk) (.int .i64 (gt M dn + pk)) rfl
        simp only [Nat.add_zero, Nat.mul_one] at hst
        have hgm := HMR.out dn
        have hpk := HPK.out
        have hwa : IntKind.i64.wrap (gt M dn + pk) = gt M dn + pk := IntWalk.i64_in _ (by omega)
        have hdn9 : (dn : Int) < (k : Int) := by have := HDN.out; omega
        have ST := Lib.hid hst
        have FRD := Lib.hid FR2.out
        have O2D := Lib.hid O2b.out
        have HFN := Lib.hid (HFM.out dn HDN.out (gt M dn + pk) (by omega))
        have HMO := Lib.hid (fun j (h : Mny (wt cc B) (rm (M.set dn (gt M dn + pk)) B) j) => HMORE.out dn HDN.out (gt M dn + pk) (by omega) j h)
        generalize gt M dn = y0 at *
        clear hst O1b O2b FR2 hgm hpk
        refine wp_region_still_tail 10 (by kernel_rfl) (by kernel_rfl) ?_
        simp only [List.take_succ_cons, List.take_zero, List.drop_succ_cons, List.drop_zero]
        change wpStill _ _ (World.drew _) _ _ _
        iterate 7 still_step
        still_call (HPK2.out _)
        repeat still_step
        refine wpStill_nil ?_
        change wpList _ _ _ _ _ (World.drew _)
        go_wp2_with fail
        refine Calls.mono (Many_any _ _ (M.set dn (y0 + pk)) B cc _ _ _ ST.out.sl ((O2D.out.keep0 ((Frm.refl [] _).drewN 1)).keep ((Frm.refl [g1] _).setCell ⟨g1, dn, none⟩ (.int .i64 (y0 + pk)) (.inl (by simp))) (by have := HG12.out; simp [blk]; omega)).sl (by rw [List.length_set]; have := HML.out; have := HN.out; omega) (by have := HBL.out; have := HN.out; omega)) ?_
        rintro eB WB ⟨k3, er3, m3, rfl, fB⟩
        obtain ⟨rfl, hm3⟩ := m3.fine HFN.out
        have hge := HMO.out k3 hm3
        have hge9 : (0 : Int) ≤ (k3 : Int) := by omega
        have FB := Lib.hid (((FRD.out.drewN 1).trans ((Frm.refl [g1] _).setCell ⟨g1, dn, none⟩ (.int .i64 (y0 + pk)) (.inl (by simp))) (fun i hi => .inr (by have := HG1N.out; simp at hi; subst hi; exact this))).trans fB (by simp))
        clear fB m3 hm3 hge
        go_wp2_with fail
        go_ret
        exact ⟨by simp, FB.out⟩
      | some l =>
        have hn0 := mny_some HMNY.out hl
        have hA := chA_some HFM0.out hl
        have HCH := Lib.hid (Choose_any _ _ M B cc _ _ W5 O1a.out.sl O2a.out.sl (by rw [HML.out]; omega) (by rw [HBL.out]; omega))
        rw [hA] at HCH
        have hch := (cho_spec hl).2
        have HDF := Lib.hid (fine_dec HFM0.out hch)
        have HCAN := Lib.hid (fine_can HFM0.out hch)
        have HSU := Lib.hid (fun j (h : Mny (wt cc B) (rm (decL M l) B) j) => HMNY.out.eq (Mny.succ hl (by rw [← rm_dec hch]; exact h)))
        have HLL := Lib.hid (show l.length ≤ 3 by rw [hch.len]; exact hwn3)
        have hp0 : 0 ≤ (n1 : Int) * ((wt cc B : Nat) : Int) := Int.mul_nonneg (by omega) (by omega)
        have hwp : IntKind.i64.wrap ((n1 : Int) * ((wt cc B : Nat) : Int)) = (n1 : Int) * ((wt cc B : Nat) : Int) := IntWalk.i64_in _ (by omega)
        have hs2 : ¬ s < (n1 : Int) * ((wt cc B : Nat) : Int) := by omega
        have hn5 : (0 : Int) < (n1 : Int) := by omega
        have hn6 : ¬ (n1 : Int) < 0 := by omega
        have hw9 : IntKind.i64.wrap ((n1 : Int) - 1) = (n1 : Int) - 1 := IntWalk.i64_in _ (by omega)
        clear hl hA hch
        go_wp2_with fail
        refine Calls.mono (HCH.out) ?_
        rintro e6 W6 ⟨r1, s1, rfl, o6, f6, n6⟩
        obtain ⟨p3, c3, rfl, _, _⟩ := o6.sl.form
        rw [cz_length]
        rw [cz_length] at o6 n6
        have FR2 := Lib.hid (FR1.out.trans f6 (by simp))
        have O1b := Lib.hid (O1a.out.keep0 f6)
        have O2b := Lib.hid (O2a.out.keep0 f6)
        have O3b := Lib.hid o6
        have hl3 : ((l.length : Nat) : Int) ≤ 3 := by have := HLL.out; omega
        clear o6 f6 n6 FR1 O1a O2a HCH
        have o0 : OwnI (W6.alloc (.cells #[] 3)) (.slice (some ⟨W6.heap.size, 0, none⟩) 0 0) [] [] := OwnE.of_heap encI (heap_alloc_new _ _) rfl (by simp) (by simp) (by simp)
        have f0 : Frm [] W6 (W6.alloc (.cells #[] 3)) := (Frm.refl _ _).alloc _
        go_wp2_with (at_builtin; refine wpList_append_e encI tysI o0 (O1b.out.keep0 f0).sl (by rw [HML.out]; simp; omega) (by omega) rfl (.tmp 104) (.tmp 105) rfl rfl rfl ?_; intro a' cap' w' sp' o7 f7 b7)
        have hml : ([] : List Int).length + M.length = k := by rw [HML.out]; simp
        rw [hml] at o7 b7
        rw [HML.out]
        have o7' : OwnI w' (.slice a' k cap') M sp' := by simpa using o7
        have f7' := f0.trans f7 (by simp [blk])
        obtain ⟨g4, rfl⟩ := o7'.at (by rw [HML.out]; have := HN.out; omega)
        have hg4 : W6.heap.size ≤ g4 := by
          rcases b7 g4 (by simp [blk]) with h | h
          · simp [blk] at h; omega
          · simp at h; omega
        have HG4 := Lib.hid (show g4 ≠ g1 ∧ g4 ≠ g2 ∧ g4 ∉ blk (.slice p3 l.length c3) ∧ w.heap.size ≤ g4 from ⟨by have := O1b.out.lt g1 (by simp [blk]); omega, by have := O2b.out.lt g2 (by simp [blk]); omega, fun h => by have := O3b.out.lt g4 h; omega, Nat.le_trans FR2.out.size hg4⟩)
        have FR3 := Lib.hid (FR2.out.trans f7' (by simp))
        have O1c := Lib.hid (O1b.out.keep0 f7')
        have O2c := Lib.hid (O2b.out.keep0 f7')
        have O3c := Lib.hid (O3b.out.keep0 f7')
        have O4c := Lib.hid o7'
        clear o7 o7' f7 f7' b7 hg4 o0 f0 O1b O2b O3b FR2 hml
        go_wp2_with fail
        go_loopw [24] (DecRel M l (.slice (some ⟨g4, 0, none⟩) k cap') sp' w') (fun cv _ => l.length - (intOf cv).toNat)
        case atStart => exact ⟨0, by omega, rfl, by simpa [decL] using O4c.out, Frm.refl _ _⟩
        case round =>
          obtain ⟨j, hj, rfl, o, f8⟩ := hrel
          by_cases hlj : j < l.length
          · have hp := HCAN.out.pos l[j] (List.getElem_mem _)
            have hq := HCAN.out.at j hlj
            have hb := HCAN.out.lt l[j] (List.getElem_mem _)
            rw [HML.out] at hb
            have hdl := decL_length (l.take j) M
            rw [HML.out] at hdl
            obtain ⟨b1, q1, rfl⟩ := O3c.out.sl.at (by rw [cz_length]; omega)
            have hd := cellI (O3c.out.sl.keep f8 (by have := HG4.out.2.2.1; simp [blk] at this ⊢; omega)) j (by rw [cz_length]; exact hlj)
            rw [cz_get l j hlj] at hd
            have c1x := cellI o.sl l[j] (by omega)
            rw [← gt_lt, hq] at c1x
            have z1 := frozen_of_heap (OwnE.heap o) (0 + l[j])
            have hst := OwnE.store encI o l[j] 0 (by omega) (by omega) (gt M l[j] - 1) (.int .i64 (gt M l[j] - 1)) rfl
            have e1 := decL_take M l j hlj
            rw [hq] at e1
            rw [← e1] at hst
            simp only [Nat.add_zero, Nat.mul_one] at hst
            rw [Nat.zero_add] at c1x z1
            generalize gt M l[j] = y9 at *
            generalize l[j] = x9 at *
            have hw8 : IntKind.i64.wrap (y9 - 1) = y9 - 1 := IntWalk.i64_in _ (by omega)
            have hx9 : (x9 : Int) < (k : Int) := by omega
            have hx8 : ¬ (k : Int) ≤ (x9 : Int) := by omega
            have ST := Lib.hid hst
            have F8 := Lib.hid f8
            clear hst o f8 e1 hdl hq
            go_wp2_with fail
            go_roundw
            case rel => exact ⟨j + 1, by omega, by go_num, ST.out, F8.out.setCell _ _ (.inl (by simp [blk]))⟩
            case measure => simp [intOf]; omega
          · obtain rfl : j = l.length := by omega
            rw [List.take_length] at o
            have FR4 := Lib.hid (FR3.out.trans f8 (fun i hi => .inr (by have := HG4.out.2.2.2; simp [blk] at hi; subst hi; exact this)))
            have O1d := Lib.hid (O1c.out.keep f8 (by have := HG4.out; simp [blk]; omega))
            have O2d := Lib.hid (O2c.out.keep f8 (by have := HG4.out; simp [blk]; omega))
            have O4d := Lib.hid o
            clear o f8 O1c O2c O3c O4c FR3
            go_wp2_with fail
            refine Calls.mono (Many_any _ _ (decL M l) B cc _ _ _ O4d.out.sl O2d.out.sl (by rw [decL_length, HML.out]; omega) (by rw [HBL.out]; omega)) ?_
            rintro e9 W9 ⟨n2, er2, mm2, rfl, f9⟩
            obtain ⟨rfl, hm2⟩ := mm2.fine HDF.out
            have hsu2 := HSU.out n2 hm2
            have hne : ((n2 : Int) != (n1 : Int) - 1) = false := by simp; omega
            have FR5 := Lib.hid (FR4.out.trans f9 (by simp))
            have O1e := Lib.hid (O1d.out.keep0 f9)
            have O2e := Lib.hid (O2d.out.keep0 f9)
            clear f9 mm2 hm2 O1d O2d O4d FR4 hsu2
            go_wp2_with fail
            refine Calls.mono (HPD.out _) ?_
            rintro eA WA ⟨rfl, rfl⟩
            go_wp2_with fail
            have c0 := cellI0 O1e.out.sl dn (by have := HDN.out; have := HML.out; omega)
            have z0 := frozen_of_heap (OwnE.heap O1e.out) (0 + dn)
            rw [Nat.zero_add] at z0
            have hst := OwnE.store encI (O1e.out.keep0 ((Frm.refl [] _).drewN 1)) dn 0 (by have := HDN.out; have := HML.out; omega) (by omega) (gt M dn + pk) (.int .i64 (gt M dn + pk)) rfl
            simp only [Nat.add_zero, Nat.mul_one] at hst
            have hgm := HMR.out dn
            have hpk := HPK.out
            have hwa : IntKind.i64.wrap (gt M dn + pk) = gt M dn + pk := IntWalk.i64_in _ (by omega)
            have hdn9 : (dn : Int) < (k : Int) := by have := HDN.out; omega
            have ST := Lib.hid hst
            have FRD := Lib.hid FR5.out
            have O2D := Lib.hid O2e.out
            have HFN := Lib.hid (HFM.out dn HDN.out (gt M dn + pk) (by omega))
            have HMO := Lib.hid (fun j (h : Mny (wt cc B) (rm (M.set dn (gt M dn + pk)) B) j) => HMORE.out dn HDN.out (gt M dn + pk) (by omega) j h)
            generalize gt M dn = y0 at *
            clear hst O1e O2e FR5 hgm hpk
            refine wp_region_still_tail 10 (by kernel_rfl) (by kernel_rfl) ?_
            simp only [List.take_succ_cons, List.take_zero, List.drop_succ_cons, List.drop_zero]
            change wpStill _ _ (World.drew _) _ _ _
            iterate 7 still_step
            still_call (HPK2.out _)
            repeat still_step
            refine wpStill_nil ?_
            change wpList _ _ _ _ _ (World.drew _)
            go_wp2_with fail
            refine Calls.mono (Many_any _ _ (M.set dn (y0 + pk)) B cc _ _ _ ST.out.sl ((O2D.out.keep0 ((Frm.refl [] _).drewN 1)).keep ((Frm.refl [g1] _).setCell ⟨g1, dn, none⟩ (.int .i64 (y0 + pk)) (.inl (by simp))) (by have := HG12.out; simp [blk]; omega)).sl (by rw [List.length_set]; have := HML.out; have := HN.out; omega) (by have := HBL.out; have := HN.out; omega)) ?_
            rintro eB WB ⟨k3, er3, m3, rfl, fB⟩
            obtain ⟨rfl, hm3⟩ := m3.fine HFN.out
            have hge := HMO.out k3 hm3
            have hge9 : (n1 : Int) ≤ (k3 : Int) := by omega
            have FB := Lib.hid (((FRD.out.drewN 1).trans ((Frm.refl [g1] _).setCell ⟨g1, dn, none⟩ (.int .i64 (y0 + pk)) (.inl (by simp))) (fun i hi => .inr (by have := HG1N.out; simp at hi; subst hi; exact this))).trans fB (by simp))
            clear fB m3 hm3 hge
            go_wp2_with fail
            go_ret
            exact ⟨by simp, FB.out⟩
end Go.Proofs.Ytojchfpfemofkaa
