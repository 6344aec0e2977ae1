/-
  Contracts of the document's marks and runs. No conditions but those that each theorem names.
-/
import Derived.Test.YtgbgpmdhlocjhaaB6
namespace Go.Proofs.Ytgbgpmdhlocjhaa
open Go.RowKit
set_option linter.unusedVariables false
set_option linter.unusedSimpArgs false
set_option maxRecDepth 100000

theorem Bl.store {w : World} {ops : Array Oper} {rest : List Oper} {o : Oper} {a : Act} {Q : Exit → Act → World → Prop} {g : Nat} {p q : Int → Bool} (h : Bl w g p) (hg : o.guard = none) (x y : Operand) (ho : o.op = .store 49 x y)
    (hx : a.eval x = .pointer (some ⟨g, 0, none⟩)) (hy : a.eval y = .agg (bA q)) (k : ∀ w', Bl w' g q → Frm [g] w w' → wpList Try.prog ops Q rest (a.put o.dst undef) w') : wpList Try.prog ops Q (o :: rest) a w := by
  refine wpList_store_row hg 49 x y ho g (bA q) hx hy 49 _ h (by rw [i49, bA_size]) (by rw [bA_size, bA_size]) (bA_one q) (k _ (setRow_heap w g _ _ 49 (0, 0) h) ⟨rfl, rfl, rfl, by simp [World.setRow], fun i hi hn => setRow_other w g i _ (by simpa using hn)⟩)
def MkRel (l : List Ex) (g g2 : Nat) (w0 : World) (cv : Value) (wr : World) : Prop := ∃ (i : Nat) (p : Int → Bool), i ≤ l.length ∧ cv = .int .i64 i ∧ Bl wr g p ∧ (∀ s, p s = true ↔ hasE (l.take i) s) ∧ Bl wr g2 (fun _ => false) ∧ Frm [] w0 wr
def MkRel2 (h : Int → Prop) (x : Ex) (g g2 : Nat) (w0 : World) (cv : Value) (wr : World) : Prop := ∃ (j : Nat) (p : Int → Bool), (j : Int) ≤ x.2 ∧ cv = .int .i64 j ∧ Bl wr g p ∧ (∀ s, p s = true ↔ h s ∨ (x.1 ≤ s ∧ s < x.1 + j)) ∧ Bl wr g2 (fun _ => false) ∧ Frm [] w0 wr
set_option maxHeartbeats 4000000 in
theorem marks_any (v : Value) (l : List Ex) (sp : List Value) (w : World) (hS : SlX w v l sp) (hg : Good l) :
    Calls Try.prog 41 #[v] w fun e w' => e = .returned (.agg (bA (hasB l))) ∧ Frm [] w w' := by
  obtain ⟨a, cap, rfl, _, _⟩ := hS.form
  have hl9 : ((l.length : Nat) : Int) ≤ 5000 := by have := hg.len; omega
  have HS := Lib.hid hS
  have HG := Lib.hid hg
  clear hS hg
  have b2 : Bl (w.alloc (.cells (bA fun _ => false) 49)) w.heap.size (fun _ => false) := heap_alloc_new _ _
  have f2 : Frm [] w (w.alloc (.cells (bA fun _ => false) 49)) := (Frm.refl _ _).alloc _
  go_enter Try.func41, Try.ntmps41
  go_upto_region 1 with ((with_reducible (show wpList _ _ _ (Oper.mk _ (Op.alloc 49) _ _ _ _ :: _) _ _)); refine wpList_val rfl (exec_alloc49 rfl _) ?_)
  have hz2 : w.heap.size < (w.alloc (.cells (bA fun _ => false) 49)).heap.size := by simp
  generalize w.alloc (.cells (bA fun _ => false) 49) = W2 at *
  have b3 : Bl (W2.alloc (.cells (bA fun _ => false) 49)) W2.heap.size (fun _ => false) := heap_alloc_new _ _
  have f3 : Frm [] W2 (W2.alloc (.cells (bA fun _ => false) 49)) := (Frm.refl _ _).alloc _
  go_upto_region 2 with ((with_reducible (show wpList _ _ _ (Oper.mk _ (Op.alloc 49) _ _ _ _ :: _) _ _)); refine wpList_val rfl (exec_alloc49 rfl _) ?_)
  generalize W2.alloc (.cells (bA fun _ => false) 49) = W at *
  obtain ⟨g2, hg2⟩ : ∃ g, w.heap.size = g := ⟨_, rfl⟩
  obtain ⟨g3, hg3⟩ : ∃ g, W2.heap.size = g := ⟨_, rfl⟩
  rw [hg2] at b2 hz2 ⊢
  rw [hg3] at b3 hz2 ⊢
  have B2 := Lib.hid (b2.keep0 f3)
  have B3 := Lib.hid b3
  have F := Lib.hid (f2.trans f3 (by simp))
  have Z := Lib.hid (show w.heap.size ≤ g2 ∧ g2 < g3 from ⟨by omega, hz2⟩)
  clear b2 b3 f2 f3 hz2 hg2 hg3
  go_wp2_with fail
  go_loopw [4] (MkRel l g3 g2 w) (fun cv _ => l.length - (intOf cv).toNat)
  case atStart => exact ⟨0, _, by omega, rfl, B3.out, fun s => by simp [hasE_nil], B2.out, F.out⟩
  case round =>
    obtain ⟨i, p, hi, rfl, hb, hp, hb2, f⟩ := hrel
    have F1 := Lib.hid f
    by_cases hlt : i < l.length
    · obtain ⟨b0, off, rfl⟩ := HS.out.at (by omega)
      have hxg := HG.out.1 l[i] (List.getElem_mem _)
      have hs := HS.out
      have hcs := fun W (fW : Frm [] w W) => cellsX (hs.keep0 fW) i hlt
      have hts : ∀ s, hasE (l.take (i + 1)) s ↔ hasE (l.take i) s ∨ (l[i].1 ≤ s ∧ s < l[i].1 + l[i].2) := fun s => by
        rw [List.take_succ_eq_append_getElem hlt, hasE_append, hasE_cons]; simp [hasE_nil]
      generalize l[i] = x at *
      generalize hh : hasE (l.take i) = h at *
      have HCS := Lib.hid hcs
      have HTS := Lib.hid hts
      have HB := Lib.hid hb
      have HP := Lib.hid hp
      have HB2 := Lib.hid hb2
      have HXG := Lib.hid hxg
      have HLT := Lib.hid hlt
      clear hs hcs hts hb hp hb2 f hh hxg
      go_wp2_with fail
      go_loopw [5] (MkRel2 h x g3 g2 w) (fun cv _ => x.2.toNat - (intOf cv).toNat)
      case atStart => exact ⟨0, p, by have := HXG.out; omega, rfl, HB.out, fun s => by rw [HP.out s]; constructor; exact .inl; rintro (h | h); exact h; omega, HB2.out, F1.out⟩
      case round =>
        obtain ⟨j, q, hj, rfl, hb, hq, hb2, f⟩ := hrel
        obtain ⟨c0, c1⟩ := HCS.out wr f
        have hxg := HXG.out
        have hlt0 := HLT.out
        have hlt1 : (i : Int) < (l.length : Int) := by omega
        by_cases hlt2 : (j : Int) < x.2
        · have hw : IntKind.i64.wrap (x.1 + (j : Int)) = x.1 + (j : Int) := IntWalk.i64_in _ (by omega)
          obtain ⟨n, hn⟩ : ∃ n : Nat, x.1 + (j : Int) = (n : Int) := ⟨(x.1 + j).toNat, by omega⟩
          have hn4 : n < 4096 := by omega
          have hn5 : (n : Int) < 4096 := by omega
          have cB := hb.cell n hn4
          have zB := frozen_of_heap hb n
          have hst := hb.set n hn4 true
          have hst2 : Bl (wr.setCell ⟨g3, n, none⟩ (.bool true)) g2 (fun _ => false) := (heap_setCell_ne _ (by have := Z.out; show g2 ≠ g3; omega)).trans hb2
          have hq' : ∀ s, (if s = (n : Int) then true else q s) = true ↔ h s ∨ (x.1 ≤ s ∧ s < x.1 + ((j + 1 : Nat) : Int)) := fun s => by
            by_cases hs : s = (n : Int)
            · rw [if_pos hs]; simp; omega
            · rw [if_neg hs, hq s]
              constructor
              · rintro (h | h)
                · exact .inl h
                · exact .inr (by omega)
              · rintro (h | h)
                · exact .inl h
                · exact .inr (by omega)
          rw [hn] at hw
          have ST := Lib.hid hst
          have ST2 := Lib.hid hst2
          have HQ := Lib.hid hq'
          have F2 := Lib.hid f
          clear hst hst2 hq' hb hb2 f hq hlt0
          go_wp2_with fail
          exact ⟨⟨j + 1, _, by omega, by go_num, ST.out, HQ.out, ST2.out, F2.out.setCell _ _ (.inr (by have := Z.out; show w.heap.size ≤ g3; omega))⟩, by simp [intOf]; omega⟩
        · have HB3 := Lib.hid hb
          have HB4 := Lib.hid hb2
          have F2 := Lib.hid f
          have hq' : ∀ s, q s = true ↔ hasE (l.take (i + 1)) s := fun s => by
            rw [HTS.out s, hq s]
            constructor
            · rintro (h | h)
              · exact .inl h
              · exact .inr (by omega)
            · rintro (h | h)
              · exact .inl h
              · exact .inr (by omega)
          have HQ := Lib.hid hq'
          clear hb hb2 f hq hq' hlt0
          go_wp2_with fail
          go_roundw
          case rel => exact ⟨i + 1, q, by omega, by go_num, HB3.out, HQ.out, HB4.out, F2.out⟩
          case measure => simp [intOf]; omega
    · obtain rfl : i = l.length := by omega
      rw [List.take_length] at hp
      have e : bA p = bA (hasB l) := by
        congr 1
        funext s
        rw [Bool.eq_iff_iff, hp s, hasB_iff]
      have hb' : Bl wr g3 (hasB l) := by unfold Bl; rw [← e]; exact hb
      have HB := Lib.hid hb'
      have HB2 := Lib.hid hb2
      clear hb hb2 hp e hb' f
      go_wp2_with (first
        | ((with_reducible (show wpList _ _ _ (Oper.mk _ (Op.load 49 _) _ _ _ _ :: _) _ _)); refine wpList_load_row rfl 49 _ rfl _ rfl _ _ _ _ HB.out Try.underlying49 rfl (by rw [i49, bA_size]) ?_)
        | ((with_reducible (show wpList _ _ _ (Oper.mk _ (Op.store 49 _ _) _ _ _ _ :: _) _ _)); refine Bl.store HB2.out rfl _ _ rfl rfl rfl ?_; intro w3 b3 f3))
      exact bodyPost_ret (v := .agg (bA (hasB l))) (results_cell_row rfl _ _ g2 _ _ _ _ rfl b3 Try.underlying49 rfl (by rw [i49, bA_size])) rfl ⟨rfl, F1.out.trans f3 (fun i hi => .inr (by simp at hi; have := Z.out; omega))⟩
/-- The last run of a list that has the sector ahead of i. -/
theorem upto_last {r : List Ex} {i : Int} (hu : Upto r i) (h : hasE r (i - 1)) : ∃ n, ∃ hn : r.length = n + 1, (r[n]'(by omega)).1 + (r[n]'(by omega)).2 = i := by
  rcases List.eq_nil_or_concat r with rfl | ⟨l, x, rfl⟩
  · exact absurd h (hasE_nil _)
  · simp only [List.concat_eq_append] at *
    refine ⟨l.length, by simp, ?_⟩
    simp only [List.getElem_append_right (Nat.le_refl _), Nat.sub_self, List.getElem_singleton]
    have h1 := hu.2 x (by simp)
    have hx := hu.1.1 x (by simp)
    rcases hasE_append.1 h with ⟨y, hy, h2⟩ | h2
    · have := (List.pairwise_append.1 hu.1.2).2.2 y hy x (by simp)
      omega
    · rw [hasE_cons] at h2
      rcases h2 with h2 | h2
      · omega
      · exact absurd h2 (hasE_nil _)
theorem putE_run {r : List Ex} {i : Int} (hu : Upto r i) (h : ¬ hasE r (i - 1)) : putE r i (i + 1) = r ++ [(i, 1)] := by
  have e : i + 1 - i = 1 := by omega
  have hne : i ≠ i + 1 := by omega
  rcases List.eq_nil_or_concat r with rfl | ⟨l, x, rfl⟩
  · rw [putE_nil hne, e]; rfl
  · simp only [List.concat_eq_append] at *
    have hx := hu.1.1 x (by simp)
    have := putE_new (l := l ++ [x]) (n := l.length) hne (by simp) (by
      simp only [List.getElem_append_right (Nat.le_refl _), Nat.sub_self, List.getElem_singleton]
      intro h2
      exact h ⟨x, by simp, by omega⟩)
    rw [this, e]
def RunRel (p : Int → Bool) (g : Nat) (w0 : World) (lv cv : Value) (wr : World) : Prop := ∃ (i : Nat) (r : List Ex) (sp : List Value), i ≤ 4096 ∧ cv = .int .i64 i ∧ OwnX wr lv r sp ∧ Upto r i ∧ (∀ s, hasE r s ↔ 0 ≤ s ∧ s < (i : Int) ∧ p s = true) ∧ Bl wr g p ∧ (∀ j ∈ blk lv, w0.heap.size ≤ j ∧ j ≠ g) ∧ Frm [] w0 wr
set_option maxHeartbeats 8000000 in
theorem runs_any (p : Int → Bool) (w : World) : Calls Try.prog 43 #[.agg (bA p)] w fun e w' => ∃ r, IsL r (fun s => 0 ≤ s ∧ s < 4096 ∧ p s = true) ∧ Told1 w r e w' := by
  have b0 : Bl (w.alloc (.cells (bA p) 49)) w.heap.size p := heap_alloc_new _ _
  have f0 : Frm [] w (w.alloc (.cells (bA p) 49)) := (Frm.refl _ _).alloc _
  generalize hA : bA p = A at *
  have HA := Lib.hid hA
  clear hA
  go_enter Try.func43, Try.ntmps43
  go_wp2_with fail
  generalize w.alloc (.cells A 49) = W at *
  obtain ⟨g, hg⟩ : ∃ g, w.heap.size = g := ⟨_, rfl⟩
  rw [hg] at b0 ⊢
  have b0' : Bl W g p := b0
  have B0 := Lib.hid b0'
  have F0 := Lib.hid f0
  have HGG := Lib.hid (show w.heap.size ≤ g by omega)
  clear b0 b0' f0 hg
  go_loopw [3, 4] (RunRel p g w) (fun _ cv _ => 4096 - (intOf cv).toNat)
  case atStart => exact ⟨0, [], [], by omega, rfl, OwnE.nil _ _ _ _, Upto.nil _, fun s => ⟨fun h => absurd h (hasE_nil _), fun h => by omega⟩, B0.out, by simp [blk], F0.out⟩
  case round =>
    obtain ⟨i, r, sp, hi, rfl, o, hu, hh, hb, nb, f⟩ := hrel
    obtain ⟨a3, c3, rfl, hc3, _⟩ := o.sl.form
    have hrl := hu.1.len
    have F := Lib.hid f
    have N := Lib.hid nb
    have HB := Lib.hid hb
    have HH := Lib.hid hh
    have U := Lib.hid hu
    have O := Lib.hid o
    by_cases hlt : i < 4096
    · have hlt9 : (i : Int) < 4096 := by omega
      have cB := hb.cell i hlt
      cases hpi : p (i : Int) with
      | false =>
        rw [hpi] at cB
        have hq : ∀ s, hasE r s ↔ 0 ≤ s ∧ s < ((i + 1 : Nat) : Int) ∧ p s = true := fun s => by
          rw [hh s]
          constructor
          · rintro ⟨h1, h2, h3⟩; exact ⟨h1, by omega, h3⟩
          · rintro ⟨h1, h2, h3⟩
            refine ⟨h1, ?_, h3⟩
            rcases Int.lt_or_eq_of_le (show s ≤ (i : Int) by omega) with h | h
            · exact h
            · subst h; rw [hpi] at h3; cases h3
        have HQ := Lib.hid hq
        clear hpi o hu hh hb nb f hq
        go_wp2_with fail
        go_roundw
        case rel => exact ⟨i + 1, r, sp, by omega, by go_num, O.out, U.out.mono (by omega), HQ.out, HB.out, N.out, F.out⟩
        case measure => simp [intOf]; omega
      | true =>
        rw [hpi] at cB
        obtain ⟨q1, q2⟩ := putE_spec hu (b := (i : Int) + 1) (by omega) (Int.le_refl _) (by omega) (by omega)
        have q1' : Upto (putE r (i : Int) ((i : Int) + 1)) ((i + 1 : Nat) : Int) := by simpa using q1
        have q2' : ∀ s, hasE (putE r (i : Int) ((i : Int) + 1)) s ↔ 0 ≤ s ∧ s < ((i + 1 : Nat) : Int) ∧ p s = true := fun s => by
          rw [q2 s, hh s]
          constructor
          · rintro (⟨h1, h2, h3⟩ | h1)
            · exact ⟨h1, by omega, h3⟩
            · obtain rfl : s = (i : Int) := by omega
              exact ⟨by omega, by omega, hpi⟩
          · rintro ⟨h1, h2, h3⟩
            by_cases h : s < (i : Int)
            · exact .inl ⟨h1, h, h3⟩
            · exact .inr (by omega)
        have Q1 := Lib.hid q1'
        have Q2 := Lib.hid q2'
        by_cases hprev : 0 < i ∧ p ((i : Int) - 1) = true
        · obtain ⟨hi0, hpp⟩ := hprev
          have hhe : hasE r ((i : Int) - 1) := (hh _).2 ⟨by omega, by omega, hpp⟩
          obtain ⟨n, hn, hlast⟩ := upto_last hu hhe
          obtain ⟨i', rfl⟩ : ∃ i', i = i' + 1 := ⟨i - 1, by omega⟩
          have cB1 := hb.cell i' (by omega)
          have e1 : (((i' + 1 : Nat) : Int)) - 1 = (i' : Int) := by omega
          rw [e1] at hpp
          rw [hpp] at cB1
          rw [putE_join (by omega) hn hlast] at Q1 Q2
          obtain ⟨b4, hb4⟩ : ∃ g', a3 = some ⟨g', 0, none⟩ := by
            obtain ⟨z1, ⟨z2, z3, z4⟩ | ⟨g', cap, z2, z3, z4, z5, z6⟩⟩ := o
            · omega
            · cases z2; exact ⟨g', rfl⟩
          subst hb4
          obtain ⟨d0, d1⟩ := cellsX o.sl n (by omega)
          rw [Nat.zero_add] at d0 d1
          have z1 := frozen_of_heap (OwnE.heap o) (n * 2 + 1)
          have e2 : (((i' + 1 : Nat) : Int)) + 1 - (((i' + 1 : Nat) : Int)) = 1 := by omega
          rw [e2] at Q1 Q2
          have hst := OwnE.store encE o n 1 (by omega) (by omega) (r[n].1, r[n].2 + 1) (.int .i64 (r[n].2 + 1)) rfl
          have hxn := hu.1.1 r[n] (List.getElem_mem _)
          have hfin : RunRel p g w (.slice (some ⟨b4, 0, none⟩) r.length c3) (.int .i64 (((i' + 1 : Nat) : Int) + 1)) (wr.setCell ⟨b4, n * 2 + 1, none⟩ (.int .i64 (r[n].2 + 1))) := by
            have hN := N.out b4 (by simp [blk])
            refine ⟨i' + 1 + 1, r.set n (r[n].1, r[n].2 + 1), sp, by omega, by go_num, by simpa using hst, Q1.out, Q2.out, (heap_setCell_ne _ (show g ≠ b4 by omega)).trans HB.out, fun j hj => by simp [blk] at hj; subst hj; exact hN, F.out.setCell _ _ (.inr hN.1)⟩
          have HFIN := Lib.hid hfin
          generalize r[n] = x at *
          have hwx : IntKind.i64.wrap (x.2 + 1) = x.2 + 1 := IntWalk.i64_in _ (by omega)
          generalize hm : r.length = m at *
          have hw : IntKind.i64.wrap ((m : Int) - 1) = (n : Int) := by rw [IntWalk.i64_in _ (by omega)]; omega
          have hltn : (n : Int) < (m : Int) := by omega
          have hi9 : (i' : Int) + 1 < 4096 := by omega
          have hi8 : (i' : Int) < 4096 := by omega
          have hi7 : (0 : Int) < (i' : Int) + 1 := by omega
          have ht : ((i' : Int) + 1).toNat = i' + 1 := by omega
          clear hpi o hu hh hb nb f q1 q1' q2 q2' hst hfin hhe hlast hn hm hc3 hrl hxn
          go_wp2_with fail
          exact ⟨HFIN.out, by simp [intOf]; omega⟩
        · have hno : ¬ hasE r ((i : Int) - 1) := fun h => by
            obtain ⟨h1, h2, h3⟩ := (hh _).1 h
            exact hprev ⟨by omega, h3⟩
          rw [putE_run hu hno] at Q1 Q2
          have o1 := o.keep0 ((Frm.refl [] wr).alloc (.cells #[.int .i64 (i : Int), .int .i64 1] 47))
          have s1 := slx_new (x := ((i : Int), 1)) (heap_alloc_new wr (.cells #[.int .i64 (i : Int), .int .i64 1] 47))
          have f1 := f.alloc (.cells #[.int .i64 (i : Int), .int .i64 1] 47)
          have hz : wr.heap.size < (wr.alloc (.cells #[.int .i64 (i : Int), .int .i64 1] 47)).heap.size := by simp
          have hb1 := hb.keep0 ((Frm.refl [] wr).alloc (.cells #[.int .i64 (i : Int), .int .i64 1] 47))
          have hgl := lt_heap hb
          have hfs := f.size
          have O1 := Lib.hid o1
          have S1 := Lib.hid s1
          have F1 := Lib.hid f1
          have HB1 := Lib.hid hb1
          have HZ := Lib.hid (show w.heap.size ≤ wr.heap.size ∧ g < wr.heap.size from ⟨hfs, hgl⟩)
          generalize hm : r.length = m at *
          have HM := Lib.hid hm
          have hbn : m + 1 ≤ 1000000000 := by omega
          by_cases hi0 : 0 < i
          · obtain ⟨i', rfl⟩ : ∃ i', i = i' + 1 := ⟨i - 1, by omega⟩
            have e1 : (((i' + 1 : Nat) : Int)) - 1 = (i' : Int) := by omega
            have cB1 := hb.cell i' (by omega)
            have hpp : p (i' : Int) = false := by
              have := hprev
              rw [e1] at this
              simpa using this
            rw [hpp] at cB1
            have hi8 : (i' : Int) < 4096 := by omega
            have hi7 : (0 : Int) < (i' : Int) + 1 := by omega
            have ht : ((i' : Int) + 1).toNat = i' + 1 := by omega
            clear hpi o hu hh hb nb f q1 q1' q2 q2' o1 s1 f1 hb1 hz hprev hno hpp hm hc3 hrl hgl hfs
            go_wp2_with (at_builtin; refine wpList_append_n encE tysX O1.out S1.out (nn := m + 1) (by simp) hbn (by omega) rfl (.tmp 31) (.tmp 34) rfl rfl rfl ?_; intro a5 c5 w5 sp5 o5 f5 b5)
            exact ⟨⟨i' + 1 + 1, r ++ [(((i' + 1 : Nat) : Int), 1)], sp5, by omega, by go_num, by simpa [HM.out] using o5, Q1.out, Q2.out, f5.heap HB1.out (fun hm => (N.out g hm).2 rfl), fun j hj => by
              rcases b5 j (by simpa [HM.out] using hj) with h | h
              · exact N.out j h
              · simp only [World.size_alloc] at h; have := HZ.out; omega, F1.out.trans f5 (fun j hj => .inr (N.out j hj).1)⟩, by simp [intOf]; omega⟩
          · obtain rfl : i = 0 := by omega
            clear hpi o hu hh hb nb f q1 q1' q2 q2' o1 s1 f1 hb1 hz hprev hno hm hc3 hrl hgl hfs
            go_wp2_with (at_builtin; refine wpList_append_n encE tysX O1.out S1.out (nn := m + 1) (by simp) hbn (by omega) rfl (.tmp 31) (.tmp 34) rfl rfl rfl ?_; intro a5 c5 w5 sp5 o5 f5 b5)
            exact ⟨⟨0 + 1, r ++ [(((0 : Nat) : Int), 1)], sp5, by omega, by go_num, by simpa [HM.out] using o5, Q1.out, Q2.out, f5.heap HB1.out (fun hm => (N.out g hm).2 rfl), fun j hj => by
              rcases b5 j (by simpa [HM.out] using hj) with h | h
              · exact N.out j h
              · simp only [World.size_alloc] at h; have := HZ.out; omega, F1.out.trans f5 (fun j hj => .inr (N.out j hj).1)⟩, by simp [intOf]⟩
    · obtain rfl : i = 4096 := by omega
      clear o hu hh hb nb f
      go_wp2_with fail
      go_ret
      exact ⟨r, ⟨U.out.1, fun s => by rw [HH.out s]; rfl⟩, _, sp, rfl, O.out, F.out, fun j hj => (N.out j hj).1⟩
end Go.Proofs.Ytgbgpmdhlocjhaa
