/-
  Contracts of a reader's Raw and Rest, whatever is read; no conditions but those that each theorem names.
-/
import Derived.Test.YtappmjophnhdaaaCA
namespace Go.Proofs.Ytappmjophnhdaaa
open Go.RowKit
set_option linter.unusedVariables false
set_option linter.unusedSimpArgs false

/-- What reading bytes comes to: a fault, or the bytes. -/
def rawRead (l : List UInt8) (p : Nat) (n : Int) : (Int × Int) ⊕ List UInt8 :=
  if n < 0 then .inl (2, p) else if l.length < p + n.toNat then .inl (4, l.length) else .inr ((l.drop p).take n.toNat)
def rRaw (l : List UInt8) (s : Nat × Int × Int) (n : Int) : List UInt8 × (Nat × Int × Int) := stepR s [] (rawRead l s.1 n) n.toNat
set_option maxRecDepth 100000 in
set_option maxHeartbeats 2000000 in
theorem rraw_fault (bs bq br bn : Nat) (v : Value) (l sp : List UInt8) (p : Nat) (fe fa n e a : Int) (w : World) (hR : Rd w br v l sp p fe fa) (hp : p ≤ l.length) (hl : l.length ≤ 1000000000)
    (cs : w.cell? ⟨bs, 0, none⟩ = some (.int .i64 n)) (cr : w.cell? ⟨bq, 0, none⟩ = some (.pointer (some ⟨br, 0, none⟩))) (hx : rawRead l p n = .inl (e, a)) :
    Calls Try.prog 64 #[.pointer (some ⟨bs, 0, none⟩), .pointer (some ⟨bq, 0, none⟩), .pointer (some ⟨bn, 0, none⟩)] w fun r w' => r = GaveUp e a ∧ Frm [] w w' := by
  have hR' := hR
  obtain ⟨h1, h2, h3⟩ := hR
  have c2 : w.cell? ⟨br, 2, none⟩ = some (.int .i64 p) := by rw [cell_of_heap h1]; rfl
  clear h1
  unfold rawRead at hx
  split at hx
  · rename_i hn
    simp only [Sum.inl.injEq, Prod.mk.injEq] at hx
    obtain ⟨rfl, rfl⟩ := hx
    have hd : decide (0 ≤ n) = false := by simp; omega
    go_enter Try.func64, Try.ntmps64
    go_wp2
    refine wp_region_still_tail 6 (by kernel_rfl) (by kernel_rfl) ?_
    simp only [List.take_succ_cons, List.take_zero, List.drop_succ_cons, List.drop_zero]
    repeat still_step
    refine wpStill_nil ?_
    go_wp2_with (go_at_call 57; refine (demand_no _ _ _).mono ?_; rintro r w1 ⟨rfl, rfl⟩; unfold GaveUp)
    exact ⟨rfl, rfl, (Frm.refl [] _).drewN 1⟩
  · rename_i hn
    obtain ⟨k, rfl⟩ := Int.eq_ofNat_of_zero_le (show 0 ≤ n by omega)
    simp only [Int.toNat_natCast] at hx
    split at hx
    · rename_i hlt
      simp only [Sum.inl.injEq, Prod.mk.injEq] at hx
      obtain ⟨rfl, rfl⟩ := hx
      clear hn
      have hd : decide ((0 : Int) ≤ (k : Int)) = true := by simp
      have HLT := Lib.hid hlt
      clear hlt
      go_enter Try.func64, Try.ntmps64
      go_wp2
      refine wp_region_still_tail 6 (by kernel_rfl) (by kernel_rfl) ?_
      simp only [List.take_succ_cons, List.take_zero, List.drop_succ_cons, List.drop_zero]
      repeat still_step
      refine wpStill_nil ?_
      go_wp2_with (first | (go_at_call 57; refine (demand_yes _ _ _).mono ?_; rintro r w1 ⟨rfl, rfl⟩) | (go_at_call 60; refine (ahead_no br v l sp p k fe fa _ (hR'.keep ((Frm.refl [] _).drewN 1) (by simp) (by simp)) hl hp HLT.out).mono ?_; rintro r w1 ⟨rfl, f1⟩; unfold GaveUp))
      exact ⟨rfl, rfl, ((Frm.refl [] _).drewN 1).trans f1 (by simp)⟩
    · cases hx
def RawCell (w : World) (bn : Nat) (m : List UInt8) (w' : World) : Prop :=
  ∃ a cap sp', w'.cell? ⟨bn, 0, none⟩ = some (.slice a m.length cap) ∧ OwnB 5 w' (.slice a m.length cap) m sp' ∧ Fresh w (.slice a m.length cap)
set_option maxRecDepth 100000 in
set_option maxHeartbeats 2000000 in
theorem rraw_ok (bs bq br bn : Nat) (v : Value) (l sp : List UInt8) (p : Nat) (fe fa : Int) (k : Nat) (w : World) (hR : Rd w br v l sp p fe fa) (hp : p ≤ l.length) (hl : l.length ≤ 1000000000)
    (cs : w.cell? ⟨bs, 0, none⟩ = some (.int .i64 k)) (cr : w.cell? ⟨bq, 0, none⟩ = some (.pointer (some ⟨br, 0, none⟩))) (hk : p + k ≤ l.length)
    (cn : w.heap[bn]? = some (.cells #[.slice none 0 0] 26 (0, 0))) (n1 : bq ≠ bn) (n2 : bs ≠ bn) (n3 : br ≠ bn) (n4 : bn ∉ blk v) :
    Calls Try.prog 64 #[.pointer (some ⟨bs, 0, none⟩), .pointer (some ⟨bq, 0, none⟩), .pointer (some ⟨bn, 0, none⟩)] w fun r w' => r = .returned (.tuple #[]) ∧
      Rd w' br v l sp (p + k : Nat) fe fa ∧ RawCell w bn ((l.drop p).take k) w' ∧ Frm [br, bn] w w' := by
  have hR' := hR
  obtain ⟨h1, h2, h3⟩ := hR
  have c2 : w.cell? ⟨br, 2, none⟩ = some (.int .i64 p) := by rw [cell_of_heap h1]; rfl
  have H1 := Lib.hid h1
  have HN := Lib.hid cn
  have hml : ((l.drop p).take k).length = k := by simp; omega
  have HML := Lib.hid hml
  have hbr := lt_heap h1
  have hbn := lt_heap cn
  clear h1 cn hml
  have hd : decide ((0 : Int) ≤ (k : Int)) = true := by simp
  have hpk : (p : Int) + (k : Int) ≤ 1000000000 := by omega
  go_enter Try.func64, Try.ntmps64
  go_wp2
  refine wp_region_still_tail 6 (by kernel_rfl) (by kernel_rfl) ?_
  simp only [List.take_succ_cons, List.take_zero, List.drop_succ_cons, List.drop_zero]
  repeat still_step
  refine wpStill_nil ?_
  go_wp2_with (first | (go_at_call 57; refine (demand_yes _ _ _).mono ?_; rintro r w1 ⟨rfl, rfl⟩))
  refine (ahead_yes br v l sp p k fe fa _ (hR'.keep ((Frm.refl [] _).drewN 1) (by simp) (by simp)) hl hk).mono ?_
  rintro rr w1 ⟨a', c', sp', rfl, s1, f1⟩
  have s1' : SlB w1 (.slice a' k c') ((l.drop p).take k) sp' := s1
  have S1 := Lib.hid s1'
  clear s1 s1'
  go_wp2_with fail
  refine (Clone_any _ ((l.drop p).take k) sp' _ S1.out (by rw [HML.out]; omega)).mono ?_
  rintro rr w2 ⟨a2, c2', sp2, rfl, o2, f2, b2⟩
  have f02 : Frm [] w w2 := (((Frm.refl [] w).drewN 1).trans f1 (by simp)).trans f2 (by simp)
  have O2 := Lib.hid o2
  have B2 := Lib.hid b2
  have q1 : w2.cell? ⟨bq, 0, none⟩ = some (.pointer (some ⟨br, 0, none⟩)) := f02.cell cr (by simp)
  have q2 : w2.cell? ⟨br, 2, none⟩ = some (.int .i64 p) := f02.cell c2 (by simp)
  have q3 : w2.cell? ⟨bs, 0, none⟩ = some (.int .i64 k) := f02.cell cs (by simp)
  have q6 : w2.cell? ⟨bn, 0, none⟩ = some (.slice none 0 0) := by rw [cell_of_heap (f02.heap HN.out (by simp))]; rfl
  have q7 : w2.frozen? ⟨bn, 0, none⟩ = false := frozen_of_heap (f02.heap HN.out (by simp)) 0
  have q8 : w2.frozen? ⟨br, 2, none⟩ = false := frozen_of_heap (f02.heap H1.out (by simp)) 2
  have hfr : ∀ i ∈ blk (.slice a2 ((l.drop p).take k).length c2'), w.heap.size ≤ i := fun i hi => Nat.le_trans (((Frm.refl [] w).drewN 1).trans f1 (by simp)).size (b2 i hi)
  have HFR := Lib.hid hfr
  generalize hm : (l.drop p).take k = m at *
  clear o2 b2 hfr
  go_wp2_with fail
  refine wp_region_still_tail 8 (by kernel_rfl) (by kernel_rfl) ?_
  simp only [List.take_succ_cons, List.take_zero, List.drop_succ_cons, List.drop_zero]
  change wpStill _ _ (World.drew _) _ _ _
  repeat still_step
  refine wpStill_nil ?_
  change wpList _ _ _ _ _ (World.drew _)
  go_wp2
  go_end0
  subst hm
  have F : Frm [br, bn] w (((w2.setCell ⟨bn, 0, none⟩ (.slice a2 ((l.drop p).take k).length c2')).setCell ⟨br, 2, none⟩ (.int .i64 (p + k)))) := ((f02.mono (by simp)).setCell _ _ (by simp)).setCell _ _ (by simp)
  have hnb2 : ∀ i ∈ blk (.slice a2 ((l.drop p).take k).length c2'), i ≠ br ∧ i ≠ bn := fun i hi => by have := HFR.out i hi; omega
  refine ⟨rfl, ⟨?_, ?_, h3⟩, ⟨a2, c2', sp2, ?_, ?_, HFR.out⟩, F.drewN 1⟩
  · show (World.setCell _ _ _).heap[br]? = _
    rw [heap_setCell_same _ ((heap_setCell_ne _ n3).trans (f02.heap H1.out (by simp)))]
    simp
  · exact h2.keep (F.drewN 1) (fun k hk => by simp; exact ⟨fun e => h3 (e ▸ hk), fun e => n4 (e ▸ hk)⟩)
  · show (World.setCell _ _ _).cell? _ = _
    rw [World.cell?_setCell_other _ _ _ _ (by simp)]
    exact World.cell?_setCell_same _ _ _ q6
  · have F2 : Frm [br, bn] w2 (((w2.setCell ⟨bn, 0, none⟩ (.slice a2 ((l.drop p).take k).length c2')).setCell ⟨br, 2, none⟩ (.int .i64 (p + k)))) := ((Frm.refl [br, bn] w2).setCell _ _ (by simp)).setCell _ _ (by simp)
    exact O2.out.keep (F2.drewN 1) (fun i hi => by have := hnb2 i hi; simp [this])
def RawR (w : World) (br : Nat) (v : Value) (l sp m : List UInt8) (s : Nat × Int × Int) (r : Ending) (w' : World) : Prop :=
  ∃ a cap sp', r = .returned (.slice a m.length cap) ∧ OwnB 5 w' (.slice a m.length cap) m sp' ∧ Fresh w (.slice a m.length cap) ∧ RdTo w br v l sp s w'
set_option maxHeartbeats 2000000 in
theorem RRawR_any (br : Nat) (v : Value) (l sp : List UInt8) (s : Nat × Int × Int) (n : Int) (w : World) (hR : Rd w br v l sp s.1 s.2.1 s.2.2) (hp : s.1 ≤ l.length) (hl : l.length ≤ 1000000000) :
    Calls Try.prog 32 #[.pointer (some ⟨br, 0, none⟩), .int .i64 n] w fun r w' => RawR w br v l sp (rRaw l s n).1 (rRaw l s n).2 r w' := by
  obtain ⟨p, fe, fa⟩ := s
  simp only at hR hp
  have hlt := hR.lt
  have f3 : ∀ a b c, Frm [] w (((w.alloc a).alloc b).alloc c) := fun a b c => (((Frm.refl [] w).alloc _).alloc _).alloc _
  have hblt := hlt br (by simp)
  have HL := Lib.hid hlt
  have HF := Lib.hid f3
  clear hlt f3
  by_cases hfe : fe = 0
  · subst hfe
    cases hx : rawRead l p n with
    | inl f =>
      obtain ⟨e, a⟩ := f
      have hr : rRaw l (p, 0, fa) n = ([], p, e, a) := by simp [rRaw, stepR, hx]
      rw [hr]
      have HX := Lib.hid hx
      clear hr hx
      go_enter Try.func32, Try.ntmps32
      go_wp2_with fail
      refine (uf_gave 64 _ br v l sp p fa e a _ (hR.keep (HF.out _ _ _) (by simp) (by simp)) (fun w => enter_of Try.func64 (by kernel_rfl) (by kernel_rfl) _ w) (fun w1 f1 => ?_)).mono ?_
      · refine rraw_fault _ _ br _ v l sp p 0 fa n e a w1 (hR.keep ((HF.out _ _ _).trans f1 (by simp)) (by simp) (by simp)) hp hl (f1.cell ?_ (by simp)) (f1.cell ?_ (by simp)) HX.out
        all_goals first | (simp [go_sem]; done) | (simp; done) | (simp; omega) | omega
      · rintro r w2 ⟨rfl, h1, h2⟩
        have q0 : w2.cell? ⟨w.heap.size + 1 + 1, 0, none⟩ = some (.slice none 0 0) := h2.cell (by simp [go_sem]) (by simp; omega)
        go_wp2
        go_ret
        exact ⟨none, 0, [], rfl, OwnB.nil _ _, by simp [Fresh, blk], h1, ((HF.out _ _ _).mono (by simp)).trans h2 (by simp)⟩
    | inr m =>
      have hx' := hx
      unfold rawRead at hx'
      split at hx'
      · cases hx'
      · rename_i hn
        obtain ⟨k, rfl⟩ := Int.eq_ofNat_of_zero_le (show 0 ≤ n by omega)
        simp only [Int.toNat_natCast] at hx'
        split at hx'
        · cases hx'
        · rename_i hle
          have hle' : p + k ≤ l.length := by omega
          simp only [Sum.inr.injEq] at hx'
          have hr : rRaw l (p, 0, fa) k = (m, p + k, (0 : Int), fa) := by simp [rRaw, stepR, hx]
          rw [hr]
          have HX := Lib.hid hx'
          clear hr hx hx' hn hle
          go_enter Try.func32, Try.ntmps32
          go_wp2_with fail
          have hnb : w.heap.size + 1 + 1 ∉ blk v := fun hm => by have := HL.out _ (List.mem_cons_of_mem _ hm); omega
          refine (uf_ret 64 _ br v l sp p fa (fun w' => RdTo w br v l sp (p + k, 0, fa) w' ∧ RawCell w (w.heap.size + 1 + 1) m w') _ (hR.keep (HF.out _ _ _) (by simp) (by simp)) (fun w => enter_of Try.func64 (by kernel_rfl) (by kernel_rfl) _ w) (fun w1 f1 => ?_)).mono ?_
          · refine (rraw_ok _ _ br _ v l sp p 0 fa k w1 (hR.keep ((HF.out _ _ _).trans f1 (by simp)) (by simp) (by simp)) hp hl (f1.cell ?_ (by simp)) (f1.cell ?_ (by simp)) hle' (f1.heap ?_ (by simp)) ?_ ?_ ?_ hnb).mono ?_
            case refine_7 =>
              rintro r w2 ⟨rfl, g1, ⟨a, cap, sp', g2, g4, g5⟩, g3⟩
              rw [HX.out] at g2 g4 g5
              exact ⟨rfl, ⟨by simpa using g1, (((HF.out _ _ _).mono (by simp)).trans f1 (by simp)).trans g3 (by simp; omega)⟩, a, cap, sp', g2, g4, fun i hi => Nat.le_trans ((HF.out _ _ _).trans f1 (by simp)).size (g5 i hi)⟩
            all_goals first | exact heap_alloc_at (by simp) | (simp [go_sem]; done) | (simp; done) | (simp; omega) | omega
          · rintro r w2 ⟨rfl, h1, a, cap, sp', h2, h4, h5⟩
            have H4 := Lib.hid h4
            have H5 := Lib.hid h5
            clear h4 h5
            go_wp2
            go_ret
            exact ⟨a, cap, sp', rfl, H4.out, H5.out, h1⟩
  · have hr : rRaw l (p, fe, fa) n = ([], p, fe, fa) := by simp [rRaw, stepR, hfe]
    rw [hr]
    clear hr
    go_enter Try.func32, Try.ntmps32
    go_wp2_with fail
    refine (uf_fault _ br v l sp p fe fa _ (hR.keep (HF.out _ _ _) (by simp) (by simp)) hfe).mono ?_
    rintro r w2 ⟨rfl, h2⟩
    have q0 : w2.cell? ⟨w.heap.size + 1 + 1, 0, none⟩ = some (.slice none 0 0) := h2.cell (by simp [go_sem]) (by simp)
    go_wp2
    go_ret
    exact ⟨none, 0, [], rfl, OwnB.nil _ _, by simp [Fresh, blk], hR.keep ((HF.out _ _ _).trans h2 (by simp)) (by simp) (by simp), ((HF.out _ _ _).mono (by simp)).trans h2 (by simp)⟩
/-- All that is left is read. -/
def rRest (l : List UInt8) (s : Nat × Int × Int) : Nat × Int × Int :=
  if s.2.1 = 0 then if firstNot (l.drop s.1) < 0 then (l.length, 0, s.2.2) else (s.1, 4, (s.1 : Int) + firstNot (l.drop s.1)) else s
set_option maxRecDepth 100000 in
set_option maxHeartbeats 2000000 in
theorem rest_ok (bq br : Nat) (v : Value) (l sp : List UInt8) (p : Nat) (fe fa : Int) (w : World) (hR : Rd w br v l sp p fe fa) (hp : p ≤ l.length) (hl : l.length ≤ 1000000000)
    (cr : w.cell? ⟨bq, 0, none⟩ = some (.pointer (some ⟨br, 0, none⟩))) (hf : firstNot (l.drop p) < 0) :
    Calls Try.prog 65 #[.pointer (some ⟨bq, 0, none⟩)] w fun r w' => r = .returned (.tuple #[]) ∧ Rd w' br v l sp l.length fe fa ∧ Frm [br] w w' := by
  obtain ⟨h1, h2, h3⟩ := hR
  obtain ⟨a, cap, rfl, hc1, hc2⟩ := h2.sl.form
  have c1 : w.cell? ⟨br, 1, none⟩ = some (.slice a l.length cap) := by rw [cell_of_heap h1]; rfl
  have c2 : w.cell? ⟨br, 2, none⟩ = some (.int .i64 p) := by rw [cell_of_heap h1]; rfl
  have z2 : w.frozen? ⟨br, 2, none⟩ = false := frozen_of_heap h1 2
  obtain ⟨a3, c3, hsl3, s3⟩ := slice_l BT h2.sl p hp
  have hsl3' := fun wx => hsl3 p wx rfl
  have hpi : (p : Int) ≤ (l.length : Int) := by omega
  have HF := Lib.hid hf
  have H1 := Lib.hid h1
  clear h1 hsl3 hf
  go_enter Try.func65, Try.ntmps65
  go_wp2
  refine wp_region_still_tail 13 (by kernel_rfl) (by kernel_rfl) ?_
  simp only [List.take_succ_cons, List.take_zero, List.drop_succ_cons, List.drop_zero]
  repeat still_step
  refine wpStill_nil ?_
  change wpList _ _ _ _ _ (World.drew _)
  go_wp2_with (go_at_call 63; refine (dn_yes _ _ _ _ _ (s3.keep (Frm.refl [] w).drew (by simp)) HF.out (by omega) (by omega)).mono ?_; rintro r w1 ⟨rfl, rfl⟩)
  refine wp_region_still_tail 8 (by kernel_rfl) (by kernel_rfl) ?_
  simp only [List.take_succ_cons, List.take_zero, List.drop_succ_cons, List.drop_zero]
  change wpStill _ _ (World.drew _) _ _ _
  repeat still_step
  refine wpStill_nil ?_
  change wpList _ _ _ _ _ (World.drew _)
  go_wp2
  go_end0
  have F : Frm [br] w (w.setCell ⟨br, 2, none⟩ (.int .i64 l.length)) := (Frm.refl [br] w).setCell _ _ (by simp)
  refine ⟨rfl, ⟨?_, ?_, h3⟩, F.drewN 2⟩
  · show (World.setCell _ _ _).heap[br]? = _
    rw [heap_setCell_same _ H1.out]
    rfl
  · exact h2.keep (F.drewN 2) (fun k hk => by simp; rintro rfl; exact h3 hk)
set_option maxHeartbeats 2000000 in
theorem RRestR_any (br : Nat) (v : Value) (l sp : List UInt8) (s : Nat × Int × Int) (w : World) (hR : Rd w br v l sp s.1 s.2.1 s.2.2) (hp : s.1 ≤ l.length) (hl : l.length ≤ 1000000000) :
    Calls Try.prog 33 #[.pointer (some ⟨br, 0, none⟩)] w fun r w' => r = .returned (.tuple #[]) ∧ RdTo w br v l sp (rRest l s) w' := by
  obtain ⟨p, fe, fa⟩ := s
  simp only at hR hp
  have hlt := hR.lt
  have f3 : ∀ a, Frm [] w (w.alloc a) := fun a => (Frm.refl [] w).alloc _
  have hblt := hlt br (by simp)
  have HF := Lib.hid f3
  clear hlt f3
  by_cases hfe : fe = 0
  · subst hfe
    by_cases hf : firstNot (l.drop p) < 0
    · have hr : rRest l (p, 0, fa) = (l.length, 0, fa) := by simp [rRest, hf]
      rw [hr]
      have X1 := Lib.hid hf
      clear hr hf
      go_enter Try.func33, Try.ntmps33
      go_wp2_with fail
      refine (uf_ret 65 _ br v l sp p fa (fun w' => RdTo w br v l sp (l.length, 0, fa) w') _ (hR.keep (HF.out _) (by simp) (by simp)) (fun w => enter_of Try.func65 (by kernel_rfl) (by kernel_rfl) _ w) (fun w1 f1 => ?_)).mono ?_
      · refine (rest_ok _ br v l sp p 0 fa w1 (hR.keep ((HF.out _).trans f1 (by simp)) (by simp) (by simp)) hp hl (f1.cell ?_ (by simp)) X1.out).mono ?_
        · simp [go_sem]
        · rintro r w2 ⟨rfl, g1, g3⟩
          exact ⟨rfl, g1, (((HF.out _).mono (by simp)).trans f1 (by simp)).trans g3 (by simp)⟩
      · rintro r w2 ⟨rfl, h1⟩
        go_wp2
        go_end0
        exact ⟨rfl, h1⟩
    · have hr : rRest l (p, 0, fa) = (p, 4, (p : Int) + firstNot (l.drop p)) := by simp [rRest, hf]
      rw [hr]
      exact RRestR_fault br v l sp p fa w hR hp hl (by omega) (by have := firstNot_le (l.drop p); simp at this; omega)
  · have hr : rRest l (p, fe, fa) = (p, fe, fa) := by simp [rRest, hfe]
    rw [hr]
    clear hr
    go_enter Try.func33, Try.ntmps33
    go_wp2_with fail
    refine (uf_fault _ br v l sp p fe fa _ (hR.keep (HF.out _) (by simp) (by simp)) hfe).mono ?_
    rintro r w2 ⟨rfl, h2⟩
    go_wp2
    go_end0
    exact ⟨rfl, hR.keep ((HF.out _).trans h2 (by simp)) (by simp) (by simp), ((HF.out _).mono (by simp)).trans h2 (by simp)⟩
end Go.Proofs.Ytappmjophnhdaaa
