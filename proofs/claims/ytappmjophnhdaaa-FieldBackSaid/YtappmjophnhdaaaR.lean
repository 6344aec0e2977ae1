/-
  Contracts of the closure of a reader's Num; no conditions but those that each theorem names.
-/
import Derived.Test.YtappmjophnhdaaaP
import Derived.Test.YtappmjophnhdaaaQ
import Derived.StillTailTactics
namespace Go.Proofs.Ytappmjophnhdaaa
open Go.RowKit
set_option linter.unusedVariables false
set_option linter.unusedSimpArgs false

/-- What reading a number comes to: a fault, or the number. -/
def numRead (l : List UInt8) (p : Nat) (size low high : Int) : (Int × Int) ⊕ Nat :=
  if isSizeB size = false then .inl (2, p) else if l.length < p + size.toNat then .inl (4, l.length) else
  if (beNat ((l.drop p).take size.toNat) : Int) < low ∨ high < (beNat ((l.drop p).take size.toNat) : Int) then .inl (5, p) else .inr (beNat ((l.drop p).take size.toNat))
set_option maxHeartbeats 2000000 in
theorem rnum_fault (bs bq br bl bh bn : Nat) (v : Value) (l sp : List UInt8) (p : Nat) (fe fa size low high e a : Int) (w : World) (hR : Rd w br v l sp p fe fa) (hp : p ≤ l.length) (hl : l.length ≤ 1000000000)
    (cs : w.cell? ⟨bs, 0, none⟩ = some (.int .i64 size)) (cr : w.cell? ⟨bq, 0, none⟩ = some (.pointer (some ⟨br, 0, none⟩)))
    (cl : w.cell? ⟨bl, 0, none⟩ = some (.int .i64 low)) (ch : w.cell? ⟨bh, 0, none⟩ = some (.int .i64 high)) (hx : numRead l p size low high = .inl (e, a)) :
    Calls Try.prog 56 #[.pointer (some ⟨bs, 0, none⟩), .pointer (some ⟨bq, 0, none⟩), .pointer (some ⟨bl, 0, none⟩), .pointer (some ⟨bh, 0, none⟩), .pointer (some ⟨bn, 0, none⟩)] w fun r w' => r = GaveUp e a ∧ Frm [] w w' := by
  have hR' := hR
  obtain ⟨h1, h2, h3⟩ := hR
  have c2 : w.cell? ⟨br, 2, none⟩ = some (.int .i64 p) := by rw [cell_of_heap h1]; rfl
  clear h1
  unfold numRead at hx
  split at hx
  · rename_i hs
    simp only [Sum.inl.injEq, Prod.mk.injEq] at hx
    obtain ⟨rfl, rfl⟩ := hx
    clear cl ch
    go_enter Try.func56, Try.ntmps56
    go_wp2
    refine wp_region_still_tail 6 (by kernel_rfl) (by kernel_rfl) ?_
    simp only [List.take_succ_cons, List.take_zero, List.drop_succ_cons, List.drop_zero]
    still_step
    still_call (isSize_any _ _)
    repeat still_step
    refine wpStill_nil ?_
    go_wp2_with (go_at_call 57; refine (demand_no _ _ _).mono ?_; rintro r w1 ⟨rfl, rfl⟩; unfold GaveUp)
    exact ⟨rfl, rfl, (Frm.refl [] _).drewN 1⟩
  · rename_i hs
    have hs' : isSizeB size = true := by simpa using hs
    have hb : 1 ≤ size ∧ size ≤ 7 := by simpa [isSizeB] using hs'
    obtain ⟨hb1, hb2⟩ := hb
    clear hs
    obtain ⟨s, rfl⟩ := Int.eq_ofNat_of_zero_le (show 0 ≤ size by omega)
    simp only [Int.toNat_natCast] at hx
    split at hx
    · rename_i hlt
      simp only [Sum.inl.injEq, Prod.mk.injEq] at hx
      obtain ⟨rfl, rfl⟩ := hx
      clear cl ch
      go_enter Try.func56, Try.ntmps56
      go_wp2
      refine wp_region_still_tail 6 (by kernel_rfl) (by kernel_rfl) ?_
      simp only [List.take_succ_cons, List.take_zero, List.drop_succ_cons, List.drop_zero]
      still_step
      still_call (isSize_any _ _)
      repeat still_step
      refine wpStill_nil ?_
      go_wp2_with (first | (go_at_call 57; refine (demand_yes _ _ _).mono ?_; rintro r w1 ⟨rfl, rfl⟩) | (go_at_call 60; refine (ahead_no br v l sp p s fe fa _ (hR'.keep ((Frm.refl [] _).drewN 1) (by simp) (by simp)) hl hp hlt).mono ?_; rintro r w1 ⟨rfl, f1⟩; unfold GaveUp))
      exact ⟨rfl, rfl, ((Frm.refl [] _).drewN 1).trans f1 (by simp)⟩
    · rename_i hge
      have hge' : p + s ≤ l.length := by omega
      clear hge
      have hml : ((l.drop p).take s).length ≤ 7 := by simp; omega
      generalize hm : beNat ((l.drop p).take s) = m at *
      have HM := Lib.hid hm
      clear hm
      split at hx
      · rename_i hrange
        simp only [Sum.inl.injEq, Prod.mk.injEq] at hx
        obtain ⟨rfl, rfl⟩ := hx
        by_cases hlow : (m : Int) < low
        · have hd1 : decide (low ≤ (m : Int)) = false := by simp; omega
          clear hrange
          go_enter Try.func56, Try.ntmps56
          go_wp2
          refine wp_region_still_tail 6 (by kernel_rfl) (by kernel_rfl) ?_
          simp only [List.take_succ_cons, List.take_zero, List.drop_succ_cons, List.drop_zero]
          still_step
          still_call (isSize_any _ _)
          repeat still_step
          refine wpStill_nil ?_
          go_wp2_with (first | (go_at_call 57; refine (demand_yes _ _ _).mono ?_; rintro r w1 ⟨rfl, rfl⟩) | (go_at_call 60; refine (ahead_yes br v l sp p s fe fa _ (hR'.keep ((Frm.refl [] _).drewN 1) (by simp) (by simp)) hl hge').mono ?_; rintro r w1 ⟨a', c', sp', rfl, s1, f1⟩; have q1 : w1.cell? ⟨bq, 0, none⟩ = some (.pointer (some ⟨br, 0, none⟩)) := f1.cell cr (by simp); have q2 : w1.cell? ⟨br, 2, none⟩ = some (.int .i64 p) := f1.cell c2 (by simp); have q3 : w1.cell? ⟨bl, 0, none⟩ = some (.int .i64 low) := f1.cell cl (by simp); have q4 : w1.cell? ⟨bh, 0, none⟩ = some (.int .i64 high) := f1.cell ch (by simp); have q5 : w1.cell? ⟨bs, 0, none⟩ = some (.int .i64 s) := f1.cell cs (by simp)) | (go_at_call 59; refine (ban_any _ _ sp' _ s1 hml).mono ?_; rw [HM.out]; rintro r w2 ⟨rfl, rfl⟩))
          refine wp_region_still_tail 12 (by kernel_rfl) (by kernel_rfl) ?_
          simp only [List.take_succ_cons, List.take_zero, List.drop_succ_cons, List.drop_zero]
          repeat still_step
          refine wpStill_nil ?_
          go_wp2_with (go_at_call 57; refine (demand_no _ _ _).mono ?_; rintro r w2 ⟨rfl, rfl⟩; unfold GaveUp)
          exact ⟨rfl, rfl, (((Frm.refl [] _).drewN 1).trans f1 (by simp)).drewN 1⟩
        · have hd1 : decide (low ≤ (m : Int)) = true := by simp; omega
          have hd2 : decide ((m : Int) ≤ high) = false := by simp; omega
          clear hrange
          go_enter Try.func56, Try.ntmps56
          go_wp2
          refine wp_region_still_tail 6 (by kernel_rfl) (by kernel_rfl) ?_
          simp only [List.take_succ_cons, List.take_zero, List.drop_succ_cons, List.drop_zero]
          still_step
          still_call (isSize_any _ _)
          repeat still_step
          refine wpStill_nil ?_
          go_wp2_with (first | (go_at_call 57; refine (demand_yes _ _ _).mono ?_; rintro r w1 ⟨rfl, rfl⟩) | (go_at_call 60; refine (ahead_yes br v l sp p s fe fa _ (hR'.keep ((Frm.refl [] _).drewN 1) (by simp) (by simp)) hl hge').mono ?_; rintro r w1 ⟨a', c', sp', rfl, s1, f1⟩; have q1 : w1.cell? ⟨bq, 0, none⟩ = some (.pointer (some ⟨br, 0, none⟩)) := f1.cell cr (by simp); have q2 : w1.cell? ⟨br, 2, none⟩ = some (.int .i64 p) := f1.cell c2 (by simp); have q3 : w1.cell? ⟨bl, 0, none⟩ = some (.int .i64 low) := f1.cell cl (by simp); have q4 : w1.cell? ⟨bh, 0, none⟩ = some (.int .i64 high) := f1.cell ch (by simp); have q5 : w1.cell? ⟨bs, 0, none⟩ = some (.int .i64 s) := f1.cell cs (by simp)) | (go_at_call 59; refine (ban_any _ _ sp' _ s1 hml).mono ?_; rw [HM.out]; rintro r w2 ⟨rfl, rfl⟩))
          refine wp_region_still_tail 12 (by kernel_rfl) (by kernel_rfl) ?_
          simp only [List.take_succ_cons, List.take_zero, List.drop_succ_cons, List.drop_zero]
          repeat still_step
          refine wpStill_nil ?_
          go_wp2_with (go_at_call 57; refine (demand_no _ _ _).mono ?_; rintro r w2 ⟨rfl, rfl⟩; unfold GaveUp)
          exact ⟨rfl, rfl, (((Frm.refl [] _).drewN 1).trans f1 (by simp)).drewN 1⟩
      · cases hx
set_option maxHeartbeats 2000000 in
theorem rnum_ok (bs bq br bl bh bn : Nat) (v : Value) (l sp : List UInt8) (p : Nat) (fe fa size low high : Int) (m : Nat) (w : World) (hR : Rd w br v l sp p fe fa) (hp : p ≤ l.length) (hl : l.length ≤ 1000000000)
    (cs : w.cell? ⟨bs, 0, none⟩ = some (.int .i64 size)) (cr : w.cell? ⟨bq, 0, none⟩ = some (.pointer (some ⟨br, 0, none⟩)))
    (cl : w.cell? ⟨bl, 0, none⟩ = some (.int .i64 low)) (ch : w.cell? ⟨bh, 0, none⟩ = some (.int .i64 high)) (hx : numRead l p size low high = .inr m)
    (cn : w.heap[bn]? = some (.cells #[.int .i64 0] 3 (0, 0))) (n1 : bq ≠ bn) (n2 : bs ≠ bn) (n3 : br ≠ bn) (n4 : bn ∉ blk v) :
    Calls Try.prog 56 #[.pointer (some ⟨bs, 0, none⟩), .pointer (some ⟨bq, 0, none⟩), .pointer (some ⟨bl, 0, none⟩), .pointer (some ⟨bh, 0, none⟩), .pointer (some ⟨bn, 0, none⟩)] w fun r w' => r = .returned (.tuple #[]) ∧
      Rd w' br v l sp (p + size) fe fa ∧ w'.cell? ⟨bn, 0, none⟩ = some (.int .i64 m) ∧ Frm [br, bn] w w' := by
  have hR' := hR
  obtain ⟨h1, h2, h3⟩ := hR
  have c2 : w.cell? ⟨br, 2, none⟩ = some (.int .i64 p) := by rw [cell_of_heap h1]; rfl
  have H1 := Lib.hid h1
  have HN := Lib.hid cn
  clear h1 cn
  unfold numRead at hx
  split at hx
  · cases hx
  · rename_i hs
    have hs' : isSizeB size = true := by simpa using hs
    have hb : 1 ≤ size ∧ size ≤ 7 := by simpa [isSizeB] using hs'
    obtain ⟨hb1, hb2⟩ := hb
    clear hs
    obtain ⟨s, rfl⟩ := Int.eq_ofNat_of_zero_le (show 0 ≤ size by omega)
    simp only [Int.toNat_natCast] at hx
    split at hx
    · cases hx
    · rename_i hge
      have hge' : p + s ≤ l.length := by omega
      clear hge
      have hml : ((l.drop p).take s).length ≤ 7 := by simp; omega
      split at hx
      · cases hx
      · rename_i hrange
        simp only [Sum.inr.injEq] at hx
        rw [hx] at hrange
        have HM := Lib.hid hx
        clear hx
        have hd1 : decide (low ≤ (m : Int)) = true := by simp; omega
        have hd2 : decide ((m : Int) ≤ high) = true := by simp; omega
        clear hrange
        go_enter Try.func56, Try.ntmps56
        go_wp2
        refine wp_region_still_tail 6 (by kernel_rfl) (by kernel_rfl) ?_
        simp only [List.take_succ_cons, List.take_zero, List.drop_succ_cons, List.drop_zero]
        still_step
        still_call (isSize_any _ _)
        repeat still_step
        refine wpStill_nil ?_
        go_wp2_with (first | (go_at_call 57; refine (demand_yes _ _ _).mono ?_; rintro r w1 ⟨rfl, rfl⟩) | (go_at_call 60; refine (ahead_yes br v l sp p s fe fa _ (hR'.keep ((Frm.refl [] _).drewN 1) (by simp) (by simp)) hl hge').mono ?_; rintro r w1 ⟨a', c', sp', rfl, s1, f1⟩; have q1 : w1.cell? ⟨bq, 0, none⟩ = some (.pointer (some ⟨br, 0, none⟩)) := f1.cell cr (by simp); have q2 : w1.cell? ⟨br, 2, none⟩ = some (.int .i64 p) := f1.cell c2 (by simp); have q3 : w1.cell? ⟨bl, 0, none⟩ = some (.int .i64 low) := f1.cell cl (by simp); have q4 : w1.cell? ⟨bh, 0, none⟩ = some (.int .i64 high) := f1.cell ch (by simp); have q5 : w1.cell? ⟨bs, 0, none⟩ = some (.int .i64 s) := f1.cell cs (by simp); have q6 : w1.cell? ⟨bn, 0, none⟩ = some (.int .i64 0) := (by rw [cell_of_heap (f1.heap HN.out (by simp))]; rfl); have q7 : w1.frozen? ⟨bn, 0, none⟩ = false := frozen_of_heap (f1.heap HN.out (by simp)) 0; have q8 : w1.frozen? ⟨br, 2, none⟩ = false := frozen_of_heap (f1.heap H1.out (by simp)) 2; have r1 : (w1.setCell ⟨bn, 0, none⟩ (.int .i64 m)).cell? ⟨bq, 0, none⟩ = some (.pointer (some ⟨br, 0, none⟩)) := ((Frm.refl [bn] _).setCell _ _ (by simp)).cell q1 (by simpa using n1); have r2 : (w1.setCell ⟨bn, 0, none⟩ (.int .i64 m)).cell? ⟨br, 2, none⟩ = some (.int .i64 p) := ((Frm.refl [bn] _).setCell _ _ (by simp)).cell q2 (by simpa using n3); have r3 : (w1.setCell ⟨bn, 0, none⟩ (.int .i64 m)).cell? ⟨bs, 0, none⟩ = some (.int .i64 s) := ((Frm.refl [bn] _).setCell _ _ (by simp)).cell q5 (by simpa using n2)) | (go_at_call 59; refine (ban_any _ _ sp' _ s1 hml).mono ?_; rw [HM.out]; rintro r w2 ⟨rfl, rfl⟩))
        refine wp_region_still_tail 12 (by kernel_rfl) (by kernel_rfl) ?_
        simp only [List.take_succ_cons, List.take_zero, List.drop_succ_cons, List.drop_zero]
        repeat still_step
        refine wpStill_nil ?_
        go_wp2_with (go_at_call 57; refine (demand_yes _ _ _).mono ?_; rintro r w2 ⟨rfl, rfl⟩)
        refine wp_region_still_tail 8 (by kernel_rfl) (by kernel_rfl) ?_
        change wpStill _ _ (World.drew _) _ _ _
        simp only [List.take_succ_cons, List.take_zero, List.drop_succ_cons, List.drop_zero]
        repeat still_step
        refine wpStill_nil ?_
        change wpList _ _ _ _ _ (World.drew _)
        go_wp2
        go_end0
        have F : Frm [br, bn] w (((w2.setCell ⟨bn, 0, none⟩ (.int .i64 m)).setCell ⟨br, 2, none⟩ (.int .i64 (p + s)))) := (((((Frm.refl [] w).drewN 1).trans f1 (by simp)).mono (by simp)).setCell _ _ (by simp)).setCell _ _ (by simp)
        refine ⟨rfl, ⟨?_, ?_, h3⟩, ?_, F.drewN 2⟩
        · show (World.setCell _ _ _).heap[br]? = _
          rw [heap_setCell_same _ ((heap_setCell_ne _ n3).trans (f1.heap H1.out (by simp)))]
          rfl
        · exact h2.keep (F.drewN 2) (fun k hk => by simp; exact ⟨fun e => h3 (e ▸ hk), fun e => n4 (e ▸ hk)⟩)
        · show (World.setCell _ _ _).cell? _ = _
          rw [World.cell?_setCell_other _ _ _ _ (by simp)]
          exact World.cell?_setCell_same _ _ _ q6
end Go.Proofs.Ytappmjophnhdaaa
