/-
  Contracts of the closures of a reader's Rest and Text where they give up over a byte that is not 0; no conditions but those that each theorem names.
-/
import Derived.Test.YtappmjophnhdaaaY
namespace Go.Proofs.Ytappmjophnhdaaa
open Go.RowKit
set_option linter.unusedVariables false
set_option linter.unusedSimpArgs false

set_option maxRecDepth 100000 in
set_option maxHeartbeats 2000000 in
theorem rest_fault (bq br : Nat) (v : Value) (l sp : List UInt8) (p : Nat) (fe fa : Int) (w : World) (hR : Rd w br v l sp p fe fa) (hp : p ≤ l.length) (hl : l.length ≤ 1000000000)
    (cr : w.cell? ⟨bq, 0, none⟩ = some (.pointer (some ⟨br, 0, none⟩))) (hf : 0 ≤ firstNot (l.drop p)) (hf2 : firstNot (l.drop p) < 1000000000000) :
    Calls Try.prog 65 #[.pointer (some ⟨bq, 0, none⟩)] w fun r w' => r = GaveUp 4 (p + firstNot (l.drop p)) ∧ Frm [] w w' := by
  obtain ⟨h1, h2, h3⟩ := hR
  obtain ⟨a, cap, rfl, hc1, hc2⟩ := h2.sl.form
  have c1 : w.cell? ⟨br, 1, none⟩ = some (.slice a l.length cap) := by rw [cell_of_heap h1]; rfl
  have c2 : w.cell? ⟨br, 2, none⟩ = some (.int .i64 p) := by rw [cell_of_heap h1]; rfl
  obtain ⟨a3, c3, hsl3, s3⟩ := slice_l BT h2.sl p hp
  have hsl3' := fun wx => hsl3 p wx rfl
  have hpi : (p : Int) ≤ (l.length : Int) := by omega
  have HF := Lib.hid hf
  have HF2 := Lib.hid hf2
  clear h1 hsl3 hf hf2
  go_enter Try.func65, Try.ntmps65
  go_wp2
  refine wp_region_still_tail 13 (by kernel_rfl) (by kernel_rfl) ?_
  simp only [List.take_succ_cons, List.take_zero, List.drop_succ_cons, List.drop_zero]
  repeat still_step
  refine wpStill_nil ?_
  change wpList _ _ _ _ _ (World.drew _)
  go_wp2_with (go_at_call 63; refine (dn_no _ _ _ _ _ (s3.keep (Frm.refl [] w).drew (by simp)) HF.out (by omega) (by omega) HF2.out).mono ?_; rintro r w1 ⟨rfl, rfl⟩; unfold GaveUp)
  exact ⟨rfl, rfl, (Frm.refl [] _).drew⟩
set_option maxRecDepth 100000 in
set_option maxHeartbeats 2000000 in
theorem rtext_noughts (bs bq br bn : Nat) (v : Value) (l sp : List UInt8) (p : Nat) (fe fa most : Int) (b : UInt8) (r : List UInt8) (w : World) (hR : Rd w br v l sp p fe fa) (hp : p ≤ l.length) (hl : l.length ≤ 1000000000)
    (cs : w.cell? ⟨bs, 0, none⟩ = some (.int .i64 most)) (cr : w.cell? ⟨bq, 0, none⟩ = some (.pointer (some ⟨br, 0, none⟩))) (hs' : isMostB most = true) (hge' : p + (1 + most.toNat) ≤ l.length)
    (hroom : (l.drop p).take (1 + most.toNat) = b :: r) (hbs : ¬ most < b.toNat) (hfn' : 0 ≤ firstNot (r.drop b.toNat)) :
    Calls Try.prog 61 #[.pointer (some ⟨bs, 0, none⟩), .pointer (some ⟨bq, 0, none⟩), .pointer (some ⟨bn, 0, none⟩)] w fun rr w' => rr = GaveUp 4 (((p + (1 + b.toNat) : Nat) : Int) + firstNot (r.drop b.toNat)) ∧ Frm [] w w' := by
  have hR' := hR
  obtain ⟨h1, h2, h3⟩ := hR
  have c2 : w.cell? ⟨br, 2, none⟩ = some (.int .i64 p) := by rw [cell_of_heap h1]; rfl
  clear h1
  have hb : 0 ≤ most ∧ most ≤ 255 := by simpa [isMostB] using hs'
  obtain ⟨hb1, hb2⟩ := hb
  obtain ⟨s, rfl⟩ := Int.eq_ofNat_of_zero_le hb1
  simp only [Int.toNat_natCast] at hge' hroom
  have hrl : r.length = s := by
    have := congrArg List.length hroom
    simp at this; omega
  have hfl : firstNot (r.drop b.toNat) < 1000000000000 := by
    have : firstNot (r.drop b.toNat) ≤ (r.drop b.toNat).length := by
      unfold firstNot
      split
      · rename_i i hi; obtain ⟨h, _⟩ := List.findIdx?_eq_some_iff_getElem.1 hi; omega
      · omega
    simp at this
    omega
  have hcast : (1 : Int) + (s : Int) = ((1 + s : Nat) : Int) := by omega
  obtain ⟨q, hq⟩ : ∃ q, q = 1 + s := ⟨_, rfl⟩
  obtain ⟨e, he⟩ : ∃ e, e = 1 + b.toNat := ⟨_, rfl⟩
  have HQ := Lib.hid hq
  have HE := Lib.hid he
  have HRm := Lib.hid hroom
  have HB := Lib.hid hbs
  have hqi : (1 : Int) + (s : Int) = (q : Int) := by omega
  have hei : (1 : Int) + (b.toNat : Int) = (e : Int) := by omega
  have hle : (e : Int) ≤ (q : Int) := by omega
  have hu := b.toNat_lt
  have HFN := Lib.hid hfn'
  have HFL := Lib.hid hfl
  clear hq he hroom hbs hcast hfn' hfl
  go_enter Try.func61, Try.ntmps61
  go_wp2
  refine wp_region_still_tail 6 (by kernel_rfl) (by kernel_rfl) ?_
  simp only [List.take_succ_cons, List.take_zero, List.drop_succ_cons, List.drop_zero]
  still_step
  still_call (isMost_any _ _)
  repeat still_step
  refine wpStill_nil ?_
  go_wp2_with (first | (go_at_call 57; refine (demand_yes _ _ _).mono ?_; rintro r w1 ⟨rfl, rfl⟩))
  refine (ahead_yes br v l sp p q fe fa _ (hR'.keep ((Frm.refl [] _).drewN 1) (by simp) (by simp)) hl (by rw [HQ.out]; exact hge')).mono ?_
  rintro rr w1 ⟨a', c', sp', rfl, s1, f1⟩
  rw [show List.take q (List.drop p l) = b :: r from by rw [HQ.out]; exact HRm.out] at s1
  have q1 : w1.cell? ⟨bq, 0, none⟩ = some (.pointer (some ⟨br, 0, none⟩)) := f1.cell cr (by simp)
  have q2 : w1.cell? ⟨br, 2, none⟩ = some (.int .i64 p) := f1.cell c2 (by simp)
  have hql : (b :: r).length = q := by rw [HQ.out]; simp; omega
  obtain ⟨b0, off, rfl⟩ : ∃ b0 off, a' = some ⟨b0, off, none⟩ := by
    rcases s1.cases with ⟨_, h⟩ | ⟨_, _, h⟩ | ⟨b0, off, cap, h, _⟩
    · cases h
    · cases h
    · cases h; exact ⟨b0, off, rfl⟩
  have q9 : w1.cell? ⟨b0, off, none⟩ = some (.int .u8 b.toNat) := s1.cellAt 0 (by simp)
  obtain ⟨a3, c3, hsl3, s3⟩ := slice_l BT s1 e (by rw [hql]; omega)
  obtain ⟨a4, c4, hsl4, s4⟩ := slice_lh BT s1 1 e (by rw [HE.out]; omega) (by rw [hql]; omega)
  rw [hql] at hsl3 s3
  have e3 : List.drop e (b :: r) = r.drop b.toNat := by rw [HE.out, Nat.add_comm]; rfl
  have e4 : List.take (e - 1) (List.drop 1 (b :: r)) = r.take b.toNat := by rw [HE.out, Nat.add_comm]; rfl
  rw [e3] at s3
  rw [e4] at s4
  have cv := convert_bytes BT (s4.keep (Frm.refl [] w1).drew (by simp)) Try.underlying9
  have hsl3' := fun wx => hsl3 e wx rfl
  have hsl4' := fun wx => hsl4 1 e wx rfl rfl
  have HS3 := Lib.hid s3
  have HS4 := Lib.hid s4
  clear hsl3 hsl4 s3 s4 e3 e4 hql s1
  go_wp2_with (first | (go_at_call 57; refine (demand_yes _ _ _).mono ?_; rintro r w2 ⟨rfl, rfl⟩))
  refine wp_region_still_tail 9 (by kernel_rfl) (by kernel_rfl) ?_
  simp only [List.take_succ_cons, List.take_zero, List.drop_succ_cons, List.drop_zero]
  change wpStill _ _ (World.drew _) _ _ _
  repeat still_step
  refine wpStill_nil ?_
  change wpList _ _ _ _ _ (World.drew _)
  go_wp2_with (first | (go_at_call 63; refine (dn_no _ _ _ _ _ (HS3.out.keep (Frm.refl [] w2).drew (by simp)) HFN.out (by omega) (by omega) HFL.out).mono ?_; rintro r w3 ⟨rfl, rfl⟩; unfold GaveUp))
  refine ⟨rfl, ?_, (((Frm.refl [] w).drewN 1).trans f1 (by simp)).drewN 1⟩
  have := HE.out
  rw [show ((p + (1 + b.toNat) : Nat) : Int) = (p : Int) + (e : Int) by omega]
  rfl
end Go.Proofs.Ytappmjophnhdaaa
