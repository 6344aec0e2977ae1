/-
  Contracts of a reader's Text, whatever is read; no conditions but those that each theorem names.
-/
import Derived.Test.YtappmjophnhdaaaAA
namespace Go.Proofs.Ytappmjophnhdaaa
open Go.RowKit
set_option linter.unusedVariables false
set_option linter.unusedSimpArgs false

theorem firstNot_le (l : List UInt8) : firstNot l < 0 ∨ firstNot l < l.length := by
  unfold firstNot
  split
  · rename_i i hi; obtain ⟨h, _⟩ := List.findIdx?_eq_some_iff_getElem.1 hi; omega
  · omega
set_option maxRecDepth 100000 in
set_option maxHeartbeats 2000000 in
theorem rtext_short (bs bq br bn : Nat) (v : Value) (l sp : List UInt8) (p : Nat) (fe fa most : Int) (w : World) (hR : Rd w br v l sp p fe fa) (hp : p ≤ l.length) (hl : l.length ≤ 1000000000)
    (cs : w.cell? ⟨bs, 0, none⟩ = some (.int .i64 most)) (cr : w.cell? ⟨bq, 0, none⟩ = some (.pointer (some ⟨br, 0, none⟩))) (hs' : isMostB most = true) (hge' : l.length < p + (1 + most.toNat)) :
    Calls Try.prog 61 #[.pointer (some ⟨bs, 0, none⟩), .pointer (some ⟨bq, 0, none⟩), .pointer (some ⟨bn, 0, none⟩)] w fun rr w' => rr = GaveUp 4 l.length ∧ Frm [] w w' := by
  have hR' := hR
  obtain ⟨h1, h2, h3⟩ := hR
  have c2 : w.cell? ⟨br, 2, none⟩ = some (.int .i64 p) := by rw [cell_of_heap h1]; rfl
  clear h1
  have hb : 0 ≤ most ∧ most ≤ 255 := by simpa [isMostB] using hs'
  obtain ⟨hb1, hb2⟩ := hb
  obtain ⟨s, rfl⟩ := Int.eq_ofNat_of_zero_le hb1
  simp only [Int.toNat_natCast] at hge'
  obtain ⟨q, hq⟩ : ∃ q, q = 1 + s := ⟨_, rfl⟩
  have HQ := Lib.hid hq
  have hqi : (1 : Int) + (s : Int) = (q : Int) := by omega
  clear hq
  go_enter Try.func61, Try.ntmps61
  go_wp2
  refine wp_region_still_tail 6 (by kernel_rfl) (by kernel_rfl) ?_
  simp only [List.take_succ_cons, List.take_zero, List.drop_succ_cons, List.drop_zero]
  still_step
  still_call (isMost_any _ _)
  repeat still_step
  refine wpStill_nil ?_
  go_wp2_with (first | (go_at_call 57; refine (demand_yes _ _ _).mono ?_; rintro r w1 ⟨rfl, rfl⟩))
  refine (ahead_no br v l sp p q fe fa _ (hR'.keep ((Frm.refl [] _).drewN 1) (by simp) (by simp)) hl hp (by rw [HQ.out]; exact hge')).mono ?_
  rintro rr w1 ⟨rfl, f1⟩
  unfold GaveUp
  go_wp2
  exact ⟨rfl, rfl, ((Frm.refl [] w).drewN 1).trans f1 (by simp)⟩
set_option maxRecDepth 100000 in
set_option maxHeartbeats 2000000 in
theorem rtext_most (bs bq br bn : Nat) (v : Value) (l sp : List UInt8) (p : Nat) (fe fa most : Int) (w : World) (hR : Rd w br v l sp p fe fa)
    (cs : w.cell? ⟨bs, 0, none⟩ = some (.int .i64 most)) (cr : w.cell? ⟨bq, 0, none⟩ = some (.pointer (some ⟨br, 0, none⟩))) (hs' : isMostB most = false) :
    Calls Try.prog 61 #[.pointer (some ⟨bs, 0, none⟩), .pointer (some ⟨bq, 0, none⟩), .pointer (some ⟨bn, 0, none⟩)] w fun rr w' => rr = GaveUp 2 p ∧ Frm [] w w' := by
  obtain ⟨h1, h2, h3⟩ := hR
  have c2 : w.cell? ⟨br, 2, none⟩ = some (.int .i64 p) := by rw [cell_of_heap h1]; rfl
  clear h1
  go_enter Try.func61, Try.ntmps61
  go_wp2
  refine wp_region_still_tail 6 (by kernel_rfl) (by kernel_rfl) ?_
  simp only [List.take_succ_cons, List.take_zero, List.drop_succ_cons, List.drop_zero]
  still_step
  still_call (isMost_any _ _)
  repeat still_step
  refine wpStill_nil ?_
  go_wp2_with (first | (go_at_call 57; refine (demand_no _ _ _).mono ?_; rintro r w1 ⟨rfl, rfl⟩; unfold GaveUp))
  exact ⟨rfl, rfl, (Frm.refl [] w).drewN 1⟩
set_option maxRecDepth 100000 in
set_option maxHeartbeats 2000000 in
theorem rtext_over (bs bq br bn : Nat) (v : Value) (l sp : List UInt8) (p : Nat) (fe fa most : Int) (b : UInt8) (r : List UInt8) (w : World) (hR : Rd w br v l sp p fe fa) (hp : p ≤ l.length) (hl : l.length ≤ 1000000000)
    (cs : w.cell? ⟨bs, 0, none⟩ = some (.int .i64 most)) (cr : w.cell? ⟨bq, 0, none⟩ = some (.pointer (some ⟨br, 0, none⟩))) (hs' : isMostB most = true) (hge' : p + (1 + most.toNat) ≤ l.length)
    (hroom : (l.drop p).take (1 + most.toNat) = b :: r) (hbs : most < b.toNat) :
    Calls Try.prog 61 #[.pointer (some ⟨bs, 0, none⟩), .pointer (some ⟨bq, 0, none⟩), .pointer (some ⟨bn, 0, none⟩)] w fun rr w' => rr = GaveUp 3 p ∧ Frm [] w w' := by
  have hR' := hR
  obtain ⟨h1, h2, h3⟩ := hR
  have c2 : w.cell? ⟨br, 2, none⟩ = some (.int .i64 p) := by rw [cell_of_heap h1]; rfl
  clear h1
  have hb : 0 ≤ most ∧ most ≤ 255 := by simpa [isMostB] using hs'
  obtain ⟨hb1, hb2⟩ := hb
  obtain ⟨s, rfl⟩ := Int.eq_ofNat_of_zero_le hb1
  simp only [Int.toNat_natCast] at hge' hroom
  have hrl : r.length = s := by
    have := congrArg List.length hroom
    simp at this; omega
  have hcast : (1 : Int) + (s : Int) = ((1 + s : Nat) : Int) := by omega
  obtain ⟨q, hq⟩ : ∃ q, q = 1 + s := ⟨_, rfl⟩
  obtain ⟨e, he⟩ : ∃ e, e = 1 + b.toNat := ⟨_, rfl⟩
  have HQ := Lib.hid hq
  have HE := Lib.hid he
  have HRm := Lib.hid hroom
  have hqi : (1 : Int) + (s : Int) = (q : Int) := by omega
  have hei : (1 : Int) + (b.toNat : Int) = (e : Int) := by omega
  have hle : ¬ (e : Int) ≤ (q : Int) := by omega
  have hd : decide ((e : Int) ≤ (q : Int)) = false := by simpa using hle
  have hd2 : decide (e ≤ q) = false := by simp; omega
  have hu := b.toNat_lt
  clear hq he hroom hbs hcast hle
  go_enter Try.func61, Try.ntmps61
  go_wp2
  refine wp_region_still_tail 6 (by kernel_rfl) (by kernel_rfl) ?_
  simp only [List.take_succ_cons, List.take_zero, List.drop_succ_cons, List.drop_zero]
  still_step
  still_call (isMost_any _ _)
  repeat still_step
  refine wpStill_nil ?_
  go_wp2_with (first | (go_at_call 57; refine (demand_yes _ _ _).mono ?_; rintro r w1 ⟨rfl, rfl⟩))
  refine (ahead_yes br v l sp p q fe fa _ (hR'.keep ((Frm.refl [] _).drewN 1) (by simp) (by simp)) hl (by rw [HQ.out]; exact hge')).mono ?_
  rintro rr w1 ⟨a', c', sp', rfl, s1, f1⟩
  rw [show List.take q (List.drop p l) = b :: r from by rw [HQ.out]; exact HRm.out] at s1
  have q1 : w1.cell? ⟨bq, 0, none⟩ = some (.pointer (some ⟨br, 0, none⟩)) := f1.cell cr (by simp)
  have q2 : w1.cell? ⟨br, 2, none⟩ = some (.int .i64 p) := f1.cell c2 (by simp)
  obtain ⟨b0, off, rfl⟩ : ∃ b0 off, a' = some ⟨b0, off, none⟩ := by
    rcases s1.cases with ⟨_, h⟩ | ⟨_, _, h⟩ | ⟨b0, off, cap, h, _⟩
    · cases h
    · cases h
    · cases h; exact ⟨b0, off, rfl⟩
  have q9 : w1.cell? ⟨b0, off, none⟩ = some (.int .u8 b.toNat) := s1.cellAt 0 (by simp)
  clear s1
  go_wp2_with fail
  refine (demand_no _ _ _).mono ?_
  rintro r w2 ⟨rfl, rfl⟩
  unfold GaveUp
  go_wp2
  exact ⟨rfl, rfl, ((Frm.refl [] w).drewN 1).trans f1 (by simp)⟩
theorem rtext_fault (bs bq br bn : Nat) (v : Value) (l sp : List UInt8) (p : Nat) (fe fa most e a : Int) (w : World) (hR : Rd w br v l sp p fe fa) (hp : p ≤ l.length) (hl : l.length ≤ 1000000000)
    (cs : w.cell? ⟨bs, 0, none⟩ = some (.int .i64 most)) (cr : w.cell? ⟨bq, 0, none⟩ = some (.pointer (some ⟨br, 0, none⟩))) (hx : textRead l p most = .inl (e, a)) :
    Calls Try.prog 61 #[.pointer (some ⟨bs, 0, none⟩), .pointer (some ⟨bq, 0, none⟩), .pointer (some ⟨bn, 0, none⟩)] w fun rr w' => rr = GaveUp e a ∧ Frm [] w w' := by
  unfold textRead at hx
  split at hx
  · rename_i hs
    cases hx
    exact rtext_most bs bq br bn v l sp p fe fa most w hR cs cr hs
  · rename_i hs
    have hs' : isMostB most = true := by simpa using hs
    split at hx
    · rename_i hlt
      cases hx
      exact rtext_short bs bq br bn v l sp p fe fa most w hR hp hl cs cr hs' hlt
    · rename_i hge
      split at hx
      · rename_i h0
        have := congrArg List.length h0
        simp at this; omega
      · rename_i b r hroom
        split at hx
        · rename_i hb
          cases hx
          exact rtext_over bs bq br bn v l sp p fe fa most b r w hR hp hl cs cr hs' (by omega) hroom hb
        · rename_i hb
          split at hx
          · rename_i hf
            cases hx
            have := rtext_noughts bs bq br bn v l sp p fe fa most b r w hR hp hl cs cr hs' (by omega) hroom hb hf
            rw [show ((p + 1 + b.toNat : Nat) : Int) = ((p + (1 + b.toNat) : Nat) : Int) by omega]
            exact this
          · cases hx
/-- A text that is read, and the reader's place and fault behind it. -/
def rText (l : List UInt8) (s : Nat × Int × Int) (most : Int) : List UInt8 × (Nat × Int × Int) := stepR s [] (textRead l s.1 most) (1 + most.toNat)
theorem empty_bytes : (⟨([] : List UInt8).toArray⟩ : ByteArray) = ByteArray.empty := rfl
set_option maxHeartbeats 2000000 in
theorem RTextR_any (br : Nat) (v : Value) (l sp : List UInt8) (s : Nat × Int × Int) (most : Int) (w : World) (hR : Rd w br v l sp s.1 s.2.1 s.2.2) (hp : s.1 ≤ l.length) (hl : l.length ≤ 1000000000) :
    Calls Try.prog 31 #[.pointer (some ⟨br, 0, none⟩), .int .i64 most] w fun r w' => r = .returned (.string ⟨(rText l s most).1.toArray⟩) ∧ RdTo w br v l sp (rText l s most).2 w' := by
  obtain ⟨p, fe, fa⟩ := s
  simp only at hR hp
  have hlt := hR.lt
  have f3 : ∀ a b c, Frm [] w (((w.alloc a).alloc b).alloc c) := fun a b c => (((Frm.refl [] w).alloc _).alloc _).alloc _
  have hblt := hlt br (by simp)
  have HL := Lib.hid hlt
  have HF := Lib.hid f3
  clear hlt f3
  by_cases hfe : fe = 0
  · subst hfe
    cases hx : textRead l p most with
    | inl f =>
      obtain ⟨e, a⟩ := f
      have hr : rText l (p, 0, fa) most = ([], p, e, a) := by simp [rText, stepR, hx]
      rw [hr, empty_bytes]
      have HX := Lib.hid hx
      clear hr hx
      go_enter Try.func31, Try.ntmps31
      go_wp2_with fail
      refine (uf_gave 61 _ br v l sp p fa e a _ (hR.keep (HF.out _ _ _) (by simp) (by simp)) (fun w => enter_of Try.func61 (by kernel_rfl) (by kernel_rfl) _ w) (fun w1 f1 => ?_)).mono ?_
      · refine rtext_fault _ _ br _ v l sp p 0 fa most e a w1 (hR.keep ((HF.out _ _ _).trans f1 (by simp)) (by simp) (by simp)) hp hl (f1.cell ?_ (by simp)) (f1.cell ?_ (by simp)) HX.out
        all_goals first | (simp [go_sem]; done) | (simp; done) | (simp; omega) | omega
      · rintro r w2 ⟨rfl, h1, h2⟩
        have q0 : w2.cell? ⟨w.heap.size + 1 + 1, 0, none⟩ = some (.string ByteArray.empty) := h2.cell (by simp [go_sem]; rfl) (by simp; omega)
        go_wp2
        go_ret
        exact ⟨rfl, h1, ((HF.out _ _ _).mono (by simp)).trans h2 (by simp)⟩
    | inr m =>
      have hr : rText l (p, 0, fa) most = (m, p + (1 + most.toNat), (0 : Int), fa) := by simp [rText, stepR, hx]
      rw [hr]
      exact (RTextR_ok br v l sp p fa most m w hR hp hl hx)
  · have hr : rText l (p, fe, fa) most = ([], p, fe, fa) := by simp [rText, stepR, hfe]
    rw [hr, empty_bytes]
    clear hr
    go_enter Try.func31, Try.ntmps31
    go_wp2_with fail
    refine (uf_fault _ br v l sp p fe fa _ (hR.keep (HF.out _ _ _) (by simp) (by simp)) hfe).mono ?_
    rintro r w2 ⟨rfl, h2⟩
    have q0 : w2.cell? ⟨w.heap.size + 1 + 1, 0, none⟩ = some (.string ByteArray.empty) := h2.cell (by simp [go_sem]; rfl) (by simp)
    go_wp2
    go_ret
    exact ⟨rfl, hR.keep ((HF.out _ _ _).trans h2 (by simp)) (by simp) (by simp), ((HF.out _ _ _).mono (by simp)).trans h2 (by simp)⟩
end Go.Proofs.Ytappmjophnhdaaa
