/-
  Contracts of the closures of a writer's Text and Raw; no conditions but those that each theorem names.
-/
import Derived.Test.YtappmjophnhdaaaC
import Derived.IntWalk
namespace Go.Proofs.Ytappmjophnhdaaa
open Go.RowKit
set_option linter.unusedVariables false
set_option linter.unusedSimpArgs false

def textStep (l s : List UInt8) (most : Int) : List UInt8 × Int :=
  if isMostB most = false then (l, 2) else if most < s.length then (l, 3) else addStep l (textBytes s most.toNat)
set_option maxHeartbeats 1000000 in
theorem text1_any (bs bt bp bw : Nat) (v : Value) (l sp : List UInt8) (e most : Int) (s : ByteArray) (w : World) (hW : Wr w bw v l sp e) (hl : l.length ≤ 65536)
    (c1 : w.cell? ⟨bs, 0, none⟩ = some (.int .i64 most)) (c2 : w.cell? ⟨bt, 0, none⟩ = some (.string s)) (c3 : w.cell? ⟨bp, 0, none⟩ = some (.pointer (some ⟨bw, 0, none⟩)))
    (d1 : bs ∉ bw :: blk v) (d2 : bt ∉ bw :: blk v) (d3 : bp ∉ bw :: blk v) :
    Calls Try.prog 71 #[.pointer (some ⟨bs, 0, none⟩), .pointer (some ⟨bt, 0, none⟩), .pointer (some ⟨bp, 0, none⟩)] w fun r w' =>
      r = .returned (.int .i64 (textStep l s.data.toList most).2) ∧ WrTo w bw v (textStep l s.data.toList most).1 e w' := by
  have hsz : s.size = s.data.toList.length := rfl
  by_cases hs : isMostB most = false
  · have hr : textStep l s.data.toList most = (l, 2) := by simp [textStep, hs]
    rw [hr]
    have hw := WrTo.same hW
    clear hr
    go_enter Try.func71, Try.ntmps71
    go_wp2_with (go_at_call 62; refine (isMost_any _ _).mono ?_; rintro e w' ⟨rfl, rfl⟩)
    go_ret
    exact ⟨rfl, hw⟩
  · have hs' : isMostB most = true := by simpa using hs
    have hb : 0 ≤ most ∧ most ≤ 255 := by simpa [isMostB] using hs'
    obtain ⟨hb1, hb2⟩ := hb
    clear hs
    obtain ⟨k, rfl⟩ := Int.eq_ofNat_of_zero_le hb1
    by_cases h0 : k < s.size
    · have hr : textStep l s.data.toList k = (l, 3) := by unfold textStep; rw [if_neg (by simp [hs']), if_pos (by omega)]
      rw [hr]
      have hw := WrTo.same hW
      have hq : (k : Int) < (s.size : Int) := by omega
      clear hr hsz h0
      go_enter Try.func71, Try.ntmps71
      go_wp2_with (go_at_call 62; refine (isMost_any _ _).mono ?_; rintro e w' ⟨rfl, rfl⟩)
      go_ret
      exact ⟨rfl, hw⟩
    · have hr : textStep l s.data.toList k = addStep l (textBytes s.data.toList k) := by unfold textStep; rw [if_neg (by simp [hs']), if_neg (by omega)]; rfl
      rw [hr]
      have hq : ¬ (k : Int) < (s.size : Int) := by omega
      have hle : s.data.toList.length ≤ k := by rw [← hsz]; omega
      have HL := Lib.hid hle
      clear hr hsz h0 hle
      go_enter Try.func71, Try.ntmps71
      go_wp2_with (go_at_call 62; refine (isMost_any _ _).mono ?_; rintro e w' ⟨rfl, rfl⟩)
      go_region_held3 (fun x => x.cell? ⟨bs, 0, none⟩ = some (.int .i64 k) ∧ x.cell? ⟨bt, 0, none⟩ = some (.string s) ∧ x.cell? ⟨bp, 0, none⟩ = some (.pointer (some ⟨bw, 0, none⟩)))
        (first | go_keep | (go_split_ands; exact ⟨f1.cell ‹_› (by simp), f1.cell ‹_› (by simp), f1.cell ‹_› (by simp)⟩) | (go_split_ands; exact ⟨f2.cell ‹_› d1, f2.cell ‹_› d2, f2.cell ‹_› d3⟩))
        (first | (go_at_call 72; refine (tab_any s k _ HL.out (by omega)).mono ?_; rintro r w1 ⟨rfl, o1, f1⟩) | (go_at_call 68; refine (add_any bw v _ l sp _ [] e _ (hW.keep ((Frm.refl [] _).drew.trans f1 (by simp)) (by simp) (by simp)) o1.sl hl).mono ?_; rintro r w2 ⟨rfl, f2⟩))
      go_wp2
      go_ret
      exact ⟨rfl, f2.behind ((Frm.refl [] _).drew.trans f1 (by simp))⟩

theorem raw1_any (bp bb bw : Nat) (v x : Value) (l sp m msp : List UInt8) (e : Int) (w : World) (hW : Wr w bw v l sp e) (hS : SlB w x m msp) (hl : l.length ≤ 65536)
    (c1 : w.cell? ⟨bb, 0, none⟩ = some x) (c3 : w.cell? ⟨bp, 0, none⟩ = some (.pointer (some ⟨bw, 0, none⟩))) :
    Calls Try.prog 73 #[.pointer (some ⟨bp, 0, none⟩), .pointer (some ⟨bb, 0, none⟩)] w fun r w' =>
      r = .returned (.int .i64 (addStep l m).2) ∧ WrTo w bw v (addStep l m).1 e w' := by
  obtain ⟨a, cap, rfl, _, _⟩ := hS.form
  go_enter Try.func73, Try.ntmps73
  go_wp2_with (go_at_call 68; refine (add_any bw v _ l sp _ _ e _ hW hS hl).mono ?_; rintro r w2 ⟨rfl, f2⟩)
  go_ret
  exact ⟨rfl, f2⟩

theorem WrTo.drewN {w w' : World} {bw : Nat} {v : Value} {l : List UInt8} {e : Int} (h : WrTo w bw v l e w') (n : Nat) : WrTo w bw v l e (w'.drewN n) := by
  obtain ⟨v', sp', h1, h2, h3⟩ := h
  exact ⟨v', sp', h1.keep ((Frm.refl [] _).drewN n) (by simp) (by simp), h2.drewN n, h3⟩
end Go.Proofs.Ytappmjophnhdaaa
