/-
  Contracts of isSize, isMost and of the closure of a writer's Num; no conditions but those that each theorem names.
-/
import Derived.Test.YtappmjophnhdaaaB
import Derived.Deep.RegionHeld3
namespace Go.Proofs.Ytappmjophnhdaaa
open Go.RowKit
set_option linter.unusedVariables false
set_option linter.unusedSimpArgs false

def isSizeB (n : Int) : Bool := decide (1 ≤ n) && decide (n ≤ 7)
theorem isSize_any (n : Int) (w : World) :
    Calls Try.prog 58 #[.int .i64 n] w fun e w' => e = .returned (.bool (isSizeB n)) ∧ w' = w := by
  by_cases h1 : 1 ≤ n
  · have hb : isSizeB n = decide (n ≤ 7) := by simp [isSizeB, h1]
    rw [hb]; clear hb
    go_enter Try.func58, Try.ntmps58
    go_wp2
    go_ret
    exact ⟨rfl, rfl⟩
  · have hb : isSizeB n = false := by simp [isSizeB, h1]
    rw [hb]; clear hb
    go_enter Try.func58, Try.ntmps58
    go_wp2
    go_ret
    exact ⟨rfl, rfl⟩
def isMostB (n : Int) : Bool := decide (0 ≤ n) && decide (n ≤ 255)
theorem isMost_any (n : Int) (w : World) :
    Calls Try.prog 62 #[.int .i64 n] w fun e w' => e = .returned (.bool (isMostB n)) ∧ w' = w := by
  by_cases h1 : 0 ≤ n
  · have hb : isMostB n = decide (n ≤ 255) := by simp [isMostB, h1]
    rw [hb]; clear hb
    go_enter Try.func62, Try.ntmps62
    go_wp2
    go_ret
    exact ⟨rfl, rfl⟩
  · have hb : isMostB n = false := by simp [isMostB, h1]
    rw [hb]; clear hb
    go_enter Try.func62, Try.ntmps62
    go_wp2
    go_ret
    exact ⟨rfl, rfl⟩

/-- What is written behind bytes: the bytes then, and the error. -/
def addStep (l m : List UInt8) : List UInt8 × Int := if l.length + m.length ≤ 65536 then (l ++ m, 0) else (l, 3)
def numStep (l : List UInt8) (n size : Int) : List UInt8 × Int :=
  if isSizeB size = false then (l, 2) else if n < 0 ∨ 2 ^ (8 * size.toNat) ≤ n then (l, 5) else addStep l (beBytes n.toNat size.toNat)
theorem add_any (bw : Nat) (v x : Value) (l sp m msp : List UInt8) (e : Int) (w : World) (hW : Wr w bw v l sp e) (hS : SlB w x m msp) (hl : l.length ≤ 65536) :
    Calls Try.prog 68 #[.pointer (some ⟨bw, 0, none⟩), x] w fun r w' => r = .returned (.int .i64 (addStep l m).2) ∧ WrTo w bw v (addStep l m).1 e w' := by
  unfold addStep
  split
  · exact add_fits bw v x l sp m msp e w hW hS ‹_›
  · exact (add_long bw v x l sp m msp e w hW hS (by omega) hl).mono fun r w' ⟨h1, h2⟩ => ⟨h1, by subst h2; exact WrTo.same hW⟩
theorem WrTo.cell {w w' : World} {bw : Nat} {v : Value} {l : List UInt8} {e : Int} (h : WrTo w bw v l e w') {p : Addr} {x : Value} (hc : w.cell? p = some x) (hn : p.block ∉ bw :: blk v) : w'.cell? p = some x := by
  obtain ⟨v', sp', _, f, _⟩ := h
  exact f.cell hc hn
/-- A writer behind two steps, the first of which wrote nothing that was there. -/
theorem WrTo.behind {w w1 w' : World} {bw : Nat} {v : Value} {l : List UInt8} {e : Int} (f : Frm [] w w1) (h : WrTo w1 bw v l e w') : WrTo w bw v l e w' := by
  obtain ⟨v', sp', h1, h2, h3⟩ := h
  exact ⟨v', sp', h1, (f.mono (by simp)).trans h2 (fun i hi => .inl hi), fun i hi => (h3 i hi).imp id (fun h => Nat.le_trans f.size h)⟩
set_option maxHeartbeats 1000000 in
theorem num1_any (bn bs bp bw : Nat) (v : Value) (l sp : List UInt8) (e n size : Int) (w : World) (hW : Wr w bw v l sp e) (hl : l.length ≤ 65536)
    (c1 : w.cell? ⟨bs, 0, none⟩ = some (.int .i64 size)) (c2 : w.cell? ⟨bn, 0, none⟩ = some (.int .i64 n)) (c3 : w.cell? ⟨bp, 0, none⟩ = some (.pointer (some ⟨bw, 0, none⟩))) (hn : n ≤ 9223372036854775807)
    (d1 : bs ∉ bw :: blk v) (d2 : bn ∉ bw :: blk v) (d3 : bp ∉ bw :: blk v) :
    Calls Try.prog 69 #[.pointer (some ⟨bs, 0, none⟩), .pointer (some ⟨bn, 0, none⟩), .pointer (some ⟨bp, 0, none⟩)] w fun r w' =>
      r = .returned (.int .i64 (numStep l n size).2) ∧ WrTo w bw v (numStep l n size).1 e w' := by
  by_cases hs : isSizeB size = false
  · have hr : numStep l n size = (l, 2) := by simp [numStep, hs]
    rw [hr]
    have hw := WrTo.same hW
    clear hr
    go_enter Try.func69, Try.ntmps69
    go_wp2_with (go_at_call 58; refine (isSize_any _ _).mono ?_; rintro e w' ⟨rfl, rfl⟩)
    go_ret
    exact ⟨rfl, hw⟩
  · have hs' : isSizeB size = true := by simpa using hs
    have hb : 1 ≤ size ∧ size ≤ 7 := by simpa [isSizeB] using hs'
    obtain ⟨hb1, hb2⟩ := hb
    clear hs
    obtain ⟨s, rfl⟩ := Int.eq_ofNat_of_zero_le (show 0 ≤ size by omega)
    by_cases h0 : n < 0
    · have hr : numStep l n s = (l, 5) := by simp [numStep, hs', h0]
      rw [hr]
      have hw := WrTo.same hW
      clear hr
      go_enter Try.func69, Try.ntmps69
      go_wp2_with (go_at_call 58; refine (isSize_any _ _).mono ?_; rintro e w' ⟨rfl, rfl⟩)
      go_ret
      exact ⟨rfl, hw⟩
    · obtain ⟨k, rfl⟩ := Int.eq_ofNat_of_zero_le (show 0 ≤ n by omega)
      clear h0
      by_cases hk : 2 ^ (8 * s) ≤ k
      · have hr : numStep l k s = (l, 5) := by
          have : (2 : Int) ^ (8 * s) ≤ k := by exact_mod_cast hk
          simp [numStep, hs', this]
        rw [hr]
        have hw := WrTo.same hW
        have hq : 0 < (k : Int) / 2 ^ (8 * s) := by
          have : 0 < k / 2 ^ (8 * s) := Nat.div_pos hk (Nat.two_pow_pos _)
          exact_mod_cast this
        clear hr hk
        go_enter Try.func69, Try.ntmps69
        go_wp2_with (go_at_call 58; refine (isSize_any _ _).mono ?_; rintro e w' ⟨rfl, rfl⟩)
        go_ret
        exact ⟨rfl, hw⟩
      · have hr : numStep l k s = addStep l (beBytes k s) := by
          have : ¬ (2 : Int) ^ (8 * s) ≤ k := by exact_mod_cast hk
          have h00 : ¬ (k : Int) < 0 := by omega
          simp [numStep, hs', this, h00]
        rw [hr]
        have hq : (k : Int) / 2 ^ (8 * s) ≤ 0 := by
          have : k / 2 ^ (8 * s) = 0 := Nat.div_eq_of_lt (by omega)
          exact_mod_cast Nat.le_of_eq this
        clear hr
        have hk2 : k < 2 ^ (8 * s) := by omega
        clear hk
        go_enter Try.func69, Try.ntmps69
        go_wp2_with (go_at_call 58; refine (isSize_any _ _).mono ?_; rintro e w' ⟨rfl, rfl⟩)
        go_region_held3 (fun x => x.cell? ⟨bs, 0, none⟩ = some (.int .i64 s) ∧ x.cell? ⟨bn, 0, none⟩ = some (.int .i64 k) ∧ x.cell? ⟨bp, 0, none⟩ = some (.pointer (some ⟨bw, 0, none⟩)))
          (first | go_keep | (go_split_ands; exact ⟨f1.cell ‹_› (by simp), f1.cell ‹_› (by simp), f1.cell ‹_› (by simp)⟩) | (go_split_ands; exact ⟨f2.cell ‹_› d1, f2.cell ‹_› d2, f2.cell ‹_› d3⟩))
          (first | (go_at_call 70; refine (nab_any k s _ (by omega) (by omega) hk2).mono ?_; rintro r w1 ⟨rfl, o1, f1⟩) | (go_at_call 68; refine (add_any bw v _ l sp _ [] e _ (hW.keep ((Frm.refl [] _).drew.trans f1 (by simp)) (by simp) (by simp)) o1.sl hl).mono ?_; rintro r w2 ⟨rfl, f2⟩))
        go_wp2
        go_ret
        exact ⟨rfl, f2.behind ((Frm.refl [] _).drew.trans f1 (by simp))⟩
end Go.Proofs.Ytappmjophnhdaaa
