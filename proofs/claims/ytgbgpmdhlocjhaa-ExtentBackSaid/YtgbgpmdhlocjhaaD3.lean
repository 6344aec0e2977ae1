/-
  Contract of rotateCmpFunc at rows of edges. No conditions but those that each theorem names.
-/
import Derived.Test.YtgbgpmdhlocjhaaD2
namespace Go.Proofs.Ytgbgpmdhlocjhaa
open Go.RowKit Go.Sort
set_option linter.unusedVariables false
set_option linter.unusedSimpArgs false
set_option maxRecDepth 100000

theorem swr_perm (d : Array Ed) (a0 b0 a b : Nat) : ∀ n, a0 ≤ a → a + n ≤ b → b + n ≤ b0 → b0 ≤ d.size → PermIn a0 b0 d (swr d a b n)
  | 0, _, _, _, _ => permIn_refl _ _ _
  | n + 1, h1, h2, h3, h4 => permIn_trans _ _ _ _ _ (swr_perm d a0 b0 a b n h1 (by omega) (by omega) h4) (swp_permIn _ a0 b0 _ _ (by omega) (by omega) (by omega) (by omega) (by rw [swr_size]; exact h4))
/-- [a, m) and [m, b) change places. -/
def rotF (f : Nat → Ed) (a m b x : Nat) : Ed := if a ≤ x ∧ x < a + (b - m) then f (x + (m - a)) else if a + (b - m) ≤ x ∧ x < b then f (x - (b - m)) else f x
def at' (d : Array Ed) (x : Nat) : Ed := d[x]!
theorem rot_gt (d : Array Ed) (m i j : Nat) (hi : i ≤ m) (hj : 0 < j) (hij : j < i) (hs : m + j ≤ d.size) (x : Nat) : rotF (at' (swr d (m - i) m j)) (m - (i - j)) m (m + j) x = rotF (at' d) (m - i) m (m + j) x := by
  have g := swr_get d (m - i) m j (by omega) (by omega)
  unfold rotF at'
  by_cases h1 : m - i ≤ x ∧ x < m - i + (m + j - m)
  · rw [if_pos h1, if_neg (by omega), if_neg (by omega), g, if_pos (by omega)]
    first | rfl | (congr 1; omega)
  · rw [if_neg h1]
    by_cases h2 : m - i + (m + j - m) ≤ x ∧ x < m + j
    · rw [if_pos h2]
      by_cases h3 : m - (i - j) ≤ x ∧ x < m - (i - j) + (m + j - m)
      · rw [if_pos h3, g]
        by_cases h4 : m ≤ x + (m - (m - (i - j)))
        · rw [if_neg (by omega), if_pos (by omega)]
          first | rfl | (congr 1; omega)
        · rw [if_neg (by omega), if_neg (by omega)]
          first | rfl | (congr 1; omega)
      · rw [if_neg h3, if_pos (by omega), g, if_neg (by omega)]
        by_cases h4 : m ≤ x - (m + j - m)
        · omega
        · rw [if_neg (by omega)]
    · rw [if_neg h2, if_neg (by omega), if_neg (by omega), g, if_neg (by omega), if_neg (by omega)]
theorem rot_lt (d : Array Ed) (m i j : Nat) (hi : i ≤ m) (hi0 : 0 < i) (hij : i < j) (hs : m + j ≤ d.size) (x : Nat) : rotF (at' (swr d (m - i) (m + j - i) i)) (m - i) m (m + (j - i)) x = rotF (at' d) (m - i) m (m + j) x := by
  have g := swr_get d (m - i) (m + j - i) i (by omega) (by omega)
  unfold rotF at'
  by_cases h1 : m - i ≤ x ∧ x < m - i + (m + (j - i) - m)
  · rw [if_pos h1, if_pos (by omega), g, if_neg (by omega)]
    rw [if_neg (by omega)]
    skip
  · rw [if_neg h1]
    by_cases h2 : m - i + (m + (j - i) - m) ≤ x ∧ x < m + (j - i)
    · rw [if_pos h2, g, if_pos (by omega), if_pos (by omega)]
      first | rfl | (congr 1; omega)
    · rw [if_neg h2, g, if_neg (by omega)]
      by_cases h3 : m + j - i ≤ x ∧ x < m + j - i + i
      · rw [if_pos h3, if_neg (by omega), if_pos (by omega)]
        first | rfl | (congr 1; omega)
      · rw [if_neg h3, if_neg (by omega), if_neg (by omega)]
theorem rot_eq (d : Array Ed) (m i : Nat) (hi : i ≤ m) (hs : m + i ≤ d.size) (x : Nat) : (swr d (m - i) m i)[x]! = rotF (at' d) (m - i) m (m + i) x := by
  rw [swr_get d (m - i) m i (by omega) (by omega)]
  unfold rotF at'
  have ei : m + i - m = i := by omega
  rw [ei]
  by_cases h1 : m - i ≤ x ∧ x < m - i + i
  · rw [if_pos h1, if_pos h1]
    congr 1; omega
  · rw [if_neg h1, if_neg h1]
    by_cases h2 : m ≤ x ∧ x < m + i
    · rw [if_pos h2, if_pos (by omega)]
      congr 1; omega
    · rw [if_neg h2, if_neg (by omega)]
def RotRel (w0 : World) (g a m b : Nat) (dk : Array Ed) (iv jv : Value) (wr : World) : Prop := ∃ (i j : Nat) (d : Array Ed), iv = .int .i64 i ∧ jv = .int .i64 j ∧ 0 < i ∧ 0 < j ∧ a + i ≤ m ∧ m + j ≤ b ∧ d.size = dk.size ∧ SW w0 g d wr ∧ PermIn a b dk d ∧ ∀ x, rotF (at' d) (m - i) m (m + j) x = rotF (at' dk) a m b x
set_option maxHeartbeats 4000000 in
theorem rotate_any (w0 : World) (g n0 cap a m b : Nat) (dk d0 : Array Ed) (W : World) (cmp : Value) (h : SW w0 g dk W) (R : Row0 w0 g d0) (hs : dk.size = d0.size) (hn0 : n0 = dk.size) (h1 : a < m) (h2 : m < b) (h3 : b ≤ dk.size) (h4 : dk.size ≤ 1000000) :
    Calls Try.prog 60 #[.slice (some ⟨g, 0, none⟩) n0 cap, .int .i64 a, .int .i64 m, .int .i64 b, cmp] W fun e W' => e = .returned (.tuple #[]) ∧ ∃ d, d.size = dk.size ∧ SW w0 g d W' ∧ PermIn a b dk d ∧ ∀ x, d[x]! = rotF (at' dk) a m b x := by
  have hsz9 : (dk.size : Int) ≤ 1000000 := by omega
  have e1 : (m : Int) - (a : Int) = ((m - a : Nat) : Int) := by omega
  have e2 : (b : Int) - (m : Int) = ((b - m : Nat) : Int) := by omega
  have w1 : IntKind.i64.wrap ((m : Int) - (a : Int)) = ((m - a : Nat) : Int) := by rw [IntWalk.i64_in _ (by omega)]; exact e1
  have w2 : IntKind.i64.wrap ((b : Int) - (m : Int)) = ((b - m : Nat) : Int) := by rw [IntWalk.i64_in _ (by omega)]; exact e2
  have S := Lib.hid h
  have RR := Lib.hid R
  have HS := Lib.hid hs
  have HN := Lib.hid hn0
  have HB := Lib.hid (show a < m ∧ m < b ∧ b ≤ dk.size ∧ dk.size ≤ 1000000 from ⟨h1, h2, h3, h4⟩)
  clear h R hs hn0 h1 h2 h3 h4 e1 e2 hsz9
  go_enter Try.func60, Try.ntmps60
  go_wp2_with fail
  clear w1 w2
  go_loopw [10, 11] (RotRel w0 g a m b dk) (fun iv jv _ => (intOf iv).toNat + (intOf jv).toNat)
  case atStart =>
    have hb := HB.out
    exact ⟨m - a, b - m, dk, rfl, rfl, by omega, by omega, by omega, by omega, rfl, S.out, permIn_refl _ _ _, fun x => by rw [show m - (m - a) = a by omega, show m + (b - m) = b by omega]⟩
  case round =>
    obtain ⟨i, j, d, rfl, rfl, hi, hj, hai, hmj, hds, hsw, hp, hx⟩ := hrel
    have hb := HB.out
    have HSW := Lib.hid hsw
    have HP := Lib.hid hp
    have HX := Lib.hid hx
    have HDS := Lib.hid hds
    have e3 : IntKind.i64.wrap ((m : Int) - (i : Int)) = ((m - i : Nat) : Int) := by rw [IntWalk.i64_in _ (by omega)]; omega
    clear hsw hp hx
    rcases Nat.lt_trichotomy i j with hij | hij | hij
    · have hne : ((i : Int) == (j : Int)) = false := by simp; omega
      have hng : ¬ (j : Int) < (i : Int) := by omega
      have e4 : IntKind.i64.wrap ((m : Int) + (j : Int) - (i : Int)) = ((m + j - i : Nat) : Int) := by rw [IntWalk.i64_in _ (by omega)]; omega
      have e4' : IntKind.i64.wrap ((m : Int) + (j : Int)) = (m : Int) + (j : Int) := IntWalk.i64_in _ (by omega)
      have e5 : IntKind.i64.wrap ((j : Int) - (i : Int)) = ((j - i : Nat) : Int) := by rw [IntWalk.i64_in _ (by omega)]; omega
      have HSR := Lib.hid (swapRange_any w0 g n0 cap (m - i) (m + j - i) i d d0 wr cmp HSW.out RR.out (by rw [hds]; exact HS.out) (by rw [hds]; exact HN.out) (by omega) (by omega) (by omega))
      have HFIN := Lib.hid (show ∀ W', SW w0 g (swr d (m - i) (m + j - i) i) W' → RotRel w0 g a m b dk (.int .i64 (i : Int)) (.int .i64 ((j - i : Nat) : Int)) W' from fun W' q =>
        ⟨i, j - i, _, rfl, rfl, hi, by omega, hai, by omega, by rw [swr_size, hds], q, permIn_trans _ _ _ _ _ HP.out (swr_perm _ _ _ _ _ _ (by omega) (by omega) (by omega) (by omega)), fun x => by rw [rot_lt d m i j (by omega) hi hij (by omega)]; exact HX.out x⟩)
      have HI := Lib.hid (And.intro hi hij)
      clear hds hb hi hj hai hmj
      go_wp2_with (go_at_call 61; refine (HSR.out).mono ?_; rintro e W2 ⟨rfl, s2⟩)
      go_roundw
      case rel => exact HFIN.out _ s2
      case measure => have := HI.out; simp [intOf]; omega
    · subst hij
      have hne : ((i : Int) == (i : Int)) = true := by simp
      have HSR := Lib.hid (swapRange_any w0 g n0 cap (m - i) m i d d0 wr cmp HSW.out RR.out (by rw [hds]; exact HS.out) (by rw [hds]; exact HN.out) (by omega) (by omega) (by omega))
      have HFIN := Lib.hid (show ∀ W', SW w0 g (swr d (m - i) m i) W' → ∃ d', d'.size = dk.size ∧ SW w0 g d' W' ∧ PermIn a b dk d' ∧ ∀ x, d'[x]! = rotF (at' dk) a m b x from fun W' q =>
        ⟨_, by rw [swr_size, hds], q, permIn_trans _ _ _ _ _ HP.out (swr_perm _ _ _ _ _ _ (by omega) (by omega) (by omega) (by omega)), fun x => by rw [rot_eq d m i (by omega) (by omega)]; exact HX.out x⟩)
      clear hds hb hi hj hai hmj
      go_wp2_with (go_at_call 61; refine (HSR.out).mono ?_; rintro e W2 ⟨rfl, s2⟩)
      go_end0
      exact ⟨rfl, HFIN.out _ s2⟩
    · have hne : ((i : Int) == (j : Int)) = false := by simp; omega
      have hng : (j : Int) < (i : Int) := by omega
      have e5 : IntKind.i64.wrap ((i : Int) - (j : Int)) = ((i - j : Nat) : Int) := by rw [IntWalk.i64_in _ (by omega)]; omega
      have HSR := Lib.hid (swapRange_any w0 g n0 cap (m - i) m j d d0 wr cmp HSW.out RR.out (by rw [hds]; exact HS.out) (by rw [hds]; exact HN.out) (by omega) (by omega) (by omega))
      have HFIN := Lib.hid (show ∀ W', SW w0 g (swr d (m - i) m j) W' → RotRel w0 g a m b dk (.int .i64 ((i - j : Nat) : Int)) (.int .i64 (j : Int)) W' from fun W' q =>
        ⟨i - j, j, _, rfl, rfl, by omega, hj, by omega, hmj, by rw [swr_size, hds], q, permIn_trans _ _ _ _ _ HP.out (swr_perm _ _ _ _ _ _ (by omega) (by omega) (by omega) (by omega)), fun x => by rw [rot_gt d m i j (by omega) hj hij (by omega)]; exact HX.out x⟩)
      have HI := Lib.hid (And.intro hj hij)
      clear hds hb hi hj hai hmj
      go_wp2_with (go_at_call 61; refine (HSR.out).mono ?_; rintro e W2 ⟨rfl, s2⟩)
      go_roundw
      case rel => exact HFIN.out _ s2
      case measure => have := HI.out; simp [intOf]; omega
end Go.Proofs.Ytgbgpmdhlocjhaa
