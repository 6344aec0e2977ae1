/-
  Contracts of splits, awake, NamesKnown. No conditions but those that each theorem names.
-/
import Derived.Test.YtnpjgccannebpaaN6
namespace Go.Proofs.Ytnpjgccannebpaa
open Go.RowKit
set_option linter.unusedVariables false
set_option linter.unusedSimpArgs false
set_option maxRecDepth 100000

def splitsB (s v p : ByteArray) (want : Bool) : Bool := ((spl1 s).toList == v.toList && (spl2 s).toList == p.toList) && (snapS s == want)
set_option maxHeartbeats 1000000 in
theorem splits_any (s v p : ByteArray) (want : Bool) (hs : s.size ≤ 1000) (w : World) : Calls Try.prog 21 #[.string s, .string v, .string p, .bool want] w fun e w' => e = .returned (.bool (splitsB s v p want)) ∧ Frm [] w w' := by
  have HS := Lib.hid (fun W => Split_any s hs W)
  unfold SplE at HS
  unfold splitsB
  generalize spl1 s = a at *
  generalize spl2 s = b at *
  generalize snapS s = c at *
  clear hs
  cases h1 : (a.toList == v.toList) <;> cases h2 : (b.toList == p.toList) <;> cases h3 : (c == want)
  all_goals
    go_enter Try.func21, Try.ntmps21
    go_wp2_with (go_at_call 9; refine (HS.out _).mono ?_; rintro e w1 ⟨rfl, f1⟩; have F1 := Lib.hid f1; clear f1)
    go_ret
    exact ⟨by simp, F1.out⟩
/-- The law's answer: true; what was there is as it was. -/
def Yes (w : World) (e : Ending) (w' : World) : Prop := e = .returned (.bool true) ∧ Frm [] w w'
def C1 (f : Nat) (a : Array Value) (b : Bool) : Prop := ∀ W, Calls Try.prog f a W fun e w' => e = .returned (.bool b) ∧ Frm [] W w'
theorem vol_c (s : ByteArray) (b : Bool) (h : partS s = b) : C1 15 #[.string s] b := fun W => by subst h; exact Volume_any s W
theorem snap_c (s : ByteArray) (b : Bool) (hs : s.size ≤ 1000) (h : snapS s = b) : C1 17 #[.string s] b := fun W => by subst h; exact Snapshot_any s hs W
theorem less_c (s t : ByteArray) (b : Bool) (hs : s.size ≤ 1000) (ht : t.size ≤ 1000) (h : lessS s t = b) : C1 19 #[.string s, .string t] b := fun W => by subst h; exact Less_any s t hs ht W
theorem splits_c (s v p : ByteArray) (want b : Bool) (hs : s.size ≤ 1000) (h : splitsB s v p want = b) : C1 21 #[.string s, .string v, .string p, .bool want] b := fun W => by subst h; exact splits_any s v p want hs W
theorem join_c (v p j : ByteArray) (b : Bool) (h1 : joinS v p = j) (h2 : joins v p = b) : ∀ W, Calls Try.prog 11 #[.string v, .string p] W fun e w' => e = .returned (.tuple #[.string j, .bool b]) ∧ Frm [] W w' := fun W => by subst h1; subst h2; exact Join_any v p W
set_option maxHeartbeats 4000000 in
theorem awake_any (w : World) : Calls Try.prog 8 #[] w (Yes w) := by
  have HJ := Lib.hid (join_c ⟨#[97]⟩ ⟨#[98]⟩ ⟨#[97, 64, 98]⟩ true (by kernel_rfl) (by kernel_rfl))
  have H1 := Lib.hid (vol_c ⟨#[97, 46, 49]⟩ true (by kernel_rfl))
  have H2 := Lib.hid (vol_c ⟨#[49, 97]⟩ false (by kernel_rfl))
  have H3 := Lib.hid (snap_c ⟨#[97, 64, 98]⟩ true (by decide) (by kernel_rfl))
  have H4 := Lib.hid (splits_c ⟨#[97, 64, 98]⟩ ⟨#[97]⟩ ⟨#[98]⟩ true true (by decide) (by kernel_rfl))
  have H5 := Lib.hid (less_c ⟨#[97, 64, 98]⟩ ⟨#[97, 45, 49]⟩ true (by decide) (by decide) (by kernel_rfl))
  unfold C1 at H1 H2 H3 H4 H5
  go_enter Try.func8, Try.ntmps8
  go_upto_region 2 with (go_at_call 11; refine (HJ.out _).mono ?_; rintro e w1 ⟨rfl, f1⟩; have F1 := Lib.hid f1; clear f1)
  go_wp2_with (first
    | (go_at_call 15; with_reducible refine Calls.mono (H1.out _) ?_; rintro e w2 ⟨rfl, f2⟩; have F2 := Lib.hid (F1.out.trans f2 (by simp)); clear f2)
    | (go_at_call 15; with_reducible refine Calls.mono (H2.out _) ?_; rintro e w3 ⟨rfl, f3⟩; have F3 := Lib.hid (F2.out.trans f3 (by simp)); clear f3)
    | (go_at_call 17; with_reducible refine Calls.mono (H3.out _) ?_; rintro e w4 ⟨rfl, f4⟩; have F4 := Lib.hid (F3.out.trans f4 (by simp)); clear f4)
    | (go_at_call 21; with_reducible refine Calls.mono (H4.out _) ?_; rintro e w5 ⟨rfl, f5⟩; have F5 := Lib.hid (F4.out.trans f5 (by simp)); clear f5)
    | (go_at_call 19; with_reducible refine Calls.mono (H5.out _) ?_; rintro e w6 ⟨rfl, f6⟩; have F6 := Lib.hid (F5.out.trans f6 (by simp)); clear f6))
  go_ret
  exact ⟨rfl, F6.out⟩
set_option maxHeartbeats 4000000 in
theorem known_any (w : World) : Calls Try.prog 4 #[] w (Yes w) := by
  have HA := Lib.hid (fun W => awake_any W)
  unfold Yes at HA
  have HJ := Lib.hid (join_c ⟨#[97]⟩ ⟨#[66]⟩ ⟨#[]⟩ false (by kernel_rfl) (by kernel_rfl))
  have H1 := Lib.hid (vol_c ⟨#[97, 64, 98]⟩ false (by kernel_rfl))
  have H2 := Lib.hid (snap_c ⟨#[97, 64]⟩ false (by decide) (by kernel_rfl))
  have H3 := Lib.hid (snap_c ⟨#[97, 64, 98, 64, 99]⟩ false (by decide) (by kernel_rfl))
  have H4 := Lib.hid (splits_c ⟨#[97]⟩ ⟨#[]⟩ ⟨#[]⟩ false true (by decide) (by kernel_rfl))
  have H5 := Lib.hid (less_c ⟨#[97]⟩ ⟨#[97, 64, 98]⟩ true (by decide) (by decide) (by kernel_rfl))
  have H6 := Lib.hid (less_c ⟨#[97, 64, 98]⟩ ⟨#[98]⟩ true (by decide) (by decide) (by kernel_rfl))
  have H7 := Lib.hid (less_c ⟨#[97, 64, 98]⟩ ⟨#[97, 64, 98]⟩ false (by decide) (by decide) (by kernel_rfl))
  unfold C1 at H1 H2 H3 H4 H5 H6 H7
  go_enter Try.func4, Try.ntmps4
  go_upto_region 2 with (go_at_call 11; refine (HJ.out _).mono ?_; rintro e w1 ⟨rfl, f1⟩; have F1 := Lib.hid f1; clear f1)
  go_wp2_with (first
    | (go_at_call 8; refine (HA.out _).mono ?_; rintro e w2 ⟨rfl, f2⟩; have F2 := Lib.hid (F1.out.trans f2 (by simp)); clear f2)
    | (go_at_call 15; with_reducible refine Calls.mono (H1.out _) ?_; rintro e w3 ⟨rfl, f3⟩; have F3 := Lib.hid (F2.out.trans f3 (by simp)); clear f3)
    | (go_at_call 17; with_reducible refine Calls.mono (H2.out _) ?_; rintro e w4 ⟨rfl, f4⟩; have F4 := Lib.hid (F3.out.trans f4 (by simp)); clear f4)
    | (go_at_call 17; with_reducible refine Calls.mono (H3.out _) ?_; rintro e w5 ⟨rfl, f5⟩; have F5 := Lib.hid (F4.out.trans f5 (by simp)); clear f5)
    | (go_at_call 21; with_reducible refine Calls.mono (H4.out _) ?_; rintro e w6 ⟨rfl, f6⟩; have F6 := Lib.hid (F5.out.trans f6 (by simp)); clear f6)
    | (go_at_call 19; with_reducible refine Calls.mono (H5.out _) ?_; rintro e w7 ⟨rfl, f7⟩; have F7 := Lib.hid (F6.out.trans f7 (by simp)); clear f7)
    | (go_at_call 19; with_reducible refine Calls.mono (H6.out _) ?_; rintro e w8 ⟨rfl, f8⟩; have F8 := Lib.hid (F7.out.trans f8 (by simp)); clear f8)
    | (go_at_call 19; with_reducible refine Calls.mono (H7.out _) ?_; rintro e w9 ⟨rfl, f9⟩; have F9 := Lib.hid (F8.out.trans f9 (by simp)); clear f9))
  go_ret
  exact ⟨rfl, F9.out⟩
end Go.Proofs.Ytnpjgccannebpaa
