/-
  Contract of awake. No conditions but those that each theorem names.
-/
import Derived.Test.YtpgekoicbceliaaCL
namespace Go.Proofs.Ytpgekoicbceliaa
open Go.RowKit Go.Sort Go.Maps
set_option linter.unusedVariables false
set_option linter.unusedSimpArgs false
set_option maxRecDepth 100000

/-- A yes that leaves all as it was. -/
def Yes (w : World) (e : Ending) (w' : World) : Prop := e = .returned (.bool true) ∧ Frm [] w w'
theorem wf_small (x : Ad) (h : (-1000000 ≤ x.1 ∧ x.1 ≤ 1000000) ∧ (-1000000 ≤ x.2 ∧ x.2 ≤ 1000000)) : WfA x := ⟨⟨by omega, by omega⟩, ⟨by omega, by omega⟩⟩
def smB (x : Ad) : Bool := decide (-1000000 ≤ x.1 ∧ x.1 ≤ 1000000) && decide (-1000000 ≤ x.2 ∧ x.2 ≤ 1000000)
theorem wf_all (l : List Ad) (h : l.all smB = true) : ∀ x ∈ l, WfA x := fun x hx => by
  have := List.all_eq_true.1 h x hx
  simp only [smB, Bool.and_eq_true, decide_eq_true_eq] at this
  exact wf_small x this
theorem may1 : mayB (1, 5) 2 8 = true := by decide
theorem may2 : mayB (1, 4) 2 8 = false := by decide
theorem less1 : ltA (0, 9) (1, 5) = true := by decide
theorem srt1 : srt [(1, 5), (0, 7), (1, 5)] = [(0, 7), (1, 5)] := by decide
set_option maxHeartbeats 2000000 in
theorem awake_any (w : World) : Calls Try.prog 13 #[] w (Yes w) := by
  have m1 := fun W => May_any (1, 5) 2 8 W
  have m2 := fun W => May_any (1, 4) 2 8 W
  have l1 := fun W => Less_any (0, 9) (1, 5) W
  rw [may1] at m1
  rw [may2] at m2
  rw [less1] at l1
  have M1 := Lib.hid m1
  have M2 := Lib.hid m2
  have L1 := Lib.hid l1
  clear m1 m2 l1
  go_enter Try.func13, Try.ntmps13
  go_wp2_with fail
  refine (at_any _ _ _).mono ?_
  rintro r w1 ⟨rfl, f1⟩
  have F1 := Lib.hid f1
  clear f1
  go_wp2_with fail
  refine (M1.out _).mono ?_
  rintro r w2 ⟨rfl, f2⟩
  have F2 := Lib.hid (F1.out.trans f2 (by simp))
  clear f2 F1
  go_wp2_with fail
  refine (at_any _ _ _).mono ?_
  rintro r w3 ⟨rfl, f3⟩
  have F3 := Lib.hid (F2.out.trans f3 (by simp))
  clear f3 F2
  go_wp2_with fail
  refine (M2.out _).mono ?_
  rintro r w4 ⟨rfl, f4⟩
  have F4 := Lib.hid (F3.out.trans f4 (by simp))
  clear f4 F3
  go_wp2_with fail
  refine (at_any _ _ _).mono ?_
  rintro r w5 ⟨rfl, f5⟩
  have F5 := Lib.hid (F4.out.trans f5 (by simp))
  clear f5 F4
  go_wp2_with fail
  refine (at_any _ _ _).mono ?_
  rintro r w6 ⟨rfl, f6⟩
  have F6 := Lib.hid (F5.out.trans f6 (by simp))
  clear f6 F5
  go_wp2_with fail
  refine (L1.out _).mono ?_
  rintro r w7 ⟨rfl, f7⟩
  have F7 := Lib.hid (F6.out.trans f7 (by simp))
  clear f7 F6
  go_wp2_with fail
  refine (of_any [(1, 5), (0, 7), (1, 5)] 6 _ _ (heap_alloc_at rfl) rfl (by decide)).mono ?_
  rintro r w8 ⟨v8, sp8, rfl, o8, f8, n8⟩
  have F8 := Lib.hid ((F7.out.alloc (.cells #[.int .i64 1, .int .i64 5, .int .i64 0, .int .i64 7, .int .i64 1, .int .i64 5] 3)).trans f8 (by simp))
  have O8 := Lib.hid o8
  clear f8 o8 n8 F7
  go_wp2_with fail
  refine (Sort_any v8 _ sp8 _ O8.out.sl (by decide) (wf_all _ (by decide))).mono ?_
  rintro r w9 ⟨v9, sp9, rfl, o9, f9, n9⟩
  rw [srt1] at o9
  have F9 := Lib.hid (F8.out.trans f9 (by simp))
  have O9 := Lib.hid o9
  clear f9 o9 n9 F8 O8
  go_wp2_with fail
  refine (of_any [(0, 7), (1, 5)] 4 _ _ (heap_alloc_at rfl) rfl (by decide)).mono ?_
  rintro r w10 ⟨v10, sp10, rfl, o10, f10, n10⟩
  have g10 := ((Frm.refl [] w9).alloc (.cells #[.int .i64 0, .int .i64 7, .int .i64 1, .int .i64 5] 3)).trans f10 (by simp)
  have F10 := Lib.hid (F9.out.trans g10 (by simp))
  have O10 := Lib.hid o10
  have P9 := Lib.hid (O9.out.keep g10 (by simp))
  clear f10 o10 n10 F9 O9 g10
  go_wp2_with fail
  refine (Same_true v9 v10 _ sp9 sp10 _ P9.out.sl O10.out.sl (by decide)).mono ?_
  rintro r w11 ⟨rfl, f11⟩
  have F11 := Lib.hid (F10.out.trans f11 (by simp))
  clear f11 F10
  go_wp2_with fail
  go_ret
  exact ⟨rfl, F11.out⟩
end Go.Proofs.Ytpgekoicbceliaa
