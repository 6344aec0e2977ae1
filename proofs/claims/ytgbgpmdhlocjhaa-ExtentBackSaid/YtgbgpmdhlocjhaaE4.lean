/-
  Contracts of Add, Cut, Both and Within. No conditions but those that each theorem names.
-/
import Derived.Test.YtgbgpmdhlocjhaaE3
namespace Go.Proofs.Ytgbgpmdhlocjhaa
open Go.RowKit
set_option linter.unusedVariables false
set_option linter.unusedSimpArgs false
set_option maxRecDepth 100000

theorem add1_any (a b : Bool) (w : World) : Calls Try.prog 46 #[.bool a, .bool b] w fun e w' => e = .returned (.bool (fOf 0 a b)) ∧ w' = w := by
  cases a <;> cases b <;> (go_enter Try.func46, Try.ntmps46; go_wp2_with fail; go_ret; exact ⟨rfl, rfl⟩)
theorem cut1_any (a b : Bool) (w : World) : Calls Try.prog 48 #[.bool a, .bool b] w fun e w' => e = .returned (.bool (fOf 1 a b)) ∧ w' = w := by
  cases a <;> cases b <;> (go_enter Try.func48, Try.ntmps48; go_wp2_with fail; go_ret; exact ⟨rfl, rfl⟩)
theorem both1_any (a b : Bool) (w : World) : Calls Try.prog 49 #[.bool a, .bool b] w fun e w' => e = .returned (.bool (fOf 2 a b)) ∧ w' = w := by
  cases a <;> cases b <;> (go_enter Try.func49, Try.ntmps49; go_wp2_with fail; go_ret; exact ⟨rfl, rfl⟩)
section
variable (v x : Value) (l m : List Ex) (sp msp : List Value) (w : World) (hS : SlX w v l sp) (hl : l.length ≤ 1000000000) (hx : ∀ x ∈ l, -9223372036854775808 ≤ x.1 ∧ x.1 ≤ 9223372036854775807)
    (hM : SlX w x m msp) (hm : m.length ≤ 1000000000) (hxm : ∀ x ∈ m, -9223372036854775808 ≤ x.1 ∧ x.1 ≤ 9223372036854775807)
include hS hl hx hM hm hxm
theorem Add_any : Calls Try.prog 25 #[v, x] w fun e w' => ∃ r c, MkP (fOf 0) l m r c ∧ ToldX w r c e w' := by
  have H := Lib.hid (merged_any (fOf 0) rfl 46 (enters_of Try.func46 (by kernel_rfl) rfl) add1_any v x l m sp msp w hS hl hx hM hm hxm)
  clear hS hl hx hM hm hxm
  go_enter Try.func25, Try.ntmps25
  go_wp2_with (go_at_call 45; refine Calls.mono (H.out) ?_; rintro e w1 ⟨r, c, hr, v1, sp1, rfl, o1, f1, n1⟩)
  go_ret2
  exact ⟨r, c, hr, _, sp1, rfl, o1, f1, n1⟩
theorem Cut_any : Calls Try.prog 27 #[v, x] w fun e w' => ∃ r c, MkP (fOf 1) l m r c ∧ ToldX w r c e w' := by
  have H := Lib.hid (merged_any (fOf 1) rfl 48 (enters_of Try.func48 (by kernel_rfl) rfl) cut1_any v x l m sp msp w hS hl hx hM hm hxm)
  clear hS hl hx hM hm hxm
  go_enter Try.func27, Try.ntmps27
  go_wp2_with (go_at_call 45; refine Calls.mono (H.out) ?_; rintro e w1 ⟨r, c, hr, v1, sp1, rfl, o1, f1, n1⟩)
  go_ret2
  exact ⟨r, c, hr, _, sp1, rfl, o1, f1, n1⟩
theorem Both_any : Calls Try.prog 29 #[v, x] w fun e w' => ∃ r c, MkP (fOf 2) l m r c ∧ ToldX w r c e w' := by
  have H := Lib.hid (merged_any (fOf 2) rfl 49 (enters_of Try.func49 (by kernel_rfl) rfl) both1_any v x l m sp msp w hS hl hx hM hm hxm)
  clear hS hl hx hM hm hxm
  go_enter Try.func29, Try.ntmps29
  go_wp2_with (go_at_call 45; refine Calls.mono (H.out) ?_; rintro e w1 ⟨r, c, hr, v1, sp1, rfl, o1, f1, n1⟩)
  go_ret2
  exact ⟨r, c, hr, _, sp1, rfl, o1, f1, n1⟩
end
theorem cntE_zero {r : List Ex} (h : Good r) : cntE r = 0 ↔ r = [] := by
  constructor
  · intro h0
    cases r with
    | nil => rfl
    | cons y t =>
      have h1 := cntE_secs h
      have h2 := h.1 y (by simp)
      rw [secs_cons, List.length_append, run_length] at h1
      omega
  · rintro rfl; rfl
theorem Within_any (v x : Value) (l m : List Ex) (sp msp : List Value) (w : World) (hS : SlX w v l sp) (hl : l.length ≤ 1000000000) (hx : ∀ x ∈ l, -9223372036854775808 ≤ x.1 ∧ x.1 ≤ 9223372036854775807)
    (hM : SlX w x m msp) (hm : m.length ≤ 1000000000) (hxm : ∀ x ∈ m, -9223372036854775808 ≤ x.1 ∧ x.1 ≤ 9223372036854775807) :
    Calls Try.prog 31 #[v, x] w fun e w' => ∃ r c, MkP (fOf 1) l m r c ∧ e = .returned (.bool (wiB r c)) ∧ Frm [] w w' := by
  have H := Lib.hid (Cut_any v x l m sp msp w hS hl hx hM hm hxm)
  clear hS hl hx hM hm hxm
  go_enter Try.func31, Try.ntmps31
  go_upto_region 2 with (go_at_call 27; refine Calls.mono (H.out) ?_; rintro e w1 ⟨r, c, hr, v1, sp1, rfl, o1, f1, n1⟩)
  clear H
  have hrc := hr.code
  have HR := Lib.hid hr
  have F1 := Lib.hid f1
  rcases hrc with ⟨rfl, hg⟩ | ⟨rfl, rfl⟩
  · have HC := Lib.hid (counted_any v1 r sp1 w1 o1.sl hg)
    have hz := cntE_zero hg
    have HW := Lib.hid (show (cntE r == 0) = wiB r 0 by rw [Bool.eq_iff_iff]; simp [wiB, hz])
    clear hr hz hg f1 o1 n1
    generalize cntE r = q at *
    go_wp2_with (go_at_call 44; refine Calls.mono (HC.out) ?_; rintro e w2 ⟨rfl, f2⟩)
    go_ret
    exact ⟨_, _, HR.out, by rw [← HW.out]; rfl, F1.out.trans f2 (by simp)⟩
  · clear hr f1 o1 n1
    go_wp2_with fail
    go_ret
    exact ⟨_, _, HR.out, rfl, F1.out⟩
end Go.Proofs.Ytgbgpmdhlocjhaa
