/-
  Contracts of within, May, Less, at, long, SameAddrs. No conditions but those that each theorem names.
-/
import Derived.Test.YtpgekoicbceliaaCI
namespace Go.Proofs.Ytpgekoicbceliaa
open Go.RowKit Go.Sort Go.Maps
set_option linter.unusedVariables false
set_option linter.unusedSimpArgs false
set_option maxRecDepth 100000

def inB (n lo hi : Int) : Bool := decide (lo ≤ n) && decide (n ≤ hi)
theorem within_any (n lo hi : Int) (w : World) : Calls Try.prog 36 #[.int .i64 n, .int .i64 lo, .int .i64 hi] w fun e w' => e = .returned (.bool (inB n lo hi)) ∧ w' = w := by
  unfold inB
  by_cases h1 : lo ≤ n
  · by_cases h2 : n ≤ hi
    · go_enter Try.func36, Try.ntmps36
      go_wp2
      go_ret
      exact ⟨ret_bool (by simp [h1, h2]), rfl⟩
    · go_enter Try.func36, Try.ntmps36
      go_wp2
      go_ret
      exact ⟨ret_bool (by simp [h1, h2]), rfl⟩
  · go_enter Try.func36, Try.ntmps36
    go_wp2
    go_ret
    exact ⟨ret_bool (by simp; omega), rfl⟩
def mayB (x : Ad) (devs sectors : Int) : Bool := inB devs 2 8 && inB sectors 8 4096 && inB x.1 0 (devs - 1) && inB x.2 5 (sectors - 1)
set_option maxHeartbeats 1000000 in
theorem May_any (x : Ad) (devs sectors : Int) (w : World) : Calls Try.prog 9 #[av x, .int .i64 devs, .int .i64 sectors] w fun e w' => e = .returned (.bool (mayB x devs sectors)) ∧ Frm [] w w' := by
  have hc := fun n lo hi W => within_any n lo hi W
  have HC := Lib.hid hc
  clear hc
  unfold mayB av
  cases hA : inB devs 2 8 with
  | false =>
    go_enter Try.func9, Try.ntmps9
    go_wp2_with (go_at_call 36; refine (HC.out _ _ _ _).mono ?_; rintro r w' ⟨rfl, rfl⟩)
    go_ret
    exact ⟨ret_bool (by simp), (Frm.refl [] w).alloc _⟩
  | true =>
    have hd : 2 ≤ devs ∧ devs ≤ 8 := by simpa [inB] using hA
    cases hB : inB sectors 8 4096 with
    | false =>
      go_enter Try.func9, Try.ntmps9
      go_wp2_with (go_at_call 36; refine (HC.out _ _ _ _).mono ?_; rintro r w' ⟨rfl, rfl⟩)
      go_ret
      exact ⟨ret_bool (by simp), (Frm.refl [] w).alloc _⟩
    | true =>
      have hs : 8 ≤ sectors ∧ sectors ≤ 4096 := by simpa [inB] using hB
      obtain ⟨d1, d2⟩ := hd
      obtain ⟨s1, s2⟩ := hs
      cases hC : inB x.1 0 (devs - 1) with
      | false =>
        go_enter Try.func9, Try.ntmps9
        go_wp2_with (go_at_call 36; refine (HC.out _ _ _ _).mono ?_; rintro r w' ⟨rfl, rfl⟩)
        go_ret
        exact ⟨ret_bool (by simp), (Frm.refl [] w).alloc _⟩
      | true =>
        go_enter Try.func9, Try.ntmps9
        go_wp2_with (go_at_call 36; refine (HC.out _ _ _ _).mono ?_; rintro r w' ⟨rfl, rfl⟩)
        go_ret
        exact ⟨ret_bool (by simp), (Frm.refl [] w).alloc _⟩
theorem Less_any (x y : Ad) (w : World) : Calls Try.prog 11 #[av x, av y] w fun e w' => e = .returned (.bool (ltA x y)) ∧ Frm [] w w' := by
  have hc := fun W => compare_any x y W
  have hlt : ltA x y = decide (cfA x y < 0) := by rw [← ltOf_cfA]; rfl
  rw [hlt]
  generalize cfA x y = c at *
  have HC := Lib.hid hc
  clear hc hlt
  unfold av at *
  go_enter Try.func11, Try.ntmps11
  go_wp2_with fail
  refine (HC.out _).mono ?_
  rintro r w1 ⟨rfl, q, os, rfl⟩
  have f1 : ∀ W : World, Frm [] W (grow (W.drewN q) os) := fun W => ⟨rfl, rfl, rfl, by simp [size_grow], fun k hk _ => heap_grow_old _ os (by simpa using hk)⟩
  have F1 := Lib.hid (f1 ((w.alloc (.cells #[.int .i64 x.1, .int .i64 x.2] 23)).alloc (.cells #[.int .i64 y.1, .int .i64 y.2] 23)))
  clear f1
  go_wp2_with fail
  go_ret
  exact ⟨rfl, (((Frm.refl [] w).alloc _).alloc _).trans F1.out (by simp)⟩
theorem at_any (a b : Int) (w : World) : Calls Try.prog 32 #[.int .i64 a, .int .i64 b] w fun e w' => e = .returned (av (a, b)) ∧ Frm [] w w' := by
  go_enter Try.func32, Try.ntmps32
  go_wp2
  refine bodyPost_ret (v := av (a, b)) ?_ rfl ⟨rfl, (Frm.refl [] w).alloc _⟩
  simp [results, Try.results32, go_sem, av]
theorem long_any (a b : Option Addr) (n m c d : Nat) (w : World) (hn : n ≤ maxLen) (hm : m ≤ maxLen) : Calls Try.prog 14 #[.slice a n c, .slice b m d] w fun e w' => e = .returned (.bool (decide (200 < n) || decide (200 < m))) ∧ w' = w := by
  unfold maxLen at hn hm
  by_cases h1 : 200 < n
  · have h9 : decide ((200 : Int) < (n : Int)) = true := by simp; omega
    go_enter Try.func14, Try.ntmps14
    go_wp2
    go_ret
    exact ⟨ret_bool (by simp [h1]), rfl⟩
  · have h9 : decide ((200 : Int) < (n : Int)) = false := by simp; omega
    go_enter Try.func14, Try.ntmps14
    go_wp2
    go_ret
    exact ⟨ret_bool (by simp [h1]; omega), rfl⟩
end Go.Proofs.Ytpgekoicbceliaa
