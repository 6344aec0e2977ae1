/-
  ArrayFaults: the walk. No conditions but those that each theorem names.
-/
import Derived.Test.YtdebnikolhhmgaaDoorCA
namespace Go.Proofs.YtdebnikolhhmgaaDoor
open Go.RowKit
set_option linter.unusedVariables false
set_option linter.unusedSimpArgs false
set_option maxRecDepth 100000

open Kr (OwnE SlE Enco RowTys)
theorem Pick_at (x n : Int) (hn : 0 < n) (hn2 : n ≤ 1000000) (w : World) : Calls Tryd.prog 34 #[.int .i64 x, .int .i64 n] w fun e w' => ∃ k : Nat, (k : Int) < n ∧ e = .returned (.int .i64 k) ∧ w' = w := by
  have h1 := Int.tmod_lt_of_pos x hn
  have h2 := Int.lt_tmod_of_pos x hn
  have hw : IntKind.i64.wrap (x.tmod n) = x.tmod n := IntWalk.i64_in _ (by omega)
  have hw4 : IntKind.i64.wrap (x.tmod n + n) = x.tmod n + n := IntWalk.i64_in _ (by omega)
  have hn0 : ¬ n < 1 := by omega
  have hnz : ¬ n = 0 := by omega
  have hnb : (n == 0) = false := by simp; omega
  by_cases h3 : x.tmod n < 0
  · have e : ((x.tmod n + n).toNat : Int) = x.tmod n + n := by omega
    have H := Lib.hid (And.intro h1 (And.intro h2 (And.intro h3 e)))
    go_enter Tryd.func34, Tryd.ntmps34
    go_wp2
    go_ret
    exact ⟨(x.tmod n + n).toNat, by have := H.out; omega, by rw [H.out.2.2.2]; rfl, rfl⟩
  · have e : ((x.tmod n).toNat : Int) = x.tmod n := by omega
    have H := Lib.hid (And.intro h1 (And.intro h2 (And.intro h3 e)))
    go_enter Tryd.func34, Tryd.ntmps34
    go_wp2
    go_ret
    exact ⟨(x.tmod n).toNat, by have := H.out; omega, by rw [H.out.2.2.2]; rfl, rfl⟩
section
variable {lo : Nat} {w : World} {sn : Nat → Addr} {g K : Nat} {s : St}
theorem pkY_at (hs : Sn w lo sn) (h : Arr lo w g s) (wf : Wf K s) (hK : K ≤ 100000000) (d a : Int) (v : Value) (l sp : List UInt8) (hS : ∀ w', Fa lo w w' → SlB w' v l sp) (hk : pkR s d a = none) (ht : tellAt s d a = l) :
    Calls Tryd.prog 33 #[.pointer (some ⟨g, 0, none⟩), .int .i64 d, .int .i64 a, v] w fun e w' => e = .returned (.bool true) ∧ Arr lo w' g s ∧ Fa lo w w' := by
  refine (show Calls Tryd.prog 33 #[.pointer (some ⟨g, 0, none⟩), .int .i64 d, .int .i64 a, v] w _ from peeks_any d a v l sp hs h (wf.wfs hK) wf.fd hS).mono ?_
  rintro e w' ⟨rfl, a1, f1⟩
  exact ⟨by rw [hk, ht]; simp, a1, f1⟩
theorem rdY_at (hs : Sn w lo sn) (h : Arr lo w g s) (wf : Wf K s) (hK : K ≤ 100000000) (d a : Int) (v : Value) (l sp : List UInt8) (hS : ∀ w', Fa lo w w' → SlB w' v l sp) (hk : rdR s d a = (none, s)) (ht : tellAt s d a = l) :
    Calls Tryd.prog 30 #[.pointer (some ⟨g, 0, none⟩), .int .i64 d, .int .i64 a, v] w fun e w' => e = .returned (.bool true) ∧ Arr lo w' g s ∧ Fa lo w w' := by
  refine (rd_at hs h wf hK d a v l sp hS).mono ?_
  rintro e w' ⟨rfl, a1, f1⟩
  rw [hk] at a1
  exact ⟨by rw [hk, ht]; simp, a1, f1⟩
end
theorem failF_pos {m : Int} (h : 0 < m) : failF 0 m = 8 := by unfold failF; rw [if_pos h]; rfl
theorem failF_nil : failF 0 0 = 0 := by decide
theorem failF_8 (m : Int) : failF 8 m = failF 0 m := by unfold failF; split <;> rfl
end Go.Proofs.YtdebnikolhhmgaaDoor

