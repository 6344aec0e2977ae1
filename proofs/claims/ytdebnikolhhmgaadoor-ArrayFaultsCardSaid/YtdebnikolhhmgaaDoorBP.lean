/-
  The law's reads. No conditions but those that each theorem names.
-/
import Derived.Test.YtdebnikolhhmgaaDoorBO
namespace Go.Proofs.YtdebnikolhhmgaaDoor
open Go.RowKit
set_option linter.unusedVariables false
set_option linter.unusedSimpArgs false
set_option maxRecDepth 100000

open Kr (OwnE SlE Enco RowTys)
theorem own_st {lo : Nat} {w w' : World} {v : Value} {l sp : List UInt8} (h : OwnB 5 w v l sp) (f : Fa lo w w') : SlB w' v l sp := Own.sl (own_fa h f (by decide))
def rdR (s : St) (d a : Int) : Option Nat × St := dCons (nR s, s) (dCons (nS s d a, s) (dCons (nT s d, s) (nFail s d)))
def pkR (s : St) (d a : Int) : Option Nat := (dCons (nR s, s) (dCons (nS s d a, s) (nT s d, s))).1
theorem pk2 (s : St) (d a : Int) : (dCons (nR s, s) (dCons (nS s d a, s) (nT s d, s))).2 = s := by unfold dCons; split; (split; rfl; rfl); rfl
section
variable {lo : Nat} {w : World} {sn : Nat → Addr} {g : Nat} {s : St}
theorem made_any (hs : Sn w lo sn) (hlo : lo ≤ w.heap.size) : Calls Tryd.prog 28 #[] w fun e w' => ∃ g, e = .returned (.pointer (some ⟨g, 0, none⟩)) ∧ Arr lo w' g (newS 8 2) ∧ Fa lo w w' := by
  have N := New_yes (lo := lo) (w := w) (sn := sn) 2 8 hs hlo (by omega) (by omega)
  have HN := Lib.hid N
  clear N hs hlo
  go_enter Tryd.func28, Tryd.ntmps28
  go_wp2_with (go_at_call 31; refine HN.out.mono ?_; rintro e w1 ⟨g, rfl, a1, f1⟩; have A1 := Lib.hid a1; have F1 := Lib.hid f1; clear a1 f1)
  go_ret
  exact ⟨g, rfl, A1.out, F1.out⟩
set_option maxHeartbeats 4000000 in
theorem reads_any (d a : Int) (v : Value) (l sp : List UInt8) (hs : Sn w lo sn) (h : Arr lo w g s) (WF : WfS s) (WD : WfD s) (hS : ∀ w', Fa lo w w' → SlB w' v l sp) :
    Calls Tryd.prog 30 #[ptr g, .int .i64 d, .int .i64 a, v] w fun e w' => e = .returned (.bool (decide ((rdR s d a).1 = none) && (tellAt s d a == l))) ∧ Arr lo w' g (rdR s d a).2 ∧ Fa lo w w' := by
  have R := Read_any d a hs h WF WD
  rw [show dCons (nR s, s) (dCons (nS s d a, s) (dCons (nT s d, s) (nFail s d))) = rdR s d a from rfl] at R
  obtain ⟨va, vc, rfl, -, -⟩ := (hS w (Fa.refl lo w)).form
  have HS := Lib.hid hS
  have HR := Lib.hid R
  unfold ptr at HR ⊢
  clear R hS hs h WF WD
  go_enter Tryd.func30, Tryd.ntmps30
  go_upto_region 1 with (fail)
  go_wp2_with fail
  refine HR.out.mono ?_
  rintro e w1 ⟨⟨hn, ra, rc, rsp, rfl, ho⟩ | ⟨k, hk, rfl⟩, a1, f1⟩
  · have SM := Lib.hid (Same_any _ _ _ _ _ _ w1 ho.sl (HS.out w1 f1))
    have A1 := Lib.hid a1
    have F1 := Lib.hid f1
    have HN := Lib.hid hn
    clear hn ho a1 f1
    go_wp2_with (go_at_call 36; refine SM.out.mono ?_; rintro e w2 ⟨rfl, hw2⟩; obtain rfl := hw2.symm)
    go_ret
    exact ⟨by rw [HN.out]; simp, A1.out, F1.out⟩
  · have hc := code_ne k
    have A1 := Lib.hid a1
    have F1 := Lib.hid f1
    have HK := Lib.hid hk
    have hc2 : (code k == 0) = false := by simpa using hc
    clear hk a1 f1 hc
    go_wp2_with fail
    go_ret
    exact ⟨by rw [HK.out]; simp, A1.out, F1.out⟩
set_option maxHeartbeats 4000000 in
theorem peeks_any (d a : Int) (v : Value) (l sp : List UInt8) (hs : Sn w lo sn) (h : Arr lo w g s) (WF : WfS s) (WD : WfD s) (hS : ∀ w', Fa lo w w' → SlB w' v l sp) :
    Calls Tryd.prog 33 #[ptr g, .int .i64 d, .int .i64 a, v] w fun e w' => e = .returned (.bool (decide (pkR s d a = none) && (tellAt s d a == l))) ∧ Arr lo w' g s ∧ Fa lo w w' := by
  have R := Peek_any d a hs h WF WD
  obtain ⟨va, vc, rfl, -, -⟩ := (hS w (Fa.refl lo w)).form
  have HS := Lib.hid hS
  have HR := Lib.hid R
  unfold ptr at HR ⊢
  clear R hS hs h WF WD
  go_enter Tryd.func33, Tryd.ntmps33
  go_upto_region 1 with (fail)
  go_wp2_with fail
  refine HR.out.mono ?_
  rintro e w1 ⟨⟨hn, ra, rc, rsp, rfl, ho⟩ | ⟨k, hk, rfl⟩, a1, f1⟩
  · rw [pk2] at a1
    have SM := Lib.hid (Same_any _ _ _ _ _ _ w1 ho.sl (HS.out w1 f1))
    have A1 := Lib.hid a1
    have F1 := Lib.hid f1
    have HN := Lib.hid (show pkR s d a = none from hn)
    clear hn ho a1 f1
    go_wp2_with (go_at_call 36; refine SM.out.mono ?_; rintro e w2 ⟨rfl, hw2⟩; obtain rfl := hw2.symm)
    go_ret
    exact ⟨by rw [HN.out]; simp, A1.out, F1.out⟩
  · rw [pk2] at a1
    have A1 := Lib.hid a1
    have F1 := Lib.hid f1
    have HK := Lib.hid (show pkR s d a = some k from hk)
    clear hk a1 f1
    go_wp2_with fail
    go_ret
    exact ⟨by rw [HK.out]; simp, A1.out, F1.out⟩
end
end Go.Proofs.YtdebnikolhhmgaaDoor

