/-
  Contract of Check, of the answer of the document. No conditions but those that each theorem names.
-/
import Derived.Test.YtjjcjocomanohaaPF
namespace Go.Proofs.Ytjjcjocomanohaa
open Go.RowKit
set_option linter.unusedVariables false
set_option linter.unusedSimpArgs false
set_option maxRecDepth 100000

set_option maxHeartbeats 4000000 in
theorem RefCheck_any (x : Value) (p : Pt) (w : World) (hp : PtV w x p) (hl : p.ads.length ≤ 1000000) :
    Calls Try.prog 19 #[x] w fun e w' => e = .returned (.int .i64 (chk p)) ∧ Frm [] w w' := by
  have hC := fun W (f : Frm [] w W) => RefHole_any x p W (hp.keep0 f)
  obtain ⟨a, cap, sp, rfl, hS, hs⟩ := hp
  have hD := fun W (f : Frm [] w W) => RefAddrs_any (.slice a p.ads.length cap) p.ads sp W (hS.keep f (by simp)) hl
  have B1 := PB.new w (.slice a p.ads.length cap) p.b p.l p.s
  have f : Frm [] w (w.alloc (.cells (pc (.slice a p.ads.length cap) p.b p.l p.s).toArray 26)) := (Frm.refl [] w).alloc _
  have hA0 : pv (.slice a p.ads.length cap) p.b p.l p.s = .agg (pc (.slice a p.ads.length cap) p.b p.l p.s).toArray := rfl
  have HA0 := Lib.hid hA0
  have HC := Lib.hid hC
  have HD := Lib.hid hD
  have hc1 : may p → chk p = 0 := fun h => by simp [chk, (mayB_iff p).2 h]
  have hc2 : ¬ may p → chk p = 2 := fun h => by simp [chk, (mayB_not p).2 h]
  have hm : ∀ (h : hole p = false), may p ↔ (AdsMay p.ads ∧ (1 ≤ p.b ∧ p.b ≤ 2147483648) ∧ (0 ≤ p.l ∧ p.l ≤ 3)) := fun h => by
    unfold may MayRest AdsMay
    rw [h]
    simp [and_assoc]
  have HC1 := Lib.hid hc1
  have HC2 := Lib.hid hc2
  have HM := Lib.hid hm
  rw [hA0]
  clear hA0 hC hD hS hc1 hc2 hm hl
  generalize hA : (pc (.slice a p.ads.length cap) p.b p.l p.s).toArray = A at *
  generalize p.ads.length = n at *
  go_enter Try.func19, Try.ntmps19
  go_upto_region 1 with (fail)
  generalize w.alloc (.cells A 26) = W at *
  have B1h := Lib.hid B1
  have G0 := Lib.hid (B1.gets hs)
  clear hA B1
  cases hh : hole p with
  | true =>
    rw [hh] at HC
    go_wp2_with (first | ((with_reducible (show wpList _ _ _ (Oper.mk _ (Op.load 26 _) _ _ _ _ :: _) _ _)); refine wpList_load_g (by rfl) 26 _ rfl _ rfl G0.out.all ?_) | (go_at_call 21; refine (HC.out _ f).mono ?_; rintro r w2 ⟨rfl, f2⟩))
    go_ret
    exact ⟨by rw [HC1.out (Or.inl hh)]; rfl, f.trans f2 (by simp)⟩
  | false =>
    have HMM := Lib.hid (HM.out hh)
    rw [hh] at HC
    clear hh
    go_upto_region 3 with (first | ((with_reducible (show wpList _ _ _ (Oper.mk _ (Op.load 26 _) _ _ _ _ :: _) _ _)); refine wpList_load_g (by rfl) 26 _ rfl _ rfl G0.out.all ?_) | (go_at_call 21; refine (HC.out _ f).mono ?_; rintro r w2 ⟨rfl, f2⟩))
    have F2 := Lib.hid (f.trans f2 (by simp))
    have G2 := (B1h.out.keep f2 (by simp)).gets hs
    have c0 := G2.c0
    have B2 := Lib.hid (B1h.out.keep f2 (by simp))
    clear G2 f f2 G0 HC
    go_wp2_with (go_at_call 54; refine (HD.out _ F2.out).mono ?_; rintro r w3 ⟨⟨rfl, ha⟩ | ⟨rfl, ha⟩, f3⟩ <;> (have G3 := (B2.out.keep f3 (by simp)).gets hs; have c1 := G3.c1; have c2 := G3.c2; have F3 := Lib.hid (F2.out.trans f3 (by simp)); clear G3 f3))
    all_goals
      go_ret
      first
        | exact ⟨by rw [HC2.out (fun h => by have := HMM.out.1 h; first | exact ha this.1 | omega)]; rfl, F3.out⟩
        | exact ⟨by rw [HC1.out (HMM.out.2 ⟨ha, by omega, by omega⟩)]; rfl, F3.out⟩
end Go.Proofs.Ytjjcjocomanohaa
