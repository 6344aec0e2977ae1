/-
  Contracts of within, mayBeRoot, mayBe, Check, Same, of the kit's SameUber, of the law's one. No conditions but those that each theorem names.
-/
import Derived.Test.YtjdejhgfkjeeiaaGreatDoorUA
namespace Go.Proofs.YtjdejhgfkjeeiaaGreatDoor
open Go.RowKit
set_option linter.unusedVariables false
set_option linter.unusedSimpArgs false
set_option maxRecDepth 100000

open Pt (Pt may enc readPt readE zeroPt pc pv PtV SlA OwnA)
theorem within_any (n lo hi : Int) (w : World) : Calls Tryz.prog 103 #[.int .i64 n, .int .i64 lo, .int .i64 hi] w fun r w' => r = .returned (.bool (decide (lo ≤ n) && decide (n ≤ hi))) ∧ w' = w := by
  go_enter Tryz.func103, Tryz.ntmps103
  go_wp2
  all_goals
    go_ret
    refine ⟨ret_bool ?_, rfl⟩
    symm
    simp
    omega
set_option maxHeartbeats 1000000 in
theorem mayBeRoot_any (x : Value) (p : Pt) (txg : Int) (w : World) (hp : PtV w x p) (hl : p.ads.length ≤ 1000000) : Calls Tryz.prog 104 #[x, .int .i64 txg] w fun r w' => r = .returned (.bool (rootB p txg)) ∧ Frm [] w w' := by
  have hH := fun W (f : Frm [] w W) => Pt.Hole_any x p W (hp.keep0 f) hl
  have hC := fun W (f : Frm [] w W) => Pt.Check_any x p W (hp.keep0 f) hl
  obtain ⟨a, cap, sp, rfl, hS, hs⟩ := hp
  have b0 := Pt.PB.new w (.slice a p.ads.length cap) p.b p.l p.s
  have f0 : Frm [] w (w.alloc (.cells (pc (.slice a p.ads.length cap) p.b p.l p.s).toArray 26)) := (Frm.refl [] w).alloc _
  have HR := Lib.hid (show rootB p txg = (Pt.hole p || (Pt.mayB p && (p.l == 3 && decide (p.b ≤ txg)))) from rfl)
  have hck : Pt.chk p = if Pt.mayB p = true then 0 else 2 := rfl
  have hpv : pv (.slice a p.ads.length cap) p.b p.l p.s = .agg (pc (.slice a p.ads.length cap) p.b p.l p.s).toArray := rfl
  rw [hpv] at hH hC ⊢
  have G0 := Lib.hid (b0.gets hs).all
  rw [hpv] at G0
  have B0 := Lib.hid b0
  have HH := Lib.hid hH
  have HC := Lib.hid hC
  have HS := Lib.hid hs
  have HPV := Lib.hid hpv
  clear hH hC hS b0 hs hpv
  generalize (pc (.slice a p.ads.length cap) p.b p.l p.s).toArray = A at *
  cases hh : Pt.hole p with
  | true =>
    rw [hh] at HR HH
    have F0 := Lib.hid f0
    clear hh f0 hck
    go_enter Tryz.func104, Tryz.ntmps104
    go_wp2_with (first
      | ((with_reducible (show wpList _ _ _ (Oper.mk (some 5) (Op.load 26 _) _ _ _ _ :: _) _ _)); refine wpList_load_g (by rfl) 26 _ rfl _ rfl G0.out ?_)
      | (go_at_call 144; refine (HH.out _ F0.out).mono ?_; rintro r w1 ⟨rfl, f1⟩))
    go_ret
    exact ⟨ret_bool (by rw [HR.out]; rfl), F0.out.trans f1 (by simp)⟩
  | false =>
    rw [hh] at HR HH
    have F0 := Lib.hid f0
    clear hh f0
    cases hm : Pt.mayB p with
    | false =>
      rw [hm] at HR hck
      simp only [Bool.false_eq_true, if_false] at hck
      rw [hck] at HC
      clear hm hck
      go_enter Tryz.func104, Tryz.ntmps104
      go_wp2_with (first
        | ((with_reducible (show wpList _ _ _ (Oper.mk (some 5) (Op.load 26 _) _ _ _ _ :: _) _ _)); refine wpList_load_g (by rfl) 26 _ rfl _ rfl G0.out ?_)
        | ((with_reducible (show wpList _ _ _ (Oper.mk (some 8) (Op.load 26 _) _ _ _ _ :: _) _ _)); refine wpList_load_g (by rfl) 26 _ rfl _ rfl G1.out ?_)
        | (go_at_call 144; refine (HH.out _ F0.out).mono ?_; rintro r w1 ⟨rfl, f1⟩; have g1 := ((B0.out.keep f1 (by simp)).gets HS.out).all; rw [HPV.out] at g1; have G1 := Lib.hid g1; clear g1; have F1 := Lib.hid (F0.out.trans f1 (by simp)); clear f1)
        | (go_at_call 128; refine (HC.out _ F1.out).mono ?_; rintro r w2 ⟨rfl, f2⟩))
      go_ret
      exact ⟨ret_bool (by rw [HR.out]; rfl), F1.out.trans f2 (by simp)⟩
    | true =>
      rw [hm] at HR hck
      simp only [if_true] at hck
      rw [hck] at HC
      clear hm hck
      go_enter Tryz.func104, Tryz.ntmps104
      go_wp2_with (first
        | ((with_reducible (show wpList _ _ _ (Oper.mk (some 5) (Op.load 26 _) _ _ _ _ :: _) _ _)); refine wpList_load_g (by rfl) 26 _ rfl _ rfl G0.out ?_)
        | ((with_reducible (show wpList _ _ _ (Oper.mk (some 8) (Op.load 26 _) _ _ _ _ :: _) _ _)); refine wpList_load_g (by rfl) 26 _ rfl _ rfl G1.out ?_)
        | (go_at_call 144; refine (HH.out _ F0.out).mono ?_; rintro r w1 ⟨rfl, f1⟩; have B1 := Lib.hid (B0.out.keep f1 (by simp)); have g1 := (B1.out.gets HS.out).all; rw [HPV.out] at g1; have G1 := Lib.hid g1; clear g1; have F1 := Lib.hid (F0.out.trans f1 (by simp)); clear f1)
        | (go_at_call 128; refine (HC.out _ F1.out).mono ?_; rintro r w2 ⟨rfl, f2⟩; have F2 := Lib.hid (F1.out.trans f2 (by simp)); have g2 := (B1.out.keep f2 (by simp)).gets HS.out; have c1 := g2.c1; have c2 := g2.c2; clear g2 f2))
      all_goals
        go_ret
        refine ⟨ret_bool ?_, F2.out⟩
        rw [HR.out]
        simp_all
theorem uv_box (v : Value) (u : Ub) : uv v u = .agg (uc v u).toArray := rfl
set_option maxHeartbeats 1000000 in
theorem mayBe_any (x : Value) (u : Ub) (w : World) (h : UbV w x u) (hl : u.root.ads.length ≤ 1000000) : Calls Tryz.prog 57 #[x] w fun r w' => r = .returned (.bool (mayUB u)) ∧ Frm [] w w' := by
  obtain ⟨a, cap, sp, rfl, hS, hw⟩ := id h
  have hR := fun W (f : Frm [] w W) => mayBeRoot_any _ u.root u.txg W (h.root.keep0 f) hl
  have b0 := UB.new w (.slice a u.root.ads.length cap) hw
  have f0 : Frm [] w (w.alloc (.cells (uc (.slice a u.root.ads.length cap) u).toArray 28)) := (Frm.refl [] w).alloc _
  have g0 := b0.gets
  have HM := Lib.hid (show mayUB u = (decide (1 ≤ u.txg ∧ u.txg ≤ 2147483648) && (rootB u.root u.txg && decide (0 ≤ u.len ∧ u.len ≤ 16384))) from rfl)
  have HB := Lib.hid b0
  have HR := Lib.hid hR
  have G0 := Lib.hid g0.root
  have c0 := g0.c0
  have c36 := g0.c36
  clear hR b0 g0 h hS
  rw [uv_box]
  generalize hA : (uc (.slice a u.root.ads.length cap) u).toArray = A at *
  generalize hq : rootB u.root u.txg = q at *
  go_enter Tryz.func57, Tryz.ntmps57
  go_upto_region 1 with fail
  generalize w.alloc (.cells A 28) = W at *
  have F0 := Lib.hid f0
  clear f0 hA hq
  by_cases h1 : 1 ≤ u.txg ∧ u.txg ≤ 2147483648
  · have e1 : (decide (1 ≤ u.txg) && decide (u.txg ≤ 2147483648)) = true := by simp [h1.1, h1.2]
    cases q with
    | true =>
      go_wp2_with (first
        | ((with_reducible (show wpList _ _ _ (Oper.mk _ (Op.load 26 _) _ _ _ _ :: _) _ _)); refine wpList_load_g (by rfl) 26 _ rfl _ rfl G0.out ?_)
        | (go_at_call 104; refine (HR.out _ F0.out).mono ?_; rintro r w1 ⟨rfl, f1⟩; have F1 := Lib.hid (F0.out.trans f1 (by simp)); have g1 := (HB.out.keep0 f1).gets; have d0 := g1.c0; have d36 := g1.c36; clear g1 f1)
        | (go_at_call 103; refine (within_any _ _ _ _).mono ?_; rintro r w2 ⟨rfl, rfl⟩; try rw [e1]))
      go_ret
      refine ⟨ret_bool ?_, F1.out⟩
      rw [HM.out, Bool.eq_iff_iff]
      simp [h1.1, h1.2]
    | false =>
      go_wp2_with (first
        | ((with_reducible (show wpList _ _ _ (Oper.mk _ (Op.load 26 _) _ _ _ _ :: _) _ _)); refine wpList_load_g (by rfl) 26 _ rfl _ rfl G0.out ?_)
        | (go_at_call 104; refine (HR.out _ F0.out).mono ?_; rintro r w1 ⟨rfl, f1⟩; have F1 := Lib.hid (F0.out.trans f1 (by simp)); clear f1)
        | (go_at_call 103; refine (within_any _ _ _ _).mono ?_; rintro r w2 ⟨rfl, rfl⟩; try rw [e1]))
      go_ret
      refine ⟨ret_bool ?_, F1.out⟩
      rw [HM.out]; simp
  · have e1 : (decide (1 ≤ u.txg) && decide (u.txg ≤ 2147483648)) = false := by simp; omega
    go_wp2_with (go_at_call 103; refine (within_any _ _ _ _).mono ?_; rintro r w2 ⟨rfl, rfl⟩; rw [e1])
    go_ret
    refine ⟨ret_bool ?_, F0.out⟩
    rw [HM.out]; simp [h1]
theorem Check_any (x : Value) (u : Ub) (w : World) (h : UbV w x u) (hl : u.root.ads.length ≤ 1000000) : Calls Tryz.prog 19 #[x] w fun r w' => r = .returned (.int .i64 (mayE u)) ∧ Frm [] w w' := by
  obtain ⟨a, cap, sp, rfl, hS, hw⟩ := id h
  have hM := fun W (f : Frm [] w W) => mayBe_any _ u W (h.keep0 f) hl
  have b0 := UB.new w (.slice a u.root.ads.length cap) hw
  have f0 : Frm [] w (w.alloc (.cells (uc (.slice a u.root.ads.length cap) u).toArray 28)) := (Frm.refl [] w).alloc _
  have HM := Lib.hid (hM _ f0)
  have G0 := Lib.hid b0.gets.all
  have HE := Lib.hid (show mayE u = if mayUB u = true then 0 else 2 from rfl)
  clear hM b0 h hS
  rw [uv_box] at HM G0 ⊢
  generalize (uc (.slice a u.root.ads.length cap) u).toArray = A at *
  go_enter Tryz.func19, Tryz.ntmps19
  go_upto_region 1 with fail
  generalize w.alloc (.cells A 28) = W at *
  have F0 := Lib.hid f0
  clear f0
  cases hq : mayUB u with
  | true =>
    rw [hq] at HM HE
    clear hq
    go_wp2_with (first
      | ((with_reducible (show wpList _ _ _ (Oper.mk _ (Op.load 28 _) _ _ _ _ :: _) _ _)); refine wpList_load_g (by rfl) 28 _ rfl _ rfl G0.out ?_)
      | (go_at_call 57; refine HM.out.mono ?_; rintro r w1 ⟨rfl, f1⟩))
    go_ret
    exact ⟨by rw [HE.out]; rfl, F0.out.trans f1 (by simp)⟩
  | false =>
    rw [hq] at HM HE
    clear hq
    go_wp2_with (first
      | ((with_reducible (show wpList _ _ _ (Oper.mk _ (Op.load 28 _) _ _ _ _ :: _) _ _)); refine wpList_load_g (by rfl) 28 _ rfl _ rfl G0.out ?_)
      | (go_at_call 57; refine HM.out.mono ?_; rintro r w1 ⟨rfl, f1⟩))
    go_ret
    exact ⟨by rw [HE.out]; rfl, F0.out.trans f1 (by simp)⟩
/-- Whether two are the same. -/
def sameU (u v : Ub) : Bool := u.txg == v.txg && (Pt.same u.root v.root && (u.len == v.len && u.pool == v.pool))
theorem sameU_iff {u v : Ub} : sameU u v = true ↔ u = v := by
  simp only [sameU, Bool.and_eq_true, beq_iff_eq, Pt.same_iff]
  exact ⟨fun ⟨a, b, c, d⟩ => Ub.ext' a b c d, fun h => by subst h; simp⟩
theorem sameU_refl (u : Ub) : sameU u u = true := sameU_iff.2 rfl
theorem eq24_g (s t : List UInt8) (hs : s.length = 32) (ht : t.length = 32) (W : World) : (binOp .eql 24 (idv s) (idv t)).run Tryz.prog W = .ok (.bool (s == t)) W := Pt.eql24 s t hs ht W
theorem wpList_eq24 {ops : Array Oper} {rest : List Oper} {op : Oper} {a : Act} {w : World} {Q : Exit → Act → World → Prop} (hw : Region.wanted op (yielded ops a.tmps) = true) (x y : Operand) (ho : op.op = .binOp .eql 24 x y 24) {s t : List UInt8} {q : Bool}
    (hx : a.eval x = idv s) (hy : a.eval y = idv t) (hs : s.length = 32) (ht : t.length = 32) (hq : (s == t) = q) (h : wpList Tryz.prog ops Q rest (a.put op.dst (.bool q)) w) : wpList Tryz.prog ops Q (op :: rest) a w :=
  wpList_step fun K hK => by
    have he : (execOp a.eval op).run Tryz.prog w = .ok (.value (.bool q)) w := by
      have hg := Pt.agg_guard .eql x y s t w
      have hl := eq24_g s t hs ht w
      rw [hq] at hl
      have hg2 : (eqGuard .eql 24 x y (idv s) (idv t)).run Tryz.prog w = .ok () w := hg
      simp [execOp, ho, hx, hy, hl, hg2, Result.andThen]
    rw [if_pos hw]
    unfold Oper.wp
    rw [he]
    exact hK _ _ h
end Go.Proofs.YtjdejhgfkjeeiaaGreatDoor
