/-
  Contracts of Less, Swap, Push, Pop of a queue, and how heap's calls reach them. No conditions but those that each theorem names.
-/
import Derived.Test.YtjdejhgfkjeeiaaGreatDoorGR
import Derived.Shelf.RegionOpenPlain
namespace Go.Proofs.YtjdejhgfkjeeiaaGreatDoor
open Go.RowKit
set_option linter.unusedVariables false
set_option linter.unusedSimpArgs false
set_option maxRecDepth 100000

open Kr (OwnE SlE Enco RowTys)
theorem OwnQ.at {w : World} {v : Value} {l : List En} {sp : List Value} (h : OwnQ w v l sp) (hp : 0 < l.length) : ∃ g cap, v = .slice (some ⟨g, 0, none⟩) l.length cap ∧ l.length ≤ cap := by
  obtain ⟨h1, ⟨h2, h3, h4⟩ | ⟨g, cap, h2, h3, h4, h5, h6⟩⟩ := h
  · omega
  · exact ⟨g, cap, h2, h3⟩
theorem OwnQ.cells {w : World} {g n cap : Nat} {l : List En} {sp : List Value} (h : OwnQ w (.slice (some ⟨g, 0, none⟩) n cap) l sp) (i : Nat) (hi : i < l.length) :
    w.cell? ⟨g, i * 2, none⟩ = some (.int .i64 (en l i).1) ∧ w.cell? ⟨g, i * 2 + 1, none⟩ = some (.string (sB (en l i).2)) ∧ w.frozen? ⟨g, i * 2, none⟩ = false ∧ w.frozen? ⟨g, i * 2 + 1, none⟩ = false := by
  have hb := OwnE.heap h
  have c0 := SlE.cell EEn h.sl i hi 0 (u := .int .i64 (en l i).1) (by rw [en_eq hi]; rfl)
  have c1 := SlE.cell EEn h.sl i hi 1 (u := .string (sB (en l i).2)) (by rw [en_eq hi]; rfl)
  simp only [Nat.zero_add, Nat.add_zero] at c0 c1
  exact ⟨c0, c1, frozen_of_heap hb _, frozen_of_heap hb _⟩
set_option maxHeartbeats 1000000 in
theorem LessQ_any (v : Value) (l : List En) (sp : List Value) (i j : Nat) (w : World) (h : OwnQ w v l sp) (hi : i < l.length) (hj : j < l.length) :
    Calls Tryz.prog 201 #[v, .int .i64 i, .int .i64 j] w fun e w' => e = .returned (.bool (ltE (en l i) (en l j))) ∧ Frm [] w w' := by
  obtain ⟨g, cap, rfl, _⟩ := OwnQ.at h (by omega)
  obtain ⟨c0, c1, _, _⟩ := OwnQ.cells h i hi
  obtain ⟨d0, d1, _, _⟩ := OwnQ.cells h j hj
  have HC := Lib.hid (fun W => compareE_any (en l i) (en l j) W)
  unfold vEn at HC
  unfold ltE
  generalize cmpE (en l i) (en l j) = c at *
  generalize (en l i).1 = x1 at *
  generalize (en l i).2 = x2 at *
  generalize (en l j).1 = y1 at *
  generalize (en l j).2 = y2 at *
  have hi' : (i : Int) < (l.length : Int) := by omega
  have hj' : (j : Int) < (l.length : Int) := by omega
  clear h hi hj
  go_enter Tryz.func201, Tryz.ntmps201
  go_upto_region 1 with (fail)
  refine wp_region_still_tail 8 (by kernel_rfl) (by kernel_rfl) ?_
  simp only [List.take_succ_cons, List.take_zero, List.drop_succ_cons, List.drop_zero]
  change wpStill _ _ (World.drew _) _ _ _
  repeat still_step
  refine wpStill_nil ?_
  change wpList _ _ _ _ _ (World.drew _)
  go_wp2_with (go_at_call 202; refine (HC.out _).mono ?_; rintro r w1 ⟨rfl, f1⟩)
  go_ret
  exact ⟨rfl, ((Frm.refl [] w).drew).trans f1 (by simp)⟩
/-- Two entries exchanged, cell by cell. -/
def exQ (W : World) (g i j : Nat) (x y : En) : World :=
  (((W.setCell ⟨g, i * 2, none⟩ (.int .i64 y.1)).setCell ⟨g, i * 2 + 1, none⟩ (.string (sB y.2))).setCell ⟨g, j * 2, none⟩ (.int .i64 x.1)).setCell ⟨g, j * 2 + 1, none⟩ (.string (sB x.2))
theorem OwnQ.put {w : World} {g n cap : Nat} {l : List En} {sp : List Value} (h : OwnQ w (.slice (some ⟨g, 0, none⟩) n cap) l sp) (i : Nat) (hi : i < l.length) (y : En) :
    OwnQ ((w.setCell ⟨g, i * 2, none⟩ (.int .i64 y.1)).setCell ⟨g, i * 2 + 1, none⟩ (.string (sB y.2))) (.slice (some ⟨g, 0, none⟩) n cap) (l.set i y) sp := by
  have h1 := OwnE.store EEn h i 0 hi (by omega) (y.1, (l[i]).2) (.int .i64 y.1) rfl
  have h2 := OwnE.store EEn h1 i 1 (by simpa using hi) (by omega) y (.string (sB y.2)) (by simp [eEn])
  rw [List.set_set, Nat.add_zero] at h2
  exact h2
theorem OwnQ.ex {w : World} {g n cap : Nat} {l : List En} {sp : List Value} (h : OwnQ w (.slice (some ⟨g, 0, none⟩) n cap) l sp) (i j : Nat) (hi : i < l.length) (hj : j < l.length) :
    OwnQ (exQ w g i j (en l i) (en l j)) (.slice (some ⟨g, 0, none⟩) n cap) (swp l i j) sp :=
  OwnQ.put (OwnQ.put h i hi (en l j)) j (by simpa using hj) (en l i)
theorem exQ_frm (W : World) (g i j : Nat) (x y : En) : Frm [g] W (exQ W g i j x y) :=
  ((((Frm.refl [g] W).setCell _ _ (.inl (by simp))).setCell _ _ (.inl (by simp))).setCell _ _ (.inl (by simp))).setCell _ _ (.inl (by simp))
set_option maxHeartbeats 4000000 in
theorem SwapQ_any (v : Value) (l : List En) (sp : List Value) (i j : Nat) (w : World) (h : OwnQ w v l sp) (hi : i < l.length) (hj : j < l.length) :
    Calls Tryz.prog 125 #[v, .int .i64 i, .int .i64 j] w fun e w' => e = .returned (.tuple #[]) ∧ OwnQ w' v (swp l i j) sp ∧ Frm (blk v) w w' := by
  obtain ⟨g, cap, rfl, _⟩ := OwnQ.at h (by omega)
  obtain ⟨c0, c1, z0, z1⟩ := OwnQ.cells h i hi
  obtain ⟨d0, d1, y0, y1⟩ := OwnQ.cells h j hj
  have HE := Lib.hid (OwnQ.ex h i j hi hj)
  have HF := Lib.hid (exQ_frm w g i j (en l i) (en l j))
  unfold exQ at HE HF
  generalize (en l i).1 = x1 at *
  generalize (en l i).2 = x2 at *
  generalize (en l j).1 = u1 at *
  generalize (en l j).2 = u2 at *
  have hi' : (i : Int) < (l.length : Int) := by omega
  have hj' : (j : Int) < (l.length : Int) := by omega
  clear h hi hj
  have hmix : Tryz.prog.follows .mixedOrders = true := by kernel_rfl
  by_cases hij : i = j
  · subst hij
    obtain rfl : x1 = u1 := by rw [c0] at d0; simpa using d0
    have e2 : x2 = u2 := by rw [c1] at d1; exact sB_inj (by simpa using d1)
    rw [← e2] at HE HF
    clear d0 d1 y0 y1 e2
    go_enter Tryz.func125, Tryz.ntmps125
    go_big_region_o
    go_wp2_with fail
    go_end0
    exact ⟨rfl, HE.out.keep0 ((Frm.refl [] _).drew), HF.out.drew⟩
  · have n1 : ¬ i * 2 = j * 2 := by omega
    have n2 : ¬ i * 2 + 1 = j * 2 := by omega
    have n3 : ¬ i * 2 = j * 2 + 1 := by omega
    have n4 : ¬ j * 2 = i * 2 := by omega
    have n5 : ¬ j * 2 + 1 = i * 2 := by omega
    have n6 : ¬ j * 2 = i * 2 + 1 := by omega
    go_enter Tryz.func125, Tryz.ntmps125
    go_big_region_o
    go_wp2_with fail
    go_end0
    exact ⟨rfl, HE.out.keep0 ((Frm.refl [] _).drew), HF.out.drew⟩
theorem mAt (g : Nat) (W : World) (x : Value) (h : W.cell? ⟨g, 0, none⟩ = some x) : (loadVar 148 ⟨g, 0, none⟩).run Tryz.prog W = .ok x W := by
  simp [loadVar, isAgg, run_underlying Tryz.underlying148, h, go_sem]
theorem mLess0 (g : Nat) (W : World) : (Go.method 352 114 (.pointer (some ⟨g, 0, none⟩)) "Less").run Tryz.prog W = (do let x ← loadVar 148 ⟨g, 0, none⟩; pure (201, x)).run Tryz.prog W := by kernel_rfl
theorem mSwap0 (g : Nat) (W : World) : (Go.method 352 114 (.pointer (some ⟨g, 0, none⟩)) "Swap").run Tryz.prog W = (do let x ← loadVar 148 ⟨g, 0, none⟩; pure (125, x)).run Tryz.prog W := by kernel_rfl
theorem mLen0 (g : Nat) (W : World) : (Go.method 352 114 (.pointer (some ⟨g, 0, none⟩)) "Len").run Tryz.prog W = (do let x ← loadVar 148 ⟨g, 0, none⟩; pure (86, x)).run Tryz.prog W := by kernel_rfl
theorem mLess (g : Nat) (W : World) (x : Value) (h : W.cell? ⟨g, 0, none⟩ = some x) : (Go.method 352 114 (.pointer (some ⟨g, 0, none⟩)) "Less").run Tryz.prog W = .ok (201, x) W := by
  rw [mLess0]; simp [Sem.run_bind, mAt g W x h]
theorem mSwap (g : Nat) (W : World) (x : Value) (h : W.cell? ⟨g, 0, none⟩ = some x) : (Go.method 352 114 (.pointer (some ⟨g, 0, none⟩)) "Swap").run Tryz.prog W = .ok (125, x) W := by
  rw [mSwap0]; simp [Sem.run_bind, mAt g W x h]
theorem mLen (g : Nat) (W : World) (x : Value) (h : W.cell? ⟨g, 0, none⟩ = some x) : (Go.method 352 114 (.pointer (some ⟨g, 0, none⟩)) "Len").run Tryz.prog W = .ok (86, x) W := by
  rw [mLen0]; simp [Sem.run_bind, mAt g W x h]
end Go.Proofs.YtjdejhgfkjeeiaaGreatDoor
