/-
  Rows of entries and queues of them: what they lie as; contracts of Len, Swap, compare, Less, Push, Pop. No conditions but those that each theorem names.
-/
import Derived.Test.YtjdejhgfkjeeiaaGreatDoorGP
import Derived.Test.YtjdejhgfkjeeiaaGreatDoorKR
import Derived.Test.YtjdejhgfkjeeiaaGreatDoorChecked
import Derived.WalkHide
import Derived.StillTailTactics
import Derived.OpenShut
import Derived.OrdersHeld
import Derived.BigQuiet
import Derived.Deep.CutBlock
import Derived.Deep.DeepCutAuto
import Derived.Deep.MidRow
import Derived.Deep.QuietTactic
import Derived.Deep.RegionLaw
import Derived.Deep.RegionWith
import Derived.Deep.RegionHeld3
import Derived.Deep.Slices
import Derived.Lib.Bytealg
import Derived.Laws.Externs
import Derived.Lib.Small
namespace Go.Proofs.YtjdejhgfkjeeiaaGreatDoor
open Go.RowKit
set_option linter.unusedVariables false
set_option linter.unusedSimpArgs false
set_option maxRecDepth 100000

open Kr (OwnE SlE Enco RowTys)
/-- An entry, as two cells. -/
def sB (l : List UInt8) : ByteArray := ⟨l.toArray⟩
theorem sB_list (l : List UInt8) : (sB l).data.toList = l := rfl
theorem sB_inj {l m : List UInt8} (h : sB l = sB m) : l = m := by have := congrArg (fun x : ByteArray => x.data.toList) h; exact this
def eEn (x : En) : List Value := [.int .i64 x.1, .string (sB x.2)]
def vEn (x : En) : Value := .agg #[.int .i64 x.1, .string (sB x.2)]
theorem EEn : Enco eEn 2 := ⟨fun _ => rfl, fun x u hu => by simp [eEn] at hu; rcases hu with rfl | rfl <;> rfl, by omega, fun x y h => by
  simp only [eEn, List.cons.injEq, Value.int.injEq, Value.string.injEq, true_and, and_true] at h
  exact Prod.ext h.1 (sB_inj h.2)⟩
theorem tysEn : RowTys Tryz.prog 148 118 2 24 := ⟨by kernel_rfl, .agg #[.int .i64 0, .string (sB [])], rfl, by kernel_rfl⟩
abbrev OwnQ (w : World) (v : Value) (l : List En) (sp : List Value) : Prop := OwnE eEn 2 118 w v l sp
/-- A queue: its variable, its row. -/
structure Qu (w : World) (g : Nat) (v : Value) (l : List En) (sp : List Value) : Prop where
  box : w.heap[g]? = some (.cells #[v] 148 (0, 0))
  own : OwnQ w v l sp
  ne : ∀ i ∈ blk v, i ≠ g
theorem Qu.cell {w : World} {g : Nat} {v : Value} {l : List En} {sp : List Value} (h : Qu w g v l sp) : w.cell? ⟨g, 0, none⟩ = some v := by rw [cell_of_heap h.box]; rfl
theorem Qu.frozen {w : World} {g : Nat} {v : Value} {l : List En} {sp : List Value} (h : Qu w g v l sp) : w.frozen? ⟨g, 0, none⟩ = false := frozen_of_heap h.box 0
theorem Qu.lt {w : World} {g : Nat} {v : Value} {l : List En} {sp : List Value} (h : Qu w g v l sp) : g < w.heap.size := World.block_lt_of_cell? _ _ h.cell
theorem Qu.keep0 {w w' : World} {g : Nat} {v : Value} {l : List En} {sp : List Value} (h : Qu w g v l sp) (f : Frm [] w w') : Qu w' g v l sp := ⟨f.heap h.box (by simp), h.own.keep0 f, h.ne⟩
theorem OwnQ.len {w : World} {a : Option Addr} {n cap : Nat} {l : List En} {sp : List Value} (h : OwnQ w (.slice a n cap) l sp) : n = l.length := by
  obtain ⟨a', c', e, _, _⟩ := h.sl.form
  injection e
theorem Len_any (a : Option Addr) (n cap : Nat) (w : World) : Calls Tryz.prog 86 #[.slice a n cap] w fun e w' => e = .returned (.int .i64 n) ∧ w' = w := by
  go_enter Tryz.func86, Tryz.ntmps86
  go_wp2
  go_ret
  exact ⟨rfl, rfl⟩
theorem isNaN_any (x : Int) (w : World) : Calls Tryz.prog 206 #[.int .i64 x] w fun e w' => e = .returned (.bool false) ∧ w' = w := by
  go_enter Tryz.func206, Tryz.ntmps206
  go_wp2
  go_ret
  exact ⟨by simp, rfl⟩
set_option maxHeartbeats 1000000 in
theorem Compare_any (x y : Int) (w : World) : Calls Tryz.prog 204 #[.int .i64 x, .int .i64 y] w fun e w' => e = .returned (.int .i64 (Lib.compareInt x y)) ∧ w' = w := by
  go_enter Tryz.func204, Tryz.ntmps204
  go_wp2_with (go_at_call 206; refine (isNaN_any _ _).mono ?_; rintro e w' ⟨rfl, hw⟩; rw [hw])
  all_goals (go_ret; refine ⟨?_, rfl⟩; unfold Lib.compareInt; (repeat' split) <;> first | rfl | (exfalso; omega))
theorem Or_left (g : Nat) (a b : Int) (w : World) (h0 : w.cell? ⟨g, 0, none⟩ = some (.int .i64 a)) (h1 : w.cell? ⟨g, 1, none⟩ = some (.int .i64 b)) (ha : a ≠ 0) :
    Calls Tryz.prog 203 #[.slice (some ⟨g, 0, none⟩) 2 2] w fun e w' => e = .returned (.int .i64 a) ∧ w' = w := by
  go_enter Tryz.func203, Tryz.ntmps203
  go_wp2
  refine wp_loop_rounds 1 ?_
  rw [rounds_succ]
  go_wp2
  go_ret
  exact ⟨rfl, rfl⟩
theorem Or_right (g : Nat) (b : Int) (w : World) (h0 : w.cell? ⟨g, 0, none⟩ = some (.int .i64 0)) (h1 : w.cell? ⟨g, 1, none⟩ = some (.int .i64 b)) :
    Calls Tryz.prog 203 #[.slice (some ⟨g, 0, none⟩) 2 2] w fun e w' => e = .returned (.int .i64 b) ∧ w' = w := by
  by_cases hb : b = 0
  · subst hb
    go_enter Tryz.func203, Tryz.ntmps203
    go_wp2
    refine wp_loop_rounds 3 ?_
    rw [rounds_succ]
    go_wp2
    rw [rounds_succ]
    go_wp2
    rw [rounds_succ]
    go_wp2
    go_ret
    exact ⟨rfl, rfl⟩
  · go_enter Tryz.func203, Tryz.ntmps203
    go_wp2
    refine wp_loop_rounds 2 ?_
    rw [rounds_succ]
    go_wp2
    rw [rounds_succ]
    go_wp2
    go_ret
    exact ⟨rfl, rfl⟩
def orI (a b : Int) : Int := if a ≠ 0 then a else b
theorem Or_any (g : Nat) (a b : Int) (w : World) (h0 : w.cell? ⟨g, 0, none⟩ = some (.int .i64 a)) (h1 : w.cell? ⟨g, 1, none⟩ = some (.int .i64 b)) :
    Calls Tryz.prog 203 #[.slice (some ⟨g, 0, none⟩) 2 2] w fun e w' => e = .returned (.int .i64 (orI a b)) ∧ w' = w := by
  unfold orI
  by_cases ha : a = 0
  · subst ha
    exact Or_right g b w h0 h1
  · rw [if_pos ha]
    exact Or_left g a b w h0 h1 ha
theorem Or_new (W : World) (g : Nat) (hg : g = W.heap.size) (a b : Int) :
    Calls Tryz.prog 203 #[.slice (some ⟨g, 0, none⟩) 2 2] ((W.alloc (.cells #[.int .i64 a, .int .i64 b] 3)).drew) fun e w' => e = .returned (.int .i64 (orI a b)) ∧ w' = ((W.alloc (.cells #[.int .i64 a, .int .i64 b] 3)).drew) := by
  subst hg
  have h := heap_alloc_new W (.cells #[.int .i64 a, .int .i64 b] 3)
  exact Or_any _ a b _ (by rw [World.cell?_drew, cell_of_heap h]; rfl) (by rw [World.cell?_drew, cell_of_heap h]; rfl)
theorem call208 (a b : ByteArray) (w : World) : (callFunc 208 #[.string a, .string b]).run Tryz.prog w = .ok (.value (.int .i64 (Lib.compareBytes a.data.toList b.data.toList))) w := by
  rw [run_callFunc_extern Tryz.func208 (by kernel_rfl) (by kernel_rfl) (by kernel_rfl) (by kernel_rfl)]
  rw [Lib.run_compareString]
  rfl
theorem CmpString_any (a b : ByteArray) (w : World) : Calls Tryz.prog 207 #[.string a, .string b] w fun r w' => r = .returned (.int .i64 (Lib.compareBytes a.data.toList b.data.toList)) ∧ w' = w := by
  have hc := call208 a b w
  go_enter Tryz.func207, Tryz.ntmps207
  go_wp2
  go_ret
  exact ⟨rfl, rfl⟩
theorem StrCmp_any (a b : ByteArray) (w : World) : Calls Tryz.prog 205 #[.string a, .string b] w fun r w' => r = .returned (.int .i64 (Lib.compareBytes a.data.toList b.data.toList)) ∧ w' = w := by
  go_enter Tryz.func205, Tryz.ntmps205
  go_wp2_with (go_at_call 207; refine (CmpString_any _ _ _).mono ?_; rintro r w' ⟨rfl, hw⟩; rw [hw])
  go_ret
  exact ⟨rfl, rfl⟩
theorem cmpE_or (x y : En) : cmpE x y = orI (Lib.compareInt y.1 x.1) (Lib.compareBytes x.2 y.2) := by
  unfold cmpE orI Lib.compareInt
  by_cases h1 : y.1 < x.1
  · simp [h1]
  · by_cases h2 : x.1 < y.1
    · simp [h1, h2]
    · simp [h1, h2]
set_option maxHeartbeats 1000000 in
theorem compareE_any (x y : En) (w : World) : Calls Tryz.prog 202 #[vEn x, vEn y] w fun e w' => e = .returned (.int .i64 (cmpE x y)) ∧ Frm [] w w' := by
  rw [cmpE_or]
  have hC1 := fun W => Compare_any y.1 x.1 W
  have hC2 := fun W => StrCmp_any (sB x.2) (sB y.2) W
  rw [sB_list, sB_list] at hC2
  generalize Lib.compareInt y.1 x.1 = c1 at *
  generalize Lib.compareBytes x.2 y.2 = c2 at *
  have HC1 := Lib.hid hC1
  have HC2 := Lib.hid hC2
  clear hC1 hC2
  unfold vEn
  go_enter Tryz.func202, Tryz.ntmps202
  go_upto_region 1 with (fail)
  refine wp_region_still_tail 10 (by kernel_rfl) (by kernel_rfl) ?_
  simp only [List.take_succ_cons, List.take_zero, List.drop_succ_cons, List.drop_zero]
  change wpStill _ _ (World.drew _) _ _ _
  iterate 4 still_step
  still_call (HC1.out _)
  iterate 4 still_step
  still_call (HC2.out _)
  refine wpStill_nil ?_
  change wpList _ _ _ _ _ (World.drew _)
  go_wp2_with fail
  refine (Or_new _ _ (by simp) _ _).mono ?_
  rintro r w1 ⟨rfl, rfl⟩
  go_wp2_with fail
  go_ret
  exact ⟨rfl, ((((Frm.refl [] w).alloc _).alloc _).alloc _).drew⟩
end Go.Proofs.YtjdejhgfkjeeiaaGreatDoor
