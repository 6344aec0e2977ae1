/-
  The walk of FieldNone, its first part; no conditions but that the act can be read.
-/
import Derived.Test.YtappmjophnhdaaaBF
namespace Go.Proofs.Ytappmjophnhdaaa
open Go.RowKit
set_option linter.unusedVariables false
set_option linter.unusedSimpArgs false

/-- A list of one act in a block of its own. -/
theorem acts_one (a : Option Addr) (cap : Nat) (msp : List UInt8) (x : Act0) (b : Nat) (w : World) (hS : SlB w (.slice a x.m.length cap) x.m msp) (hB : ∀ i ∈ blkR (.slice a x.m.length cap), i < w.heap.size) (hn : x.n ≤ 9223372036854775807)
    (hb : w.heap[b]? = some (.cells #[.int .i64 x.kind, .int .i64 x.n, .int .i64 x.size, .string x.s, .slice a x.m.length cap] 34 (0, 0))) :
    Acts w.heap.size w (.slice (some ⟨b, 0, none⟩) 1 1) [x] := by
  refine ⟨⟨_, _, rfl⟩, by simp, fun k hk => ?_⟩
  obtain rfl : k = 0 := by simpa using hk
  refine ⟨b, 0, a, cap, msp, ⟨1, rfl⟩, lt_heap hb, ?_, ?_, ?_, ?_, ?_, hS, hB, hn⟩
  all_goals (rw [cell_of_heap hb]; rfl)
set_option maxRecDepth 100000 in
set_option maxHeartbeats 4000000 in
theorem none_long (a : Option Addr) (cap : Nat) (msp : List UInt8) (x : Act0) (g0 g1 g2 g3 : Int) (w : World) (hS : SlB w (.slice a x.m.length cap) x.m msp) (hB : ∀ i ∈ blkR (.slice a x.m.length cap), i < w.heap.size) (hn : x.n ≤ 9223372036854775807) (hl : longB [x] = true) :
    Calls Try.prog 5 #[.agg #[.int .i64 x.kind, .int .i64 x.n, .int .i64 x.size, .string x.s, .slice a x.m.length cap], .agg #[.int .i64 g0, .int .i64 g1, .int .i64 g2, .int .i64 g3]] w fun r w' => YesF w r w' := by
  have f3 : ∀ x y z, Frm [] w (((w.alloc x).alloc y).alloc z) := fun x y z => (((Frm.refl [] w).alloc _).alloc _).alloc _
  have HF := Lib.hid f3
  have HO := Lib.hid (fun x1 y1 => acts_one a cap msp x (w.heap.size + 2) (((w.alloc x1).alloc y1).alloc (.cells #[.int .i64 x.kind, .int .i64 x.n, .int .i64 x.size, .string x.s, .slice a x.m.length cap] 34)) (hS.keep (f3 _ _ _) (by simp)) (fun i hi => Nat.lt_of_lt_of_le (hB i hi) (f3 _ _ _).size) hn (by have := heap_alloc_new ((w.alloc x1).alloc y1) (.cells #[.int .i64 x.kind, .int .i64 x.n, .int .i64 x.size, .string x.s, .slice a x.m.length cap] 34); simpa using this))
  have HS := Lib.hid hS
  clear hS hB f3 hn
  go_enter Try.func5, Try.ntmps5
  go_wp2_with fail
  refine (long_any _ _ [x] _ (HO.out _ _)).mono ?_
  rw [hl]
  rintro r w1 ⟨rfl, hw⟩
  subst hw
  go_wp2_with fail
  refine (awake_any _).mono ?_
  rintro r wa ⟨rfl, fa⟩
  go_wp2_with fail
  refine bodyPost_ret (results_tmp rfl _ _ _) rfl ?_
  exact ⟨rfl, (HF.out _ _ _).trans fa (by simp)⟩
structure NN (x : Act0) (v4 : Value) (g1 g2 g3 : Int) (w wr : World) : Prop where
  f : Frm [] w wr
  a0 : wr.cell? ⟨w.heap.size, 0, none⟩ = some (.int .i64 x.kind)
  a1 : wr.cell? ⟨w.heap.size, 1, none⟩ = some (.int .i64 x.n)
  a2 : wr.cell? ⟨w.heap.size, 2, none⟩ = some (.int .i64 x.size)
  a3 : wr.cell? ⟨w.heap.size, 3, none⟩ = some (.string x.s)
  a4 : wr.cell? ⟨w.heap.size, 4, none⟩ = some v4
  b1 : wr.cell? ⟨w.heap.size + 1, 1, none⟩ = some (.int .i64 g1)
  b2 : wr.cell? ⟨w.heap.size + 1, 2, none⟩ = some (.int .i64 g2)
  b3 : wr.cell? ⟨w.heap.size + 1, 3, none⟩ = some (.int .i64 g3)
  c0 : wr.cell? ⟨w.heap.size + 4, 0, none⟩ = some (.pointer none)
  c1 : wr.cell? ⟨w.heap.size + 4, 1, none⟩ = some (.pointer (some ⟨w.heap.size + 3, 0, none⟩))
  d0 : wr.cell? ⟨w.heap.size + 6, 0, none⟩ = some (.pointer none)
  d1 : wr.cell? ⟨w.heap.size + 6, 1, none⟩ = some (.pointer (some ⟨w.heap.size + 5, 0, none⟩))
  e1 : wr.cell? ⟨w.heap.size + 3, 0, none⟩ = some (.pointer none)
  e2 : wr.cell? ⟨w.heap.size + 5, 0, none⟩ = some (.pointer none)
theorem NN.keep {x : Act0} {v4 : Value} {g1 g2 g3 : Int} {w wr w' : World} (h : NN x v4 g1 g2 g3 w wr) (f : Frm [] wr w') : NN x v4 g1 g2 g3 w w' :=
  ⟨h.f.trans f (by simp), f.cell h.a0 (by simp), f.cell h.a1 (by simp), f.cell h.a2 (by simp), f.cell h.a3 (by simp), f.cell h.a4 (by simp), f.cell h.b1 (by simp), f.cell h.b2 (by simp), f.cell h.b3 (by simp),
    f.cell h.c0 (by simp), f.cell h.c1 (by simp), f.cell h.d0 (by simp), f.cell h.d1 (by simp), f.cell h.e1 (by simp), f.cell h.e2 (by simp)⟩
def NNRel (x : Act0) (v4 : Value) (g1 g2 g3 : Int) (w : World) (c : Value) (wr : World) : Prop := ∃ k : Nat, k ≤ 2 ∧ c = .int .i64 k ∧ NN x v4 g1 g2 g3 w wr
end Go.Proofs.Ytappmjophnhdaaa
