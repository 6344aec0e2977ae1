/-
  The chapter's examples that fail, and readers of literal bytes; no conditions but those that each theorem names.
-/
import Derived.Test.YtappmjophnhdaaaAA
namespace Go.Proofs.Ytappmjophnhdaaa
open Go.RowKit
set_option linter.unusedVariables false
set_option linter.unusedSimpArgs false

def k1 : List Act0 := [⟨0, 256, 1, ByteArray.empty, []⟩]
def k2 : List Act0 := [⟨0, 1, 8, ByteArray.empty, []⟩]
def k3 : List Act0 := [⟨1, 0, 1, ⟨#[97, 98]⟩, []⟩]
def k4 : List Act0 := [⟨2, 0, 0, ByteArray.empty, [1, 2, 3]⟩, ⟨3, 0, 2, ByteArray.empty, []⟩]
theorem k1_steps : steps k1 ([], 0) = ([], 5) := by kernel_rfl
theorem k2_steps : steps k2 ([], 0) = ([], 2) := by kernel_rfl
theorem k3_steps : steps k3 ([], 0) = ([], 3) := by kernel_rfl
theorem k4_steps : steps k4 ([], 0) = ([1, 2, 3], 2) := by kernel_rfl
def c1 : List Value := [.int .i64 0, .int .i64 256, .int .i64 1, .string ⟨#[]⟩, .slice none 0 0]
def c2 : List Value := [.int .i64 0, .int .i64 1, .int .i64 8, .string ⟨#[]⟩, .slice none 0 0]
def c3 : List Value := [.int .i64 1, .int .i64 0, .int .i64 1, .string ⟨#[97, 98]⟩, .slice none 0 0]
def c4 (w : World) : List Value := [.int .i64 2, .int .i64 0, .int .i64 0, .string ⟨#[]⟩, .slice (some ⟨w.heap.size, 0, none⟩) 3 3, .int .i64 3, .int .i64 0, .int .i64 2, .string ⟨#[]⟩, .slice none 0 0]
def c4b : Array Value := #[.int .u8 1, .int .u8 2, .int .u8 3]
def YesF (w : World) (r : Ending) (w' : World) : Prop := r = .returned (.bool true) ∧ Frm [] w w'
theorem fk1 (w : World) : Calls Try.prog 34 #[.int .i64 5, .slice (some ⟨w.heap.size, 0, none⟩) 1 1] (w.alloc (.cells c1.toArray 34)) fun r w' => YesF w r w' := by
  refine (fails_true (.slice (some ⟨w.heap.size, 0, none⟩) k1.length 1) k1 _ _ 5 (actsOf k1 c1 (by simp) (heap_alloc_new _ _) (fun k hk => ?_) (by decide) 1) k1_steps (by decide)).mono fun r w' ⟨h1, h2⟩ => ⟨h1, ((Frm.refl _ _).alloc _).trans h2 (by simp)⟩
  match k, hk with
  | 0, _ => exact ⟨rfl, rfl, rfl, rfl, none, 0, [], rfl, nilAct _, by simp [blkR], by simp [k1], by simp [k1]⟩
theorem fk2 (w : World) : Calls Try.prog 34 #[.int .i64 2, .slice (some ⟨w.heap.size, 0, none⟩) 1 1] (w.alloc (.cells c2.toArray 34)) fun r w' => YesF w r w' := by
  refine (fails_true (.slice (some ⟨w.heap.size, 0, none⟩) k2.length 1) k2 _ _ 2 (actsOf k2 c2 (by simp) (heap_alloc_new _ _) (fun k hk => ?_) (by decide) 1) k2_steps (by decide)).mono fun r w' ⟨h1, h2⟩ => ⟨h1, ((Frm.refl _ _).alloc _).trans h2 (by simp)⟩
  match k, hk with
  | 0, _ => exact ⟨rfl, rfl, rfl, rfl, none, 0, [], rfl, nilAct _, by simp [blkR], by simp [k2], by simp [k2]⟩
theorem fk3 (w : World) : Calls Try.prog 34 #[.int .i64 3, .slice (some ⟨w.heap.size, 0, none⟩) 1 1] (w.alloc (.cells c3.toArray 34)) fun r w' => YesF w r w' := by
  refine (fails_true (.slice (some ⟨w.heap.size, 0, none⟩) k3.length 1) k3 _ _ 3 (actsOf k3 c3 (by simp) (heap_alloc_new _ _) (fun k hk => ?_) (by decide) 1) k3_steps (by decide)).mono fun r w' ⟨h1, h2⟩ => ⟨h1, ((Frm.refl _ _).alloc _).trans h2 (by simp)⟩
  match k, hk with
  | 0, _ => exact ⟨rfl, rfl, rfl, rfl, none, 0, [], rfl, nilAct _, by simp [blkR], by simp [k3], by simp [k3]⟩
theorem fk4 (w : World) : Calls Try.prog 34 #[.int .i64 2, .slice (some ⟨w.heap.size + 1, 0, none⟩) 2 2] ((w.alloc (.cells c4b 5)).alloc (.cells (c4 w).toArray 34)) fun r w' => YesF w r w' := by
  have hb : SlB ((w.alloc (.cells c4b 5)).alloc (.cells (c4 w).toArray 34)) (.slice (some ⟨w.heap.size, 0, none⟩) 3 3) [1, 2, 3] [] := (lit_bytes w [1, 2, 3] c4b rfl (by decide)).keep ((Frm.refl [] _).alloc _) (by simp)
  have hl : ((w.alloc (.cells c4b 5)).alloc (.cells (c4 w).toArray 34)).heap[w.heap.size + 1]? = some (.cells (c4 w).toArray 34 (0, 0)) := heap_alloc_at (by simp)
  refine (fails_true (.slice (some ⟨w.heap.size + 1, 0, none⟩) k4.length 2) k4 _ _ 2 (actsOf k4 (c4 w) (by simp) hl (fun k hk => ?_) (by decide) 2) k4_steps (by decide)).mono fun r w' ⟨h1, h2⟩ => ⟨h1, (((Frm.refl _ _).alloc _).alloc _).trans h2 (by simp)⟩
  match k, hk with
  | 0, _ => exact ⟨rfl, rfl, rfl, rfl, some ⟨w.heap.size, 0, none⟩, 3, [], rfl, hb, by simp [blkR, k4]; omega, by simp [k4], by simp [k4]⟩
  | 1, _ => exact ⟨rfl, rfl, rfl, rfl, none, 0, [], rfl, nilAct _, by simp [blkR], by simp [k4], by simp [k4]⟩
/-- A reader between two bounds of the heap. -/
structure RdIn (lo hi : Nat) (w : World) (br : Nat) (v : Value) (l sp : List UInt8) (s : Nat × Int × Int) : Prop where
  rd : Rd w br v l sp s.1 s.2.1 s.2.2
  b1 : lo ≤ br
  b2 : br < hi
  v1 : ∀ k ∈ blk v, lo ≤ k ∧ k < hi
theorem RdIn.keep {lo hi : Nat} {w w' : World} {br : Nat} {v : Value} {l sp : List UInt8} {s : Nat × Int × Int} {L : List Nat} (h : RdIn lo hi w br v l sp s) (f : Frm L w w') (hL : ∀ k ∈ L, k < lo ∨ hi ≤ k) : RdIn lo hi w' br v l sp s :=
  ⟨h.rd.keep f (fun hm => by have := hL _ hm; have := h.b1; have := h.b2; omega) (fun k hk hm => by have := hL _ hm; have := h.v1 k hk; omega), h.b1, h.b2, h.v1⟩
theorem RdIn.to {lo hi : Nat} {w w' : World} {br : Nat} {v : Value} {l sp : List UInt8} {s s' : Nat × Int × Int} (h : RdIn lo hi w br v l sp s) (t : RdTo w br v l sp s' w') : RdIn lo hi w' br v l sp s' := ⟨t.1, h.b1, h.b2, h.v1⟩
theorem open_lit (w : World) (l : List UInt8) (cs : Array Value) (hcs : cs = (bvs l).toArray) (hl : l.length ≤ 1000) :
    Calls Try.prog 20 #[.slice (some ⟨w.heap.size, 0, none⟩) l.length l.length] (w.alloc (.cells cs 5)) fun r w' => ∃ br v sp, r = .returned (.pointer (some ⟨br, 0, none⟩)) ∧ RdIn w.heap.size w'.heap.size w' br v l sp (0, 0, 0) ∧ Frm [] w w' := by
  refine (Open_any _ l [] _ (lit_bytes w l cs hcs hl) (by omega)).mono ?_
  rintro r w' ⟨br, a, cap, sp, rfl, h1, h2, h3, h4⟩
  have := h2.size
  simp at h3
  refine ⟨br, _, sp, rfl, ⟨h1, by omega, h1.lt br (by simp), fun k hk => ⟨?_, h1.lt k (List.mem_cons_of_mem _ hk)⟩⟩, ((Frm.refl _ _).alloc _).trans h2 (by simp)⟩
  have := h4 k hk
  simp at this
  omega
end Go.Proofs.Ytappmjophnhdaaa
