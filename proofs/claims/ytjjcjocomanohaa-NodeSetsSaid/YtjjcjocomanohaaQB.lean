/-
  Pointers that were handed in, in boxes of their own. No conditions but those that each theorem names.
-/
import Derived.Test.YtjjcjocomanohaaPS
import Derived.Test.YtjjcjocomanohaaPT
namespace Go.Proofs.Ytjjcjocomanohaa
open Go.RowKit
set_option linter.unusedVariables false
set_option linter.unusedSimpArgs false
set_option maxRecDepth 100000

/-- A box that holds a pointer. -/
def Boxed (w : World) (g : Nat) (x : Value) (p : Pt) : Prop := ∃ a cap, x = pv (.slice a p.ads.length cap) p.b p.l p.s ∧ PB w g (.slice a p.ads.length cap) p.b p.l p.s ∧ p.s.length = 32
theorem Boxed.load {w : World} {g : Nat} {x : Value} {p : Pt} (h : Boxed w g x p) : (Instr.loadAt 26 (.pointer (some ⟨g, 0, none⟩))).run Try.prog w = .ok x w := by
  obtain ⟨a, cap, rfl, h1, h2⟩ := h
  exact (h1.gets h2).all
theorem Boxed.c0 {w : World} {g : Nat} {x : Value} {p : Pt} (h : Boxed w g x p) : ∃ a cap, w.cell? ⟨g, 0, none⟩ = some (.slice a p.ads.length cap) := by
  obtain ⟨a, cap, rfl, h1, h2⟩ := h
  exact ⟨a, cap, (h1.gets h2).c0⟩
theorem Boxed.keep {w w' : World} {L : List Nat} {g : Nat} {x : Value} {p : Pt} (h : Boxed w g x p) (f : Frm L w w') (hn : g ∉ L) : Boxed w' g x p := by
  obtain ⟨a, cap, e, h1, h2⟩ := h
  exact ⟨a, cap, e, h1.keep f hn, h2⟩
theorem Boxed.keep0 {w w' : World} {g : Nat} {x : Value} {p : Pt} (h : Boxed w g x p) (f : Frm [] w w') : Boxed w' g x p := h.keep f (by simp)
theorem Boxed.lt {w : World} {g : Nat} {x : Value} {p : Pt} (h : Boxed w g x p) : g < w.heap.size := by
  obtain ⟨a, cap, e, h1, h2⟩ := h
  exact h1.lt
theorem PtV.box {w : World} {x : Value} {p : Pt} (h : PtV w x p) : ∃ A : Array Value, x = .agg A ∧ A.size = 35 ∧ ∀ W : World, Boxed (W.alloc (.cells A 26)) W.heap.size (.agg A) p := by
  obtain ⟨a, cap, sp, rfl, h2, h3⟩ := h
  exact ⟨_, rfl, by rw [pc_size, h3], fun W => ⟨a, cap, rfl, PB.new _ _ _ _ _, h3⟩⟩
theorem PtV.len {w : World} {x : Value} {p : Pt} (h : PtV w x p) : p.s.length = 32 := by
  obtain ⟨a, cap, sp, rfl, h2, h3⟩ := h
  exact h3
theorem same_comm (p q : Pt) : same q p = same p q := by
  rw [Bool.eq_iff_iff, same_iff, same_iff]
  exact eq_comm
theorem same_refl (p : Pt) : same p p = true := same_iff.2 rfl
theorem like_refl (p : Pt) : like p p = true := by simp [like, sameB]
theorem chk_cases (p : Pt) : (may p ∧ chk p = 0 ∧ outB p = enc p) ∨ (¬ may p ∧ chk p = 2 ∧ outB p = []) := by
  by_cases h : may p
  · exact .inl ⟨h, by simp [chk, (mayB_iff p).2 h], by simp [outB, (mayB_iff p).2 h]⟩
  · exact .inr ⟨h, by simp [chk, (mayB_not p).2 h], by simp [outB, (mayB_not p).2 h]⟩
end Go.Proofs.Ytjjcjocomanohaa
