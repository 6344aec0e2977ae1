/-
  Contracts of joiner and of the two functions that it tells. No conditions but those that each theorem names.
-/
import Derived.Test.YtgbgpmdhlocjhaaA4
namespace Go.Proofs.Ytgbgpmdhlocjhaa
open Go.RowKit
set_option linter.unusedVariables false
set_option linter.unusedSimpArgs false
set_option maxRecDepth 100000

/-- What a joiner has put together: the list l, in block R's variable; its row lies from S on. -/
def Jn (S R : Nat) (w : World) (l : List Ex) : Prop := ∃ v sp, w.heap[R]? = some (.cells #[v] 22 (0, 0)) ∧ OwnX w v l sp ∧ (∀ i ∈ blk v, S ≤ i) ∧ R < S
/-- Nothing has changed of what lay ahead of S, but for R. -/
def Chg (S R : Nat) (w w' : World) : Prop := ∃ L, Frm (R :: L) w w' ∧ ∀ i ∈ L, S ≤ i
theorem Chg.refl (S R : Nat) (w : World) : Chg S R w w := ⟨[], Frm.refl _ _, by simp⟩
theorem Chg.trans {S R : Nat} {w w1 w2 : World} (h : Chg S R w w1) (k : Chg S R w1 w2) : Chg S R w w2 := by
  obtain ⟨L, f, hL⟩ := h
  obtain ⟨L', f', hL'⟩ := k
  refine ⟨L ++ L', (f.mono (L' := R :: (L ++ L')) ?_).trans f' ?_, fun i hi => ?_⟩
  · intro i hi; simp at hi ⊢; rcases hi with h | h <;> simp [h]
  · intro i hi; simp at hi ⊢; rcases hi with h | h <;> simp [h]
  · rcases List.mem_append.1 hi with h | h
    · exact hL i h
    · exact hL' i h
theorem Chg.frm {S R : Nat} {w w1 w2 : World} (h : Chg S R w w1) (k : Frm [] w1 w2) : Chg S R w w2 := by
  obtain ⟨L, f, hL⟩ := h
  exact ⟨L, f.trans k (by simp), hL⟩
theorem Chg.of {S R : Nat} {w w' : World} (h : Frm [] w w') : Chg S R w w' := (Chg.refl S R w).frm h
theorem Chg.size {S R : Nat} {w w' : World} (h : Chg S R w w') : w.heap.size ≤ w'.heap.size := by
  obtain ⟨L, f, hL⟩ := h
  exact f.size
theorem Chg.back {S R : Nat} {w0 w w' : World} (f0 : Frm [] w0 w) (h : Chg S R w w') (hR : w0.heap.size ≤ R) (hS : w0.heap.size ≤ S) : Frm [] w0 w' := by
  obtain ⟨L, f, hL⟩ := h
  refine f0.trans f fun i hi => .inr ?_
  rcases List.mem_cons.1 hi with rfl | hi
  · exact hR
  · have := hL i hi; omega
theorem Chg.heap {S R : Nat} {w w' : World} (h : Chg S R w w') {k : Nat} {o : Obj} (hc : w.heap[k]? = some o) (h1 : k < S) (h2 : k ≠ R) : w'.heap[k]? = some o := by
  obtain ⟨L, f, hL⟩ := h
  exact f.heap hc fun hi => by
    rcases List.mem_cons.1 hi with h | h
    · exact h2 h
    · have := hL k h; omega
theorem Chg.slx {α : Type} {enc : α → List Value} {k : Nat} {S R : Nat} {w w' : World} (h : Chg S R w w') {v : Value} {l : List α} {sp : List Value} (hS : SlE enc k w v l sp) (hn : ∀ i ∈ blk v, i < S ∧ i ≠ R) : SlE enc k w' v l sp := by
  obtain ⟨L, f, hL⟩ := h
  exact hS.keep f fun i hi hm => by
    have := hn i hi
    rcases List.mem_cons.1 hm with h | h
    · exact this.2 h
    · have := hL i h; omega
theorem Jn.keep0 {S R : Nat} {w w' : World} {l : List Ex} (h : Jn S R w l) (f : Frm [] w w') : Jn S R w' l := by
  obtain ⟨v, sp, h1, h2, h3, h4⟩ := h
  exact ⟨v, sp, f.heap h1 (by simp), h2.keep0 f, h3, h4⟩
theorem Jn.drew {S R : Nat} {w : World} {l : List Ex} (h : Jn S R w l) : Jn S R w.drew l := h.keep0 ((Frm.refl [] w).drew)
/-- joiner(). -/
theorem joiner_any (w : World) : Calls Try.prog 42 #[] w fun e w' => e = .returned (.tuple #[.func (.func 50) #[] #[.pointer (some ⟨w.heap.size, 0, none⟩)], .func (.func 51) #[] #[.pointer (some ⟨w.heap.size, 0, none⟩)]]) ∧
    w' = w.alloc (.cells #[.slice none 0 0] 22) := by
  have hmf : ∀ (fn : Fn) (first cap : Array Value) (w : World), (Instr.makeFunc fn first cap).run Try.prog w = .ok (.func fn first cap) w := fun _ _ _ _ => rfl
  go_enter Try.func42, Try.ntmps42
  go_wp2
  exact bodyPost_ret (v := .tuple #[.func (.func 50) #[] #[.pointer (some ⟨w.heap.size, 0, none⟩)], .func (.func 51) #[] #[.pointer (some ⟨w.heap.size, 0, none⟩)]]) (by simp [results, Try.results42, go_sem]) rfl ⟨rfl, rfl⟩
theorem jn_new (w : World) (S : Nat) (hS : w.heap.size < S) : Jn S w.heap.size (w.alloc (.cells #[.slice none 0 0] 22)) [] := ⟨.slice none 0 0, [], heap_alloc_new _ _, OwnE.nil _ _ _ _, by simp [blk], hS⟩
/-- all(). -/
theorem all_any (S R : Nat) (l : List Ex) (w : World) (h : Jn S R w l) : Calls Try.prog 51 #[.pointer (some ⟨R, 0, none⟩)] w fun e w' => ∃ v sp, e = .returned v ∧ w' = w ∧ OwnX w v l sp ∧ ∀ i ∈ blk v, S ≤ i := by
  obtain ⟨v, sp, h1, h2, h3, h4⟩ := h
  have c0 : w.cell? ⟨R, 0, none⟩ = some v := by rw [cell_of_heap h1]; rfl
  have H2 := Lib.hid h2
  have H3 := Lib.hid h3
  obtain ⟨a, cap, rfl, _, _⟩ := h2.sl.form
  clear h1 h2 h3
  go_enter Try.func51, Try.ntmps51
  go_wp2
  go_ret
  exact ⟨_, sp, rfl, rfl, H2.out, H3.out⟩
end Go.Proofs.Ytgbgpmdhlocjhaa
