/-
  General laws, of no program: what a call changed of memory ('Frm'), rows of cells that a call owns ('Own') or reads ('Sl'), append, make and copy over them. No conditions but those that each law names.
-/
import Derived.WalkKit
import Derived.WalkSpells
import Derived.WalkLawsBesides
import Derived.Deep.AppendSrc
import Derived.Laws.CopyOwn
import Derived.Laws.BytesArg
import Derived.Carry
namespace Go.Proofs.YtdebnikolhhmgaaDoor
open Go.RowKit
set_option linter.unusedVariables false
set_option maxRecDepth 100000
set_option linter.unusedSimpArgs false

/-- What was there is as it was, but for the blocks of the list. -/
structure Frm (L : List Nat) (w w' : World) : Prop where
  os : w'.os = w.os
  tape : w'.tape = w.tape
  output : w'.output = w.output
  size : w.heap.size ≤ w'.heap.size
  block : ∀ k, k < w.heap.size → k ∉ L → w'.heap[k]? = w.heap[k]?
namespace Frm
variable {L L' : List Nat} {w w1 w2 w' : World}
theorem refl (L : List Nat) (w : World) : Frm L w w := ⟨rfl, rfl, rfl, Nat.le_refl _, fun _ _ _ => rfl⟩
theorem trans (h : Frm L w w1) (k : Frm L' w1 w2) (hL : ∀ i ∈ L', i ∈ L ∨ w.heap.size ≤ i) : Frm L w w2 :=
  ⟨k.os.trans h.os, k.tape.trans h.tape, k.output.trans h.output, Nat.le_trans h.size k.size, fun i hi hn =>
    (k.block i (Nat.lt_of_lt_of_le hi h.size) (fun hm => by rcases hL i hm with h1 | h1; exact hn h1; omega)).trans (h.block i hi hn)⟩
theorem mono (h : Frm L w w') (hL : ∀ i ∈ L, i ∈ L' ∨ w.heap.size ≤ i) : Frm L' w w' :=
  ⟨h.os, h.tape, h.output, h.size, fun i hi hn => h.block i hi (fun hm => by rcases hL i hm with h1 | h1; exact hn h1; omega)⟩
theorem drew (h : Frm L w w') : Frm L w w'.drew := ⟨h.os, h.tape, h.output, h.size, h.block⟩
theorem drewN (h : Frm L w w') (n : Nat) : Frm L w (w'.drewN n) := ⟨h.os, h.tape, h.output, h.size, h.block⟩
theorem alloc (h : Frm L w w') (o : Obj) : Frm L w (w'.alloc o) :=
  h.trans (L' := []) ⟨rfl, rfl, rfl, by simp, fun k hk _ => Below.heap_alloc _ _ _ hk⟩ (by simp)
theorem setCell (h : Frm L w w') (p : Addr) (u : Value) (hp : p.block ∈ L ∨ w.heap.size ≤ p.block) : Frm L w (w'.setCell p u) :=
  h.trans (L' := [p.block]) ⟨rfl, rfl, rfl, by simp [World.setCell], fun k hk hn => Below.heap_setCell _ _ _ _ (by simpa using hn)⟩ (by simpa using hp)
theorem below (h : Frm L w w') {B : Nat} (hL : ∀ i ∈ L, B ≤ i) (hB : B ≤ w.heap.size) : Below B w w' :=
  ⟨h.os, h.tape, h.output, h.size, fun k hk => h.block k (by omega) (fun hm => by have := hL k hm; omega)⟩
theorem of_below (h : Below w.heap.size w w') (L : List Nat) : Frm L w w' := ⟨h.os, h.tape, h.output, h.size, fun k hk _ => h.block k hk⟩
theorem of_grown {row : Option Nat} (h : w.grownBy w' row) (hL : ∀ k, row = some k → k ∈ L) : Frm L w w' :=
  ⟨h.os, h.tape, h.output, h.size, fun k hk hn => h.block k hk (fun e => hn (hL k e.symm))⟩
theorem cell (h : Frm L w w') {p : Addr} {v : Value} (hc : w.cell? p = some v) (hn : p.block ∉ L) : w'.cell? p = some v :=
  (World.cell?_of_block (w := w) (h.block p.block (World.block_lt_of_cell? w p hc) hn)).trans hc
theorem heap (h : Frm L w w') {k : Nat} {o : Obj} (hc : w.heap[k]? = some o) (hn : k ∉ L) : w'.heap[k]? = some o :=
  (h.block k (by rcases Nat.lt_or_ge k w.heap.size with h1 | h1; exact h1; simp [Array.getElem?_eq_none h1] at hc) hn).trans hc
end Frm
theorem lt_heap {w : World} {k : Nat} {o : Obj} (h : w.heap[k]? = some o) : k < w.heap.size := by
  rcases Nat.lt_or_ge k w.heap.size with h1 | h1
  · exact h1
  · simp [Array.getElem?_eq_none h1] at h
theorem cell_of_heap {w : World} {k : Nat} {cs : Array Value} {T : TypeId} {fr : Nat × Nat} (h : w.heap[k]? = some (.cells cs T fr)) (i : Nat) : w.cell? ⟨k, i, none⟩ = cs[i]? := by
  simp [World.cell?, h]
theorem frozen_of_heap {w : World} {k : Nat} {cs : Array Value} {T : TypeId} (h : w.heap[k]? = some (.cells cs T (0, 0))) (i : Nat) : w.frozen? ⟨k, i, none⟩ = false := by
  simp [World.frozen?, h]
theorem heap_setCell_same {w : World} {k i : Nat} {cs : Array Value} {T : TypeId} {fr : Nat × Nat} (v : Value) (h : w.heap[k]? = some (.cells cs T fr)) :
    (w.setCell ⟨k, i, none⟩ v).heap[k]? = some (.cells (cs.setIfInBounds i v) T fr) := by
  simp [World.setCell, Array.getElem?_modify, h]
theorem heap_setCell_ne {w : World} {k : Nat} {p : Addr} (v : Value) (h : k ≠ p.block) : (w.setCell p v).heap[k]? = w.heap[k]? := Below.heap_setCell _ _ _ _ h
theorem heap_alloc_lt {w : World} {k : Nat} {o x : Obj} (h : w.heap[k]? = some x) : (w.alloc o).heap[k]? = some x := by
  rw [Below.heap_alloc _ _ _ (lt_heap h), h]
theorem heap_drew {w : World} {k : Nat} : w.drew.heap[k]? = w.heap[k]? := rfl
theorem add_plain (b o i : Nat) : (⟨b, o, none⟩ : Addr).add i = ⟨b, o + i, none⟩ := by unfold Addr.add; split <;> simp_all

/-- The blocks that a slice leads to. -/
def blk : Value → List Nat
  | .slice (some a) _ _ => [a.block]
  | _ => []

/-- A slice whose block is the call's own: n elements of s cells, 'xs'; behind them the spare room 'sp'. -/
def Own (T : TypeId) (s : Nat) (w : World) (v : Value) (n : Nat) (xs sp : List Value) : Prop :=
  xs.length = n * s ∧ ((v = .slice none 0 0 ∧ n = 0 ∧ sp = []) ∨
    ∃ g cap, v = .slice (some ⟨g, 0, none⟩) n cap ∧ n ≤ cap ∧ cap ≤ maxLen ∧ (xs ++ sp).length = cap * s ∧ w.heap[g]? = some (.cells (xs ++ sp).toArray T (0, 0)))

/-- A slice that can be read, wherever it lies. -/
def Sl (s : Nat) (w : World) (v : Value) (n : Nat) (xs sp : List Value) : Prop :=
  xs.length = n * s ∧ ((v = .slice none 0 0 ∧ n = 0 ∧ sp = []) ∨
    (∃ a, v = .slice (some a) 0 0 ∧ n = 0 ∧ sp = []) ∨
    ∃ b off cap, v = .slice (some ⟨b, off, none⟩) n cap ∧ n ≤ cap ∧ cap ≤ maxLen ∧ (xs ++ sp).length = cap * s ∧ ∀ i u, (xs ++ sp)[i]? = some u → w.cell? ⟨b, off + i, none⟩ = some u)

section
variable {T : TypeId} {s : Nat} {w w' : World} {v : Value} {n : Nat} {xs sp : List Value} {L : List Nat}
theorem Own.sl (h : Own T s w v n xs sp) : Sl s w v n xs sp := by
  obtain ⟨h1, h2 | ⟨g, cap, h2, h3, h4, h5, h6⟩⟩ := h
  · exact ⟨h1, .inl h2⟩
  · refine ⟨h1, .inr (.inr ⟨g, 0, cap, h2, h3, h4, h5, fun i u hu => ?_⟩)⟩
    rw [cell_of_heap h6]
    simpa using hu
theorem Own.keep (h : Own T s w v n xs sp) (f : Frm L w w') (hn : ∀ k ∈ blk v, k ∉ L) : Own T s w' v n xs sp := by
  obtain ⟨h1, h2 | ⟨g, cap, h2, h3, h4, h5, h6⟩⟩ := h
  · exact ⟨h1, .inl h2⟩
  · subst h2
    exact ⟨h1, .inr ⟨g, cap, rfl, h3, h4, h5, f.heap h6 (hn g (by simp [blk]))⟩⟩
theorem Own.lt (h : Own T s w v n xs sp) : ∀ k ∈ blk v, k < w.heap.size := by
  obtain ⟨h1, h2 | ⟨g, cap, h2, h3, h4, h5, h6⟩⟩ := h
  · obtain ⟨rfl, _⟩ := h2; simp [blk]
  · subst h2; simpa [blk] using lt_heap h6
theorem Own.nil (T : TypeId) (s : Nat) (w : World) : Own T s w (.slice none 0 0) 0 [] [] := ⟨by simp, .inl ⟨rfl, rfl, rfl⟩⟩
theorem Sl.nil (s : Nat) (w : World) : Sl s w (.slice none 0 0) 0 [] [] := ⟨by simp, .inl ⟨rfl, rfl, rfl⟩⟩
theorem Sl.keep (h : Sl s w v n xs sp) (f : Frm L w w') (hn : ∀ k ∈ blk v, k ∉ L) : Sl s w' v n xs sp := by
  obtain ⟨h1, h2 | h2 | ⟨b, off, cap, h2, h3, h4, h5, h6⟩⟩ := h
  · exact ⟨h1, .inl h2⟩
  · exact ⟨h1, .inr (.inl h2)⟩
  · subst h2
    exact ⟨h1, .inr (.inr ⟨b, off, cap, rfl, h3, h4, h5, fun i u hu => f.cell (h6 i u hu) (by simpa [blk] using hn)⟩)⟩
theorem Sl.form (h : Sl s w v n xs sp) : ∃ a cap, v = .slice a n cap ∧ n ≤ cap ∧ cap ≤ maxLen := by
  obtain ⟨h1, ⟨rfl, rfl, rfl⟩ | ⟨a, rfl, rfl, rfl⟩ | ⟨b, off, cap, h2, h3, h4, h5, h6⟩⟩ := h
  · exact ⟨none, 0, rfl, Nat.le_refl _, Nat.zero_le _⟩
  · exact ⟨some a, 0, rfl, Nat.le_refl _, Nat.zero_le _⟩
  · exact ⟨_, cap, h2, h3, h4⟩
theorem Sl.src {P : Program} {tx e' : TypeId} (hk : P.underlying tx = some (.slice e')) (h : Sl s w v n xs sp) (h1 : ∀ u ∈ xs, u.oneCell' = true) : Src P s tx v n xs w := by
  obtain ⟨hx, ⟨rfl, rfl, rfl⟩ | ⟨a, rfl, rfl, rfl⟩ | ⟨b, off, cap, rfl, h3, h4, h5, h6⟩⟩ := h
  · obtain rfl : xs = [] := List.eq_nil_of_length_eq_zero (by simpa using hx)
    exact Src.ofNil w hk 0
  · obtain rfl : xs = [] := List.eq_nil_of_length_eq_zero (by simpa using hx)
    exact Src.ofSlice w hk a 0 0 [] (by simp) (fun j u hu => by simp at hu) (fun u hu => by cases hu)
  · refine Src.ofSlice w hk _ n cap xs hx (fun j u hu => ?_) h1
    rw [add_plain]
    exact h6 j u (by rw [List.getElem?_append_left]; exact hu; rcases Nat.lt_or_ge j xs.length with h | h; exact h; simp [List.getElem?_eq_none h] at hu)

end
/-- append, both arms. -/
theorem append_run2 {T : TypeId} {s : Nat} {w : World} {v : Value} {n : Nat} {xs sp : List Value} {P : Program} {tS tx ty : TypeId} {i : TypeInfo} {z : Value} {by' : Nat} (ht : P.underlying tS = some (.slice T)) (hi : P.info? T = some i) (hz : i.zero = some z)
    (hs : i.size = s) (hb : i.bytes = by') (hzs : z.cells.size = s) (hpos : 0 < s) (hO : Own T s w v n xs sp) {x : Value} {m : Nat} {news : List Value} (hS : Src P s tx x m news w)
    (h63 : n + m ≤ maxLen) (hbound : (n + m) * by' ≤ 140737488355328) :
    ∃ v' w' sp', (Builtin.append_ #[tS, tx] ty #[v, x]).run P w = .ok v' w' ∧ Own T s w' v' (n + m) (xs ++ news) sp' ∧ Frm (blk v) w w' ∧ (blk v' = blk v ∨ (blk v' = [w.heap.size] ∧ Frm [] w w')) ∧
      ∀ p : Value → Prop, (∀ u ∈ sp, p u) → (∀ u ∈ z.cells.toList, p u) → ∀ u ∈ sp', p u := by
  subst hs
  subst hb
  obtain ⟨h1, h2⟩ := hO
  have hnl := hS.newsLen
  have hlen : (xs ++ news).length = (n + m) * i.size := by rw [List.length_append, h1, hnl, Nat.add_mul]
  have hsmall : n + m ≤ 9223372036854775807 := by simp only [maxLen] at h63; omega
  by_cases hroom : ∃ g cap, v = .slice (some ⟨g, 0, none⟩) n cap ∧ n + m ≤ cap
  · obtain ⟨g, cap, rfl, hr⟩ := hroom
    rcases h2 with ⟨h2, _⟩ | ⟨g', cap', h2, h3, h4, h5, h6⟩
    · cases h2
    · cases h2
      have hspl : xs.length + sp.length = cap * i.size := by simpa using h5
      have hfit : n * i.size + news.length ≤ (xs ++ sp).toArray.size := by
        have : (n + m) * i.size ≤ cap * i.size := Nat.mul_le_mul_right _ hr
        simp only [List.size_toArray, h5]; rw [hnl, ← Nat.add_mul]; exact this
      have hst := run_storeCells_at P g (n * i.size) T news 0 (xs ++ sp).toArray w h6 (by simpa using hfit) hS.one
      simp only [Nat.add_zero] at hst
      have hcur : (xs ++ sp).take (n * i.size) ++ news ++ (xs ++ sp).drop (n * i.size + news.length) = (xs ++ news) ++ sp.drop news.length := by
        rw [← h1, List.take_left, List.drop_append]
        simp
      refine ⟨.slice (some ⟨g, 0, none⟩) (n + m) cap, w.setRow g ((xs ++ news) ++ sp.drop news.length).toArray, sp.drop news.length, ?_, ⟨hlen, .inr ⟨g, cap, rfl, hr, h4, ?_, ?_⟩⟩, ?_, .inl rfl, fun p hp _ u hu => hp u (List.mem_of_mem_drop hu)⟩
      · rw [← hcur]
        rcases hS.kind with ⟨e', hk⟩ | hk <;> simp [Builtin.append_, run_underlying ht, run_underlying hk, sizeOf, typeInfo, hi, hS.len, hr, hS.cells, Addr.add_lit, hst]
      · simp only [List.length_append, List.length_drop]
        simp only [List.size_toArray, List.length_append] at hfit
        omega
      · exact setRow_heap w g _ _ _ _ h6
      · exact ⟨rfl, rfl, rfl, by simp [World.setRow], fun k hk hn => setRow_other w g k _ (by simpa [blk] using hn)⟩
  · by_cases hnil : v = .slice none 0 0 ∧ m = 0
    · obtain ⟨rfl, rfl⟩ := hnil
      rcases h2 with ⟨_, rfl, rfl⟩ | ⟨_, _, h2, _⟩
      · obtain rfl : news = [] := List.eq_nil_of_length_eq_zero (by simpa using hnl)
        obtain rfl : xs = [] := List.eq_nil_of_length_eq_zero (by simpa using h1)
        refine ⟨.slice none 0 0, w, [], ?_, ⟨by simp, .inl ⟨rfl, rfl, rfl⟩⟩, Frm.refl _ _, .inl rfl, fun _ _ _ u hu => by cases hu⟩
        rcases hS.kind with ⟨e', hk⟩ | hk <;> simp [Builtin.append_, run_underlying ht, run_underlying hk, sizeOf, typeInfo, hi, hS.len, hS.cells]
      · cases h2
    · obtain ⟨base, cap, rfl, hcap, hold, hbl⟩ : ∃ base cap, v = .slice base n cap ∧ cap < n + m ∧ (Builtin.firstCells i.size n (.slice base n cap)).run P w.drew = .ok xs.toArray w.drew ∧ True := by
        rcases h2 with ⟨rfl, rfl, rfl⟩ | ⟨g, cap, rfl, h3, h4, h5, h6⟩
        · obtain rfl : xs = [] := List.eq_nil_of_length_eq_zero (by simpa using h1)
          exact ⟨none, 0, rfl, by have : m ≠ 0 := fun e => hnil ⟨rfl, e⟩; omega, run_firstCells_none w.drew i.size 0 0 0, trivial⟩
        · refine ⟨_, cap, rfl, ?_, run_firstCells_some w.drew i.size n _ n cap xs h1 (fun j u hu => ?_), trivial⟩
          · rcases Nat.lt_or_ge cap (n + m) with h | h
            · exact h
            · exact absurd ⟨g, cap, rfl, h⟩ hroom
          · have hj : j < xs.length := by
              rcases Nat.lt_or_ge j xs.length with h | h
              · exact h
              · simp [List.getElem?_eq_none h] at hu
            rw [add_plain, World.cell?_drew, cell_of_heap h6]
            simp only [Nat.zero_add, List.getElem?_toArray]
            rw [List.getElem?_append_left hj]; exact hu
      have hge := grownCap_ge w (n + m) cap T
      have hcm : grownCap w (n + m) cap T ≤ maxLen := grownCap_le_maxLen w (n + m) cap T h63
      have hr := run_append_grow_src (P := P) w tS tx ty T i z ht hi hz base n cap xs hold x m news hS hcap (by omega) (growslice_fits hcap hbound)
      refine ⟨_, _, (Builtin.zeroCells z.cells (grownCap w (n + m) cap T - (n + m))).toList, hr, ⟨hlen, .inr ⟨w.heap.size, _, rfl, hge, hcm, ?_, ?_⟩⟩, ?_, .inr ⟨rfl, ((Frm.refl _ _).drew).alloc _⟩, ?_⟩
      · rw [List.length_append, hlen, Array.length_toList, size_zeroCells, hzs, ← Nat.add_mul]
        congr 1
        omega
      · have := heap_alloc_new w.drew (.cells ((xs ++ news).toArray ++ Builtin.zeroCells z.cells (grownCap w (n + m) cap T - (n + m))) T)
        rw [show w.drew.heap.size = w.heap.size from rfl] at this
        rw [this]
        congr 2
        apply Array.ext'
        simp
      · exact ((Frm.refl _ _).drew).alloc _
      · intro p _ hp u hu
        simp only [Builtin.zeroCells, Array.toList_map, List.mem_map] at hu
        obtain ⟨j, hj, rfl⟩ := hu
        have hlt : j % z.cells.size < z.cells.size := Nat.mod_lt _ (by omega)
        rw [getElem!_pos z.cells _ hlt]
        exact hp _ (by simp)

/-- append, both arms, of the blocks alone. -/
theorem append_run {T : TypeId} {s : Nat} {w : World} {v : Value} {n : Nat} {xs sp : List Value} {P : Program} {tS tx ty : TypeId} {i : TypeInfo} {z : Value} {by' : Nat} (ht : P.underlying tS = some (.slice T)) (hi : P.info? T = some i) (hz : i.zero = some z)
    (hs : i.size = s) (hb : i.bytes = by') (hzs : z.cells.size = s) (hpos : 0 < s) (hO : Own T s w v n xs sp) {x : Value} {m : Nat} {news : List Value} (hS : Src P s tx x m news w)
    (h63 : n + m ≤ maxLen) (hbound : (n + m) * by' ≤ 140737488355328) :
    ∃ v' w' sp', (Builtin.append_ #[tS, tx] ty #[v, x]).run P w = .ok v' w' ∧ Own T s w' v' (n + m) (xs ++ news) sp' ∧ Frm (blk v) w w' ∧ (blk v' = blk v ∨ blk v' = [w.heap.size]) ∧
      ∀ p : Value → Prop, (∀ u ∈ sp, p u) → (∀ u ∈ z.cells.toList, p u) → ∀ u ∈ sp', p u := by
  obtain ⟨v', w', sp', h1, h2, h3, h4, h5⟩ := append_run2 (ty := ty) ht hi hz hs hb hzs hpos hO hS h63 hbound
  exact ⟨v', w', sp', h1, h2, h3, h4.imp id And.left, h5⟩
end Go.Proofs.YtdebnikolhhmgaaDoor
