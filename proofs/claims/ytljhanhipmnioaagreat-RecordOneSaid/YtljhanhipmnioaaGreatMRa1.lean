/-
  General laws, of no program: what a call changed of memory ('Frm'), rows of cells that a call owns ('Own') or reads ('Sl'), append, make and copy over them. No conditions but those that each law names. Laws on slices of bytes: read, owned, appended to, made, turned into a string; and the walk's step for an operation whose run is known. No conditions but those that each law names. Cuts of rows of bytes. No conditions but those that each theorem names.
-/
import Derived.WalkKit
import Derived.WalkSpells
import Derived.WalkLawsBesides
import Derived.Deep.AppendSrc
import Derived.Laws.CopyOwn
import Derived.Laws.BytesArg
import Derived.Carry
import Derived.Laws.BytesString
import Derived.Deep.SlicePairs
import Derived.Deep.Cut
import Derived.Lib.Hide
namespace Go.Proofs.YtljhanhipmnioaaGreat
open Go.RowKit
set_option linter.unusedVariables false
set_option maxRecDepth 100000
set_option linter.unusedSimpArgs false

/-- What was there is as it was, but for the blocks of the list. -/
structure Frm (L : List Nat) (w w' : World) : Prop where
  os : w'.os = w.os
  tape : w'.tape = w.tape
  output : w'.output = w.output
  size : w.heap.size ≤ w'.heap.size
  block : ∀ k, k < w.heap.size → k ∉ L → w'.heap[k]? = w.heap[k]?
namespace Frm
variable {L L' : List Nat} {w w1 w2 w' : World}
theorem refl (L : List Nat) (w : World) : Frm L w w := ⟨rfl, rfl, rfl, Nat.le_refl _, fun _ _ _ => rfl⟩
theorem trans (h : Frm L w w1) (k : Frm L' w1 w2) (hL : ∀ i ∈ L', i ∈ L ∨ w.heap.size ≤ i) : Frm L w w2 :=
  ⟨k.os.trans h.os, k.tape.trans h.tape, k.output.trans h.output, Nat.le_trans h.size k.size, fun i hi hn =>
    (k.block i (Nat.lt_of_lt_of_le hi h.size) (fun hm => by rcases hL i hm with h1 | h1; exact hn h1; omega)).trans (h.block i hi hn)⟩
theorem mono (h : Frm L w w') (hL : ∀ i ∈ L, i ∈ L' ∨ w.heap.size ≤ i) : Frm L' w w' :=
  ⟨h.os, h.tape, h.output, h.size, fun i hi hn => h.block i hi (fun hm => by rcases hL i hm with h1 | h1; exact hn h1; omega)⟩
theorem drew (h : Frm L w w') : Frm L w w'.drew := ⟨h.os, h.tape, h.output, h.size, h.block⟩
theorem drewN (h : Frm L w w') (n : Nat) : Frm L w (w'.drewN n) := ⟨h.os, h.tape, h.output, h.size, h.block⟩
theorem alloc (h : Frm L w w') (o : Obj) : Frm L w (w'.alloc o) :=
  h.trans (L' := []) ⟨rfl, rfl, rfl, by simp, fun k hk _ => Below.heap_alloc _ _ _ hk⟩ (by simp)
theorem setCell (h : Frm L w w') (p : Addr) (u : Value) (hp : p.block ∈ L ∨ w.heap.size ≤ p.block) : Frm L w (w'.setCell p u) :=
  h.trans (L' := [p.block]) ⟨rfl, rfl, rfl, by simp [World.setCell], fun k hk hn => Below.heap_setCell _ _ _ _ (by simpa using hn)⟩ (by simpa using hp)
theorem below (h : Frm L w w') {B : Nat} (hL : ∀ i ∈ L, B ≤ i) (hB : B ≤ w.heap.size) : Below B w w' :=
  ⟨h.os, h.tape, h.output, h.size, fun k hk => h.block k (by omega) (fun hm => by have := hL k hm; omega)⟩
theorem of_below (h : Below w.heap.size w w') (L : List Nat) : Frm L w w' := ⟨h.os, h.tape, h.output, h.size, fun k hk _ => h.block k hk⟩
theorem cell (h : Frm L w w') {p : Addr} {v : Value} (hc : w.cell? p = some v) (hn : p.block ∉ L) : w'.cell? p = some v :=
  (World.cell?_of_block (w := w) (h.block p.block (World.block_lt_of_cell? w p hc) hn)).trans hc
theorem heap (h : Frm L w w') {k : Nat} {o : Obj} (hc : w.heap[k]? = some o) (hn : k ∉ L) : w'.heap[k]? = some o :=
  (h.block k (by rcases Nat.lt_or_ge k w.heap.size with h1 | h1; exact h1; simp [Array.getElem?_eq_none h1] at hc) hn).trans hc
end Frm
theorem lt_heap {w : World} {k : Nat} {o : Obj} (h : w.heap[k]? = some o) : k < w.heap.size := by
  rcases Nat.lt_or_ge k w.heap.size with h1 | h1
  · exact h1
  · simp [Array.getElem?_eq_none h1] at h
theorem cell_of_heap {w : World} {k : Nat} {cs : Array Value} {T : TypeId} {fr : Nat × Nat} (h : w.heap[k]? = some (.cells cs T fr)) (i : Nat) : w.cell? ⟨k, i, none⟩ = cs[i]? := by
  simp [World.cell?, h]
theorem frozen_of_heap {w : World} {k : Nat} {cs : Array Value} {T : TypeId} (h : w.heap[k]? = some (.cells cs T (0, 0))) (i : Nat) : w.frozen? ⟨k, i, none⟩ = false := by
  simp [World.frozen?, h]
theorem heap_setCell_same {w : World} {k i : Nat} {cs : Array Value} {T : TypeId} {fr : Nat × Nat} (v : Value) (h : w.heap[k]? = some (.cells cs T fr)) :
    (w.setCell ⟨k, i, none⟩ v).heap[k]? = some (.cells (cs.setIfInBounds i v) T fr) := by
  simp [World.setCell, Array.getElem?_modify, h]
theorem heap_setCell_ne {w : World} {k : Nat} {p : Addr} (v : Value) (h : k ≠ p.block) : (w.setCell p v).heap[k]? = w.heap[k]? := Below.heap_setCell _ _ _ _ h
theorem heap_alloc_lt {w : World} {k : Nat} {o x : Obj} (h : w.heap[k]? = some x) : (w.alloc o).heap[k]? = some x := by
  rw [Below.heap_alloc _ _ _ (lt_heap h), h]
theorem add_plain (b o i : Nat) : (⟨b, o, none⟩ : Addr).add i = ⟨b, o + i, none⟩ := by unfold Addr.add; split <;> simp_all

/-- The blocks that a slice leads to. -/
def blk : Value → List Nat
  | .slice (some a) _ _ => [a.block]
  | _ => []

/-- A slice whose block is the call's own: n elements of s cells, 'xs'; behind them the spare room 'sp'. -/
def Own (T : TypeId) (s : Nat) (w : World) (v : Value) (n : Nat) (xs sp : List Value) : Prop :=
  xs.length = n * s ∧ ((v = .slice none 0 0 ∧ n = 0 ∧ sp = []) ∨
    ∃ g cap, v = .slice (some ⟨g, 0, none⟩) n cap ∧ n ≤ cap ∧ cap ≤ maxLen ∧ (xs ++ sp).length = cap * s ∧ w.heap[g]? = some (.cells (xs ++ sp).toArray T (0, 0)))

/-- A slice that can be read, wherever it lies. -/
def Sl (s : Nat) (w : World) (v : Value) (n : Nat) (xs sp : List Value) : Prop :=
  xs.length = n * s ∧ ((v = .slice none 0 0 ∧ n = 0 ∧ sp = []) ∨
    (∃ a, v = .slice (some a) 0 0 ∧ n = 0 ∧ sp = []) ∨
    ∃ b off cap, v = .slice (some ⟨b, off, none⟩) n cap ∧ n ≤ cap ∧ cap ≤ maxLen ∧ (xs ++ sp).length = cap * s ∧ ∀ i u, (xs ++ sp)[i]? = some u → w.cell? ⟨b, off + i, none⟩ = some u)

section
variable {T : TypeId} {s : Nat} {w w' : World} {v : Value} {n : Nat} {xs sp : List Value} {L : List Nat}
theorem Own.sl (h : Own T s w v n xs sp) : Sl s w v n xs sp := by
  obtain ⟨h1, h2 | ⟨g, cap, h2, h3, h4, h5, h6⟩⟩ := h
  · exact ⟨h1, .inl h2⟩
  · refine ⟨h1, .inr (.inr ⟨g, 0, cap, h2, h3, h4, h5, fun i u hu => ?_⟩)⟩
    rw [cell_of_heap h6]
    simpa using hu
theorem Own.keep (h : Own T s w v n xs sp) (f : Frm L w w') (hn : ∀ k ∈ blk v, k ∉ L) : Own T s w' v n xs sp := by
  obtain ⟨h1, h2 | ⟨g, cap, h2, h3, h4, h5, h6⟩⟩ := h
  · exact ⟨h1, .inl h2⟩
  · subst h2
    exact ⟨h1, .inr ⟨g, cap, rfl, h3, h4, h5, f.heap h6 (hn g (by simp [blk]))⟩⟩
theorem Own.lt (h : Own T s w v n xs sp) : ∀ k ∈ blk v, k < w.heap.size := by
  obtain ⟨h1, h2 | ⟨g, cap, h2, h3, h4, h5, h6⟩⟩ := h
  · obtain ⟨rfl, _⟩ := h2; simp [blk]
  · subst h2; simpa [blk] using lt_heap h6
theorem Own.nil (T : TypeId) (s : Nat) (w : World) : Own T s w (.slice none 0 0) 0 [] [] := ⟨by simp, .inl ⟨rfl, rfl, rfl⟩⟩
theorem Sl.nil (s : Nat) (w : World) : Sl s w (.slice none 0 0) 0 [] [] := ⟨by simp, .inl ⟨rfl, rfl, rfl⟩⟩
theorem Sl.keep (h : Sl s w v n xs sp) (f : Frm L w w') (hn : ∀ k ∈ blk v, k ∉ L) : Sl s w' v n xs sp := by
  obtain ⟨h1, h2 | h2 | ⟨b, off, cap, h2, h3, h4, h5, h6⟩⟩ := h
  · exact ⟨h1, .inl h2⟩
  · exact ⟨h1, .inr (.inl h2)⟩
  · subst h2
    exact ⟨h1, .inr (.inr ⟨b, off, cap, rfl, h3, h4, h5, fun i u hu => f.cell (h6 i u hu) (by simpa [blk] using hn)⟩)⟩
theorem Sl.form (h : Sl s w v n xs sp) : ∃ a cap, v = .slice a n cap ∧ n ≤ cap ∧ cap ≤ maxLen := by
  obtain ⟨h1, ⟨rfl, rfl, rfl⟩ | ⟨a, rfl, rfl, rfl⟩ | ⟨b, off, cap, h2, h3, h4, h5, h6⟩⟩ := h
  · exact ⟨none, 0, rfl, Nat.le_refl _, Nat.zero_le _⟩
  · exact ⟨some a, 0, rfl, Nat.le_refl _, Nat.zero_le _⟩
  · exact ⟨_, cap, h2, h3, h4⟩
theorem Sl.src {P : Program} {tx e' : TypeId} (hk : P.underlying tx = some (.slice e')) (h : Sl s w v n xs sp) (h1 : ∀ u ∈ xs, u.oneCell' = true) : Src P s tx v n xs w := by
  obtain ⟨hx, ⟨rfl, rfl, rfl⟩ | ⟨a, rfl, rfl, rfl⟩ | ⟨b, off, cap, rfl, h3, h4, h5, h6⟩⟩ := h
  · obtain rfl : xs = [] := List.eq_nil_of_length_eq_zero (by simpa using hx)
    exact Src.ofNil w hk 0
  · obtain rfl : xs = [] := List.eq_nil_of_length_eq_zero (by simpa using hx)
    exact Src.ofSlice w hk a 0 0 [] (by simp) (fun j u hu => by simp at hu) (fun u hu => by cases hu)
  · refine Src.ofSlice w hk _ n cap xs hx (fun j u hu => ?_) h1
    rw [add_plain]
    exact h6 j u (by rw [List.getElem?_append_left]; exact hu; rcases Nat.lt_or_ge j xs.length with h | h; exact h; simp [List.getElem?_eq_none h] at hu)

end
/-- append, both arms. -/
theorem append_run2 {T : TypeId} {s : Nat} {w : World} {v : Value} {n : Nat} {xs sp : List Value} {P : Program} {tS tx ty : TypeId} {i : TypeInfo} {z : Value} {by' : Nat} (ht : P.underlying tS = some (.slice T)) (hi : P.info? T = some i) (hz : i.zero = some z)
    (hs : i.size = s) (hb : i.bytes = by') (hzs : z.cells.size = s) (hpos : 0 < s) (hO : Own T s w v n xs sp) {x : Value} {m : Nat} {news : List Value} (hS : Src P s tx x m news w)
    (h63 : n + m ≤ maxLen) (hbound : (n + m) * by' ≤ 140737488355328) :
    ∃ v' w' sp', (Builtin.append_ #[tS, tx] ty #[v, x]).run P w = .ok v' w' ∧ Own T s w' v' (n + m) (xs ++ news) sp' ∧ Frm (blk v) w w' ∧ (blk v' = blk v ∨ (blk v' = [w.heap.size] ∧ Frm [] w w')) ∧
      ∀ p : Value → Prop, (∀ u ∈ sp, p u) → (∀ u ∈ z.cells.toList, p u) → ∀ u ∈ sp', p u := by
  subst hs
  subst hb
  obtain ⟨h1, h2⟩ := hO
  have hnl := hS.newsLen
  have hlen : (xs ++ news).length = (n + m) * i.size := by rw [List.length_append, h1, hnl, Nat.add_mul]
  have hsmall : n + m ≤ 9223372036854775807 := by simp only [maxLen] at h63; omega
  by_cases hroom : ∃ g cap, v = .slice (some ⟨g, 0, none⟩) n cap ∧ n + m ≤ cap
  · obtain ⟨g, cap, rfl, hr⟩ := hroom
    rcases h2 with ⟨h2, _⟩ | ⟨g', cap', h2, h3, h4, h5, h6⟩
    · cases h2
    · cases h2
      have hspl : xs.length + sp.length = cap * i.size := by simpa using h5
      have hfit : n * i.size + news.length ≤ (xs ++ sp).toArray.size := by
        have : (n + m) * i.size ≤ cap * i.size := Nat.mul_le_mul_right _ hr
        simp only [List.size_toArray, h5]; rw [hnl, ← Nat.add_mul]; exact this
      have hst := run_storeCells_at P g (n * i.size) T news 0 (xs ++ sp).toArray w h6 (by simpa using hfit) hS.one
      simp only [Nat.add_zero] at hst
      have hcur : (xs ++ sp).take (n * i.size) ++ news ++ (xs ++ sp).drop (n * i.size + news.length) = (xs ++ news) ++ sp.drop news.length := by
        rw [← h1, List.take_left, List.drop_append]
        simp
      refine ⟨.slice (some ⟨g, 0, none⟩) (n + m) cap, w.setRow g ((xs ++ news) ++ sp.drop news.length).toArray, sp.drop news.length, ?_, ⟨hlen, .inr ⟨g, cap, rfl, hr, h4, ?_, ?_⟩⟩, ?_, .inl rfl, fun p hp _ u hu => hp u (List.mem_of_mem_drop hu)⟩
      · rw [← hcur]
        rcases hS.kind with ⟨e', hk⟩ | hk <;> simp [Builtin.append_, run_underlying ht, run_underlying hk, sizeOf, typeInfo, hi, hS.len, hr, hS.cells, Addr.add_lit, hst]
      · simp only [List.length_append, List.length_drop]
        simp only [List.size_toArray, List.length_append] at hfit
        omega
      · exact setRow_heap w g _ _ _ _ h6
      · exact ⟨rfl, rfl, rfl, by simp [World.setRow], fun k hk hn => setRow_other w g k _ (by simpa [blk] using hn)⟩
  · by_cases hnil : v = .slice none 0 0 ∧ m = 0
    · obtain ⟨rfl, rfl⟩ := hnil
      rcases h2 with ⟨_, rfl, rfl⟩ | ⟨_, _, h2, _⟩
      · obtain rfl : news = [] := List.eq_nil_of_length_eq_zero (by simpa using hnl)
        obtain rfl : xs = [] := List.eq_nil_of_length_eq_zero (by simpa using h1)
        refine ⟨.slice none 0 0, w, [], ?_, ⟨by simp, .inl ⟨rfl, rfl, rfl⟩⟩, Frm.refl _ _, .inl rfl, fun _ _ _ u hu => by cases hu⟩
        rcases hS.kind with ⟨e', hk⟩ | hk <;> simp [Builtin.append_, run_underlying ht, run_underlying hk, sizeOf, typeInfo, hi, hS.len, hS.cells]
      · cases h2
    · obtain ⟨base, cap, rfl, hcap, hold, hbl⟩ : ∃ base cap, v = .slice base n cap ∧ cap < n + m ∧ (Builtin.firstCells i.size n (.slice base n cap)).run P w.drew = .ok xs.toArray w.drew ∧ True := by
        rcases h2 with ⟨rfl, rfl, rfl⟩ | ⟨g, cap, rfl, h3, h4, h5, h6⟩
        · obtain rfl : xs = [] := List.eq_nil_of_length_eq_zero (by simpa using h1)
          exact ⟨none, 0, rfl, by have : m ≠ 0 := fun e => hnil ⟨rfl, e⟩; omega, run_firstCells_none w.drew i.size 0 0 0, trivial⟩
        · refine ⟨_, cap, rfl, ?_, run_firstCells_some w.drew i.size n _ n cap xs h1 (fun j u hu => ?_), trivial⟩
          · rcases Nat.lt_or_ge cap (n + m) with h | h
            · exact h
            · exact absurd ⟨g, cap, rfl, h⟩ hroom
          · have hj : j < xs.length := by
              rcases Nat.lt_or_ge j xs.length with h | h
              · exact h
              · simp [List.getElem?_eq_none h] at hu
            rw [add_plain, World.cell?_drew, cell_of_heap h6]
            simp only [Nat.zero_add, List.getElem?_toArray]
            rw [List.getElem?_append_left hj]; exact hu
      have hge := grownCap_ge w (n + m) cap T
      have hcm : grownCap w (n + m) cap T ≤ maxLen := grownCap_le_maxLen w (n + m) cap T h63
      have hr := run_append_grow_src (P := P) w tS tx ty T i z ht hi hz base n cap xs hold x m news hS hcap (by omega) (growslice_fits hcap hbound)
      refine ⟨_, _, (Builtin.zeroCells z.cells (grownCap w (n + m) cap T - (n + m))).toList, hr, ⟨hlen, .inr ⟨w.heap.size, _, rfl, hge, hcm, ?_, ?_⟩⟩, ?_, .inr ⟨rfl, ((Frm.refl _ _).drew).alloc _⟩, ?_⟩
      · rw [List.length_append, hlen, Array.length_toList, size_zeroCells, hzs, ← Nat.add_mul]
        congr 1
        omega
      · have := heap_alloc_new w.drew (.cells ((xs ++ news).toArray ++ Builtin.zeroCells z.cells (grownCap w (n + m) cap T - (n + m))) T)
        rw [show w.drew.heap.size = w.heap.size from rfl] at this
        rw [this]
        congr 2
        apply Array.ext'
        simp
      · exact ((Frm.refl _ _).drew).alloc _
      · intro p _ hp u hu
        simp only [Builtin.zeroCells, Array.toList_map, List.mem_map] at hu
        obtain ⟨j, hj, rfl⟩ := hu
        have hlt : j % z.cells.size < z.cells.size := Nat.mod_lt _ (by omega)
        rw [getElem!_pos z.cells _ hlt]
        exact hp _ (by simp)

/-- append, both arms, of the blocks alone. -/
theorem append_run {T : TypeId} {s : Nat} {w : World} {v : Value} {n : Nat} {xs sp : List Value} {P : Program} {tS tx ty : TypeId} {i : TypeInfo} {z : Value} {by' : Nat} (ht : P.underlying tS = some (.slice T)) (hi : P.info? T = some i) (hz : i.zero = some z)
    (hs : i.size = s) (hb : i.bytes = by') (hzs : z.cells.size = s) (hpos : 0 < s) (hO : Own T s w v n xs sp) {x : Value} {m : Nat} {news : List Value} (hS : Src P s tx x m news w)
    (h63 : n + m ≤ maxLen) (hbound : (n + m) * by' ≤ 140737488355328) :
    ∃ v' w' sp', (Builtin.append_ #[tS, tx] ty #[v, x]).run P w = .ok v' w' ∧ Own T s w' v' (n + m) (xs ++ news) sp' ∧ Frm (blk v) w w' ∧ (blk v' = blk v ∨ blk v' = [w.heap.size]) ∧
      ∀ p : Value → Prop, (∀ u ∈ sp, p u) → (∀ u ∈ z.cells.toList, p u) → ∀ u ∈ sp', p u := by
  obtain ⟨v', w', sp', h1, h2, h3, h4, h5⟩ := append_run2 (ty := ty) ht hi hz hs hb hzs hpos hO hS h63 hbound
  exact ⟨v', w', sp', h1, h2, h3, h4.imp id And.left, h5⟩
end Go.Proofs.YtljhanhipmnioaaGreat

namespace Go.Proofs.YtljhanhipmnioaaGreat
open Go.RowKit
set_option linter.unusedVariables false
set_option maxRecDepth 100000
set_option linter.unusedSimpArgs false

theorem wpList_val {P : Program} {w w' : World} {ops : Array Oper} {rest : List Oper} {o : Oper} {a : Act} {Q : Exit → Act → World → Prop} {v : Value}
    (hg : o.guard = none) (h : (execOp a.eval o).run P w = .ok (.value v) w') (k : wpList P ops Q rest (a.put o.dst v) w') : wpList P ops Q (o :: rest) a w :=
  wpList_plain hg fun K hK => by
    unfold Oper.wp
    rw [h]
    exact hK _ _ k

def bv (b : UInt8) : Value := .int .u8 b.toNat
def bvs (l : List UInt8) : List Value := l.map bv
theorem bvs_length (l : List UInt8) : (bvs l).length = l.length := by simp [bvs]
theorem bvs_append (l m : List UInt8) : bvs (l ++ m) = bvs l ++ bvs m := by simp [bvs]
theorem bvs_one (l : List UInt8) : ∀ u ∈ bvs l, u.oneCell' = true := by
  intro u hu
  obtain ⟨b, _, rfl⟩ := List.mem_map.1 hu
  rfl
theorem bvs_of {sp : List Value} (h : ∀ u ∈ sp, ∃ b, u = bv b) : ∃ l, sp = bvs l := by
  induction sp with
  | nil => exact ⟨[], rfl⟩
  | cons u r ih =>
    obtain ⟨b, rfl⟩ := h u (by simp)
    obtain ⟨l, rfl⟩ := ih fun x hx => h x (by simp [hx])
    exact ⟨b :: l, rfl⟩
theorem bvs_mem (l : List UInt8) : ∀ u ∈ bvs l, ∃ b, u = bv b := by
  intro u hu
  obtain ⟨b, _, rfl⟩ := List.mem_map.1 hu
  exact ⟨b, rfl⟩
theorem bvs_get (l : List UInt8) (i : Nat) : (bvs l)[i]? = (l[i]?).map bv := by simp [bvs]

/-- An owned row of bytes: 'l' its elements, 'sp' behind them. -/
def OwnB (T : TypeId) (w : World) (v : Value) (l sp : List UInt8) : Prop := Own T 1 w v l.length (bvs l) (bvs sp)
/-- A row of bytes that can be read. -/
def SlB (w : World) (v : Value) (l sp : List UInt8) : Prop := Sl 1 w v l.length (bvs l) (bvs sp)
theorem OwnB.sl {T : TypeId} {w : World} {v : Value} {l sp : List UInt8} (h : OwnB T w v l sp) : SlB w v l sp := Own.sl h

/-- What the table says of a slice of bytes. -/
structure ByteTys (P : Program) (tS T : TypeId) : Prop where
  sl : P.underlying tS = some (.slice T)
  el : P.underlying T = some (.int .u8)
  info : (P.info? T).map (fun i => (i.zero, i.size, i.bytes)) = some (some (.int .u8 0), 1, 1)

section
variable {P : Program} {tS T : TypeId} {w : World} {v x : Value} {l sp m msp : List UInt8}
theorem append_bytes_src (B : ByteTys P tS T) (ty : TypeId) {tx : TypeId} (hO : OwnB T w v l sp) (hS : Src P 1 tx x m.length (bvs m) w) (hb : l.length + m.length ≤ 140737488355328) :
    ∃ v' w' sp', (Builtin.append_ #[tS, tx] ty #[v, x]).run P w = .ok v' w' ∧ OwnB T w' v' (l ++ m) sp' ∧ Frm (blk v) w w' ∧ (blk v' = blk v ∨ blk v' = [w.heap.size]) := by
  obtain ⟨i, hi, hz, hs, hby⟩ := info_parts B.info
  obtain ⟨v', w', sp', h1, h2, h3, h4, h5⟩ := append_run (ty := ty) B.sl hi hz hs hby rfl (by omega) hO hS (by simp [maxLen]; omega) (by omega)
  obtain ⟨s2, rfl⟩ := bvs_of (h5 (fun u => ∃ b, u = bv b) (bvs_mem sp) (by intro u hu; simp [Value.cells] at hu; subst hu; exact ⟨0, rfl⟩))
  refine ⟨v', w', s2, h1, ?_, h3, h4⟩
  unfold OwnB
  rw [bvs_append, List.length_append]
  exact h2
theorem append_bytes (B : ByteTys P tS T) (ty : TypeId) (hO : OwnB T w v l sp) (hS : SlB w x m msp) (hb : l.length + m.length ≤ 140737488355328) :
    ∃ v' w' sp', (Builtin.append_ #[tS, tS] ty #[v, x]).run P w = .ok v' w' ∧ OwnB T w' v' (l ++ m) sp' ∧ Frm (blk v) w w' ∧ (blk v' = blk v ∨ blk v' = [w.heap.size]) :=
  append_bytes_src B ty hO (Sl.src B.sl hS (bvs_one m)) hb
theorem bvs_string (s : ByteArray) : byteCells s = bvs s.data.toList := rfl
/-- string(b). -/
theorem convert_bytes (B : ByteTys P tS T) (hS : SlB w v l sp) {dst : TypeId} (hd : P.underlying dst = some .string) : (convert tS dst v).run P w = .ok (.string ⟨l.toArray⟩) w := by
  obtain ⟨h1, ⟨rfl, h2, h3⟩ | ⟨a, rfl, h2, h3⟩ | ⟨b, off, cap, rfl, h3, h4, h5, h6⟩⟩ := hS
  · obtain rfl : l = [] := List.eq_nil_of_length_eq_zero h2
    exact run_convert_bytes_nil w tS T B.sl B.el 0 0 dst hd
  · obtain rfl : l = [] := List.eq_nil_of_length_eq_zero h2
    have hl : (loadCells a 0).run P w = .ok (([] : List Int).map (Value.int .u8)).toArray w := by
      simpa using run_loadCells_list (P := P) w a [] (fun j v hj => by simp at hj)
    rw [run_convert_bytes_string w tS dst T _ 0 0 B.sl B.el hd, run_bytesToString w a 0 0 [] hl]
    rfl
  · have := run_convert_bytes_arg (P := P) w tS T B.sl B.el b off l.length cap (l.map fun b => (b.toNat : Int)) (by simp) (fun i hi => by
      have := h6 i (bv l[i]) (by rw [List.getElem?_append_left (by simpa [bvs_length] using hi), bvs_get, List.getElem?_eq_getElem hi]; rfl)
      rw [this]
      simp [bv, List.getD, List.getElem?_eq_getElem hi]) dst hd
    rw [this]
    congr 2
    simp [strOfNums, Function.comp_def]
theorem SlB.form (h : SlB w v l sp) : ∃ a cap, v = .slice a l.length cap ∧ l.length ≤ cap ∧ cap ≤ maxLen := Sl.form h
theorem OwnB.keep {w' : World} {L : List Nat} (h : OwnB T w v l sp) (f : Frm L w w') (hn : ∀ k ∈ blk v, k ∉ L) : OwnB T w' v l sp := Own.keep h f hn
theorem SlB.keep {w' : World} {L : List Nat} (h : SlB w v l sp) (f : Frm L w w') (hn : ∀ k ∈ blk v, k ∉ L) : SlB w' v l sp := Sl.keep h f hn
theorem OwnB.lt (h : OwnB T w v l sp) : ∀ k ∈ blk v, k < w.heap.size := Own.lt h
theorem OwnB.nil (T : TypeId) (w : World) : OwnB T w (.slice none 0 0) [] [] := Own.nil T 1 w
theorem SlB.nil (w : World) : SlB w (.slice none 0 0) [] [] := Sl.nil 1 w
end
/-- 'append(s, x...)' as the walk meets it. -/
theorem wpList_append_bytes {P : Program} {tS T : TypeId} (B : ByteTys P tS T) {w : World} {ops : Array Oper} {rest : List Oper} {o : Oper} {a : Act} {Q : Exit → Act → World → Prop}
    {v y : Value} {l sp m msp : List UInt8} (hO : OwnB T w v l sp) (hS : SlB w y m msp) (hb : l.length + m.length ≤ 140737488355328)
    (hg : o.guard = none) (s x : Operand) (hop : o.op = Op.call { callee := Callee.builtin Builtin.append, args := #[s, x], argTypes := #[tS, tS] }) (hs : a.eval s = v) (hx : a.eval x = y)
    (k : ∀ a' cap' w' sp', OwnB T w' (.slice a' (l.length + m.length) cap') (l ++ m) sp' → Frm (blk v) w w' → (∀ i ∈ blk (.slice a' (l.length + m.length) cap'), i ∈ blk v ∨ w.heap.size ≤ i) →
      wpList P ops Q rest (a.put o.dst (.slice a' (l.length + m.length) cap')) w') :
    wpList P ops Q (o :: rest) a w := by
  obtain ⟨v', w', sp', h1, h2, h3, h4⟩ := append_bytes (x := y) B o.type hO hS hb
  obtain ⟨a', cap', rfl, _, _⟩ := h2.sl.form
  rw [List.length_append] at h1 h2 h4
  refine wpList_val (w' := w') hg ?_ (k a' cap' w' sp' h2 h3 ?_)
  · simp [execOp, hop, resolve, invoke, builtin, hs, hx, h1, Result.andThen]
  · intro i hi
    rcases h4 with h4 | h4
    · exact .inl (h4 ▸ hi)
    · rw [h4] at hi; simp at hi; exact .inr (by omega)
/-- 'append(s, x...)' from whatever source. -/
theorem wpList_append_src {P : Program} {tS T tx : TypeId} (B : ByteTys P tS T) {w : World} {ops : Array Oper} {rest : List Oper} {o : Oper} {a : Act} {Q : Exit → Act → World → Prop}
    {v y : Value} {l sp m : List UInt8} (hO : OwnB T w v l sp) (hS : Src P 1 tx y m.length (bvs m) w) (hb : l.length + m.length ≤ 140737488355328)
    (hg : o.guard = none) (s x : Operand) (hop : o.op = Op.call { callee := Callee.builtin Builtin.append, args := #[s, x], argTypes := #[tS, tx] }) (hs : a.eval s = v) (hx : a.eval x = y)
    (k : ∀ a' cap' w' sp', OwnB T w' (.slice a' (l.length + m.length) cap') (l ++ m) sp' → Frm (blk v) w w' → (∀ i ∈ blk (.slice a' (l.length + m.length) cap'), i ∈ blk v ∨ w.heap.size ≤ i) →
      wpList P ops Q rest (a.put o.dst (.slice a' (l.length + m.length) cap')) w') :
    wpList P ops Q (o :: rest) a w := by
  obtain ⟨v', w', sp', h1, h2, h3, h4⟩ := append_bytes_src (x := y) B o.type hO hS hb
  obtain ⟨a', cap', rfl, _, _⟩ := h2.sl.form
  rw [List.length_append] at h1 h2 h4
  refine wpList_val (w' := w') hg ?_ (k a' cap' w' sp' h2 h3 ?_)
  · simp [execOp, hop, resolve, invoke, builtin, hs, hx, h1, Result.andThen]
  · intro i hi
    rcases h4 with h4 | h4
    · exact .inl (h4 ▸ hi)
    · rw [h4] at hi; simp at hi; exact .inr (by omega)
theorem OwnB.heap {T : TypeId} {w : World} {g n cap : Nat} {l sp : List UInt8} (h : OwnB T w (.slice (some ⟨g, 0, none⟩) n cap) l sp) : w.heap[g]? = some (.cells (bvs (l ++ sp)).toArray T (0, 0)) := by
  obtain ⟨h1, h2 | ⟨g', cap', h2, h3, h4, h5, h6⟩⟩ := h
  · cases h2.1
  · cases h2; rw [bvs_append]; exact h6
theorem OwnB.caps {T : TypeId} {w : World} {g n cap : Nat} {l sp : List UInt8} (h : OwnB T w (.slice (some ⟨g, 0, none⟩) n cap) l sp) : n = l.length ∧ cap = l.length + sp.length ∧ cap ≤ maxLen := by
  obtain ⟨h1, h2 | ⟨g', cap', h2, h3, h4, h5, h6⟩⟩ := h
  · cases h2.1
  · cases h2; simp [bvs_length] at h5; exact ⟨rfl, by omega, h4⟩
theorem OwnB.of_heap {T : TypeId} {w : World} {g n cap : Nat} {l sp : List UInt8} (h : w.heap[g]? = some (.cells (bvs (l ++ sp)).toArray T (0, 0))) (hn : n = l.length) (hc : cap = l.length + sp.length) (hm : cap ≤ maxLen) :
    OwnB T w (.slice (some ⟨g, 0, none⟩) n cap) l sp := by
  subst hn
  refine ⟨by simp [bvs_length], .inr ⟨g, cap, rfl, by omega, hm, by simp [bvs_length, hc], ?_⟩⟩
  rw [h, bvs_append]
theorem bvs_set (l : List UInt8) (i : Nat) (x : UInt8) : (bvs l).toArray.setIfInBounds i (bv x) = (bvs (l.set i x)).toArray := by
  apply Array.ext'
  simp [bvs, List.map_set]
/-- A store into an owned row of bytes. -/
theorem OwnB.store {T : TypeId} {w : World} {g n cap : Nat} {l sp : List UInt8} (h : OwnB T w (.slice (some ⟨g, 0, none⟩) n cap) l sp) (i : Nat) (hi : i < l.length) (x : UInt8) {u : Value} (hu : u = bv x) :
    OwnB T (w.setCell ⟨g, i, none⟩ u) (.slice (some ⟨g, 0, none⟩) n cap) (l.set i x) sp := by
  subst hu
  obtain ⟨h1, h2, h3⟩ := h.caps
  refine OwnB.of_heap ?_ (by simpa using h1) (by simpa using h2) h3
  rw [heap_setCell_same _ h.heap, bvs_set, List.set_append_left _ _ hi]
theorem OwnB.cell {T : TypeId} {w : World} {g n cap : Nat} {l sp : List UInt8} (h : OwnB T w (.slice (some ⟨g, 0, none⟩) n cap) l sp) (i : Nat) (hi : i < l.length + sp.length) : w.cell? ⟨g, i, none⟩ = some (bv (l ++ sp)[i]!) := by
  have hi' : i < (l ++ sp).length := by simpa using hi
  rw [cell_of_heap h.heap, List.getElem?_toArray, bvs_get, List.getElem?_eq_getElem hi', getElem!_pos (l ++ sp) i hi']
  rfl
theorem OwnB.frozen {T : TypeId} {w : World} {g n cap : Nat} {l sp : List UInt8} (h : OwnB T w (.slice (some ⟨g, 0, none⟩) n cap) l sp) (i : Nat) : w.frozen? ⟨g, i, none⟩ = false := frozen_of_heap h.heap i
theorem src_string {P : Program} {tx : TypeId} (hx : P.underlying tx = some .string) (s : ByteArray) (w : World) : Src P 1 tx (.string s) s.data.toList.length (bvs s.data.toList) w := by
  have := Src.ofString w hx s
  rw [bvs_string] at this
  exact this
/-- The same steps inside a region that draws its order. -/
theorem step_val {P : Program} {w w' : World} {ops : Array Oper} {o : Oper} {a : Act} {K : Act → World → Prop} {Q : Exit → Act → World → Prop} {E : Prop} {v : Value}
    (hg : o.guard = none) (h : (execOp a.eval o).run P w = .ok (.value v) w') (k : K (a.put o.dst v) w') : if Region.wanted o (yielded ops a.tmps) = true then Oper.wp P o a w K Q else E := by
  rw [if_pos (by simp [Region.wanted, hg])]
  unfold Oper.wp
  rw [h]
  exact k
end Go.Proofs.YtljhanhipmnioaaGreat

namespace Go.Proofs.YtljhanhipmnioaaGreat
open Go.RowKit
set_option linter.unusedVariables false
set_option maxRecDepth 100000
set_option linter.unusedSimpArgs false

/-- A cut of a row that can be read can be read. -/
theorem SlB.cut {w : World} {a : Option Addr} {n cap : Nat} {l sp : List UInt8} (h : SlB w (.slice a n cap) l sp) (lo hi : Nat) (h1 : lo ≤ hi) (h2 : hi ≤ l.length) :
    SlB w (.slice (if cap = lo then a else a.map (·.add (lo * 1))) (hi - lo) (cap - lo)) ((l.drop lo).take (hi - lo)) (l.drop hi ++ sp) := by
  have hlen : ((l.drop lo).take (hi - lo)).length = hi - lo := by simp; omega
  obtain ⟨k1, ⟨k2, k3, k4⟩ | ⟨a, k2, k3, k4⟩ | ⟨b, off, c, k2, k3, k4, k5, k6⟩⟩ := h
  · cases k2
    obtain rfl : l = [] := List.eq_nil_of_length_eq_zero k3
    obtain rfl : sp = [] := by simpa [bvs] using k4
    simp at h2
    subst h2
    obtain rfl : lo = 0 := by omega
    simpa using SlB.nil w
  · cases k2
    obtain rfl : l = [] := List.eq_nil_of_length_eq_zero k3
    obtain rfl : sp = [] := by simpa [bvs] using k4
    simp at h2
    subst h2
    obtain rfl : lo = 0 := by omega
    exact ⟨rfl, .inr (.inl ⟨a, rfl, rfl, rfl⟩)⟩
  · cases k2
    have hc : cap = l.length + sp.length := by simpa [bvs_length] using k5.symm
    have hl : l.drop lo = (l.drop lo).take (hi - lo) ++ l.drop hi := by
      conv => lhs; rw [← List.take_append_drop (hi - lo) (l.drop lo)]
      rw [List.drop_drop, show lo + (hi - lo) = hi by omega]
    by_cases hcl : cap = lo
    · rw [if_pos hcl]
      have e1 : hi = lo := by omega
      have e2 : lo = l.length := by omega
      obtain rfl : sp = [] := List.eq_nil_of_length_eq_zero (by omega)
      subst e1
      refine ⟨by simp [bvs], .inr (.inr ⟨b, off, cap - hi, by simp, by omega, by omega, by simp [bvs]; omega, fun i u hu => ?_⟩)⟩
      rw [show List.drop hi l = [] from List.drop_eq_nil_of_le (by omega)] at hu
      simp [bvs] at hu
    · rw [if_neg hcl]
      refine ⟨by simp [bvs], .inr (.inr ⟨b, off + lo, cap - lo, by simp [add_plain]; omega, by omega, by omega, by simp [bvs]; omega, fun i u hu => ?_⟩)⟩
      have := k6 (lo + i) u (by
        rw [← bvs_append] at hu ⊢
        rw [← List.append_assoc, ← hl, ← List.drop_append_of_le_length (by omega)] at hu
        simpa [bvs] using hu)
      rw [Nat.add_assoc]
      exact this
theorem slice_lh {P : Program} {tS T : TypeId} (B : ByteTys P tS T) {w : World} {a : Option Addr} {n cap : Nat} {l sp : List UInt8} (h : SlB w (.slice a n cap) l sp) (lo hi : Nat) (h1 : lo ≤ hi) (h2 : hi ≤ l.length) :
    ∃ a' c', (∀ (x y : Int) (wx : World), x = lo → y = hi → (Instr.slice tS (.slice a n cap) (some (.int .i64 x)) (some (.int .i64 y)) none).run P wx = .ok (.slice a' (hi - lo) c') wx) ∧
      SlB w (.slice a' (hi - lo) c') ((l.drop lo).take (hi - lo)) (l.drop hi ++ sp) := by
  obtain ⟨a2, c2, e, hle, hm⟩ := h.form
  cases e
  refine ⟨_, _, fun x y wx hx hy => ?_, h.cut lo hi h1 h2⟩
  subst hx
  subst hy
  obtain ⟨i, hi', hz, hs, hby⟩ := info_parts B.info
  have he : P.elem tS = T := by simp [Program.elem, B.sl]
  have hsz : (sizeOf (P.elem tS)).run P wx = .ok 1 wx := by rw [he]; simp [sizeOf, typeInfo, hi', hs]
  rw [run_slice_lh (P := P) wx tS a l.length cap (by rw [he]; exact B.sl) .i64 .i64 lo hi (by omega) (by omega) (by omega), hsz]
  simp [Result.andThen, sliced]
theorem SlB.cellAt {w : World} {b off n cap : Nat} {l sp : List UInt8} (h : SlB w (.slice (some ⟨b, off, none⟩) n cap) l sp) (k : Nat) (hk : k < l.length) : w.cell? ⟨b, off + k, none⟩ = some (.int .u8 l[k].toNat) := by
  obtain ⟨h1, h2 | ⟨a, h2, h3, h4⟩ | ⟨b', off', cap', h2, h3, h4, h5, h6⟩⟩ := h
  · cases h2.1
  · omega
  · cases h2
    exact h6 k _ (by rw [List.getElem?_append_left (by simpa [bvs_length] using hk), bvs_get, List.getElem?_eq_getElem hk]; rfl)
theorem SlB.cases {w : World} {v : Value} {l sp : List UInt8} (h : SlB w v l sp) : (v = .slice none 0 0 ∧ l = []) ∨ (∃ a, v = .slice (some a) 0 0 ∧ l = []) ∨ ∃ b off cap, v = .slice (some ⟨b, off, none⟩) l.length cap ∧ l.length ≤ cap ∧ cap ≤ maxLen := by
  obtain ⟨h1, ⟨h2, h3, h4⟩ | ⟨a, h2, h3, h4⟩ | ⟨b', off', cap', h2, h3, h4, h5, h6⟩⟩ := h
  · exact .inl ⟨h2, List.eq_nil_of_length_eq_zero h3⟩
  · exact .inr (.inl ⟨a, h2, List.eq_nil_of_length_eq_zero h3⟩)
  · exact .inr (.inr ⟨b', off', cap', h2, h3, h4⟩)
end Go.Proofs.YtljhanhipmnioaaGreat
