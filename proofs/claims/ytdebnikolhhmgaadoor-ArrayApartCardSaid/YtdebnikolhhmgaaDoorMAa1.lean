/-
  General laws, of no program: what a call changed of memory ('Frm'), rows of cells that a call owns ('Own') or reads ('Sl'), append, make and copy over them. No conditions but those that each law names. Laws on slices of bytes: read, owned, appended to, made, turned into a string; and the walk's step for an operation whose run is known. No conditions but those that each law names. Rows of elements of k cells each: read, owned, appended to; of no program. No conditions but those that each law names. What a method of an array leaves as it was; refusals and their numbers. No conditions but those that each theorem names. errors.Is at refusals; number; made; what makes needs; demand of what New did not make. No conditions but those that each theorem names. number; made; what makes needs; demand of what New did not make. No conditions but those that each theorem names. An array as it lies in memory. No conditions but those that each theorem names. Needs: what must hold for a call to be done. No conditions but those that each theorem names. A device's faults changed; a step; more needs. No conditions but those that each theorem names. More needs; a step. No conditions but those that each theorem names. A step; reads that fail. No conditions but those that each theorem names.
-/
import Derived.WalkKit
import Derived.WalkSpells
import Derived.WalkLawsBesides
import Derived.Deep.AppendSrc
import Derived.Laws.CopyOwn
import Derived.Laws.BytesArg
import Derived.Carry
import Derived.Laws.BytesString
import Derived.Lib.Hide
import Derived.Test.YtdebnikolhhmgaaDoorChecked
import Derived.Stop.Asserts
import Derived.LaidEql
import Derived.RowKitTokens
import Derived.WalkHide
import Derived.StillTailTactics
import Derived.OpenShut
import Derived.OrdersHeld
import Derived.BigQuiet
import Derived.Deep.QuietTactic
import Derived.Deep.MidRow
import Derived.Deep.RegionHeld3
import Derived.Deep.RegionLaw
import Derived.Deep.RegionWith
import Derived.LaidEqlPtr
import Derived.Deep.CutBlock
import Derived.Deep.DeepCutAuto
import Derived.Deep.Slices
import Derived.Shelf.Abstract
namespace Go.Proofs.YtdebnikolhhmgaaDoor
open Go.RowKit
set_option linter.unusedVariables false
set_option maxRecDepth 100000
set_option linter.unusedSimpArgs false

/-- What was there is as it was, but for the blocks of the list. -/
structure Frm (L : List Nat) (w w' : World) : Prop where
  os : w'.os = w.os
  tape : w'.tape = w.tape
  output : w'.output = w.output
  size : w.heap.size ≤ w'.heap.size
  block : ∀ k, k < w.heap.size → k ∉ L → w'.heap[k]? = w.heap[k]?
namespace Frm
variable {L L' : List Nat} {w w1 w2 w' : World}
theorem refl (L : List Nat) (w : World) : Frm L w w := ⟨rfl, rfl, rfl, Nat.le_refl _, fun _ _ _ => rfl⟩
theorem trans (h : Frm L w w1) (k : Frm L' w1 w2) (hL : ∀ i ∈ L', i ∈ L ∨ w.heap.size ≤ i) : Frm L w w2 :=
  ⟨k.os.trans h.os, k.tape.trans h.tape, k.output.trans h.output, Nat.le_trans h.size k.size, fun i hi hn =>
    (k.block i (Nat.lt_of_lt_of_le hi h.size) (fun hm => by rcases hL i hm with h1 | h1; exact hn h1; omega)).trans (h.block i hi hn)⟩
theorem mono (h : Frm L w w') (hL : ∀ i ∈ L, i ∈ L' ∨ w.heap.size ≤ i) : Frm L' w w' :=
  ⟨h.os, h.tape, h.output, h.size, fun i hi hn => h.block i hi (fun hm => by rcases hL i hm with h1 | h1; exact hn h1; omega)⟩
theorem drew (h : Frm L w w') : Frm L w w'.drew := ⟨h.os, h.tape, h.output, h.size, h.block⟩
theorem drewN (h : Frm L w w') (n : Nat) : Frm L w (w'.drewN n) := ⟨h.os, h.tape, h.output, h.size, h.block⟩
theorem alloc (h : Frm L w w') (o : Obj) : Frm L w (w'.alloc o) :=
  h.trans (L' := []) ⟨rfl, rfl, rfl, by simp, fun k hk _ => Below.heap_alloc _ _ _ hk⟩ (by simp)
theorem setCell (h : Frm L w w') (p : Addr) (u : Value) (hp : p.block ∈ L ∨ w.heap.size ≤ p.block) : Frm L w (w'.setCell p u) :=
  h.trans (L' := [p.block]) ⟨rfl, rfl, rfl, by simp [World.setCell], fun k hk hn => Below.heap_setCell _ _ _ _ (by simpa using hn)⟩ (by simpa using hp)
theorem below (h : Frm L w w') {B : Nat} (hL : ∀ i ∈ L, B ≤ i) (hB : B ≤ w.heap.size) : Below B w w' :=
  ⟨h.os, h.tape, h.output, h.size, fun k hk => h.block k (by omega) (fun hm => by have := hL k hm; omega)⟩
theorem of_grown {row : Option Nat} (h : w.grownBy w' row) (hL : ∀ k, row = some k → k ∈ L) : Frm L w w' :=
  ⟨h.os, h.tape, h.output, h.size, fun k hk hn => h.block k hk (fun e => hn (hL k e.symm))⟩
theorem cell (h : Frm L w w') {p : Addr} {v : Value} (hc : w.cell? p = some v) (hn : p.block ∉ L) : w'.cell? p = some v :=
  (World.cell?_of_block (w := w) (h.block p.block (World.block_lt_of_cell? w p hc) hn)).trans hc
theorem heap (h : Frm L w w') {k : Nat} {o : Obj} (hc : w.heap[k]? = some o) (hn : k ∉ L) : w'.heap[k]? = some o :=
  (h.block k (by rcases Nat.lt_or_ge k w.heap.size with h1 | h1; exact h1; simp [Array.getElem?_eq_none h1] at hc) hn).trans hc
end Frm
theorem lt_heap {w : World} {k : Nat} {o : Obj} (h : w.heap[k]? = some o) : k < w.heap.size := by
  rcases Nat.lt_or_ge k w.heap.size with h1 | h1
  · exact h1
  · simp [Array.getElem?_eq_none h1] at h
theorem cell_of_heap {w : World} {k : Nat} {cs : Array Value} {T : TypeId} {fr : Nat × Nat} (h : w.heap[k]? = some (.cells cs T fr)) (i : Nat) : w.cell? ⟨k, i, none⟩ = cs[i]? := by
  simp [World.cell?, h]
theorem frozen_of_heap {w : World} {k : Nat} {cs : Array Value} {T : TypeId} (h : w.heap[k]? = some (.cells cs T (0, 0))) (i : Nat) : w.frozen? ⟨k, i, none⟩ = false := by
  simp [World.frozen?, h]
theorem heap_setCell_same {w : World} {k i : Nat} {cs : Array Value} {T : TypeId} {fr : Nat × Nat} (v : Value) (h : w.heap[k]? = some (.cells cs T fr)) :
    (w.setCell ⟨k, i, none⟩ v).heap[k]? = some (.cells (cs.setIfInBounds i v) T fr) := by
  simp [World.setCell, Array.getElem?_modify, h]
theorem heap_alloc_lt {w : World} {k : Nat} {o x : Obj} (h : w.heap[k]? = some x) : (w.alloc o).heap[k]? = some x := by
  rw [Below.heap_alloc _ _ _ (lt_heap h), h]
theorem add_plain (b o i : Nat) : (⟨b, o, none⟩ : Addr).add i = ⟨b, o + i, none⟩ := by unfold Addr.add; split <;> simp_all

/-- The blocks that a slice leads to. -/
def blk : Value → List Nat
  | .slice (some a) _ _ => [a.block]
  | _ => []

/-- A slice whose block is the call's own: n elements of s cells, 'xs'; behind them the spare room 'sp'. -/
def Own (T : TypeId) (s : Nat) (w : World) (v : Value) (n : Nat) (xs sp : List Value) : Prop :=
  xs.length = n * s ∧ ((v = .slice none 0 0 ∧ n = 0 ∧ sp = []) ∨
    ∃ g cap, v = .slice (some ⟨g, 0, none⟩) n cap ∧ n ≤ cap ∧ cap ≤ maxLen ∧ (xs ++ sp).length = cap * s ∧ w.heap[g]? = some (.cells (xs ++ sp).toArray T (0, 0)))

/-- A slice that can be read, wherever it lies. -/
def Sl (s : Nat) (w : World) (v : Value) (n : Nat) (xs sp : List Value) : Prop :=
  xs.length = n * s ∧ ((v = .slice none 0 0 ∧ n = 0 ∧ sp = []) ∨
    (∃ a, v = .slice (some a) 0 0 ∧ n = 0 ∧ sp = []) ∨
    ∃ b off cap, v = .slice (some ⟨b, off, none⟩) n cap ∧ n ≤ cap ∧ cap ≤ maxLen ∧ (xs ++ sp).length = cap * s ∧ ∀ i u, (xs ++ sp)[i]? = some u → w.cell? ⟨b, off + i, none⟩ = some u)

section
variable {T : TypeId} {s : Nat} {w w' : World} {v : Value} {n : Nat} {xs sp : List Value} {L : List Nat}
theorem Own.sl (h : Own T s w v n xs sp) : Sl s w v n xs sp := by
  obtain ⟨h1, h2 | ⟨g, cap, h2, h3, h4, h5, h6⟩⟩ := h
  · exact ⟨h1, .inl h2⟩
  · refine ⟨h1, .inr (.inr ⟨g, 0, cap, h2, h3, h4, h5, fun i u hu => ?_⟩)⟩
    rw [cell_of_heap h6]
    simpa using hu
theorem Own.keep (h : Own T s w v n xs sp) (f : Frm L w w') (hn : ∀ k ∈ blk v, k ∉ L) : Own T s w' v n xs sp := by
  obtain ⟨h1, h2 | ⟨g, cap, h2, h3, h4, h5, h6⟩⟩ := h
  · exact ⟨h1, .inl h2⟩
  · subst h2
    exact ⟨h1, .inr ⟨g, cap, rfl, h3, h4, h5, f.heap h6 (hn g (by simp [blk]))⟩⟩
theorem Own.lt (h : Own T s w v n xs sp) : ∀ k ∈ blk v, k < w.heap.size := by
  obtain ⟨h1, h2 | ⟨g, cap, h2, h3, h4, h5, h6⟩⟩ := h
  · obtain ⟨rfl, _⟩ := h2; simp [blk]
  · subst h2; simpa [blk] using lt_heap h6
theorem Own.nil (T : TypeId) (s : Nat) (w : World) : Own T s w (.slice none 0 0) 0 [] [] := ⟨by simp, .inl ⟨rfl, rfl, rfl⟩⟩
theorem Sl.nil (s : Nat) (w : World) : Sl s w (.slice none 0 0) 0 [] [] := ⟨by simp, .inl ⟨rfl, rfl, rfl⟩⟩
theorem Sl.keep (h : Sl s w v n xs sp) (f : Frm L w w') (hn : ∀ k ∈ blk v, k ∉ L) : Sl s w' v n xs sp := by
  obtain ⟨h1, h2 | h2 | ⟨b, off, cap, h2, h3, h4, h5, h6⟩⟩ := h
  · exact ⟨h1, .inl h2⟩
  · exact ⟨h1, .inr (.inl h2)⟩
  · subst h2
    exact ⟨h1, .inr (.inr ⟨b, off, cap, rfl, h3, h4, h5, fun i u hu => f.cell (h6 i u hu) (by simpa [blk] using hn)⟩)⟩
theorem Sl.form (h : Sl s w v n xs sp) : ∃ a cap, v = .slice a n cap ∧ n ≤ cap ∧ cap ≤ maxLen := by
  obtain ⟨h1, ⟨rfl, rfl, rfl⟩ | ⟨a, rfl, rfl, rfl⟩ | ⟨b, off, cap, h2, h3, h4, h5, h6⟩⟩ := h
  · exact ⟨none, 0, rfl, Nat.le_refl _, Nat.zero_le _⟩
  · exact ⟨some a, 0, rfl, Nat.le_refl _, Nat.zero_le _⟩
  · exact ⟨_, cap, h2, h3, h4⟩
theorem Sl.src {P : Program} {tx e' : TypeId} (hk : P.underlying tx = some (.slice e')) (h : Sl s w v n xs sp) (h1 : ∀ u ∈ xs, u.oneCell' = true) : Src P s tx v n xs w := by
  obtain ⟨hx, ⟨rfl, rfl, rfl⟩ | ⟨a, rfl, rfl, rfl⟩ | ⟨b, off, cap, rfl, h3, h4, h5, h6⟩⟩ := h
  · obtain rfl : xs = [] := List.eq_nil_of_length_eq_zero (by simpa using hx)
    exact Src.ofNil w hk 0
  · obtain rfl : xs = [] := List.eq_nil_of_length_eq_zero (by simpa using hx)
    exact Src.ofSlice w hk a 0 0 [] (by simp) (fun j u hu => by simp at hu) (fun u hu => by cases hu)
  · refine Src.ofSlice w hk _ n cap xs hx (fun j u hu => ?_) h1
    rw [add_plain]
    exact h6 j u (by rw [List.getElem?_append_left]; exact hu; rcases Nat.lt_or_ge j xs.length with h | h; exact h; simp [List.getElem?_eq_none h] at hu)

end
/-- append, both arms. -/
theorem append_run2 {T : TypeId} {s : Nat} {w : World} {v : Value} {n : Nat} {xs sp : List Value} {P : Program} {tS tx ty : TypeId} {i : TypeInfo} {z : Value} {by' : Nat} (ht : P.underlying tS = some (.slice T)) (hi : P.info? T = some i) (hz : i.zero = some z)
    (hs : i.size = s) (hb : i.bytes = by') (hzs : z.cells.size = s) (hpos : 0 < s) (hO : Own T s w v n xs sp) {x : Value} {m : Nat} {news : List Value} (hS : Src P s tx x m news w)
    (h63 : n + m ≤ maxLen) (hbound : (n + m) * by' ≤ 140737488355328) :
    ∃ v' w' sp', (Builtin.append_ #[tS, tx] ty #[v, x]).run P w = .ok v' w' ∧ Own T s w' v' (n + m) (xs ++ news) sp' ∧ Frm (blk v) w w' ∧ (blk v' = blk v ∨ (blk v' = [w.heap.size] ∧ Frm [] w w')) ∧
      ∀ p : Value → Prop, (∀ u ∈ sp, p u) → (∀ u ∈ z.cells.toList, p u) → ∀ u ∈ sp', p u := by
  subst hs
  subst hb
  obtain ⟨h1, h2⟩ := hO
  have hnl := hS.newsLen
  have hlen : (xs ++ news).length = (n + m) * i.size := by rw [List.length_append, h1, hnl, Nat.add_mul]
  have hsmall : n + m ≤ 9223372036854775807 := by simp only [maxLen] at h63; omega
  by_cases hroom : ∃ g cap, v = .slice (some ⟨g, 0, none⟩) n cap ∧ n + m ≤ cap
  · obtain ⟨g, cap, rfl, hr⟩ := hroom
    rcases h2 with ⟨h2, _⟩ | ⟨g', cap', h2, h3, h4, h5, h6⟩
    · cases h2
    · cases h2
      have hspl : xs.length + sp.length = cap * i.size := by simpa using h5
      have hfit : n * i.size + news.length ≤ (xs ++ sp).toArray.size := by
        have : (n + m) * i.size ≤ cap * i.size := Nat.mul_le_mul_right _ hr
        simp only [List.size_toArray, h5]; rw [hnl, ← Nat.add_mul]; exact this
      have hst := run_storeCells_at P g (n * i.size) T news 0 (xs ++ sp).toArray w h6 (by simpa using hfit) hS.one
      simp only [Nat.add_zero] at hst
      have hcur : (xs ++ sp).take (n * i.size) ++ news ++ (xs ++ sp).drop (n * i.size + news.length) = (xs ++ news) ++ sp.drop news.length := by
        rw [← h1, List.take_left, List.drop_append]
        simp
      refine ⟨.slice (some ⟨g, 0, none⟩) (n + m) cap, w.setRow g ((xs ++ news) ++ sp.drop news.length).toArray, sp.drop news.length, ?_, ⟨hlen, .inr ⟨g, cap, rfl, hr, h4, ?_, ?_⟩⟩, ?_, .inl rfl, fun p hp _ u hu => hp u (List.mem_of_mem_drop hu)⟩
      · rw [← hcur]
        rcases hS.kind with ⟨e', hk⟩ | hk <;> simp [Builtin.append_, run_underlying ht, run_underlying hk, sizeOf, typeInfo, hi, hS.len, hr, hS.cells, Addr.add_lit, hst]
      · simp only [List.length_append, List.length_drop]
        simp only [List.size_toArray, List.length_append] at hfit
        omega
      · exact setRow_heap w g _ _ _ _ h6
      · exact ⟨rfl, rfl, rfl, by simp [World.setRow], fun k hk hn => setRow_other w g k _ (by simpa [blk] using hn)⟩
  · by_cases hnil : v = .slice none 0 0 ∧ m = 0
    · obtain ⟨rfl, rfl⟩ := hnil
      rcases h2 with ⟨_, rfl, rfl⟩ | ⟨_, _, h2, _⟩
      · obtain rfl : news = [] := List.eq_nil_of_length_eq_zero (by simpa using hnl)
        obtain rfl : xs = [] := List.eq_nil_of_length_eq_zero (by simpa using h1)
        refine ⟨.slice none 0 0, w, [], ?_, ⟨by simp, .inl ⟨rfl, rfl, rfl⟩⟩, Frm.refl _ _, .inl rfl, fun _ _ _ u hu => by cases hu⟩
        rcases hS.kind with ⟨e', hk⟩ | hk <;> simp [Builtin.append_, run_underlying ht, run_underlying hk, sizeOf, typeInfo, hi, hS.len, hS.cells]
      · cases h2
    · obtain ⟨base, cap, rfl, hcap, hold, hbl⟩ : ∃ base cap, v = .slice base n cap ∧ cap < n + m ∧ (Builtin.firstCells i.size n (.slice base n cap)).run P w.drew = .ok xs.toArray w.drew ∧ True := by
        rcases h2 with ⟨rfl, rfl, rfl⟩ | ⟨g, cap, rfl, h3, h4, h5, h6⟩
        · obtain rfl : xs = [] := List.eq_nil_of_length_eq_zero (by simpa using h1)
          exact ⟨none, 0, rfl, by have : m ≠ 0 := fun e => hnil ⟨rfl, e⟩; omega, run_firstCells_none w.drew i.size 0 0 0, trivial⟩
        · refine ⟨_, cap, rfl, ?_, run_firstCells_some w.drew i.size n _ n cap xs h1 (fun j u hu => ?_), trivial⟩
          · rcases Nat.lt_or_ge cap (n + m) with h | h
            · exact h
            · exact absurd ⟨g, cap, rfl, h⟩ hroom
          · have hj : j < xs.length := by
              rcases Nat.lt_or_ge j xs.length with h | h
              · exact h
              · simp [List.getElem?_eq_none h] at hu
            rw [add_plain, World.cell?_drew, cell_of_heap h6]
            simp only [Nat.zero_add, List.getElem?_toArray]
            rw [List.getElem?_append_left hj]; exact hu
      have hge := grownCap_ge w (n + m) cap T
      have hcm : grownCap w (n + m) cap T ≤ maxLen := grownCap_le_maxLen w (n + m) cap T h63
      have hr := run_append_grow_src (P := P) w tS tx ty T i z ht hi hz base n cap xs hold x m news hS hcap (by omega) (growslice_fits hcap hbound)
      refine ⟨_, _, (Builtin.zeroCells z.cells (grownCap w (n + m) cap T - (n + m))).toList, hr, ⟨hlen, .inr ⟨w.heap.size, _, rfl, hge, hcm, ?_, ?_⟩⟩, ?_, .inr ⟨rfl, ((Frm.refl _ _).drew).alloc _⟩, ?_⟩
      · rw [List.length_append, hlen, Array.length_toList, size_zeroCells, hzs, ← Nat.add_mul]
        congr 1
        omega
      · have := heap_alloc_new w.drew (.cells ((xs ++ news).toArray ++ Builtin.zeroCells z.cells (grownCap w (n + m) cap T - (n + m))) T)
        rw [show w.drew.heap.size = w.heap.size from rfl] at this
        rw [this]
        congr 2
        apply Array.ext'
        simp
      · exact ((Frm.refl _ _).drew).alloc _
      · intro p _ hp u hu
        simp only [Builtin.zeroCells, Array.toList_map, List.mem_map] at hu
        obtain ⟨j, hj, rfl⟩ := hu
        have hlt : j % z.cells.size < z.cells.size := Nat.mod_lt _ (by omega)
        rw [getElem!_pos z.cells _ hlt]
        exact hp _ (by simp)

/-- append, both arms, of the blocks alone. -/
theorem append_run {T : TypeId} {s : Nat} {w : World} {v : Value} {n : Nat} {xs sp : List Value} {P : Program} {tS tx ty : TypeId} {i : TypeInfo} {z : Value} {by' : Nat} (ht : P.underlying tS = some (.slice T)) (hi : P.info? T = some i) (hz : i.zero = some z)
    (hs : i.size = s) (hb : i.bytes = by') (hzs : z.cells.size = s) (hpos : 0 < s) (hO : Own T s w v n xs sp) {x : Value} {m : Nat} {news : List Value} (hS : Src P s tx x m news w)
    (h63 : n + m ≤ maxLen) (hbound : (n + m) * by' ≤ 140737488355328) :
    ∃ v' w' sp', (Builtin.append_ #[tS, tx] ty #[v, x]).run P w = .ok v' w' ∧ Own T s w' v' (n + m) (xs ++ news) sp' ∧ Frm (blk v) w w' ∧ (blk v' = blk v ∨ blk v' = [w.heap.size]) ∧
      ∀ p : Value → Prop, (∀ u ∈ sp, p u) → (∀ u ∈ z.cells.toList, p u) → ∀ u ∈ sp', p u := by
  obtain ⟨v', w', sp', h1, h2, h3, h4, h5⟩ := append_run2 (ty := ty) ht hi hz hs hb hzs hpos hO hS h63 hbound
  exact ⟨v', w', sp', h1, h2, h3, h4.imp id And.left, h5⟩
end Go.Proofs.YtdebnikolhhmgaaDoor

namespace Go.Proofs.YtdebnikolhhmgaaDoor
open Go.RowKit
set_option linter.unusedVariables false
set_option maxRecDepth 100000
set_option linter.unusedSimpArgs false

theorem wpList_val {P : Program} {w w' : World} {ops : Array Oper} {rest : List Oper} {o : Oper} {a : Act} {Q : Exit → Act → World → Prop} {v : Value}
    (hg : o.guard = none) (h : (execOp a.eval o).run P w = .ok (.value v) w') (k : wpList P ops Q rest (a.put o.dst v) w') : wpList P ops Q (o :: rest) a w :=
  wpList_plain hg fun K hK => by
    unfold Oper.wp
    rw [h]
    exact hK _ _ k

def bv (b : UInt8) : Value := .int .u8 b.toNat
def bvs (l : List UInt8) : List Value := l.map bv
theorem bvs_length (l : List UInt8) : (bvs l).length = l.length := by simp [bvs]
theorem bvs_append (l m : List UInt8) : bvs (l ++ m) = bvs l ++ bvs m := by simp [bvs]
theorem bvs_one (l : List UInt8) : ∀ u ∈ bvs l, u.oneCell' = true := by
  intro u hu
  obtain ⟨b, _, rfl⟩ := List.mem_map.1 hu
  rfl
theorem bvs_of {sp : List Value} (h : ∀ u ∈ sp, ∃ b, u = bv b) : ∃ l, sp = bvs l := by
  induction sp with
  | nil => exact ⟨[], rfl⟩
  | cons u r ih =>
    obtain ⟨b, rfl⟩ := h u (by simp)
    obtain ⟨l, rfl⟩ := ih fun x hx => h x (by simp [hx])
    exact ⟨b :: l, rfl⟩
theorem bvs_mem (l : List UInt8) : ∀ u ∈ bvs l, ∃ b, u = bv b := by
  intro u hu
  obtain ⟨b, _, rfl⟩ := List.mem_map.1 hu
  exact ⟨b, rfl⟩
theorem bvs_inj {l m : List UInt8} (h : bvs l = bvs m) : l = m := by
  induction l generalizing m with
  | nil => cases m with
    | nil => rfl
    | cons b r => cases h
  | cons b r ih => cases m with
    | nil => cases h
    | cons c t =>
      have h1 : bv b = bv c := (List.cons.injEq _ _ _ _ ▸ h).1
      have h2 : bvs r = bvs t := (List.cons.injEq _ _ _ _ ▸ h).2
      have e : (b.toNat : Int) = c.toNat := by simpa [bv] using h1
      have e2 : b = c := UInt8.toNat_inj.1 (by omega)
      rw [ih h2, e2]
theorem bvs_get (l : List UInt8) (i : Nat) : (bvs l)[i]? = (l[i]?).map bv := by simp [bvs]

/-- An owned row of bytes: 'l' its elements, 'sp' behind them. -/
def OwnB (T : TypeId) (w : World) (v : Value) (l sp : List UInt8) : Prop := Own T 1 w v l.length (bvs l) (bvs sp)
/-- A row of bytes that can be read. -/
def SlB (w : World) (v : Value) (l sp : List UInt8) : Prop := Sl 1 w v l.length (bvs l) (bvs sp)
theorem OwnB.sl {T : TypeId} {w : World} {v : Value} {l sp : List UInt8} (h : OwnB T w v l sp) : SlB w v l sp := Own.sl h

/-- What the table says of a slice of bytes. -/
structure ByteTys (P : Program) (tS T : TypeId) : Prop where
  sl : P.underlying tS = some (.slice T)
  el : P.underlying T = some (.int .u8)
  info : (P.info? T).map (fun i => (i.zero, i.size, i.bytes)) = some (some (.int .u8 0), 1, 1)

section
variable {P : Program} {tS T : TypeId} {w : World} {v x : Value} {l sp m msp : List UInt8}
theorem append_bytes_src (B : ByteTys P tS T) (ty : TypeId) {tx : TypeId} (hO : OwnB T w v l sp) (hS : Src P 1 tx x m.length (bvs m) w) (hb : l.length + m.length ≤ 140737488355328) :
    ∃ v' w' sp', (Builtin.append_ #[tS, tx] ty #[v, x]).run P w = .ok v' w' ∧ OwnB T w' v' (l ++ m) sp' ∧ Frm (blk v) w w' ∧ (blk v' = blk v ∨ blk v' = [w.heap.size]) := by
  obtain ⟨i, hi, hz, hs, hby⟩ := info_parts B.info
  obtain ⟨v', w', sp', h1, h2, h3, h4, h5⟩ := append_run (ty := ty) B.sl hi hz hs hby rfl (by omega) hO hS (by simp [maxLen]; omega) (by omega)
  obtain ⟨s2, rfl⟩ := bvs_of (h5 (fun u => ∃ b, u = bv b) (bvs_mem sp) (by intro u hu; simp [Value.cells] at hu; subst hu; exact ⟨0, rfl⟩))
  refine ⟨v', w', s2, h1, ?_, h3, h4⟩
  unfold OwnB
  rw [bvs_append, List.length_append]
  exact h2
theorem append_bytes (B : ByteTys P tS T) (ty : TypeId) (hO : OwnB T w v l sp) (hS : SlB w x m msp) (hb : l.length + m.length ≤ 140737488355328) :
    ∃ v' w' sp', (Builtin.append_ #[tS, tS] ty #[v, x]).run P w = .ok v' w' ∧ OwnB T w' v' (l ++ m) sp' ∧ Frm (blk v) w w' ∧ (blk v' = blk v ∨ blk v' = [w.heap.size]) :=
  append_bytes_src B ty hO (Sl.src B.sl hS (bvs_one m)) hb
theorem madeCells_zero (n : Nat) : (madeCells #[Value.int .u8 0] n).toList = bvs (List.replicate n 0) := by
  rw [toList_madeCells_one]
  simp [bvs, bv]
/-- make([]byte, n). -/
theorem make_bytes (B : ByteTys P tS T) (w : World) (kl kc : IntKind) (n : Nat) (hn : n ≤ 281474976710656) :
    ∃ w', (Instr.makeSlice tS (.int kl (n : Int)) (.int kc (n : Int))).run P w = .ok (.slice (some ⟨w.heap.size, 0, none⟩) n n) w' ∧ OwnB T w' (.slice (some ⟨w.heap.size, 0, none⟩) n n) (List.replicate n 0) [] ∧ Frm [] w w' := by
  obtain ⟨i, hi, hz, hs, hby⟩ := info_parts B.info
  obtain ⟨w', h1, h2, h3⟩ := run_make_full (P := P) w 0 tS T i _ 1 B.sl hi hz hs kl kc n (by rw [hby]; omega) (by simp [maxLen]; omega) (Nat.zero_le _)
  refine ⟨w', h1, ?_, Frm.of_grown h3 (by simp)⟩
  obtain ⟨k1, k2 | ⟨g, cap, cur, k2, _, k3, k4, k5, k6, k7⟩⟩ := h2
  · cases k2.1
  · simp only [Value.slice.injEq, Option.some.injEq, Addr.mk.injEq] at k2
    obtain ⟨⟨rfl, _⟩, _, rfl⟩ := k2
    have e1 : cur.toList = bvs (List.replicate n 0) := by
      have : cur.toList.take (n * 1) = cur.toList := List.take_of_length_le (by simp [k6])
      rw [← this, k7]
      simpa [Value.cells] using madeCells_zero n
    refine ⟨by simp [bvs_length], .inr ⟨w.heap.size, n, by simp, by simp, k5, by simp [bvs_length], ?_⟩⟩
    rw [k3]
    congr 2
    apply Array.ext'
    simp [e1, bvs]
/-- string(b). -/
theorem convert_bytes (B : ByteTys P tS T) (hS : SlB w v l sp) {dst : TypeId} (hd : P.underlying dst = some .string) : (convert tS dst v).run P w = .ok (.string ⟨l.toArray⟩) w := by
  obtain ⟨h1, ⟨rfl, h2, h3⟩ | ⟨a, rfl, h2, h3⟩ | ⟨b, off, cap, rfl, h3, h4, h5, h6⟩⟩ := hS
  · obtain rfl : l = [] := List.eq_nil_of_length_eq_zero h2
    exact run_convert_bytes_nil w tS T B.sl B.el 0 0 dst hd
  · obtain rfl : l = [] := List.eq_nil_of_length_eq_zero h2
    have hl : (loadCells a 0).run P w = .ok (([] : List Int).map (Value.int .u8)).toArray w := by
      simpa using run_loadCells_list (P := P) w a [] (fun j v hj => by simp at hj)
    rw [run_convert_bytes_string w tS dst T _ 0 0 B.sl B.el hd, run_bytesToString w a 0 0 [] hl]
    rfl
  · have := run_convert_bytes_arg (P := P) w tS T B.sl B.el b off l.length cap (l.map fun b => (b.toNat : Int)) (by simp) (fun i hi => by
      have := h6 i (bv l[i]) (by rw [List.getElem?_append_left (by simpa [bvs_length] using hi), bvs_get, List.getElem?_eq_getElem hi]; rfl)
      rw [this]
      simp [bv, List.getD, List.getElem?_eq_getElem hi]) dst hd
    rw [this]
    congr 2
    simp [strOfNums, Function.comp_def]
theorem SlB.form (h : SlB w v l sp) : ∃ a cap, v = .slice a l.length cap ∧ l.length ≤ cap ∧ cap ≤ maxLen := Sl.form h
theorem OwnB.keep {w' : World} {L : List Nat} (h : OwnB T w v l sp) (f : Frm L w w') (hn : ∀ k ∈ blk v, k ∉ L) : OwnB T w' v l sp := Own.keep h f hn
theorem SlB.keep {w' : World} {L : List Nat} (h : SlB w v l sp) (f : Frm L w w') (hn : ∀ k ∈ blk v, k ∉ L) : SlB w' v l sp := Sl.keep h f hn
theorem OwnB.lt (h : OwnB T w v l sp) : ∀ k ∈ blk v, k < w.heap.size := Own.lt h
theorem OwnB.nil (T : TypeId) (w : World) : OwnB T w (.slice none 0 0) [] [] := Own.nil T 1 w
theorem SlB.nil (w : World) : SlB w (.slice none 0 0) [] [] := Sl.nil 1 w
end
/-- 'append(s, x...)' as the walk meets it. -/
theorem wpList_append_bytes {P : Program} {tS T : TypeId} (B : ByteTys P tS T) {w : World} {ops : Array Oper} {rest : List Oper} {o : Oper} {a : Act} {Q : Exit → Act → World → Prop}
    {v y : Value} {l sp m msp : List UInt8} (hO : OwnB T w v l sp) (hS : SlB w y m msp) (hb : l.length + m.length ≤ 140737488355328)
    (hg : o.guard = none) (s x : Operand) (hop : o.op = Op.call { callee := Callee.builtin Builtin.append, args := #[s, x], argTypes := #[tS, tS] }) (hs : a.eval s = v) (hx : a.eval x = y)
    (k : ∀ a' cap' w' sp', OwnB T w' (.slice a' (l.length + m.length) cap') (l ++ m) sp' → Frm (blk v) w w' → (∀ i ∈ blk (.slice a' (l.length + m.length) cap'), i ∈ blk v ∨ w.heap.size ≤ i) →
      wpList P ops Q rest (a.put o.dst (.slice a' (l.length + m.length) cap')) w') :
    wpList P ops Q (o :: rest) a w := by
  obtain ⟨v', w', sp', h1, h2, h3, h4⟩ := append_bytes (x := y) B o.type hO hS hb
  obtain ⟨a', cap', rfl, _, _⟩ := h2.sl.form
  rw [List.length_append] at h1 h2 h4
  refine wpList_val (w' := w') hg ?_ (k a' cap' w' sp' h2 h3 ?_)
  · simp [execOp, hop, resolve, invoke, builtin, hs, hx, h1, Result.andThen]
  · intro i hi
    rcases h4 with h4 | h4
    · exact .inl (h4 ▸ hi)
    · rw [h4] at hi; simp at hi; exact .inr (by omega)
/-- 'make([]byte, n)' as the walk meets it. -/
theorem wpList_make_bytes {P : Program} {tS T : TypeId} (B : ByteTys P tS T) {w : World} {ops : Array Oper} {rest : List Oper} {o : Oper} {a : Act} {Q : Exit → Act → World → Prop}
    (n : Nat) (hn : n ≤ 281474976710656) (hg : o.guard = none) (x y : Operand) (hop : o.op = Op.makeSlice tS x y) {kl kc : IntKind} {X Y : Int} (hx : a.eval x = .int kl X) (hy : a.eval y = .int kc Y) (hX : X = n) (hY : Y = n)
    (k : ∀ w', OwnB T w' (.slice (some ⟨w.heap.size, 0, none⟩) n n) (List.replicate n 0) [] → Frm [] w w' → wpList P ops Q rest (a.put o.dst (.slice (some ⟨w.heap.size, 0, none⟩) n n)) w') :
    wpList P ops Q (o :: rest) a w := by
  subst hX
  subst hY
  obtain ⟨w', h1, h2, h3⟩ := make_bytes B w kl kc n hn
  refine wpList_val (v := .slice (some ⟨w.heap.size, 0, none⟩) n n) (w' := w') hg ?_ (k w' h2 h3)
  simp [execOp, hop, hx, hy, h1, Result.andThen]
theorem OwnB.heap {T : TypeId} {w : World} {g n cap : Nat} {l sp : List UInt8} (h : OwnB T w (.slice (some ⟨g, 0, none⟩) n cap) l sp) : w.heap[g]? = some (.cells (bvs (l ++ sp)).toArray T (0, 0)) := by
  obtain ⟨h1, h2 | ⟨g', cap', h2, h3, h4, h5, h6⟩⟩ := h
  · cases h2.1
  · cases h2; rw [bvs_append]; exact h6
theorem OwnB.caps {T : TypeId} {w : World} {g n cap : Nat} {l sp : List UInt8} (h : OwnB T w (.slice (some ⟨g, 0, none⟩) n cap) l sp) : n = l.length ∧ cap = l.length + sp.length ∧ cap ≤ maxLen := by
  obtain ⟨h1, h2 | ⟨g', cap', h2, h3, h4, h5, h6⟩⟩ := h
  · cases h2.1
  · cases h2; simp [bvs_length] at h5; exact ⟨rfl, by omega, h4⟩
theorem OwnB.of_heap {T : TypeId} {w : World} {g n cap : Nat} {l sp : List UInt8} (h : w.heap[g]? = some (.cells (bvs (l ++ sp)).toArray T (0, 0))) (hn : n = l.length) (hc : cap = l.length + sp.length) (hm : cap ≤ maxLen) :
    OwnB T w (.slice (some ⟨g, 0, none⟩) n cap) l sp := by
  subst hn
  refine ⟨by simp [bvs_length], .inr ⟨g, cap, rfl, by omega, hm, by simp [bvs_length, hc], ?_⟩⟩
  rw [h, bvs_append]
theorem bvs_set (l : List UInt8) (i : Nat) (x : UInt8) : (bvs l).toArray.setIfInBounds i (bv x) = (bvs (l.set i x)).toArray := by
  apply Array.ext'
  simp [bvs, List.map_set]
/-- A store into an owned row of bytes. -/
theorem OwnB.store {T : TypeId} {w : World} {g n cap : Nat} {l sp : List UInt8} (h : OwnB T w (.slice (some ⟨g, 0, none⟩) n cap) l sp) (i : Nat) (hi : i < l.length) (x : UInt8) {u : Value} (hu : u = bv x) :
    OwnB T (w.setCell ⟨g, i, none⟩ u) (.slice (some ⟨g, 0, none⟩) n cap) (l.set i x) sp := by
  subst hu
  obtain ⟨h1, h2, h3⟩ := h.caps
  refine OwnB.of_heap ?_ (by simpa using h1) (by simpa using h2) h3
  rw [heap_setCell_same _ h.heap, bvs_set, List.set_append_left _ _ hi]
theorem OwnB.cell {T : TypeId} {w : World} {g n cap : Nat} {l sp : List UInt8} (h : OwnB T w (.slice (some ⟨g, 0, none⟩) n cap) l sp) (i : Nat) (hi : i < l.length + sp.length) : w.cell? ⟨g, i, none⟩ = some (bv (l ++ sp)[i]!) := by
  have hi' : i < (l ++ sp).length := by simpa using hi
  rw [cell_of_heap h.heap, List.getElem?_toArray, bvs_get, List.getElem?_eq_getElem hi', getElem!_pos (l ++ sp) i hi']
  rfl
theorem OwnB.frozen {T : TypeId} {w : World} {g n cap : Nat} {l sp : List UInt8} (h : OwnB T w (.slice (some ⟨g, 0, none⟩) n cap) l sp) (i : Nat) : w.frozen? ⟨g, i, none⟩ = false := frozen_of_heap h.heap i
/-- The same steps inside a region that draws its order. -/
theorem step_val {P : Program} {w w' : World} {ops : Array Oper} {o : Oper} {a : Act} {K : Act → World → Prop} {Q : Exit → Act → World → Prop} {E : Prop} {v : Value}
    (hg : o.guard = none) (h : (execOp a.eval o).run P w = .ok (.value v) w') (k : K (a.put o.dst v) w') : if Region.wanted o (yielded ops a.tmps) = true then Oper.wp P o a w K Q else E := by
  rw [if_pos (by simp [Region.wanted, hg])]
  unfold Oper.wp
  rw [h]
  exact k
end Go.Proofs.YtdebnikolhhmgaaDoor

namespace Go.Proofs.YtdebnikolhhmgaaDoor.Kr
open Go.RowKit
set_option linter.unusedVariables false
set_option maxRecDepth 100000
set_option linter.unusedSimpArgs false

section
variable {T : TypeId} {s : Nat} {w w' : World} {v : Value} {n : Nat} {xs sp : List Value} {L : List Nat}
theorem append_run2 {T : TypeId} {s : Nat} {w : World} {v : Value} {n : Nat} {xs sp : List Value} {P : Program} {tS tx ty : TypeId} {i : TypeInfo} {z : Value} {by' : Nat} (ht : P.underlying tS = some (.slice T)) (hi : P.info? T = some i) (hz : i.zero = some z)
    (hs : i.size = s) (hb : i.bytes = by') (hzs : z.cells.size = s) (hpos : 0 < s) (hO : Own T s w v n xs sp) {x : Value} {m : Nat} {news : List Value} (hS : Src P s tx x m news w)
    (h63 : n + m ≤ maxLen) (hbound : (n + m) * by' ≤ 140737488355328) :
    ∃ v' w' sp', (Builtin.append_ #[tS, tx] ty #[v, x]).run P w = .ok v' w' ∧ Own T s w' v' (n + m) (xs ++ news) sp' ∧ Frm (blk v) w w' ∧ (blk v' = blk v ∨ (blk v' = [w.heap.size] ∧ Frm [] w w')) ∧
      ∀ p : Value → Prop, (∀ u ∈ sp, p u) → (∀ u ∈ z.cells.toList, p u) → ∀ u ∈ sp', p u := by
  subst hs
  subst hb
  obtain ⟨h1, h2⟩ := hO
  have hnl := hS.newsLen
  have hlen : (xs ++ news).length = (n + m) * i.size := by rw [List.length_append, h1, hnl, Nat.add_mul]
  have hsmall : n + m ≤ 9223372036854775807 := by simp only [maxLen] at h63; omega
  by_cases hroom : ∃ g cap, v = .slice (some ⟨g, 0, none⟩) n cap ∧ n + m ≤ cap
  · obtain ⟨g, cap, rfl, hr⟩ := hroom
    rcases h2 with ⟨h2, _⟩ | ⟨g', cap', h2, h3, h4, h5, h6⟩
    · cases h2
    · cases h2
      have hspl : xs.length + sp.length = cap * i.size := by simpa using h5
      have hfit : n * i.size + news.length ≤ (xs ++ sp).toArray.size := by
        have : (n + m) * i.size ≤ cap * i.size := Nat.mul_le_mul_right _ hr
        simp only [List.size_toArray, h5]; rw [hnl, ← Nat.add_mul]; exact this
      have hst := run_storeCells_at P g (n * i.size) T news 0 (xs ++ sp).toArray w h6 (by simpa using hfit) hS.one
      simp only [Nat.add_zero] at hst
      have hcur : (xs ++ sp).take (n * i.size) ++ news ++ (xs ++ sp).drop (n * i.size + news.length) = (xs ++ news) ++ sp.drop news.length := by
        rw [← h1, List.take_left, List.drop_append]
        simp
      refine ⟨.slice (some ⟨g, 0, none⟩) (n + m) cap, w.setRow g ((xs ++ news) ++ sp.drop news.length).toArray, sp.drop news.length, ?_, ⟨hlen, .inr ⟨g, cap, rfl, hr, h4, ?_, ?_⟩⟩, ?_, .inl rfl, fun p hp _ u hu => hp u (List.mem_of_mem_drop hu)⟩
      · rw [← hcur]
        rcases hS.kind with ⟨e', hk⟩ | hk <;> simp [Builtin.append_, run_underlying ht, run_underlying hk, sizeOf, typeInfo, hi, hS.len, hr, hS.cells, Addr.add_lit, hst]
      · simp only [List.length_append, List.length_drop]
        simp only [List.size_toArray, List.length_append] at hfit
        omega
      · exact setRow_heap w g _ _ _ _ h6
      · exact ⟨rfl, rfl, rfl, by simp [World.setRow], fun k hk hn => setRow_other w g k _ (by simpa [blk] using hn)⟩
  · by_cases hnil : v = .slice none 0 0 ∧ m = 0
    · obtain ⟨rfl, rfl⟩ := hnil
      rcases h2 with ⟨_, rfl, rfl⟩ | ⟨_, _, h2, _⟩
      · obtain rfl : news = [] := List.eq_nil_of_length_eq_zero (by simpa using hnl)
        obtain rfl : xs = [] := List.eq_nil_of_length_eq_zero (by simpa using h1)
        refine ⟨.slice none 0 0, w, [], ?_, ⟨by simp, .inl ⟨rfl, rfl, rfl⟩⟩, Frm.refl _ _, .inl rfl, fun _ _ _ u hu => by cases hu⟩
        rcases hS.kind with ⟨e', hk⟩ | hk <;> simp [Builtin.append_, run_underlying ht, run_underlying hk, sizeOf, typeInfo, hi, hS.len, hS.cells]
      · cases h2
    · obtain ⟨base, cap, rfl, hcap, hold, hbl⟩ : ∃ base cap, v = .slice base n cap ∧ cap < n + m ∧ (Builtin.firstCells i.size n (.slice base n cap)).run P w.drew = .ok xs.toArray w.drew ∧ True := by
        rcases h2 with ⟨rfl, rfl, rfl⟩ | ⟨g, cap, rfl, h3, h4, h5, h6⟩
        · obtain rfl : xs = [] := List.eq_nil_of_length_eq_zero (by simpa using h1)
          exact ⟨none, 0, rfl, by have : m ≠ 0 := fun e => hnil ⟨rfl, e⟩; omega, run_firstCells_none w.drew i.size 0 0 0, trivial⟩
        · refine ⟨_, cap, rfl, ?_, run_firstCells_some w.drew i.size n _ n cap xs h1 (fun j u hu => ?_), trivial⟩
          · rcases Nat.lt_or_ge cap (n + m) with h | h
            · exact h
            · exact absurd ⟨g, cap, rfl, h⟩ hroom
          · have hj : j < xs.length := by
              rcases Nat.lt_or_ge j xs.length with h | h
              · exact h
              · simp [List.getElem?_eq_none h] at hu
            rw [add_plain, World.cell?_drew, cell_of_heap h6]
            simp only [Nat.zero_add, List.getElem?_toArray]
            rw [List.getElem?_append_left hj]; exact hu
      have hge := grownCap_ge w (n + m) cap T
      have hcm : grownCap w (n + m) cap T ≤ maxLen := grownCap_le_maxLen w (n + m) cap T h63
      have hr := run_append_grow_src (P := P) w tS tx ty T i z ht hi hz base n cap xs hold x m news hS hcap (by omega) (growslice_fits hcap hbound)
      refine ⟨_, _, (Builtin.zeroCells z.cells (grownCap w (n + m) cap T - (n + m))).toList, hr, ⟨hlen, .inr ⟨w.heap.size, _, rfl, hge, hcm, ?_, ?_⟩⟩, ?_, .inr ⟨rfl, ((Frm.refl _ _).drew).alloc _⟩, ?_⟩
      · rw [List.length_append, hlen, Array.length_toList, size_zeroCells, hzs, ← Nat.add_mul]
        congr 1
        omega
      · have := heap_alloc_new w.drew (.cells ((xs ++ news).toArray ++ Builtin.zeroCells z.cells (grownCap w (n + m) cap T - (n + m))) T)
        rw [show w.drew.heap.size = w.heap.size from rfl] at this
        rw [this]
        congr 2
        apply Array.ext'
        simp
      · exact ((Frm.refl _ _).drew).alloc _
      · intro p _ hp u hu
        simp only [Builtin.zeroCells, Array.toList_map, List.mem_map] at hu
        obtain ⟨j, hj, rfl⟩ := hu
        have hlt : j % z.cells.size < z.cells.size := Nat.mod_lt _ (by omega)
        rw [getElem!_pos z.cells _ hlt]
        exact hp _ (by simp)

end
/-- How an element lies in k cells. -/
structure Enco {α : Type} (enc : α → List Value) (k : Nat) : Prop where
  len : ∀ x, (enc x).length = k
  one : ∀ x, ∀ u ∈ enc x, u.oneCell' = true
  pos : 0 < k
  inj : ∀ x y, enc x = enc y → x = y
def flt {α : Type} (enc : α → List Value) (l : List α) : List Value := l.flatMap enc
section
variable {α : Type} {enc : α → List Value} {k : Nat}
theorem flt_cons (x : α) (l : List α) : flt enc (x :: l) = enc x ++ flt enc l := rfl
theorem flt_append (l m : List α) : flt enc (l ++ m) = flt enc l ++ flt enc m := by simp [flt]
theorem flt_length (E : Enco enc k) : ∀ l : List α, (flt enc l).length = l.length * k
  | [] => by simp [flt]
  | x :: l => by rw [flt_cons, List.length_append, E.len, flt_length E l, List.length_cons, Nat.add_mul]; omega
theorem flt_oneCell (E : Enco enc k) (l : List α) : ∀ u ∈ flt enc l, u.oneCell' = true := fun u hu => by
  obtain ⟨x, _, hx⟩ := List.mem_flatMap.1 hu
  exact E.one x u hx
theorem flt_get (E : Enco enc k) : ∀ (l : List α) (i : Nat) (h : i < l.length) (j : Nat), j < k → (flt enc l)[i * k + j]? = (enc l[i])[j]?
  | [], i, h, _, _ => by simp at h
  | x :: r, 0, h, j, hj => by
    rw [flt_cons, Nat.zero_mul, Nat.zero_add, List.getElem?_append_left (by rw [E.len]; exact hj)]; rfl
  | x :: r, i + 1, h, j, hj => by
    rw [flt_cons, List.getElem?_append_right (by rw [E.len, Nat.add_mul]; omega), E.len, show (i + 1) * k + j - k = i * k + j by rw [Nat.add_mul]; omega, flt_get E r i (by simpa using h) j hj]
    simp
/-- The cells with one of them written, as those of a list. -/
theorem flt_set (E : Enco enc k) : ∀ (l : List α) (i : Nat) (j : Nat) (h : i < l.length) (_ : j < k) (y : α) (v : Value), enc y = (enc l[i]).set j v → flt enc (l.set i y) = (flt enc l).set (i * k + j) v
  | [], i, j, h, _, _, _, _ => by simp at h
  | x :: r, 0, j, h, hj, y, v, he => by
    simp only [List.set_cons_zero, flt_cons, Nat.zero_mul, Nat.zero_add]
    rw [List.set_append_left _ _ (by rw [E.len]; exact hj), he]; rfl
  | x :: r, i + 1, j, h, hj, y, v, he => by
    simp only [List.set_cons_succ, flt_cons]
    rw [flt_set E r i j (by simpa using h) hj y v (by simpa using he), List.set_append_right _ _ (by rw [E.len, Nat.add_mul]; omega), E.len, show (i + 1) * k + j - k = i * k + j by rw [Nat.add_mul]; omega]

def OwnE (enc : α → List Value) (k : Nat) (T : TypeId) (w : World) (v : Value) (l : List α) (sp : List Value) : Prop := Own T k w v l.length (flt enc l) sp
def SlE (enc : α → List Value) (k : Nat) (w : World) (v : Value) (l : List α) (sp : List Value) : Prop := Sl k w v l.length (flt enc l) sp
variable {T : TypeId} {w : World} {v x : Value} {l m : List α} {sp msp : List Value}
theorem OwnE.sl (h : OwnE enc k T w v l sp) : SlE enc k w v l sp := Own.sl h
theorem SlE.form (h : SlE enc k w v l sp) : ∃ a cap, v = .slice a l.length cap ∧ l.length ≤ cap ∧ cap ≤ maxLen := Sl.form h
theorem OwnE.keep {w' : World} {L : List Nat} (h : OwnE enc k T w v l sp) (f : Frm L w w') (hn : ∀ k ∈ blk v, k ∉ L) : OwnE enc k T w' v l sp := Own.keep h f hn
theorem OwnE.keep0 {w' : World} (h : OwnE enc k T w v l sp) (f : Frm [] w w') : OwnE enc k T w' v l sp := Own.keep h f (by simp)
theorem SlE.keep {w' : World} {L : List Nat} (h : SlE enc k w v l sp) (f : Frm L w w') (hn : ∀ k ∈ blk v, k ∉ L) : SlE enc k w' v l sp := Sl.keep h f hn
theorem SlE.keep0 {w' : World} (h : SlE enc k w v l sp) (f : Frm [] w w') : SlE enc k w' v l sp := Sl.keep h f (by simp)
theorem OwnE.lt (h : OwnE enc k T w v l sp) : ∀ k ∈ blk v, k < w.heap.size := Own.lt h
theorem OwnE.nil (enc : α → List Value) (k : Nat) (T : TypeId) (w : World) : OwnE enc k T w (.slice none 0 0) [] [] := Own.nil T k w
theorem SlE.nil (enc : α → List Value) (k : Nat) (w : World) : SlE enc k w (.slice none 0 0) [] [] := Sl.nil k w
theorem OwnE.heap {g n cap : Nat} (h : OwnE enc k T w (.slice (some ⟨g, 0, none⟩) n cap) l sp) : w.heap[g]? = some (.cells (flt enc l ++ sp).toArray T (0, 0)) := by
  obtain ⟨h1, h2 | ⟨g', cap', h2, h3, h4, h5, h6⟩⟩ := h
  · cases h2.1
  · cases h2; exact h6
theorem OwnE.caps (E : Enco enc k) {g n cap : Nat} (h : OwnE enc k T w (.slice (some ⟨g, 0, none⟩) n cap) l sp) : n = l.length ∧ l.length ≤ cap ∧ l.length * k + sp.length = cap * k ∧ cap ≤ maxLen := by
  obtain ⟨h1, h2 | ⟨g', cap', h2, h3, h4, h5, h6⟩⟩ := h
  · cases h2.1
  · cases h2; rw [List.length_append, flt_length E] at h5; exact ⟨rfl, h3, h5, h4⟩
theorem OwnE.of_heap (E : Enco enc k) {g n cap : Nat} (h : w.heap[g]? = some (.cells (flt enc l ++ sp).toArray T (0, 0))) (hn : n = l.length) (hn2 : n ≤ cap) (hc : l.length * k + sp.length = cap * k) (hm : cap ≤ maxLen) :
    OwnE enc k T w (.slice (some ⟨g, 0, none⟩) n cap) l sp := by
  subst hn
  exact ⟨flt_length E l, .inr ⟨g, cap, rfl, hn2, hm, by rw [List.length_append, flt_length E]; exact hc, h⟩⟩
theorem SlE.cell (E : Enco enc k) {b off n cap : Nat} (h : SlE enc k w (.slice (some ⟨b, off, none⟩) n cap) l sp) (i : Nat) (hi : i < l.length) (j : Nat) {u : Value} (hu : (enc l[i])[j]? = some u) :
    w.cell? ⟨b, off + (i * k + j), none⟩ = some u := by
  have hj : j < k := by
    rcases Nat.lt_or_ge j k with h | h
    · exact h
    · rw [List.getElem?_eq_none (by rw [E.len]; exact h)] at hu; cases hu
  obtain ⟨h1, ⟨h2, h3, h4⟩ | ⟨a, h2, h3, h4⟩ | ⟨b', off', cap', h2, h3, h4, h5, h6⟩⟩ := h
  · omega
  · omega
  · cases h2
    have hl := flt_length E l
    have hb : i * k + j < l.length * k := by
      have := Nat.mul_le_mul_right k (show i + 1 ≤ l.length from hi)
      rw [Nat.add_mul] at this; omega
    exact h6 (i * k + j) _ (by rw [List.getElem?_append_left (by omega), flt_get E l i hi j hj, hu])
theorem SlE.at {n : Nat} {a : Option Addr} {cap : Nat} (h : SlE enc k w (.slice a n cap) l sp) (hp : 0 < l.length) : ∃ b off, a = some ⟨b, off, none⟩ := by
  obtain ⟨h1, ⟨h2, h3, h4⟩ | ⟨a', h2, h3, h4⟩ | ⟨b', off', cap', h2, h3, h4, h5, h6⟩⟩ := h
  · omega
  · omega
  · cases h2; exact ⟨_, _, rfl⟩
theorem SlE.src (E : Enco enc k) {P : Program} {tx e' : TypeId} (hk : P.underlying tx = some (.slice e')) (h : SlE enc k w v l sp) : Src P k tx v l.length (flt enc l) w := Sl.src hk h (flt_oneCell E l)
/-- What the table says of a slice of such elements. -/
structure RowTys (P : Program) (tS T : TypeId) (k by' : Nat) : Prop where
  sl : P.underlying tS = some (.slice T)
  info : ∃ z, z.cells.size = k ∧ (P.info? T).map (fun i => (i.zero, i.size, i.bytes)) = some (some z, k, by')
theorem append_e_src (E : Enco enc k) {P : Program} {tS : TypeId} {by' : Nat} (B : RowTys P tS T k by') (ty : TypeId) {tx : TypeId} (hO : OwnE enc k T w v l sp) (hS : Src P k tx x m.length (flt enc m) w) (hb : l.length + m.length ≤ 1000000000) (hby : by' ≤ 1000) :
    ∃ v' w' sp', (Builtin.append_ #[tS, tx] ty #[v, x]).run P w = .ok v' w' ∧ OwnE enc k T w' v' (l ++ m) sp' ∧ Frm (blk v) w w' ∧ (blk v' = blk v ∨ (blk v' = [w.heap.size] ∧ Frm [] w w')) := by
  obtain ⟨z, hzs, hinf⟩ := B.info
  obtain ⟨i, hi, hz, hs, hby'⟩ := info_parts hinf
  have hbb : (l.length + m.length) * by' ≤ 140737488355328 := by
    have := Nat.mul_le_mul hb hby
    omega
  obtain ⟨v', w', sp', h1, h2, h3, h4, h5⟩ := append_run2 (ty := ty) B.sl hi hz hs hby' hzs E.pos hO hS (by simp [maxLen]; omega) hbb
  refine ⟨v', w', sp', h1, ?_, h3, h4⟩
  unfold OwnE
  rw [flt_append, List.length_append]
  exact h2
theorem wpList_append_e (E : Enco enc k) {P : Program} {tS : TypeId} {by' : Nat} (B : RowTys P tS T k by') {ops : Array Oper} {rest : List Oper} {o : Oper} {a : Act} {Q : Exit → Act → World → Prop}
    {y : Value} (hO : OwnE enc k T w v l sp) (hS : SlE enc k w y m msp) (hb : l.length + m.length ≤ 1000000000) (hby : by' ≤ 1000)
    (hg : o.guard = none) (s x : Operand) (hop : o.op = Op.call { callee := Callee.builtin Builtin.append, args := #[s, x], argTypes := #[tS, tS] }) (hs : a.eval s = v) (hx : a.eval x = y)
    (kk : ∀ a' cap' w' sp', OwnE enc k T w' (.slice a' (l.length + m.length) cap') (l ++ m) sp' → Frm (blk v) w w' → (∀ i ∈ blk (.slice a' (l.length + m.length) cap'), i ∈ blk v ∨ w.heap.size ≤ i) →
      wpList P ops Q rest (a.put o.dst (.slice a' (l.length + m.length) cap')) w') :
    wpList P ops Q (o :: rest) a w := by
  obtain ⟨v', w', sp', h1, h2, h3, h4⟩ := append_e_src (x := y) E B o.type hO (SlE.src E B.sl hS) hb hby
  obtain ⟨a', cap', rfl, _, _⟩ := h2.sl.form
  rw [List.length_append] at h1 h2 h4
  refine wpList_val (w' := w') hg ?_ (kk a' cap' w' sp' h2 h3 ?_)
  · simp [execOp, hop, resolve, invoke, builtin, hs, hx, h1, Result.andThen]
  · intro i hi
    rcases h4 with h4 | ⟨h4, _⟩
    · exact .inl (h4 ▸ hi)
    · rw [h4] at hi; simp at hi; exact .inr (by omega)
theorem step_append_e (E : Enco enc k) {P : Program} {tS : TypeId} {by' : Nat} (B : RowTys P tS T k by') {ops : Array Oper} {o : Oper} {a : Act} {K : Act → World → Prop} {Q : Exit → Act → World → Prop} {X : Prop}
    {y : Value} (hO : OwnE enc k T w v l sp) (hS : SlE enc k w y m msp) (hb : l.length + m.length ≤ 1000000000) (hby : by' ≤ 1000)
    (hg : o.guard = none) (s x : Operand) (hop : o.op = Op.call { callee := Callee.builtin Builtin.append, args := #[s, x], argTypes := #[tS, tS] }) (hs : a.eval s = v) (hx : a.eval x = y)
    (kk : ∀ a' cap' w' sp', OwnE enc k T w' (.slice a' (l.length + m.length) cap') (l ++ m) sp' → Frm (blk v) w w' → (∀ i ∈ blk (.slice a' (l.length + m.length) cap'), i ∈ blk v ∨ w.heap.size ≤ i) →
      K (a.put o.dst (.slice a' (l.length + m.length) cap')) w') :
    if Region.wanted o (yielded ops a.tmps) = true then Oper.wp P o a w K Q else X := by
  obtain ⟨v', w', sp', h1, h2, h3, h4⟩ := append_e_src (x := y) E B o.type hO (SlE.src E B.sl hS) hb hby
  obtain ⟨a', cap', rfl, _, _⟩ := h2.sl.form
  rw [List.length_append] at h1 h2 h4
  refine step_val (w' := w') hg ?_ (kk a' cap' w' sp' h2 h3 ?_)
  · simp [execOp, hop, resolve, invoke, builtin, hs, hx, h1, Result.andThen]
  · intro i hi
    rcases h4 with h4 | ⟨h4, _⟩
    · exact .inl (h4 ▸ hi)
    · rw [h4] at hi; simp at hi; exact .inr (by omega)
/-- A store of one cell. -/
theorem OwnE.store (E : Enco enc k) {g n cap : Nat} (h : OwnE enc k T w (.slice (some ⟨g, 0, none⟩) n cap) l sp) (i j : Nat) (hi : i < l.length) (hj : j < k) (y : α) (u : Value) (he : enc y = (enc l[i]).set j u) :
    OwnE enc k T (w.setCell ⟨g, i * k + j, none⟩ u) (.slice (some ⟨g, 0, none⟩) n cap) (l.set i y) sp := by
  obtain ⟨h1, h2, h3, h4⟩ := h.caps E
  have hl := flt_length E l
  have hb : i * k + j < l.length * k := by
    have := Nat.mul_le_mul_right k (show i + 1 ≤ l.length from hi)
    rw [Nat.add_mul] at this; omega
  refine OwnE.of_heap E ?_ (by simpa using h1) (by omega) (by simpa using h3) h4
  rw [heap_setCell_same _ h.heap, flt_set E l i j hi hj y u he]
  congr 2
  apply Array.ext'
  simp only [Array.toList_setIfInBounds]
  rw [List.set_append_left _ _ (by omega)]
/-- A block of a list's cells, read as a slice. -/
theorem SlE.of_block (E : Enco enc k) {g n : Nat} {T : TypeId} (h : w.heap[g]? = some (.cells (flt enc l).toArray T (0, 0))) (hn : n = l.length) (hm : n ≤ 1000000000) : SlE enc k w (.slice (some ⟨g, 0, none⟩) n n) l [] := by
  subst hn
  exact OwnE.sl (OwnE.of_heap (T := T) E (by rw [List.append_nil]; exact h) rfl (Nat.le_refl _) (by simp) (by simp only [maxLen]; omega))
end
end Go.Proofs.YtdebnikolhhmgaaDoor.Kr

namespace Go.Proofs.YtdebnikolhhmgaaDoor
open Go.RowKit
set_option linter.unusedVariables false
set_option linter.unusedSimpArgs false
set_option maxRecDepth 100000

open Kr (OwnE SlE Enco RowTys)
open Go.Extern.Stop Go.Stop Go.Extern
/-- The types of what an array is made of: its record, its devices, their sectors, its row of loose writes. -/
def okT (T : TypeId) : Bool := T != 35 && T != 86 && T != 96 && T != 90
/-- What was there below lo is as it was, and so is each block of another type than an array's. -/
structure Fa (lo : Nat) (w w' : World) : Prop where
  os : w'.os = w.os
  tape : w'.tape = w.tape
  output : w'.output = w.output
  size : w.heap.size ≤ w'.heap.size
  low : ∀ (k : Nat), k < lo → k < w.heap.size → w'.heap[k]? = w.heap[k]?
  typ : ∀ (k : Nat) (cs : Array Value) (T : TypeId) (fr : Nat × Nat), w.heap[k]? = some (.cells cs T fr) → okT T = true → w'.heap[k]? = some (.cells cs T fr)
namespace Fa
variable {lo lo' : Nat} {w w1 w2 : World} {L : List Nat}
theorem refl (lo : Nat) (w : World) : Fa lo w w := ⟨rfl, rfl, rfl, Nat.le_refl _, fun _ _ _ => rfl, fun _ _ _ _ h _ => h⟩
theorem trans (h : Fa lo w w1) (k : Fa lo w1 w2) : Fa lo w w2 :=
  ⟨k.os.trans h.os, k.tape.trans h.tape, k.output.trans h.output, Nat.le_trans h.size k.size, fun i hi hl => (k.low i hi (Nat.lt_of_lt_of_le hl h.size)).trans (h.low i hi hl), fun i cs T fr hc ho => k.typ i cs T fr (h.typ i cs T fr hc ho) ho⟩
theorem of0 (f : Frm [] w w1) (lo : Nat) : Fa lo w w1 :=
  ⟨f.os, f.tape, f.output, f.size, fun k _ hl => f.block k hl (by simp), fun k cs T fr h _ => f.heap h (by simp)⟩
/-- Blocks of an array's own were written. -/
theorem of_frm (f : Frm L w w1) (h : ∀ k ∈ L, lo ≤ k ∧ ∃ (cs : Array Value) (T : TypeId) (fr : Nat × Nat), w.heap[k]? = some (.cells cs T fr) ∧ okT T = false) : Fa lo w w1 :=
  ⟨f.os, f.tape, f.output, f.size, fun k hk hl => f.block k hl (fun hm => by have := (h k hm).1; omega), fun k cs T fr hc ho => f.heap hc (fun hm => by
    obtain ⟨_, cs', T', fr', h1, h2⟩ := h k hm
    rw [hc] at h1
    cases h1
    rw [ho] at h2; cases h2)⟩
theorem mono (f : Fa lo w w1) (h : lo' ≤ lo) : Fa lo' w w1 := ⟨f.os, f.tape, f.output, f.size, fun k hk hl => f.low k (by omega) hl, f.typ⟩
theorem drew (f : Fa lo w w1) : Fa lo w w1.drew := ⟨f.os, f.tape, f.output, f.size, f.low, f.typ⟩
/-- All that was there when the array was not. -/
theorem frm (f : Fa lo w w1) (h : w.heap.size ≤ lo) : Frm [] w w1 := ⟨f.os, f.tape, f.output, f.size, fun k hk _ => f.low k (by omega) hk⟩
theorem cell (f : Fa lo w w1) {p : Addr} {v : Value} (hc : w.cell? p = some v) (h : p.block < lo) : w1.cell? p = some v :=
  (World.cell?_of_block (w := w) (f.low p.block h (World.block_lt_of_cell? w p hc))).trans hc
theorem heap (f : Fa lo w w1) {k : Nat} {o : Obj} (hc : w.heap[k]? = some o) (h : k < lo) : w1.heap[k]? = some o := (f.low k h (lt_heap hc)).trans hc
end Fa
/-- A slice whose block is of another type. -/
theorem own_fa {T k lo : Nat} {w w' : World} {v : Value} {n : Nat} {xs sp : List Value} (h : Own T k w v n xs sp) (f : Fa lo w w') (ho : okT T = true) : Own T k w' v n xs sp := by
  obtain ⟨h1, h2 | ⟨g, cap, h2, h3, h4, h5, h6⟩⟩ := h
  · exact ⟨h1, .inl h2⟩
  · exact ⟨h1, .inr ⟨g, cap, h2, h3, h4, h5, f.typ _ _ _ _ h6 ho⟩⟩
theorem own_blk {T k : Nat} {w : World} {v : Value} {n : Nat} {xs sp : List Value} (h : Own T k w v n xs sp) : ∀ i ∈ blk v, ∃ cs, w.heap[i]? = some (.cells cs T (0, 0)) := by
  obtain ⟨_, ⟨rfl, _, _⟩ | ⟨g, cap, rfl, _, _, _, hh⟩⟩ := h
  · intro i hi; simp [blk] at hi
  · intro i hi
    simp [blk] at hi
    subst hi
    exact ⟨_, hh⟩
/-- The six sentinels: variable i has the address s i; all below lo. -/
structure Sn (w : World) (lo : Nat) (s : Nat → Addr) : Prop where
  v : ∀ i, i < 6 → w.cell? ⟨i, 0, none⟩ = some (.iface 126 (.pointer (some (s i))))
  h : ∀ i, i < 6 → ∃ c t, w.heap[(s i).block]? = some (.cells c t (0, 0))
  b : ∀ i, i < 6 → (s i).block < lo
  l : 6 ≤ lo
  n : ∀ i j, i < 6 → j < 6 → s i = s j → i = j
theorem Sn.fa {w w' : World} {lo : Nat} {s : Nat → Addr} (h : Sn w lo s) (f : Fa lo w w') : Sn w' lo s :=
  ⟨fun i hi => f.cell (h.v i hi) (by have := h.l; simp; omega), fun i hi => by obtain ⟨c, t, e⟩ := h.h i hi; exact ⟨c, t, f.heap e (h.b i hi)⟩, h.b, h.l, h.n⟩
theorem Sn.keep0 {w w' : World} {lo : Nat} {s : Nat → Addr} (h : Sn w lo s) (f : Frm [] w w') : Sn w' lo s := h.fa (Fa.of0 f lo)
theorem Sn.mono {w : World} {lo lo' : Nat} {s : Nat → Addr} (h : Sn w lo s) (hl : lo ≤ lo') : Sn w lo' s := ⟨h.v, h.h, fun i hi => by have := h.b i hi; omega, by have := h.l; omega, h.n⟩
/-- A refusal: what stands against it, and its kind. -/
def rfu (s : Nat → Addr) (k : Nat) (t : ByteArray) : Value := .iface 102 (.agg #[.string t, .iface 126 (.pointer (some (s k)))])
def code : Nat → Int
  | 0 => 2
  | 1 => 1
  | 2 => 10
  | 3 => 5
  | 4 => 14
  | _ => 13
theorem unless_true (t : ByteArray) (v : Value) (w : World) : Calls Tryd.prog 60 #[.bool true, .string t, v] w fun e w' => e = .returned .nilIface ∧ w' = w := by
  go_enter Tryd.func60, Tryd.ntmps60
  go_wp2
  go_ret
  exact ⟨rfl, rfl⟩
theorem unless_false (t : ByteArray) (p : Addr) (w : World) : Calls Tryd.prog 60 #[.bool false, .string t, .iface 126 (.pointer (some p))] w fun e w' => e = .returned (.iface 102 (.agg #[.string t, .iface 126 (.pointer (some p))])) ∧ w' = w := by
  go_enter Tryd.func60, Tryd.ntmps60
  go_wp2
  go_ret
  exact ⟨rfl, rfl⟩
theorem within_any (n a b : Int) (w : World) : Calls Tryd.prog 53 #[.int .i64 n, .int .i64 a, .int .i64 b] w fun e w' => e = .returned (.bool (decide (a ≤ n ∧ n ≤ b))) ∧ w' = w := by
  by_cases h1 : a ≤ n
  · by_cases h2 : n ≤ b
    · rw [decide_eq_true (And.intro h1 h2)]
      go_enter Tryd.func53, Tryd.ntmps53
      go_wp2
      go_ret
      exact ⟨rfl, rfl⟩
    · rw [decide_eq_false (fun h => h2 h.2)]
      go_enter Tryd.func53, Tryd.ntmps53
      go_wp2
      go_ret
      exact ⟨rfl, rfl⟩
  · rw [decide_eq_false (fun h => h1 h.1)]
    go_enter Tryd.func53, Tryd.ntmps53
    go_wp2
    go_ret
    exact ⟨rfl, rfl⟩
theorem isTypeOf (v : Value) (w : World) : (Extern.ReflectliteType.typeOf #[.iface 126 v]).run Tryd.prog w = .ok (.iface 116 (.agg #[.pointer (some ⟨6, 126, none⟩)])) w := by kernel_rfl
theorem isComparable (w : World) : ((Extern.ReflectliteType.method fun t => do Extern.Rtype.noPackHeld "Comparable" t; (fun a => Value.bool a.comparable) <$> typeInfo t) #[.agg #[.pointer (some ⟨6, 126, none⟩)]]).run Tryd.prog w = .ok (.bool true) w := by kernel_rfl
theorem isMethodComparable (v : Value) (w : World) : (Go.method 263 116 v "Comparable").run Tryd.prog w = .ok (96, v) w := by kernel_rfl
theorem isComp : (Tryd.prog.info? 126).map (·.comparable) = some true := by kernel_rfl
theorem noIsE (v : Value) (xT : TypeId) (w : World) : (Instr.typeAssert (.iface 126 v) xT 118 true).run Tryd.prog w = .ok (.tuple #[.nilIface, .bool false]) w := run_typeAssert_lacksB Tryd.underlying118 (by kernel_rfl) (by kernel_rfl) v xT w
theorem noUnwrapE (v : Value) (xT : TypeId) (w : World) : (Instr.typeAssert (.iface 126 v) xT 121 true).run Tryd.prog w = .ok (.tuple #[.nilIface, .bool false]) w := run_typeAssert_lacksB Tryd.underlying121 (by kernel_rfl) (by kernel_rfl) v xT w
theorem noUnwrapsE (v : Value) (xT : TypeId) (w : World) : (Instr.typeAssert (.iface 126 v) xT 123 true).run Tryd.prog w = .ok (.tuple #[.nilIface, .bool false]) w := run_typeAssert_lacksB Tryd.underlying123 (by kernel_rfl) (by kernel_rfl) v xT w
theorem noIsR (v : Value) (xT : TypeId) (w : World) : (Instr.typeAssert (.iface 102 v) xT 118 true).run Tryd.prog w = .ok (.tuple #[.nilIface, .bool false]) w := run_typeAssert_lacksB Tryd.underlying118 (by kernel_rfl) (by kernel_rfl) v xT w
theorem hasUnwrapR (v : Value) (xT : TypeId) (w : World) : (Instr.typeAssert (.iface 102 v) xT 121 true).run Tryd.prog w = .ok (.tuple #[.iface 102 v, .bool true]) w := run_typeAssert_hasB Tryd.underlying121 (by kernel_rfl) v xT w
theorem methodUnwrapR (v : Value) (w : World) : (Go.method 263 102 v "Unwrap").run Tryd.prog w = .ok (92, v) w := by kernel_rfl
theorem Unwrap_any (t : ByteArray) (v : Value) (hv : v.oneCell' = true) (w : World) : Calls Tryd.prog 92 #[.agg #[.string t, v]] w fun r w' => r = .returned v ∧ Frm [] w w' := by
  go_enter Tryd.func92, Tryd.ntmps92
  go_wp2
  go_ret
  exact ⟨rfl, (Frm.refl [] w).alloc _⟩
end Go.Proofs.YtdebnikolhhmgaaDoor

namespace Go.Proofs.YtdebnikolhhmgaaDoor
open Go.RowKit
set_option linter.unusedVariables false
set_option linter.unusedSimpArgs false
set_option maxRecDepth 100000

open Kr (OwnE SlE Enco RowTys)
open Go.Extern.Stop Go.Stop Go.Extern
theorem isSize : (Tryd.prog.info? 151).map (·.size) = some 1 := by kernel_rfl
def mE : Value → Nat
  | .iface 102 _ => 1
  | _ => 0
set_option maxHeartbeats 2000000 in
theorem is_ref (tx : ByteArray) (p t : Addr) (c c2 : Array Value) (ty ty2 : TypeId) (W : World) (hp : W.heap[p.block]? = some (.cells c ty (0, 0))) (ht : W.heap[t.block]? = some (.cells c2 ty2 (0, 0))) :
    Calls Tryd.prog 74 #[.iface 102 (.agg #[.string tx, .iface 126 (.pointer (some p))]), .iface 126 (.pointer (some t)), .bool true] W fun r w' => r = .returned (.bool (decide (p = t))) ∧ Frm [] W w' := by
  obtain ⟨i, hi, hcmp⟩ := Option.map_eq_some_iff.1 isComp
  obtain ⟨j, hj, hjs⟩ := Option.map_eq_some_iff.1 isSize
  have nE := noIsE
  have uE := noUnwrapE
  have vE := noUnwrapsE
  have nR := noIsR
  have uR := hasUnwrapR
  have mR := methodUnwrapR
  have hty := run_eql_iface_types (P := Tryd.prog) 102 126 (.agg #[.string tx, .iface 126 (.pointer (some p))]) (.pointer (some t)) Tryd.underlying70 (by decide)
  have HU := Lib.hid (fun W => Unwrap_any tx (.iface 126 (.pointer (some p))) rfl W)
  have HP := Lib.hid hp
  have HT := Lib.hid ht
  clear hp ht
  go_enter Tryd.func74, Tryd.ntmps74
  go_wp2
  go_loopw [0] (fun E' wl => Frm [] W wl ∧ (E' = .iface 102 (.agg #[.string tx, .iface 126 (.pointer (some p))]) ∨ E' = .iface 126 (.pointer (some p)))) (fun E' _ => mE E')
  case atStart => exact ⟨Frm.refl _ _, .inl rfl⟩
  case round =>
    obtain ⟨f, rfl | rfl⟩ := hrel
    · have F := Lib.hid f
      clear f
      go_wp2_with (go_at_call 92; refine (HU.out _).mono ?_; rintro r w2 ⟨rfl, f2⟩)
      go_roundw
      case rel => exact ⟨F.out.trans f2 (by simp), .inr rfl⟩
      case measure => simp [mE]
    · have hp1 := f.heap HP.out (by simp)
      have ht1 := f.heap HT.out (by simp)
      by_cases hab : p = t
      · subst hab
        have heq := run_eql_iface_ptr_same (P := Tryd.prog) wr p Tryd.underlying70 Tryd.underlying126 hi hcmp hj
        go_wp2
        go_ret
        exact ⟨by simp, f⟩
      · have heq := run_eql_iface_ptr_other (P := Tryd.prog) wr Tryd.underlying70 Tryd.underlying126 hi hcmp hj (by rw [hjs]; decide) hab hp1 ht1
        go_wp2
        go_ret
        exact ⟨by rw [decide_eq_false hab]; rfl, f⟩
end Go.Proofs.YtdebnikolhhmgaaDoor

namespace Go.Proofs.YtdebnikolhhmgaaDoor
open Go.RowKit
set_option linter.unusedVariables false
set_option linter.unusedSimpArgs false
set_option maxRecDepth 100000

open Kr (OwnE SlE Enco RowTys)
open Go.Extern.Stop Go.Stop Go.Extern
theorem Is_ref (tx : ByteArray) (p t : Addr) (c c2 : Array Value) (ty ty2 : TypeId) (W : World) (hp : W.heap[p.block]? = some (.cells c ty (0, 0))) (ht : W.heap[t.block]? = some (.cells c2 ty2 (0, 0))) :
    Calls Tryd.prog 65 #[.iface 102 (.agg #[.string tx, .iface 126 (.pointer (some p))]), .iface 126 (.pointer (some t))] W fun r w' => r = .returned (.bool (decide (p = t))) ∧ Frm [] W w' := by
  have HI := Lib.hid (is_ref tx p t c c2 ty ty2 W hp ht)
  have h10 := @run_callFunc_extern Tryd.prog 73 _ Extern.ReflectliteType.typeOf Tryd.func73 (by kernel_rfl) (by kernel_rfl) (by kernel_rfl) (by kernel_rfl)
  have h30 := @run_callFunc_extern Tryd.prog 96 _ (Extern.ReflectliteType.method fun t => do Extern.Rtype.noPackHeld "Comparable" t; pure (.bool (← typeInfo t).comparable)) Tryd.func96 (by kernel_rfl) (by kernel_rfl) (by kernel_rfl) (by kernel_rfl)
  have e1 := isTypeOf
  have e2 := isComparable
  have e3 := isMethodComparable
  clear hp ht
  go_enter Tryd.func65, Tryd.ntmps65
  go_wp2_with (go_at_call 74; refine HI.out.mono ?_; rintro r w3 ⟨rfl, f3⟩)
  go_ret
  exact ⟨rfl, f3⟩
theorem Is_s {w : World} {lo : Nat} {s : Nat → Addr} (h : Sn w lo s) (tx : ByteArray) (k j : Nat) (hk : k < 6) (hj : j < 6) :
    Calls Tryd.prog 65 #[rfu s k tx, .iface 126 (.pointer (some (s j)))] w fun r w' => r = .returned (.bool (decide (k = j))) ∧ Frm [] w w' := by
  obtain ⟨c, t, hc⟩ := h.h k hk
  obtain ⟨c2, t2, hc2⟩ := h.h j hj
  refine (Is_ref tx (s k) (s j) c c2 t t2 w hc hc2).mono ?_
  rintro e w' ⟨rfl, f⟩
  refine ⟨?_, f⟩
  congr 2
  exact decide_eq_decide.2 ⟨fun e => h.n k j hk hj e, fun e => by rw [e]⟩
set_option maxHeartbeats 4000000 in
theorem number_any {w : World} {lo : Nat} {s : Nat → Addr} (h : Sn w lo s) (tx : ByteArray) (k : Nat) (hk : k < 6) :
    Calls Tryd.prog 42 #[rfu s k tx] w fun r w' => r = .returned (.int .i64 (code k)) ∧ Frm [] w w' := by
  have v0 := fun W (f : Frm [] w W) => f.cell (h.v 0 (by omega)) (by simp)
  have v1 := fun W (f : Frm [] w W) => f.cell (h.v 1 (by omega)) (by simp)
  have v2 := fun W (f : Frm [] w W) => f.cell (h.v 2 (by omega)) (by simp)
  have v3 := fun W (f : Frm [] w W) => f.cell (h.v 3 (by omega)) (by simp)
  have v4 := fun W (f : Frm [] w W) => f.cell (h.v 4 (by omega)) (by simp)
  have v5 := fun W (f : Frm [] w W) => f.cell (h.v 5 (by omega)) (by simp)
  have HI := Lib.hid (fun W (f : Frm [] w W) j (hj : j < 6) => Is_s (h.keep0 f) tx k j hk hj)
  have V := Lib.hid (And.intro v0 (And.intro v1 (And.intro v2 (And.intro v3 (And.intro v4 v5)))))
  have c1 := v1 w (Frm.refl _ _)
  obtain ⟨q, hq⟩ : ∃ q, rfu s k tx = q := ⟨_, rfl⟩
  rw [hq] at HI ⊢
  obtain ⟨u, hu⟩ : ∃ u, q = .iface 102 u := ⟨_, hq.symm⟩
  subst hu
  clear hq v0 v1 v2 v3 v4 v5 h
  have hk6 : k = 0 ∨ k = 1 ∨ k = 2 ∨ k = 3 ∨ k = 4 ∨ k = 5 := by omega
  clear hk
  rcases hk6 with rfl | rfl | rfl | rfl | rfl | rfl
  · go_enter Tryd.func42, Tryd.ntmps42
    go_wp2_with fail
    refine (HI.out w (Frm.refl _ _) 1 (by omega)).mono ?_
    rintro e w1 ⟨rfl, f1⟩
    have F1 := Lib.hid f1
    have c2 := V.out.2.2.1 w1 f1
    clear f1 c1
    go_wp2_with fail
    refine (HI.out w1 F1.out 2 (by omega)).mono ?_
    rintro e w2 ⟨rfl, f2⟩
    have F2 := Lib.hid (F1.out.trans f2 (by simp))
    have c3 := V.out.2.2.2.1 w2 F2.out
    clear f2
    go_wp2_with fail
    refine (HI.out w2 F2.out 3 (by omega)).mono ?_
    rintro e w3 ⟨rfl, f3⟩
    have F3 := Lib.hid (F2.out.trans f3 (by simp))
    have c4 := V.out.1 w3 F3.out
    clear f3
    go_wp2_with fail
    refine (HI.out w3 F3.out 0 (by omega)).mono ?_
    rintro e w4 ⟨rfl, f4⟩
    have F4 := Lib.hid (F3.out.trans f4 (by simp))
    have c5 := V.out.2.2.2.2.1 w4 F4.out
    clear f4
    go_wp2_with fail
    go_ret
    exact ⟨rfl, F4.out⟩
  · go_enter Tryd.func42, Tryd.ntmps42
    go_wp2_with fail
    refine (HI.out w (Frm.refl _ _) 1 (by omega)).mono ?_
    rintro e w1 ⟨rfl, f1⟩
    have F1 := Lib.hid f1
    have c2 := V.out.2.2.1 w1 f1
    clear f1 c1
    go_wp2_with fail
    go_ret
    exact ⟨rfl, F1.out⟩
  · go_enter Tryd.func42, Tryd.ntmps42
    go_wp2_with fail
    refine (HI.out w (Frm.refl _ _) 1 (by omega)).mono ?_
    rintro e w1 ⟨rfl, f1⟩
    have F1 := Lib.hid f1
    have c2 := V.out.2.2.1 w1 f1
    clear f1 c1
    go_wp2_with fail
    refine (HI.out w1 F1.out 2 (by omega)).mono ?_
    rintro e w2 ⟨rfl, f2⟩
    have F2 := Lib.hid (F1.out.trans f2 (by simp))
    have c3 := V.out.2.2.2.1 w2 F2.out
    clear f2
    go_wp2_with fail
    go_ret
    exact ⟨rfl, F2.out⟩
  · go_enter Tryd.func42, Tryd.ntmps42
    go_wp2_with fail
    refine (HI.out w (Frm.refl _ _) 1 (by omega)).mono ?_
    rintro e w1 ⟨rfl, f1⟩
    have F1 := Lib.hid f1
    have c2 := V.out.2.2.1 w1 f1
    clear f1 c1
    go_wp2_with fail
    refine (HI.out w1 F1.out 2 (by omega)).mono ?_
    rintro e w2 ⟨rfl, f2⟩
    have F2 := Lib.hid (F1.out.trans f2 (by simp))
    have c3 := V.out.2.2.2.1 w2 F2.out
    clear f2
    go_wp2_with fail
    refine (HI.out w2 F2.out 3 (by omega)).mono ?_
    rintro e w3 ⟨rfl, f3⟩
    have F3 := Lib.hid (F2.out.trans f3 (by simp))
    have c4 := V.out.1 w3 F3.out
    clear f3
    go_wp2_with fail
    go_ret
    exact ⟨rfl, F3.out⟩
  · go_enter Tryd.func42, Tryd.ntmps42
    go_wp2_with fail
    refine (HI.out w (Frm.refl _ _) 1 (by omega)).mono ?_
    rintro e w1 ⟨rfl, f1⟩
    have F1 := Lib.hid f1
    have c2 := V.out.2.2.1 w1 f1
    clear f1 c1
    go_wp2_with fail
    refine (HI.out w1 F1.out 2 (by omega)).mono ?_
    rintro e w2 ⟨rfl, f2⟩
    have F2 := Lib.hid (F1.out.trans f2 (by simp))
    have c3 := V.out.2.2.2.1 w2 F2.out
    clear f2
    go_wp2_with fail
    refine (HI.out w2 F2.out 3 (by omega)).mono ?_
    rintro e w3 ⟨rfl, f3⟩
    have F3 := Lib.hid (F2.out.trans f3 (by simp))
    have c4 := V.out.1 w3 F3.out
    clear f3
    go_wp2_with fail
    refine (HI.out w3 F3.out 0 (by omega)).mono ?_
    rintro e w4 ⟨rfl, f4⟩
    have F4 := Lib.hid (F3.out.trans f4 (by simp))
    have c5 := V.out.2.2.2.2.1 w4 F4.out
    clear f4
    go_wp2_with fail
    refine (HI.out w4 F4.out 4 (by omega)).mono ?_
    rintro e w5 ⟨rfl, f5⟩
    have F5 := Lib.hid (F4.out.trans f5 (by simp))
    have c6 := V.out.2.2.2.2.2 w5 F5.out
    clear f5
    go_wp2_with fail
    go_ret
    exact ⟨rfl, F5.out⟩
  · go_enter Tryd.func42, Tryd.ntmps42
    go_wp2_with fail
    refine (HI.out w (Frm.refl _ _) 1 (by omega)).mono ?_
    rintro e w1 ⟨rfl, f1⟩
    have F1 := Lib.hid f1
    have c2 := V.out.2.2.1 w1 f1
    clear f1 c1
    go_wp2_with fail
    refine (HI.out w1 F1.out 2 (by omega)).mono ?_
    rintro e w2 ⟨rfl, f2⟩
    have F2 := Lib.hid (F1.out.trans f2 (by simp))
    have c3 := V.out.2.2.2.1 w2 F2.out
    clear f2
    go_wp2_with fail
    refine (HI.out w2 F2.out 3 (by omega)).mono ?_
    rintro e w3 ⟨rfl, f3⟩
    have F3 := Lib.hid (F2.out.trans f3 (by simp))
    have c4 := V.out.1 w3 F3.out
    clear f3
    go_wp2_with fail
    refine (HI.out w3 F3.out 0 (by omega)).mono ?_
    rintro e w4 ⟨rfl, f4⟩
    have F4 := Lib.hid (F3.out.trans f4 (by simp))
    have c5 := V.out.2.2.2.2.1 w4 F4.out
    clear f4
    go_wp2_with fail
    refine (HI.out w4 F4.out 4 (by omega)).mono ?_
    rintro e w5 ⟨rfl, f5⟩
    have F5 := Lib.hid (F4.out.trans f5 (by simp))
    have c6 := V.out.2.2.2.2.2 w5 F5.out
    clear f5
    go_wp2_with fail
    refine (HI.out w5 F5.out 5 (by omega)).mono ?_
    rintro e w6 ⟨rfl, f6⟩
    have F6 := Lib.hid (F5.out.trans f6 (by simp))
    clear f6
    go_wp2_with fail
    go_ret
    exact ⟨rfl, F6.out⟩
theorem made_nil (w : World) : Calls Tryd.prog 59 #[.pointer none] w fun e w' => e = .returned (.bool false) ∧ w' = w := by
  go_enter Tryd.func59, Tryd.ntmps59
  go_wp2
  go_ret
  exact ⟨rfl, rfl⟩
theorem heap_alloc_at {w : World} {o : Obj} {n : Nat} (hn : n = w.heap.size) : (w.alloc o).heap[n]? = some o := by subst hn; exact heap_alloc_new _ _
theorem info35 : (Tryd.prog.info? 35).map (·.size) = some 8 := by kernel_rfl
theorem nil_eql (a : Addr) (w : World) : (binOp .eql 29 (.pointer none) (.pointer (some a))).run Tryd.prog w = .ok (.bool false) w := by
  have h : ∀ d : Nat, (Op.equalIn (d + 1) 29 (.pointer none) (.pointer (some a))).run Tryd.prog w = .ok false w := fun d => by
    simp [Op.equalIn, run_underlying Tryd.underlying29]
  simp only [binOp]
  simp [Op.equal, Op.maxDepth, h 9999]
theorem same_eql (a : Addr) (w : World) : (binOp .eql 29 (.pointer (some a)) (.pointer (some a))).run Tryd.prog w = .ok (.bool true) w := by
  obtain ⟨j, hj, _⟩ := Option.map_eq_some_iff.1 info35
  exact run_eql_ptr_same (P := Tryd.prog) w a Tryd.underlying29 hj
theorem made_zero (g : Nat) (w : World) (h : w.cell? ⟨g, 0, none⟩ = some (.pointer none)) : Calls Tryd.prog 59 #[.pointer (some ⟨g, 0, none⟩)] w fun e w' => e = .returned (.bool false) ∧ w' = w := by
  have hn := nil_eql ⟨g, 0, none⟩ w
  go_enter Tryd.func59, Tryd.ntmps59
  go_wp2
  go_ret
  exact ⟨rfl, rfl⟩
theorem made_yes (g : Nat) (w : World) (h : w.cell? ⟨g, 0, none⟩ = some (.pointer (some ⟨g, 0, none⟩))) : Calls Tryd.prog 59 #[.pointer (some ⟨g, 0, none⟩)] w fun e w' => e = .returned (.bool true) ∧ w' = w := by
  have hn := same_eql ⟨g, 0, none⟩ w
  go_enter Tryd.func59, Tryd.ntmps59
  go_wp2
  go_ret
  exact ⟨rfl, rfl⟩
def txA : ByteArray := ⟨#[97, 114, 114, 97, 121]⟩
/-- What New did not make. -/
def Un (w : World) (p : Value) : Prop := p = .pointer none ∨ ∃ g, p = .pointer (some ⟨g, 0, none⟩) ∧ w.cell? ⟨g, 0, none⟩ = some (.pointer none)
theorem Un.keep0 {w w' : World} {p : Value} (h : Un w p) (f : Frm [] w w') : Un w' p := by
  rcases h with h | ⟨g, h1, h2⟩
  · exact .inl h
  · exact .inr ⟨g, h1, f.cell h2 (by simp)⟩
theorem Un.made {w : World} {p : Value} (h : Un w p) : Calls Tryd.prog 59 #[p] w fun e w' => e = .returned (.bool false) ∧ w' = w := by
  rcases h with rfl | ⟨g, rfl, h2⟩
  · exact made_nil w
  · exact made_zero g w h2
theorem Un.form {w : World} {p : Value} (h : Un w p) : ∃ q, p = .pointer q := by
  rcases h with rfl | ⟨g, rfl, h2⟩ <;> exact ⟨_, rfl⟩
theorem sectorOf_any (d a : Int) (w : World) : Calls Tryd.prog 39 #[.int .i64 d, .int .i64 a] w fun e w' => ∃ b1 b2, e = .returned (.func (.func 61) #[] #[.pointer (some ⟨b1, 0, none⟩), .pointer (some ⟨b2, 0, none⟩)]) ∧ w'.heap[b1]? = some (.cells #[.int .i64 d] 3 (0, 0)) ∧ w'.heap[b2]? = some (.cells #[.int .i64 a] 3 (0, 0)) ∧ Frm [] w w' := by
  have hmf : ∀ (fn : Fn) (first cap : Array Value) (w : World), (Instr.makeFunc fn first cap).run Tryd.prog w = .ok (.func fn first cap) w := fun _ _ _ _ => rfl
  go_enter Tryd.func39, Tryd.ntmps39
  go_wp2
  go_ret
  exact ⟨_, _, rfl, heap_alloc_lt (heap_alloc_new _ _), heap_alloc_at (by simp), ((Frm.refl [] w).alloc _).alloc _⟩
theorem there_any (d : Int) (w : World) : Calls Tryd.prog 40 #[.int .i64 d] w fun e w' => ∃ b1, e = .returned (.func (.func 62) #[] #[.pointer (some ⟨b1, 0, none⟩)]) ∧ w'.heap[b1]? = some (.cells #[.int .i64 d] 3 (0, 0)) ∧ Frm [] w w' := by
  have hmf : ∀ (fn : Fn) (first cap : Array Value) (w : World), (Instr.makeFunc fn first cap).run Tryd.prog w = .ok (.func fn first cap) w := fun _ _ _ _ => rfl
  go_enter Tryd.func40, Tryd.ntmps40
  go_wp2
  go_ret
  exact ⟨_, rfl, heap_alloc_new _ _, (Frm.refl [] w).alloc _⟩
theorem noFailure_any (d : Int) (w : World) : Calls Tryd.prog 41 #[.int .i64 d] w fun e w' => ∃ b1, e = .returned (.func (.func 64) #[] #[.pointer (some ⟨b1, 0, none⟩)]) ∧ w'.heap[b1]? = some (.cells #[.int .i64 d] 3 (0, 0)) ∧ Frm [] w w' := by
  have hmf : ∀ (fn : Fn) (first cap : Array Value) (w : World), (Instr.makeFunc fn first cap).run Tryd.prog w = .ok (.func fn first cap) w := fun _ _ _ _ => rfl
  go_enter Tryd.func41, Tryd.ntmps41
  go_wp2
  go_ret
  exact ⟨_, rfl, heap_alloc_new _ _, (Frm.refl [] w).alloc _⟩
theorem argument_any (d : Bool) (w : World) : Calls Tryd.prog 46 #[.bool d] w fun e w' => ∃ b1, e = .returned (.func (.func 66) #[] #[.pointer (some ⟨b1, 0, none⟩)]) ∧ w'.heap[b1]? = some (.cells #[.bool d] 4 (0, 0)) ∧ Frm [] w w' := by
  have hmf : ∀ (fn : Fn) (first cap : Array Value) (w : World), (Instr.makeFunc fn first cap).run Tryd.prog w = .ok (.func fn first cap) w := fun _ _ _ _ => rfl
  go_enter Tryd.func46, Tryd.ntmps46
  go_wp2
  go_ret
  exact ⟨_, rfl, heap_alloc_new _ _, (Frm.refl [] w).alloc _⟩
theorem deviceOf_any (d : Int) (w : World) : Calls Tryd.prog 50 #[.int .i64 d] w fun e w' => ∃ b1, e = .returned (.func (.func 69) #[] #[.pointer (some ⟨b1, 0, none⟩)]) ∧ w'.heap[b1]? = some (.cells #[.int .i64 d] 3 (0, 0)) ∧ Frm [] w w' := by
  have hmf : ∀ (fn : Fn) (first cap : Array Value) (w : World), (Instr.makeFunc fn first cap).run Tryd.prog w = .ok (.func fn first cap) w := fun _ _ _ _ => rfl
  go_enter Tryd.func50, Tryd.ntmps50
  go_wp2
  go_ret
  exact ⟨_, rfl, heap_alloc_new _ _, (Frm.refl [] w).alloc _⟩
end Go.Proofs.YtdebnikolhhmgaaDoor

namespace Go.Proofs.YtdebnikolhhmgaaDoor
open Go.RowKit
set_option linter.unusedVariables false
set_option linter.unusedSimpArgs false
set_option maxRecDepth 100000

open Kr (OwnE SlE Enco RowTys)
open Kr (flt flt_cons flt_length flt_oneCell flt_append flt_get)
abbrev FB := { l : List UInt8 // l.length = 256 }
abbrev CelT := { v : Value // v.oneCell' = true }
def eC (x : CelT) : List Value := [x.1]
theorem encC : Enco eC 1 := ⟨fun _ => rfl, fun x u hu => by simp [eC] at hu; subst hu; exact x.2, by omega, fun x y h => Subtype.ext (by simpa [eC] using h)⟩
abbrev Dr := Nat × Int × Int × CelT
def eD (x : Dr) : List Value := [.int .u8 (x.1 : Int), .int .i64 x.2.1, .int .i64 x.2.2.1, x.2.2.2.1]
theorem encD : Enco eD 4 := ⟨fun _ => rfl, fun x u hu => by
    simp [eD] at hu
    rcases hu with rfl | rfl | rfl | rfl
    · rfl
    · rfl
    · rfl
    · exact x.2.2.2.2, by omega, fun x y h => by
    obtain ⟨a, b, c, d⟩ := x
    obtain ⟨a', b', c', d'⟩ := y
    simp only [eD, List.cons.injEq, Value.int.injEq, true_and, and_true] at h
    obtain ⟨h1, h2, h3, h4⟩ := h
    have h1' : a = a' := by omega
    subst h1'; subst h2; subst h3
    rw [Subtype.ext h4]⟩
abbrev Sr := FB × CelT
def eS (x : Sr) : List Value := bvs x.1.1 ++ [x.2.1]
theorem encS : Enco eS 257 := ⟨fun x => by simp [eS, bvs_length, x.1.2], fun x u hu => by
    rcases List.mem_append.1 hu with h | h
    · exact bvs_one _ u h
    · simp at h; subst h; exact x.2.2, by omega, fun x y h => by
    obtain ⟨a, b⟩ := x
    obtain ⟨a', b'⟩ := y
    have h2 := List.append_inj h (by rw [bvs_length, bvs_length, a.2, a'.2])
    have e1 : a = a' := Subtype.ext (bvs_inj h2.1)
    have e2 : b = b' := Subtype.ext (by simpa using h2.2)
    rw [e1, e2]⟩
structure Sc where
  firm : FB
  last : Option FB
structure Dv where
  f : Nat
  str : Int
  fl : Int
  secs : List Sc
structure Wt where
  dev : Int
  at' : Int
  b : FB
structure St where
  n : Nat
  devs : List Dv
  row : List Wt
  set : Bool
  left : Int
  out : Bool
  steps : Int
def arc (g : Nat) (s : St) (dv rv : Value) : List Value := [.pointer (some ⟨g, 0, none⟩), .int .i64 s.n, dv, rv, .bool s.set, .int .i64 s.left, .bool s.out, .int .i64 s.steps]
def WtB (w : World) (g : Nat) (x : Wt) : Prop := w.heap[g]? = some (.cells (.int .i64 x.dev :: .int .i64 x.at' :: bvs x.b.1).toArray 105 (0, 0))
def LaV (w : World) (v : Value) (o : Option FB) : Prop := (o = none ∧ v = .pointer none) ∨ ∃ gw x, o = some x.b ∧ v = .pointer (some ⟨gw, 0, none⟩) ∧ WtB w gw x
def SecP (lo : Nat) (w : World) (v : Value) (l : List Sc) : Prop :=
  ∃ scs csp, OwnE eS 257 96 w v scs csp ∧ (∀ k ∈ blk v, lo ≤ k) ∧ scs.length = l.length ∧ ∀ (i : Nat) (q : Sr) (c : Sc), scs[i]? = some q → l[i]? = some c → q.1 = c.firm ∧ LaV w q.2.1 c.last
structure ArrL (lo : Nat) (w : World) (g : Nat) (s : St) (dv rv : Value) (drs : List Dr) (dsp : List Value) (rcs : List CelT) (rsp : List Value) : Prop where
  rcd : w.heap[g]? = some (.cells (arc g s dv rv).toArray 35 (0, 0))
  glo : lo ≤ g
  own : OwnE eD 4 86 w dv drs dsp
  dlo : ∀ k ∈ blk dv, lo ≤ k
  dlen : drs.length = s.devs.length
  dat : ∀ (i : Nat) (q : Dr) (d : Dv), drs[i]? = some q → s.devs[i]? = some d → q.1 = d.f ∧ q.2.1 = d.str ∧ q.2.2.1 = d.fl ∧ SecP lo w q.2.2.2.1 d.secs
  fb : ∀ d ∈ s.devs, d.f < 256 ∧ 0 ≤ d.fl ∧ d.fl ≤ 9223372036854775807 ∧ ((d.f &&& 8) ≠ 0 → 0 < d.fl)
  dis : ∀ (i j : Nat) (p q : Dr), i ≠ j → drs[i]? = some p → drs[j]? = some q → ∀ k ∈ blk p.2.2.2.1, k ∉ blk q.2.2.2.1
  row : OwnE eC 1 90 w rv rcs rsp
  rlo : ∀ k ∈ blk rv, lo ≤ k
  rlen : rcs.length = s.row.length
  rat : ∀ (i : Nat) (c : CelT) (x : Wt), rcs[i]? = some c → s.row[i]? = some x → ∃ gw, c.1 = .pointer (some ⟨gw, 0, none⟩) ∧ WtB w gw x
/-- A device's record changed where it stands. -/
theorem ArrL.put {lo : Nat} {w w' : World} {g : Nat} {s : St} {dv rv : Value} {drs : List Dr} {dsp : List Value} {rcs : List CelT} {rsp : List Value} (h : ArrL lo w g s dv rv drs dsp rcs rsp) (i : Nat) (hi : i < s.devs.length) (hi2 : i < drs.length) (q' : Dr) (d' : Dv)
    (own' : OwnE eD 4 86 w' dv (drs.set i q') dsp) (f : Frm (blk dv) w w') (h1 : q'.1 = d'.f) (h2 : q'.2.1 = d'.str) (h3 : q'.2.2.1 = d'.fl) (h4 : q'.2.2.2 = drs[i].2.2.2) (h5 : d'.secs = s.devs[i].secs)
    (h6 : d'.f < 256 ∧ 0 ≤ d'.fl ∧ d'.fl ≤ 9223372036854775807 ∧ ((d'.f &&& 8) ≠ 0 → 0 < d'.fl)) : ArrL lo w' g { s with devs := s.devs.set i d' } dv rv (drs.set i q') dsp rcs rsp ∧ Fa lo w w' := by
  have hob := own_blk h.own
  have hfa : Fa lo w w' := Fa.of_frm f fun k hk => by obtain ⟨cs, hc⟩ := hob k hk; exact ⟨h.dlo k hk, cs, 86, _, hc, by decide⟩
  have hno : ∀ {T k : Nat} {n : Nat} {v : Value} {xs sp : List Value}, Own T k w v n xs sp → T ≠ 86 → ∀ j ∈ blk v, j ∉ blk dv := fun ho ht j hj hm => by
    obtain ⟨cs, hc⟩ := hob j hm
    obtain ⟨cs', hc'⟩ := own_blk ho j hj
    rw [hc] at hc'; cases hc'; exact ht rfl
  have hsec : ∀ {v : Value} {l : List Sc}, SecP lo w v l → SecP lo w' v l := fun hs => by
    obtain ⟨scs, csp, k1, k2, k3, k4⟩ := hs
    exact ⟨scs, csp, k1.keep f (hno k1 (by decide)), k2, k3, fun i q c hq hc => by
      obtain ⟨e1, e2⟩ := k4 i q c hq hc
      refine ⟨e1, ?_⟩
      rcases e2 with e2 | ⟨gw, x, e2, e3, e4⟩
      · exact .inl e2
      · exact .inr ⟨gw, x, e2, e3, hfa.typ _ _ _ _ e4 (by decide)⟩⟩
  have hg : g ∉ blk dv := fun hm => by obtain ⟨cs, hc⟩ := hob g hm; rw [h.rcd] at hc; cases hc
  refine ⟨⟨f.heap h.rcd hg, h.glo, own', h.dlo, by simp [h.dlen], fun j q d hq hd => ?_, fun d hd => ?_, fun a b p q hab hp hq => ?_, h.row.keep f (hno h.row (by decide)), h.rlo, h.rlen, fun j c x hc hx => by obtain ⟨gw, e1, e2⟩ := h.rat j c x hc hx; exact ⟨gw, e1, hfa.typ _ _ _ _ e2 (by decide)⟩⟩, hfa⟩
  · simp only at hd
    by_cases e : j = i
    · subst e
      rw [List.getElem?_set_self hi2] at hq
      rw [List.getElem?_set_self hi] at hd
      cases hq; cases hd
      obtain ⟨_, _, _, k4⟩ := h.dat j drs[j] s.devs[j] (List.getElem?_eq_getElem hi2) (List.getElem?_eq_getElem hi)
      refine ⟨h1, h2, h3, ?_⟩
      rw [h4, h5]
      exact hsec k4
    · rw [List.getElem?_set_ne (fun h => e h.symm)] at hq hd
      obtain ⟨k1, k2, k3, k4⟩ := h.dat j q d hq hd
      exact ⟨k1, k2, k3, hsec k4⟩
  · simp only at hd
    rcases List.mem_or_eq_of_mem_set hd with hd | rfl
    · exact h.fb d hd
    · exact h6
  · have key : ∀ (j : Nat) (p : Dr), (drs.set i q')[j]? = some p → ∃ p', drs[j]? = some p' ∧ p'.2.2.2 = p.2.2.2 := fun j p hp => by
      by_cases e : j = i
      · subst e
        rw [List.getElem?_set_self hi2] at hp
        cases hp
        exact ⟨drs[j], List.getElem?_eq_getElem hi2, h4.symm⟩
      · rw [List.getElem?_set_ne (fun h => e h.symm)] at hp
        exact ⟨p, hp, rfl⟩
    obtain ⟨p', hp', ep⟩ := key a p hp
    obtain ⟨q'', hq'', eq⟩ := key b q hq
    rw [← ep, ← eq]
    exact h.dis a b p' q'' hab hp' hq''
/-- An array of this state, at block g. -/
def Arr (lo : Nat) (w : World) (g : Nat) (s : St) : Prop := ∃ dv rv drs dsp rcs rsp, ArrL lo w g s dv rv drs dsp rcs rsp
/-- Blocks that no array is made of. -/
def Other (w : World) (L : List Nat) : Prop := ∀ k ∈ L, ∃ (cs : Array Value) (T : TypeId) (fr : Nat × Nat), w.heap[k]? = some (.cells cs T fr) ∧ okT T = true ∧ T ≠ 105
section
variable {lo : Nat} {w w' : World} {L : List Nat}
theorem Other.nil (w : World) : Other w [] := fun k hk => by cases hk
theorem Other.no {k : Nat} {cs : Array Value} {T : TypeId} {fr : Nat × Nat} (h : Other w L) (hc : w.heap[k]? = some (.cells cs T fr)) (ht : okT T = false ∨ T = 105) : k ∉ L := fun hm => by
  obtain ⟨cs', T', fr', h1, h2, h3⟩ := h k hm
  rw [hc] at h1
  cases h1
  rcases ht with h | h
  · rw [h] at h2; cases h2
  · exact h3 h
theorem WtB.keep {g : Nat} {x : Wt} (h : WtB w g x) (f : Frm L w w') (hL : Other w L) : WtB w' g x := f.heap h (hL.no h (.inr rfl))
theorem WtB.fa {g : Nat} {x : Wt} (h : WtB w g x) (f : Fa lo w w') : WtB w' g x := f.typ _ _ _ _ h (by decide)
theorem LaV.keep {v : Value} {o : Option FB} (h : LaV w v o) (f : Frm L w w') (hL : Other w L) : LaV w' v o := by
  rcases h with h | ⟨gw, x, h1, h2, h3⟩
  · exact .inl h
  · exact .inr ⟨gw, x, h1, h2, h3.keep f hL⟩
theorem LaV.fa {v : Value} {o : Option FB} (h : LaV w v o) (f : Fa lo w w') : LaV w' v o := by
  rcases h with h | ⟨gw, x, h1, h2, h3⟩
  · exact .inl h
  · exact .inr ⟨gw, x, h1, h2, h3.fa f⟩
theorem own_other {T k : Nat} {v : Value} {n : Nat} {xs sp : List Value} (h : Own T k w v n xs sp) (hL : Other w L) (ht : okT T = false) : ∀ i ∈ blk v, i ∉ L := fun i hi => by
  obtain ⟨cs, hc⟩ := own_blk h i hi
  exact hL.no hc (.inl ht)
theorem SecP.keep {v : Value} {l : List Sc} (h : SecP lo w v l) (f : Frm L w w') (hL : Other w L) : SecP lo w' v l := by
  obtain ⟨scs, csp, h1, h2, h3, h4⟩ := h
  exact ⟨scs, csp, h1.keep f (own_other h1 hL (by decide)), h2, h3, fun i q c hq hc => by obtain ⟨e1, e2⟩ := h4 i q c hq hc; exact ⟨e1, e2.keep f hL⟩⟩
/-- A device's sectors, when others' are written. -/
theorem SecP.apart {v : Value} {l : List Sc} (h : SecP lo w v l) (f : Frm L w w') (hf : Fa lo w w') (hn : ∀ k ∈ blk v, k ∉ L) : SecP lo w' v l := by
  obtain ⟨scs, csp, h1, h2, h3, h4⟩ := h
  exact ⟨scs, csp, h1.keep f hn, h2, h3, fun i q c hq hc => by obtain ⟨e1, e2⟩ := h4 i q c hq hc; exact ⟨e1, e2.fa hf⟩⟩
theorem ArrL.keep {g : Nat} {s : St} {dv rv : Value} {drs : List Dr} {dsp : List Value} {rcs : List CelT} {rsp : List Value} (h : ArrL lo w g s dv rv drs dsp rcs rsp) (f : Frm L w w') (hL : Other w L) : ArrL lo w' g s dv rv drs dsp rcs rsp :=
  ⟨f.heap h.rcd (hL.no h.rcd (.inl (by decide))), h.glo, h.own.keep f (own_other h.own hL (by decide)), h.dlo, h.dlen, fun i q d hq hd => by obtain ⟨e1, e2, e3, e4⟩ := h.dat i q d hq hd; exact ⟨e1, e2, e3, e4.keep f hL⟩, h.fb, h.dis,
    h.row.keep f (own_other h.row hL (by decide)), h.rlo, h.rlen, fun i c x hc hx => by obtain ⟨gw, e1, e2⟩ := h.rat i c x hc hx; exact ⟨gw, e1, e2.keep f hL⟩⟩
theorem Arr.keep {g : Nat} {s : St} (h : Arr lo w g s) (f : Frm L w w') (hL : Other w L) : Arr lo w' g s := by
  obtain ⟨dv, rv, drs, dsp, rcs, rsp, h⟩ := h
  exact ⟨dv, rv, drs, dsp, rcs, rsp, h.keep f hL⟩
theorem Arr.keep0 {g : Nat} {s : St} (h : Arr lo w g s) (f : Frm [] w w') : Arr lo w' g s := h.keep f (Other.nil w)
theorem Arr.drew {g : Nat} {s : St} (h : Arr lo w g s) : Arr lo w.drew g s := h.keep0 ((Frm.refl [] w).drew)
/-- The record's cells. -/
theorem ArrL.cells {g : Nat} {s : St} {dv rv : Value} {drs : List Dr} {dsp : List Value} {rcs : List CelT} {rsp : List Value} (h : ArrL lo w g s dv rv drs dsp rcs rsp) :
    w.cell? ⟨g, 0, none⟩ = some (.pointer (some ⟨g, 0, none⟩)) ∧ w.cell? ⟨g, 1, none⟩ = some (.int .i64 s.n) ∧ w.cell? ⟨g, 2, none⟩ = some dv ∧ w.cell? ⟨g, 3, none⟩ = some rv ∧ w.cell? ⟨g, 4, none⟩ = some (.bool s.set) ∧
      w.cell? ⟨g, 5, none⟩ = some (.int .i64 s.left) ∧ w.cell? ⟨g, 6, none⟩ = some (.bool s.out) ∧ w.cell? ⟨g, 7, none⟩ = some (.int .i64 s.steps) ∧ ∀ i, w.frozen? ⟨g, i, none⟩ = false := by
  refine ⟨by rw [cell_of_heap h.rcd]; rfl, by rw [cell_of_heap h.rcd]; rfl, by rw [cell_of_heap h.rcd]; rfl, by rw [cell_of_heap h.rcd]; rfl, by rw [cell_of_heap h.rcd]; rfl, by rw [cell_of_heap h.rcd]; rfl, by rw [cell_of_heap h.rcd]; rfl, by rw [cell_of_heap h.rcd]; rfl, fun i => frozen_of_heap h.rcd i⟩
/-- A device's cells. -/
theorem ArrL.dev {g : Nat} {s : St} {dv rv : Value} {drs : List Dr} {dsp : List Value} {rcs : List CelT} {rsp : List Value} (h : ArrL lo w g s dv rv drs dsp rcs rsp) (i : Nat) (hi : i < s.devs.length) :
    ∃ gd cap sv, dv = .slice (some ⟨gd, 0, none⟩) s.devs.length cap ∧ w.cell? ⟨gd, i * 4, none⟩ = some (.int .u8 (s.devs[i].f : Int)) ∧ w.cell? ⟨gd, i * 4 + 1, none⟩ = some (.int .i64 s.devs[i].str) ∧ w.cell? ⟨gd, i * 4 + 2, none⟩ = some (.int .i64 s.devs[i].fl) ∧
      w.cell? ⟨gd, i * 4 + 3, none⟩ = some sv ∧ SecP lo w sv s.devs[i].secs ∧ (∀ j, w.frozen? ⟨gd, j, none⟩ = false) := by
  have hi2 : i < drs.length := by rw [h.dlen]; exact hi
  obtain ⟨e1, e2, e3, e4⟩ := h.dat i drs[i] s.devs[i] (List.getElem?_eq_getElem hi2) (List.getElem?_eq_getElem hi)
  obtain ⟨h1, ⟨_, h2, _⟩ | ⟨gd, cap, h2, h3, h4, h5, h6⟩⟩ := id h.own
  · omega
  · have hs := h.own.sl
    rw [h2] at hs
    have c0 := SlE.cell encD hs i hi2 0 (u := .int .u8 (drs[i].1 : Int)) rfl
    have c1 := SlE.cell encD hs i hi2 1 (u := .int .i64 drs[i].2.1) rfl
    have c2 := SlE.cell encD hs i hi2 2 (u := .int .i64 drs[i].2.2.1) rfl
    have c3 := SlE.cell encD hs i hi2 3 (u := drs[i].2.2.2.1) rfl
    rw [Nat.zero_add] at c0 c1 c2 c3
    rw [e1] at c0
    rw [e2] at c1
    rw [e3] at c2
    exact ⟨gd, cap, drs[i].2.2.2.1, by rw [h2, h.dlen], c0, c1, c2, c3, e4, fun j => frozen_of_heap h6 j⟩
/-- A sector's cells. -/
theorem SecP.at {v : Value} {l : List Sc} (h : SecP lo w v l) (i : Nat) (hi : i < l.length) :
    ∃ gs cap lv, v = .slice (some ⟨gs, 0, none⟩) l.length cap ∧ (∀ j u, (bvs l[i].firm.1)[j]? = some u → w.cell? ⟨gs, i * 257 + j, none⟩ = some u) ∧ w.cell? ⟨gs, i * 257 + 256, none⟩ = some lv ∧ LaV w lv l[i].last ∧ ∀ j, w.frozen? ⟨gs, j, none⟩ = false := by
  obtain ⟨scs, csp, h1, h2, h3, h4⟩ := h
  have hi2 : i < scs.length := by omega
  obtain ⟨e1, e2⟩ := h4 i scs[i] l[i] (List.getElem?_eq_getElem hi2) (List.getElem?_eq_getElem hi)
  obtain ⟨q1, ⟨_, q2, _⟩ | ⟨gs, cap, q2, q3, q4, q5, q6⟩⟩ := id h1
  · omega
  · have hs := h1.sl
    rw [q2] at hs
    refine ⟨gs, cap, scs[i].2.1, by rw [q2, h3], fun j u hu => ?_, ?_, e2, fun j => frozen_of_heap q6 j⟩
    · rw [← e1] at hu
      have hj : j < (bvs scs[i].1.1).length := by
        rcases Nat.lt_or_ge j (bvs scs[i].1.1).length with h | h
        · exact h
        · rw [List.getElem?_eq_none h] at hu; cases hu
      have := SlE.cell encS hs i hi2 j (u := u) (by unfold eS; rw [List.getElem?_append_left hj]; exact hu)
      rwa [Nat.zero_add] at this
    · have hl : (bvs scs[i].1.1).length = 256 := by rw [bvs_length, scs[i].1.2]
      have := SlE.cell encS hs i hi2 256 (u := scs[i].2.1) (by unfold eS; rw [List.getElem?_append_right (by omega), hl]; rfl)
      rwa [Nat.zero_add] at this
end
end Go.Proofs.YtdebnikolhhmgaaDoor

namespace Go.Proofs.YtdebnikolhhmgaaDoor
open Go.RowKit
set_option linter.unusedVariables false
set_option linter.unusedSimpArgs false
set_option maxRecDepth 100000

open Kr (OwnE SlE Enco RowTys)
theorem has_any (b o f x : Nat) (hf : f < 256) (hx : x < 256) (w : World) (hc : w.cell? ⟨b, o, none⟩ = some (.int .u8 (f : Int))) :
    Calls Tryd.prog 63 #[.pointer (some ⟨b, o, none⟩), .int .u8 (x : Int)] w fun e w' => e = .returned (.bool ((f &&& x) != 0)) ∧ w' = w := by
  have hb : bits BinOp.and IntKind.u8 (f : Int) (x : Int) = ((f &&& x : Nat) : Int) := u8_and_nat _ _ hf hx
  have ht : (((f &&& x : Nat) : Int) != 0) = ((f &&& x) != 0) := by cases f &&& x <;> rfl
  rw [← ht]
  clear hf hx ht
  generalize ((f &&& x : Nat) : Int) = q at *
  generalize (f : Int) = f1 at *
  generalize (x : Int) = x1 at *
  go_enter Tryd.func63, Tryd.ntmps63
  go_wp2
  go_ret
  exact ⟨rfl, rfl⟩
/-- What a need answers: nothing, or a refusal of this kind. -/
def Ans (sn : Nat → Addr) (o : Option Nat) (e : Ending) : Prop := (o = none ∧ e = .returned .nilIface) ∨ ∃ k tx, o = some k ∧ k < 6 ∧ e = .returned (rfu sn k tx)
theorem Ans.none (sn : Nat → Addr) : Ans sn none (.returned .nilIface) := .inl ⟨rfl, rfl⟩
theorem Ans.some (sn : Nat → Addr) {k : Nat} (tx : ByteArray) (hk : k < 6) : Ans sn (some k) (.returned (.iface 102 (.agg #[.string tx, .iface 126 (.pointer (some (sn k)))]))) := .inr ⟨k, tx, rfl, hk, rfl⟩
def ptr (g : Nat) : Value := .pointer (some ⟨g, 0, none⟩)
section
variable {lo : Nat} {w : World} {sn : Nat → Addr} {g : Nat} {s : St}
theorem Arr.len (h : Arr lo w g s) : s.devs.length ≤ 9223372036854775807 := by
  obtain ⟨dv, rv, drs, dsp, rcs, rsp, h⟩ := h
  obtain ⟨a, cap, e, h1, h2⟩ := h.own.sl.form
  have := h.dlen
  simp only [maxLen] at h2
  omega
theorem running_any (hs : Sn w lo sn) (h : Arr lo w g s) : Calls Tryd.prog 38 #[ptr g] w fun e w' => Ans sn (if s.out = true then some 2 else none) e ∧ Frm [] w w' := by
  obtain ⟨dv, rv, drs, dsp, rcs, rsp, h⟩ := h
  obtain ⟨c0, c1, c2, c3, c4, c5, c6, c7, cz⟩ := h.cells
  have cg := hs.v 2 (by omega)
  unfold ptr
  clear h c0 c1 c2 c3 c4 c5 c7 cz hs
  cases ho : s.out
  · rw [ho] at c6
    clear ho
    go_enter Tryd.func38, Tryd.ntmps38
    go_upto_region 1 with (fail)
    refine wp_region_still_lit (by kernel_rfl) (by kernel_rfl) ?_
    change wpStill _ _ (World.drew _) _ _ _
    repeat still_step
    still_call (unless_true _ _ w.drew)
    repeat still_step
    refine wpStill_nil ?_
    change Exit.then _ _ _ _ (World.drew _)
    go_wp2_with fail
    go_ret
    exact ⟨Ans.none sn, (Frm.refl [] w).drew⟩
  · rw [ho] at c6
    clear ho
    go_enter Tryd.func38, Tryd.ntmps38
    go_upto_region 1 with (fail)
    refine wp_region_still_lit (by kernel_rfl) (by kernel_rfl) ?_
    change wpStill _ _ (World.drew _) _ _ _
    repeat still_step
    still_call (unless_false _ _ w.drew)
    repeat still_step
    refine wpStill_nil ?_
    change Exit.then _ _ _ _ (World.drew _)
    go_wp2_with fail
    go_ret
    exact ⟨Ans.some sn _ (by omega), (Frm.refl [] w).drew⟩
def okD (s : St) (d : Int) : Bool := decide (0 ≤ d ∧ d ≤ (s.devs.length : Int) - 1)
def okA (s : St) (a : Int) : Bool := decide (0 ≤ a ∧ a ≤ (s.n : Int) - 1)
def nD (s : St) (d : Int) : Option Nat := if okD s d = true then none else some 3
def nS (s : St) (d a : Int) : Option Nat := if okD s d = true then (if okA s a = true then none else some 3) else some 3
def hasF (s : St) (d : Int) (x : Nat) : Bool := match s.devs[d.toNat]? with
  | .some q => (q.f &&& x) != 0
  | .none => false
def gone (s : St) (d : Int) : Bool := hasF s d 1
def nT (s : St) (d : Int) : Option Nat := if gone s d = true then some 4 else none
theorem deviceOf1_any (d : Int) (b1 : Nat) (hs : Sn w lo sn) (h : Arr lo w g s) (hb : w.cell? ⟨b1, 0, none⟩ = some (.int .i64 d)) :
    Calls Tryd.prog 69 #[ptr g, ptr b1] w fun e w' => Ans sn (nD s d) e ∧ Frm [] w w' := by
  have hl := h.len
  obtain ⟨dv, rv, drs, dsp, rcs, rsp, h⟩ := h
  obtain ⟨c0, c1, c2, c3, c4, c5, c6, c7, cz⟩ := h.cells
  obtain ⟨da, dcap, rfl, _, _⟩ := h.own.sl.form
  rw [h.dlen] at c2
  have cg := hs.v 3 (by omega)
  have hw1 : IntKind.i64.wrap ((s.devs.length : Int) - 1) = (s.devs.length : Int) - 1 := IntWalk.i64_in _ (by omega)
  unfold ptr nD
  have hin := within_any d 0 ((s.devs.length : Int) - 1) w.drew
  clear h c0 c1 c3 c4 c5 c6 c7 cz hs hl
  cases ho : okD s d
  · have ho2 : decide (0 ≤ d ∧ d ≤ (s.devs.length : Int) - 1) = false := ho
    rw [ho2] at hin
    clear ho ho2
    generalize s.devs.length = n at *
    go_enter Tryd.func69, Tryd.ntmps69
    go_upto_region 1 with (fail)
    refine wp_region_still_lit (by kernel_rfl) (by kernel_rfl) ?_
    change wpStill _ _ (World.drew _) _ _ _
    repeat still_step
    still_call hin
    repeat still_step
    still_call (unless_false _ _ w.drew)
    repeat still_step
    refine wpStill_nil ?_
    change Exit.then _ _ _ _ (World.drew _)
    go_wp2_with fail
    go_ret
    exact ⟨Ans.some sn _ (by omega), (Frm.refl [] w).drew⟩
  · have ho2 : decide (0 ≤ d ∧ d ≤ (s.devs.length : Int) - 1) = true := ho
    rw [ho2] at hin
    clear ho ho2
    generalize s.devs.length = n at *
    go_enter Tryd.func69, Tryd.ntmps69
    go_upto_region 1 with (fail)
    refine wp_region_still_lit (by kernel_rfl) (by kernel_rfl) ?_
    change wpStill _ _ (World.drew _) _ _ _
    repeat still_step
    still_call hin
    repeat still_step
    still_call (unless_true _ _ w.drew)
    repeat still_step
    refine wpStill_nil ?_
    change Exit.then _ _ _ _ (World.drew _)
    go_wp2_with fail
    go_ret
    exact ⟨Ans.none sn, (Frm.refl [] w).drew⟩
end
end Go.Proofs.YtdebnikolhhmgaaDoor

namespace Go.Proofs.YtdebnikolhhmgaaDoor
open Go.RowKit
set_option linter.unusedVariables false
set_option linter.unusedSimpArgs false
set_option maxRecDepth 100000

open Kr (OwnE SlE Enco RowTys)
theorem befall_any (b o f x : Nat) (hf : f < 256) (hx : x < 256) (w : World) (hc : w.cell? ⟨b, o, none⟩ = some (.int .u8 (f : Int))) (hz : w.frozen? ⟨b, o, none⟩ = false) :
    Calls Tryd.prog 56 #[.pointer (some ⟨b, o, none⟩), .int .u8 (x : Int)] w fun e w' => e = .returned (.tuple #[]) ∧ w' = w.setCell ⟨b, o, none⟩ (.int .u8 ((f ||| x : Nat) : Int)) := by
  have hb : bits BinOp.or IntKind.u8 (f : Int) (x : Int) = ((f ||| x : Nat) : Int) := u8_or_nat _ _ hf hx
  clear hf hx
  generalize ((f ||| x : Nat) : Int) = q at *
  generalize (f : Int) = f1 at *
  generalize (x : Int) = x1 at *
  go_enter Tryd.func56, Tryd.ntmps56
  go_wp2
  go_end0
  exact ⟨rfl, rfl⟩
theorem endF_any (b o f x : Nat) (hf : f < 256) (hx : x < 256) (w : World) (hc : w.cell? ⟨b, o, none⟩ = some (.int .u8 (f : Int))) (hz : w.frozen? ⟨b, o, none⟩ = false) :
    Calls Tryd.prog 54 #[.pointer (some ⟨b, o, none⟩), .int .u8 (x : Int)] w fun e w' => e = .returned (.tuple #[]) ∧ w' = w.setCell ⟨b, o, none⟩ (.int .u8 ((f &&& (255 - x) : Nat) : Int)) := by
  have hb : bits BinOp.andNot IntKind.u8 (f : Int) (x : Int) = ((f &&& (255 - x) : Nat) : Int) := u8_andNot_nat _ _ hf hx
  clear hf hx
  generalize ((f &&& (255 - x) : Nat) : Int) = q at *
  generalize (f : Int) = f1 at *
  generalize (x : Int) = x1 at *
  go_enter Tryd.func54, Tryd.ntmps54
  go_wp2
  go_end0
  exact ⟨rfl, rfl⟩
theorem use_any (b o f x : Nat) (hf : f < 256) (hx : x < 256) (w : World) (hc : w.cell? ⟨b, o, none⟩ = some (.int .u8 (f : Int))) (hz : w.frozen? ⟨b, o, none⟩ = false) :
    Calls Tryd.prog 48 #[.pointer (some ⟨b, o, none⟩), .int .u8 (x : Int)] w fun e w' => e = .returned (.bool ((f &&& x) != 0)) ∧ w' = w.setCell ⟨b, o, none⟩ (.int .u8 ((f &&& (255 - x) : Nat) : Int)) := by
  have h1 := Lib.hid (has_any b o f x hf hx w hc)
  have h2 := Lib.hid (endF_any b o f x hf hx w hc hz)
  clear hf hx hc hz
  generalize ((f &&& x) != 0) = q at *
  generalize ((f &&& (255 - x) : Nat) : Int) = q2 at *
  generalize (x : Int) = x1 at *
  go_enter Tryd.func48, Tryd.ntmps48
  go_wp2_with (first
    | (go_at_call 63; refine h1.out.mono ?_; rintro e w1 ⟨rfl, hw1⟩; obtain rfl := hw1.symm)
    | (go_at_call 54; refine h2.out.mono ?_; rintro e w2 ⟨rfl, rfl⟩))
  go_ret
  exact ⟨rfl, rfl⟩
/-- The faults behind fail. -/
def failF (f : Nat) (n : Int) : Nat := if 0 < n then f ||| 8 else f &&& (255 - 8)
theorem fail_any (b o f : Nat) (fl n : Int) (hf : f < 256) (w : World) (hc : w.cell? ⟨b, o, none⟩ = some (.int .u8 (f : Int))) (hc2 : w.cell? ⟨b, o + 2, none⟩ = some (.int .i64 fl)) (hz : ∀ j, w.frozen? ⟨b, j, none⟩ = false) :
    Calls Tryd.prog 57 #[.pointer (some ⟨b, o, none⟩), .int .i64 n] w fun e w' => e = .returned (.tuple #[]) ∧ w' = (w.setCell ⟨b, o + 2, none⟩ (.int .i64 n)).setCell ⟨b, o, none⟩ (.int .u8 (failF f n : Nat)) := by
  have hz2 := hz (o + 2)
  have d0 : (w.setCell ⟨b, o + 2, none⟩ (.int .i64 n)).cell? ⟨b, o, none⟩ = some (.int .u8 (f : Int)) := (World.cell?_setCell_other w ⟨b, o + 2, none⟩ ⟨b, o, none⟩ _ (by simp)).trans hc
  have dz : (w.setCell ⟨b, o + 2, none⟩ (.int .i64 n)).frozen? ⟨b, o, none⟩ = false := by rw [World.frozen?_setCell]; exact hz o
  have h1 := Lib.hid (befall_any b o f 8 hf (by omega) _ d0 dz)
  have h2 := Lib.hid (endF_any b o f 8 hf (by omega) _ d0 dz)
  unfold failF
  clear hf hc hz d0 dz
  by_cases hn : 0 < n
  · rw [if_pos hn]
    go_enter Tryd.func57, Tryd.ntmps57
    go_wp2_with (go_at_call 56; refine h1.out.mono ?_; rintro e w1 ⟨rfl, rfl⟩)
    go_end0
    exact ⟨rfl, rfl⟩
  · rw [if_neg hn]
    go_enter Tryd.func57, Tryd.ntmps57
    go_wp2_with (go_at_call 54; refine h2.out.mono ?_; rintro e w1 ⟨rfl, rfl⟩)
    go_end0
    exact ⟨rfl, rfl⟩
end Go.Proofs.YtdebnikolhhmgaaDoor

namespace Go.Proofs.YtdebnikolhhmgaaDoor
open Go.RowKit
set_option linter.unusedVariables false
set_option linter.unusedSimpArgs false
set_option maxRecDepth 100000

open Kr (OwnE SlE Enco RowTys)
section
variable {lo : Nat} {w : World} {sn : Nat → Addr} {g : Nat} {s : St}
theorem argument1_any (q : Bool) (b1 : Nat) (hs : Sn w lo sn) (hb : w.cell? ⟨b1, 0, none⟩ = some (.bool q)) :
    Calls Tryd.prog 66 #[ptr g, ptr b1] w fun e w' => Ans sn (if q = true then none else some 0) e ∧ Frm [] w w' := by
  have cg := hs.v 0 (by omega)
  unfold ptr
  clear hs
  cases q
  · go_enter Tryd.func66, Tryd.ntmps66
    go_wp2_with (go_at_call 60; refine (unless_false _ _ _).mono ?_; rintro e w1 ⟨rfl, hw1⟩; obtain rfl := hw1.symm)
    go_ret
    exact ⟨Ans.some sn _ (by omega), Frm.refl _ _⟩
  · go_enter Tryd.func66, Tryd.ntmps66
    go_wp2_with (go_at_call 60; refine (unless_true _ _ _).mono ?_; rintro e w1 ⟨rfl, hw1⟩; obtain rfl := hw1.symm)
    go_ret
    exact ⟨Ans.none sn, Frm.refl _ _⟩
theorem sectorOf1_any (d a : Int) (b1 b2 : Nat) (hs : Sn w lo sn) (h : Arr lo w g s) (hn : s.n ≤ 1000000) (hb : w.heap[b1]? = some (.cells #[.int .i64 d] 3 (0, 0))) (hb2 : w.heap[b2]? = some (.cells #[.int .i64 a] 3 (0, 0))) :
    Calls Tryd.prog 61 #[ptr g, ptr b1, ptr b2] w fun e w' => Ans sn (nS s d a) e ∧ Frm [] w w' := by
  have hbc : w.cell? ⟨b1, 0, none⟩ = some (.int .i64 d) := by rw [cell_of_heap hb]; rfl
  have HD := Lib.hid (fun W (f : Frm [] w W) b3 hb3 => deviceOf1_any (g := g) (s := s) (sn := sn) (lo := lo) (w := W) d b3 (hs.keep0 f) (h.keep0 f) hb3)
  have C1 := Lib.hid (fun W (f : Frm [] w W) => (f.cell (show w.cell? ⟨b2, 0, none⟩ = some (.int .i64 a) by rw [cell_of_heap hb2]; rfl) (by simp)))
  have CG := Lib.hid (fun W (f : Frm [] w W) => f.cell (hs.v 3 (by omega)) (by simp))
  obtain ⟨dv, rv, drs, dsp, rcs, rsp, h⟩ := h
  have CN := Lib.hid (fun W (f : Frm [] w W) => f.cell h.cells.2.1 (by simp))
  have hw1 : IntKind.i64.wrap ((s.n : Int) - 1) = (s.n : Int) - 1 := IntWalk.i64_in _ (by omega)
  have HIN := Lib.hid (fun W => within_any a 0 ((s.n : Int) - 1) W)
  have hoA : decide (0 ≤ a ∧ a ≤ (s.n : Int) - 1) = okA s a := rfl
  rw [hoA] at HIN
  unfold nS
  have hnD : nD s d = if okD s d = true then none else some 3 := rfl
  rw [hnD] at HD
  obtain ⟨qa, hqa⟩ : ∃ q, okA s a = q := ⟨_, rfl⟩
  obtain ⟨qd, hqd⟩ : ∃ q, okD s d = q := ⟨_, rfl⟩
  rw [hqa] at HIN ⊢
  rw [hqd] at HD ⊢
  have hmf : ∀ (fn : Fn) (first cap : Array Value) (w : World), (Instr.makeFunc fn first cap).run Tryd.prog w = .ok (.func fn first cap) w := fun _ _ _ _ => rfl
  unfold ptr at *
  clear h hs hb hb2 hn hoA hqa hqd hnD
  generalize s.n = n at *
  go_enter Tryd.func61, Tryd.ntmps61
  go_wp2_with fail
  refine (deviceOf_any d _).mono ?_
  rintro e w1 ⟨b3, rfl, h3, f1⟩
  have H3 := Lib.hid (show w1.cell? ⟨b3, 0, none⟩ = some (.int .i64 d) by rw [cell_of_heap h3]; rfl)
  have F1 := Lib.hid f1
  have e69 : ∀ args w, (callFunc 69 args).run Tryd.prog w = .ok (.enter 69 args) w := enters_of Tryd.func69 (by kernel_rfl) rfl
  clear h3 f1
  go_wp2_with fail
  refine (HD.out _ F1.out b3 H3.out).mono ?_
  rintro e w2 ⟨ha, f2⟩
  have F2 := Lib.hid (F1.out.trans f2 (by simp))
  clear f2
  cases qd with
  | false =>
    rcases ha with ⟨h, _⟩ | ⟨k, tx, hk, hk6, rfl⟩
    · cases h
    · have HK := Lib.hid (And.intro hk hk6)
      clear hk hk6
      unfold rfu
      go_wp2_with fail
      go_ret
      exact ⟨.inr ⟨k, tx, HK.out.1, HK.out.2, rfl⟩, F2.out⟩
  | true =>
    rcases ha with ⟨_, rfl⟩ | ⟨k, tx, hk, hk6, rfl⟩
    · have c1 := C1.out w2 F2.out
      have c2 := CN.out w2 F2.out
      have c3 := CG.out w2 F2.out
      have hin := HIN.out w2.drew
      cases qa with
      | false =>
        go_upto_region 4 with (fail)
        refine wp_region_still_lit (by kernel_rfl) (by kernel_rfl) ?_
        change wpStill _ _ (World.drew _) _ _ _
        repeat still_step
        still_call hin
        repeat still_step
        still_call (unless_false _ _ w2.drew)
        repeat still_step
        refine wpStill_nil ?_
        change Exit.then _ _ _ _ (World.drew _)
        go_wp2_with fail
        go_ret
        exact ⟨Ans.some sn _ (by omega), F2.out.drew⟩
      | true =>
        go_upto_region 4 with (fail)
        refine wp_region_still_lit (by kernel_rfl) (by kernel_rfl) ?_
        change wpStill _ _ (World.drew _) _ _ _
        repeat still_step
        still_call hin
        repeat still_step
        still_call (unless_true _ _ w2.drew)
        repeat still_step
        refine wpStill_nil ?_
        change Exit.then _ _ _ _ (World.drew _)
        go_wp2_with fail
        go_ret
        exact ⟨Ans.none sn, F2.out.drew⟩
    · cases hk
theorem hasF_at {d : Int} {x : Nat} (hd : okD s d = true) : ∃ i : Nat, ∃ hi : i < s.devs.length, d = i ∧ hasF s d x = ((s.devs[i].f &&& x) != 0) := by
  simp only [okD, decide_eq_true_eq] at hd
  refine ⟨d.toNat, by omega, by omega, ?_⟩
  unfold hasF
  rw [List.getElem?_eq_getElem (by omega)]
theorem there1_any (d : Int) (b1 : Nat) (hs : Sn w lo sn) (h : Arr lo w g s) (hd : okD s d = true) (hb : w.cell? ⟨b1, 0, none⟩ = some (.int .i64 d)) :
    Calls Tryd.prog 62 #[ptr g, ptr b1] w fun e w' => Ans sn (nT s d) e ∧ Frm [] w w' := by
  obtain ⟨i, hi, rfl, hg⟩ := hasF_at (x := 1) hd
  obtain ⟨dv, rv, drs, dsp, rcs, rsp, h⟩ := h
  obtain ⟨_, _, c2, _⟩ := h.cells
  obtain ⟨gd, cap, sv, rfl, d0, d1, d2, d3, _, dz⟩ := h.dev i hi
  have hf := (h.fb _ (List.getElem_mem hi)).1
  have cg := hs.v 4 (by omega)
  have hh := has_any gd (i * 4) s.devs[i].f 1 hf (by omega) w.drew d0
  have hi9 : (i : Int) < (s.devs.length : Int) := by omega
  have hi8 : (0 : Int) ≤ (i : Int) := by omega
  unfold nT gone
  rw [hg]
  obtain ⟨q, hq⟩ : ∃ q, ((s.devs[i].f &&& 1) != 0) = q := ⟨_, rfl⟩
  rw [hq] at hh ⊢
  unfold ptr
  clear h hs hd hg hq hf d0 d1 d2 d3 dz
  cases q
  · go_enter Tryd.func62, Tryd.ntmps62
    go_upto_region 1 with (fail)
    refine wp_region_still_lit (by kernel_rfl) (by kernel_rfl) ?_
    change wpStill _ _ (World.drew _) _ _ _
    repeat still_step
    still_call hh
    repeat still_step
    still_call (unless_true _ _ w.drew)
    repeat still_step
    refine wpStill_nil ?_
    change Exit.then _ _ _ _ (World.drew _)
    go_wp2_with fail
    go_ret
    exact ⟨Ans.none sn, (Frm.refl [] w).drew⟩
  · go_enter Tryd.func62, Tryd.ntmps62
    go_upto_region 1 with (fail)
    refine wp_region_still_lit (by kernel_rfl) (by kernel_rfl) ?_
    change wpStill _ _ (World.drew _) _ _ _
    repeat still_step
    still_call hh
    repeat still_step
    still_call (unless_false _ _ w.drew)
    repeat still_step
    refine wpStill_nil ?_
    change Exit.then _ _ _ _ (World.drew _)
    go_wp2_with fail
    go_ret
    exact ⟨Ans.some sn _ (by omega), (Frm.refl [] w).drew⟩
end
end Go.Proofs.YtdebnikolhhmgaaDoor

namespace Go.Proofs.YtdebnikolhhmgaaDoor
open Go.RowKit
set_option linter.unusedVariables false
set_option linter.unusedSimpArgs false
set_option maxRecDepth 100000

open Kr (OwnE SlE Enco RowTys)
/-- What lies beside blocks of one type. -/
theorem ArrL.rest {lo : Nat} {w w' : World} {g : Nat} {s : St} {dv rv : Value} {drs : List Dr} {dsp : List Value} {rcs : List CelT} {rsp : List Value} {L : List Nat} {T : TypeId} (h : ArrL lo w g s dv rv drs dsp rcs rsp) (f : Frm L w w') (hf : Fa lo w w')
    (hL : ∀ k ∈ L, ∃ cs fr, w.heap[k]? = some (.cells cs T fr)) (h1 : T ≠ 86) (h2 : T ≠ 96) (h3 : T ≠ 90) :
    OwnE eD 4 86 w' dv drs dsp ∧ (∀ (i : Nat) (q : Dr) (d : Dv), drs[i]? = some q → s.devs[i]? = some d → q.1 = d.f ∧ q.2.1 = d.str ∧ q.2.2.1 = d.fl ∧ SecP lo w' q.2.2.2.1 d.secs) ∧ OwnE eC 1 90 w' rv rcs rsp ∧
      (∀ (i : Nat) (c : CelT) (x : Wt), rcs[i]? = some c → s.row[i]? = some x → ∃ gw, c.1 = .pointer (some ⟨gw, 0, none⟩) ∧ WtB w' gw x) := by
  have hno : ∀ {T' k : Nat} {n : Nat} {v : Value} {xs sp : List Value}, Own T' k w v n xs sp → T ≠ T' → ∀ j ∈ blk v, j ∉ L := fun ho ht j hj hm => by
    obtain ⟨cs, fr, hc⟩ := hL j hm
    obtain ⟨cs', hc'⟩ := own_blk ho j hj
    rw [hc] at hc'; cases hc'; exact ht rfl
  refine ⟨h.own.keep f (hno h.own h1), fun i q d hq hd => ?_, h.row.keep f (hno h.row h3), fun i c x hc hx => ?_⟩
  · obtain ⟨k1, k2, k3, scs, csp, q1, q2, q3, q4⟩ := h.dat i q d hq hd
    exact ⟨k1, k2, k3, scs, csp, q1.keep f (hno q1 h2), q2, q3, fun i q c hq hc => by obtain ⟨e1, e2⟩ := q4 i q c hq hc; exact ⟨e1, e2.fa hf⟩⟩
  · obtain ⟨gw, e1, e2⟩ := h.rat i c x hc hx
    exact ⟨gw, e1, e2.fa hf⟩
theorem ArrL.setRec {lo : Nat} {w w' : World} {g : Nat} {s s' : St} {dv rv : Value} {drs : List Dr} {dsp : List Value} {rcs : List CelT} {rsp : List Value} (h : ArrL lo w g s dv rv drs dsp rcs rsp) (f : Frm [g] w w')
    (hr : w'.heap[g]? = some (.cells (arc g s' dv rv).toArray 35 (0, 0))) (e1 : s'.devs = s.devs) (e2 : s'.row = s.row) : ArrL lo w' g s' dv rv drs dsp rcs rsp ∧ Fa lo w w' := by
  have hfa : Fa lo w w' := Fa.of_frm f fun k hk => by simp at hk; subst hk; exact ⟨h.glo, _, _, _, h.rcd, by decide⟩
  obtain ⟨k1, k2, k3, k4⟩ := h.rest (T := 35) f hfa (fun k hk => by simp at hk; subst hk; exact ⟨_, _, h.rcd⟩) (by decide) (by decide) (by decide)
  refine ⟨⟨hr, h.glo, k1, h.dlo, by rw [e1]; exact h.dlen, ?_, by rw [e1]; exact h.fb, h.dis, k3, h.rlo, by rw [e2]; exact h.rlen, ?_⟩, hfa⟩
  · rw [e1]; exact k2
  · rw [e2]; exact k4
structure WfS (s : St) : Prop where
  l0 : 0 ≤ s.left
  l1 : s.left ≤ 9223372036854775807
  s0 : 0 ≤ s.steps
  s1 : s.steps ≤ 1000000000000
  n1 : s.n ≤ 1000000
def nStep (s : St) : Option Nat × St := if s.set = true ∧ s.left = 0 then (some 2, { s with out := true }) else (none, { s with left := if s.set = true then s.left - 1 else s.left, steps := s.steps + 1 })
section
variable {lo : Nat} {w : World} {sn : Nat → Addr} {g : Nat} {s : St}
theorem burnt_any (q : Bool) (l : Int) (g : Nat) (w : World) (c4 : w.cell? ⟨g, 4, none⟩ = some (.bool q)) (c5 : w.cell? ⟨g, 5, none⟩ = some (.int .i64 l)) :
    Calls Tryd.prog 67 #[.pointer (some ⟨g, 4, none⟩)] w fun e w' => e = .returned (.bool (q && (l == 0))) ∧ w' = w := by
  cases q
  · go_enter Tryd.func67, Tryd.ntmps67
    go_wp2
    go_ret
    exact ⟨rfl, rfl⟩
  · go_enter Tryd.func67, Tryd.ntmps67
    go_wp2
    go_ret
    exact ⟨rfl, rfl⟩
theorem burn_no (l : Int) (g : Nat) (w : World) (c4 : w.cell? ⟨g, 4, none⟩ = some (.bool false)) :
    Calls Tryd.prog 68 #[.pointer (some ⟨g, 4, none⟩)] w fun e w' => e = .returned (.tuple #[]) ∧ w' = w := by
  go_enter Tryd.func68, Tryd.ntmps68
  go_wp2
  go_end0
  exact ⟨rfl, rfl⟩
theorem burn_yes (l : Int) (hl : -9223372036854775808 < l ∧ l ≤ 9223372036854775807) (g : Nat) (w : World) (c4 : w.cell? ⟨g, 4, none⟩ = some (.bool true)) (c5 : w.cell? ⟨g, 5, none⟩ = some (.int .i64 l)) (hz : w.frozen? ⟨g, 5, none⟩ = false) :
    Calls Tryd.prog 68 #[.pointer (some ⟨g, 4, none⟩)] w fun e w' => e = .returned (.tuple #[]) ∧ w' = w.setCell ⟨g, 5, none⟩ (.int .i64 (l - 1)) := by
  have hw : IntKind.i64.wrap (l - 1) = l - 1 := IntWalk.i64_in _ (by omega)
  go_enter Tryd.func68, Tryd.ntmps68
  go_wp2
  go_end0
  exact ⟨rfl, rfl⟩
def StepP (sn : Nat → Addr) (lo g : Nat) (r : Option Nat × St) (w : World) (e : Ending) (w' : World) : Prop := Ans sn r.1 e ∧ Arr lo w' g r.2 ∧ Fa lo w w'
theorem nextStep_any (hs : Sn w lo sn) (h : Arr lo w g s) (hw : WfS s) : Calls Tryd.prog 47 #[ptr g] w (StepP sn lo g (nStep s) w) := by
  obtain ⟨dv, rv, drs, dsp, rcs, rsp, h⟩ := h
  obtain ⟨c0, c1, c2, c3, c4, c5, c6, c7, cz⟩ := h.cells
  have cg := hs.v 2 (by omega)
  have hg2 : g ≠ 2 := by have := h.glo; have := hs.l; omega
  have HB := Lib.hid (burnt_any s.set s.left g w c4 c5)
  have HR := Lib.hid h.rcd
  have hz5 := cz 5
  have hz6 := cz 6
  have hz7 := cz 7
  have hws : IntKind.i64.wrap (s.steps + 1) = s.steps + 1 := IntWalk.i64_in _ (by have := hw.s0; have := hw.s1; omega)
  unfold ptr
  by_cases hq : s.set = true ∧ s.left = 0
  · have e : nStep s = (some 2, { s with out := true }) := by unfold nStep; rw [if_pos hq]
    rw [e]
    rw [hq.1, hq.2] at HB
    have H := Lib.hid h
    clear e hq h hs c0 c1 c2 c3 c4 c5 c7 cz hw
    have cg2 : (w.setCell ⟨g, 6, none⟩ (.bool true)).cell? ⟨2, 0, none⟩ = some (.iface 126 (.pointer (some (sn 2)))) := (World.cell?_setCell_other w ⟨g, 6, none⟩ ⟨2, 0, none⟩ _ (by simp)).trans cg
    go_enter Tryd.func47, Tryd.ntmps47
    go_wp2_with (go_at_call 67; refine HB.out.mono ?_; rintro e w1 ⟨rfl, hw1⟩; obtain rfl := hw1.symm)
    go_ret
    have f : Frm [g] w (w.setCell ⟨g, 6, none⟩ (.bool true)) := (Frm.refl [g] w).setCell _ _ (by simp)
    obtain ⟨k1, k2⟩ := H.out.setRec (s' := { s with out := true }) f (by rw [heap_setCell_same _ HR.out]; rfl) rfl rfl
    exact ⟨Ans.some sn _ (by omega), ⟨_, _, _, _, _, _, k1⟩, k2⟩
  · have e : nStep s = (none, { s with left := if s.set = true then s.left - 1 else s.left, steps := s.steps + 1 }) := by unfold nStep; rw [if_neg hq]
    rw [e]
    have hb : (s.set && (s.left == 0)) = false := by
      cases h1 : s.set
      · rfl
      · have : ¬ s.left = 0 := fun e => hq ⟨h1, e⟩
        simp [this]
    rw [hb] at HB
    have H := Lib.hid h
    cases hset : s.set
    · rw [hset] at c4
      have HN := Lib.hid (burn_no s.left g w c4)
      have hf : (if false = true then s.left - 1 else s.left) = s.left := rfl
      rw [hf]
      clear e hq h hs c0 c1 c2 c3 c4 c5 c6 cz hw hb hf
      go_enter Tryd.func47, Tryd.ntmps47
      go_wp2_with (first
        | (go_at_call 67; refine HB.out.mono ?_; rintro e w1 ⟨rfl, hw1⟩; obtain rfl := hw1.symm)
        | (go_at_call 68; refine HN.out.mono ?_; rintro e w2 ⟨rfl, hw2⟩; obtain rfl := hw2.symm))
      go_ret
      have f : Frm [g] w (w.setCell ⟨g, 7, none⟩ (.int .i64 (s.steps + 1))) := (Frm.refl [g] w).setCell _ _ (by simp)
      obtain ⟨k1, k2⟩ := H.out.setRec (s' := { s with set := false, left := s.left, steps := s.steps + 1 }) f (by rw [heap_setCell_same _ HR.out]; simp [arc, hset]) rfl rfl
      exact ⟨Ans.none sn, ⟨_, _, _, _, _, _, k1⟩, k2⟩
    · rw [hset] at c4
      have HN := Lib.hid (burn_yes s.left ⟨by have := hw.l0; omega, hw.l1⟩ g w c4 c5 hz5)
      have hf : (if true = true then s.left - 1 else s.left) = s.left - 1 := rfl
      rw [hf]
      have c7' : (w.setCell ⟨g, 5, none⟩ (.int .i64 (s.left - 1))).cell? ⟨g, 7, none⟩ = some (.int .i64 s.steps) := (World.cell?_setCell_other w ⟨g, 5, none⟩ ⟨g, 7, none⟩ _ (by simp)).trans c7
      have z7' : (w.setCell ⟨g, 5, none⟩ (.int .i64 (s.left - 1))).frozen? ⟨g, 7, none⟩ = false := by rw [World.frozen?_setCell]; exact hz7
      clear e hq h hs c0 c1 c2 c3 c4 c5 c6 c7 cz hw hb hf
      go_enter Tryd.func47, Tryd.ntmps47
      go_wp2_with (first
        | (go_at_call 67; refine HB.out.mono ?_; rintro e w1 ⟨rfl, hw1⟩; obtain rfl := hw1.symm)
        | (go_at_call 68; refine HN.out.mono ?_; rintro e w2 ⟨rfl, rfl⟩))
      go_ret
      have f : Frm [g] w ((w.setCell ⟨g, 5, none⟩ (.int .i64 (s.left - 1))).setCell ⟨g, 7, none⟩ (.int .i64 (s.steps + 1))) := ((Frm.refl [g] w).setCell _ _ (by simp)).setCell _ _ (by simp)
      obtain ⟨k1, k2⟩ := H.out.setRec (s' := { s with set := true, left := s.left - 1, steps := s.steps + 1 }) f (by rw [heap_setCell_same _ (heap_setCell_same _ HR.out)]; simp [arc, hset]) rfl rfl
      exact ⟨Ans.none sn, ⟨_, _, _, _, _, _, k1⟩, k2⟩
end
end Go.Proofs.YtdebnikolhhmgaaDoor
