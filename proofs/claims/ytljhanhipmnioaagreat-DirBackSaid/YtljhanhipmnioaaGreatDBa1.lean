/-
  General laws, of no program: what a call changed of memory ('Frm'), rows of cells that a call owns ('Own') or reads ('Sl'), append, make and copy over them. No conditions but those that each law names. Laws on slices of bytes: read, owned, appended to, made, turned into a string; and the walk's step for an operation whose run is known. No conditions but those that each law names. Cuts of rows of bytes. No conditions but those that each theorem names. Contracts of pointer: Check, and what it calls. No conditions but those that each theorem names. Contract of pointerOf. No conditions but those that each theorem names. Contracts of pointer: Read, Same, and plain facts. No conditions but those that each theorem names.
-/
import Derived.WalkKit
import Derived.WalkSpells
import Derived.WalkLawsBesides
import Derived.Deep.AppendSrc
import Derived.Laws.CopyOwn
import Derived.Laws.BytesArg
import Derived.Carry
import Derived.Laws.BytesString
import Derived.Deep.SlicePairs
import Derived.Deep.Cut
import Derived.Lib.Hide
import Derived.Test.YtljhanhipmnioaaGreatChecked
import Derived.ChangeKeysEq
import Derived.Deep.MidRow
import Derived.Deep.RegionHeld3
import Derived.OpenShut
import Derived.WalkHide
import Derived.IntWalk
import Derived.StillTailTactics
import Derived.Deep.RegionLaw
import Derived.Deep.RegionWith
import Derived.Deep.QuietTactic
import Derived.BigQuiet
import Derived.OrdersHeld
import Derived.Deep.CutBlock
import Derived.Deep.DeepCutAuto
import Derived.Deep.Slices
import Derived.Defers
import Derived.Recover
import Derived.Deep.WholeRow
namespace Go.Proofs.YtljhanhipmnioaaGreat
open Go.RowKit
set_option linter.unusedVariables false
set_option maxRecDepth 100000
set_option linter.unusedSimpArgs false

/-- What was there is as it was, but for the blocks of the list. -/
structure Frm (L : List Nat) (w w' : World) : Prop where
  os : w'.os = w.os
  tape : w'.tape = w.tape
  output : w'.output = w.output
  size : w.heap.size ≤ w'.heap.size
  block : ∀ k, k < w.heap.size → k ∉ L → w'.heap[k]? = w.heap[k]?
namespace Frm
variable {L L' : List Nat} {w w1 w2 w' : World}
theorem refl (L : List Nat) (w : World) : Frm L w w := ⟨rfl, rfl, rfl, Nat.le_refl _, fun _ _ _ => rfl⟩
theorem trans (h : Frm L w w1) (k : Frm L' w1 w2) (hL : ∀ i ∈ L', i ∈ L ∨ w.heap.size ≤ i) : Frm L w w2 :=
  ⟨k.os.trans h.os, k.tape.trans h.tape, k.output.trans h.output, Nat.le_trans h.size k.size, fun i hi hn =>
    (k.block i (Nat.lt_of_lt_of_le hi h.size) (fun hm => by rcases hL i hm with h1 | h1; exact hn h1; omega)).trans (h.block i hi hn)⟩
theorem mono (h : Frm L w w') (hL : ∀ i ∈ L, i ∈ L' ∨ w.heap.size ≤ i) : Frm L' w w' :=
  ⟨h.os, h.tape, h.output, h.size, fun i hi hn => h.block i hi (fun hm => by rcases hL i hm with h1 | h1; exact hn h1; omega)⟩
theorem drew (h : Frm L w w') : Frm L w w'.drew := ⟨h.os, h.tape, h.output, h.size, h.block⟩
theorem drewN (h : Frm L w w') (n : Nat) : Frm L w (w'.drewN n) := ⟨h.os, h.tape, h.output, h.size, h.block⟩
theorem alloc (h : Frm L w w') (o : Obj) : Frm L w (w'.alloc o) :=
  h.trans (L' := []) ⟨rfl, rfl, rfl, by simp, fun k hk _ => Below.heap_alloc _ _ _ hk⟩ (by simp)
theorem setCell (h : Frm L w w') (p : Addr) (u : Value) (hp : p.block ∈ L ∨ w.heap.size ≤ p.block) : Frm L w (w'.setCell p u) :=
  h.trans (L' := [p.block]) ⟨rfl, rfl, rfl, by simp [World.setCell], fun k hk hn => Below.heap_setCell _ _ _ _ (by simpa using hn)⟩ (by simpa using hp)
theorem below (h : Frm L w w') {B : Nat} (hL : ∀ i ∈ L, B ≤ i) (hB : B ≤ w.heap.size) : Below B w w' :=
  ⟨h.os, h.tape, h.output, h.size, fun k hk => h.block k (by omega) (fun hm => by have := hL k hm; omega)⟩
theorem of_below (h : Below w.heap.size w w') (L : List Nat) : Frm L w w' := ⟨h.os, h.tape, h.output, h.size, fun k hk _ => h.block k hk⟩
theorem cell (h : Frm L w w') {p : Addr} {v : Value} (hc : w.cell? p = some v) (hn : p.block ∉ L) : w'.cell? p = some v :=
  (World.cell?_of_block (w := w) (h.block p.block (World.block_lt_of_cell? w p hc) hn)).trans hc
theorem heap (h : Frm L w w') {k : Nat} {o : Obj} (hc : w.heap[k]? = some o) (hn : k ∉ L) : w'.heap[k]? = some o :=
  (h.block k (by rcases Nat.lt_or_ge k w.heap.size with h1 | h1; exact h1; simp [Array.getElem?_eq_none h1] at hc) hn).trans hc
end Frm
theorem lt_heap {w : World} {k : Nat} {o : Obj} (h : w.heap[k]? = some o) : k < w.heap.size := by
  rcases Nat.lt_or_ge k w.heap.size with h1 | h1
  · exact h1
  · simp [Array.getElem?_eq_none h1] at h
theorem cell_of_heap {w : World} {k : Nat} {cs : Array Value} {T : TypeId} {fr : Nat × Nat} (h : w.heap[k]? = some (.cells cs T fr)) (i : Nat) : w.cell? ⟨k, i, none⟩ = cs[i]? := by
  simp [World.cell?, h]
theorem frozen_of_heap {w : World} {k : Nat} {cs : Array Value} {T : TypeId} (h : w.heap[k]? = some (.cells cs T (0, 0))) (i : Nat) : w.frozen? ⟨k, i, none⟩ = false := by
  simp [World.frozen?, h]
theorem heap_setCell_same {w : World} {k i : Nat} {cs : Array Value} {T : TypeId} {fr : Nat × Nat} (v : Value) (h : w.heap[k]? = some (.cells cs T fr)) :
    (w.setCell ⟨k, i, none⟩ v).heap[k]? = some (.cells (cs.setIfInBounds i v) T fr) := by
  simp [World.setCell, Array.getElem?_modify, h]
theorem heap_alloc_lt {w : World} {k : Nat} {o x : Obj} (h : w.heap[k]? = some x) : (w.alloc o).heap[k]? = some x := by
  rw [Below.heap_alloc _ _ _ (lt_heap h), h]
theorem add_plain (b o i : Nat) : (⟨b, o, none⟩ : Addr).add i = ⟨b, o + i, none⟩ := by unfold Addr.add; split <;> simp_all

/-- The blocks that a slice leads to. -/
def blk : Value → List Nat
  | .slice (some a) _ _ => [a.block]
  | _ => []

/-- A slice whose block is the call's own: n elements of s cells, 'xs'; behind them the spare room 'sp'. -/
def Own (T : TypeId) (s : Nat) (w : World) (v : Value) (n : Nat) (xs sp : List Value) : Prop :=
  xs.length = n * s ∧ ((v = .slice none 0 0 ∧ n = 0 ∧ sp = []) ∨
    ∃ g cap, v = .slice (some ⟨g, 0, none⟩) n cap ∧ n ≤ cap ∧ cap ≤ maxLen ∧ (xs ++ sp).length = cap * s ∧ w.heap[g]? = some (.cells (xs ++ sp).toArray T (0, 0)))

/-- A slice that can be read, wherever it lies. -/
def Sl (s : Nat) (w : World) (v : Value) (n : Nat) (xs sp : List Value) : Prop :=
  xs.length = n * s ∧ ((v = .slice none 0 0 ∧ n = 0 ∧ sp = []) ∨
    (∃ a, v = .slice (some a) 0 0 ∧ n = 0 ∧ sp = []) ∨
    ∃ b off cap, v = .slice (some ⟨b, off, none⟩) n cap ∧ n ≤ cap ∧ cap ≤ maxLen ∧ (xs ++ sp).length = cap * s ∧ ∀ i u, (xs ++ sp)[i]? = some u → w.cell? ⟨b, off + i, none⟩ = some u)

section
variable {T : TypeId} {s : Nat} {w w' : World} {v : Value} {n : Nat} {xs sp : List Value} {L : List Nat}
theorem Own.sl (h : Own T s w v n xs sp) : Sl s w v n xs sp := by
  obtain ⟨h1, h2 | ⟨g, cap, h2, h3, h4, h5, h6⟩⟩ := h
  · exact ⟨h1, .inl h2⟩
  · refine ⟨h1, .inr (.inr ⟨g, 0, cap, h2, h3, h4, h5, fun i u hu => ?_⟩)⟩
    rw [cell_of_heap h6]
    simpa using hu
theorem Own.keep (h : Own T s w v n xs sp) (f : Frm L w w') (hn : ∀ k ∈ blk v, k ∉ L) : Own T s w' v n xs sp := by
  obtain ⟨h1, h2 | ⟨g, cap, h2, h3, h4, h5, h6⟩⟩ := h
  · exact ⟨h1, .inl h2⟩
  · subst h2
    exact ⟨h1, .inr ⟨g, cap, rfl, h3, h4, h5, f.heap h6 (hn g (by simp [blk]))⟩⟩
theorem Own.lt (h : Own T s w v n xs sp) : ∀ k ∈ blk v, k < w.heap.size := by
  obtain ⟨h1, h2 | ⟨g, cap, h2, h3, h4, h5, h6⟩⟩ := h
  · obtain ⟨rfl, _⟩ := h2; simp [blk]
  · subst h2; simpa [blk] using lt_heap h6
theorem Own.nil (T : TypeId) (s : Nat) (w : World) : Own T s w (.slice none 0 0) 0 [] [] := ⟨by simp, .inl ⟨rfl, rfl, rfl⟩⟩
theorem Sl.nil (s : Nat) (w : World) : Sl s w (.slice none 0 0) 0 [] [] := ⟨by simp, .inl ⟨rfl, rfl, rfl⟩⟩
theorem Sl.keep (h : Sl s w v n xs sp) (f : Frm L w w') (hn : ∀ k ∈ blk v, k ∉ L) : Sl s w' v n xs sp := by
  obtain ⟨h1, h2 | h2 | ⟨b, off, cap, h2, h3, h4, h5, h6⟩⟩ := h
  · exact ⟨h1, .inl h2⟩
  · exact ⟨h1, .inr (.inl h2)⟩
  · subst h2
    exact ⟨h1, .inr (.inr ⟨b, off, cap, rfl, h3, h4, h5, fun i u hu => f.cell (h6 i u hu) (by simpa [blk] using hn)⟩)⟩
theorem Sl.form (h : Sl s w v n xs sp) : ∃ a cap, v = .slice a n cap ∧ n ≤ cap ∧ cap ≤ maxLen := by
  obtain ⟨h1, ⟨rfl, rfl, rfl⟩ | ⟨a, rfl, rfl, rfl⟩ | ⟨b, off, cap, h2, h3, h4, h5, h6⟩⟩ := h
  · exact ⟨none, 0, rfl, Nat.le_refl _, Nat.zero_le _⟩
  · exact ⟨some a, 0, rfl, Nat.le_refl _, Nat.zero_le _⟩
  · exact ⟨_, cap, h2, h3, h4⟩
theorem Sl.src {P : Program} {tx e' : TypeId} (hk : P.underlying tx = some (.slice e')) (h : Sl s w v n xs sp) (h1 : ∀ u ∈ xs, u.oneCell' = true) : Src P s tx v n xs w := by
  obtain ⟨hx, ⟨rfl, rfl, rfl⟩ | ⟨a, rfl, rfl, rfl⟩ | ⟨b, off, cap, rfl, h3, h4, h5, h6⟩⟩ := h
  · obtain rfl : xs = [] := List.eq_nil_of_length_eq_zero (by simpa using hx)
    exact Src.ofNil w hk 0
  · obtain rfl : xs = [] := List.eq_nil_of_length_eq_zero (by simpa using hx)
    exact Src.ofSlice w hk a 0 0 [] (by simp) (fun j u hu => by simp at hu) (fun u hu => by cases hu)
  · refine Src.ofSlice w hk _ n cap xs hx (fun j u hu => ?_) h1
    rw [add_plain]
    exact h6 j u (by rw [List.getElem?_append_left]; exact hu; rcases Nat.lt_or_ge j xs.length with h | h; exact h; simp [List.getElem?_eq_none h] at hu)

end
/-- append, both arms. -/
theorem append_run2 {T : TypeId} {s : Nat} {w : World} {v : Value} {n : Nat} {xs sp : List Value} {P : Program} {tS tx ty : TypeId} {i : TypeInfo} {z : Value} {by' : Nat} (ht : P.underlying tS = some (.slice T)) (hi : P.info? T = some i) (hz : i.zero = some z)
    (hs : i.size = s) (hb : i.bytes = by') (hzs : z.cells.size = s) (hpos : 0 < s) (hO : Own T s w v n xs sp) {x : Value} {m : Nat} {news : List Value} (hS : Src P s tx x m news w)
    (h63 : n + m ≤ maxLen) (hbound : (n + m) * by' ≤ 140737488355328) :
    ∃ v' w' sp', (Builtin.append_ #[tS, tx] ty #[v, x]).run P w = .ok v' w' ∧ Own T s w' v' (n + m) (xs ++ news) sp' ∧ Frm (blk v) w w' ∧ (blk v' = blk v ∨ (blk v' = [w.heap.size] ∧ Frm [] w w')) ∧
      ∀ p : Value → Prop, (∀ u ∈ sp, p u) → (∀ u ∈ z.cells.toList, p u) → ∀ u ∈ sp', p u := by
  subst hs
  subst hb
  obtain ⟨h1, h2⟩ := hO
  have hnl := hS.newsLen
  have hlen : (xs ++ news).length = (n + m) * i.size := by rw [List.length_append, h1, hnl, Nat.add_mul]
  have hsmall : n + m ≤ 9223372036854775807 := by simp only [maxLen] at h63; omega
  by_cases hroom : ∃ g cap, v = .slice (some ⟨g, 0, none⟩) n cap ∧ n + m ≤ cap
  · obtain ⟨g, cap, rfl, hr⟩ := hroom
    rcases h2 with ⟨h2, _⟩ | ⟨g', cap', h2, h3, h4, h5, h6⟩
    · cases h2
    · cases h2
      have hspl : xs.length + sp.length = cap * i.size := by simpa using h5
      have hfit : n * i.size + news.length ≤ (xs ++ sp).toArray.size := by
        have : (n + m) * i.size ≤ cap * i.size := Nat.mul_le_mul_right _ hr
        simp only [List.size_toArray, h5]; rw [hnl, ← Nat.add_mul]; exact this
      have hst := run_storeCells_at P g (n * i.size) T news 0 (xs ++ sp).toArray w h6 (by simpa using hfit) hS.one
      simp only [Nat.add_zero] at hst
      have hcur : (xs ++ sp).take (n * i.size) ++ news ++ (xs ++ sp).drop (n * i.size + news.length) = (xs ++ news) ++ sp.drop news.length := by
        rw [← h1, List.take_left, List.drop_append]
        simp
      refine ⟨.slice (some ⟨g, 0, none⟩) (n + m) cap, w.setRow g ((xs ++ news) ++ sp.drop news.length).toArray, sp.drop news.length, ?_, ⟨hlen, .inr ⟨g, cap, rfl, hr, h4, ?_, ?_⟩⟩, ?_, .inl rfl, fun p hp _ u hu => hp u (List.mem_of_mem_drop hu)⟩
      · rw [← hcur]
        rcases hS.kind with ⟨e', hk⟩ | hk <;> simp [Builtin.append_, run_underlying ht, run_underlying hk, sizeOf, typeInfo, hi, hS.len, hr, hS.cells, Addr.add_lit, hst]
      · simp only [List.length_append, List.length_drop]
        simp only [List.size_toArray, List.length_append] at hfit
        omega
      · exact setRow_heap w g _ _ _ _ h6
      · exact ⟨rfl, rfl, rfl, by simp [World.setRow], fun k hk hn => setRow_other w g k _ (by simpa [blk] using hn)⟩
  · by_cases hnil : v = .slice none 0 0 ∧ m = 0
    · obtain ⟨rfl, rfl⟩ := hnil
      rcases h2 with ⟨_, rfl, rfl⟩ | ⟨_, _, h2, _⟩
      · obtain rfl : news = [] := List.eq_nil_of_length_eq_zero (by simpa using hnl)
        obtain rfl : xs = [] := List.eq_nil_of_length_eq_zero (by simpa using h1)
        refine ⟨.slice none 0 0, w, [], ?_, ⟨by simp, .inl ⟨rfl, rfl, rfl⟩⟩, Frm.refl _ _, .inl rfl, fun _ _ _ u hu => by cases hu⟩
        rcases hS.kind with ⟨e', hk⟩ | hk <;> simp [Builtin.append_, run_underlying ht, run_underlying hk, sizeOf, typeInfo, hi, hS.len, hS.cells]
      · cases h2
    · obtain ⟨base, cap, rfl, hcap, hold, hbl⟩ : ∃ base cap, v = .slice base n cap ∧ cap < n + m ∧ (Builtin.firstCells i.size n (.slice base n cap)).run P w.drew = .ok xs.toArray w.drew ∧ True := by
        rcases h2 with ⟨rfl, rfl, rfl⟩ | ⟨g, cap, rfl, h3, h4, h5, h6⟩
        · obtain rfl : xs = [] := List.eq_nil_of_length_eq_zero (by simpa using h1)
          exact ⟨none, 0, rfl, by have : m ≠ 0 := fun e => hnil ⟨rfl, e⟩; omega, run_firstCells_none w.drew i.size 0 0 0, trivial⟩
        · refine ⟨_, cap, rfl, ?_, run_firstCells_some w.drew i.size n _ n cap xs h1 (fun j u hu => ?_), trivial⟩
          · rcases Nat.lt_or_ge cap (n + m) with h | h
            · exact h
            · exact absurd ⟨g, cap, rfl, h⟩ hroom
          · have hj : j < xs.length := by
              rcases Nat.lt_or_ge j xs.length with h | h
              · exact h
              · simp [List.getElem?_eq_none h] at hu
            rw [add_plain, World.cell?_drew, cell_of_heap h6]
            simp only [Nat.zero_add, List.getElem?_toArray]
            rw [List.getElem?_append_left hj]; exact hu
      have hge := grownCap_ge w (n + m) cap T
      have hcm : grownCap w (n + m) cap T ≤ maxLen := grownCap_le_maxLen w (n + m) cap T h63
      have hr := run_append_grow_src (P := P) w tS tx ty T i z ht hi hz base n cap xs hold x m news hS hcap (by omega) (growslice_fits hcap hbound)
      refine ⟨_, _, (Builtin.zeroCells z.cells (grownCap w (n + m) cap T - (n + m))).toList, hr, ⟨hlen, .inr ⟨w.heap.size, _, rfl, hge, hcm, ?_, ?_⟩⟩, ?_, .inr ⟨rfl, ((Frm.refl _ _).drew).alloc _⟩, ?_⟩
      · rw [List.length_append, hlen, Array.length_toList, size_zeroCells, hzs, ← Nat.add_mul]
        congr 1
        omega
      · have := heap_alloc_new w.drew (.cells ((xs ++ news).toArray ++ Builtin.zeroCells z.cells (grownCap w (n + m) cap T - (n + m))) T)
        rw [show w.drew.heap.size = w.heap.size from rfl] at this
        rw [this]
        congr 2
        apply Array.ext'
        simp
      · exact ((Frm.refl _ _).drew).alloc _
      · intro p _ hp u hu
        simp only [Builtin.zeroCells, Array.toList_map, List.mem_map] at hu
        obtain ⟨j, hj, rfl⟩ := hu
        have hlt : j % z.cells.size < z.cells.size := Nat.mod_lt _ (by omega)
        rw [getElem!_pos z.cells _ hlt]
        exact hp _ (by simp)

end Go.Proofs.YtljhanhipmnioaaGreat

namespace Go.Proofs.YtljhanhipmnioaaGreat
open Go.RowKit
set_option linter.unusedVariables false
set_option maxRecDepth 100000
set_option linter.unusedSimpArgs false

theorem wpList_val {P : Program} {w w' : World} {ops : Array Oper} {rest : List Oper} {o : Oper} {a : Act} {Q : Exit → Act → World → Prop} {v : Value}
    (hg : o.guard = none) (h : (execOp a.eval o).run P w = .ok (.value v) w') (k : wpList P ops Q rest (a.put o.dst v) w') : wpList P ops Q (o :: rest) a w :=
  wpList_plain hg fun K hK => by
    unfold Oper.wp
    rw [h]
    exact hK _ _ k

def bv (b : UInt8) : Value := .int .u8 b.toNat
def bvs (l : List UInt8) : List Value := l.map bv
theorem bvs_length (l : List UInt8) : (bvs l).length = l.length := by simp [bvs]
theorem bvs_append (l m : List UInt8) : bvs (l ++ m) = bvs l ++ bvs m := by simp [bvs]
theorem bvs_one (l : List UInt8) : ∀ u ∈ bvs l, u.oneCell' = true := by
  intro u hu
  obtain ⟨b, _, rfl⟩ := List.mem_map.1 hu
  rfl
theorem bvs_of {sp : List Value} (h : ∀ u ∈ sp, ∃ b, u = bv b) : ∃ l, sp = bvs l := by
  induction sp with
  | nil => exact ⟨[], rfl⟩
  | cons u r ih =>
    obtain ⟨b, rfl⟩ := h u (by simp)
    obtain ⟨l, rfl⟩ := ih fun x hx => h x (by simp [hx])
    exact ⟨b :: l, rfl⟩
theorem bvs_get (l : List UInt8) (i : Nat) : (bvs l)[i]? = (l[i]?).map bv := by simp [bvs]

/-- An owned row of bytes: 'l' its elements, 'sp' behind them. -/
def OwnB (T : TypeId) (w : World) (v : Value) (l sp : List UInt8) : Prop := Own T 1 w v l.length (bvs l) (bvs sp)
/-- A row of bytes that can be read. -/
def SlB (w : World) (v : Value) (l sp : List UInt8) : Prop := Sl 1 w v l.length (bvs l) (bvs sp)
theorem OwnB.sl {T : TypeId} {w : World} {v : Value} {l sp : List UInt8} (h : OwnB T w v l sp) : SlB w v l sp := Own.sl h

/-- What the table says of a slice of bytes. -/
structure ByteTys (P : Program) (tS T : TypeId) : Prop where
  sl : P.underlying tS = some (.slice T)
  el : P.underlying T = some (.int .u8)
  info : (P.info? T).map (fun i => (i.zero, i.size, i.bytes)) = some (some (.int .u8 0), 1, 1)

section
variable {P : Program} {tS T : TypeId} {w : World} {v x : Value} {l sp m msp : List UInt8}
theorem SlB.form (h : SlB w v l sp) : ∃ a cap, v = .slice a l.length cap ∧ l.length ≤ cap ∧ cap ≤ maxLen := Sl.form h
theorem OwnB.keep {w' : World} {L : List Nat} (h : OwnB T w v l sp) (f : Frm L w w') (hn : ∀ k ∈ blk v, k ∉ L) : OwnB T w' v l sp := Own.keep h f hn
theorem SlB.keep {w' : World} {L : List Nat} (h : SlB w v l sp) (f : Frm L w w') (hn : ∀ k ∈ blk v, k ∉ L) : SlB w' v l sp := Sl.keep h f hn
theorem OwnB.lt (h : OwnB T w v l sp) : ∀ k ∈ blk v, k < w.heap.size := Own.lt h
theorem OwnB.nil (T : TypeId) (w : World) : OwnB T w (.slice none 0 0) [] [] := Own.nil T 1 w
theorem SlB.nil (w : World) : SlB w (.slice none 0 0) [] [] := Sl.nil 1 w
end
theorem OwnB.heap {T : TypeId} {w : World} {g n cap : Nat} {l sp : List UInt8} (h : OwnB T w (.slice (some ⟨g, 0, none⟩) n cap) l sp) : w.heap[g]? = some (.cells (bvs (l ++ sp)).toArray T (0, 0)) := by
  obtain ⟨h1, h2 | ⟨g', cap', h2, h3, h4, h5, h6⟩⟩ := h
  · cases h2.1
  · cases h2; rw [bvs_append]; exact h6
theorem OwnB.caps {T : TypeId} {w : World} {g n cap : Nat} {l sp : List UInt8} (h : OwnB T w (.slice (some ⟨g, 0, none⟩) n cap) l sp) : n = l.length ∧ cap = l.length + sp.length ∧ cap ≤ maxLen := by
  obtain ⟨h1, h2 | ⟨g', cap', h2, h3, h4, h5, h6⟩⟩ := h
  · cases h2.1
  · cases h2; simp [bvs_length] at h5; exact ⟨rfl, by omega, h4⟩
theorem OwnB.of_heap {T : TypeId} {w : World} {g n cap : Nat} {l sp : List UInt8} (h : w.heap[g]? = some (.cells (bvs (l ++ sp)).toArray T (0, 0))) (hn : n = l.length) (hc : cap = l.length + sp.length) (hm : cap ≤ maxLen) :
    OwnB T w (.slice (some ⟨g, 0, none⟩) n cap) l sp := by
  subst hn
  refine ⟨by simp [bvs_length], .inr ⟨g, cap, rfl, by omega, hm, by simp [bvs_length, hc], ?_⟩⟩
  rw [h, bvs_append]
theorem bvs_set (l : List UInt8) (i : Nat) (x : UInt8) : (bvs l).toArray.setIfInBounds i (bv x) = (bvs (l.set i x)).toArray := by
  apply Array.ext'
  simp [bvs, List.map_set]
/-- A store into an owned row of bytes. -/
theorem OwnB.store {T : TypeId} {w : World} {g n cap : Nat} {l sp : List UInt8} (h : OwnB T w (.slice (some ⟨g, 0, none⟩) n cap) l sp) (i : Nat) (hi : i < l.length) (x : UInt8) {u : Value} (hu : u = bv x) :
    OwnB T (w.setCell ⟨g, i, none⟩ u) (.slice (some ⟨g, 0, none⟩) n cap) (l.set i x) sp := by
  subst hu
  obtain ⟨h1, h2, h3⟩ := h.caps
  refine OwnB.of_heap ?_ (by simpa using h1) (by simpa using h2) h3
  rw [heap_setCell_same _ h.heap, bvs_set, List.set_append_left _ _ hi]
theorem OwnB.cell {T : TypeId} {w : World} {g n cap : Nat} {l sp : List UInt8} (h : OwnB T w (.slice (some ⟨g, 0, none⟩) n cap) l sp) (i : Nat) (hi : i < l.length + sp.length) : w.cell? ⟨g, i, none⟩ = some (bv (l ++ sp)[i]!) := by
  have hi' : i < (l ++ sp).length := by simpa using hi
  rw [cell_of_heap h.heap, List.getElem?_toArray, bvs_get, List.getElem?_eq_getElem hi', getElem!_pos (l ++ sp) i hi']
  rfl
theorem OwnB.frozen {T : TypeId} {w : World} {g n cap : Nat} {l sp : List UInt8} (h : OwnB T w (.slice (some ⟨g, 0, none⟩) n cap) l sp) (i : Nat) : w.frozen? ⟨g, i, none⟩ = false := frozen_of_heap h.heap i
end Go.Proofs.YtljhanhipmnioaaGreat

namespace Go.Proofs.YtljhanhipmnioaaGreat
open Go.RowKit
set_option linter.unusedVariables false
set_option maxRecDepth 100000
set_option linter.unusedSimpArgs false

/-- A cut of a row that can be read can be read. -/
theorem SlB.cut {w : World} {a : Option Addr} {n cap : Nat} {l sp : List UInt8} (h : SlB w (.slice a n cap) l sp) (lo hi : Nat) (h1 : lo ≤ hi) (h2 : hi ≤ l.length) :
    SlB w (.slice (if cap = lo then a else a.map (·.add (lo * 1))) (hi - lo) (cap - lo)) ((l.drop lo).take (hi - lo)) (l.drop hi ++ sp) := by
  have hlen : ((l.drop lo).take (hi - lo)).length = hi - lo := by simp; omega
  obtain ⟨k1, ⟨k2, k3, k4⟩ | ⟨a, k2, k3, k4⟩ | ⟨b, off, c, k2, k3, k4, k5, k6⟩⟩ := h
  · cases k2
    obtain rfl : l = [] := List.eq_nil_of_length_eq_zero k3
    obtain rfl : sp = [] := by simpa [bvs] using k4
    simp at h2
    subst h2
    obtain rfl : lo = 0 := by omega
    simpa using SlB.nil w
  · cases k2
    obtain rfl : l = [] := List.eq_nil_of_length_eq_zero k3
    obtain rfl : sp = [] := by simpa [bvs] using k4
    simp at h2
    subst h2
    obtain rfl : lo = 0 := by omega
    exact ⟨rfl, .inr (.inl ⟨a, rfl, rfl, rfl⟩)⟩
  · cases k2
    have hc : cap = l.length + sp.length := by simpa [bvs_length] using k5.symm
    have hl : l.drop lo = (l.drop lo).take (hi - lo) ++ l.drop hi := by
      conv => lhs; rw [← List.take_append_drop (hi - lo) (l.drop lo)]
      rw [List.drop_drop, show lo + (hi - lo) = hi by omega]
    by_cases hcl : cap = lo
    · rw [if_pos hcl]
      have e1 : hi = lo := by omega
      have e2 : lo = l.length := by omega
      obtain rfl : sp = [] := List.eq_nil_of_length_eq_zero (by omega)
      subst e1
      refine ⟨by simp [bvs], .inr (.inr ⟨b, off, cap - hi, by simp, by omega, by omega, by simp [bvs]; omega, fun i u hu => ?_⟩)⟩
      rw [show List.drop hi l = [] from List.drop_eq_nil_of_le (by omega)] at hu
      simp [bvs] at hu
    · rw [if_neg hcl]
      refine ⟨by simp [bvs], .inr (.inr ⟨b, off + lo, cap - lo, by simp [add_plain]; omega, by omega, by omega, by simp [bvs]; omega, fun i u hu => ?_⟩)⟩
      have := k6 (lo + i) u (by
        rw [← bvs_append] at hu ⊢
        rw [← List.append_assoc, ← hl, ← List.drop_append_of_le_length (by omega)] at hu
        simpa [bvs] using hu)
      rw [Nat.add_assoc]
      exact this
theorem SlB.cellAt {w : World} {b off n cap : Nat} {l sp : List UInt8} (h : SlB w (.slice (some ⟨b, off, none⟩) n cap) l sp) (k : Nat) (hk : k < l.length) : w.cell? ⟨b, off + k, none⟩ = some (.int .u8 l[k].toNat) := by
  obtain ⟨h1, h2 | ⟨a, h2, h3, h4⟩ | ⟨b', off', cap', h2, h3, h4, h5, h6⟩⟩ := h
  · cases h2.1
  · omega
  · cases h2
    exact h6 k _ (by rw [List.getElem?_append_left (by simpa [bvs_length] using hk), bvs_get, List.getElem?_eq_getElem hk]; rfl)
theorem SlB.cases {w : World} {v : Value} {l sp : List UInt8} (h : SlB w v l sp) : (v = .slice none 0 0 ∧ l = []) ∨ (∃ a, v = .slice (some a) 0 0 ∧ l = []) ∨ ∃ b off cap, v = .slice (some ⟨b, off, none⟩) l.length cap ∧ l.length ≤ cap ∧ cap ≤ maxLen := by
  obtain ⟨h1, ⟨h2, h3, h4⟩ | ⟨a, h2, h3, h4⟩ | ⟨b', off', cap', h2, h3, h4, h5, h6⟩⟩ := h
  · exact .inl ⟨h2, List.eq_nil_of_length_eq_zero h3⟩
  · exact .inr (.inl ⟨a, h2, List.eq_nil_of_length_eq_zero h3⟩)
  · exact .inr (.inr ⟨b', off', cap', h2, h3, h4⟩)
end Go.Proofs.YtljhanhipmnioaaGreat

namespace Go.Proofs.YtljhanhipmnioaaGreat.Pt
open Go.RowKit
set_option linter.unusedVariables false
set_option maxRecDepth 100000
set_option linter.unusedSimpArgs false

abbrev Ad := Int × Int
theorem ad_ext {x y : Ad} (h1 : x.1 = y.1) (h2 : x.2 = y.2) : x = y := Prod.ext h1 h2
theorem heap_alloc_at {w : World} {o : Obj} {n : Nat} (hn : n = w.heap.size) : (w.alloc o).heap[n]? = some o := by subst hn; exact heap_alloc_new _ _
/-- An address's two cells. -/
def ea (x : Ad) : List Value := [.int .i64 x.1, .int .i64 x.2]
def eas (l : List Ad) : List Value := (l.map ea).flatten
def av (x : Ad) : Value := .agg #[.int .i64 x.1, .int .i64 x.2]
theorem eas_cons (x : Ad) (l : List Ad) : eas (x :: l) = .int .i64 x.1 :: .int .i64 x.2 :: eas l := rfl
theorem eas_append (l m : List Ad) : eas (l ++ m) = eas l ++ eas m := by simp [eas]
theorem eas_length (l : List Ad) : (eas l).length = l.length * 2 := by
  induction l with
  | nil => rfl
  | cons x r ih => rw [eas_cons]; simp only [List.length_cons, ih]; omega
theorem eas_one (l : List Ad) : ∀ u ∈ eas l, u.oneCell' = true := by
  induction l with
  | nil => intro u hu; simp [eas] at hu
  | cons x r ih =>
    intro u hu
    rw [eas_cons] at hu
    rcases List.mem_cons.1 hu with rfl | hu
    · rfl
    · rcases List.mem_cons.1 hu with rfl | hu
      · rfl
      · exact ih u hu
theorem eas_ints (l : List Ad) : ∀ u ∈ eas l, ∃ n, u = .int .i64 n := by
  induction l with
  | nil => intro u hu; simp [eas] at hu
  | cons x r ih =>
    intro u hu
    rw [eas_cons] at hu
    rcases List.mem_cons.1 hu with rfl | hu
    · exact ⟨_, rfl⟩
    · rcases List.mem_cons.1 hu with rfl | hu
      · exact ⟨_, rfl⟩
      · exact ih u hu
theorem eas_of : ∀ (k : Nat) {sp : List Value}, sp.length = k * 2 → (∀ u ∈ sp, ∃ n, u = .int .i64 n) → ∃ l, sp = eas l ∧ l.length = k
  | 0, sp, h, _ => ⟨[], List.eq_nil_of_length_eq_zero (by omega), rfl⟩
  | k + 1, sp, h, hp => by
    match sp, h, hp with
    | [], h, _ => simp at h
    | [u], h, _ => simp at h; omega
    | u :: v :: r, h, hp =>
      obtain ⟨n, rfl⟩ := hp u (by simp)
      obtain ⟨m, rfl⟩ := hp v (by simp)
      obtain ⟨l, rfl, hl⟩ := eas_of k (sp := r) (by simp at h; omega) (fun x hx => hp x (by simp [hx]))
      exact ⟨(n, m) :: l, rfl, by simp [hl]⟩
theorem eas_get0 : ∀ (l : List Ad) (i : Nat) (h : i < l.length), (eas l)[i * 2]? = some (.int .i64 l[i].1)
  | [], i, h => by simp at h
  | x :: r, 0, h => by simp [eas_cons]
  | x :: r, i + 1, h => by
    rw [eas_cons, show (i + 1) * 2 = i * 2 + 1 + 1 by omega, List.getElem?_cons_succ, List.getElem?_cons_succ, eas_get0 r i (by simpa using h)]
    simp
theorem eas_get1 : ∀ (l : List Ad) (i : Nat) (h : i < l.length), (eas l)[i * 2 + 1]? = some (.int .i64 l[i].2)
  | [], i, h => by simp at h
  | x :: r, 0, h => by simp [eas_cons]
  | x :: r, i + 1, h => by
    rw [eas_cons, show (i + 1) * 2 + 1 = i * 2 + 1 + 1 + 1 by omega, List.getElem?_cons_succ, List.getElem?_cons_succ, eas_get1 r i (by simpa using h)]
    simp
theorem eas_inj : ∀ {l m : List Ad}, eas l = eas m → l = m
  | [], [], _ => rfl
  | [], y :: m, h => by rw [eas_cons] at h; cases h
  | x :: l, [], h => by rw [eas_cons] at h; cases h
  | x :: l, y :: m, h => by
    rw [eas_cons, eas_cons] at h
    simp only [List.cons.injEq, Value.int.injEq, true_and] at h
    rw [eas_inj h.2.2, ad_ext h.1 h.2.1]

def OwnA (T : TypeId) (w : World) (v : Value) (l sp : List Ad) : Prop := Own T 2 w v l.length (eas l) (eas sp)
def SlA (w : World) (v : Value) (l sp : List Ad) : Prop := Sl 2 w v l.length (eas l) (eas sp)
theorem OwnA.sl {T : TypeId} {w : World} {v : Value} {l sp : List Ad} (h : OwnA T w v l sp) : SlA w v l sp := Own.sl h
structure AdTys (P : Program) (tS T : TypeId) : Prop where
  sl : P.underlying tS = some (.slice T)
  info : (P.info? T).map (fun i => (i.zero, i.size, i.bytes)) = some (some (.agg #[.int .i64 0, .int .i64 0]), 2, 16)

section
variable {P : Program} {tS T : TypeId} {w : World} {v x : Value} {l sp m msp : List Ad}
theorem SlA.form (h : SlA w v l sp) : ∃ a cap, v = .slice a l.length cap ∧ l.length ≤ cap ∧ cap ≤ maxLen := Sl.form h
theorem OwnA.keep {w' : World} {L : List Nat} (h : OwnA T w v l sp) (f : Frm L w w') (hn : ∀ k ∈ blk v, k ∉ L) : OwnA T w' v l sp := Own.keep h f hn
theorem SlA.keep {w' : World} {L : List Nat} (h : SlA w v l sp) (f : Frm L w w') (hn : ∀ k ∈ blk v, k ∉ L) : SlA w' v l sp := Sl.keep h f hn
theorem OwnA.lt (h : OwnA T w v l sp) : ∀ k ∈ blk v, k < w.heap.size := Own.lt h
theorem OwnA.nil (T : TypeId) (w : World) : OwnA T w (.slice none 0 0) [] [] := Own.nil T 2 w
theorem SlA.nil (w : World) : SlA w (.slice none 0 0) [] [] := Sl.nil 2 w
theorem OwnA.heap {g n cap : Nat} (h : OwnA T w (.slice (some ⟨g, 0, none⟩) n cap) l sp) : w.heap[g]? = some (.cells (eas (l ++ sp)).toArray T (0, 0)) := by
  obtain ⟨h1, h2 | ⟨g', cap', h2, h3, h4, h5, h6⟩⟩ := h
  · cases h2.1
  · cases h2; rw [eas_append]; exact h6
theorem OwnA.caps {g n cap : Nat} (h : OwnA T w (.slice (some ⟨g, 0, none⟩) n cap) l sp) : n = l.length ∧ cap = l.length + sp.length ∧ cap ≤ maxLen := by
  obtain ⟨h1, h2 | ⟨g', cap', h2, h3, h4, h5, h6⟩⟩ := h
  · cases h2.1
  · cases h2; simp [eas_length] at h5; exact ⟨rfl, by omega, h4⟩
theorem OwnA.of_heap {g n cap : Nat} (h : w.heap[g]? = some (.cells (eas (l ++ sp)).toArray T (0, 0))) (hn : n = l.length) (hc : cap = l.length + sp.length) (hm : cap ≤ maxLen) :
    OwnA T w (.slice (some ⟨g, 0, none⟩) n cap) l sp := by
  subst hn
  refine ⟨by simp [eas_length], .inr ⟨g, cap, rfl, by omega, hm, by simp [eas_length, hc]; omega, ?_⟩⟩
  rw [h, eas_append]
/-- The cells of the i-th. -/
theorem SlA.cells {b off n cap : Nat} (h : SlA w (.slice (some ⟨b, off, none⟩) n cap) l sp) (i : Nat) (hi : i < l.length) :
    w.cell? ⟨b, off + i * 2, none⟩ = some (.int .i64 l[i].1) ∧ w.cell? ⟨b, off + i * 2 + 1, none⟩ = some (.int .i64 l[i].2) := by
  obtain ⟨h1, ⟨h2, h3, h4⟩ | ⟨a, h2, h3, h4⟩ | ⟨b', off', cap', h2, h3, h4, h5, h6⟩⟩ := h
  · omega
  · omega
  · cases h2
    have hl : (eas l).length = l.length * 2 := eas_length l
    refine ⟨h6 (i * 2) _ ?_, ?_⟩
    · rw [List.getElem?_append_left (by omega), eas_get0 l i hi]
    · rw [Nat.add_assoc]
      exact h6 (i * 2 + 1) _ (by rw [List.getElem?_append_left (by omega), eas_get1 l i hi])
theorem SlA.at {n : Nat} {a : Option Addr} {cap : Nat} (h : SlA w (.slice a n cap) l sp) (hp : 0 < l.length) : ∃ b off, a = some ⟨b, off, none⟩ := by
  obtain ⟨h1, ⟨h2, h3, h4⟩ | ⟨a', h2, h3, h4⟩ | ⟨b', off', cap', h2, h3, h4, h5, h6⟩⟩ := h
  · omega
  · omega
  · cases h2; exact ⟨_, _, rfl⟩
theorem SlA.src {tx e' : TypeId} (hk : P.underlying tx = some (.slice e')) (h : SlA w v l sp) : Src P 2 tx v l.length (eas l) w := Sl.src hk h (eas_one l)
theorem append_ads_src (B : AdTys P tS T) (ty : TypeId) {tx : TypeId} (hO : OwnA T w v l sp) (hS : Src P 2 tx x m.length (eas m) w) (hb : l.length + m.length ≤ 1000000000000) :
    ∃ v' w' sp', (Builtin.append_ #[tS, tx] ty #[v, x]).run P w = .ok v' w' ∧ OwnA T w' v' (l ++ m) sp' ∧ Frm (blk v) w w' ∧ (blk v' = blk v ∨ (blk v' = [w.heap.size] ∧ Frm [] w w')) := by
  obtain ⟨i, hi, hz, hs, hby⟩ := info_parts B.info
  obtain ⟨v', w', sp', h1, h2, h3, h4, h5⟩ := append_run2 (ty := ty) B.sl hi hz hs hby rfl (by omega) hO hS (by simp [maxLen]; omega) (by omega)
  have hints := h5 (fun u => ∃ n, u = .int .i64 n) (eas_ints sp) (by intro u hu; simp [Value.cells] at hu; exact ⟨0, hu⟩)
  have hk : ∃ k, sp'.length = k * 2 := by
    obtain ⟨q1, ⟨q2, q3, q4⟩ | ⟨g, cap, q2, q3, q4, q5, q6⟩⟩ := h2
    · exact ⟨0, by simp [q4]⟩
    · rw [List.length_append, q1] at q5
      exact ⟨cap - (l.length + m.length), by rw [Nat.sub_mul]; omega⟩
  obtain ⟨k, hk⟩ := hk
  obtain ⟨s2, rfl, _⟩ := eas_of k hk hints
  refine ⟨v', w', s2, h1, ?_, h3, h4⟩
  unfold OwnA
  rw [eas_append, List.length_append]
  exact h2
theorem append_ads (B : AdTys P tS T) (ty : TypeId) (hO : OwnA T w v l sp) (hS : SlA w x m msp) (hb : l.length + m.length ≤ 1000000000000) :
    ∃ v' w' sp', (Builtin.append_ #[tS, tS] ty #[v, x]).run P w = .ok v' w' ∧ OwnA T w' v' (l ++ m) sp' ∧ Frm (blk v) w w' ∧ (blk v' = blk v ∨ (blk v' = [w.heap.size] ∧ Frm [] w w')) :=
  append_ads_src B ty hO (SlA.src B.sl hS) hb
end
/-- 'append(s, x...)' as the walk meets it. -/
theorem wpList_append_ads {P : Program} {tS T : TypeId} (B : AdTys P tS T) {w : World} {ops : Array Oper} {rest : List Oper} {o : Oper} {a : Act} {Q : Exit → Act → World → Prop}
    {v y : Value} {l sp m msp : List Ad} (hO : OwnA T w v l sp) (hS : SlA w y m msp) (hb : l.length + m.length ≤ 1000000000000)
    (hg : o.guard = none) (s x : Operand) (hop : o.op = Op.call { callee := Callee.builtin Builtin.append, args := #[s, x], argTypes := #[tS, tS] }) (hs : a.eval s = v) (hx : a.eval x = y)
    (k : ∀ a' cap' w' sp', OwnA T w' (.slice a' (l.length + m.length) cap') (l ++ m) sp' → Frm (blk v) w w' → (∀ i ∈ blk (.slice a' (l.length + m.length) cap'), i ∈ blk v ∨ w.heap.size ≤ i) →
      wpList P ops Q rest (a.put o.dst (.slice a' (l.length + m.length) cap')) w') :
    wpList P ops Q (o :: rest) a w := by
  obtain ⟨v', w', sp', h1, h2, h3, h4⟩ := append_ads (x := y) B o.type hO hS hb
  obtain ⟨a', cap', rfl, _, _⟩ := h2.sl.form
  rw [List.length_append] at h1 h2 h4
  refine wpList_val (w' := w') hg ?_ (k a' cap' w' sp' h2 h3 ?_)
  · simp [execOp, hop, resolve, invoke, builtin, hs, hx, h1, Result.andThen]
  · intro i hi
    rcases h4 with h4 | ⟨h4, _⟩
    · exact .inl (h4 ▸ hi)
    · rw [h4] at hi; simp at hi; exact .inr (by omega)
end Go.Proofs.YtljhanhipmnioaaGreat.Pt

namespace Go.Proofs.YtljhanhipmnioaaGreat.Pt
open Go.RowKit
set_option linter.unusedVariables false
set_option linter.unusedSimpArgs false
set_option maxRecDepth 100000

theorem eqItems_ints {P : Program} {e : TypeId} {k : IntKind} (hs : ∀ W, (sizeOf e).run P W = .ok 1 W) (ha : ∀ W, (isAgg e).run P W = .ok false W) (hu : P.underlying e = some (.int k)) (d : Nat) (l m : List Int) (hlm : l.length = m.length) (W : World) :
    ∀ c s, s + c = l.length → (Op.eqItems (d + 1) e 1 (l.map (Value.int k)).toArray (m.map (Value.int k)).toArray (List.range' s c)).run P W = .ok (l.drop s == m.drop s) W
  | 0, s, h => by
    rw [List.drop_eq_nil_of_le (by omega), List.drop_eq_nil_of_le (by omega)]
    simp [Op.eqItems]
  | c + 1, s, h => by
    have h1 : s < l.length := by omega
    have h2 : s < m.length := by omega
    have ih := eqItems_ints hs ha hu d l m hlm W c (s + 1) (by omega)
    rw [List.drop_eq_getElem_cons h1, List.drop_eq_getElem_cons h2]
    have x1 : (l.map (Value.int k))[s]? = some (.int k l[s]) := by simp [List.getElem?_map, List.getElem?_eq_getElem h1]
    have x2 : (m.map (Value.int k))[s]? = some (.int k m[s]) := by simp [List.getElem?_map, List.getElem?_eq_getElem h2]
    have p1 : (part e (l.map (Value.int k)).toArray (s * 1)).run P W = .ok (.int k l[s]) W := by
      simp [part, hs, ha, x1, go_sem]
    have p2 : (part e (m.map (Value.int k)).toArray (s * 1)).run P W = .ok (.int k m[s]) W := by
      simp [part, hs, ha, x2, go_sem]
    have p3 : (Op.equalIn (d + 1) e (.int k l[s]) (.int k m[s])).run P W = .ok (l[s] == m[s]) W := by
      simp [Op.equalIn, run_underlying hu]
    rw [List.range'_succ]
    simp only [Op.eqItems, Sem.run_bind, p1, p2, p3, Result.andThen_ok]
    generalize l[s] = a at *
    generalize m[s] = b at *
    generalize List.drop (s + 1) l = L1 at *
    generalize List.drop (s + 1) m = M1 at *
    clear p1 p2 p3 x1 x2
    by_cases h : a = b
    · rw [h]
      simp only [beq_self_eq_true, Bool.not_true, Bool.false_eq_true, if_false, ih]
      simp
    · have hf : (a == b) = false := by simpa using h
      rw [hf]
      simp [List.cons_beq_cons, hf]
theorem eql_ints {P : Program} {t e : TypeId} {n : Nat} {k : IntKind} {i : TypeInfo} (ht : P.underlying t = some (.array n e)) (hi : P.info? e = some i) (hc : P.cellsOf e = 1) (hs : ∀ W, (sizeOf e).run P W = .ok 1 W) (ha : ∀ W, (isAgg e).run P W = .ok false W) (hu : P.underlying e = some (.int k))
    (l m : List Int) (hl : l.length = n) (hm : m.length = n) (W : World) : (binOp .eql t (.agg (l.map (Value.int k)).toArray) (.agg (m.map (Value.int k)).toArray)).run P W = .ok (.bool (l == m)) W := by
  rw [run_eql_struct, run_equalIn_array W 9999 _ _ ht hi, hc, List.range_eq_range', eqItems_ints hs ha hu 9998 l m (by omega) W n 0 (by omega)]
  simp [Result.andThen]
theorem bvs_ints (l : List UInt8) : bvs l = (l.map fun b => (b.toNat : Int)).map (Value.int .u8) := by simp [bvs, bv]
theorem beq_inj {α β : Type} [BEq α] [LawfulBEq α] [BEq β] [LawfulBEq β] (f : α → β) (hf : ∀ a b, f a = f b → a = b) (l m : List α) : (l.map f == m.map f) = (l == m) := by
  rw [Bool.eq_iff_iff, beq_iff_eq, beq_iff_eq]
  exact ⟨fun h => List.map_inj_right (fun a b h => hf a b h) |>.1 h, fun h => by rw [h]⟩
theorem BT : ByteTys Tryz.prog 31 5 := ⟨by kernel_rfl, by kernel_rfl, by kernel_rfl⟩
theorem AT : AdTys Tryz.prog 50 148 := ⟨by kernel_rfl, by kernel_rfl⟩
theorem d24 : Tryz.prog.underlying 52 = some (.array 32 5) := by kernel_rfl
theorem i24 : (Tryz.prog.info? 52).map (·.size) = some 32 := by kernel_rfl
theorem i26 : (Tryz.prog.info? 54).map (·.size) = some 35 := by kernel_rfl
theorem info5 : ∃ i, Tryz.prog.info? 5 = some i := Option.isSome_iff_exists.1 (by kernel_rfl)
theorem eql24 (l m : List UInt8) (hl : l.length = 32) (hm : m.length = 32) (W : World) : (binOp .eql 52 (.agg (bvs l).toArray) (.agg (bvs m).toArray)).run Tryz.prog W = .ok (.bool (l == m)) W := by
  obtain ⟨i, hi⟩ := info5
  rw [bvs_ints, bvs_ints, eql_ints (k := .u8) d24 hi (by kernel_rfl) (fun W => by kernel_rfl) (fun W => by kernel_rfl) Tryz.underlying5 _ _ (by simpa using hl) (by simpa using hm) W, beq_inj (fun b : UInt8 => (b.toNat : Int)) (fun a b h => UInt8.toNat_inj.1 (by omega))]
theorem guard_agg (op : BinOp) (t : TypeId) (x y : Operand) (xs ys : Array Value) (ht : Tryz.prog.eqGuardType Tryz.prog.depth t = false) (W : World) : (eqGuard op t x y (.agg xs) (.agg ys)).run Tryz.prog W = .ok () W := by
  unfold eqGuard
  cases op <;> simp [go_sem, ht]
end Go.Proofs.YtljhanhipmnioaaGreat.Pt

namespace Go.Proofs.YtljhanhipmnioaaGreat.Pt
open Go.RowKit
set_option linter.unusedVariables false
set_option linter.unusedSimpArgs false
set_option maxRecDepth 100000

theorem ret_bool {a b : Bool} (h : a = b) : Ending.returned (.bool a) = .returned (.bool b) := by rw [h]
def pc (v : Value) (b l : Int) (s : List UInt8) : List Value := v :: .int .i64 b :: .int .i64 l :: bvs s
def pv (v : Value) (b l : Int) (s : List UInt8) : Value := .agg (pc v b l s).toArray
def idv (s : List UInt8) : Value := .agg (bvs s).toArray
/-- A pointer's block. -/
def PB (w : World) (g : Nat) (v : Value) (b l : Int) (s : List UInt8) : Prop := w.heap[g]? = some (.cells (pc v b l s).toArray 54 (0, 0))
/-- What loads of its parts give. -/
structure Gets (w : World) (g : Nat) (v : Value) (b l : Int) (s : List UInt8) : Prop where
  c0 : w.cell? ⟨g, 0, none⟩ = some v
  c1 : w.cell? ⟨g, 1, none⟩ = some (.int .i64 b)
  c2 : w.cell? ⟨g, 2, none⟩ = some (.int .i64 l)
  all : (Instr.loadAt 54 (.pointer (some ⟨g, 0, none⟩))).run Tryz.prog w = .ok (pv v b l s) w
  sum : (Instr.loadAt 52 (.pointer (some ⟨g, 3, none⟩))).run Tryz.prog w = .ok (idv s) w
theorem PB.gets {w : World} {g : Nat} {v : Value} {b l : Int} {s : List UInt8} (h : PB w g v b l s) (hs : s.length = 32) : Gets w g v b l s := by
  unfold PB at h
  refine ⟨by rw [cell_of_heap h]; rfl, by rw [cell_of_heap h]; rfl, by rw [cell_of_heap h]; rfl, ?_, ?_⟩
  · refine run_loadAt_mid w g 0 54 (pc v b l s) _ (fun j u hu => ?_) Tryz.underlying54 rfl ?_
    · rw [cell_of_heap h]; simpa using hu
    · rw [i26]; simp [pc, bvs_length, hs]
  · refine run_loadAt_mid w g 3 52 (bvs s) _ (fun j u hu => ?_) d24 rfl ?_
    · rw [cell_of_heap h]; simpa [pc, Nat.add_comm 3 j] using hu
    · rw [i24]; simp [bvs_length, hs]
theorem PB.keep {w w' : World} {L : List Nat} {g : Nat} {v : Value} {b l : Int} {s : List UInt8} (h : PB w g v b l s) (f : Frm L w w') (hn : g ∉ L) : PB w' g v b l s := f.heap h hn
theorem PB.new (w : World) (v : Value) (b l : Int) (s : List UInt8) : PB (w.alloc (.cells (pc v b l s).toArray 54)) w.heap.size v b l s := heap_alloc_new _ _
theorem PB.new1 (w : World) (o : Obj) (v : Value) (b l : Int) (s : List UInt8) : PB ((w.alloc o).alloc (.cells (pc v b l s).toArray 54)) (w.heap.size + 1) v b l s := by
  have := heap_alloc_new (w.alloc o) (.cells (pc v b l s).toArray 54)
  simpa [PB, go_sem] using this
theorem PB.alloc {w : World} {g : Nat} {v : Value} {b l : Int} {s : List UInt8} (h : PB w g v b l s) (o : Obj) : PB (w.alloc o) g v b l s := heap_alloc_lt h
theorem PB.lt {w : World} {g : Nat} {v : Value} {b l : Int} {s : List UInt8} (h : PB w g v b l s) : g < w.heap.size := lt_heap h
/-- A load whose value is known, guarded or not. -/
theorem wpList_load_g {P : Program} {ops : Array Oper} {rest : List Oper} {op : Oper} {a : Act} {w : World} {Q : Exit → Act → World → Prop} (hw : Region.wanted op (yielded ops a.tmps) = true) (ty : TypeId) (x : Operand) (ho : op.op = .load ty x)
    (p : Addr) (hx : a.eval x = .pointer (some p)) {v : Value} (hl : (Instr.loadAt ty (.pointer (some p))).run P w = .ok v w)
    (h : wpList P ops Q rest (a.put op.dst v) w) : wpList P ops Q (op :: rest) a w :=
  wpList_step fun K hK => by
    have he : (execOp a.eval op).run P w = .ok (.value v) w := by simp [execOp, ho, hx, hl, Result.andThen]
    rw [if_pos hw]
    unfold Oper.wp
    rw [he]
    exact hK _ _ h
theorem agg_guard (op : BinOp) (x y : Operand) (s s2 : List UInt8) (W : World) : (eqGuard op 52 x y (idv s) (idv s2)).run Tryz.prog W = .ok () W := guard_agg op 52 x y _ _ (by kernel_rfl) W
theorem sameBlock_any (v v2 : Value) (b l b2 l2 : Int) (s s2 : List UInt8) (hs : s.length = 32) (hs2 : s2.length = 32) (w : World) :
    Calls Tryz.prog 202 #[pv v b l s, pv v2 b2 l2 s2] w fun e w' => e = .returned (.bool (b == b2 && l == l2 && s == s2)) ∧ Frm [] w w' := by
  have G1 := ((PB.new w v b l s).alloc (.cells (pc v2 b2 l2 s2).toArray 54)).gets hs
  have G2 := (PB.new1 w (.cells (pc v b l s).toArray 54) v2 b2 l2 s2).gets hs2
  have f : Frm [] w ((w.alloc (.cells (pc v b l s).toArray 54)).alloc (.cells (pc v2 b2 l2 s2).toArray 54)) := ((Frm.refl [] w).alloc _).alloc _
  have hq : (binOp .eql 52 (idv s) (idv s2)).run Tryz.prog = _ := funext fun W => eql24 s s2 hs hs2 W
  have hg := fun op x y W => agg_guard op x y s s2 W
  unfold pv
  generalize hA : (pc v b l s).toArray = A at *
  generalize hB : (pc v2 b2 l2 s2).toArray = B at *
  go_enter Tryz.func202, Tryz.ntmps202
  go_upto_region 1 with (fail)
  generalize (w.alloc (.cells A 54)).alloc (.cells B 54) = W at *
  have G1h := Lib.hid G1
  have G2h := Lib.hid G2
  obtain ⟨c0, c1, c2, _, _⟩ := G1
  obtain ⟨d0, d1, d2, _, _⟩ := G2
  clear hA hB
  go_wp2_with (first | refine wpList_load_g (by rfl) 52 _ rfl _ rfl G1h.out.sum ?_ | refine wpList_load_g (by rfl) 52 _ rfl _ rfl G2h.out.sum ?_)
  all_goals
    go_ret
    refine ⟨?_, f⟩
    simp_all
end Go.Proofs.YtljhanhipmnioaaGreat.Pt

namespace Go.Proofs.YtljhanhipmnioaaGreat.Pt
open Go.RowKit
set_option linter.unusedVariables false
set_option linter.unusedSimpArgs false
set_option maxRecDepth 100000

def PreRel (l m : List Ad) (w0 : World) (cv : Value) (wr : World) : Prop := ∃ k : Nat, k ≤ l.length ∧ cv = .int .i64 k ∧ (∀ j, j < k → l[j]? = m[j]?) ∧ Frm [] w0 wr
theorem pre_all {l m : List Ad} (h : l.length = m.length) (hp : ∀ j, j < l.length → l[j]? = m[j]?) : (l == m) = true := by
  rw [beq_iff_eq]
  apply List.ext_getElem? 
  intro j
  rcases Nat.lt_or_ge j l.length with h1 | h1
  · exact hp j h1
  · rw [List.getElem?_eq_none h1, List.getElem?_eq_none (by omega)]
theorem pre_not {l m : List Ad} {k : Nat} (h1 : k < l.length) (h2 : k < m.length) (h : ¬ l[k] = m[k]) : (l == m) = false := by
  rw [beq_eq_false_iff_ne]
  rintro rfl
  exact h rfl
theorem len_not {l m : List Ad} (h : l.length ≠ m.length) : (l == m) = false := by
  rw [beq_eq_false_iff_ne]
  rintro rfl
  exact h rfl
set_option maxHeartbeats 1000000 in
theorem SameAddrs_any (v x : Value) (l m sp sp2 : List Ad) (w : World) (h1 : SlA w v l sp) (h2 : SlA w x m sp2) (hl : l.length ≤ 1000000) :
    Calls Tryz.prog 98 #[v, x] w fun e w' => e = .returned (.bool (l == m)) ∧ Frm [] w w' := by
  obtain ⟨a, cap, rfl, _, _⟩ := h1.form
  obtain ⟨a2, cap2, rfl, hc, hm⟩ := h2.form
  have hm9 : m.length ≤ maxLen := by omega
  unfold maxLen at hm9
  have hl9 : ((l.length : Nat) : Int) ≤ 1000000 := by omega
  have hl8 : ((m.length : Nat) : Int) ≤ 9223372036854775807 := by omega
  have H1 := Lib.hid h1
  have H2 := Lib.hid h2
  clear h1 h2 hl hc hm
  by_cases hlm : l.length = m.length
  · have HLM := Lib.hid hlm
    rw [← hlm] at H2 hl8 ⊢
    clear hlm
    go_enter Tryz.func98, Tryz.ntmps98
    go_wp2_with fail
    go_loopw [5] (PreRel l m w) (fun cv _ => l.length - (intOf cv).toNat)
    case atStart => exact ⟨0, by omega, rfl, fun j hj => by omega, Frm.refl _ _⟩
    case round =>
      obtain ⟨k, hk, rfl, hp, f⟩ := hrel
      have HP := Lib.hid hp
      clear hp
      by_cases hlt : k < l.length
      · have hlt2 : k < m.length := by rw [← HLM.out]; exact hlt
        have hH2 := H2.out
        rw [HLM.out] at hH2
        obtain ⟨b0, off, rfl⟩ := H1.out.at (by omega)
        obtain ⟨b1, off1, rfl⟩ := hH2.at (by omega)
        obtain ⟨c0, c1⟩ := (H1.out.keep f (by simp)).cells k hlt
        obtain ⟨d0, d1⟩ := (hH2.keep f (by simp)).cells k hlt2
        have hn := @pre_not l m k hlt hlt2
        have hy : ∀ j, j < k + 1 → l[k] = m[k] → l[j]? = m[j]? := fun j hj he => by
          rcases Nat.lt_or_ge j k with h | h
          · exact HP.out j h
          · obtain rfl : j = k := by omega
            rw [List.getElem?_eq_getElem hlt, List.getElem?_eq_getElem hlt2, he]
        generalize l[k] = y at *
        generalize m[k] = z at *
        have F := Lib.hid f
        have HN := Lib.hid hn
        have HY := Lib.hid hy
        clear f hn hy hH2 hlt2
        by_cases e1 : y.1 = z.1
        · by_cases e2 : y.2 = z.2
          · have e3 := ad_ext e1 e2
            subst e3
            go_wp2_with fail
            go_quiet (fail)
            go_wp2_with fail
            go_roundw
            case rel => exact ⟨k + 1, by omega, by go_num, fun j hj => by first | exact HY.out j hj rfl | exact HY.out j hj trivial, F.out.drewN _⟩
            case measure => simp [intOf]; omega
          · have E := Lib.hid (HN.out fun e => e2 (by rw [e]))
            have e2' : (y.2 == z.2) = false := by simpa using e2
            rw [← e1] at d0
            clear e2
            go_wp2_with fail
            go_quiet (fail)
            go_wp2_with fail
            go_ret
            exact ⟨ret_bool E.out.symm, F.out.drewN _⟩
        · have E := Lib.hid (HN.out fun e => e1 (by rw [e]))
          have e2' : (y.1 == z.1) = false := by simpa using e1
          clear e1
          go_wp2_with fail
          go_quiet (fail)
          go_wp2_with fail
          go_ret
          exact ⟨ret_bool E.out.symm, F.out.drewN _⟩
      · obtain rfl : k = l.length := by omega
        have F := Lib.hid f
        clear f
        go_wp2_with fail
        go_ret
        exact ⟨ret_bool (pre_all HLM.out HP.out).symm, F.out⟩
  · have E := Lib.hid (len_not hlm)
    have hd : ((l.length : Int) != (m.length : Int)) = true := by simp; omega
    clear hlm
    go_enter Tryz.func98, Tryz.ntmps98
    go_wp2_with fail
    go_ret
    exact ⟨ret_bool E.out.symm, Frm.refl _ _⟩
set_option maxHeartbeats 1000000 in
theorem Equal_any (v x : Value) (l m sp sp2 : List Ad) (w : World) (h1 : SlA w v l sp) (h2 : SlA w x m sp2) (hl : l.length ≤ 1000000) :
    Calls Tryz.prog 201 #[v, x] w fun e w' => e = .returned (.bool (l == m)) ∧ Frm [] w w' := by
  obtain ⟨a, cap, rfl, _, _⟩ := h1.form
  obtain ⟨a2, cap2, rfl, hc, hm⟩ := h2.form
  have hm9 : m.length ≤ maxLen := by omega
  unfold maxLen at hm9
  have hl9 : ((l.length : Nat) : Int) ≤ 1000000 := by omega
  have hl8 : ((m.length : Nat) : Int) ≤ 9223372036854775807 := by omega
  have H1 := Lib.hid h1
  have H2 := Lib.hid h2
  clear h1 h2 hl hc hm
  by_cases hlm : l.length = m.length
  · have HLM := Lib.hid hlm
    rw [← hlm] at H2 hl8 ⊢
    clear hlm
    go_enter Tryz.func201, Tryz.ntmps201
    go_wp2_with fail
    go_loopw [13] (PreRel l m w) (fun cv _ => l.length - (intOf cv).toNat)
    case atStart => exact ⟨0, by omega, rfl, fun j hj => by omega, Frm.refl _ _⟩
    case round =>
      obtain ⟨k, hk, rfl, hp, f⟩ := hrel
      have HP := Lib.hid hp
      clear hp
      by_cases hlt : k < l.length
      · have hlt2 : k < m.length := by rw [← HLM.out]; exact hlt
        have hH2 := H2.out
        rw [HLM.out] at hH2
        obtain ⟨b0, off, rfl⟩ := H1.out.at (by omega)
        obtain ⟨b1, off1, rfl⟩ := hH2.at (by omega)
        obtain ⟨c0, c1⟩ := (H1.out.keep f (by simp)).cells k hlt
        obtain ⟨d0, d1⟩ := (hH2.keep f (by simp)).cells k hlt2
        have hn := @pre_not l m k hlt hlt2
        have hy : ∀ j, j < k + 1 → l[k] = m[k] → l[j]? = m[j]? := fun j hj he => by
          rcases Nat.lt_or_ge j k with h | h
          · exact HP.out j h
          · obtain rfl : j = k := by omega
            rw [List.getElem?_eq_getElem hlt, List.getElem?_eq_getElem hlt2, he]
        generalize l[k] = y at *
        generalize m[k] = z at *
        have F := Lib.hid f
        have HN := Lib.hid hn
        have HY := Lib.hid hy
        clear f hn hy hH2 hlt2
        by_cases e1 : y.1 = z.1
        · by_cases e2 : y.2 = z.2
          · have e3 := ad_ext e1 e2
            subst e3
            go_wp2_with fail
            go_quiet (fail)
            go_wp2_with fail
            go_roundw
            case rel => exact ⟨k + 1, by omega, by go_num, fun j hj => by first | exact HY.out j hj rfl | exact HY.out j hj trivial, F.out.drewN _⟩
            case measure => simp [intOf]; omega
          · have E := Lib.hid (HN.out fun e => e2 (by rw [e]))
            have e2' : (y.2 == z.2) = false := by simpa using e2
            rw [← e1] at d0
            clear e2
            go_wp2_with fail
            go_quiet (fail)
            go_wp2_with fail
            go_ret
            exact ⟨ret_bool E.out.symm, F.out.drewN _⟩
        · have E := Lib.hid (HN.out fun e => e1 (by rw [e]))
          have e2' : (y.1 == z.1) = false := by simpa using e1
          clear e1
          go_wp2_with fail
          go_quiet (fail)
          go_wp2_with fail
          go_ret
          exact ⟨ret_bool E.out.symm, F.out.drewN _⟩
      · obtain rfl : k = l.length := by omega
        have F := Lib.hid f
        clear f
        go_wp2_with fail
        go_ret
        exact ⟨ret_bool (pre_all HLM.out HP.out).symm, F.out⟩
  · have E := Lib.hid (len_not hlm)
    have hd : ((l.length : Int) != (m.length : Int)) = true := by simp; omega
    clear hlm
    go_enter Tryz.func201, Tryz.ntmps201
    go_wp2_with fail
    go_ret
    exact ⟨ret_bool E.out.symm, Frm.refl _ _⟩
end Go.Proofs.YtljhanhipmnioaaGreat.Pt

namespace Go.Proofs.YtljhanhipmnioaaGreat.Pt
open Go.RowKit
set_option linter.unusedVariables false
set_option linter.unusedSimpArgs false
set_option maxRecDepth 100000

/-- A pointer: its addresses, its birth, its level, its sum. -/
structure Pt where
  (ads : List Ad) (b l : Int) (s : List UInt8)
theorem Pt.ext' {p q : Pt} (h1 : p.ads = q.ads) (h2 : p.b = q.b) (h3 : p.l = q.l) (h4 : p.s = q.s) : p = q := by cases p; cases q; simp_all
/-- A value that is a pointer, whose addresses can be read. -/
def PtV (w : World) (x : Value) (p : Pt) : Prop := ∃ a cap sp, x = pv (.slice a p.ads.length cap) p.b p.l p.s ∧ SlA w (.slice a p.ads.length cap) p.ads sp ∧ p.s.length = 32
/-- The same, and its list is its own. -/
def PtO (w : World) (x : Value) (p : Pt) : Prop := ∃ a cap sp, x = pv (.slice a p.ads.length cap) p.b p.l p.s ∧ OwnA 148 w (.slice a p.ads.length cap) p.ads sp ∧ p.s.length = 32
theorem PtO.v {w : World} {x : Value} {p : Pt} (h : PtO w x p) : PtV w x p := by
  obtain ⟨a, cap, sp, e, h1, h2⟩ := h
  exact ⟨a, cap, sp, e, h1.sl, h2⟩
def ptBlk : Value → List Nat
  | .agg cs => match cs[0]? with | some v => blk v | none => []
  | _ => []
theorem ptBlk_pv (v : Value) (b l : Int) (s : List UInt8) : ptBlk (pv v b l s) = blk v := by simp [ptBlk, pv, pc]
theorem PtV.keep {w w' : World} {x : Value} {p : Pt} {L : List Nat} (h : PtV w x p) (f : Frm L w w') (hn : ∀ k ∈ ptBlk x, k ∉ L) : PtV w' x p := by
  obtain ⟨a, cap, sp, rfl, h2, h3⟩ := h
  rw [ptBlk_pv] at hn
  exact ⟨a, cap, sp, rfl, h2.keep f hn, h3⟩
theorem PtV.keep0 {w w' : World} {x : Value} {p : Pt} (h : PtV w x p) (f : Frm [] w w') : PtV w' x p := h.keep f (by simp)
def zeroPt : Pt := ⟨[], 0, 0, List.replicate 32 0⟩
def same (p q : Pt) : Bool := p.ads == q.ads && p.b == q.b && p.l == q.l && p.s == q.s
def hole (p : Pt) : Bool := same p zeroPt
theorem same_iff {p q : Pt} : same p q = true ↔ p = q := by
  simp only [same, Bool.and_eq_true, beq_iff_eq]
  exact ⟨fun ⟨⟨⟨h1, h2⟩, h3⟩, h4⟩ => Pt.ext' h1 h2 h3 h4, fun h => by subst h; simp⟩
set_option maxHeartbeats 1000000 in
theorem SamePointer_any (x y : Value) (p q : Pt) (w : World) (hp : PtV w x p) (hq : PtV w y q) (hl : p.ads.length ≤ 1000000) :
    Calls Tryz.prog 45 #[x, y] w fun e w' => e = .returned (.bool (same p q)) ∧ Frm [] w w' := by
  obtain ⟨a, cap, sp, rfl, s1, z1⟩ := hp
  obtain ⟨a2, cap2, sp2, rfl, s2, z2⟩ := hq
  obtain ⟨ads, b, l, s⟩ := p
  obtain ⟨bs, b2, l2, t⟩ := q
  simp only [same] at *
  have B1 := (PB.new w (.slice a ads.length cap) b l s).alloc (.cells (pc (.slice a2 bs.length cap2) b2 l2 t).toArray 54)
  have B2 := PB.new1 w (.cells (pc (.slice a ads.length cap) b l s).toArray 54) (.slice a2 bs.length cap2) b2 l2 t
  have f : Frm [] w ((w.alloc (.cells (pc (.slice a ads.length cap) b l s).toArray 54)).alloc (.cells (pc (.slice a2 bs.length cap2) b2 l2 t).toArray 54)) := ((Frm.refl [] w).alloc _).alloc _
  have hC := fun W (f : Frm [] w W) => SameAddrs_any (.slice a ads.length cap) (.slice a2 bs.length cap2) ads bs sp sp2 W (s1.keep f (by simp)) (s2.keep f (by simp)) hl
  have HC := Lib.hid hC
  have hq : (binOp .eql 52 (idv s) (idv t)).run Tryz.prog = _ := funext fun W => eql24 s t z1 z2 W
  have hg := fun op x y W => agg_guard op x y s t W
  have HL := Lib.hid hl
  clear hC s1 s2 hl
  generalize ads.length = n at *
  generalize bs.length = m at *
  generalize (ads == bs) = u at *
  unfold pv
  generalize hA : (pc (.slice a n cap) b l s).toArray = A at *
  generalize hB : (pc (.slice a2 m cap2) b2 l2 t).toArray = B at *
  go_enter Tryz.func45, Tryz.ntmps45
  go_upto_region 1 with (fail)
  generalize (w.alloc (.cells A 54)).alloc (.cells B 54) = W at *
  have G1 := B1.gets z1
  have G2 := B2.gets z2
  have c0 := G1.c0
  have d0 := G2.c0
  have B1h := Lib.hid B1
  have B2h := Lib.hid B2
  clear hA hB G1 G2 B1 B2
  go_wp2_with (first | (go_at_call 98; refine (HC.out _ f).mono ?_; rintro r w1 ⟨rfl, f1⟩; have G1 := (B1h.out.keep f1 (by simp)).gets z1; have G2 := (B2h.out.keep f1 (by simp)).gets z2; have c1 := G1.c1; have c2 := G1.c2; have d1 := G2.c1; have d2 := G2.c2; have G1h := Lib.hid G1; have G2h := Lib.hid G2; have F1 := Lib.hid (f.trans f1 (by simp)); clear f1 G1 G2) | refine wpList_load_g (by rfl) 52 _ rfl _ rfl G1h.out.sum ?_ | refine wpList_load_g (by rfl) 52 _ rfl _ rfl G2h.out.sum ?_)
  all_goals
    go_ret
    refine ⟨?_, F1.out⟩
    simp_all
end Go.Proofs.YtljhanhipmnioaaGreat.Pt

namespace Go.Proofs.YtljhanhipmnioaaGreat.Pt
open Go.RowKit
set_option linter.unusedVariables false
set_option linter.unusedSimpArgs false
set_option maxRecDepth 100000

set_option maxHeartbeats 1000000 in
theorem Same_any (x y : Value) (p q : Pt) (w : World) (hp : PtV w x p) (hq : PtV w y q) (hl : p.ads.length ≤ 1000000) :
    Calls Tryz.prog 145 #[x, y] w fun e w' => e = .returned (.bool (same p q)) ∧ Frm [] w w' := by
  obtain ⟨a, cap, sp, rfl, s1, z1⟩ := hp
  obtain ⟨a2, cap2, sp2, rfl, s2, z2⟩ := hq
  obtain ⟨ads, b, l, s⟩ := p
  obtain ⟨bs, b2, l2, t⟩ := q
  simp only [same, Bool.and_assoc] at *
  have B1 := (PB.new w (.slice a ads.length cap) b l s).alloc (.cells (pc (.slice a2 bs.length cap2) b2 l2 t).toArray 54)
  have B2 := PB.new1 w (.cells (pc (.slice a ads.length cap) b l s).toArray 54) (.slice a2 bs.length cap2) b2 l2 t
  have f : Frm [] w ((w.alloc (.cells (pc (.slice a ads.length cap) b l s).toArray 54)).alloc (.cells (pc (.slice a2 bs.length cap2) b2 l2 t).toArray 54)) := ((Frm.refl [] w).alloc _).alloc _
  have hC := fun W (f : Frm [] w W) => Equal_any (.slice a ads.length cap) (.slice a2 bs.length cap2) ads bs sp sp2 W (s1.keep f (by simp)) (s2.keep f (by simp)) hl
  have hD := fun W => sameBlock_any (.slice a ads.length cap) (.slice a2 bs.length cap2) b l b2 l2 s t z1 z2 W
  simp only [Bool.and_assoc] at hD
  generalize (b == b2 && (l == l2 && s == t)) = u2 at *
  have HC := Lib.hid hC
  have HD := Lib.hid hD
  have HL := Lib.hid hl
  clear hC hD s1 s2 hl
  generalize ads.length = n at *
  generalize bs.length = m at *
  generalize (ads == bs) = u at *
  have hA0 : pv (.slice a n cap) b l s = .agg (pc (.slice a n cap) b l s).toArray := rfl
  have hB0 : pv (.slice a2 m cap2) b2 l2 t = .agg (pc (.slice a2 m cap2) b2 l2 t).toArray := rfl
  have HA0 := Lib.hid hA0
  have HB0 := Lib.hid hB0
  rw [hA0, hB0]
  clear hA0 hB0
  generalize hA : (pc (.slice a n cap) b l s).toArray = A at *
  generalize hB : (pc (.slice a2 m cap2) b2 l2 t).toArray = B at *
  cases u
  all_goals
    go_enter Tryz.func145, Tryz.ntmps145
    go_upto_region 1 with (fail)
    generalize (w.alloc (.cells A 54)).alloc (.cells B 54) = W at *
    have G1 := B1.gets z1
    have G2 := B2.gets z2
    have c0 := G1.c0
    have d0 := G2.c0
    have B1h := Lib.hid B1
    have B2h := Lib.hid B2
    clear hA hB G1 G2 B1 B2
    go_wp2_with (first | (go_at_call 201; refine (HC.out _ f).mono ?_; rintro r w1 ⟨rfl, f1⟩; have G1 := (B1h.out.keep f1 (by simp)).gets z1; have G2 := (B2h.out.keep f1 (by simp)).gets z2; have G1h := Lib.hid G1; have G2h := Lib.hid G2; have F1 := Lib.hid (f.trans f1 (by simp)); clear f1 G1 G2) | refine wpList_load_g (by rfl) 54 _ rfl _ rfl G1h.out.all ?_ | refine wpList_load_g (by rfl) 54 _ rfl _ rfl G2h.out.all ?_ | (go_at_call 202; refine (HD.out _).mono ?_; rintro r w2 ⟨rfl, f2⟩; have F2 := Lib.hid (F1.out.trans f2 (by simp)); clear f2))
    all_goals go_ret
    all_goals
      first | exact ⟨ret_bool (by simp), F2.out⟩ | exact ⟨ret_bool (by simp), F1.out⟩
theorem ptv_zero (w : World) : PtV w (pv (.slice none 0 0) 0 0 (List.replicate 32 0)) zeroPt := ⟨none, 0, [], rfl, SlA.nil _, rfl⟩
set_option maxHeartbeats 1000000 in
theorem Hole_any (x : Value) (p : Pt) (w : World) (hp : PtV w x p) (hl : p.ads.length ≤ 1000000) :
    Calls Tryz.prog 184 #[x] w fun e w' => e = .returned (.bool (hole p)) ∧ Frm [] w w' := by
  have hC := fun W (f : Frm [] w W) => Same_any x _ p zeroPt W (hp.keep0 f) (ptv_zero W) hl
  obtain ⟨a, cap, sp, rfl, s1, z1⟩ := hp
  obtain ⟨ads, b, l, s⟩ := p
  unfold hole
  have B1 := PB.new w (.slice a ads.length cap) b l s
  have f : Frm [] w (w.alloc (.cells (pc (.slice a ads.length cap) b l s).toArray 54)) := (Frm.refl [] w).alloc _
  generalize same _ zeroPt = u at *
  have HC := Lib.hid hC
  clear hC s1 hl
  simp only at *
  generalize ads.length = n at *
  have hA0 : pv (.slice a n cap) b l s = .agg (pc (.slice a n cap) b l s).toArray := rfl
  have HA0 := Lib.hid hA0
  rw [hA0]
  clear hA0
  generalize hA : (pc (.slice a n cap) b l s).toArray = A at *
  go_enter Tryz.func184, Tryz.ntmps184
  go_upto_region 1 with (fail)
  generalize w.alloc (.cells A 54) = W at *
  have G1 := Lib.hid (B1.gets z1)
  clear hA B1
  go_wp2_with (first | refine wpList_load_g (by rfl) 54 _ rfl _ rfl G1.out.all ?_ | (go_at_call 145; refine (HC.out _ f).mono ?_; rintro r w2 ⟨rfl, f2⟩))
  go_ret
  exact ⟨rfl, f.trans f2 (by simp)⟩
end Go.Proofs.YtljhanhipmnioaaGreat.Pt

namespace Go.Proofs.YtljhanhipmnioaaGreat.Pt
open Go.RowKit
set_option linter.unusedVariables false
set_option linter.unusedSimpArgs false
set_option maxRecDepth 100000

/-- A load whose value is known in every world that meets S. -/
theorem yieldsIf_ld {P : Program} {ops : Array Oper} {S : World → Prop} {op : Oper} {a : Act} (hw : Region.wanted op (yielded ops a.tmps) = true) (ty : TypeId) (x : Operand) (ho : op.op = .load ty x)
    (p : Addr) (hx : a.eval x = .pointer (some p)) {v : Value} (hl : ∀ w, S w → (Instr.loadAt ty (.pointer (some p))).run P w = .ok v w) : YieldsIf P ops S op v a :=
  .inl ⟨hw, fun w hS => by simp [execOp, ho, hx, hl w hS, Result.andThen]⟩
end Go.Proofs.YtljhanhipmnioaaGreat.Pt

namespace Go.Proofs.YtljhanhipmnioaaGreat.Pt
open Go.RowKit
set_option linter.unusedVariables false
set_option linter.unusedSimpArgs false
set_option maxRecDepth 100000

/-- What an append does: only the slice's own block is changed, or a new one is made. -/
def Grew (w : World) (v : Value) (w' : World) (v' : Value) : Prop := Frm (blk v) w w' ∧ ∀ i ∈ blk v', i ∈ blk v ∨ w.heap.size ≤ i
theorem Grew.refl (w : World) (v : Value) : Grew w v w v := ⟨Frm.refl _ _, fun i hi => .inl hi⟩
theorem Grew.trans {w w1 w2 : World} {v v1 v2 : Value} (h : Grew w v w1 v1) (k : Grew w1 v1 w2 v2) : Grew w v w2 v2 :=
  ⟨h.1.trans k.1 h.2, fun i hi => by rcases k.2 i hi with h1 | h1; exact h.2 i h1; exact .inr (Nat.le_trans h.1.size h1)⟩
theorem Grew.pre {w w0 w1 : World} {v v1 : Value} (f : Frm [] w w0) (k : Grew w0 v w1 v1) : Grew w v w1 v1 :=
  ⟨(f.mono (L' := blk v) (fun i hi => by simp at hi)).trans k.1 (fun i hi => .inl hi), fun i hi => (k.2 i hi).imp id (Nat.le_trans f.size)⟩
def Ext (w : World) (v : Value) (l : List UInt8) (e : Ending) (w' : World) : Prop := ∃ a cap sp, e = .returned (.slice a l.length cap) ∧ OwnB 5 w' (.slice a l.length cap) l sp ∧ Grew w v w' (.slice a l.length cap)
def be1 (n : Nat) : List UInt8 := [UInt8.ofNat n]
def be2 (n : Nat) : List UInt8 := [UInt8.ofNat (n / 256), UInt8.ofNat n]
def be4 (n : Nat) : List UInt8 := [UInt8.ofNat (n / 16777216), UInt8.ofNat (n / 65536), UInt8.ofNat (n / 256), UInt8.ofNat n]
end Go.Proofs.YtljhanhipmnioaaGreat.Pt

namespace Go.Proofs.YtljhanhipmnioaaGreat.Pt
open Go.RowKit
set_option linter.unusedVariables false
set_option linter.unusedSimpArgs false
set_option maxRecDepth 100000

/-- An address's three bytes. -/
def adB (x : Nat × Nat) : List UInt8 := be1 x.1 ++ be2 x.2
end Go.Proofs.YtljhanhipmnioaaGreat.Pt

namespace Go.Proofs.YtljhanhipmnioaaGreat.Pt
open Go.RowKit
set_option linter.unusedVariables false
set_option linter.unusedSimpArgs false
set_option maxRecDepth 100000

/-- Three of them, noughts where there is none. -/
def pad3 (L : List (Nat × Nat)) : List (Nat × Nat) := L ++ List.replicate (3 - L.length) (0, 0)
def addrsB (L : List (Nat × Nat)) : List UInt8 := be1 L.length ++ (pad3 L).flatMap adB
theorem ix2 (a b c d e f : Value) (W : World) : (Instr.index 223 (.agg #[a, b, c, d, e, f]) (.int .i64 2)).run Tryz.prog W = .ok (.agg #[e, f]) W := by kernel_rfl
end Go.Proofs.YtljhanhipmnioaaGreat.Pt

namespace Go.Proofs.YtljhanhipmnioaaGreat.Pt
open Go.RowKit
set_option linter.unusedVariables false
set_option linter.unusedSimpArgs false
set_option maxRecDepth 100000

def ptB (L : List (Nat × Nat)) (b lv : Nat) (s : List UInt8) : List UInt8 := addrsB L ++ be4 b ++ be1 lv ++ s
end Go.Proofs.YtljhanhipmnioaaGreat.Pt

namespace Go.Proofs.YtljhanhipmnioaaGreat.Pt
open Go.RowKit
set_option linter.unusedVariables false
set_option linter.unusedSimpArgs false
set_option maxRecDepth 100000

def GaveUp (err at' : Int) : Ending := .panicked [{ v := .iface 204 (.agg #[.int .i64 err, .int .i64 at']), recovered := false }]
theorem demand_yes (e at' : Int) (w : World) :
    Calls Tryz.prog 233 #[.bool true, .int .i64 e, .int .i64 at'] w fun r w' => r = .returned (.tuple #[]) ∧ w' = w := by
  go_enter Tryz.func233, Tryz.ntmps233
  go_wp2
  go_end0
  exact ⟨rfl, rfl⟩
theorem demand_no (e at' : Int) (w : World) :
    Calls Tryz.prog 233 #[.bool false, .int .i64 e, .int .i64 at'] w fun r w' => r = GaveUp e at' ∧ w' = w := by
  go_enter Tryz.func233, Tryz.ntmps233
  go_wp2
  exact ⟨rfl, rfl, rfl⟩
/-- Goes on if it holds, else gives up. -/
def Asks (p : Prop) (e : Ending) : Prop := e = .returned (.tuple #[]) ∧ p ∨ e = GaveUp 2 0 ∧ ¬ p
theorem demand_any (b : Bool) (w : World) : Calls Tryz.prog 233 #[.bool b, .int .i64 2, .int .i64 0] w fun r w' => Asks (b = true) r ∧ w' = w := by
  cases b
  · exact (demand_no _ _ _).mono fun r w' h => ⟨.inr ⟨h.1, by simp⟩, h.2⟩
  · exact (demand_yes _ _ _).mono fun r w' h => ⟨.inl ⟨h.1, rfl⟩, h.2⟩
theorem within_any (n lo hi : Int) (w : World) : Calls Tryz.prog 232 #[.int .i64 n, .int .i64 lo, .int .i64 hi] w fun r w' => Asks (lo ≤ n ∧ n ≤ hi) r ∧ w' = w := by
  by_cases h1 : lo ≤ n
  · by_cases h2 : n ≤ hi
    · go_enter Tryz.func232, Tryz.ntmps232
      go_wp2_with (go_at_call 233; refine (demand_yes _ _ _).mono ?_; rintro r w' ⟨rfl, rfl⟩)
      go_end0
      exact ⟨.inl ⟨rfl, h1, h2⟩, rfl⟩
    · go_enter Tryz.func232, Tryz.ntmps232
      go_wp2_with (go_at_call 233; refine (demand_no _ _ _).mono ?_; rintro r w' ⟨rfl, rfl⟩; unfold GaveUp)
      exact ⟨rfl, Or.inr ⟨rfl, fun h => by omega⟩, rfl⟩
  · go_enter Tryz.func232, Tryz.ntmps232
    go_wp2_with (go_at_call 233; refine (demand_no _ _ _).mono ?_; rintro r w' ⟨rfl, rfl⟩; unfold GaveUp)
    exact ⟨rfl, Or.inr ⟨rfl, fun h => by omega⟩, rfl⟩
end Go.Proofs.YtljhanhipmnioaaGreat.Pt

namespace Go.Proofs.YtljhanhipmnioaaGreat.Pt
open Go.RowKit
set_option linter.unusedVariables false
set_option maxRecDepth 100000
set_option linter.unusedSimpArgs false

theorem SlA.cut {w : World} {a : Option Addr} {n cap : Nat} {l sp : List Ad} (h : SlA w (.slice a n cap) l sp) (lo hi : Nat) (h1 : lo ≤ hi) (h2 : hi ≤ l.length) :
    SlA w (.slice (if cap = lo then a else a.map (·.add (lo * 2))) (hi - lo) (cap - lo)) ((l.drop lo).take (hi - lo)) (l.drop hi ++ sp) := by
  have hlen : ((l.drop lo).take (hi - lo)).length = hi - lo := by simp; omega
  obtain ⟨k1, ⟨k2, k3, k4⟩ | ⟨a, k2, k3, k4⟩ | ⟨b, off, c, k2, k3, k4, k5, k6⟩⟩ := h
  · cases k2
    obtain rfl : l = [] := List.eq_nil_of_length_eq_zero k3
    obtain rfl : sp = [] := eas_inj (by rw [k4]; rfl)
    simp at h2
    subst h2
    obtain rfl : lo = 0 := by omega
    simpa using SlA.nil w
  · cases k2
    obtain rfl : l = [] := List.eq_nil_of_length_eq_zero k3
    obtain rfl : sp = [] := eas_inj (by rw [k4]; rfl)
    simp at h2
    subst h2
    obtain rfl : lo = 0 := by omega
    exact ⟨rfl, .inr (.inl ⟨a, rfl, rfl, rfl⟩)⟩
  · cases k2
    have hc : cap = l.length + sp.length := by
      have e1 := eas_length l
      have e2 := eas_length sp
      rw [List.length_append] at k5
      omega
    have hl : l.drop lo = (l.drop lo).take (hi - lo) ++ l.drop hi := by
      conv => lhs; rw [← List.take_append_drop (hi - lo) (l.drop lo)]
      rw [List.drop_drop, show lo + (hi - lo) = hi by omega]
    have hsz : (eas ((l.drop lo).take (hi - lo)) ++ eas (l.drop hi ++ sp)).length = (cap - lo) * 2 := by
      rw [List.length_append, eas_length, eas_length, hlen, List.length_append, List.length_drop]
      omega
    by_cases hcl : cap = lo
    · rw [if_pos hcl]
      have e1 : hi = lo := by omega
      have e2 : lo = l.length := by omega
      refine ⟨by rw [eas_length], .inr (.inr ⟨b, off, cap - lo, by rw [hlen], by omega, by omega, hsz, fun i u hu => ?_⟩)⟩
      have : i < (eas ((l.drop lo).take (hi - lo)) ++ eas (l.drop hi ++ sp)).length := by
        rcases Nat.lt_or_ge i (eas ((l.drop lo).take (hi - lo)) ++ eas (l.drop hi ++ sp)).length with h | h
        · exact h
        · rw [List.getElem?_eq_none h] at hu; cases hu
      rw [hsz] at this
      omega
    · rw [if_neg hcl]
      refine ⟨by rw [eas_length], .inr (.inr ⟨b, off + lo * 2, cap - lo, by simp [add_plain]; omega, by omega, by omega, hsz, fun i u hu => ?_⟩)⟩
      have := k6 (lo * 2 + i) u (by
        rw [← eas_append] at hu ⊢
        rw [← List.append_assoc, ← hl, ← List.drop_append_of_le_length (by omega)] at hu
        have e : eas (l ++ sp) = eas ((l ++ sp).take lo) ++ eas ((l ++ sp).drop lo) := by rw [← eas_append, List.take_append_drop]
        have e2 : (eas ((l ++ sp).take lo)).length = lo * 2 := by rw [eas_length, List.length_take, List.length_append]; congr 1; omega
        rw [e, List.getElem?_append_right (by omega), e2]
        simpa using hu)
      rw [Nat.add_assoc]
      exact this
theorem slice_hA {P : Program} {tS T : TypeId} (B : AdTys P tS T) {w : World} {a : Option Addr} {n cap : Nat} {l sp : List Ad} (h : SlA w (.slice a n cap) l sp) (hi : Nat) (h2 : hi ≤ l.length) :
    ∃ a' c', (∀ (y : Int) (wx : World), y = hi → (Instr.slice tS (.slice a n cap) none (some (.int .i64 y)) none).run P wx = .ok (.slice a' hi c') wx) ∧ SlA w (.slice a' hi c') (l.take hi) (l.drop hi ++ sp) := by
  obtain ⟨a2, c2, e, hle, hm⟩ := h.form
  cases e
  have hc := h.cut 0 hi (Nat.zero_le _) h2
  simp only [List.drop_zero, Nat.sub_zero] at hc
  refine ⟨_, _, fun y wx hy => ?_, hc⟩
  subst hy
  obtain ⟨i, hi', hz, hs, hby⟩ := info_parts B.info
  have he : P.elem tS = T := by simp [Program.elem, B.sl]
  have hsz : (sizeOf (P.elem tS)).run P wx = .ok 2 wx := by rw [he]; simp [sizeOf, typeInfo, hi', hs]
  rw [run_slice_h (P := P) wx tS a l.length cap (by rw [he]; exact B.sl) .i64 hi (by omega) (by omega), hsz]
  simp [Result.andThen, sliced]
theorem exec_slice_hA {P : Program} {o : Oper} {a : Act} {w : World} {t : TypeId} {v u : Value} {y : Int} (s hi : Operand) (hop : o.op = Op.slice t s none (some hi) none) (hs : a.eval s = v) (h2 : a.eval hi = .int .i64 y)
    (ht : P.underlying t = some (.slice (P.elem t))) (h : (Instr.slice t v none (some (.int .i64 y)) none).run P w = .ok u w) : (execOp a.eval o).run P w = .ok (.value u) w := by
  simp [execOp, hop, hs, h2, run_sliceAt_slice w t _ _ _ _ ht, h, Result.andThen]
end Go.Proofs.YtljhanhipmnioaaGreat.Pt

namespace Go.Proofs.YtljhanhipmnioaaGreat.Pt
open Go.RowKit
set_option linter.unusedVariables false
set_option linter.unusedSimpArgs false
set_option maxRecDepth 100000

def adOk (l : List Ad) (j : Nat) : Prop := ∀ x, l[j]? = some x → (0 ≤ x.1 ∧ x.1 ≤ 7) ∧ (5 ≤ x.2 ∧ x.2 ≤ 4095) ∧ ∀ i, i < j → ∀ y, l[i]? = some y → x.1 ≠ y.1
def AdsOk (l : List Ad) : Prop := ∀ j, j < l.length → adOk l j
def MayRest (p : Pt) : Prop := (1 ≤ p.ads.length ∧ p.ads.length ≤ 3) ∧ AdsOk p.ads ∧ (1 ≤ p.b ∧ p.b ≤ 2147483648) ∧ (0 ≤ p.l ∧ p.l ≤ 3)
def may (p : Pt) : Prop := hole p = true ∨ MayRest p
def MayP (p : Pt) (w : World) (e : Ending) (w' : World) : Prop := Asks (may p) e ∧ Frm [] w w'
theorem mayp_no {p : Pt} {w w' : World} (h0 : hole p = false) (h : ¬ MayRest p) (f : Frm [] w w') : MayP p w (GaveUp 2 0) w' := ⟨Or.inr ⟨rfl, fun hm => by rcases hm with hm | hm; rw [h0] at hm; cases hm; exact h hm⟩, f⟩
def OutRel (l : List Ad) (g : Nat) (v : Value) (b lv : Int) (s : List UInt8) (w0 : World) (cv : Value) (wr : World) : Prop := ∃ k : Nat, k ≤ l.length ∧ cv = .int .i64 k ∧ (∀ j, j < k → adOk l j) ∧ PB wr g v b lv s ∧ Frm [] w0 wr
def InRel (l : List Ad) (x : Ad) (k : Nat) (w0 : World) (cv : Value) (wr : World) : Prop := ∃ i : Nat, i ≤ k ∧ cv = .int .i64 i ∧ (∀ j, j < i → ∀ y, l[j]? = some y → x.1 ≠ y.1) ∧ Frm [] w0 wr
set_option maxHeartbeats 4000000 in
theorem demandMay_any (x : Value) (p : Pt) (w : World) (hp : PtV w x p) (hl : p.ads.length ≤ 1000000) : Calls Tryz.prog 222 #[x] w (MayP p w) := by
  have hC := fun W (f : Frm [] w W) => Hole_any x p W (hp.keep0 f) hl
  obtain ⟨a, cap, sp, rfl, s1, z1⟩ := hp
  have B1 := PB.new w (.slice a p.ads.length cap) p.b p.l p.s
  have f : Frm [] w (w.alloc (.cells (pc (.slice a p.ads.length cap) p.b p.l p.s).toArray 54)) := (Frm.refl [] w).alloc _
  have hA0 : pv (.slice a p.ads.length cap) p.b p.l p.s = .agg (pc (.slice a p.ads.length cap) p.b p.l p.s).toArray := rfl
  have HA0 := Lib.hid hA0
  have HC := Lib.hid hC
  have HS := Lib.hid s1
  rw [hA0]
  clear hA0 hC s1
  generalize hA : (pc (.slice a p.ads.length cap) p.b p.l p.s).toArray = A at *
  generalize hn : p.ads.length = n at *
  have HN := Lib.hid hn
  have hn9 : (n : Int) ≤ 1000000 := by omega
  clear hn hl
  go_enter Tryz.func222, Tryz.ntmps222
  go_upto_region 1 with (fail)
  generalize w.alloc (.cells A 54) = W at *
  have B1h := Lib.hid B1
  have G0 := Lib.hid (B1.gets z1)
  clear hA B1
  cases hh : hole p with
  | true =>
    rw [hh] at HC
    go_wp2_with (first | ((with_reducible (show wpList _ _ _ (Oper.mk _ (Op.load 54 _) _ _ _ _ :: _) _ _)); refine wpList_load_g (by rfl) 54 _ rfl _ rfl G0.out.all ?_) | (go_at_call 184; refine (HC.out _ f).mono ?_; rintro r w2 ⟨rfl, f2⟩))
    go_end0
    exact ⟨.inl ⟨rfl, .inl hh⟩, f.trans f2 (by simp)⟩
  | false =>
    have HH := Lib.hid hh
    rw [hh] at HC
    clear hh
    go_upto_region 2 with (first | ((with_reducible (show wpList _ _ _ (Oper.mk _ (Op.load 54 _) _ _ _ _ :: _) _ _)); refine wpList_load_g (by rfl) 54 _ rfl _ rfl G0.out.all ?_) | (go_at_call 184; refine (HC.out _ f).mono ?_; rintro r w2 ⟨rfl, f2⟩))
    have F2 := Lib.hid (f.trans f2 (by simp))
    have B2 := Lib.hid (B1h.out.keep f2 (by simp))
    have G2 := B2.out.gets z1
    have c0 := G2.c0
    clear G2 f f2 G0 HC
    go_upto_region 3 with (go_at_call 232; refine (within_any _ _ _ _).mono ?_; rintro r w3 ⟨⟨rfl, hlen⟩ | ⟨rfl, hlen⟩, rfl⟩; rotate_left; exact ⟨rfl, mayp_no HH.out (fun h => hlen (by have := h.1; rw [HN.out] at this; omega)) F2.out⟩)
    have LN : p.ads.length = n := HN.out
    go_wp2_with fail
    go_loopw [15] (OutRel p.ads w.heap.size (.slice a n cap) p.b p.l p.s w) (fun cv _ => n - (intOf cv).toNat)
    case atStart => exact ⟨0, by omega, rfl, fun j hj => by omega, B2.out, F2.out⟩
    case round =>
      obtain ⟨k, hk, rfl, hok, pb, f⟩ := hrel
      have HOK := Lib.hid hok
      have PBk := Lib.hid pb
      have G := pb.gets z1
      have c0 := G.c0
      have c1 := G.c1
      have c2 := G.c2
      have Fk := Lib.hid f
      clear hok pb G f
      by_cases hlt : k < n
      · have hlt2 : k < p.ads.length := by omega
        obtain ⟨b0, off, rfl⟩ := HS.out.at (by omega)
        have hS2 := HS.out.keep Fk.out (by simp)
        rw [← LN] at hS2
        obtain ⟨e0, e1⟩ := hS2.cells k hlt2
        obtain ⟨sa, sc, hsl, hsS⟩ := slice_hA AT hS2 k (by omega)
        rw [LN] at hsl hS2
        have hsl1 := fun wx => hsl k wx rfl
        have HSL := Lib.hid hsl1
        have HSS := Lib.hid hsS
        have hx : p.ads[k]? = some p.ads[k] := List.getElem?_eq_getElem hlt2
        generalize p.ads[k] = y at *
        have HX := Lib.hid hx
        have H2 := Lib.hid hlt2
        have LNh := Lib.hid LN
        clear hsl hsl1 hsS hx hlt2 hS2 LN
        go_upto_region 6 with (fail)
        have fV : Frm [] w (wr.alloc (.cells #[.int .i64 y.1, .int .i64 y.2] 148)) := Fk.out.alloc _
        have hV := heap_alloc_new wr (.cells #[.int .i64 y.1, .int .i64 y.2] 148)
        have pV := PBk.out.alloc (.cells #[.int .i64 y.1, .int .i64 y.2] 148)
        have gV : Frm [] wr (wr.alloc (.cells #[.int .i64 y.1, .int .i64 y.2] 148)) := (Frm.refl [] wr).alloc _
        have hgt : wr.heap.size < (wr.alloc (.cells #[.int .i64 y.1, .int .i64 y.2] 148)).heap.size := by simp
        generalize wr.alloc (.cells #[.int .i64 y.1, .int .i64 y.2] 148) = V at *
        have q0 : V.cell? ⟨wr.heap.size, 0, none⟩ = some (.int .i64 y.1) := by rw [cell_of_heap hV]; rfl
        have q1 : V.cell? ⟨wr.heap.size, 1, none⟩ = some (.int .i64 y.2) := by rw [cell_of_heap hV]; rfl
        have d0 : V.cell? ⟨w.heap.size, 0, none⟩ = some (.slice (some ⟨b0, off, none⟩) n cap) := (pV.gets z1).c0
        have HV := Lib.hid hV
        have PV := Lib.hid pV
        have FV := Lib.hid fV
        clear hV pV fV c0 c1 c2 e0 e1
        go_upto_region 7 with (go_at_call 232; refine (within_any _ _ _ _).mono ?_; rintro r w4 ⟨⟨rfl, hb⟩ | ⟨rfl, hb⟩, rfl⟩; rotate_left; exact ⟨rfl, mayp_no HH.out (fun h => hb ((h.2.1 k H2.out y HX.out).1)) FV.out⟩)
        have HB1 := Lib.hid hb
        clear hb
        go_upto_region 8 with (go_at_call 232; refine (within_any _ _ _ _).mono ?_; rintro r w5 ⟨⟨rfl, hb⟩ | ⟨rfl, hb⟩, rfl⟩; rotate_left; exact ⟨rfl, mayp_no HH.out (fun h => hb ((h.2.1 k H2.out y HX.out).2.1)) FV.out⟩)
        have HB2 := Lib.hid hb
        clear hb
        have hlen : (p.ads.take k).length = k := by have := H2.out; simp; omega
        have HLEN := Lib.hid hlen
        have hsS := HSS.out
        clear hlen
        go_upto_region 9 with ((with_reducible (show wpList _ _ _ (Oper.mk _ (Op.slice 50 _ _ _ _) _ _ _ _ :: _) _ _)); refine wpList_val rfl (exec_slice_hA (.tmp 27) (.tmp 28) rfl rfl rfl AT.sl (HSL.out _)) ?_)
        have hsV := hsS.keep gV (by simp)
        have HSV := Lib.hid hsV
        clear gV d0 q0 q1 hsS hsV hgt
        generalize hg3 : wr.heap.size = g3 at *
        clear hg3
        go_loopw [31] (InRel p.ads y k w5) (fun cv _ => k - (intOf cv).toNat)
        case atStart => exact ⟨0, by omega, rfl, fun j hj => by omega, Frm.refl _ _⟩
        case round =>
          obtain ⟨i, hi, rfl, hdi, fi⟩ := hrel
          have HDI := Lib.hid hdi
          have FI := Lib.hid fi
          clear hdi fi
          by_cases hik : i < k
          · have hi2 : i < (p.ads.take k).length := by rw [HLEN.out]; exact hik
            have hz : p.ads[i]? = some (p.ads.take k)[i] := by
              rw [List.getElem_take, List.getElem?_eq_getElem]
            have hsS2 := HSV.out.keep FI.out (by simp)
            obtain ⟨b1, off1, rfl⟩ : ∃ b1 off1, sa = some ⟨b1, off1, none⟩ := HSV.out.at (by omega)
            obtain ⟨e0, e1⟩ := hsS2.cells i hi2
            generalize (p.ads.take k)[i] = z at *
            have HZ := Lib.hid hz
            have q0 : wr.cell? ⟨g3, 0, none⟩ = some (.int .i64 y.1) := by rw [cell_of_heap (FI.out.heap HV.out (by simp))]; rfl
            clear hz hsS2 hi2
            have q1 : wr.heap[g3]? = some (.cells #[.int .i64 y.1, .int .i64 y.2] 148 (0, 0)) := FI.out.heap HV.out (by simp)
            have ltg : g3 < wr.heap.size := lt_heap q1
            clear q1
            go_upto_region 11 with (fail)
            have r0 : (wr.alloc (.cells #[.int .i64 z.1, .int .i64 z.2] 148)).cell? ⟨wr.heap.size, 0, none⟩ = some (.int .i64 z.1) := by simp [go_sem]
            have q2 : (wr.alloc (.cells #[.int .i64 z.1, .int .i64 z.2] 148)).cell? ⟨g3, 0, none⟩ = some (.int .i64 y.1) := ((Frm.refl [] wr).alloc _).cell q0 (by simp)
            have fI := FI.out.alloc (.cells #[.int .i64 z.1, .int .i64 z.2] 148)
            generalize hg5 : wr.heap.size = g5 at *
            generalize wr.alloc (.cells #[.int .i64 z.1, .int .i64 z.2] 148) = U at *
            have FU := Lib.hid fI
            clear fI q0 e0 e1
            go_upto_region 12 with (go_at_call 233; refine (demand_any _ _).mono ?_; rintro r w6 ⟨⟨rfl, hb⟩ | ⟨rfl, hb⟩, rfl⟩; rotate_left; exact ⟨rfl, mayp_no HH.out (fun h => hb (by have := (h.2.1 k H2.out y HX.out).2.2 i hik z HZ.out; simpa using this)) (FV.out.trans FU.out (by simp))⟩)
            have HB := Lib.hid hb
            clear hb q2 r0
            go_wp2_with fail
            go_roundw
            case rel =>
              refine ⟨i + 1, by omega, by go_num, fun j hj y' hy' => ?_, FU.out⟩
              rcases Nat.lt_or_ge j i with h | h
              · exact HDI.out j h y' hy'
              · obtain rfl : j = i := by omega
                rw [HZ.out] at hy'
                cases hy'
                have := HB.out
                simpa using this
            case measure => simp [intOf]; omega
          · obtain rfl : i = k := by omega
            go_wp2_with fail
            go_roundw
            case rel =>
              refine ⟨i + 1, H2.out, by go_num, fun j hj => ?_, PV.out.keep FI.out (by simp), FV.out.trans FI.out (by simp)⟩
              rcases Nat.lt_or_ge j i with h | h
              · exact HOK.out j h
              · obtain rfl : j = i := by omega
                intro x hx
                rw [HX.out] at hx
                cases hx
                exact ⟨HB1.out, HB2.out, HDI.out⟩
            case measure => simp [intOf]; omega
      · obtain rfl : k = n := by omega
        go_wp2_with (go_at_call 232; refine (within_any _ _ _ _).mono ?_; rintro r w4 ⟨⟨rfl, hb⟩ | ⟨rfl, hb⟩, rfl⟩; rotate_left; first | exact ⟨rfl, mayp_no HH.out (fun h => hb h.2.2.1) Fk.out⟩ | exact ⟨rfl, mayp_no HH.out (fun h => hb h.2.2.2) Fk.out⟩)
        go_end0
        rename_i hbb
        exact ⟨Or.inl ⟨rfl, Or.inr ⟨by rw [HN.out]; omega, fun j hj => HOK.out j (by rw [HN.out] at hj; exact hj), hbb, hb⟩⟩, Fk.out⟩
end Go.Proofs.YtljhanhipmnioaaGreat.Pt

namespace Go.Proofs.YtljhanhipmnioaaGreat.Pt
open Go.RowKit
set_option linter.unusedVariables false
set_option linter.unusedSimpArgs false
set_option maxRecDepth 100000

theorem frame72 (p : Addr) : (#[Value.pointer (some p)] ++ Array.replicate (Tryz.f231.ntmps - #[Value.pointer (some p)].size) undef) = #[.pointer (some p), undef, undef, undef, undef, undef, undef, undef, undef, undef, undef, undef, undef, undef, undef, undef] := by
  rw [Tryz.ntmps231]; rfl
theorem assert85 (W : World) (v : Value) : (Instr.typeAssert (.iface 204 v) 20 204 true).run Tryz.prog W = .ok (.tuple #[v, .bool true]) W := by kernel_rfl
theorem assertNil (W : World) : (Instr.typeAssert .nilIface 20 204 true).run Tryz.prog W = .ok (.tuple #[.agg #[.int .i64 0, .int .i64 0], .bool false]) W := by kernel_rfl
theorem catch_idle (p : Addr) (w : World) :
    CallsD Tryz.prog 231 #[.pointer (some p)] .returning w fun e u' w' => e = .returned (.tuple #[]) ∧ u' = .returning ∧ Frm [] w w' := by
  have h1 := assertNil
  refine callsD_of_wpS Tryz.func231 rfl fun c₀ cs hu => ?_
  rw [frame72]
  apply wpS_seq
  apply wpS_region
  simp [wpOpsS, go_sem, recoverD, hu, Tryz.ntmps231, Exit.thenS]
  refine wpS_of_wp ?_
  go_wp2
  cases c₀
  simp_all [bodyPostS, results, Tryz.results231]
  exact (Frm.refl [] w).alloc _
set_option maxHeartbeats 1000000 in
theorem catch_gave (br : Nat) (err at' : Int) (o1 o2 : Value) (older : List PanicEntry) (w : World) (hr : w.heap[br]? = some (.cells #[o1, o2] 44 (0, 0))) :
    CallsD Tryz.prog 231 #[.pointer (some ⟨br, 0, none⟩)] (.panicking ({ v := .iface 204 (.agg #[.int .i64 err, .int .i64 at']), recovered := false } :: older)) w fun e u' w' =>
      e = .returned (.tuple #[]) ∧ u' = .panicking ({ v := .iface 204 (.agg #[.int .i64 err, .int .i64 at']), recovered := true } :: older) ∧
      Frm [br] w w' ∧ w'.heap[br]? = some (.cells #[.int .i64 err, .int .i64 at'] 44 (0, 0)) := by
  have c3 : w.cell? ⟨br, 0, none⟩ = some o1 := by rw [cell_of_heap hr]; rfl
  have c4 : w.cell? ⟨br, 1, none⟩ = some o2 := by rw [cell_of_heap hr]; rfl
  have z3 : w.frozen? ⟨br, 0, none⟩ = false := frozen_of_heap hr 0
  have z4 : w.frozen? ⟨br, 1, none⟩ = false := frozen_of_heap hr 1
  have hlt := lt_heap hr
  have has := assert85
  have HR := Lib.hid hr
  clear hr
  refine callsD_of_wpS Tryz.func231 rfl fun c₀ cs hu => ?_
  rw [frame72]
  apply wpS_seq
  apply wpS_region
  simp [wpOpsS, go_sem, recoverD, hu, Tryz.ntmps231, Exit.thenS]
  refine wpS_of_wp ?_
  go_wp2
  simp [bodyPostS, results, Tryz.results231]
  refine ⟨(((Frm.refl [br] w).setCell _ _ (by simp)).setCell _ _ (by simp)).alloc _, ?_⟩
  refine heap_alloc_lt ?_
  rw [heap_setCell_same _ (heap_setCell_same _ HR.out)]
  rfl
/-- What a step that goes through comes to. -/
def Through (R : World → Prop) (w : World) (e : Ending) (w' : World) : Prop := e = .returned (.agg #[.int .i64 0, .int .i64 0]) ∧ ∃ w1, R w1 ∧ Frm [w.heap.size] w1 w'
set_option maxHeartbeats 1000000 in
theorem faultOf_ret (K : FuncId) (cap : Array Value) (R : World → Prop) (w : World)
    (hcf : ∀ w, (callFunc K cap).run Tryz.prog w = .ok (.enter K cap) w) (hstep : ∀ w1, Frm [] w w1 → Calls Tryz.prog K cap w1 fun e w' => e = .returned (.tuple #[]) ∧ Frm [] w1 w' ∧ R w') :
    Calls Tryz.prog 220 #[.func (.func K) #[] cap] w (Through R w) := by
  have HS := Lib.hid hstep
  clear hstep
  have hmf : ∀ (fn : Fn) (first cap : Array Value) (w : World), (Instr.makeFunc fn first cap).run Tryz.prog w = .ok (.func fn first cap) w := fun _ _ _ _ => rfl
  go_enter_defers Tryz.func220, Tryz.ntmps220
  go_wp2_with fail
  have hn := heap_alloc_new w (.cells #[.int .i64 0, .int .i64 0] 44)
  refine (HS.out _ ((Frm.refl [] _).alloc _)).mono ?_
  rintro e w1 ⟨rfl, f1, hr⟩
  have hb := f1.heap hn (by simp)
  have c0 : w1.cell? ⟨w.heap.size, 0, none⟩ = some (.int .i64 0) := by rw [cell_of_heap hb]; rfl
  have c1 : w1.cell? ⟨w.heap.size, 1, none⟩ = some (.int .i64 0) := by rw [cell_of_heap hb]; rfl
  have z0 := frozen_of_heap hb 0
  have z1 := frozen_of_heap hb 1
  have hb2 : ((w1.setCell ⟨w.heap.size, 0, none⟩ (.int .i64 0)).setCell ⟨w.heap.size, 1, none⟩ (.int .i64 0)).heap[w.heap.size]? = some (.cells #[.int .i64 0, .int .i64 0] 44 (0, 0)) := by rw [heap_setCell_same _ (heap_setCell_same _ hb)]; rfl
  have f2 : Frm [w.heap.size] w1 ((w1.setCell ⟨w.heap.size, 0, none⟩ (.int .i64 0)).setCell ⟨w.heap.size, 1, none⟩ (.int .i64 0)) := ((Frm.refl _ w1).setCell _ _ (by simp)).setCell _ _ (by simp)
  have HB2 := Lib.hid hb2
  have F2 := Lib.hid f2
  have HRR := Lib.hid hr
  clear hn hb hb2 f2 f1 hr HS
  go_wp2
  generalize (w1.setCell ⟨w.heap.size, 0, none⟩ (.int .i64 0)).setCell ⟨w.heap.size, 1, none⟩ (.int .i64 0) = W2 at *
  refine leaves_cons (f := 231) (args := #[.pointer (some ⟨w.heap.size, 0, none⟩)]) (by simp) (by simp [go_sem]) ?_
  refine (catch_idle ⟨w.heap.size, 0, none⟩ _).mono ?_
  rintro e u' w3 ⟨rfl, rfl, f3⟩
  have hb3 := f3.heap HB2.out (by simp)
  have k0 : w3.cell? ⟨w.heap.size, 0, none⟩ = some (.int .i64 0) := by rw [cell_of_heap hb3]; rfl
  have k1 : w3.cell? ⟨w.heap.size, 1, none⟩ = some (.int .i64 0) := by rw [cell_of_heap hb3]; rfl
  simp [Leaves, settle, results, Tryz.results220, go_sem, k0, k1]
  exact ⟨rfl, w1, HRR.out, F2.out.trans f3 (by simp)⟩
def GaveFault (err at' : Int) (w : World) (e : Ending) (w' : World) : Prop := e = .returned (.agg #[.int .i64 err, .int .i64 at']) ∧ Frm [] w w'
set_option maxHeartbeats 1000000 in
theorem faultOf_gave (K : FuncId) (cap : Array Value) (err at' : Int) (w : World)
    (hcf : ∀ w, (callFunc K cap).run Tryz.prog w = .ok (.enter K cap) w) (hstep : ∀ w1, Frm [] w w1 → Calls Tryz.prog K cap w1 fun e w' => e = GaveUp err at' ∧ Frm [] w1 w') :
    Calls Tryz.prog 220 #[.func (.func K) #[] cap] w (GaveFault err at' w) := by
  have HS := Lib.hid hstep
  clear hstep
  have hmf : ∀ (fn : Fn) (first cap : Array Value) (w : World), (Instr.makeFunc fn first cap).run Tryz.prog w = .ok (.func fn first cap) w := fun _ _ _ _ => rfl
  go_enter_defers Tryz.func220, Tryz.ntmps220
  go_wp2_with fail
  have hn := heap_alloc_new w (.cells #[.int .i64 0, .int .i64 0] 44)
  refine (HS.out _ ((Frm.refl [] _).alloc _)).mono ?_
  rintro e w1 ⟨rfl, f1⟩
  have hb := f1.heap hn (by simp)
  have f0 : Frm [] w w1 := ((Frm.refl [] w).alloc _).trans f1 (by simp)
  unfold GaveUp
  go_wp2
  refine leaves_cons (f := 231) (args := #[.pointer (some ⟨w.heap.size, 0, none⟩)]) (by simp) (by simp [go_sem]) ?_
  refine (catch_gave w.heap.size err at' _ _ [] _ hb).mono ?_
  rintro e u' w3 ⟨rfl, rfl, f3, hb3⟩
  have k0 : w3.cell? ⟨w.heap.size, 0, none⟩ = some (.int .i64 err) := by rw [cell_of_heap hb3]; rfl
  have k1 : w3.cell? ⟨w.heap.size, 1, none⟩ = some (.int .i64 at') := by rw [cell_of_heap hb3]; rfl
  simp [Leaves, settle, results, Tryz.results220, go_sem, k0, k1]
  exact ⟨rfl, f0.trans f3 (by simp)⟩
end Go.Proofs.YtljhanhipmnioaaGreat.Pt

namespace Go.Proofs.YtljhanhipmnioaaGreat.Pt
open Go.RowKit
set_option linter.unusedVariables false
set_option linter.unusedSimpArgs false
set_option maxRecDepth 100000

end Go.Proofs.YtljhanhipmnioaaGreat.Pt

namespace Go.Proofs.YtljhanhipmnioaaGreat.Pt
open Go.RowKit
set_option linter.unusedVariables false
set_option linter.unusedSimpArgs false
set_option maxRecDepth 100000

def adOkB (l : List Ad) (j : Nat) : Bool := match l[j]? with
  | none => true
  | some x => decide ((0 ≤ x.1 ∧ x.1 ≤ 7) ∧ (5 ≤ x.2 ∧ x.2 ≤ 4095)) && (List.range j).all (fun i => match l[i]? with | none => true | some y => x.1 != y.1)
def mayRestB (p : Pt) : Bool := decide (1 ≤ p.ads.length ∧ p.ads.length ≤ 3) && (List.range p.ads.length).all (adOkB p.ads) && decide (1 ≤ p.b ∧ p.b ≤ 2147483648) && decide (0 ≤ p.l ∧ p.l ≤ 3)
def mayB (p : Pt) : Bool := hole p || mayRestB p
theorem adOkB_iff (l : List Ad) (j : Nat) : adOkB l j = true ↔ adOk l j := by
  unfold adOkB adOk
  cases h : l[j]? with
  | none => simp
  | some x =>
    simp only [Bool.and_eq_true, decide_eq_true_eq, List.all_eq_true, List.mem_range, Option.some.injEq]
    constructor
    · rintro ⟨h1, h2⟩ y rfl
      refine ⟨h1.1, h1.2, fun i hi z hz => ?_⟩
      have := h2 i hi
      rw [hz] at this
      simpa using this
    · intro h2
      obtain ⟨k1, k2, k3⟩ := h2 x rfl
      refine ⟨⟨k1, k2⟩, fun i hi => ?_⟩
      cases hz : l[i]? with
      | none => rfl
      | some y => simpa using k3 i hi y hz
theorem adsOk_iff (l : List Ad) : (List.range l.length).all (adOkB l) = true ↔ AdsOk l := by
  simp only [List.all_eq_true, List.mem_range, adOkB_iff]
  exact ⟨fun h j hj => h j hj, fun h j hj => h j hj⟩
theorem mayRestB_iff (p : Pt) : mayRestB p = true ↔ MayRest p := by
  simp only [mayRestB, MayRest, Bool.and_eq_true, decide_eq_true_eq, adsOk_iff, and_assoc]
theorem mayB_iff (p : Pt) : mayB p = true ↔ may p := by simp only [mayB, may, Bool.or_eq_true, mayRestB_iff]
theorem mayB_not (p : Pt) : mayB p = false ↔ ¬ may p := by rw [← mayB_iff]; simp
/-- What Check tells. -/
def chk (p : Pt) : Int := if mayB p = true then 0 else 2
theorem enter_of {P : Program} {f : FuncId} {fn : Func} (hf : P.funcs[f]? = some fn) (hname : (fn.name == "runtime.NumGoroutine") = false) (hb : fn.body.isSome = true) (args : Array Value) (w : World) :
    (callFunc f args).run P w = .ok (.enter f args) w := by
  have h1 : fn.name ≠ "runtime.NumGoroutine" := by simpa using hname
  obtain ⟨c, hc⟩ := Option.isSome_iff_exists.1 hb
  simp [callFunc, hf, h1, hc]
set_option maxHeartbeats 1000000 in
theorem check1_any (g : Nat) (a : Option Addr) (cap : Nat) (p : Pt) (sp : List Ad) (w : World) (hb : PB w g (.slice a p.ads.length cap) p.b p.l p.s) (hS : SlA w (.slice a p.ads.length cap) p.ads sp) (hs : p.s.length = 32) (hl : p.ads.length ≤ 1000000) :
    Calls Tryz.prog 221 #[.pointer (some ⟨g, 0, none⟩)] w (MayP p w) := by
  have hD := fun W (f : Frm [] w W) => demandMay_any (pv (.slice a p.ads.length cap) p.b p.l p.s) p W ⟨a, cap, sp, rfl, hS.keep f (by simp), hs⟩ hl
  have G := Lib.hid (hb.gets hs)
  have HD := Lib.hid hD
  clear hD hS hb
  generalize p.ads.length = n at *
  go_enter Tryz.func221, Tryz.ntmps221
  go_wp2_with (first | ((with_reducible (show wpList _ _ _ (Oper.mk _ (Op.load 54 _) _ _ _ _ :: _) _ _)); refine wpList_load_g (by rfl) 54 _ rfl _ rfl G.out.all ?_) | (go_at_call 222; refine (HD.out _ (Frm.refl [] w)).mono ?_; rintro r w2 ⟨⟨rfl, hb⟩ | ⟨rfl, hb⟩, f2⟩; rotate_left; exact ⟨rfl, Or.inr ⟨rfl, hb⟩, f2⟩))
  go_end0
  exact ⟨Or.inl ⟨rfl, hb⟩, f2⟩
theorem field40 (a b : Value) (W : World) : (Instr.field 44 (.agg #[a, b]) 0).run Tryz.prog W = .ok a W := by kernel_rfl
set_option maxHeartbeats 1000000 in
theorem Check_any (x : Value) (p : Pt) (w : World) (hp : PtV w x p) (hl : p.ads.length ≤ 1000000) :
    Calls Tryz.prog 185 #[x] w fun e w' => e = .returned (.int .i64 (chk p)) ∧ Frm [] w w' := by
  obtain ⟨a, cap, sp, rfl, hS, hs⟩ := hp
  have B1 := PB.new w (.slice a p.ads.length cap) p.b p.l p.s
  have f : Frm [] w (w.alloc (.cells (pc (.slice a p.ads.length cap) p.b p.l p.s).toArray 54)) := (Frm.refl [] w).alloc _
  have hS1 := hS.keep f (by simp)
  unfold pv
  have hD := fun W (f1 : Frm [] (w.alloc (.cells (pc (.slice a p.ads.length cap) p.b p.l p.s).toArray 54)) W) => check1_any w.heap.size a cap p sp W (B1.keep f1 (by simp)) (hS1.keep f1 (by simp)) hs hl
  generalize hA : (pc (.slice a p.ads.length cap) p.b p.l p.s).toArray = A at *
  generalize p.ads.length = n at *
  have hmf : ∀ (fn : Fn) (first cap : Array Value) (w : World), (Instr.makeFunc fn first cap).run Tryz.prog w = .ok (.func fn first cap) w := fun _ _ _ _ => rfl
  have HD := Lib.hid hD
  clear hD hA hS hS1 B1
  go_enter Tryz.func185, Tryz.ntmps185
  go_upto_region 1 with (fail)
  have hwz : w.heap.size < (w.alloc (.cells A 54)).heap.size := by simp
  generalize w.alloc (.cells A 54) = W at *
  cases hm : mayB p with
  | true =>
    have hmay := (mayB_iff p).1 hm
    have hc : chk p = 0 := by simp [chk, hm]
    have HCc := Lib.hid hc
    clear hc
    have hF := faultOf_ret 221 #[.pointer (some ⟨w.heap.size, 0, none⟩)] (fun z => Frm [] W z) W (fun w => enter_of Tryz.func221 (by kernel_rfl) (by kernel_rfl) _ w) (fun w1 f1 => (HD.out w1 f1).mono (by
      rintro e w' ⟨⟨rfl, _⟩ | ⟨rfl, hn⟩, f2⟩
      · exact ⟨rfl, f2, f1.trans f2 (by simp)⟩
      · exact absurd hmay hn))
    have HF := Lib.hid hF
    clear hF
    have hf40 := field40
    go_wp2_with (go_at_call 220; refine HF.out.mono ?_; rintro r w2 ⟨rfl, w1, f1, f2⟩)
    go_ret
    exact ⟨by rw [HCc.out]; rfl, f.trans (f1.trans f2 (by simp)) (by simp)⟩
  | false =>
    have hmay := (mayB_not p).1 hm
    have hc : chk p = 2 := by simp [chk, hm]
    have HCc := Lib.hid hc
    clear hc
    have hF := faultOf_gave 221 #[.pointer (some ⟨w.heap.size, 0, none⟩)] 2 0 W (fun w => enter_of Tryz.func221 (by kernel_rfl) (by kernel_rfl) _ w) (fun w1 f1 => (HD.out w1 f1).mono (by
      rintro e w' ⟨⟨rfl, hy⟩ | ⟨rfl, hn⟩, f2⟩
      · exact absurd hy hmay
      · exact ⟨rfl, f2⟩))
    have HF := Lib.hid hF
    clear hF
    have hf40 := field40
    go_wp2_with (go_at_call 220; refine HF.out.mono ?_; rintro r w2 ⟨rfl, f1⟩)
    go_ret
    exact ⟨by rw [HCc.out]; rfl, f.trans f1 (by simp)⟩
end Go.Proofs.YtljhanhipmnioaaGreat.Pt

namespace Go.Proofs.YtljhanhipmnioaaGreat.Pt
open Go.RowKit
set_option linter.unusedVariables false
set_option linter.unusedSimpArgs false
set_option maxRecDepth 100000

end Go.Proofs.YtljhanhipmnioaaGreat.Pt

namespace Go.Proofs.YtljhanhipmnioaaGreat.Pt
open Go.RowKit
set_option linter.unusedVariables false
set_option linter.unusedSimpArgs false
set_option maxRecDepth 100000

end Go.Proofs.YtljhanhipmnioaaGreat.Pt

namespace Go.Proofs.YtljhanhipmnioaaGreat.Pt
open Go.RowKit
set_option linter.unusedVariables false
set_option linter.unusedSimpArgs false
set_option maxRecDepth 100000

end Go.Proofs.YtljhanhipmnioaaGreat.Pt

namespace Go.Proofs.YtljhanhipmnioaaGreat.Pt
open Go.RowKit
set_option linter.unusedVariables false
set_option maxRecDepth 100000
set_option linter.unusedSimpArgs false

end Go.Proofs.YtljhanhipmnioaaGreat.Pt

namespace Go.Proofs.YtljhanhipmnioaaGreat.Pt
open Go.RowKit
set_option linter.unusedVariables false
set_option linter.unusedSimpArgs false
set_option maxRecDepth 100000

end Go.Proofs.YtljhanhipmnioaaGreat.Pt

namespace Go.Proofs.YtljhanhipmnioaaGreat.Pt
open Go.RowKit
set_option linter.unusedVariables false
set_option linter.unusedSimpArgs false
set_option maxRecDepth 100000

/-- The bytes of a pointer. -/
def enc (p : Pt) : List UInt8 := ptB (p.ads.map fun x => (x.1.toNat, x.2.toNat)) p.b.toNat p.l.toNat p.s
theorem hole_iff {p : Pt} : hole p = true ↔ p = zeroPt := same_iff
end Go.Proofs.YtljhanhipmnioaaGreat.Pt

namespace Go.Proofs.YtljhanhipmnioaaGreat.Pt
open Go.RowKit
set_option linter.unusedVariables false
set_option linter.unusedSimpArgs false
set_option maxRecDepth 100000

theorem alloc26 (W : World) : (Instr.alloc 54 true (.tuple #[])).run Tryz.prog W = .ok (.pointer (some ⟨W.heap.size, 0, none⟩)) (W.alloc (.cells (pc (.slice none 0 0) 0 0 (List.replicate 32 0)).toArray 54)) := by kernel_rfl
theorem exec_alloc26 {o : Oper} {a : Act} (hop : o.op = Op.alloc 54) (W : World) : (execOp a.eval o).run Tryz.prog W = .ok (.value (.pointer (some ⟨W.heap.size, 0, none⟩))) (W.alloc (.cells (pc (.slice none 0 0) 0 0 (List.replicate 32 0)).toArray 54)) := by
  have h := alloc26 W
  generalize W.alloc (.cells (pc (.slice none 0 0) 0 0 (List.replicate 32 0)).toArray 54) = W2 at *
  simp only [execOp, hop, Sem.run_bind, Sem.run_pure, h, Result.andThen_ok]
theorem pc_size (v : Value) (b l : Int) (s : List UInt8) : (pc v b l s).toArray.size = 3 + s.length := by simp [pc, bvs_length]; omega
theorem pc_one {a : Option Addr} {n cap : Nat} (b l : Int) (s : List UInt8) : (pc (.slice a n cap) b l s).toArray.all (·.oneCell') = true := all_oneCell_toArray (fun u hu => by
  simp only [pc, List.mem_cons] at hu
  rcases hu with rfl | rfl | rfl | hu
  · rfl
  · rfl
  · rfl
  · exact bvs_one s u hu)
theorem pb_store {w : World} {g : Nat} {v v' : Value} {b l : Int} {s : List UInt8} (h : PB w g v b l s) : PB (w.setCell ⟨g, 0, none⟩ v') g v' b l s := by
  unfold PB at *
  rw [heap_setCell_same _ h]
  rfl
end Go.Proofs.YtljhanhipmnioaaGreat.Pt

namespace Go.Proofs.YtljhanhipmnioaaGreat.Pt
open Go.RowKit
set_option linter.unusedVariables false
set_option linter.unusedSimpArgs false
set_option maxRecDepth 100000

end Go.Proofs.YtljhanhipmnioaaGreat.Pt

namespace Go.Proofs.YtljhanhipmnioaaGreat.Pt
open Go.RowKit
set_option linter.unusedVariables false
set_option linter.unusedSimpArgs false
set_option maxRecDepth 100000

def zs : List UInt8 := List.replicate 32 0
theorem zs_len : zs.length = 32 := rfl
theorem exec_alloc26z {o : Oper} {a : Act} (hop : o.op = Op.alloc 54) (W : World) : (execOp a.eval o).run Tryz.prog W = .ok (.value (.pointer (some ⟨W.heap.size, 0, none⟩))) (W.alloc (.cells (pc (.slice none 0 0) 0 0 zs).toArray 54)) := exec_alloc26 hop W
theorem d40 : (Tryz.prog.info? 44).map (·.size) = some 2 := by kernel_rfl
end Go.Proofs.YtljhanhipmnioaaGreat.Pt

namespace Go.Proofs.YtljhanhipmnioaaGreat.Pt
set_option linter.unusedVariables false
set_option linter.unusedSimpArgs false
set_option maxRecDepth 100000

end Go.Proofs.YtljhanhipmnioaaGreat.Pt

namespace Go.Proofs.YtljhanhipmnioaaGreat.Pt
open Go.RowKit
set_option linter.unusedVariables false
set_option linter.unusedSimpArgs false
set_option maxRecDepth 100000

/-- A box that holds a pointer. -/
def Boxed (w : World) (g : Nat) (x : Value) (p : Pt) : Prop := ∃ a cap, x = pv (.slice a p.ads.length cap) p.b p.l p.s ∧ PB w g (.slice a p.ads.length cap) p.b p.l p.s ∧ p.s.length = 32
theorem Boxed.load {w : World} {g : Nat} {x : Value} {p : Pt} (h : Boxed w g x p) : (Instr.loadAt 54 (.pointer (some ⟨g, 0, none⟩))).run Tryz.prog w = .ok x w := by
  obtain ⟨a, cap, rfl, h1, h2⟩ := h
  exact (h1.gets h2).all
theorem Boxed.c0 {w : World} {g : Nat} {x : Value} {p : Pt} (h : Boxed w g x p) : ∃ a cap, w.cell? ⟨g, 0, none⟩ = some (.slice a p.ads.length cap) := by
  obtain ⟨a, cap, rfl, h1, h2⟩ := h
  exact ⟨a, cap, (h1.gets h2).c0⟩
theorem Boxed.keep {w w' : World} {L : List Nat} {g : Nat} {x : Value} {p : Pt} (h : Boxed w g x p) (f : Frm L w w') (hn : g ∉ L) : Boxed w' g x p := by
  obtain ⟨a, cap, e, h1, h2⟩ := h
  exact ⟨a, cap, e, h1.keep f hn, h2⟩
theorem Boxed.keep0 {w w' : World} {g : Nat} {x : Value} {p : Pt} (h : Boxed w g x p) (f : Frm [] w w') : Boxed w' g x p := h.keep f (by simp)
theorem Boxed.lt {w : World} {g : Nat} {x : Value} {p : Pt} (h : Boxed w g x p) : g < w.heap.size := by
  obtain ⟨a, cap, e, h1, h2⟩ := h
  exact h1.lt
theorem PtV.box {w : World} {x : Value} {p : Pt} (h : PtV w x p) : ∃ A : Array Value, x = .agg A ∧ A.size = 35 ∧ ∀ W : World, Boxed (W.alloc (.cells A 54)) W.heap.size (.agg A) p := by
  obtain ⟨a, cap, sp, rfl, h2, h3⟩ := h
  exact ⟨_, rfl, by rw [pc_size, h3], fun W => ⟨a, cap, rfl, PB.new _ _ _ _ _, h3⟩⟩
theorem PtV.len {w : World} {x : Value} {p : Pt} (h : PtV w x p) : p.s.length = 32 := by
  obtain ⟨a, cap, sp, rfl, h2, h3⟩ := h
  exact h3
end Go.Proofs.YtljhanhipmnioaaGreat.Pt

namespace Go.Proofs.YtljhanhipmnioaaGreat.Pt
open Go.RowKit
set_option linter.unusedVariables false
set_option linter.unusedSimpArgs false
set_option maxRecDepth 100000

end Go.Proofs.YtljhanhipmnioaaGreat.Pt

namespace Go.Proofs.YtljhanhipmnioaaGreat.Pt
open Go.RowKit
set_option linter.unusedVariables false
set_option linter.unusedSimpArgs false
set_option maxRecDepth 100000

end Go.Proofs.YtljhanhipmnioaaGreat.Pt
