/-
  Rows of uberblocks: elements of 69 cells, slices of one and of two, one more. No conditions but those that each theorem names.
-/
import Derived.Test.YtjdejhgfkjeeiaaGreatDoorUD
import Derived.Test.YtjdejhgfkjeeiaaGreatDoorKR
import Derived.Test.YtjdejhgfkjeeiaaGreatDoorQC
import Derived.Great.Walk
namespace Go.Proofs.YtjdejhgfkjeeiaaGreatDoor
open Go.RowKit
set_option linter.unusedVariables false
set_option linter.unusedSimpArgs false
set_option maxRecDepth 100000

open Pt (Pt may enc readPt readE zeroPt pc pv PtV SlA OwnA)
open Kr (OwnE SlE Enco RowTys)
/-- The cells of an uberblock. -/
abbrev RowT := { c : List Value // c.length = 69 ∧ ∀ u ∈ c, u.oneCell' = true }
def eR (x : RowT) : List Value := x.1
theorem encR : Enco eR 69 where
  len x := x.2.1
  one x u hu := x.2.2 u hu
  pos := by omega
  inj x y h := Subtype.ext h
def rowU (v : Value) (hv : v.oneCell' = true) (u : Ub) (h : WfU u) : RowT := ⟨uc v u, uc_length h, fun x hx => by
  have := uc_one v hv u
  rw [List.all_toArray, List.all_eq_true] at this
  exact this x hx⟩
theorem tysU : RowTys Tryz.prog 30 28 69 120 := ⟨Tryz.underlying30, .agg (uc nilS zeroU).toArray, by kernel_rfl, by kernel_rfl⟩
theorem fold_set2 (off : Nat) (post : List Value) : ∀ (vs : List Value) (k : Nat) (pre mid : List Value), mid.length = vs.length → pre.length = off + k → (vs.zipIdx k).foldl (fun (cs : Array Value) (x : Value × Nat) => cs.setIfInBounds (off + x.2) x.1) (pre ++ (mid ++ post)).toArray = (pre ++ (vs ++ post)).toArray
  | [], k, pre, mid, h, _ => by
    obtain rfl : mid = [] := List.eq_nil_of_length_eq_zero (by simpa using h)
    rfl
  | v :: vs, k, pre, [], h, _ => by simp at h
  | v :: vs, k, pre, s :: mid, h, hp => by
    have ih := fold_set2 off post vs (k + 1) (pre ++ [v]) mid (by simpa using h) (by simp; omega)
    simp only [List.zipIdx_cons, List.foldl_cons]
    have e : (pre ++ (s :: mid ++ post)).toArray.setIfInBounds (off + k) v = (pre ++ [v] ++ (mid ++ post)).toArray := by
      apply Array.ext'
      rw [Array.toList_setIfInBounds, ← hp]
      simp
    rw [e]
    simpa using ih
theorem info28 : ∃ i, Tryz.prog.info? 28 = some i ∧ i.zero = some (.agg (uc nilS zeroU).toArray) ∧ i.size = 69 := by
  obtain ⟨i, hi, hz, hs, _⟩ := info_parts (show (Tryz.prog.info? 28).map (fun i => (i.zero, i.size, i.bytes)) = some (some (.agg (uc nilS zeroU).toArray), 69, 120) by kernel_rfl)
  exact ⟨i, hi, hz, hs⟩
theorem fill_cons {place : Nat → Option (Nat × Nat)} {cells : Array Value} {i : Nat} {v : Value} {rest : List (Nat × Value)} {off size : Nat} (hp : place i = some (off, size)) (h1 : v.cells.size = size) (h2 : off + size ≤ cells.size) :
    Instr.fill place cells ((i, v) :: rest) = Instr.fill place (v.cells.zipIdx.foldl (fun (cs : Array Value) (x : Value × Nat) => cs.setIfInBounds (off + x.2) x.1) cells) rest := by
  subst h1
  rw [Instr.fill, hp]
  simp only
  rw [if_neg (by simp; omega)]
theorem built28 {c : List Value} (hl : c.length = 69) : Tryz.prog.builtSlice 28 1 [(0, .agg c.toArray)] = some c.toArray := by
  obtain ⟨i, hi, hz, hsz⟩ := info28
  unfold Program.builtSlice
  simp only [hi, hz, hsz]
  have h0 : (Array.range (1 * 69)).map ((Value.agg (uc nilS zeroU).toArray).cells[· % (Value.agg (uc nilS zeroU).toArray).cells.size]!) = (uc nilS zeroU).toArray := by kernel_rfl
  rw [if_neg (by decide), h0]
  rw [fill_cons (off := 0) (size := 69) rfl (by rw [show (Value.agg c.toArray).cells = c.toArray from rfl]; simp [hl]) (by simp [uc_length zeroU_wf]), Instr.fill, show (Value.agg c.toArray).cells = c.toArray from rfl]
  have := fold_set2 0 [] (c) 0 [] (uc nilS zeroU) (by rw [hl, uc_length zeroU_wf]) rfl
  simp only [List.nil_append, List.append_nil] at this
  simpa [← Array.foldl_toList] using this
theorem built28x2 {c d : List Value} (hl : c.length = 69) (hd : d.length = 69) : Tryz.prog.builtSlice 28 2 [(0, .agg c.toArray), (1, .agg d.toArray)] = some (c ++ d).toArray := by
  obtain ⟨i, hi, hz, hsz⟩ := info28
  unfold Program.builtSlice
  simp only [hi, hz, hsz]
  have h0 : (Array.range (2 * 69)).map ((Value.agg (uc nilS zeroU).toArray).cells[· % (Value.agg (uc nilS zeroU).toArray).cells.size]!) = (uc nilS zeroU ++ uc nilS zeroU).toArray := by kernel_rfl
  have lz := uc_length (v := nilS) zeroU_wf
  rw [if_neg (by decide), h0]
  have e1 := fold_set2 0 (uc nilS zeroU) c 0 [] (uc nilS zeroU) (by omega) rfl
  have e2 := fold_set2 69 [] d 0 c (uc nilS zeroU) (by omega) (by omega)
  rw [fill_cons (off := 0) (size := 69) rfl (by rw [show (Value.agg c.toArray).cells = c.toArray from rfl]; simp [hl]) (by simp [lz])]
  rw [show (Value.agg c.toArray).cells = c.toArray from rfl]
  have h1 : c.toArray.zipIdx.foldl (fun (cs : Array Value) (x : Value × Nat) => cs.setIfInBounds (0 + x.2) x.1) (uc nilS zeroU ++ uc nilS zeroU).toArray = (c ++ uc nilS zeroU).toArray := by
    simpa [← Array.foldl_toList] using e1
  rw [h1]
  rw [fill_cons (off := 69) (size := 69) rfl (by rw [show (Value.agg d.toArray).cells = d.toArray from rfl]; simp [hd]) (by simp [lz, hl])]
  rw [show (Value.agg d.toArray).cells = d.toArray from rfl, Instr.fill]
  simpa [← Array.foldl_toList] using e2
/-- A slice of labels that a call has made since a world, as it goes on. -/
def Mk (w0 : World) (v : Value) (ls : List RowT) (w : World) : Prop := ∃ a cap sp, v = .slice a ls.length cap ∧ OwnE eR 69 28 w v ls sp ∧ (∀ i ∈ blk v, w0.heap.size ≤ i) ∧ Frm [] w0 w
theorem Mk.keep {w0 w w' : World} {v : Value} {ls : List RowT} {L : List Nat} (h : Mk w0 v ls w) (f : Frm L w w') (hL : ∀ i ∈ blk v, i ∉ L) (f0 : Frm [] w0 w') : Mk w0 v ls w' := by
  obtain ⟨a, cap, sp, hv, ho, hb, _⟩ := h
  exact ⟨a, cap, sp, hv, ho.keep f hL, hb, f0⟩
theorem Mk.frm {w0 w : World} {v : Value} {ls : List RowT} (h : Mk w0 v ls w) : Frm [] w0 w := by
  obtain ⟨_, _, _, _, _, _, hf⟩ := h
  exact hf
theorem Mk.lt {w0 w : World} {v : Value} {ls : List RowT} (h : Mk w0 v ls w) : ∀ i ∈ blk v, i < w.heap.size := by
  obtain ⟨_, _, _, _, ho, _, _⟩ := h
  exact ho.lt
theorem Mk.sl {w0 w : World} {v : Value} {ls : List RowT} (h : Mk w0 v ls w) : ∃ sp, SlE eR 69 w v ls sp := by
  obtain ⟨_, _, sp, _, ho, _, _⟩ := h
  exact ⟨sp, ho.sl⟩
theorem Mk.nil (w : World) : Mk w (.slice none 0 0) [] w := ⟨none, 0, [], rfl, OwnE.nil _ _ _ _, by simp [blk], Frm.refl _ _⟩
/-- One label more. -/
theorem wpList_more {ops : Array Oper} {rest : List Oper} {o1 o2 : Oper} {a : Act} {Q : Exit → Act → World → Prop} {w0 w : World} {v : Value} {ls : List RowT} {x : RowT} (h : Mk w0 v ls w) (hb : ls.length ≤ 1000000)
    (g1 : o1.guard = none) (g2 : o2.guard = none) (p s y : Operand) (d : Nat) (hd : o1.dst = some d) (h1 : o1.op = .buildSlice 30 1 #[(0, p)]) (h2 : o2.op = Op.call { callee := Callee.builtin Builtin.append, args := #[s, y], argTypes := #[30, 30] })
    (ep : a.eval p = .agg x.1.toArray) (es : (a.put (some d) (.slice (some ⟨w.heap.size, 0, none⟩) 1 1)).eval s = v) (ey : (a.put (some d) (.slice (some ⟨w.heap.size, 0, none⟩) 1 1)).eval y = .slice (some ⟨w.heap.size, 0, none⟩) 1 1)
    (kk : ∀ a' cap' w', Mk w0 (.slice a' (ls.length + 1) cap') (ls ++ [x]) w' → Frm (blk v) w w' → (∀ i ∈ blk (.slice a' (ls.length + 1) cap'), i ∈ blk v ∨ w.heap.size ≤ i) → wpList Tryz.prog ops Q rest ((a.put (some d) (.slice (some ⟨w.heap.size, 0, none⟩) 1 1)).put o2.dst (.slice a' (ls.length + 1) cap')) w') :
    wpList Tryz.prog ops Q (o1 :: o2 :: rest) a w := by
  obtain ⟨av, cv, spv, rfl, ho, hbl, hf⟩ := h
  refine Great.wpList_buildSliceTo g1 30 28 1 #[(0, p)] h1 w.heap.size rfl (some d) hd Tryz.underlying30 x.1.toArray (by simp only [List.map_toArray, List.map_cons, List.map_nil, ep]; exact built28 x.2.1) ?_
  have f1 : Frm [] w (w.alloc (.cells x.1.toArray 28)) := (Frm.refl [] w).alloc _
  have hS : SlE eR 69 (w.alloc (.cells x.1.toArray 28)) (.slice (some ⟨w.heap.size, 0, none⟩) 1 1) [x] [] := SlE.of_block (T := 28) encR (by rw [Kr.flt_one]; exact heap_alloc_new _ _) rfl (by decide)
  refine Kr.wpList_append_e encR tysU (ho.keep0 f1) hS (by simp; omega) (by decide) g2 s y h2 es ey ?_
  intro a2 cap2 w2 sp2 o2 f2 n2
  have f12 : Frm (blk (.slice av ls.length cv)) w w2 := (f1.mono (by simp)).trans f2 (fun i hi => .inl hi)
  have n3 : ∀ i ∈ blk (.slice a2 (ls.length + 1) cap2), i ∈ blk (.slice av ls.length cv) ∨ w.heap.size ≤ i := fun i hi => by
    rcases n2 i hi with h | h
    · exact .inl h
    · simp at h; exact .inr (by omega)
  exact kk a2 cap2 w2 ⟨a2, cap2, sp2, by simp, o2, fun i hi => by
    rcases n3 i hi with h | h
    · exact hbl i h
    · have := hf.size; omega, hf.trans f12 (fun i hi => .inr (hbl i hi))⟩ f12 n3
end Go.Proofs.YtjdejhgfkjeeiaaGreatDoor
