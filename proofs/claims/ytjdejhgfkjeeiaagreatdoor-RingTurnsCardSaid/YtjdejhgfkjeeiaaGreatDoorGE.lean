/-
  Slices of two and of three uberblocks, built in a drawn region; the walk of awake. No conditions but those that each theorem names.
-/
import Derived.Test.YtjdejhgfkjeeiaaGreatDoorGD
import Derived.Great.BuildSlice
namespace Go.Proofs.YtjdejhgfkjeeiaaGreatDoor
open Go.RowKit
set_option linter.unusedVariables false
set_option linter.unusedSimpArgs false
set_option maxRecDepth 100000

open Pt (Pt may enc readPt readE zeroPt pc pv PtV SlA OwnA)
open Kr (OwnE SlE Enco RowTys)
theorem built28x3 {c d e : List Value} (hl : c.length = 69) (hd : d.length = 69) (he : e.length = 69) : Tryz.prog.builtSlice 28 3 [(0, .agg c.toArray), (1, .agg d.toArray), (2, .agg e.toArray)] = some (c ++ (d ++ e)).toArray := by
  obtain ⟨i, hi, hz, hsz⟩ := info28
  unfold Program.builtSlice
  simp only [hi, hz, hsz]
  have h0 : (Array.range (3 * 69)).map ((Value.agg (uc nilS zeroU).toArray).cells[· % (Value.agg (uc nilS zeroU).toArray).cells.size]!) = (uc nilS zeroU ++ (uc nilS zeroU ++ uc nilS zeroU)).toArray := by kernel_rfl
  have lz := uc_length (v := nilS) zeroU_wf
  rw [if_neg (by decide), h0]
  have e1 := fold_set2 0 (uc nilS zeroU ++ uc nilS zeroU) c 0 [] (uc nilS zeroU) (by omega) rfl
  have e2 := fold_set2 69 (uc nilS zeroU) d 0 c (uc nilS zeroU) (by omega) (by omega)
  have e3 := fold_set2 138 [] e 0 (c ++ d) (uc nilS zeroU) (by omega) (by simp; omega)
  rw [fill_cons (off := 0) (size := 69) rfl (by rw [show (Value.agg c.toArray).cells = c.toArray from rfl]; simp [hl]) (by simp [lz])]
  rw [show (Value.agg c.toArray).cells = c.toArray from rfl]
  have h1 : c.toArray.zipIdx.foldl (fun (cs : Array Value) (x : Value × Nat) => cs.setIfInBounds (0 + x.2) x.1) (uc nilS zeroU ++ (uc nilS zeroU ++ uc nilS zeroU)).toArray = (c ++ (uc nilS zeroU ++ uc nilS zeroU)).toArray := by
    simpa [← Array.foldl_toList] using e1
  rw [h1]
  rw [fill_cons (off := 69) (size := 69) rfl (by rw [show (Value.agg d.toArray).cells = d.toArray from rfl]; simp [hd]) (by simp [lz, hl])]
  rw [show (Value.agg d.toArray).cells = d.toArray from rfl]
  have h2 : d.toArray.zipIdx.foldl (fun (cs : Array Value) (x : Value × Nat) => cs.setIfInBounds (69 + x.2) x.1) (c ++ (uc nilS zeroU ++ uc nilS zeroU)).toArray = (c ++ (d ++ uc nilS zeroU)).toArray := by
    simpa [← Array.foldl_toList] using e2
  rw [h2]
  rw [fill_cons (off := 138) (size := 69) rfl (by rw [show (Value.agg e.toArray).cells = e.toArray from rfl]; simp [he]) (by simp [lz, hl, hd])]
  rw [show (Value.agg e.toArray).cells = e.toArray from rfl, Instr.fill]
  rw [show c ++ (d ++ uc nilS zeroU) = c ++ d ++ (uc nilS zeroU ++ []) by simp]
  simpa [← Array.foldl_toList] using e3
theorem UbV.rowOf {w : World} {x : Value} {u : Ub} (h : UbV w x u) : ∃ r : RowT, x = .agg r.1.toArray ∧ RowV w r u := by
  obtain ⟨a, cap, sp, rfl, hA, hw⟩ := h
  exact ⟨rowU (.slice a u.root.ads.length cap) rfl u hw, rfl, a, cap, sp, rfl, hA, hw⟩
theorem RowV.keep0 {w w' : World} {r : RowT} {u : Ub} (h : RowV w r u) (f : Frm [] w w') : RowV w' r u := by
  obtain ⟨a, cap, sp, e, hA, hw⟩ := h
  exact ⟨a, cap, sp, e, hA.keep f (by simp), hw⟩
section
variable {ops : Array Oper} {o : Oper} {a : Act} {w : World} {K : Act → World → Prop} {Q : Exit → Act → World → Prop} {E : Prop}
theorem step_bsTo (hw : Region.wanted o (yielded ops a.tmps) = true) (len : Nat) (parts : Array (Nat × Operand)) (ho : o.op = .buildSlice 30 len parts) (cells : Array Value)
    (hf : Tryz.prog.builtSlice 28 len (parts.map fun (i, x) => (i, a.eval x)).toList = some cells) (h : K (a.put o.dst (.slice (some ⟨w.heap.size, 0, none⟩) len len)) (w.alloc (.cells cells 28))) :
    if Region.wanted o (yielded ops a.tmps) = true then Oper.wp Tryz.prog o a w K Q else E := by
  rw [if_pos hw]
  unfold Program.builtSlice at hf
  cases hie : Tryz.prog.info? 28 with
  | none => simp [hie] at hf
  | some ie =>
    simp only [hie] at hf
    cases hz : ie.zero with
    | none => simp [hz] at hf
    | some z =>
      simp only [hz] at hf
      by_cases hc : len * ie.size > 2 ^ 24 ∨ len * ie.size = 0
      · simp [hc] at hf
      · rw [if_neg hc] at hf
        exact wp_buildSlice 30 28 len parts ho cells ie z Tryz.underlying30 hie hz (fun h' => hc (Or.inl h')) (fun h' => hc (Or.inr h')) hf h
theorem step_us2 (hw : Region.wanted o (yielded ops a.tmps) = true) (p q : Operand) (ho : o.op = .buildSlice 30 2 #[(0, p), (1, q)]) {x y : Value} {u1 u2 : Ub} (hp : a.eval p = x) (hq : a.eval q = y) (h1 : UbV w x u1) (h2 : UbV w y u2)
    (k : ∀ w', Us w' (.slice (some ⟨w.heap.size, 0, none⟩) 2 2) [u1, u2] → Frm [] w w' → K (a.put o.dst (.slice (some ⟨w.heap.size, 0, none⟩) 2 2)) w') : if Region.wanted o (yielded ops a.tmps) = true then Oper.wp Tryz.prog o a w K Q else E := by
  obtain ⟨r1, rfl, v1⟩ := h1.rowOf
  obtain ⟨r2, rfl, v2⟩ := h2.rowOf
  have f : Frm [] w (w.alloc (.cells (r1.1 ++ r2.1).toArray 28)) := (Frm.refl [] w).alloc _
  refine step_bsTo hw 2 _ ho (r1.1 ++ r2.1).toArray (by simp only [List.map_toArray, List.map_cons, List.map_nil, hp, hq]; exact built28x2 r1.2.1 r2.2.1) (k _ ⟨[r1, r2], [], Kr.SlE.of_block (T := 28) encR (by rw [show Kr.flt eR [r1, r2] = r1.1 ++ r2.1 by simp [Kr.flt, eR]]; exact heap_alloc_new _ _) rfl (by decide), rfl, fun i r u hr hu => ?_⟩ f)
  match i with
  | 0 => simp at hr hu; subst hr; subst hu; exact v1.keep0 f
  | 1 => simp at hr hu; subst hr; subst hu; exact v2.keep0 f
  | i + 2 => simp at hr
theorem step_us3 (hw : Region.wanted o (yielded ops a.tmps) = true) (p q s : Operand) (ho : o.op = .buildSlice 30 3 #[(0, p), (1, q), (2, s)]) {x y z : Value} {u1 u2 u3 : Ub} (hp : a.eval p = x) (hq : a.eval q = y) (hs : a.eval s = z) (h1 : UbV w x u1) (h2 : UbV w y u2) (h3 : UbV w z u3)
    (k : ∀ w', Us w' (.slice (some ⟨w.heap.size, 0, none⟩) 3 3) [u1, u2, u3] → Frm [] w w' → K (a.put o.dst (.slice (some ⟨w.heap.size, 0, none⟩) 3 3)) w') : if Region.wanted o (yielded ops a.tmps) = true then Oper.wp Tryz.prog o a w K Q else E := by
  obtain ⟨r1, rfl, v1⟩ := h1.rowOf
  obtain ⟨r2, rfl, v2⟩ := h2.rowOf
  obtain ⟨r3, rfl, v3⟩ := h3.rowOf
  have f : Frm [] w (w.alloc (.cells (r1.1 ++ (r2.1 ++ r3.1)).toArray 28)) := (Frm.refl [] w).alloc _
  refine step_bsTo hw 3 _ ho (r1.1 ++ (r2.1 ++ r3.1)).toArray (by simp only [List.map_toArray, List.map_cons, List.map_nil, hp, hq, hs]; exact built28x3 r1.2.1 r2.2.1 r3.2.1) (k _ ⟨[r1, r2, r3], [], Kr.SlE.of_block (T := 28) encR (by rw [show Kr.flt eR [r1, r2, r3] = r1.1 ++ (r2.1 ++ r3.1) by simp [Kr.flt, eR]]; exact heap_alloc_new _ _) rfl (by decide), rfl, fun i r u hr hu => ?_⟩ f)
  match i with
  | 0 => simp at hr hu; subst hr; subst hu; exact v1.keep0 f
  | 1 => simp at hr hu; subst hr; subst hu; exact v2.keep0 f
  | 2 => simp at hr hu; subst hr; subst hu; exact v3.keep0 f
  | i + 3 => simp at hr
end
/-- What the examples' slots have. -/
theorem stand_none (pool : List UInt8) (i : Nat) : stands pool i Zb = false := by
  have h : unp Zb = (zeroU, 6) := by unfold unp; rw [if_neg (by simp [Zb]), if_pos (show Zb = List.replicate 256 0 from rfl)]
  unfold stands
  rw [h]; rfl
theorem stand_of {t : Int} (h1 : 1 ≤ t) (h2 : t ≤ 2147483648) (i : Nat) (pool : List UInt8) : stands pool i (packU (ofU t)) = ((List.replicate 32 0 == pool) && (((1 + i : Nat) : Int) == 1 + t % 4)) := by
  unfold stands
  rw [unp_pack (ofU_wf t) (ofU_may h1 h2)]
  rw [slotN_may (ofU_may h1 h2)]
  rfl
def z32 : List UInt8 := List.replicate 32 0
theorem found56 : foundU z32 [Zb, packU (ofU 5), packU (ofU 6), Zb] = [ofU 5, ofU 6] := by
  have h0 : stands z32 0 Zb = false := stand_none _ _
  have h1 : stands z32 1 (packU (ofU 5)) = true := by rw [stand_of (by decide) (by decide)]; decide
  have h2 : stands z32 2 (packU (ofU 6)) = true := by rw [stand_of (by decide) (by decide)]; decide
  have h3 : stands z32 3 Zb = false := stand_none _ _
  unfold foundU
  rw [if_pos (by rfl)]
  have e : ∀ i b, rowAt [Zb, packU (ofU 5), packU (ofU 6), Zb] i = b → fndAt z32 [Zb, packU (ofU 5), packU (ofU 6), Zb] i = if stands z32 i b = true then some (unp b).1 else none := fun i b h => by unfold fndAt; rw [h]
  unfold fnd
  rw [show List.range 4 = [0, 1, 2, 3] from rfl]
  simp only [List.filterMap_cons, List.filterMap_nil]
  rw [e 0 Zb rfl, e 1 (packU (ofU 5)) rfl, e 2 (packU (ofU 6)) rfl, e 3 Zb rfl, h0, h1, h2, h3, unp_pack (ofU_wf 5) (ofU_may (by decide) (by decide)), unp_pack (ofU_wf 6) (ofU_may (by decide) (by decide))]
  rfl
theorem ltE_of {s t : Int} (h : t < s) : ltE (entU (ofU s)) (entU (ofU t)) = true := ltE_iff.2 (.inl h)
theorem best56 : bestU [ofU 5, ofU 6, ofU 5] = [ofU 6, ofU 5] := by
  refine (Best.eq (fun u hu => ?_) ⟨?_, fun x => ?_⟩).symm
  · simp at hu; rcases hu with rfl | rfl | rfl <;> exact ofU_wf _
  · exact List.pairwise_cons.2 ⟨fun e he => by simp at he; subst he; exact ltE_of (by decide), List.pairwise_singleton _ _⟩
  · simp only [List.mem_cons, List.not_mem_nil, or_false]
    constructor
    · rintro (rfl | rfl)
      · exact ⟨by simp, ofU_may (by decide) (by decide)⟩
      · exact ⟨by simp, ofU_may (by decide) (by decide)⟩
    · rintro ⟨rfl | rfl | rfl, _⟩ <;> simp
end Go.Proofs.YtjdejhgfkjeeiaaGreatDoor
