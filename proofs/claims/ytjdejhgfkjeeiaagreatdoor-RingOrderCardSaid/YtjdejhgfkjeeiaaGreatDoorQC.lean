/-
  Contract of CopyPointer. No conditions but those that each theorem names.
-/
import Derived.Test.YtjdejhgfkjeeiaaGreatDoorPY
namespace Go.Proofs.YtjdejhgfkjeeiaaGreatDoor.Pt
open Go.RowKit
set_option linter.unusedVariables false
set_option linter.unusedSimpArgs false
set_option maxRecDepth 100000

/-- A pointer with a list of its own. -/
def OwnP (p : Pt) (w : World) (e : Ending) (w' : World) : Prop := ∃ a cap sp, e = .returned (pv (.slice a p.ads.length cap) p.b p.l p.s) ∧ OwnA 47 w' (.slice a p.ads.length cap) p.ads sp ∧ Frm [] w w' ∧ ∀ i ∈ blk (.slice a p.ads.length cap), w.heap.size ≤ i
set_option maxHeartbeats 4000000 in
theorem CopyP_any (x : Value) (p : Pt) (w : World) (hp : PtV w x p) (hl : p.ads.length ≤ 1000000) : Calls Tryz.prog 49 #[x] w (OwnP p w) := by
  obtain ⟨a, cap, sp, rfl, hS, hs⟩ := hp
  have hb1 : PB ((w.alloc (.cells (pc (.slice a p.ads.length cap) p.b p.l p.s).toArray 26)).alloc (.cells (pc (.slice none 0 0) 0 0 zs).toArray 26)) w.heap.size (.slice a p.ads.length cap) p.b p.l p.s := (PB.new _ _ _ _ _).alloc _
  have hb2 : PB ((w.alloc (.cells (pc (.slice a p.ads.length cap) p.b p.l p.s).toArray 26)).alloc (.cells (pc (.slice none 0 0) 0 0 zs).toArray 26)) (w.heap.size + 1) (.slice none 0 0) 0 0 zs := PB.new1 _ _ _ _ _ _
  have hf : Frm [] w ((w.alloc (.cells (pc (.slice a p.ads.length cap) p.b p.l p.s).toArray 26)).alloc (.cells (pc (.slice none 0 0) 0 0 zs).toArray 26)) := ((Frm.refl [] w).alloc _).alloc _
  have hsz : ((w.alloc (.cells (pc (.slice a p.ads.length cap) p.b p.l p.s).toArray 26)).alloc (.cells (pc (.slice none 0 0) 0 0 zs).toArray 26)).heap.size = w.heap.size + 2 := by simp
  have hA0 : pv (.slice a p.ads.length cap) p.b p.l p.s = .agg (pc (.slice a p.ads.length cap) p.b p.l p.s).toArray := rfl
  have HS := Lib.hid hS
  have HL := Lib.hid hl
  clear hS hl
  rw [hA0]
  clear hA0
  obtain ⟨ads, b, lv, s⟩ := p
  dsimp only at *
  go_enter Tryz.func49, Tryz.ntmps49
  generalize hA : (pc (.slice a ads.length cap) b lv s).toArray = A at *
  go_upto_region 1 with ((with_reducible (show wpList _ _ _ (Oper.mk _ (Op.alloc 26) _ _ _ _ :: _) _ _)); refine wpList_val rfl (exec_alloc26z rfl _) ?_)
  simp only [World.size_alloc]
  generalize (w.alloc (.cells A 26)).alloc (.cells (pc (.slice none 0 0) 0 0 zs).toArray 26) = W at *
  clear hA
  have o0 : OwnA 47 (W.alloc (.cells #[] 47)) (.slice (some ⟨W.heap.size, 0, none⟩) 0 0) [] [] := OwnA.of_heap (heap_alloc_new _ _) rfl rfl (by simp)
  have f0 : Frm [] W (W.alloc (.cells #[] 47)) := (Frm.refl _ _).alloc _
  have c0 := f0.cell (hb1.gets hs).c0 (by simp)
  have B1 := Lib.hid hb1
  have B2 := Lib.hid hb2
  have HF := Lib.hid hf
  have HSZ := Lib.hid hsz
  clear hb1 hb2 hf hsz
  go_upto_region 2 with (at_builtin; refine wpList_append_ads AT o0 (HS.out.keep (HF.out.trans f0 (by simp)) (by simp)) (by have := HL.out; simp; omega) rfl (.tmp 3) (.tmp 5) rfl rfl rfl ?_; intro a' cap' w' sp' o1 f1 n1; have b3 := (B1.out.keep f0 (by simp)).keep f1 (by have := HSZ.out; simp [blk]; omega); have c3 := (b3.gets hs).c0; have z3 : w'.frozen? ⟨w.heap.size, 0, none⟩ = false := frozen_of_heap b3 0)
  have hn : ∀ i ∈ blk (.slice a' ads.length cap'), W.heap.size ≤ i := fun i hi => by
    have h : i = W.heap.size ∨ W.heap.size + 1 ≤ i := by simpa [blk] using n1 i (by simpa using hi)
    omega
  have o1' : OwnA 47 w' (.slice a' ads.length cap') ads sp' := by simpa using o1
  have B4 := pb_store (v' := .slice a' ads.length cap') b3
  have f3 : Frm [w.heap.size] w' (w'.setCell ⟨w.heap.size, 0, none⟩ (.slice a' ads.length cap')) := (Frm.refl _ _).setCell _ _ (by simp)
  have f4 : Frm [w.heap.size] W (w'.setCell ⟨w.heap.size, 0, none⟩ (.slice a' ads.length cap')) := ((f0.trans f1 (by simp [blk])).mono (by simp)).trans f3 (by simp)
  have O4 := Lib.hid (o1'.keep f3 (fun i hi => by have := hn i hi; have := HSZ.out; simp; omega))
  have B5 := Lib.hid (B2.out.keep f4 (by simp))
  have HN := Lib.hid hn
  have F4 := Lib.hid f4
  have G4 := Lib.hid (B4.gets hs)
  clear f4 f3 B4 o1 o1' hn n1 f1 c3 z3 b3 o0 f0 c0 B1 B2
  generalize w'.setCell ⟨w.heap.size, 0, none⟩ (.slice a' ads.length cap') = V at *
  have hsv := setRow_heap V (w.heap.size + 1) _ (pc (.slice a' ads.length cap') b lv s).toArray 26 (0, 0) B5.out
  have fsv : Frm [w.heap.size + 1] V (V.setRow (w.heap.size + 1) (pc (.slice a' ads.length cap') b lv s).toArray) := ⟨rfl, rfl, rfl, by simp [World.setRow], fun k hk hn => setRow_other _ _ k _ (by simpa using hn)⟩
  have HSV := Lib.hid hsv
  have FSV := Lib.hid fsv
  clear hsv fsv
  go_wp2_with (first | ((with_reducible (show wpList _ _ _ (Oper.mk _ (Op.load 26 _) _ _ _ _ :: _) _ _)); refine wpList_load_g (by rfl) 26 _ rfl _ rfl G4.out.all ?_) | ((with_reducible (show wpList _ _ _ (Oper.mk _ (Op.store 26 _ _) _ _ _ _ :: _) _ _)); refine wpList_store_row rfl 26 (.tmp 2) (.tmp 8) rfl (w.heap.size + 1) (pc (.slice a' ads.length cap') b lv s).toArray rfl rfl 26 _ B5.out (by rw [i26]; simp only [pc_size, hs]) (by simp only [pc_size, hs, zs_len]) (pc_one _ _ _) ?_))
  refine bodyPost_ret (v := pv (.slice a' ads.length cap') b lv s) (results_cell_row (p := 2) rfl _ _ (w.heap.size + 1) 26 _ (0, 0) _ rfl HSV.out Tryz.underlying26 rfl (by rw [i26]; simp only [pc_size, hs])) rfl ⟨a', cap', sp', rfl, O4.out.keep FSV.out (fun i hi => by have := HN.out i hi; have := HSZ.out; simp; omega), HF.out.trans ((F4.out.mono (L' := [w.heap.size, w.heap.size + 1]) (by simp)).trans FSV.out (by simp)) (fun i hi => .inr (by simp at hi; omega)), fun i hi => by have := HN.out i hi; have := HF.out.size; omega⟩
end Go.Proofs.YtjdejhgfkjeeiaaGreatDoor.Pt
