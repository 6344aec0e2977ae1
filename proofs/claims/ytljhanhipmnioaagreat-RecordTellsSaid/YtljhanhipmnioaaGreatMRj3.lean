/-
  Runs of many; lists of records that are told. No conditions but those that each theorem names. Contract of CopyPointer. No conditions but those that each theorem names. A table is copied. No conditions but those that each theorem names. Same of tables, of the document. No conditions but those that each theorem names. Tells. No conditions but those that each theorem names.
-/
import Derived.Test.YtljhanhipmnioaaGreatMRa1
import Derived.Test.YtljhanhipmnioaaGreatMRa2
import Derived.Test.YtljhanhipmnioaaGreatMRa3
import Derived.Test.YtljhanhipmnioaaGreatMRa4
import Derived.Test.YtljhanhipmnioaaGreatMRa5
import Derived.Test.YtljhanhipmnioaaGreatMRa6
import Derived.Test.YtljhanhipmnioaaGreatMRa7
import Derived.Test.YtljhanhipmnioaaGreatMRa8
import Derived.Test.YtljhanhipmnioaaGreatMRa9
import Derived.Test.YtljhanhipmnioaaGreatMRa10
import Derived.Test.YtljhanhipmnioaaGreatMRb1
import Derived.Test.YtljhanhipmnioaaGreatMRd1
import Derived.Test.YtljhanhipmnioaaGreatMRf1
import Derived.Test.YtljhanhipmnioaaGreatMRf2
import Derived.Test.YtljhanhipmnioaaGreatMRg1
import Derived.Test.YtljhanhipmnioaaGreatMRj1
import Derived.Test.YtljhanhipmnioaaGreatMRj2
import Derived.OrdersHeld
import Derived.Great.Walk
import Derived.StillTailTactics
import Derived.WalkKit
import Derived.WalkSpells
import Derived.WalkLawsBesides
import Derived.Deep.AppendSrc
import Derived.Laws.CopyOwn
import Derived.Laws.BytesArg
import Derived.Carry
import Derived.Laws.BytesString
import Derived.Deep.SlicePairs
import Derived.Deep.Cut
import Derived.Lib.Hide
import Derived.Test.YtljhanhipmnioaaGreatChecked
import Derived.ChangeKeysEq
import Derived.Deep.MidRow
import Derived.Deep.RegionHeld3
import Derived.OpenShut
import Derived.WalkHide
import Derived.IntWalk
import Derived.Deep.RegionLaw
import Derived.Deep.RegionWith
import Derived.Deep.QuietTactic
import Derived.BigQuiet
import Derived.Deep.CutBlock
import Derived.Deep.DeepCutAuto
import Derived.Deep.Slices
import Derived.Defers
import Derived.Recover
import Derived.Deep.WholeRow
import Derived.Lib.Bytealg
import Derived.Lib.TrimUEq
import Derived.Lib.MinMaxS
import Derived.LaidEqlPtr
import Derived.Lib.OthersKept
import Derived.Deep.Draws
import Derived.WalkMore
import Derived.Deep.LoopGhost
import Derived.Lib.BufferWrite
import Derived.Lib.UnsafeStr
import Derived.Laws.MakeOwn
import Derived.Laws.Strings3
import Derived.BigRegion
import Derived.Lib.Walk
namespace Go.Proofs.YtljhanhipmnioaaGreat.Rd
open Go.RowKit
set_option linter.unusedVariables false
set_option linter.unusedSimpArgs false
set_option maxRecDepth 100000

open Pt (Pt may enc readPt readE zeroPt be4 be1 pc pv PtV SlA OwnA BT wpList_load_g heap_alloc_at lst_slB one_slB Ext Grew exec_slice_lh yieldsIf_ld)
open Kr (OwnE SlE Enco RowTys)
/-- One record more behind those that were told. -/
theorem wpList_tl {ops : Array Oper} {rest : List Oper} {o1 o2 : Oper} {a : Act} {Q : Exit → Act → World → Prop} {w0 w : World} {v : Value} {l : List Rec} {rs : List RowT} {B : List Nat} {x : RowT} {u : Rec} (h : Tl w0 w v l rs B) (hb : l.length ≤ 1000000)
    (hx : RowO w x u) (hxn : ∀ k ∈ rb x, k ∉ B) (hx0 : ∀ k ∈ rb x, w0.heap.size ≤ k) (h0 : w0.heap.size ≤ w.heap.size)
    (g1 : o1.guard = none) (g2 : o2.guard = none) (p s y : Operand) (d : Nat) (hd : o1.dst = some d) (h1 : o1.op = .buildSlice 22 1 #[(0, p)]) (h2 : o2.op = Op.call { callee := Callee.builtin Builtin.append, args := #[s, y], argTypes := #[22, 22] })
    (ep : a.eval p = .agg x.1.toArray) (es : (a.put (some d) (.slice (some ⟨w.heap.size, 0, none⟩) 1 1)).eval s = v) (ey : (a.put (some d) (.slice (some ⟨w.heap.size, 0, none⟩) 1 1)).eval y = .slice (some ⟨w.heap.size, 0, none⟩) 1 1)
    (kk : ∀ a' cap' w', Tl w0 w' (.slice a' (l.length + 1) cap') (l ++ [u]) (rs ++ [x]) (rb x ++ blk (.slice a' (l.length + 1) cap') ++ B) → Frm (blk v) w w' → (∀ i ∈ blk (.slice a' (l.length + 1) cap'), i ∈ blk v ∨ w.heap.size ≤ i) → wpList Tryz.prog ops Q rest ((a.put (some d) (.slice (some ⟨w.heap.size, 0, none⟩) 1 1)).put o2.dst (.slice a' (l.length + 1) cap')) w') :
    wpList Tryz.prog ops Q (o1 :: o2 :: rest) a w := by
  obtain ⟨spv, ho⟩ := h.own
  have hrl := h.len
  refine Great.wpList_buildSliceTo g1 22 56 1 #[(0, p)] h1 w.heap.size rfl (some d) hd Tryz.underlying22 x.1.toArray (by simp only [List.map_toArray, List.map_cons, List.map_nil, ep]; exact built56 x.2.1) ?_
  have f1 : Frm [] w (w.alloc (.cells x.1.toArray 56)) := (Frm.refl [] w).alloc _
  have hS : SlE eR 44 (w.alloc (.cells x.1.toArray 56)) (.slice (some ⟨w.heap.size, 0, none⟩) 1 1) [x] [] := Kr.SlE.of_block (T := 56) encRow (by rw [Kr.flt_one]; exact heap_alloc_new _ _) rfl (by decide)
  refine Kr.wpList_append_e encRow tysRec (ho.keep0 f1) hS (by simp; omega) (by decide) g2 s y h2 es ey ?_
  intro a2 cap2 w2 sp2 o2' f2 n2
  rw [show rs.length + [x].length = l.length + 1 by simp [hrl]] at o2' n2 ⊢
  have f12 : Frm (blk v) w w2 := (f1.mono (by simp)).trans f2 (fun i hi => .inl hi)
  have n3 : ∀ i ∈ blk (.slice a2 (l.length + 1) cap2), i ∈ blk v ∨ w.heap.size ≤ i := fun i hi => by
    rcases n2 i hi with h | h
    · exact .inl h
    · simp at h; exact .inr (by omega)
  exact kk a2 cap2 w2 (h.more f12 o2' n3 hx hxn hx0 h0) f12 n3
end Go.Proofs.YtljhanhipmnioaaGreat.Rd

namespace Go.Proofs.YtljhanhipmnioaaGreat.Pt
open Go.RowKit
set_option linter.unusedVariables false
set_option linter.unusedSimpArgs false
set_option maxRecDepth 100000

/-- A pointer with a list of its own. -/
def OwnP (p : Pt) (w : World) (e : Ending) (w' : World) : Prop := ∃ a cap sp, e = .returned (pv (.slice a p.ads.length cap) p.b p.l p.s) ∧ OwnA 148 w' (.slice a p.ads.length cap) p.ads sp ∧ Frm [] w w' ∧ ∀ i ∈ blk (.slice a p.ads.length cap), w.heap.size ≤ i
set_option maxHeartbeats 4000000 in
theorem CopyP_any (x : Value) (p : Pt) (w : World) (hp : PtV w x p) (hl : p.ads.length ≤ 1000000) : Calls Tryz.prog 40 #[x] w (OwnP p w) := by
  obtain ⟨a, cap, sp, rfl, hS, hs⟩ := hp
  have hb1 : PB ((w.alloc (.cells (pc (.slice a p.ads.length cap) p.b p.l p.s).toArray 54)).alloc (.cells (pc (.slice none 0 0) 0 0 zs).toArray 54)) w.heap.size (.slice a p.ads.length cap) p.b p.l p.s := (PB.new _ _ _ _ _).alloc _
  have hb2 : PB ((w.alloc (.cells (pc (.slice a p.ads.length cap) p.b p.l p.s).toArray 54)).alloc (.cells (pc (.slice none 0 0) 0 0 zs).toArray 54)) (w.heap.size + 1) (.slice none 0 0) 0 0 zs := PB.new1 _ _ _ _ _ _
  have hf : Frm [] w ((w.alloc (.cells (pc (.slice a p.ads.length cap) p.b p.l p.s).toArray 54)).alloc (.cells (pc (.slice none 0 0) 0 0 zs).toArray 54)) := ((Frm.refl [] w).alloc _).alloc _
  have hsz : ((w.alloc (.cells (pc (.slice a p.ads.length cap) p.b p.l p.s).toArray 54)).alloc (.cells (pc (.slice none 0 0) 0 0 zs).toArray 54)).heap.size = w.heap.size + 2 := by simp
  have hA0 : pv (.slice a p.ads.length cap) p.b p.l p.s = .agg (pc (.slice a p.ads.length cap) p.b p.l p.s).toArray := rfl
  have HS := Lib.hid hS
  have HL := Lib.hid hl
  clear hS hl
  rw [hA0]
  clear hA0
  obtain ⟨ads, b, lv, s⟩ := p
  dsimp only at *
  go_enter Tryz.func40, Tryz.ntmps40
  generalize hA : (pc (.slice a ads.length cap) b lv s).toArray = A at *
  go_upto_region 1 with ((with_reducible (show wpList _ _ _ (Oper.mk _ (Op.alloc 54) _ _ _ _ :: _) _ _)); refine wpList_val rfl (exec_alloc26z rfl _) ?_)
  simp only [World.size_alloc]
  generalize (w.alloc (.cells A 54)).alloc (.cells (pc (.slice none 0 0) 0 0 zs).toArray 54) = W at *
  clear hA
  have o0 : OwnA 148 (W.alloc (.cells #[] 148)) (.slice (some ⟨W.heap.size, 0, none⟩) 0 0) [] [] := OwnA.of_heap (heap_alloc_new _ _) rfl rfl (by simp)
  have f0 : Frm [] W (W.alloc (.cells #[] 148)) := (Frm.refl _ _).alloc _
  have c0 := f0.cell (hb1.gets hs).c0 (by simp)
  have B1 := Lib.hid hb1
  have B2 := Lib.hid hb2
  have HF := Lib.hid hf
  have HSZ := Lib.hid hsz
  clear hb1 hb2 hf hsz
  go_upto_region 2 with (at_builtin; refine wpList_append_ads AT o0 (HS.out.keep (HF.out.trans f0 (by simp)) (by simp)) (by have := HL.out; simp; omega) rfl (.tmp 3) (.tmp 5) rfl rfl rfl ?_; intro a' cap' w' sp' o1 f1 n1; have b3 := (B1.out.keep f0 (by simp)).keep f1 (by have := HSZ.out; simp [blk]; omega); have c3 := (b3.gets hs).c0; have z3 : w'.frozen? ⟨w.heap.size, 0, none⟩ = false := frozen_of_heap b3 0)
  have hn : ∀ i ∈ blk (.slice a' ads.length cap'), W.heap.size ≤ i := fun i hi => by
    have h : i = W.heap.size ∨ W.heap.size + 1 ≤ i := by simpa [blk] using n1 i (by simpa using hi)
    omega
  have o1' : OwnA 148 w' (.slice a' ads.length cap') ads sp' := by simpa using o1
  have B4 := pb_store (v' := .slice a' ads.length cap') b3
  have f3 : Frm [w.heap.size] w' (w'.setCell ⟨w.heap.size, 0, none⟩ (.slice a' ads.length cap')) := (Frm.refl _ _).setCell _ _ (by simp)
  have f4 : Frm [w.heap.size] W (w'.setCell ⟨w.heap.size, 0, none⟩ (.slice a' ads.length cap')) := ((f0.trans f1 (by simp [blk])).mono (by simp)).trans f3 (by simp)
  have O4 := Lib.hid (o1'.keep f3 (fun i hi => by have := hn i hi; have := HSZ.out; simp; omega))
  have B5 := Lib.hid (B2.out.keep f4 (by simp))
  have HN := Lib.hid hn
  have F4 := Lib.hid f4
  have G4 := Lib.hid (B4.gets hs)
  clear f4 f3 B4 o1 o1' hn n1 f1 c3 z3 b3 o0 f0 c0 B1 B2
  generalize w'.setCell ⟨w.heap.size, 0, none⟩ (.slice a' ads.length cap') = V at *
  have hsv := setRow_heap V (w.heap.size + 1) _ (pc (.slice a' ads.length cap') b lv s).toArray 54 (0, 0) B5.out
  have fsv : Frm [w.heap.size + 1] V (V.setRow (w.heap.size + 1) (pc (.slice a' ads.length cap') b lv s).toArray) := ⟨rfl, rfl, rfl, by simp [World.setRow], fun k hk hn => setRow_other _ _ k _ (by simpa using hn)⟩
  have HSV := Lib.hid hsv
  have FSV := Lib.hid fsv
  clear hsv fsv
  go_wp2_with (first | ((with_reducible (show wpList _ _ _ (Oper.mk _ (Op.load 54 _) _ _ _ _ :: _) _ _)); refine wpList_load_g (by rfl) 54 _ rfl _ rfl G4.out.all ?_) | ((with_reducible (show wpList _ _ _ (Oper.mk _ (Op.store 54 _ _) _ _ _ _ :: _) _ _)); refine wpList_store_row rfl 54 (.tmp 2) (.tmp 8) rfl (w.heap.size + 1) (pc (.slice a' ads.length cap') b lv s).toArray rfl rfl 54 _ B5.out (by rw [i26]; simp only [pc_size, hs]) (by simp only [pc_size, hs, zs_len]) (pc_one _ _ _) ?_))
  refine bodyPost_ret (v := pv (.slice a' ads.length cap') b lv s) (results_cell_row (p := 2) rfl _ _ (w.heap.size + 1) 54 _ (0, 0) _ rfl HSV.out Tryz.underlying54 rfl (by rw [i26]; simp only [pc_size, hs])) rfl ⟨a', cap', sp', rfl, O4.out.keep FSV.out (fun i hi => by have := HN.out i hi; have := HSZ.out; simp; omega), HF.out.trans ((F4.out.mono (L' := [w.heap.size, w.heap.size + 1]) (by simp)).trans FSV.out (by simp)) (fun i hi => .inr (by simp at hi; omega)), fun i hi => by have := HN.out i hi; have := HF.out.size; omega⟩
end Go.Proofs.YtljhanhipmnioaaGreat.Pt

namespace Go.Proofs.YtljhanhipmnioaaGreat.Rd
open Go.RowKit
set_option linter.unusedVariables false
set_option linter.unusedSimpArgs false
set_option maxRecDepth 100000

open Pt (Pt may enc readPt readE zeroPt be4 be1 pc pv PtV SlA OwnA BT wpList_load_g heap_alloc_at lst_slB one_slB Ext Grew exec_slice_lh yieldsIf_ld)
open Kr (OwnE SlE Enco RowTys)

section
variable {ops : Array Oper} {o : Oper} {a : Act} {w : World} {K : Act → World → Prop} {Q : Exit → Act → World → Prop} {E : Prop}
theorem step_empty25 (hg : o.guard = none) (ho : o.op = .buildSlice 25 0 #[]) (h : ∀ v' w', OwnE eI 1 3 w' v' [] [] → Frm [] w w' → (∀ i ∈ blk v', w.heap.size ≤ i) → K (a.put o.dst v') w') :
    if Region.wanted o (yielded ops a.tmps) = true then Oper.wp Tryz.prog o a w K Q else E := by
  refine step_val (v := .slice (some ⟨w.heap.size, 0, none⟩) 0 0) (w' := w.alloc (.cells #[] 3)) hg ?_ (h _ _ (OwnE.of_heap encI (heap_alloc_new _ _) rfl (Nat.le_refl _) rfl (by simp [maxLen])) ((Frm.refl [] w).alloc _) (fun i hi => by simp [blk] at hi; omega))
  have he : (Instr.buildSlice 25 0 #[]).run Tryz.prog w = .ok (.slice (some ⟨w.heap.size, 0, none⟩) 0 0) (w.alloc (.cells #[] 3)) := by
    go_simp
  simp [execOp, ho, he, Result.andThen]
theorem step_app25 {v y : Value} {l m : List Int} {sp msp : List Value} (hO : OwnE eI 1 3 w v l sp) (hS : SlE eI 1 w y m msp) (hb : l.length + m.length ≤ 1000000000)
    (hg : o.guard = none) (s x : Operand) (hop : o.op = Op.call { callee := Callee.builtin Builtin.append, args := #[s, x], argTypes := #[25, 25] }) (hs : a.eval s = v) (hx : a.eval x = y)
    {n : Nat} (hn : l.length + m.length = n)
    (kk : ∀ a' cap' w' sp', OwnE eI 1 3 w' (.slice a' n cap') (l ++ m) sp' → Frm (blk v) w w' → (∀ i ∈ blk (.slice a' n cap'), i ∈ blk v ∨ w.heap.size ≤ i) → K (a.put o.dst (.slice a' n cap')) w') :
    if Region.wanted o (yielded ops a.tmps) = true then Oper.wp Tryz.prog o a w K Q else E :=
  Kr.step_append_e encI tysI hO hS hb (by decide) hg s x hop hs hx (fun a' cap' w' sp' h1 h2 h3 => by rw [hn] at h1 h3 ⊢; exact kk _ _ w' sp' h1 h2 h3)
theorem step_alloc27 (hg : o.guard = none) (ho : o.op = .alloc 27) (h : ∀ g w', TB w' g nilS nilS zeroT → Frm [] w w' → w.heap.size ≤ g → K (a.put o.dst (.pointer (some ⟨g, 0, none⟩))) w') :
    if Region.wanted o (yielded ops a.tmps) = true then Oper.wp Tryz.prog o a w K Q else E := by
  refine step_val (v := .pointer (some ⟨w.heap.size, 0, none⟩)) (w' := w.alloc (.cells (tc nilS nilS zeroT).toArray 27)) hg ?_ (h _ _ (TB.new _ _ _ _) ((Frm.refl [] w).alloc _) (Nat.le_refl _))
  exact exec_alloc27 ho w
end
theorem bld27c (n : Int) (c : Cur) (x : Option Addr) (y z : Nat) (W : World) : (Instr.build 27 #[(0, .int .i64 n), (2, cv c), (3, .slice x y z)]).run Tryz.prog W = .ok (tv nilS (.slice x y z) ⟨n, [], c, []⟩) W := by kernel_rfl
theorem exec_bld27c {o : Oper} {a : Act} {n : Int} {c : Cur} {x : Option Addr} {y z : Nat} (p q r : Operand) (hop : o.op = Op.build 27 #[(0, p), (2, q), (3, r)]) (h1 : a.eval p = .int .i64 n) (h2 : a.eval q = cv c) (h3 : a.eval r = .slice x y z) (W : World) : (execOp a.eval o).run Tryz.prog W = .ok (.value (tv nilS (.slice x y z) ⟨n, [], c, []⟩)) W := by
  have hb := bld27c n c x y z W
  have hm : (#[(0, p), (2, q), (3, r)].map fun ((i, x) : Nat × Operand) => (i, a.eval x)) = #[(0, .int .i64 n), (2, cv c), (3, .slice x y z)] := by simp [h1, h2, h3]
  simp only [execOp, hop, hm, Sem.run_bind, Sem.run_pure, hb, Result.andThen_ok]
def CpRel (V : World) (gt : Nat) (vl : Value) (t : Tab) (c : Value) (wr : World) : Prop :=
  ∃ (k : Nat) (rs : List RowT) (B : List Nat) (vr : Value), k ≤ t.recs.length ∧ c = .int .i64 k ∧ TB wr gt vr vl ⟨t.next, t.recs.take k, t.cur, t.lives⟩ ∧ Tl V wr vr (t.recs.take k) rs B ∧ Frm [gt] V wr
set_option maxHeartbeats 16000000 in
theorem CopyT_any (vr vl : Value) (t : Tab) (w : World) (h : TabV w vr vl t) (hf : FitT t) : Calls Tryz.prog 16 #[tv vr vl t] w (TellT t w) := by
  obtain ⟨h1, sp, h2⟩ := h
  have HFT := Lib.hid hf
  have hl9 : (t.recs.length : Int) ≤ 1000 := by have := hf.recs; omega
  have hl8 : t.lives.length ≤ 1000 := hf.lives
  obtain ⟨av, ac, rfl⟩ := h1.form
  obtain ⟨lv, lc, rfl, _, _⟩ := h2.form
  have HR0 := Lib.hid (fun z (f : Frm [] w z) => h1.keep0 f)
  have HL0 := Lib.hid (fun z (f : Frm [] w z) => h2.keep0 f)
  have HL8 := Lib.hid hl8
  rw [tcA]
  have f0 : Frm [] w (w.alloc (.cells (tc (.slice av t.recs.length ac) (.slice lv t.lives.length lc) t).toArray 27)) := (Frm.refl [] w).alloc _
  have b0 := TB.new w (.slice av t.recs.length ac) (.slice lv t.lives.length lc) t
  obtain ⟨A, hA⟩ : ∃ A, (tc (.slice av t.recs.length ac) (.slice lv t.lives.length lc) t).toArray = A := ⟨_, rfl⟩
  rw [hA] at f0 b0 ⊢
  have f1 : Frm [] (w.alloc (.cells A 27)) ((w.alloc (.cells A 27)).alloc (.cells (tc nilS nilS zeroT).toArray 27)) := (Frm.refl [] _).alloc _
  have A1 := Lib.hid (b0.keep0 f1)
  have A2 := Lib.hid (show TB ((w.alloc (.cells A 27)).alloc (.cells (tc nilS nilS zeroT).toArray 27)) (w.heap.size + 1) nilS nilS zeroT from heap_alloc_at (by simp))
  have A3 := Lib.hid (show Frm [] w ((w.alloc (.cells A 27)).alloc (.cells (tc nilS nilS zeroT).toArray 27)) from f0.trans f1 (by simp))
  clear h1 h2 hf hA f0 f1 b0 hl8
  go_enter Tryz.func16, Tryz.ntmps16
  go_upto_region 1 with ((with_reducible (show wpList _ _ _ (Oper.mk (some 2) (Op.alloc 27) _ _ _ _ :: _) _ _)); refine wpList_val rfl (exec_alloc27 rfl _) ?_)
  simp only [World.size_alloc]
  generalize (w.alloc (.cells A 27)).alloc (.cells (tc nilS nilS zeroT).toArray 27) = W at *
  have B1 := Lib.hid (A1.out.keep0 (Frm.refl [] W).drew)
  have B2 := Lib.hid (A2.out.keep0 (Frm.refl [] W).drew)
  have F1 := Lib.hid (A3.out.trans (Frm.refl [] W).drew (by simp))
  clear A1 A2 A3
  refine wp_region_held_drew (S := fun z => TB z w.heap.size (.slice av t.recs.length ac) (.slice lv t.lives.length lc) t) (by kernel_rfl) (B1.out) (fun hHeld => ?_)
  refine wpAnyH_take (i := 0) (oi := ⟨some 6, .fieldAddr 27 (.tmp 1) 0, _, _, _, none⟩) (v := ?_) rfl (by kernel_rfl) (by kernel_rfl) (by kernel_rfl) (fun _ _ _ h => h) (Or.inl ⟨by rfl, ?_⟩) hHeld ?_
  rotate_left
  focus (intro z hSw; clear hSw; go_simp; try with_reducible rfl)
  try simp only [Act.put, List.setIfInBounds_toArray, List.set_cons_zero, List.set_cons_succ]
  refine wpAnyH_take (i := 1) (oi := ⟨some 7, .load 3 (.tmp 6), _, _, _, none⟩) (v := ?_) rfl (by kernel_rfl) (by kernel_rfl) (by kernel_rfl) (fun _ _ _ h => h) (Or.inl ⟨by rfl, ?_⟩) hHeld ?_
  rotate_left
  focus (intro z hSw; have q := hSw.gets.next; have q2 := hSw.gets.lives; clear hSw; go_simp; try with_reducible rfl)
  try simp only [Act.put, List.setIfInBounds_toArray, List.set_cons_zero, List.set_cons_succ]
  refine wpAnyH_take (i := 2) (oi := ⟨some 8, .fieldAddr 27 (.tmp 1) 2, _, _, _, none⟩) (v := ?_) rfl (by kernel_rfl) (by kernel_rfl) (by kernel_rfl) (fun _ _ _ h => h) (Or.inl ⟨by rfl, ?_⟩) hHeld ?_
  rotate_left
  focus (intro z hSw; clear hSw; go_simp; try with_reducible rfl)
  try simp only [Act.put, List.setIfInBounds_toArray, List.set_cons_zero, List.set_cons_succ]
  refine wpAnyH_take (i := 3) (oi := ⟨some 9, .load 24 (.tmp 8), _, _, _, none⟩) rfl (by kernel_rfl) (by kernel_rfl) (by kernel_rfl) (fun _ _ _ h => h) (yieldsIf_ld (by rfl) 24 _ rfl _ rfl (fun z hSw => hSw.gets.cur)) hHeld ?_
  try simp only [Act.put, List.setIfInBounds_toArray, List.set_cons_zero, List.set_cons_succ]
  refine wpAnyH_take (i := 5) (oi := ⟨some 11, .fieldAddr 27 (.tmp 1) 3, _, _, _, none⟩) (v := ?_) rfl (by kernel_rfl) (by kernel_rfl) (by kernel_rfl) (fun _ _ _ h => h) (Or.inl ⟨by rfl, ?_⟩) hHeld ?_
  rotate_left
  focus (intro z hSw; clear hSw; go_simp; try with_reducible rfl)
  try simp only [Act.put, List.setIfInBounds_toArray, List.set_cons_zero, List.set_cons_succ]
  refine wpAnyH_take (i := 6) (oi := ⟨some 12, .load 25 (.tmp 11), _, _, _, none⟩) (v := ?_) rfl (by kernel_rfl) (by kernel_rfl) (by kernel_rfl) (fun _ _ _ h => h) (Or.inl ⟨by rfl, ?_⟩) hHeld ?_
  rotate_left
  focus (intro z hSw; have q := hSw.gets.next; have q2 := hSw.gets.lives; clear hSw; go_simp; try with_reducible rfl)
  try simp only [Act.put, List.setIfInBounds_toArray, List.set_cons_zero, List.set_cons_succ]
  refine wpAnyH_ready (rs := [4, 9]) (by kernel_rfl) (by simp) ?_
  refine AllReadyH.cons (o := ⟨some 10, .buildSlice 25 0 #[], _, _, _, none⟩) rfl (fun K hK => ?_) ?_
  · refine step_empty25 rfl rfl ?_
    intro v4 w4 o4 f4 n4
    refine hK.out _ _ ?_ (fun hNext => ?_)
    · exact hHeld.keep0 f4
    clear hK K hHeld
    have hHeld := hNext
    clear hNext
    try simp only [Act.put, List.setIfInBounds_toArray, List.set_cons_zero, List.set_cons_succ]
    refine wpAnyH_ready (rs := [7, 9]) (by kernel_rfl) (by simp) ?_
    refine AllReadyH.cons (o := ⟨some 13, .call { callee := .builtin .append, args := #[.tmp 10, .tmp 12], argTypes := #[25, 25] }, _, _, _, none⟩) rfl (fun K hK => ?_) ?_
    · have hsl := HL0.out _ (F1.out.trans f4 (by simp))
      refine step_app25 o4 hsl (by simp; have := HL8.out; omega) rfl (.tmp 10) (.tmp 12) rfl rfl rfl (n := t.lives.length) (by simp) ?_
      intro x7 c7 w7 sp7 o7 f7 n7
      rw [List.nil_append] at o7
      refine hK.out _ _ ?_ (fun hNext => ?_)
      · exact hHeld.keep f7 (fun hm => by have := n4 _ hm; have := B1.out.lt; omega)
      clear hK K hHeld
      have hHeld := hNext
      clear hNext
      try simp only [Act.put, List.setIfInBounds_toArray, List.set_cons_zero, List.set_cons_succ]
      refine wpAnyH_take (i := 8) (oi := ⟨some 14, .build 27 #[(0, .tmp 7), (2, .tmp 9), (3, .tmp 13)], _, _, _, none⟩) rfl (by kernel_rfl) (by kernel_rfl) (by kernel_rfl) (fun _ _ _ h => h) (Or.inl ⟨by rfl, fun z hSw => exec_bld27c (.tmp 7) (.tmp 9) (.tmp 13) rfl rfl rfl rfl z⟩) hHeld ?_
      try simp only [Act.put, List.setIfInBounds_toArray, List.set_cons_zero, List.set_cons_succ]
      refine wpAnyH_ready (rs := [9]) (by kernel_rfl) (by simp) ?_
      refine AllReadyH.cons (o := ⟨some 3, .alloc 27, _, _, _, none⟩) rfl (fun K hK => ?_) ?_
      · refine step_alloc27 rfl rfl ?_
        intro g3 w9 m9 f9 n9
        refine hK.out _ _ ?_ (fun hNext => ?_)
        · exact hHeld.keep0 f9
        clear hK K hHeld
        have hHeld := hNext
        clear hNext
        try simp only [Act.put, List.setIfInBounds_toArray, List.set_cons_zero, List.set_cons_succ]
        refine wpAnyH_ready (rs := [10]) (by kernel_rfl) (by simp) ?_
        refine AllReadyH.cons (o := ⟨none, .store 27 (.tmp 3) (.tmp 14), _, _, _, none⟩) rfl (fun K hK => ?_) ?_
        · have m8 := m9
          have o8 := o7.keep0 f9
          have f8 : Frm [] W.drew w9 := (f4.trans f7 (fun i hi => .inr (n4 i hi))).trans f9 (by simp)
          have n8 : W.drew.heap.size ≤ g3 ∧ g3 ∉ blk (.slice x7 t.lives.length c7) ∧ (∀ k ∈ blk (.slice x7 t.lives.length c7), W.drew.heap.size ≤ k) := ⟨Nat.le_trans (Nat.le_trans f4.size f7.size) n9, fun hm => by {have := o7.lt _ hm; omega}, fun k hk => by {have := f4.size; rcases n7 k hk with h1 | h1; (have := n4 k h1; omega); omega}⟩
          have hv7 : (Value.slice x7 t.lives.length c7).oneCell' = true := rfl
          refine step_store27 rfl (.tmp 3) (.tmp 14) rfl (vr := nilS) (vl := .slice x7 t.lives.length c7) (t := ⟨t.next, [], t.cur, t.lives⟩) rfl hv7 m8 rfl rfl (fun V m10 f11 => ?_)
          have o10 := o8.keep f11 (fun i hi hm => n8.2.1 (by simp at hm; rw [← hm]; exact hi))
          have f10 : Frm [] W.drew V := f8.trans f11 (fun i hi => by simp at hi; rw [hi]; exact .inr n8.1)
          have n10 := n8
          refine hK.out _ _ ?_ (fun hNext => ?_)
          · exact hHeld.keep f11 (by have := n8.1; have := B1.out.lt; simp; omega)
          clear hK K hHeld
          have hHeld := hNext
          clear hNext
          try simp only [Act.put, List.setIfInBounds_toArray, List.set_cons_zero, List.set_cons_succ]
          refine wpAnyH_done (by kernel_rfl) ?_ _
          clear hHeld
          have hG := Lib.hid (show TB V g3 nilS (.slice x7 t.lives.length c7) ⟨t.next, [], t.cur, t.lives⟩ from m10)
          have O7 := Lib.hid (show OwnE eI 1 3 V (.slice x7 t.lives.length c7) t.lives sp7 from o10)
          have FV := Lib.hid (show Frm [] W.drew V from f10)
          have NG := Lib.hid (show W.drew.heap.size ≤ g3 ∧ g3 ∉ blk (.slice x7 t.lives.length c7) ∧ (∀ k ∈ blk (.slice x7 t.lives.length c7), W.drew.heap.size ≤ k) from n10)
          have BV := Lib.hid (B1.out.keep0 FV.out)
          have B2V := Lib.hid (B2.out.keep0 FV.out)
          have RV0 := Lib.hid (HR0.out V (F1.out.trans FV.out (by simp)))
          have LT := Lib.hid (show W.drew.heap.size ≤ V.heap.size ∧ g3 < V.heap.size ∧ w.heap.size + 1 < W.drew.heap.size from ⟨FV.out.size, hG.out.lt, B2.out.lt⟩)
          clear m10 o10 f10 n10
          generalize W.drew = D at *
          go_upto_region 3 with (fail)
          go_loopw [4] (CpRel V g3 (.slice x7 t.lives.length c7) t) (fun c _ => t.recs.length - (intOf c).toNat)
          case atStart => exact ⟨0, [], [], nilS, Nat.zero_le _, rfl, hG.out, Tl.nil V, Frm.refl _ _⟩
          case round =>
            obtain ⟨k, rs, B, vr, hk, rfl, hB, hT, hF⟩ := hrel
            have BK := Lib.hid (BV.out.keep hF (by have := NG.out; have := LT.out; simp; omega))
            have d1 := BK.out.gets.recs
            have HB := Lib.hid hB
            have HT := Lib.hid hT
            have HF := Lib.hid hF
            clear hB hT hF
            by_cases hlt : k < t.recs.length
            · have hlt9 : (k : Int) < (t.recs.length : Int) := by omega
              have FW := Lib.hid (show Frm [] D wr from FV.out.trans HF.out (fun i hi => by have := NG.out; simp at hi; omega))
              have RW := Lib.hid (HR0.out wr (F1.out.trans FW.out (by simp)))
              obtain ⟨b, off, cp, e⟩ := RW.out.at (by omega)
              injection e with e1 e2 e3
              subst e1; subst e3
              obtain ⟨xa, xc, G, XV⟩ := RW.out.gets k hlt
              have GA := Lib.hid G.all
              obtain ⟨ya, yc, ysp, hyy, hyS, hys⟩ := XV
              have hx : RecV wr (rv (.slice xa (t.recs[k]).root.ads.length xc) t.recs[k]) t.recs[k] := ⟨ya, yc, ysp, hyy, hyS, hys⟩
              obtain ⟨xv2, hxv2, _, hPt, _⟩ := hx.box
              have hxe : xv2 = .slice xa (t.recs[k]).root.ads.length xc := by
                have := hxv2
                simp only [rv, Value.agg.injEq, List.toArray_inj, rc, List.cons.injEq, true_and] at this
                have h := this
                simp [pc] at h
                exact h.symm
              rw [hxe] at hPt
              have HXS := Lib.hid hys
              have HPT := Lib.hid (fun z (f : Frm [] wr z) => hPt.keep0 f)
              have HXA := Lib.hid (show (t.recs[k]).root.ads.length ≤ 1000000 from (HFT.out.all _ (List.getElem_mem _)).ads)
              have TK := Lib.hid (show t.recs.take (k + 1) = t.recs.take k ++ [t.recs[k]] from by rw [List.take_succ_eq_append_getElem hlt])
              obtain ⟨x, hx0⟩ : ∃ x, t.recs[k] = x := ⟨_, rfl⟩
              rw [hx0] at GA HXS HPT HXA TK
              clear G hyy hyS hys hx hxv2 hPt hxe hx0
              have f2 : Frm [] wr (wr.alloc (.cells (rc (.slice xa x.root.ads.length xc) x).toArray 56)) := (Frm.refl [] wr).alloc _
              have X2 := Lib.hid (RB.new (w := wr) (v := .slice xa x.root.ads.length xc) HXS.out)
              have XR := Lib.hid X2.out.gets.root
              have HPC := Lib.hid (Pt.CopyP_any _ x.root _ (HPT.out _ f2) HXA.out)
              unfold Pt.OwnP at HPC
              have F2 := Lib.hid f2
              clear f2
              go_upto_region 7 with (first
                | ((with_reducible (show wpList _ _ _ (Oper.mk _ (Op.load 56 _) _ _ _ _ :: _) _ _)); refine wpList_load_g (by rfl) 56 _ rfl _ rfl GA.out ?_)
                | ((with_reducible (show wpList _ _ _ (Oper.mk _ (Op.alloc 56) _ _ _ _ :: _) _ _)); refine wpList_lay56 rfl rfl rfl (.tmp 5) (.tmp 26) rfl (v := .slice xa x.root.ads.length xc) rfl HXS.out rfl rfl ?_)
                | ((with_reducible (show wpList _ _ _ (Oper.mk _ (Op.load 54 _) _ _ _ _ :: _) _ _)); refine wpList_load_g (by rfl) 54 _ rfl _ rfl XR.out ?_)
                | (go_at_call 40; refine HPC.out.mono ?_; rintro e w3 ⟨pa, pcp, psp, rfl, o3, f3, n3⟩; have X3 := Lib.hid (X2.out.keep0 f3))
                | ((with_reducible (show wpList _ _ _ (Oper.mk _ (Op.store 54 _ _) _ _ _ _ :: _) _ _)); refine wpList_store_mid rfl 54 (.tmp 30) (.tmp 29) rfl wr.heap.size 4 (pc (.slice pa x.root.ads.length pcp) x.root.b x.root.l x.root.s).toArray rfl rfl (by rw [Pt.pc_size, HXS.out]; exact X3.out.there) (by rw [Pt.i26, Pt.pc_size, HXS.out]) (Pt.pc_one _ _ _) ?_))
              have X4 := Lib.hid (show RB (w3.setCells wr.heap.size 4 (pc (.slice pa x.root.ads.length pcp) x.root.b x.root.l x.root.s)) wr.heap.size (.slice pa x.root.ads.length pcp) x from by have := X3.out.setRoot (v' := .slice pa x.root.ads.length pcp) x.root HXS.out; exact this)
              have f4 : Frm [wr.heap.size] w3 (w3.setCells wr.heap.size 4 (pc (.slice pa x.root.ads.length pcp) x.root.b x.root.l x.root.s)) := Frm.setCells _ _ _ (Frm.refl _ _) (.inl (by simp))
              have O4 := Lib.hid (o3.keep f4 (fun i hi hm => by have := n3 i hi; simp at this hm; omega))
              have F4 := Lib.hid (show Frm [] wr (w3.setCells wr.heap.size 4 (pc (.slice pa x.root.ads.length pcp) x.root.b x.root.l x.root.s)) from (F2.out.trans f3 (by simp)).trans f4 (fun i hi => .inr (by simp at hi; omega)))
              have N4 := Lib.hid (show ∀ i ∈ blk (.slice pa x.root.ads.length pcp), wr.heap.size < i from fun i hi => by have := n3 i hi; simp at this; omega)
              clear o3 f3 n3 f4 X3 F2
              generalize w3.setCells wr.heap.size 4 (pc (.slice pa x.root.ads.length pcp) x.root.b x.root.l x.root.s) = w4 at *
              have T4 := Lib.hid (HT.out.keep0 F4.out)
              have B4 := Lib.hid (HB.out.keep0 F4.out)
              have d4 := B4.out.gets.recs
              have XA := Lib.hid X4.out.gets.all
              have RO := Lib.hid (⟨pa, pcp, psp, rfl, O4.out, HXS.out⟩ : RowO w4 (rowR (.slice pa x.root.ads.length pcp) rfl x HXS.out) x)
              have HTK := Lib.hid (show (t.recs.take k).length = k by simp; omega)
              go_wp2_with (first
                | ((with_reducible (show wpList _ _ _ (Oper.mk _ (Op.load 56 _) _ _ _ _ :: _) _ _)); refine wpList_load_g (by rfl) 56 _ rfl _ rfl XA.out ?_)
                | ((with_reducible (show wpList _ _ _ (Oper.mk _ (Op.buildSlice 22 1 _) _ _ _ _ :: _ :: _) _ _)); refine wpList_tl (x := rowR (.slice pa x.root.ads.length pcp) rfl x HXS.out) (u := x) T4.out (by rw [HTK.out]; omega) RO.out (fun j hj hm => by have h1 := N4.out j hj; have h2 := (HT.out.lo j hm).2; omega) (fun j hj => by have h1 := N4.out j hj; have := HF.out.size; omega) (Nat.le_trans HF.out.size F4.out.size) rfl rfl (.tmp 33) (.tmp 32) (.tmp 34) 34 rfl rfl rfl rfl rfl rfl ?_; intro a6 c6 w6 t6 f6 n6; rw [HTK.out] at t6 n6 ⊢; have b6 := B4.out.keep f6 (fun hm => by have := (HT.out.lo _ (HT.out.inv _ hm)).1; have := LT.out; omega); have e6 := b6.gets.recs; have z6 := b6.fz 1))
              go_roundw
              case rel =>
                have hset : Frm [g3] w6 (w6.setCell ⟨g3, 1, none⟩ (.slice a6 (k + 1) c6)) := (Frm.refl [g3] w6).setCell _ _ (.inl (by simp))
                refine ⟨k + 1, rs ++ [rowR (.slice pa x.root.ads.length pcp) rfl x HXS.out], rb (rowR (.slice pa x.root.ads.length pcp) rfl x HXS.out) ++ blk (.slice a6 (k + 1) c6) ++ B, .slice a6 (k + 1) c6, by omega, by go_num, ?_, ?_, ((HF.out.trans F4.out (by simp)).trans f6 (fun i hi => .inr (HT.out.lo i (HT.out.inv i hi)).1)).trans hset (by simp)⟩
                · rw [TK.out]; exact TB.setRecs b6 _ _
                · rw [TK.out]
                  exact t6.keep hset (fun i hi hm => by have := (t6.lo i hm).1; have := LT.out; simp at hi; omega)
              case measure => simp [intOf]; omega
            · obtain rfl : k = t.recs.length := by omega
              rw [List.take_length] at HB HT
              have b9 := HB.out.gets.all
              have B9 := Lib.hid b9
              have R9 := Lib.hid (B2V.out.keep HF.out (by have := NG.out; have := LT.out; simp; omega))
              have V9 := Lib.hid (show vr.oneCell' = true ∧ (Value.slice x7 t.lives.length c7).oneCell' = true from ⟨by obtain ⟨_, _, e⟩ := HT.out.form; rw [e]; rfl, rfl⟩)
              clear b9
              go_wp2_with (first
                | ((with_reducible (show wpList _ _ _ (Oper.mk _ (Op.load 27 _) _ _ _ _ :: _) _ _)); refine wpList_load_g (by rfl) 27 _ rfl _ rfl B9.out ?_)
                | ((with_reducible (show wpList _ _ _ (Oper.mk _ (Op.store 27 _ _) _ _ _ _ :: _) _ _)); refine wpList_store27 rfl (.tmp 2) (.tmp 37) rfl V9.out.1 V9.out.2 R9.out rfl rfl ?_; intro W9 m9 f9))
              refine bodyPost_ret (results_cell_row (p := 2) rfl _ _ (w.heap.size + 1) 27 _ (0, 0) _ rfl m9 Tryz.underlying27 rfl (by rw [i27]; simp [tc])) rfl ?_
              refine ⟨vr, _, rfl, ⟨rs, B, sp7, ?_, ?_, ?_⟩, ?_⟩
              · exact (HT.out.keep f9 (fun i hi hm => by have := (HT.out.lo i hm).1; have := LT.out; simp at hi; omega)).base (by have := LT.out; omega)
              · exact (O7.out.keep HF.out (fun i hi hm => by have := NG.out.2.1; simp at hm; subst hm; exact this hi)).keep f9 (fun i hi hm => by have := NG.out.2.2 i hi; have := LT.out; simp at hm; omega)
              · exact fun i hi => ⟨by have := NG.out.2.2 i hi; have := LT.out; omega, fun hm => by have := (HT.out.lo i hm).1; have := O7.out.lt i hi; omega⟩
              · exact (((F1.out.trans FV.out (by simp)).trans HF.out (fun i hi => by have := NG.out; have := LT.out; simp at hi; omega))).trans f9 (fun i hi => by simp at hi; omega)
        exact AllReadyH.nil
      exact AllReadyH.nil
    refine AllReadyH.cons (o := ⟨some 3, .alloc 27, _, _, _, none⟩) rfl (fun K hK => ?_) ?_
    · refine step_alloc27 rfl rfl ?_
      intro g3 w9 m9 f9 n9
      refine hK.out _ _ ?_ (fun hNext => ?_)
      · exact hHeld.keep0 f9
      clear hK K hHeld
      have hHeld := hNext
      clear hNext
      try simp only [Act.put, List.setIfInBounds_toArray, List.set_cons_zero, List.set_cons_succ]
      refine wpAnyH_ready (rs := [7]) (by kernel_rfl) (by simp) ?_
      refine AllReadyH.cons (o := ⟨some 13, .call { callee := .builtin .append, args := #[.tmp 10, .tmp 12], argTypes := #[25, 25] }, _, _, _, none⟩) rfl (fun K hK => ?_) ?_
      · have hsl := HL0.out _ (F1.out.trans (f4.trans f9 (by simp)) (by simp))
        refine step_app25 (o4.keep0 f9) hsl (by simp; have := HL8.out; omega) rfl (.tmp 10) (.tmp 12) rfl rfl rfl (n := t.lives.length) (by simp) ?_
        intro x7 c7 w7 sp7 o7 f7 n7
        rw [List.nil_append] at o7
        refine hK.out _ _ ?_ (fun hNext => ?_)
        · exact hHeld.keep f7 (fun hm => by have := n4 _ hm; have := B1.out.lt; omega)
        clear hK K hHeld
        have hHeld := hNext
        clear hNext
        try simp only [Act.put, List.setIfInBounds_toArray, List.set_cons_zero, List.set_cons_succ]
        refine wpAnyH_take (i := 8) (oi := ⟨some 14, .build 27 #[(0, .tmp 7), (2, .tmp 9), (3, .tmp 13)], _, _, _, none⟩) rfl (by kernel_rfl) (by kernel_rfl) (by kernel_rfl) (fun _ _ _ h => h) (Or.inl ⟨by rfl, fun z hSw => exec_bld27c (.tmp 7) (.tmp 9) (.tmp 13) rfl rfl rfl rfl z⟩) hHeld ?_
        try simp only [Act.put, List.setIfInBounds_toArray, List.set_cons_zero, List.set_cons_succ]
        refine wpAnyH_ready (rs := [10]) (by kernel_rfl) (by simp) ?_
        refine AllReadyH.cons (o := ⟨none, .store 27 (.tmp 3) (.tmp 14), _, _, _, none⟩) rfl (fun K hK => ?_) ?_
        · have m8 := m9.keep f7 (fun hm => by have h1 := o4.lt _ hm; omega)
          have o8 := o7
          have f8 : Frm [] W.drew w7 := (f4.trans f9 (by simp)).trans f7 (fun i hi => .inr (n4 i hi))
          have n8 : W.drew.heap.size ≤ g3 ∧ g3 ∉ blk (.slice x7 t.lives.length c7) ∧ (∀ k ∈ blk (.slice x7 t.lives.length c7), W.drew.heap.size ≤ k) := ⟨Nat.le_trans f4.size n9, fun hm => by {have h1 := n7 _ hm; have := m9.lt; rcases h1 with h1 | h1; (have := o4.lt _ h1; omega); omega}, fun k hk => by {have := f9.size; have := f4.size; rcases n7 k hk with h1 | h1; (have := n4 k h1; omega); omega}⟩
          have hv7 : (Value.slice x7 t.lives.length c7).oneCell' = true := rfl
          refine step_store27 rfl (.tmp 3) (.tmp 14) rfl (vr := nilS) (vl := .slice x7 t.lives.length c7) (t := ⟨t.next, [], t.cur, t.lives⟩) rfl hv7 m8 rfl rfl (fun V m10 f11 => ?_)
          have o10 := o8.keep f11 (fun i hi hm => n8.2.1 (by simp at hm; rw [← hm]; exact hi))
          have f10 : Frm [] W.drew V := f8.trans f11 (fun i hi => by simp at hi; rw [hi]; exact .inr n8.1)
          have n10 := n8
          refine hK.out _ _ ?_ (fun hNext => ?_)
          · exact hHeld.keep f11 (by have := n8.1; have := B1.out.lt; simp; omega)
          clear hK K hHeld
          have hHeld := hNext
          clear hNext
          try simp only [Act.put, List.setIfInBounds_toArray, List.set_cons_zero, List.set_cons_succ]
          refine wpAnyH_done (by kernel_rfl) ?_ _
          clear hHeld
          have hG := Lib.hid (show TB V g3 nilS (.slice x7 t.lives.length c7) ⟨t.next, [], t.cur, t.lives⟩ from m10)
          have O7 := Lib.hid (show OwnE eI 1 3 V (.slice x7 t.lives.length c7) t.lives sp7 from o10)
          have FV := Lib.hid (show Frm [] W.drew V from f10)
          have NG := Lib.hid (show W.drew.heap.size ≤ g3 ∧ g3 ∉ blk (.slice x7 t.lives.length c7) ∧ (∀ k ∈ blk (.slice x7 t.lives.length c7), W.drew.heap.size ≤ k) from n10)
          have BV := Lib.hid (B1.out.keep0 FV.out)
          have B2V := Lib.hid (B2.out.keep0 FV.out)
          have RV0 := Lib.hid (HR0.out V (F1.out.trans FV.out (by simp)))
          have LT := Lib.hid (show W.drew.heap.size ≤ V.heap.size ∧ g3 < V.heap.size ∧ w.heap.size + 1 < W.drew.heap.size from ⟨FV.out.size, hG.out.lt, B2.out.lt⟩)
          clear m10 o10 f10 n10
          generalize W.drew = D at *
          go_upto_region 3 with (fail)
          go_loopw [4] (CpRel V g3 (.slice x7 t.lives.length c7) t) (fun c _ => t.recs.length - (intOf c).toNat)
          case atStart => exact ⟨0, [], [], nilS, Nat.zero_le _, rfl, hG.out, Tl.nil V, Frm.refl _ _⟩
          case round =>
            obtain ⟨k, rs, B, vr, hk, rfl, hB, hT, hF⟩ := hrel
            have BK := Lib.hid (BV.out.keep hF (by have := NG.out; have := LT.out; simp; omega))
            have d1 := BK.out.gets.recs
            have HB := Lib.hid hB
            have HT := Lib.hid hT
            have HF := Lib.hid hF
            clear hB hT hF
            by_cases hlt : k < t.recs.length
            · have hlt9 : (k : Int) < (t.recs.length : Int) := by omega
              have FW := Lib.hid (show Frm [] D wr from FV.out.trans HF.out (fun i hi => by have := NG.out; simp at hi; omega))
              have RW := Lib.hid (HR0.out wr (F1.out.trans FW.out (by simp)))
              obtain ⟨b, off, cp, e⟩ := RW.out.at (by omega)
              injection e with e1 e2 e3
              subst e1; subst e3
              obtain ⟨xa, xc, G, XV⟩ := RW.out.gets k hlt
              have GA := Lib.hid G.all
              obtain ⟨ya, yc, ysp, hyy, hyS, hys⟩ := XV
              have hx : RecV wr (rv (.slice xa (t.recs[k]).root.ads.length xc) t.recs[k]) t.recs[k] := ⟨ya, yc, ysp, hyy, hyS, hys⟩
              obtain ⟨xv2, hxv2, _, hPt, _⟩ := hx.box
              have hxe : xv2 = .slice xa (t.recs[k]).root.ads.length xc := by
                have := hxv2
                simp only [rv, Value.agg.injEq, List.toArray_inj, rc, List.cons.injEq, true_and] at this
                have h := this
                simp [pc] at h
                exact h.symm
              rw [hxe] at hPt
              have HXS := Lib.hid hys
              have HPT := Lib.hid (fun z (f : Frm [] wr z) => hPt.keep0 f)
              have HXA := Lib.hid (show (t.recs[k]).root.ads.length ≤ 1000000 from (HFT.out.all _ (List.getElem_mem _)).ads)
              have TK := Lib.hid (show t.recs.take (k + 1) = t.recs.take k ++ [t.recs[k]] from by rw [List.take_succ_eq_append_getElem hlt])
              obtain ⟨x, hx0⟩ : ∃ x, t.recs[k] = x := ⟨_, rfl⟩
              rw [hx0] at GA HXS HPT HXA TK
              clear G hyy hyS hys hx hxv2 hPt hxe hx0
              have f2 : Frm [] wr (wr.alloc (.cells (rc (.slice xa x.root.ads.length xc) x).toArray 56)) := (Frm.refl [] wr).alloc _
              have X2 := Lib.hid (RB.new (w := wr) (v := .slice xa x.root.ads.length xc) HXS.out)
              have XR := Lib.hid X2.out.gets.root
              have HPC := Lib.hid (Pt.CopyP_any _ x.root _ (HPT.out _ f2) HXA.out)
              unfold Pt.OwnP at HPC
              have F2 := Lib.hid f2
              clear f2
              go_upto_region 7 with (first
                | ((with_reducible (show wpList _ _ _ (Oper.mk _ (Op.load 56 _) _ _ _ _ :: _) _ _)); refine wpList_load_g (by rfl) 56 _ rfl _ rfl GA.out ?_)
                | ((with_reducible (show wpList _ _ _ (Oper.mk _ (Op.alloc 56) _ _ _ _ :: _) _ _)); refine wpList_lay56 rfl rfl rfl (.tmp 5) (.tmp 26) rfl (v := .slice xa x.root.ads.length xc) rfl HXS.out rfl rfl ?_)
                | ((with_reducible (show wpList _ _ _ (Oper.mk _ (Op.load 54 _) _ _ _ _ :: _) _ _)); refine wpList_load_g (by rfl) 54 _ rfl _ rfl XR.out ?_)
                | (go_at_call 40; refine HPC.out.mono ?_; rintro e w3 ⟨pa, pcp, psp, rfl, o3, f3, n3⟩; have X3 := Lib.hid (X2.out.keep0 f3))
                | ((with_reducible (show wpList _ _ _ (Oper.mk _ (Op.store 54 _ _) _ _ _ _ :: _) _ _)); refine wpList_store_mid rfl 54 (.tmp 30) (.tmp 29) rfl wr.heap.size 4 (pc (.slice pa x.root.ads.length pcp) x.root.b x.root.l x.root.s).toArray rfl rfl (by rw [Pt.pc_size, HXS.out]; exact X3.out.there) (by rw [Pt.i26, Pt.pc_size, HXS.out]) (Pt.pc_one _ _ _) ?_))
              have X4 := Lib.hid (show RB (w3.setCells wr.heap.size 4 (pc (.slice pa x.root.ads.length pcp) x.root.b x.root.l x.root.s)) wr.heap.size (.slice pa x.root.ads.length pcp) x from by have := X3.out.setRoot (v' := .slice pa x.root.ads.length pcp) x.root HXS.out; exact this)
              have f4 : Frm [wr.heap.size] w3 (w3.setCells wr.heap.size 4 (pc (.slice pa x.root.ads.length pcp) x.root.b x.root.l x.root.s)) := Frm.setCells _ _ _ (Frm.refl _ _) (.inl (by simp))
              have O4 := Lib.hid (o3.keep f4 (fun i hi hm => by have := n3 i hi; simp at this hm; omega))
              have F4 := Lib.hid (show Frm [] wr (w3.setCells wr.heap.size 4 (pc (.slice pa x.root.ads.length pcp) x.root.b x.root.l x.root.s)) from (F2.out.trans f3 (by simp)).trans f4 (fun i hi => .inr (by simp at hi; omega)))
              have N4 := Lib.hid (show ∀ i ∈ blk (.slice pa x.root.ads.length pcp), wr.heap.size < i from fun i hi => by have := n3 i hi; simp at this; omega)
              clear o3 f3 n3 f4 X3 F2
              generalize w3.setCells wr.heap.size 4 (pc (.slice pa x.root.ads.length pcp) x.root.b x.root.l x.root.s) = w4 at *
              have T4 := Lib.hid (HT.out.keep0 F4.out)
              have B4 := Lib.hid (HB.out.keep0 F4.out)
              have d4 := B4.out.gets.recs
              have XA := Lib.hid X4.out.gets.all
              have RO := Lib.hid (⟨pa, pcp, psp, rfl, O4.out, HXS.out⟩ : RowO w4 (rowR (.slice pa x.root.ads.length pcp) rfl x HXS.out) x)
              have HTK := Lib.hid (show (t.recs.take k).length = k by simp; omega)
              go_wp2_with (first
                | ((with_reducible (show wpList _ _ _ (Oper.mk _ (Op.load 56 _) _ _ _ _ :: _) _ _)); refine wpList_load_g (by rfl) 56 _ rfl _ rfl XA.out ?_)
                | ((with_reducible (show wpList _ _ _ (Oper.mk _ (Op.buildSlice 22 1 _) _ _ _ _ :: _ :: _) _ _)); refine wpList_tl (x := rowR (.slice pa x.root.ads.length pcp) rfl x HXS.out) (u := x) T4.out (by rw [HTK.out]; omega) RO.out (fun j hj hm => by have h1 := N4.out j hj; have h2 := (HT.out.lo j hm).2; omega) (fun j hj => by have h1 := N4.out j hj; have := HF.out.size; omega) (Nat.le_trans HF.out.size F4.out.size) rfl rfl (.tmp 33) (.tmp 32) (.tmp 34) 34 rfl rfl rfl rfl rfl rfl ?_; intro a6 c6 w6 t6 f6 n6; rw [HTK.out] at t6 n6 ⊢; have b6 := B4.out.keep f6 (fun hm => by have := (HT.out.lo _ (HT.out.inv _ hm)).1; have := LT.out; omega); have e6 := b6.gets.recs; have z6 := b6.fz 1))
              go_roundw
              case rel =>
                have hset : Frm [g3] w6 (w6.setCell ⟨g3, 1, none⟩ (.slice a6 (k + 1) c6)) := (Frm.refl [g3] w6).setCell _ _ (.inl (by simp))
                refine ⟨k + 1, rs ++ [rowR (.slice pa x.root.ads.length pcp) rfl x HXS.out], rb (rowR (.slice pa x.root.ads.length pcp) rfl x HXS.out) ++ blk (.slice a6 (k + 1) c6) ++ B, .slice a6 (k + 1) c6, by omega, by go_num, ?_, ?_, ((HF.out.trans F4.out (by simp)).trans f6 (fun i hi => .inr (HT.out.lo i (HT.out.inv i hi)).1)).trans hset (by simp)⟩
                · rw [TK.out]; exact TB.setRecs b6 _ _
                · rw [TK.out]
                  exact t6.keep hset (fun i hi hm => by have := (t6.lo i hm).1; have := LT.out; simp at hi; omega)
              case measure => simp [intOf]; omega
            · obtain rfl : k = t.recs.length := by omega
              rw [List.take_length] at HB HT
              have b9 := HB.out.gets.all
              have B9 := Lib.hid b9
              have R9 := Lib.hid (B2V.out.keep HF.out (by have := NG.out; have := LT.out; simp; omega))
              have V9 := Lib.hid (show vr.oneCell' = true ∧ (Value.slice x7 t.lives.length c7).oneCell' = true from ⟨by obtain ⟨_, _, e⟩ := HT.out.form; rw [e]; rfl, rfl⟩)
              clear b9
              go_wp2_with (first
                | ((with_reducible (show wpList _ _ _ (Oper.mk _ (Op.load 27 _) _ _ _ _ :: _) _ _)); refine wpList_load_g (by rfl) 27 _ rfl _ rfl B9.out ?_)
                | ((with_reducible (show wpList _ _ _ (Oper.mk _ (Op.store 27 _ _) _ _ _ _ :: _) _ _)); refine wpList_store27 rfl (.tmp 2) (.tmp 37) rfl V9.out.1 V9.out.2 R9.out rfl rfl ?_; intro W9 m9 f9))
              refine bodyPost_ret (results_cell_row (p := 2) rfl _ _ (w.heap.size + 1) 27 _ (0, 0) _ rfl m9 Tryz.underlying27 rfl (by rw [i27]; simp [tc])) rfl ?_
              refine ⟨vr, _, rfl, ⟨rs, B, sp7, ?_, ?_, ?_⟩, ?_⟩
              · exact (HT.out.keep f9 (fun i hi hm => by have := (HT.out.lo i hm).1; have := LT.out; simp at hi; omega)).base (by have := LT.out; omega)
              · exact (O7.out.keep HF.out (fun i hi hm => by have := NG.out.2.1; simp at hm; subst hm; exact this hi)).keep f9 (fun i hi hm => by have := NG.out.2.2 i hi; have := LT.out; simp at hm; omega)
              · exact fun i hi => ⟨by have := NG.out.2.2 i hi; have := LT.out; omega, fun hm => by have := (HT.out.lo i hm).1; have := O7.out.lt i hi; omega⟩
              · exact (((F1.out.trans FV.out (by simp)).trans HF.out (fun i hi => by have := NG.out; have := LT.out; simp at hi; omega))).trans f9 (fun i hi => by simp at hi; omega)
        exact AllReadyH.nil
      exact AllReadyH.nil
    exact AllReadyH.nil
  refine AllReadyH.cons (o := ⟨some 3, .alloc 27, _, _, _, none⟩) rfl (fun K hK => ?_) ?_
  · refine step_alloc27 rfl rfl ?_
    intro g3 w9 m9 f9 n9
    refine hK.out _ _ ?_ (fun hNext => ?_)
    · exact hHeld.keep0 f9
    clear hK K hHeld
    have hHeld := hNext
    clear hNext
    try simp only [Act.put, List.setIfInBounds_toArray, List.set_cons_zero, List.set_cons_succ]
    refine wpAnyH_ready (rs := [4]) (by kernel_rfl) (by simp) ?_
    refine AllReadyH.cons (o := ⟨some 10, .buildSlice 25 0 #[], _, _, _, none⟩) rfl (fun K hK => ?_) ?_
    · refine step_empty25 rfl rfl ?_
      intro v4 w4 o4 f4 n4
      refine hK.out _ _ ?_ (fun hNext => ?_)
      · exact hHeld.keep0 f4
      clear hK K hHeld
      have hHeld := hNext
      clear hNext
      try simp only [Act.put, List.setIfInBounds_toArray, List.set_cons_zero, List.set_cons_succ]
      refine wpAnyH_ready (rs := [7]) (by kernel_rfl) (by simp) ?_
      refine AllReadyH.cons (o := ⟨some 13, .call { callee := .builtin .append, args := #[.tmp 10, .tmp 12], argTypes := #[25, 25] }, _, _, _, none⟩) rfl (fun K hK => ?_) ?_
      · have hsl := HL0.out _ (F1.out.trans (f9.trans f4 (by simp)) (by simp))
        refine step_app25 o4 hsl (by simp; have := HL8.out; omega) rfl (.tmp 10) (.tmp 12) rfl rfl rfl (n := t.lives.length) (by simp) ?_
        intro x7 c7 w7 sp7 o7 f7 n7
        rw [List.nil_append] at o7
        refine hK.out _ _ ?_ (fun hNext => ?_)
        · exact hHeld.keep f7 (fun hm => by have := n4 _ hm; have := B1.out.lt; have := f9.size; omega)
        clear hK K hHeld
        have hHeld := hNext
        clear hNext
        try simp only [Act.put, List.setIfInBounds_toArray, List.set_cons_zero, List.set_cons_succ]
        refine wpAnyH_take (i := 8) (oi := ⟨some 14, .build 27 #[(0, .tmp 7), (2, .tmp 9), (3, .tmp 13)], _, _, _, none⟩) rfl (by kernel_rfl) (by kernel_rfl) (by kernel_rfl) (fun _ _ _ h => h) (Or.inl ⟨by rfl, fun z hSw => exec_bld27c (.tmp 7) (.tmp 9) (.tmp 13) rfl rfl rfl rfl z⟩) hHeld ?_
        try simp only [Act.put, List.setIfInBounds_toArray, List.set_cons_zero, List.set_cons_succ]
        refine wpAnyH_ready (rs := [10]) (by kernel_rfl) (by simp) ?_
        refine AllReadyH.cons (o := ⟨none, .store 27 (.tmp 3) (.tmp 14), _, _, _, none⟩) rfl (fun K hK => ?_) ?_
        · have m8 := (m9.keep0 f4).keep f7 (fun hm => by have := n4 _ hm; have := m9.lt; omega)
          have o8 := o7
          have f8 : Frm [] W.drew w7 := (f9.trans f4 (by simp)).trans f7 (fun i hi => .inr (Nat.le_trans f9.size (n4 i hi)))
          have n8 : W.drew.heap.size ≤ g3 ∧ g3 ∉ blk (.slice x7 t.lives.length c7) ∧ (∀ k ∈ blk (.slice x7 t.lives.length c7), W.drew.heap.size ≤ k) := ⟨n9, fun hm => by {have h1 := n7 _ hm; have := m9.lt; have := f4.size; rcases h1 with h1 | h1; (have := n4 _ h1; omega); omega}, fun k hk => by {have := f9.size; have := f4.size; rcases n7 k hk with h1 | h1; (have := n4 k h1; omega); omega}⟩
          have hv7 : (Value.slice x7 t.lives.length c7).oneCell' = true := rfl
          refine step_store27 rfl (.tmp 3) (.tmp 14) rfl (vr := nilS) (vl := .slice x7 t.lives.length c7) (t := ⟨t.next, [], t.cur, t.lives⟩) rfl hv7 m8 rfl rfl (fun V m10 f11 => ?_)
          have o10 := o8.keep f11 (fun i hi hm => n8.2.1 (by simp at hm; rw [← hm]; exact hi))
          have f10 : Frm [] W.drew V := f8.trans f11 (fun i hi => by simp at hi; rw [hi]; exact .inr n8.1)
          have n10 := n8
          refine hK.out _ _ ?_ (fun hNext => ?_)
          · exact hHeld.keep f11 (by have := n8.1; have := B1.out.lt; simp; omega)
          clear hK K hHeld
          have hHeld := hNext
          clear hNext
          try simp only [Act.put, List.setIfInBounds_toArray, List.set_cons_zero, List.set_cons_succ]
          refine wpAnyH_done (by kernel_rfl) ?_ _
          clear hHeld
          have hG := Lib.hid (show TB V g3 nilS (.slice x7 t.lives.length c7) ⟨t.next, [], t.cur, t.lives⟩ from m10)
          have O7 := Lib.hid (show OwnE eI 1 3 V (.slice x7 t.lives.length c7) t.lives sp7 from o10)
          have FV := Lib.hid (show Frm [] W.drew V from f10)
          have NG := Lib.hid (show W.drew.heap.size ≤ g3 ∧ g3 ∉ blk (.slice x7 t.lives.length c7) ∧ (∀ k ∈ blk (.slice x7 t.lives.length c7), W.drew.heap.size ≤ k) from n10)
          have BV := Lib.hid (B1.out.keep0 FV.out)
          have B2V := Lib.hid (B2.out.keep0 FV.out)
          have RV0 := Lib.hid (HR0.out V (F1.out.trans FV.out (by simp)))
          have LT := Lib.hid (show W.drew.heap.size ≤ V.heap.size ∧ g3 < V.heap.size ∧ w.heap.size + 1 < W.drew.heap.size from ⟨FV.out.size, hG.out.lt, B2.out.lt⟩)
          clear m10 o10 f10 n10
          generalize W.drew = D at *
          go_upto_region 3 with (fail)
          go_loopw [4] (CpRel V g3 (.slice x7 t.lives.length c7) t) (fun c _ => t.recs.length - (intOf c).toNat)
          case atStart => exact ⟨0, [], [], nilS, Nat.zero_le _, rfl, hG.out, Tl.nil V, Frm.refl _ _⟩
          case round =>
            obtain ⟨k, rs, B, vr, hk, rfl, hB, hT, hF⟩ := hrel
            have BK := Lib.hid (BV.out.keep hF (by have := NG.out; have := LT.out; simp; omega))
            have d1 := BK.out.gets.recs
            have HB := Lib.hid hB
            have HT := Lib.hid hT
            have HF := Lib.hid hF
            clear hB hT hF
            by_cases hlt : k < t.recs.length
            · have hlt9 : (k : Int) < (t.recs.length : Int) := by omega
              have FW := Lib.hid (show Frm [] D wr from FV.out.trans HF.out (fun i hi => by have := NG.out; simp at hi; omega))
              have RW := Lib.hid (HR0.out wr (F1.out.trans FW.out (by simp)))
              obtain ⟨b, off, cp, e⟩ := RW.out.at (by omega)
              injection e with e1 e2 e3
              subst e1; subst e3
              obtain ⟨xa, xc, G, XV⟩ := RW.out.gets k hlt
              have GA := Lib.hid G.all
              obtain ⟨ya, yc, ysp, hyy, hyS, hys⟩ := XV
              have hx : RecV wr (rv (.slice xa (t.recs[k]).root.ads.length xc) t.recs[k]) t.recs[k] := ⟨ya, yc, ysp, hyy, hyS, hys⟩
              obtain ⟨xv2, hxv2, _, hPt, _⟩ := hx.box
              have hxe : xv2 = .slice xa (t.recs[k]).root.ads.length xc := by
                have := hxv2
                simp only [rv, Value.agg.injEq, List.toArray_inj, rc, List.cons.injEq, true_and] at this
                have h := this
                simp [pc] at h
                exact h.symm
              rw [hxe] at hPt
              have HXS := Lib.hid hys
              have HPT := Lib.hid (fun z (f : Frm [] wr z) => hPt.keep0 f)
              have HXA := Lib.hid (show (t.recs[k]).root.ads.length ≤ 1000000 from (HFT.out.all _ (List.getElem_mem _)).ads)
              have TK := Lib.hid (show t.recs.take (k + 1) = t.recs.take k ++ [t.recs[k]] from by rw [List.take_succ_eq_append_getElem hlt])
              obtain ⟨x, hx0⟩ : ∃ x, t.recs[k] = x := ⟨_, rfl⟩
              rw [hx0] at GA HXS HPT HXA TK
              clear G hyy hyS hys hx hxv2 hPt hxe hx0
              have f2 : Frm [] wr (wr.alloc (.cells (rc (.slice xa x.root.ads.length xc) x).toArray 56)) := (Frm.refl [] wr).alloc _
              have X2 := Lib.hid (RB.new (w := wr) (v := .slice xa x.root.ads.length xc) HXS.out)
              have XR := Lib.hid X2.out.gets.root
              have HPC := Lib.hid (Pt.CopyP_any _ x.root _ (HPT.out _ f2) HXA.out)
              unfold Pt.OwnP at HPC
              have F2 := Lib.hid f2
              clear f2
              go_upto_region 7 with (first
                | ((with_reducible (show wpList _ _ _ (Oper.mk _ (Op.load 56 _) _ _ _ _ :: _) _ _)); refine wpList_load_g (by rfl) 56 _ rfl _ rfl GA.out ?_)
                | ((with_reducible (show wpList _ _ _ (Oper.mk _ (Op.alloc 56) _ _ _ _ :: _) _ _)); refine wpList_lay56 rfl rfl rfl (.tmp 5) (.tmp 26) rfl (v := .slice xa x.root.ads.length xc) rfl HXS.out rfl rfl ?_)
                | ((with_reducible (show wpList _ _ _ (Oper.mk _ (Op.load 54 _) _ _ _ _ :: _) _ _)); refine wpList_load_g (by rfl) 54 _ rfl _ rfl XR.out ?_)
                | (go_at_call 40; refine HPC.out.mono ?_; rintro e w3 ⟨pa, pcp, psp, rfl, o3, f3, n3⟩; have X3 := Lib.hid (X2.out.keep0 f3))
                | ((with_reducible (show wpList _ _ _ (Oper.mk _ (Op.store 54 _ _) _ _ _ _ :: _) _ _)); refine wpList_store_mid rfl 54 (.tmp 30) (.tmp 29) rfl wr.heap.size 4 (pc (.slice pa x.root.ads.length pcp) x.root.b x.root.l x.root.s).toArray rfl rfl (by rw [Pt.pc_size, HXS.out]; exact X3.out.there) (by rw [Pt.i26, Pt.pc_size, HXS.out]) (Pt.pc_one _ _ _) ?_))
              have X4 := Lib.hid (show RB (w3.setCells wr.heap.size 4 (pc (.slice pa x.root.ads.length pcp) x.root.b x.root.l x.root.s)) wr.heap.size (.slice pa x.root.ads.length pcp) x from by have := X3.out.setRoot (v' := .slice pa x.root.ads.length pcp) x.root HXS.out; exact this)
              have f4 : Frm [wr.heap.size] w3 (w3.setCells wr.heap.size 4 (pc (.slice pa x.root.ads.length pcp) x.root.b x.root.l x.root.s)) := Frm.setCells _ _ _ (Frm.refl _ _) (.inl (by simp))
              have O4 := Lib.hid (o3.keep f4 (fun i hi hm => by have := n3 i hi; simp at this hm; omega))
              have F4 := Lib.hid (show Frm [] wr (w3.setCells wr.heap.size 4 (pc (.slice pa x.root.ads.length pcp) x.root.b x.root.l x.root.s)) from (F2.out.trans f3 (by simp)).trans f4 (fun i hi => .inr (by simp at hi; omega)))
              have N4 := Lib.hid (show ∀ i ∈ blk (.slice pa x.root.ads.length pcp), wr.heap.size < i from fun i hi => by have := n3 i hi; simp at this; omega)
              clear o3 f3 n3 f4 X3 F2
              generalize w3.setCells wr.heap.size 4 (pc (.slice pa x.root.ads.length pcp) x.root.b x.root.l x.root.s) = w4 at *
              have T4 := Lib.hid (HT.out.keep0 F4.out)
              have B4 := Lib.hid (HB.out.keep0 F4.out)
              have d4 := B4.out.gets.recs
              have XA := Lib.hid X4.out.gets.all
              have RO := Lib.hid (⟨pa, pcp, psp, rfl, O4.out, HXS.out⟩ : RowO w4 (rowR (.slice pa x.root.ads.length pcp) rfl x HXS.out) x)
              have HTK := Lib.hid (show (t.recs.take k).length = k by simp; omega)
              go_wp2_with (first
                | ((with_reducible (show wpList _ _ _ (Oper.mk _ (Op.load 56 _) _ _ _ _ :: _) _ _)); refine wpList_load_g (by rfl) 56 _ rfl _ rfl XA.out ?_)
                | ((with_reducible (show wpList _ _ _ (Oper.mk _ (Op.buildSlice 22 1 _) _ _ _ _ :: _ :: _) _ _)); refine wpList_tl (x := rowR (.slice pa x.root.ads.length pcp) rfl x HXS.out) (u := x) T4.out (by rw [HTK.out]; omega) RO.out (fun j hj hm => by have h1 := N4.out j hj; have h2 := (HT.out.lo j hm).2; omega) (fun j hj => by have h1 := N4.out j hj; have := HF.out.size; omega) (Nat.le_trans HF.out.size F4.out.size) rfl rfl (.tmp 33) (.tmp 32) (.tmp 34) 34 rfl rfl rfl rfl rfl rfl ?_; intro a6 c6 w6 t6 f6 n6; rw [HTK.out] at t6 n6 ⊢; have b6 := B4.out.keep f6 (fun hm => by have := (HT.out.lo _ (HT.out.inv _ hm)).1; have := LT.out; omega); have e6 := b6.gets.recs; have z6 := b6.fz 1))
              go_roundw
              case rel =>
                have hset : Frm [g3] w6 (w6.setCell ⟨g3, 1, none⟩ (.slice a6 (k + 1) c6)) := (Frm.refl [g3] w6).setCell _ _ (.inl (by simp))
                refine ⟨k + 1, rs ++ [rowR (.slice pa x.root.ads.length pcp) rfl x HXS.out], rb (rowR (.slice pa x.root.ads.length pcp) rfl x HXS.out) ++ blk (.slice a6 (k + 1) c6) ++ B, .slice a6 (k + 1) c6, by omega, by go_num, ?_, ?_, ((HF.out.trans F4.out (by simp)).trans f6 (fun i hi => .inr (HT.out.lo i (HT.out.inv i hi)).1)).trans hset (by simp)⟩
                · rw [TK.out]; exact TB.setRecs b6 _ _
                · rw [TK.out]
                  exact t6.keep hset (fun i hi hm => by have := (t6.lo i hm).1; have := LT.out; simp at hi; omega)
              case measure => simp [intOf]; omega
            · obtain rfl : k = t.recs.length := by omega
              rw [List.take_length] at HB HT
              have b9 := HB.out.gets.all
              have B9 := Lib.hid b9
              have R9 := Lib.hid (B2V.out.keep HF.out (by have := NG.out; have := LT.out; simp; omega))
              have V9 := Lib.hid (show vr.oneCell' = true ∧ (Value.slice x7 t.lives.length c7).oneCell' = true from ⟨by obtain ⟨_, _, e⟩ := HT.out.form; rw [e]; rfl, rfl⟩)
              clear b9
              go_wp2_with (first
                | ((with_reducible (show wpList _ _ _ (Oper.mk _ (Op.load 27 _) _ _ _ _ :: _) _ _)); refine wpList_load_g (by rfl) 27 _ rfl _ rfl B9.out ?_)
                | ((with_reducible (show wpList _ _ _ (Oper.mk _ (Op.store 27 _ _) _ _ _ _ :: _) _ _)); refine wpList_store27 rfl (.tmp 2) (.tmp 37) rfl V9.out.1 V9.out.2 R9.out rfl rfl ?_; intro W9 m9 f9))
              refine bodyPost_ret (results_cell_row (p := 2) rfl _ _ (w.heap.size + 1) 27 _ (0, 0) _ rfl m9 Tryz.underlying27 rfl (by rw [i27]; simp [tc])) rfl ?_
              refine ⟨vr, _, rfl, ⟨rs, B, sp7, ?_, ?_, ?_⟩, ?_⟩
              · exact (HT.out.keep f9 (fun i hi hm => by have := (HT.out.lo i hm).1; have := LT.out; simp at hi; omega)).base (by have := LT.out; omega)
              · exact (O7.out.keep HF.out (fun i hi hm => by have := NG.out.2.1; simp at hm; subst hm; exact this hi)).keep f9 (fun i hi hm => by have := NG.out.2.2 i hi; have := LT.out; simp at hm; omega)
              · exact fun i hi => ⟨by have := NG.out.2.2 i hi; have := LT.out; omega, fun hm => by have := (HT.out.lo i hm).1; have := O7.out.lt i hi; omega⟩
              · exact (((F1.out.trans FV.out (by simp)).trans HF.out (fun i hi => by have := NG.out; have := LT.out; simp at hi; omega))).trans f9 (fun i hi => by simp at hi; omega)
        exact AllReadyH.nil
      exact AllReadyH.nil
    exact AllReadyH.nil
  exact AllReadyH.nil
end Go.Proofs.YtljhanhipmnioaaGreat.Rd

namespace Go.Proofs.YtljhanhipmnioaaGreat.Rd
open Go.RowKit
set_option linter.unusedVariables false
set_option linter.unusedSimpArgs false
set_option maxRecDepth 100000

open Pt (Pt may enc readPt readE zeroPt be4 be1 pc pv PtV SlA OwnA BT wpList_load_g heap_alloc_at lst_slB one_slB Ext Grew exec_slice_lh yieldsIf_ld)
open Kr (OwnE SlE Enco RowTys)

set_option maxHeartbeats 4000000 in
theorem RefSame_any (vr vl xr xl : Value) (t u : Tab) (w : World) (h : TabV w vr vl t) (k : TabV w xr xl u) (hf : FitT t) :
    Calls Tryz.prog 25 #[tv vr vl t, tv xr xl u] w fun e w' => e = .returned (.bool (sameT t u)) ∧ Frm [] w w' := by
  obtain ⟨h1, sp, h2⟩ := h
  obtain ⟨k1, sp2, k2⟩ := k
  have HF := Lib.hid hf
  have H1 := Lib.hid h1
  have K1 := Lib.hid k1
  have H2 := Lib.hid h2
  have K2 := Lib.hid k2
  have hl9 : (t.recs.length : Int) ≤ 1000 := by have := hf.recs; omega
  have hm9 : (t.lives.length : Int) ≤ 1000 := by have := hf.lives; omega
  obtain ⟨av, ac, rfl⟩ := h1.form
  obtain ⟨bv, bc, rfl⟩ := k1.form
  obtain ⟨lv, lc, rfl, _, _⟩ := h2.form
  obtain ⟨mv, mc, rfl, _, _⟩ := k2.form
  have hq := cur_neq t.cur u.cur
  have hg := cur_guard .neq
  clear h1 h2 k1 k2 hf

  unfold tv
  have f0 : Frm [] w (w.alloc (.cells (tc (.slice av t.recs.length ac) (.slice lv t.lives.length lc) t).toArray 27)) := (Frm.refl [] w).alloc _
  have B := Lib.hid (TB.new w (.slice av t.recs.length ac) (.slice lv t.lives.length lc) t)
  generalize (tc (.slice av t.recs.length ac) (.slice lv t.lives.length lc) t).toArray = A at *
  have f1 : Frm [] w ((w.alloc (.cells A 27)).alloc (.cells (tc (.slice bv u.recs.length bc) (.slice mv u.lives.length mc) u).toArray 27)) := f0.alloc _
  have B1 := Lib.hid (B.out.keep0 ((Frm.refl [] _).alloc (.cells (tc (.slice bv u.recs.length bc) (.slice mv u.lives.length mc) u).toArray 27)))
  have B2 := Lib.hid (TB.new (w.alloc (.cells A 27)) (.slice bv u.recs.length bc) (.slice mv u.lives.length mc) u)
  rw [show (w.alloc (.cells A 27)).heap.size = w.heap.size + 1 by simp] at B2
  generalize (tc (.slice bv u.recs.length bc) (.slice mv u.lives.length mc) u).toArray = A2 at *
  have HB1 := Lib.hid (fun z (f : Frm [] ((w.alloc (.cells A 27)).alloc (.cells A2 27)) z) => (B1.out.keep0 f).gets)
  have HB2 := Lib.hid (fun z (f : Frm [] ((w.alloc (.cells A 27)).alloc (.cells A2 27)) z) => (B2.out.keep0 f).gets)
  have F := Lib.hid f1
  clear f0 f1 B
  have G1 := HB1.out _ (Frm.refl _ _)
  have G2 := HB2.out _ (Frm.refl _ _)
  have a0 := G1.next
  have b0 := G2.next
  have a1 := G1.recs
  have b1 := G2.recs

  have a6 := G1.lives
  have b6 := G2.lives
  have CA := Lib.hid G1.cur
  have CB := Lib.hid G2.cur
  clear G1 G2 B1 B2
  unfold sameT
  by_cases q0 : t.next = u.next
  rotate_left
  · have e0 : (t.next == u.next) = false := by simpa using q0
    have e1 : (t.next != u.next) = true := by simpa [bne] using q0
    rw [e0]
    clear q0 e0
    go_enter Tryz.func25, Tryz.ntmps25
    go_upto_region 1 with (fail)
    generalize w.heap.size = g at *
    generalize (w.alloc (.cells A 27)).alloc (.cells A2 27) = W at *
    go_wp2_with (first
          | ((with_reducible (show wpList _ _ _ (Oper.mk (some 14) (Op.load 24 _) _ _ _ _ :: _) _ _)); refine wpList_load_g (by rfl) 24 _ rfl _ rfl CA.out ?_)
          | ((with_reducible (show wpList _ _ _ (Oper.mk (some 16) (Op.load 24 _) _ _ _ _ :: _) _ _)); refine wpList_load_g (by rfl) 24 _ rfl _ rfl CB.out ?_))
    go_ret
    exact ⟨by simp_all, F.out⟩
  have e0 : (t.next == u.next) = true := by simpa using q0
  have e0' : (t.next != u.next) = false := by simpa [bne] using q0
  clear q0
  cases q1 : curEq t.cur u.cur with
  | false =>
    rw [q1] at hq
    rw [e0]
    clear e0
    go_enter Tryz.func25, Tryz.ntmps25
    go_upto_region 1 with (fail)
    generalize w.heap.size = g at *
    generalize (w.alloc (.cells A 27)).alloc (.cells A2 27) = W at *
    go_wp2_with (first
          | ((with_reducible (show wpList _ _ _ (Oper.mk (some 14) (Op.load 24 _) _ _ _ _ :: _) _ _)); refine wpList_load_g (by rfl) 24 _ rfl _ rfl CA.out ?_)
          | ((with_reducible (show wpList _ _ _ (Oper.mk (some 16) (Op.load 24 _) _ _ _ _ :: _) _ _)); refine wpList_load_g (by rfl) 24 _ rfl _ rfl CB.out ?_))
    go_ret
    exact ⟨by simp_all, F.out⟩
  | true =>
    rw [q1] at hq
    by_cases q2 : t.recs.length = u.recs.length
    rotate_left
    · have e2 : (((t.recs.length : Nat) : Int) != ((u.recs.length : Nat) : Int)) = true := by simp [bne]; omega
      rw [e0, all2_len q2]
      clear q2 e0
      go_enter Tryz.func25, Tryz.ntmps25
      go_upto_region 1 with (fail)
      generalize w.heap.size = g at *
      generalize (w.alloc (.cells A 27)).alloc (.cells A2 27) = W at *
      go_wp2_with (first
            | ((with_reducible (show wpList _ _ _ (Oper.mk (some 14) (Op.load 24 _) _ _ _ _ :: _) _ _)); refine wpList_load_g (by rfl) 24 _ rfl _ rfl CA.out ?_)
            | ((with_reducible (show wpList _ _ _ (Oper.mk (some 16) (Op.load 24 _) _ _ _ _ :: _) _ _)); refine wpList_load_g (by rfl) 24 _ rfl _ rfl CB.out ?_))
      go_ret
      exact ⟨by simp_all, F.out⟩
    have e2 : (((t.recs.length : Nat) : Int) != ((u.recs.length : Nat) : Int)) = false := by simp [bne]; omega
    have QL := Lib.hid q2
    clear q2
    by_cases q3 : t.lives.length = u.lives.length
    rotate_left
    · have e3 : (((t.lives.length : Nat) : Int) != ((u.lives.length : Nat) : Int)) = true := by simp [bne]; omega
      have e4 : (t.lives == u.lives) = false := by rw [← all2_beq]; exact all2_len q3
      rw [e4]
      clear q3 e0 e4
      go_enter Tryz.func25, Tryz.ntmps25
      go_upto_region 1 with (fail)
      generalize w.heap.size = g at *
      generalize (w.alloc (.cells A 27)).alloc (.cells A2 27) = W at *
      go_wp2_with (first
            | ((with_reducible (show wpList _ _ _ (Oper.mk (some 14) (Op.load 24 _) _ _ _ _ :: _) _ _)); refine wpList_load_g (by rfl) 24 _ rfl _ rfl CA.out ?_)
            | ((with_reducible (show wpList _ _ _ (Oper.mk (some 16) (Op.load 24 _) _ _ _ _ :: _) _ _)); refine wpList_load_g (by rfl) 24 _ rfl _ rfl CB.out ?_))
      go_ret
      exact ⟨by simp, F.out⟩
    · have e3 : (((t.lives.length : Nat) : Int) != ((u.lives.length : Nat) : Int)) = false := by simp [bne]; omega
      have QM := Lib.hid q3
      rw [e0]
      clear q3 e0
      simp only [Bool.true_and]
      go_enter Tryz.func25, Tryz.ntmps25
      go_upto_region 1 with (fail)
      generalize w.heap.size = g at *
      generalize (w.alloc (.cells A 27)).alloc (.cells A2 27) = W at *
      go_upto_region 4 with (first
            | ((with_reducible (show wpList _ _ _ (Oper.mk (some 14) (Op.load 24 _) _ _ _ _ :: _) _ _)); refine wpList_load_g (by rfl) 24 _ rfl _ rfl CA.out ?_)
            | ((with_reducible (show wpList _ _ _ (Oper.mk (some 16) (Op.load 24 _) _ _ _ _ :: _) _ _)); refine wpList_load_g (by rfl) 24 _ rfl _ rfl CB.out ?_))
      have FB := Lib.hid (Frm.refl [] W)
      go_loopw [5] (A2Rel sameR t.recs u.recs W) (fun c _ => t.recs.length - (intOf c).toNat)
      case atStart => exact ⟨0, Nat.zero_le _, rfl, fun j _ _ hj => by omega, FB.out⟩
      case round =>
        obtain ⟨k, hk, rfl, hz, f⟩ := hrel
        have HZ := Lib.hid hz
        have FW := Lib.hid f
        have c1 := (HB1.out _ f).recs
        have d1 := (HB2.out _ f).recs
        have XA := Lib.hid (fun z (fz : Frm [] wr z) => (HB1.out _ (f.trans fz (by simp))).recs)
        have XB := Lib.hid (fun z (fz : Frm [] wr z) => (HB2.out _ (f.trans fz (by simp))).recs)
        clear hz f a0 b0 a1 b1 a6 b6
        by_cases hkl : k < t.recs.length
        · have hkm : k < u.recs.length := by have := QL.out; omega
          have hkl9 : (k : Int) < (t.recs.length : Int) := by omega
          have hkm9 : (k : Int) < (u.recs.length : Int) := by omega
          obtain ⟨pb, po, pc', e1⟩ := H1.out.at (by omega)
          obtain ⟨rb, ro, rc', e2⟩ := K1.out.at (by omega)
          injection e1 with e1 e1' e1''
          injection e2 with e2 e2' e2''
          subst e1 e2
          have fw : Frm [] w wr := F.out.trans FW.out (by simp)
          obtain ⟨xa, xc, GV1⟩ := (H1.out.keep0 fw).getsF k hkl
          obtain ⟨ya, yc, GV2⟩ := (K1.out.keep0 fw).getsF k hkm
          have L1 := Lib.hid (fun z (f : Frm [] wr z) => (GV1 z f).1.all)
          have L2 := Lib.hid (fun z (f : Frm [] wr z) => (GV2 z f).1.all)
          have HC := Lib.hid (fun z (f : Frm [] wr z) => alikeR_any _ _ _ _ z (GV1 z f).2 (GV2 z f).2 (HF.out.all _ (List.getElem_mem hkl)))
          have HM := Lib.hid (fun (hb : sameR t.recs[k] u.recs[k] = true) => a2_more HZ.out hkl hkm hb)
          have HNO := Lib.hid (fun (hb : sameR t.recs[k] u.recs[k] = false) => all2_no (f := sameR) hkl hkm hb)
          generalize sameR t.recs[k] u.recs[k] = sb at *
          clear GV1 GV2 fw e1' e1'' e2' e2''
          generalize t.recs[k] = x at *
          generalize u.recs[k] = y at *
          generalize rv (.slice xa x.root.ads.length xc) x = ux at *
          generalize rv (.slice ya y.root.ads.length yc) y = uy at *
          go_wp2_with fail
          refine wp_region_held_drew (S := fun z => Frm [] wr z) (by kernel_rfl) ((Frm.refl [] wr).drew) (fun hHeld => ?_)
          refine wpAnyH_take (i := 0) (oi := ⟨some 44, .fieldAddr 27 (.tmp 2) 1, _, _, _, none⟩) (v := ?_) rfl (by kernel_rfl) (by kernel_rfl) (by kernel_rfl) (fun _ _ _ h => h) (Or.inl ⟨by rfl, ?_⟩) hHeld ?_
          rotate_left
          focus (intro z hSw; clear hSw; go_simp; try with_reducible rfl)
          try simp only [Act.put, List.setIfInBounds_toArray, List.set_cons_zero, List.set_cons_succ]
          refine wpAnyH_take (i := 1) (oi := ⟨some 45, .load 22 (.tmp 44), _, _, _, none⟩) (v := ?_) rfl (by kernel_rfl) (by kernel_rfl) (by kernel_rfl) (fun _ _ _ h => h) (Or.inl ⟨by rfl, ?_⟩) hHeld ?_
          rotate_left
          focus (intro z hSw; have ct := XA.out z hSw; have cq := XB.out z hSw; clear hSw; go_simp; try with_reducible rfl)
          try simp only [Act.put, List.setIfInBounds_toArray, List.set_cons_zero, List.set_cons_succ]
          refine wpAnyH_take (i := 2) (oi := ⟨some 46, .move (.tmp 5), _, _, _, none⟩) (v := ?_) rfl (by kernel_rfl) (by kernel_rfl) (by kernel_rfl) (fun _ _ _ h => h) (Or.inl ⟨by rfl, ?_⟩) hHeld ?_
          rotate_left
          focus (intro z hSw; clear hSw; go_simp; try with_reducible rfl)
          try simp only [Act.put, List.setIfInBounds_toArray, List.set_cons_zero, List.set_cons_succ]
          refine wpAnyH_take (i := 3) (oi := ⟨some 47, .indexAddr 22 (.tmp 45) (.tmp 46), _, _, _, none⟩) (v := ?_) rfl (by kernel_rfl) (by kernel_rfl) (by kernel_rfl) (fun _ _ _ h => h) (Or.inl ⟨by rfl, ?_⟩) hHeld ?_
          rotate_left
          focus (intro z hSw; clear hSw; go_simp; try with_reducible rfl)
          try simp only [Act.put, List.setIfInBounds_toArray, List.set_cons_zero, List.set_cons_succ]
          refine wpAnyH_take (i := 4) (oi := ⟨some 48, .load 56 (.tmp 47), _, _, _, none⟩) rfl (by kernel_rfl) (by kernel_rfl) (by kernel_rfl) (fun _ _ _ h => h) (yieldsIf_ld (by rfl) 56 _ rfl _ rfl (fun z hSw => L1.out z hSw)) hHeld ?_
          try simp only [Act.put, List.setIfInBounds_toArray, List.set_cons_zero, List.set_cons_succ]
          refine wpAnyH_take (i := 5) (oi := ⟨some 49, .fieldAddr 27 (.tmp 3) 1, _, _, _, none⟩) (v := ?_) rfl (by kernel_rfl) (by kernel_rfl) (by kernel_rfl) (fun _ _ _ h => h) (Or.inl ⟨by rfl, ?_⟩) hHeld ?_
          rotate_left
          focus (intro z hSw; clear hSw; go_simp; try with_reducible rfl)
          try simp only [Act.put, List.setIfInBounds_toArray, List.set_cons_zero, List.set_cons_succ]
          refine wpAnyH_take (i := 6) (oi := ⟨some 50, .load 22 (.tmp 49), _, _, _, none⟩) (v := ?_) rfl (by kernel_rfl) (by kernel_rfl) (by kernel_rfl) (fun _ _ _ h => h) (Or.inl ⟨by rfl, ?_⟩) hHeld ?_
          rotate_left
          focus (intro z hSw; have ct := XA.out z hSw; have cq := XB.out z hSw; clear hSw; go_simp; try with_reducible rfl)
          try simp only [Act.put, List.setIfInBounds_toArray, List.set_cons_zero, List.set_cons_succ]
          refine wpAnyH_take (i := 7) (oi := ⟨some 51, .move (.tmp 5), _, _, _, none⟩) (v := ?_) rfl (by kernel_rfl) (by kernel_rfl) (by kernel_rfl) (fun _ _ _ h => h) (Or.inl ⟨by rfl, ?_⟩) hHeld ?_
          rotate_left
          focus (intro z hSw; clear hSw; go_simp; try with_reducible rfl)
          try simp only [Act.put, List.setIfInBounds_toArray, List.set_cons_zero, List.set_cons_succ]
          refine wpAnyH_take (i := 8) (oi := ⟨some 52, .indexAddr 22 (.tmp 50) (.tmp 51), _, _, _, none⟩) (v := ?_) rfl (by kernel_rfl) (by kernel_rfl) (by kernel_rfl) (fun _ _ _ h => h) (Or.inl ⟨by rfl, ?_⟩) hHeld ?_
          rotate_left
          focus (intro z hSw; clear hSw; go_simp; try with_reducible rfl)
          try simp only [Act.put, List.setIfInBounds_toArray, List.set_cons_zero, List.set_cons_succ]
          refine wpAnyH_take (i := 9) (oi := ⟨some 53, .load 56 (.tmp 52), _, _, _, none⟩) rfl (by kernel_rfl) (by kernel_rfl) (by kernel_rfl) (fun _ _ _ h => h) (yieldsIf_ld (by rfl) 56 _ rfl _ rfl (fun z hSw => L2.out z hSw)) hHeld ?_
          try simp only [Act.put, List.setIfInBounds_toArray, List.set_cons_zero, List.set_cons_succ]
          refine wpAnyH_ready (rs := [10]) (by kernel_rfl) (by simp) ?_
          refine AllReadyH.cons (o := ⟨some 54, .call { callee := .value (.func 75), args := #[.tmp 48, .tmp 53], argTypes := #[56, 56] }, _, _, _, none⟩) rfl (fun K hK => ?_) AllReadyH.nil
          go_simp
          refine (HC.out _ hHeld).mono ?_
          rintro r wn ⟨rfl, fn⟩
          refine hK.out _ _ ?_ (fun hNext => ?_)
          · exact hHeld.trans fn (by simp)
          clear hK K hHeld
          have hHeld := hNext
          clear hNext
          try simp only [Act.put, List.setIfInBounds_toArray, List.set_cons_zero, List.set_cons_succ]
          refine wpAnyH_take (i := 11) (oi := ⟨some 55, .unOp .not 4 (.tmp 54), _, _, _, none⟩) (v := ?_) rfl (by kernel_rfl) (by kernel_rfl) (by kernel_rfl) (fun _ _ _ h => h) (Or.inl ⟨by rfl, ?_⟩) hHeld ?_
          rotate_left
          focus (intro z hSw; clear hSw; go_simp; try with_reducible rfl)
          try simp only [Act.put, List.setIfInBounds_toArray, List.set_cons_zero, List.set_cons_succ]
          refine wpAnyH_done (by kernel_rfl) ?_ _
          cases sb with
          | true =>
            go_wp2_with fail
            go_roundw
            case rel => exact ⟨k + 1, by omega, by go_num, HM.out (by simp), FW.out.trans hHeld (by simp)⟩
            case measure => simp [intOf]; omega
          | false =>
            have en := HNO.out (by simp)
            go_wp2_with fail
            go_ret
            exact ⟨by first | rfl | (rw [en]; rfl) | (simp [en]), F.out.trans (FW.out.trans hHeld (by simp)) (by simp)⟩
        · obtain rfl : k = t.recs.length := by omega
          have e := all2_yes QL.out (fun j hj h2 => HZ.out j hj h2 hj)
          go_wp2_with fail
          go_upto_region 9 with (fail)
          have EH := Lib.hid e
          clear e
          have FB2 := FW
          generalize wr = wA at *
          go_loopw [6] (A2Rel (· == ·) t.lives u.lives W) (fun c _ => t.lives.length - (intOf c).toNat)
          case atStart => exact ⟨0, Nat.zero_le _, rfl, fun j _ _ hj => by omega, FB2.out⟩
          case round =>
            obtain ⟨k, hk, rfl, hz, f⟩ := hrel
            have HZ2 := Lib.hid hz
            have FW2 := Lib.hid f
            have x6 := (HB1.out _ f).lives
            have y6 := (HB2.out _ f).lives
            clear hz f
            by_cases hkl2 : k < t.lives.length
            · have hkm2 : k < u.lives.length := by have := QM.out; omega
              have hkl8 : (k : Int) < (t.lives.length : Int) := by omega
              have hkm8 : (k : Int) < (u.lives.length : Int) := by omega
              obtain ⟨b1, o1, rfl⟩ := H2.out.at (by omega)
              obtain ⟨b2, o2, rfl⟩ := K2.out.at (by omega)
              have fw : Frm [] w wr := F.out.trans FW2.out (by simp)
              have k1 := cellI (H2.out.keep0 fw) k hkl2
              have k2 := cellI (K2.out.keep0 fw) k hkm2
              have HM := Lib.hid (fun (hb : t.lives[k] = u.lives[k]) => a2_more HZ2.out hkl2 hkm2 (by simpa using hb))
              have HNO := Lib.hid (fun (hb : ¬ t.lives[k] = u.lives[k]) => all2_no (f := (· == ·)) hkl2 hkm2 (by simpa using hb))
              have hbq := all2_beq t.lives u.lives
              rw [hbq] at HNO
              clear fw hbq
              generalize t.lives[k] = x at *
              generalize u.lives[k] = y at *
              go_wp2_with fail
              go_quiet (fail)
              by_cases hxy : x = y
              · have e : (x != y) = false := by simp [hxy]
                go_wp2_with fail
                go_roundw
                case rel => exact ⟨k + 1, by omega, by go_num, HM.out hxy, FW2.out.drewN _⟩
                case measure => simp [intOf]; omega
              · have e : (x != y) = true := by simp [hxy]
                have en := HNO.out hxy
                go_wp2_with fail
                go_ret
                exact ⟨by first | (simp [EH.out, en]; done) | rfl, F.out.trans (FW2.out.drewN _) (by simp)⟩
            · obtain rfl : k = t.lives.length := by omega
              have e := all2_yes QM.out (fun j hj h2 => HZ2.out j hj h2 hj)
              rw [all2_beq] at e
              go_wp2_with fail
              go_ret
              exact ⟨by first | (simp [EH.out, e]; done) | rfl, F.out.trans FW2.out (by simp)⟩
end Go.Proofs.YtljhanhipmnioaaGreat.Rd

namespace Go.Proofs.YtljhanhipmnioaaGreat.Rd
open Go.RowKit
set_option linter.unusedVariables false
set_option linter.unusedSimpArgs false
set_option maxRecDepth 100000

open Pt (Pt may enc readPt readE zeroPt be4 be1 pc pv PtV SlA OwnA BT wpList_load_g heap_alloc_at lst_slB one_slB Ext Grew exec_slice_lh yieldsIf_ld)
open Kr (OwnE SlE Enco RowTys)

theorem fndV_form (n : ByteArray) (rs : List Rec) : ∃ (i : Int) (b : Bool), fndV n rs = .tuple #[.int .i64 i, .bool b] := by
  unfold fndV
  cases fnd n rs with
  | none => exact ⟨0, false, rfl⟩
  | some i => exact ⟨i, true, rfl⟩
set_option maxHeartbeats 16000000 in
theorem tells_law (vr vl : Value) (t : Tab) (xr xl : Value) (u : Tab) (n : ByteArray) (w : World) (hT : TabV w vr vl t) (hU : TabV w xr xl u) (hn : n.size ≤ maxLen) : Calls Tryz.prog 3 #[tv vr vl t, tv xr xl u, .string n] w (Yes w) := by
  have hn9 : (n.size : Int) ≤ 9223372036854775807 := by simp only [maxLen] at hn; omega
  have HT := Lib.hid (fun z (f : Frm [] w z) => hT.keep0 f)
  have HU := Lib.hid (fun z (f : Frm [] w z) => hU.keep0 f)
  have f0 : Frm [] w (w.alloc (.cells (tc vr vl t).toArray 27)) := (Frm.refl [] w).alloc _
  have b0 := TB.new w vr vl t
  have f1 : Frm [] (w.alloc (.cells (tc vr vl t).toArray 27)) ((w.alloc (.cells (tc vr vl t).toArray 27)).alloc (.cells (tc xr xl u).toArray 27)) := (Frm.refl [] _).alloc _
  have b1 : TB ((w.alloc (.cells (tc vr vl t).toArray 27)).alloc (.cells (tc xr xl u).toArray 27)) (w.heap.size + 1) xr xl u := heap_alloc_at (by simp)
  have BT := Lib.hid (b0.keep0 f1)
  have BU := Lib.hid b1
  have F0 := Lib.hid (f0.trans f1 (by simp))
  rw [tcA, tcA]
  clear f0 f1 b0 b1 hn hT hU
  generalize (tc vr vl t).toArray = A at *
  generalize (tc xr xl u).toArray = A2 at *
  go_enter Tryz.func3, Tryz.ntmps3
  go_upto_region 1 with (fail)
  try simp only [World.size_alloc]
  generalize (w.alloc (.cells A 27)).alloc (.cells A2 27) = W at *
  have LAt := Lib.hid (fun z (f : Frm [] W z) => (BT.out.keep0 f).gets.all)
  have LAu := Lib.hid (fun z (f : Frm [] W z) => (BU.out.keep0 f).gets.all)
  have HLt := Lib.hid (fun z (f : Frm [] W z) => LongT_any vr vl t z (HT.out z (F0.out.trans f (by simp))))
  have HLu := Lib.hid (fun z (f : Frm [] W z) => LongT_any xr xl u z (HU.out z (F0.out.trans f (by simp))))
  unfold LongT at HLt HLu
  clear BT BU
  cases hbt : longB t with
  | true =>
    rw [hbt] at HLt
    clear hbt
    go_wp2_with (first
      | ((with_reducible (show wpList _ _ _ (Oper.mk _ (Op.load 27 (Operand.tmp 3)) _ _ _ _ :: _) _ _)); refine wpList_load_g (by rfl) 27 _ rfl _ rfl (LAt.out _ (Frm.refl [] _)) ?_)
      | (go_at_call 14; refine (HLt.out _ (Frm.refl [] _)).mono ?_; rintro r w1 ⟨rfl, f1⟩)
      | (go_at_call 15; refine (awake_any _).mono ?_; rintro r w9 ⟨rfl, f9⟩))
    go_ret
    exact ⟨rfl, (F0.out.trans f1 (by simp)).trans f9 (by simp)⟩
  | false =>
    rw [hbt] at HLt
    have ST := Lib.hid (longB_small hbt)
    clear hbt
    cases hbu : longB u with
    | true =>
      rw [hbu] at HLu
      clear hbu
      go_wp2_with (first
        | ((with_reducible (show wpList _ _ _ (Oper.mk _ (Op.load 27 (Operand.tmp 3)) _ _ _ _ :: _) _ _)); refine wpList_load_g (by rfl) 27 _ rfl _ rfl (LAt.out _ (Frm.refl [] _)) ?_)
        | ((with_reducible (show wpList _ _ _ (Oper.mk _ (Op.load 27 (Operand.tmp 4)) _ _ _ _ :: _) _ _)); refine wpList_load_g (by rfl) 27 _ rfl _ rfl (LAu.out _ f1) ?_)
        | (go_at_call 14; first | ((with_reducible refine (HLt.out _ (Frm.refl [] _)).mono ?_); rintro r w1 ⟨rfl, f1⟩) | ((with_reducible refine (HLu.out _ f1).mono ?_); rintro r w2 ⟨rfl, f2⟩))
        | (go_at_call 15; refine (awake_any _).mono ?_; rintro r w9 ⟨rfl, f9⟩))
      go_ret
      exact ⟨rfl, ((F0.out.trans f1 (by simp)).trans f2 (by simp)).trans f9 (by simp)⟩
    | false =>
      rw [hbu] at HLu
      have SU := Lib.hid (longB_small hbu)
      clear hbu
      by_cases hbn : 100 < n.size
      · have hb9 : (100 : Int) < (n.size : Int) := by omega
        clear hbn
        go_wp2_with (first
          | ((with_reducible (show wpList _ _ _ (Oper.mk _ (Op.load 27 (Operand.tmp 3)) _ _ _ _ :: _) _ _)); refine wpList_load_g (by rfl) 27 _ rfl _ rfl (LAt.out _ (Frm.refl [] _)) ?_)
          | ((with_reducible (show wpList _ _ _ (Oper.mk _ (Op.load 27 (Operand.tmp 4)) _ _ _ _ :: _) _ _)); refine wpList_load_g (by rfl) 27 _ rfl _ rfl (LAu.out _ f1) ?_)
          | (go_at_call 14; first | ((with_reducible refine (HLt.out _ (Frm.refl [] _)).mono ?_); rintro r w1 ⟨rfl, f1⟩) | ((with_reducible refine (HLu.out _ f1).mono ?_); rintro r w2 ⟨rfl, f2⟩))
          | (go_at_call 15; refine (awake_any _).mono ?_; rintro r w9 ⟨rfl, f9⟩))
        go_ret
        exact ⟨rfl, ((F0.out.trans f1 (by simp)).trans f2 (by simp)).trans f9 (by simp)⟩
      · have hb9 : ¬ (100 : Int) < (n.size : Int) := by omega
        have FT := Lib.hid ST.out.fit
        have FU := Lib.hid SU.out.fit
        obtain ⟨fi, fb, hfn⟩ := fndV_form n t.recs
        have HF1 := Lib.hid (fun cr cl z (h : TabV z cr cl t) => by have q := FindP_any cr cl t n z h.1 FT.out.recs; rw [hfn] at q; exact q)
        have HF2 := Lib.hid (fun z (f : Frm [] w z) => by have q := Find_any vr vl t n z (HT.out z f).1 FT.out.recs; rw [hfn, ← tcA] at q; exact q)
        clear hbn hfn
        go_upto_region 3 with (first
          | ((with_reducible (show wpList _ _ _ (Oper.mk _ (Op.load 27 (Operand.tmp 3)) _ _ _ _ :: _) _ _)); refine wpList_load_g (by rfl) 27 _ rfl _ rfl (LAt.out _ (Frm.refl [] _)) ?_)
          | ((with_reducible (show wpList _ _ _ (Oper.mk _ (Op.load 27 (Operand.tmp 4)) _ _ _ _ :: _) _ _)); refine wpList_load_g (by rfl) 27 _ rfl _ rfl (LAu.out _ f1) ?_)
          | (go_at_call 14; first | ((with_reducible refine (HLt.out _ (Frm.refl [] _)).mono ?_); rintro r w1 ⟨rfl, f1⟩) | ((with_reducible refine (HLu.out _ f1).mono ?_); rintro r w2 ⟨rfl, f2⟩)))
        have F2 := Lib.hid (f1.trans f2 (by simp))
        clear f1 f2
        go_upto_region 4 with (first
          | ((with_reducible (show wpList _ _ _ (Oper.mk _ (Op.load 27 (Operand.tmp 3)) _ _ _ _ :: _) _ _)); refine wpList_load_g (by rfl) 27 _ rfl _ rfl (LAt.out _ F2.out) ?_)
          | (go_at_call 16; refine (CopyT_any vr vl t _ (HT.out _ (F0.out.trans F2.out (by simp))) FT.out).mono ?_; rintro r w3 h3; obtain ⟨cr, cl, rfl, ow, f3⟩ := h3.own)
          | (refine wpList_lay27 rfl rfl rfl (.tmp 7) (.tmp 30) rfl (vr := cr) (vl := cl) (t := t) ow.ones.1 ow.ones.2 rfl rfl ?_; intro V b4 f4))
        have FV := Lib.hid (show Frm [] W V from (F2.out.trans f3 (by simp)).trans f4 (by simp))
        have OW := Lib.hid (ow.keep0 f4)
        have LAc := Lib.hid (fun z (f : Frm [] V z) => (b4.keep0 f).gets.all)
        have SZ := Lib.hid (show w2.heap.size ≤ V.heap.size from Nat.le_trans f3.size f4.size)
        clear ow f3 f4 b4
        go_upto_region 5 with (first
          | ((with_reducible (show wpList _ _ _ (Oper.mk _ (Op.load 27 (Operand.tmp 7)) _ _ _ _ :: _) _ _)); refine wpList_load_g (by rfl) 27 _ rfl _ rfl (LAc.out _ (Frm.refl [] _)) ?_)
          | (go_at_call 17; refine (BytesT_any cr cl t _ OW.out.v FT.out).mono ?_; rintro r w5 h5; obtain ⟨a5, c5, sp5, rfl, o5, f5, n5⟩ := h5.own))
        have O5 := Lib.hid o5
        have F5 := Lib.hid f5
        have N5 := Lib.hid n5
        clear o5 f5 n5 h5
        go_upto_region 6 with (first
          | ((with_reducible (show wpList _ _ _ (Oper.mk _ (Op.load 27 (Operand.tmp 3)) _ _ _ _ :: _) _ _)); refine wpList_load_g (by rfl) 27 _ rfl _ rfl (LAt.out _ (FV.out.trans F5.out (by simp))) ?_)
          | (go_at_call 18; refine (RefBytesT_any vr vl t _ (HT.out _ (F0.out.trans (FV.out.trans F5.out (by simp)) (by simp))) FT.out).mono ?_; rintro r w6 h6; obtain ⟨a6, c6, sp6, rfl, o6, f6, n6⟩ := h6.own))
        have O6 := Lib.hid o6
        have F6 := Lib.hid (F5.out.trans f6 (by simp))
        have O56 := Lib.hid (O5.out.keep f6 (by simp))
        clear o6 f6 n6 h6
        go_upto_region 7 with (first
          | ((with_reducible (show wpList _ _ _ (Oper.mk _ (Op.load 27 (Operand.tmp 7)) _ _ _ _ :: _) _ _)); refine wpList_load_g (by rfl) 27 _ rfl _ rfl (LAc.out _ F6.out) ?_)
          | (go_at_call 19; refine (HF1.out cr cl _ (OW.out.v.keep0 F6.out)).mono ?_; rintro r w7 ⟨rfl, f7⟩))
        have O57 := Lib.hid (O56.out.keep f7 (by simp))
        have O67 := Lib.hid (O6.out.keep f7 (by simp))
        have F7 := Lib.hid (F6.out.trans f7 (by simp))
        clear f7 O56 O6
        go_upto_region 8 with (first
          | ((with_reducible (show wpList _ _ _ (Oper.mk _ (Op.load 27 (Operand.tmp 3)) _ _ _ _ :: _) _ _)); refine wpList_load_g (by rfl) 27 _ rfl _ rfl (LAt.out _ (FV.out.trans F7.out (by simp))) ?_)
          | (go_at_call 20; refine (HF2.out _ (F0.out.trans (FV.out.trans F7.out (by simp)) (by simp))).mono ?_; rintro r w8 ⟨rfl, f8⟩))
        have O58 := Lib.hid (O57.out.keep f8 (by simp))
        have O68 := Lib.hid (O67.out.keep f8 (by simp))
        have F8 := Lib.hid (F7.out.trans f8 (by simp))
        have HSB := Lib.hid (fun z (f : Frm [] w8 z) => by have q := Pt.SameBytes_any _ _ _ _ _ _ z (O58.out.sl.keep f (by simp)) (O68.out.sl.keep f (by simp)); rw [beq_self_eq_true] at q; exact q)
        have HCP := Lib.hid (fun z (f : Frm [] w8 z) => CheckT_any cr cl t z ((OW.out.v.keep0 F8.out).keep0 f) FT.out)
        have HCD := Lib.hid (fun z (f : Frm [] w8 z) => RefCheckT_any vr vl t z (HT.out z ((F0.out.trans (FV.out.trans F8.out (by simp)) (by simp)).trans f (by simp))) FT.out)
        have HSP := Lib.hid (fun z (f : Frm [] w8 z) => Same_any cr cl xr xl t u z ((OW.out.v.keep0 F8.out).keep0 f) (HU.out z ((F0.out.trans (FV.out.trans F8.out (by simp)) (by simp)).trans f (by simp))) FT.out)
        have HSD := Lib.hid (fun z (f : Frm [] w8 z) => RefSame_any vr vl xr xl t u z (HT.out z ((F0.out.trans (FV.out.trans F8.out (by simp)) (by simp)).trans f (by simp))) (HU.out z ((F0.out.trans (FV.out.trans F8.out (by simp)) (by simp)).trans f (by simp))) FT.out)
        have LC8 := Lib.hid (fun z (f : Frm [] w8 z) => LAc.out z (F8.out.trans f (by simp)))
        have LT8 := Lib.hid (fun z (f : Frm [] w8 z) => LAt.out z ((FV.out.trans F8.out (by simp)).trans f (by simp)))
        have LU8 := Lib.hid (fun z (f : Frm [] w8 z) => LAu.out z ((FV.out.trans F8.out (by simp)).trans f (by simp)))
        generalize mayTE t = me at *
        generalize sameT t u = sb at *
        clear f8
        refine wp_region_held_drew (S := fun z => Frm [] w8 z) (by kernel_rfl) ((Frm.refl [] w8).drew) (fun hHeld => ?_)
        refine wpAnyH_take (i := 0) (oi := ⟨some 53, .move (.tmp 8), _, _, _, none⟩) (v := ?_) rfl (by kernel_rfl) (by kernel_rfl) (by kernel_rfl) (fun _ _ _ h => h) (Or.inl ⟨by rfl, ?_⟩) hHeld ?_
        rotate_left
        focus (intro z hSw; clear hSw; go_simp; try with_reducible rfl)
        try simp only [Act.put, List.setIfInBounds_toArray, List.set_cons_zero, List.set_cons_succ]
        refine wpAnyH_take (i := 1) (oi := ⟨some 54, .move (.tmp 10), _, _, _, none⟩) (v := ?_) rfl (by kernel_rfl) (by kernel_rfl) (by kernel_rfl) (fun _ _ _ h => h) (Or.inl ⟨by rfl, ?_⟩) hHeld ?_
        rotate_left
        focus (intro z hSw; clear hSw; go_simp; try with_reducible rfl)
        try simp only [Act.put, List.setIfInBounds_toArray, List.set_cons_zero, List.set_cons_succ]
        refine wpAnyH_ready (rs := [2]) (by kernel_rfl) (by simp) ?_
        refine AllReadyH.cons (o := ⟨some 55, .call { callee := .value (.func 21), args := #[.tmp 53, .tmp 54], argTypes := #[31, 31] }, _, _, _, none⟩) rfl (fun K hK => ?_) AllReadyH.nil
        go_simp
        refine (HSB.out _ hHeld).mono ?_
        rintro r wn ⟨rfl, rfl⟩
        refine hK.out _ _ ?_ (fun hNext => ?_)
        · exact hHeld
        clear hK K hHeld
        have hHeld := hNext
        clear hNext
        try simp only [Act.put, List.setIfInBounds_toArray, List.set_cons_zero, List.set_cons_succ]
        refine wpAnyH_take (i := 3) (oi := ⟨some 56, .move (.tmp 55), _, _, _, none⟩) (v := ?_) rfl (by kernel_rfl) (by kernel_rfl) (by kernel_rfl) (fun _ _ _ h => h) (Or.inl ⟨by rfl, ?_⟩) hHeld ?_
        rotate_left
        focus (intro z hSw; clear hSw; go_simp; try with_reducible rfl)
        try simp only [Act.put, List.setIfInBounds_toArray, List.set_cons_zero, List.set_cons_succ]
        refine wpAnyH_take (i := 4) (oi := ⟨some 57, .move (.tmp 9), _, _, _, some (3, true)⟩) (v := ?_) rfl (by kernel_rfl) (by kernel_rfl) (by kernel_rfl) (fun _ _ _ h => h) (Or.inl ⟨by rfl, ?_⟩) hHeld ?_
        rotate_left
        focus (intro z hSw; clear hSw; go_simp; try with_reducible rfl)
        try simp only [Act.put, List.setIfInBounds_toArray, List.set_cons_zero, List.set_cons_succ]
        refine wpAnyH_take (i := 5) (oi := ⟨some 58, .move (.tmp 11), _, _, _, some (3, true)⟩) (v := ?_) rfl (by kernel_rfl) (by kernel_rfl) (by kernel_rfl) (fun _ _ _ h => h) (Or.inl ⟨by rfl, ?_⟩) hHeld ?_
        rotate_left
        focus (intro z hSw; clear hSw; go_simp; try with_reducible rfl)
        try simp only [Act.put, List.setIfInBounds_toArray, List.set_cons_zero, List.set_cons_succ]
        refine wpAnyH_take (i := 6) (oi := ⟨some 59, .binOp .eql 32 (.tmp 57) (.tmp 58) 32, _, _, _, some (3, true)⟩) (v := ?_) rfl (by kernel_rfl) (by kernel_rfl) (by kernel_rfl) (fun _ _ _ h => h) (Or.inl ⟨by rfl, ?_⟩) hHeld ?_
        rotate_left
        focus (intro z hSw; clear hSw; go_simp; try with_reducible rfl)
        try simp only [Act.put, List.setIfInBounds_toArray, List.set_cons_zero, List.set_cons_succ]
        refine wpAnyH_take (i := 7) (oi := ⟨some 60, .pick (.tmp 56) (.tmp 59) (.const (.bool false)), _, _, _, none⟩) (v := ?_) rfl (by kernel_rfl) (by kernel_rfl) (by kernel_rfl) (fun _ _ _ h => h) (Or.inl ⟨by rfl, ?_⟩) hHeld ?_
        rotate_left
        focus (intro z hSw; clear hSw; go_simp; try with_reducible rfl)
        try simp only [Act.put, List.setIfInBounds_toArray, List.set_cons_zero, List.set_cons_succ]
        refine wpAnyH_take (i := 8) (oi := ⟨some 61, .move (.tmp 60), _, _, _, none⟩) (v := ?_) rfl (by kernel_rfl) (by kernel_rfl) (by kernel_rfl) (fun _ _ _ h => h) (Or.inl ⟨by rfl, ?_⟩) hHeld ?_
        rotate_left
        focus (intro z hSw; clear hSw; go_simp; try with_reducible rfl)
        try simp only [Act.put, List.setIfInBounds_toArray, List.set_cons_zero, List.set_cons_succ]
        refine wpAnyH_take (i := 9) (oi := ⟨some 62, .move (.tmp 12), _, _, _, some (8, true)⟩) (v := ?_) rfl (by kernel_rfl) (by kernel_rfl) (by kernel_rfl) (fun _ _ _ h => h) (Or.inl ⟨by rfl, ?_⟩) hHeld ?_
        rotate_left
        focus (intro z hSw; clear hSw; go_simp; try with_reducible rfl)
        try simp only [Act.put, List.setIfInBounds_toArray, List.set_cons_zero, List.set_cons_succ]
        refine wpAnyH_take (i := 10) (oi := ⟨some 63, .move (.tmp 14), _, _, _, some (8, true)⟩) (v := ?_) rfl (by kernel_rfl) (by kernel_rfl) (by kernel_rfl) (fun _ _ _ h => h) (Or.inl ⟨by rfl, ?_⟩) hHeld ?_
        rotate_left
        focus (intro z hSw; clear hSw; go_simp; try with_reducible rfl)
        try simp only [Act.put, List.setIfInBounds_toArray, List.set_cons_zero, List.set_cons_succ]
        refine wpAnyH_take (i := 11) (oi := ⟨some 64, .binOp .eql 3 (.tmp 62) (.tmp 63) 3, _, _, _, some (8, true)⟩) (v := ?_) rfl (by kernel_rfl) (by kernel_rfl) (by kernel_rfl) (fun _ _ _ h => h) (Or.inl ⟨by rfl, ?_⟩) hHeld ?_
        rotate_left
        focus (intro z hSw; clear hSw; go_simp; try with_reducible rfl)
        try simp only [Act.put, List.setIfInBounds_toArray, List.set_cons_zero, List.set_cons_succ]
        refine wpAnyH_take (i := 12) (oi := ⟨some 65, .pick (.tmp 61) (.tmp 64) (.const (.bool false)), _, _, _, none⟩) (v := ?_) rfl (by kernel_rfl) (by kernel_rfl) (by kernel_rfl) (fun _ _ _ h => h) (Or.inl ⟨by rfl, ?_⟩) hHeld ?_
        rotate_left
        focus (intro z hSw; clear hSw; go_simp; try with_reducible rfl)
        try simp only [Act.put, List.setIfInBounds_toArray, List.set_cons_zero, List.set_cons_succ]
        refine wpAnyH_take (i := 13) (oi := ⟨some 66, .move (.tmp 65), _, _, _, none⟩) (v := ?_) rfl (by kernel_rfl) (by kernel_rfl) (by kernel_rfl) (fun _ _ _ h => h) (Or.inl ⟨by rfl, ?_⟩) hHeld ?_
        rotate_left
        focus (intro z hSw; clear hSw; go_simp; try with_reducible rfl)
        try simp only [Act.put, List.setIfInBounds_toArray, List.set_cons_zero, List.set_cons_succ]
        refine wpAnyH_take (i := 14) (oi := ⟨some 67, .move (.tmp 13), _, _, _, some (13, true)⟩) (v := ?_) rfl (by kernel_rfl) (by kernel_rfl) (by kernel_rfl) (fun _ _ _ h => h) (Or.inl ⟨by rfl, ?_⟩) hHeld ?_
        rotate_left
        focus (intro z hSw; clear hSw; go_simp; try with_reducible rfl)
        try simp only [Act.put, List.setIfInBounds_toArray, List.set_cons_zero, List.set_cons_succ]
        refine wpAnyH_take (i := 15) (oi := ⟨some 68, .move (.tmp 15), _, _, _, some (13, true)⟩) (v := ?_) rfl (by kernel_rfl) (by kernel_rfl) (by kernel_rfl) (fun _ _ _ h => h) (Or.inl ⟨by rfl, ?_⟩) hHeld ?_
        rotate_left
        focus (intro z hSw; clear hSw; go_simp; try with_reducible rfl)
        try simp only [Act.put, List.setIfInBounds_toArray, List.set_cons_zero, List.set_cons_succ]
        refine wpAnyH_take (i := 16) (oi := ⟨some 69, .binOp .eql 4 (.tmp 67) (.tmp 68) 4, _, _, _, some (13, true)⟩) (v := ?_) rfl (by kernel_rfl) (by kernel_rfl) (by kernel_rfl) (fun _ _ _ h => h) (Or.inl ⟨by rfl, ?_⟩) hHeld ?_
        rotate_left
        focus (intro z hSw; clear hSw; go_simp; try with_reducible rfl)
        try simp only [Act.put, List.setIfInBounds_toArray, List.set_cons_zero, List.set_cons_succ]
        refine wpAnyH_take (i := 17) (oi := ⟨some 70, .pick (.tmp 66) (.tmp 69) (.const (.bool false)), _, _, _, none⟩) (v := ?_) rfl (by kernel_rfl) (by kernel_rfl) (by kernel_rfl) (fun _ _ _ h => h) (Or.inl ⟨by rfl, ?_⟩) hHeld ?_
        rotate_left
        focus (intro z hSw; clear hSw; go_simp; try with_reducible rfl)
        try simp only [Act.put, List.setIfInBounds_toArray, List.set_cons_zero, List.set_cons_succ]
        refine wpAnyH_take (i := 18) (oi := ⟨some 71, .move (.tmp 70), _, _, _, none⟩) (v := ?_) rfl (by kernel_rfl) (by kernel_rfl) (by kernel_rfl) (fun _ _ _ h => h) (Or.inl ⟨by rfl, ?_⟩) hHeld ?_
        rotate_left
        focus (intro z hSw; clear hSw; go_simp; try with_reducible rfl)
        try simp only [Act.put, List.setIfInBounds_toArray, List.set_cons_zero, List.set_cons_succ]
        refine wpAnyH_take (i := 19) (oi := ⟨some 72, .load 27 (.tmp 7), _, _, _, some (18, true)⟩) rfl (by kernel_rfl) (by kernel_rfl) (by kernel_rfl) (fun _ _ _ h => h) (yieldsIf_ld (by rfl) 27 _ rfl _ rfl (fun z hSw => LC8.out z hSw)) hHeld ?_
        try simp only [Act.put, List.setIfInBounds_toArray, List.set_cons_zero, List.set_cons_succ]
        refine wpAnyH_take (i := 21) (oi := ⟨some 74, .load 27 (.tmp 3), _, _, _, some (18, true)⟩) rfl (by kernel_rfl) (by kernel_rfl) (by kernel_rfl) (fun _ _ _ h => h) (yieldsIf_ld (by rfl) 27 _ rfl _ rfl (fun z hSw => LT8.out z hSw)) hHeld ?_
        try simp only [Act.put, List.setIfInBounds_toArray, List.set_cons_zero, List.set_cons_succ]
        refine wpAnyH_ready (rs := [20]) (by kernel_rfl) (by simp) ?_
        refine AllReadyH.cons (o := ⟨some 73, .call { callee := .value (.func 22), args := #[.tmp 72], argTypes := #[27] }, _, _, _, some (18, true)⟩) rfl (fun K hK => ?_) AllReadyH.nil
        go_simp
        refine (HCP.out _ hHeld).mono ?_
        rintro r wa ⟨rfl, fa⟩
        refine hK.out _ _ ?_ (fun hNext => ?_)
        · exact hHeld.trans fa (by simp)
        clear hK K hHeld
        have hHeld := hNext
        clear hNext
        try simp only [Act.put, List.setIfInBounds_toArray, List.set_cons_zero, List.set_cons_succ]
        refine wpAnyH_ready (rs := [22]) (by kernel_rfl) (by simp) ?_
        refine AllReadyH.cons (o := ⟨some 75, .call { callee := .value (.func 23), args := #[.tmp 74], argTypes := #[27] }, _, _, _, some (18, true)⟩) rfl (fun K hK => ?_) AllReadyH.nil
        go_simp
        refine (HCD.out _ hHeld).mono ?_
        rintro r wb ⟨rfl, fb⟩
        refine hK.out _ _ ?_ (fun hNext => ?_)
        · exact hHeld.trans fb (by simp)
        clear hK K hHeld
        have hHeld := hNext
        clear hNext
        try simp only [Act.put, List.setIfInBounds_toArray, List.set_cons_zero, List.set_cons_succ]
        refine wpAnyH_take (i := 23) (oi := ⟨some 76, .binOp .eql 32 (.tmp 73) (.tmp 75) 32, _, _, _, some (18, true)⟩) (v := ?_) rfl (by kernel_rfl) (by kernel_rfl) (by kernel_rfl) (fun _ _ _ h => h) (Or.inl ⟨by rfl, ?_⟩) hHeld ?_
        rotate_left
        focus (intro z hSw; clear hSw; go_simp; try with_reducible rfl)
        try simp only [Act.put, List.setIfInBounds_toArray, List.set_cons_zero, List.set_cons_succ]
        refine wpAnyH_take (i := 24) (oi := ⟨some 77, .pick (.tmp 71) (.tmp 76) (.const (.bool false)), _, _, _, none⟩) (v := ?_) rfl (by kernel_rfl) (by kernel_rfl) (by kernel_rfl) (fun _ _ _ h => h) (Or.inl ⟨by rfl, ?_⟩) hHeld ?_
        rotate_left
        focus (intro z hSw; clear hSw; go_simp; try with_reducible rfl)
        try simp only [Act.put, List.setIfInBounds_toArray, List.set_cons_zero, List.set_cons_succ]
        refine wpAnyH_take (i := 25) (oi := ⟨some 78, .move (.tmp 77), _, _, _, none⟩) (v := ?_) rfl (by kernel_rfl) (by kernel_rfl) (by kernel_rfl) (fun _ _ _ h => h) (Or.inl ⟨by rfl, ?_⟩) hHeld ?_
        rotate_left
        focus (intro z hSw; clear hSw; go_simp; try with_reducible rfl)
        try simp only [Act.put, List.setIfInBounds_toArray, List.set_cons_zero, List.set_cons_succ]
        refine wpAnyH_take (i := 26) (oi := ⟨some 79, .load 27 (.tmp 7), _, _, _, some (25, true)⟩) rfl (by kernel_rfl) (by kernel_rfl) (by kernel_rfl) (fun _ _ _ h => h) (yieldsIf_ld (by rfl) 27 _ rfl _ rfl (fun z hSw => LC8.out z hSw)) hHeld ?_
        try simp only [Act.put, List.setIfInBounds_toArray, List.set_cons_zero, List.set_cons_succ]
        refine wpAnyH_take (i := 27) (oi := ⟨some 80, .load 27 (.tmp 4), _, _, _, some (25, true)⟩) rfl (by kernel_rfl) (by kernel_rfl) (by kernel_rfl) (fun _ _ _ h => h) (yieldsIf_ld (by rfl) 27 _ rfl _ rfl (fun z hSw => LU8.out z hSw)) hHeld ?_
        try simp only [Act.put, List.setIfInBounds_toArray, List.set_cons_zero, List.set_cons_succ]
        refine wpAnyH_take (i := 29) (oi := ⟨some 82, .load 27 (.tmp 3), _, _, _, some (25, true)⟩) rfl (by kernel_rfl) (by kernel_rfl) (by kernel_rfl) (fun _ _ _ h => h) (yieldsIf_ld (by rfl) 27 _ rfl _ rfl (fun z hSw => LT8.out z hSw)) hHeld ?_
        try simp only [Act.put, List.setIfInBounds_toArray, List.set_cons_zero, List.set_cons_succ]
        refine wpAnyH_take (i := 30) (oi := ⟨some 83, .load 27 (.tmp 4), _, _, _, some (25, true)⟩) rfl (by kernel_rfl) (by kernel_rfl) (by kernel_rfl) (fun _ _ _ h => h) (yieldsIf_ld (by rfl) 27 _ rfl _ rfl (fun z hSw => LU8.out z hSw)) hHeld ?_
        try simp only [Act.put, List.setIfInBounds_toArray, List.set_cons_zero, List.set_cons_succ]
        refine wpAnyH_ready (rs := [28]) (by kernel_rfl) (by simp) ?_
        refine AllReadyH.cons (o := ⟨some 81, .call { callee := .value (.func 24), args := #[.tmp 79, .tmp 80], argTypes := #[27, 27] }, _, _, _, some (25, true)⟩) rfl (fun K hK => ?_) AllReadyH.nil
        go_simp
        refine (HSP.out _ hHeld).mono ?_
        rintro r wc ⟨rfl, fc⟩
        refine hK.out _ _ ?_ (fun hNext => ?_)
        · exact hHeld.trans fc (by simp)
        clear hK K hHeld
        have hHeld := hNext
        clear hNext
        try simp only [Act.put, List.setIfInBounds_toArray, List.set_cons_zero, List.set_cons_succ]
        refine wpAnyH_ready (rs := [31]) (by kernel_rfl) (by simp) ?_
        refine AllReadyH.cons (o := ⟨some 84, .call { callee := .value (.func 25), args := #[.tmp 82, .tmp 83], argTypes := #[27, 27] }, _, _, _, some (25, true)⟩) rfl (fun K hK => ?_) AllReadyH.nil
        go_simp
        refine (HSD.out _ hHeld).mono ?_
        rintro r wd ⟨rfl, fd⟩
        refine hK.out _ _ ?_ (fun hNext => ?_)
        · exact hHeld.trans fd (by simp)
        clear hK K hHeld
        have hHeld := hNext
        clear hNext
        try simp only [Act.put, List.setIfInBounds_toArray, List.set_cons_zero, List.set_cons_succ]
        refine wpAnyH_take (i := 32) (oi := ⟨some 85, .binOp .eql 4 (.tmp 81) (.tmp 84) 4, _, _, _, some (25, true)⟩) (v := ?_) rfl (by kernel_rfl) (by kernel_rfl) (by kernel_rfl) (fun _ _ _ h => h) (Or.inl ⟨by rfl, ?_⟩) hHeld ?_
        rotate_left
        focus (intro z hSw; clear hSw; go_simp; try with_reducible rfl)
        try simp only [Act.put, List.setIfInBounds_toArray, List.set_cons_zero, List.set_cons_succ]
        refine wpAnyH_take (i := 33) (oi := ⟨some 86, .pick (.tmp 78) (.tmp 85) (.const (.bool false)), _, _, _, none⟩) (v := ?_) rfl (by kernel_rfl) (by kernel_rfl) (by kernel_rfl) (fun _ _ _ h => h) (Or.inl ⟨by rfl, ?_⟩) hHeld ?_
        rotate_left
        focus (intro z hSw; clear hSw; go_simp; try with_reducible rfl)
        try simp only [Act.put, List.setIfInBounds_toArray, List.set_cons_zero, List.set_cons_succ]
        refine wpAnyH_take (i := 34) (oi := ⟨some 16, .assign (.tmp 86), _, _, _, none⟩) (v := ?_) rfl (by kernel_rfl) (by kernel_rfl) (by kernel_rfl) (fun _ _ _ h => h) (Or.inl ⟨by rfl, ?_⟩) hHeld ?_
        rotate_left
        focus (intro z hSw; clear hSw; go_simp; try with_reducible rfl)
        try simp only [Act.put, List.setIfInBounds_toArray, List.set_cons_zero, List.set_cons_succ]
        refine wpAnyH_done (by kernel_rfl) ?_ _
        have F9 := Lib.hid (F8.out.trans hHeld (by simp))
        have O59 := Lib.hid (O58.out.keep hHeld (by simp))
        clear hHeld
        go_upto_region 10 with (go_at_call 26; refine (Pt.Over_all _ _ _ _ O59.out).mono ?_; rintro r w10 ⟨rfl, f10⟩)
        have G10 := Lib.hid (show Frm [] V w10 from F9.out.trans f10 (fun i hi => .inr (N5.out i hi)))
        have HST := Lib.hid (by have q := SameTable_any cr cl vr vl t t w10 (OW.out.v.keep0 G10.out) (HT.out _ (F0.out.trans (FV.out.trans G10.out (by simp)) (by simp))) FT.out; rw [sameT_refl] at q; exact q)
        clear f10
        go_wp2_with (first
          | ((with_reducible (show wpList _ _ _ (Oper.mk _ (Op.load 27 (Operand.tmp 7)) _ _ _ _ :: _) _ _)); refine wpList_load_g (by rfl) 27 _ rfl _ rfl (LAc.out _ G10.out) ?_)
          | ((with_reducible (show wpList _ _ _ (Oper.mk _ (Op.load 27 (Operand.tmp 3)) _ _ _ _ :: _) _ _)); refine wpList_load_g (by rfl) 27 _ rfl _ rfl (LAt.out _ (FV.out.trans G10.out (by simp))) ?_)
          | (go_at_call 27; refine HST.out.mono ?_; rintro r w11 ⟨rfl, f11⟩)
          | (go_at_call 15; refine (awake_any _).mono ?_; rintro r w12 ⟨rfl, f12⟩))
        go_ret
        exact ⟨rfl, ((F0.out.trans (FV.out.trans G10.out (by simp)) (by simp)).trans f11 (by simp)).trans f12 (by simp)⟩
end Go.Proofs.YtljhanhipmnioaaGreat.Rd
