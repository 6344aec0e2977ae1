/-
  Contracts of SameUbers at one list, of 'of', of 'four'. No conditions but those that each theorem names. Slices of two and of three uberblocks, built in a drawn region; the walk of awake. No conditions but those that each theorem names. The walk of awake. No conditions but those that each theorem names. The walk of RingKnown. No conditions but those that each theorem names. The walk of RingTurns. No conditions but those that each theorem names.
-/
import Derived.Test.YtjdejhgfkjeeiaaGreatDoorMA3
import Derived.Test.YtjdejhgfkjeeiaaGreatDoorMA2
import Derived.Great.BuildSlice
namespace Go.Proofs.YtjdejhgfkjeeiaaGreatDoor
open Go.RowKit
set_option linter.unusedVariables false
set_option linter.unusedSimpArgs false
set_option maxRecDepth 100000

open Pt (Pt may enc readPt readE zeroPt pc pv PtV SlA OwnA)
open Kr (OwnE SlE Enco RowTys)
theorem exec_ld28 {o : Oper} {a : Act} {w : World} {x : Operand} {p v : Value} (ho : o.op = .load 28 x) (hx : a.eval x = p) (h : (Instr.loadAt 28 p).run Tryz.prog w = .ok v w) : (execOp a.eval o).run Tryz.prog w = .ok (.value v) w := by simp [execOp, ho, hx, h, Result.andThen]
theorem wpStill_val {P : Program} {ops : Array Oper} {w : World} {Q : Act → Prop} {a : Act} {o : Oper} {rest : List Oper} {v : Value} (hg : o.guard = none) (h : (execOp a.eval o).run P w = .ok (.value v) w)
    (k : wpStill P ops w Q rest (a.put o.dst v)) : wpStill P ops w Q (o :: rest) a := by
  refine wpStill_step (fun K hK => ?_)
  rw [if_pos (by simp [Region.wanted, hg])]
  unfold Oper.still
  rw [h, Oper.stillUpon_value]
  exact hK _ k
set_option maxHeartbeats 2000000 in
theorem SameUbs_true (x y : Value) (l : List Ub) (w : World) (hx : Us w x l) (hy : Us w y l) (hf : Fits l) : Calls Tryz.prog 38 #[x, y] w fun e w' => e = .returned (.bool true) ∧ Frm [] w w' := by
  obtain ⟨a, cap, rfl⟩ := hx.form
  obtain ⟨a2, cap2, rfl⟩ := hy.form
  have HX := Lib.hid hx
  have HY := Lib.hid hy
  have HF := Lib.hid hf
  have hl9 : (l.length : Int) ≤ 1000 := by have := hf.1; omega
  clear hx hy hf
  go_enter Tryz.func38, Tryz.ntmps38
  go_wp2_with fail
  go_loopw [5] (fun cv wr => ∃ k : Nat, k ≤ l.length ∧ cv = .int .i64 k ∧ Frm [] w wr) (fun cv _ => l.length - (intOf cv).toNat)
  case atStart => exact ⟨0, by omega, rfl, Frm.refl _ _⟩
  case round =>
    obtain ⟨k, hk, rfl, f⟩ := hrel
    by_cases hlt : k < l.length
    · have hlt' : (k : Int) < (l.length : Int) := by omega
      obtain ⟨b, off, cp, e⟩ := HX.out.at (by omega)
      injection e with e1 e2 e3
      subst e1; subst e3
      obtain ⟨b2, off2, cp2, e⟩ := HY.out.at (by omega)
      injection e with e1 e2 e3
      subst e1; subst e3
      have fd := f.trans ((Frm.refl [] wr).drew) (by simp)
      obtain ⟨xa, xc, ld1, u1, _, _⟩ := (HX.out.keep0 fd).load k hlt
      obtain ⟨ya, yc, ld2, u2, _, _⟩ := (HY.out.keep0 fd).load k hlt
      have HLD1 := Lib.hid ld1
      have HLD2 := Lib.hid ld2
      have HSM := Lib.hid (SameUber_any _ _ _ _ _ u1 u2 (HF.out.2 _ (List.getElem_mem _)))
      rw [sameU_refl] at HSM
      have FD := Lib.hid fd
      have HLT := Lib.hid hlt
      generalize l[k] = u at *
      clear f fd ld1 ld2 u1 u2 hlt
      go_upto_region 6 with (fail)
      refine wp_region_still_tail 8 (by kernel_rfl) (by kernel_rfl) ?_
      simp only [List.take_succ_cons, List.take_zero, List.drop_succ_cons, List.drop_zero]
      change wpStill _ _ (World.drew _) _ _ _
      iterate 3 still_step
      refine wpStill_val rfl (exec_ld28 rfl rfl HLD1.out) ?_
      iterate 3 still_step
      refine wpStill_val rfl (exec_ld28 rfl rfl HLD2.out) ?_
      refine wpStill_nil ?_
      change wpList _ _ _ _ _ (World.drew _)
      go_wp2_with (go_at_call 24; refine HSM.out.mono ?_; rintro r w3 ⟨rfl, f3⟩)
      go_roundw
      case rel => exact ⟨k + 1, HLT.out, by go_num, FD.out.trans f3 (by simp)⟩
      case measure => simp [intOf]; have := HLT.out; omega
    · obtain rfl : k = l.length := by omega
      have F := Lib.hid f
      clear f
      go_wp2_with fail
      go_ret
      exact ⟨rfl, F.out⟩
/-- The uberblock of a commit that has nothing. -/
def ofU (t : Int) : Ub := ⟨t, zeroPt, 0, List.replicate 32 0⟩
theorem ofU_wf (t : Int) : WfU (ofU t) := ⟨rfl, rfl⟩
theorem ofU_may {t : Int} (h1 : 1 ≤ t) (h2 : t ≤ 2147483648) : MayU (ofU t) := ⟨h1, h2, .inl (by kernel_rfl), by show (0:Int) ≤ 0; omega, by show (0:Int) ≤ 16384; omega⟩
theorem bldOf (t : Int) (W : World) : (Instr.build 28 #[(0, .int .i64 t)]).run Tryz.prog W = .ok (uv nilS (ofU t)) W := by kernel_rfl
theorem exec_bldOf {o : Oper} {a : Act} {t : Int} (s : Operand) (hop : o.op = Op.build 28 #[(0, s)]) (h1 : a.eval s = .int .i64 t) (W : World) : (execOp a.eval o).run Tryz.prog W = .ok (.value (uv nilS (ofU t))) W := by
  have hb := bldOf t W
  have hm : (#[(0, s)].map fun ((i, x) : Nat × Operand) => (i, a.eval x)) = #[(0, .int .i64 t)] := by simp [h1]
  simp only [execOp, hop, hm, Sem.run_bind, Sem.run_pure, hb, Result.andThen_ok]
theorem ofU_v (t : Int) (w : World) : UbV w (uv nilS (ofU t)) (ofU t) := ⟨none, 0, [], rfl, Pt.SlA.nil w, ofU_wf t⟩
/-- What 'of' tells. -/
def OfP (t : Int) (w : World) (r : Ending) (w' : World) : Prop := ∃ a cap sp, r = .returned (.tuple #[uv nilS (ofU t), .slice a 256 cap]) ∧ OwnB 5 w' (.slice a 256 cap) (packU (ofU t)) sp ∧ Frm [] w w' ∧ ∀ i ∈ blk (.slice a 256 cap), w.heap.size ≤ i
set_option maxHeartbeats 2000000 in
theorem of_any (t : Int) (w : World) (h1 : 1 ≤ t) (h2 : t ≤ 2147483648) (hG : Hs.Glob w) : Calls Tryz.prog 47 #[.int .i64 t] w (OfP t w) := by
  have f0 : Frm [] w (w.alloc (.cells (uc nilS zeroU).toArray 28)) := (Frm.refl [] w).alloc _
  have f1 : Frm [] (w.alloc (.cells (uc nilS zeroU).toArray 28)) ((w.alloc (.cells (uc nilS zeroU).toArray 28)).alloc (.cells (uc nilS (ofU t)).toArray 28)) := (Frm.refl [] _).alloc _
  have B0 := Lib.hid ((UB.new w nilS zeroU_wf).keep0 f1)
  have G1 := Lib.hid (UB.new (w.alloc (.cells (uc nilS zeroU).toArray 28)) nilS (ofU_wf t))
  have F1 := Lib.hid (f0.trans f1 (by simp))
  have hm := ofU_may h1 h2
  have HP := Lib.hid (Pack_any _ (ofU t) _ (ofU_v t _) (Nat.zero_le _) (hG.keep (f0.trans f1 (by simp)) (by simp)))
  unfold PackP at HP
  rw [packO_yes hm, mayE_yes hm, packU_length (ofU_wf t) hm] at HP
  have hwo := ofU_wf t
  have HPO : OfP t w = fun r w' => ∃ a cap sp, r = .returned (.tuple #[uv nilS (ofU t), .slice a 256 cap]) ∧ OwnB 5 w' (.slice a 256 cap) (packU (ofU t)) sp ∧ Frm [] w w' ∧ ∀ i ∈ blk (.slice a 256 cap), w.heap.size ≤ i := rfl
  rw [HPO]
  have hbo := fun (o : Oper) (a : Act) (s : Operand) (ho : o.op = Op.build 28 #[(0, s)]) (h1 : a.eval s = .int .i64 t) (W : World) => exec_bldOf s ho h1 W
  clear f0 f1 hm hG HPO h1 h2
  obtain ⟨u, hu⟩ : ∃ u, ofU t = u := ⟨_, rfl⟩
  rw [hu] at HP G1 F1 B0 hwo hbo ⊢
  clear hu
  go_enter Tryz.func47, Tryz.ntmps47
  go_upto_region 2 with (first
    | ((with_reducible (show wpList _ _ _ (Oper.mk (some 2) (Op.alloc 28) _ _ _ _ :: _) _ _)); refine wpList_val rfl (exec_alloc28 rfl _) ?_)
    | ((with_reducible (show wpList _ _ _ (Oper.mk _ (Op.build 28 _) _ _ _ _ :: _) _ _)); refine wpList_val rfl (hbo _ _ _ rfl rfl _) ?_)
    | ((with_reducible (show wpList _ _ _ (Oper.mk (some 4) (Op.alloc 28) _ _ _ _ :: _) _ _)); refine wpList_lay28 rfl rfl rfl _ _ rfl (v := nilS) rfl (u := u) hwo rfl rfl ?_))
  have hz : (w.alloc (.cells (uc nilS zeroU).toArray 28)).heap.size = w.heap.size + 1 := by simp
  rw [hz] at G1 ⊢
  generalize (w.alloc (.cells (uc nilS zeroU).toArray 28)).alloc (.cells (uc nilS u).toArray 28) = W1 at *
  have HW := Lib.hid hwo
  go_wp2_with (first
    | ((with_reducible (show wpList _ _ _ (Oper.mk (some 10) (Op.load 28 _) _ _ _ _ :: _) _ _)); refine wpList_load_g (by rfl) 28 _ rfl _ rfl G1.out.gets.all ?_)
    | (go_at_call 16; refine HP.out.mono ?_; rintro r w2 ⟨pa, pc, ps, rfl, po, f2, n2⟩; have G2 := Lib.hid (G1.out.keep0 f2); have B2 := Lib.hid (B0.out.keep0 f2); have PO := Lib.hid po; have F2 := Lib.hid (F1.out.trans f2 (by simp)); have N2 := Lib.hid n2; clear po f2 n2)
    | ((with_reducible (show wpList _ _ _ (Oper.mk (some 17) (Op.load 28 _) _ _ _ _ :: _) _ _)); refine wpList_load_g (by rfl) 28 _ rfl _ rfl G2.out.gets.all ?_)
    | ((with_reducible (show wpList _ _ _ (Oper.mk _ (Op.store 28 _ _) _ _ _ _ :: _) _ _)); refine wpList_store28 rfl _ _ rfl rfl B2.out HW.out rfl rfl ?_; intro V B5 F5))
  refine bodyPost_ret (v := .tuple #[uv nilS u, .slice pa 256 pc]) (results_cell_slot rfl _ _ rfl rfl B5.gets.var) rfl ?_
  have hpa : ∀ i ∈ blk (.slice pa 256 pc), w.heap.size < i := fun i hi => by
    have h1 := N2.out i hi
    have h2 := B0.out.lt
    omega
  exact ⟨pa, pc, ps, rfl, PO.out.keep F5 (fun i hi => by have := hpa i hi; simp; omega), F2.out.trans F5 (fun i hi => by simp at hi; exact .inr (by omega)), fun i hi => by have := hpa i hi; omega⟩
def Zb : List UInt8 := List.replicate 256 0
def Zc : Array Value := (bvs Zb).toArray
theorem mk256 (W : World) : (Instr.makeSlice 32 (.int .i64 256) (.int .i64 256)).run Tryz.prog W = .ok (.slice (some ⟨W.heap.size, 0, none⟩) 256 256) (W.alloc (.cells Zc 5)) := by kernel_rfl
theorem exec_mk256 {o : Oper} {a : Act} (hop : o.op = Op.makeSlice 32 (.const (.int .i64 256)) (.const (.int .i64 256))) (W : World) : (execOp a.eval o).run Tryz.prog W = .ok (.value (.slice (some ⟨W.heap.size, 0, none⟩) 256 256)) (W.alloc (.cells Zc 5)) := by
  have h := mk256 W
  generalize W.alloc (.cells Zc 5) = W2 at *
  simp only [execOp, hop, Sem.run_bind, Sem.run_pure]
  simp [h, Act.eval, Result.andThen]
theorem zb_sl (W : World) (g : Nat) (h : W.heap[g]? = some (.cells Zc 5 (0, 0))) : SlB W (.slice (some ⟨g, 0, none⟩) 256 256) Zb [] := by
  refine ⟨by rw [bvs_length]; rfl, .inr (.inr ⟨g, 0, 256, rfl, by decide, by simp [maxLen], by rw [show bvs [] = [] from rfl, List.append_nil, bvs_length]; rfl, fun i u hu => ?_⟩)⟩
  rw [cell_of_heap h, Nat.zero_add]
  unfold Zc
  rw [List.getElem?_toArray]
  rw [show bvs ([] : List UInt8) = [] from rfl, List.append_nil] at hu
  exact hu
/-- A slice of four lists, as their cells lie in a new block. -/
theorem Ls.four {W : World} {g : Nat} {v1 v2 v3 v4 : Value} {b1 b2 b3 b4 s1 s2 s3 s4 : List UInt8} (h : W.heap[g]? = some (.cells #[v1, v2, v3, v4] 32 (0, 0))) (o1 : v1.oneCell' = true) (o2 : v2.oneCell' = true) (o3 : v3.oneCell' = true) (o4 : v4.oneCell' = true)
    (h1 : SlB W v1 b1 s1) (h2 : SlB W v2 b2 s2) (h3 : SlB W v3 b3 s3) (h4 : SlB W v4 b4 s4) : Ls W (.slice (some ⟨g, 0, none⟩) 4 4) [b1, b2, b3, b4] := by
  refine ⟨[⟨v1, o1⟩, ⟨v2, o2⟩, ⟨v3, o3⟩, ⟨v4, o4⟩], [], Kr.SlE.of_block encC (T := 32) h rfl (by decide), rfl, fun i c b hc hb => ?_⟩
  match i with
  | 0 => simp at hc hb; subst hc; subst hb; exact ⟨_, h1⟩
  | 1 => simp at hc hb; subst hc; subst hb; exact ⟨_, h2⟩
  | 2 => simp at hc hb; subst hc; subst hb; exact ⟨_, h3⟩
  | 3 => simp at hc hb; subst hc; subst hb; exact ⟨_, h4⟩
  | i + 4 => simp at hc
def FourP (b c : List UInt8) (w : World) (r : Ending) (w' : World) : Prop := ∃ v, r = .returned v ∧ Ls w' v [Zb, b, c, Zb] ∧ Frm [] w w'
set_option maxHeartbeats 2000000 in
theorem four_any (x y : Value) (b c s1 s2 : List UInt8) (w : World) (hx : SlB w x b s1) (hy : SlB w y c s2) : Calls Tryz.prog 48 #[x, y] w (FourP b c w) := by
  obtain ⟨a, cap, rfl, _, _⟩ := hx.form
  obtain ⟨a2, cap2, rfl, _, _⟩ := hy.form
  have HX := Lib.hid hx
  have HY := Lib.hid hy
  have hmix : Tryz.prog.follows .mixedOrders = true := by kernel_rfl
  have hmk := mk256
  clear hx hy
  go_enter Tryz.func48, Tryz.ntmps48
  go_wp2_with fail
  go_region_law (fail)
  all_goals
    have hA := heap_alloc_lt (o := .cells Zc 5) (heap_alloc_new w (.cells Zc 5))
    have hB : ((w.alloc (.cells Zc 5)).alloc (.cells Zc 5)).heap[w.heap.size + 1]? = some (.cells Zc 5 (0, 0)) := heap_at (by simp)
    have fA : Frm [] w ((w.alloc (.cells Zc 5)).alloc (.cells Zc 5)) := ((Frm.refl [] w).alloc _).alloc _
    have hzz : ((w.alloc (.cells Zc 5)).alloc (.cells Zc 5)).heap.size = w.heap.size + 1 + 1 := by simp
    generalize (w.alloc (.cells Zc 5)).alloc (.cells Zc 5) = W2 at *
    generalize w.heap.size + 1 + 1 = n2 at *
    generalize w.heap.size + 1 = n1 at *
    generalize w.heap.size = n0 at *
  · have fB : Frm [] W2 (W2.alloc (.cells #[.slice (some ⟨n0, 0, none⟩) 256 256, .slice a b.length cap, .slice a2 c.length cap2, .slice (some ⟨n1, 0, none⟩) 256 256] 32)).drew := ((Frm.refl [] W2).alloc _).drew
    have hC : (W2.alloc (.cells #[.slice (some ⟨n0, 0, none⟩) 256 256, .slice a b.length cap, .slice a2 c.length cap2, .slice (some ⟨n1, 0, none⟩) 256 256] 32)).drew.heap[n2]? = some (.cells #[.slice (some ⟨n0, 0, none⟩) 256 256, .slice a b.length cap, .slice a2 c.length cap2, .slice (some ⟨n1, 0, none⟩) 256 256] 32 (0, 0)) := by rw [← hzz]; exact heap_alloc_new W2 _
    generalize (W2.alloc (.cells #[.slice (some ⟨n0, 0, none⟩) 256 256, .slice a b.length cap, .slice a2 c.length cap2, .slice (some ⟨n1, 0, none⟩) 256 256] 32)).drew = W3 at *
    go_wp2_with fail
    go_ret
    exact ⟨_, rfl, Ls.four hC rfl rfl rfl rfl (zb_sl W3 n0 (fB.heap hA (by simp))) (HX.out.keep (fA.trans fB (by simp)) (by simp)) (HY.out.keep (fA.trans fB (by simp)) (by simp)) (zb_sl W3 n1 (fB.heap hB (by simp))), fA.trans fB (by simp)⟩
  · have fB : Frm [] W2 (W2.alloc (.cells #[.slice (some ⟨n1, 0, none⟩) 256 256, .slice a b.length cap, .slice a2 c.length cap2, .slice (some ⟨n0, 0, none⟩) 256 256] 32)).drew := ((Frm.refl [] W2).alloc _).drew
    have hC : (W2.alloc (.cells #[.slice (some ⟨n1, 0, none⟩) 256 256, .slice a b.length cap, .slice a2 c.length cap2, .slice (some ⟨n0, 0, none⟩) 256 256] 32)).drew.heap[n2]? = some (.cells #[.slice (some ⟨n1, 0, none⟩) 256 256, .slice a b.length cap, .slice a2 c.length cap2, .slice (some ⟨n0, 0, none⟩) 256 256] 32 (0, 0)) := by rw [← hzz]; exact heap_alloc_new W2 _
    generalize (W2.alloc (.cells #[.slice (some ⟨n1, 0, none⟩) 256 256, .slice a b.length cap, .slice a2 c.length cap2, .slice (some ⟨n0, 0, none⟩) 256 256] 32)).drew = W3 at *
    go_wp2_with fail
    go_ret
    exact ⟨_, rfl, Ls.four hC rfl rfl rfl rfl (zb_sl W3 n1 (fB.heap hB (by simp))) (HX.out.keep (fA.trans fB (by simp)) (by simp)) (HY.out.keep (fA.trans fB (by simp)) (by simp)) (zb_sl W3 n0 (fB.heap hA (by simp))), fA.trans fB (by simp)⟩
end Go.Proofs.YtjdejhgfkjeeiaaGreatDoor

namespace Go.Proofs.YtjdejhgfkjeeiaaGreatDoor
open Go.RowKit
set_option linter.unusedVariables false
set_option linter.unusedSimpArgs false
set_option maxRecDepth 100000

open Pt (Pt may enc readPt readE zeroPt pc pv PtV SlA OwnA)
open Kr (OwnE SlE Enco RowTys)
theorem built28x3 {c d e : List Value} (hl : c.length = 69) (hd : d.length = 69) (he : e.length = 69) : Tryz.prog.builtSlice 28 3 [(0, .agg c.toArray), (1, .agg d.toArray), (2, .agg e.toArray)] = some (c ++ (d ++ e)).toArray := by
  obtain ⟨i, hi, hz, hsz⟩ := info28
  unfold Program.builtSlice
  simp only [hi, hz, hsz]
  have h0 : (Array.range (3 * 69)).map ((Value.agg (uc nilS zeroU).toArray).cells[· % (Value.agg (uc nilS zeroU).toArray).cells.size]!) = (uc nilS zeroU ++ (uc nilS zeroU ++ uc nilS zeroU)).toArray := by kernel_rfl
  have lz := uc_length (v := nilS) zeroU_wf
  rw [if_neg (by decide), h0]
  have e1 := fold_set2 0 (uc nilS zeroU ++ uc nilS zeroU) c 0 [] (uc nilS zeroU) (by omega) rfl
  have e2 := fold_set2 69 (uc nilS zeroU) d 0 c (uc nilS zeroU) (by omega) (by omega)
  have e3 := fold_set2 138 [] e 0 (c ++ d) (uc nilS zeroU) (by omega) (by simp; omega)
  rw [fill_cons (off := 0) (size := 69) rfl (by rw [show (Value.agg c.toArray).cells = c.toArray from rfl]; simp [hl]) (by simp [lz])]
  rw [show (Value.agg c.toArray).cells = c.toArray from rfl]
  have h1 : c.toArray.zipIdx.foldl (fun (cs : Array Value) (x : Value × Nat) => cs.setIfInBounds (0 + x.2) x.1) (uc nilS zeroU ++ (uc nilS zeroU ++ uc nilS zeroU)).toArray = (c ++ (uc nilS zeroU ++ uc nilS zeroU)).toArray := by
    simpa [← Array.foldl_toList] using e1
  rw [h1]
  rw [fill_cons (off := 69) (size := 69) rfl (by rw [show (Value.agg d.toArray).cells = d.toArray from rfl]; simp [hd]) (by simp [lz, hl])]
  rw [show (Value.agg d.toArray).cells = d.toArray from rfl]
  have h2 : d.toArray.zipIdx.foldl (fun (cs : Array Value) (x : Value × Nat) => cs.setIfInBounds (69 + x.2) x.1) (c ++ (uc nilS zeroU ++ uc nilS zeroU)).toArray = (c ++ (d ++ uc nilS zeroU)).toArray := by
    simpa [← Array.foldl_toList] using e2
  rw [h2]
  rw [fill_cons (off := 138) (size := 69) rfl (by rw [show (Value.agg e.toArray).cells = e.toArray from rfl]; simp [he]) (by simp [lz, hl, hd])]
  rw [show (Value.agg e.toArray).cells = e.toArray from rfl, Instr.fill]
  rw [show c ++ (d ++ uc nilS zeroU) = c ++ d ++ (uc nilS zeroU ++ []) by simp]
  simpa [← Array.foldl_toList] using e3
theorem UbV.rowOf {w : World} {x : Value} {u : Ub} (h : UbV w x u) : ∃ r : RowT, x = .agg r.1.toArray ∧ RowV w r u := by
  obtain ⟨a, cap, sp, rfl, hA, hw⟩ := h
  exact ⟨rowU (.slice a u.root.ads.length cap) rfl u hw, rfl, a, cap, sp, rfl, hA, hw⟩
theorem RowV.keep0 {w w' : World} {r : RowT} {u : Ub} (h : RowV w r u) (f : Frm [] w w') : RowV w' r u := by
  obtain ⟨a, cap, sp, e, hA, hw⟩ := h
  exact ⟨a, cap, sp, e, hA.keep f (by simp), hw⟩
section
variable {ops : Array Oper} {o : Oper} {a : Act} {w : World} {K : Act → World → Prop} {Q : Exit → Act → World → Prop} {E : Prop}
theorem step_bsTo (hw : Region.wanted o (yielded ops a.tmps) = true) (len : Nat) (parts : Array (Nat × Operand)) (ho : o.op = .buildSlice 30 len parts) (cells : Array Value)
    (hf : Tryz.prog.builtSlice 28 len (parts.map fun (i, x) => (i, a.eval x)).toList = some cells) (h : K (a.put o.dst (.slice (some ⟨w.heap.size, 0, none⟩) len len)) (w.alloc (.cells cells 28))) :
    if Region.wanted o (yielded ops a.tmps) = true then Oper.wp Tryz.prog o a w K Q else E := by
  rw [if_pos hw]
  unfold Program.builtSlice at hf
  cases hie : Tryz.prog.info? 28 with
  | none => simp [hie] at hf
  | some ie =>
    simp only [hie] at hf
    cases hz : ie.zero with
    | none => simp [hz] at hf
    | some z =>
      simp only [hz] at hf
      by_cases hc : len * ie.size > 2 ^ 24 ∨ len * ie.size = 0
      · simp [hc] at hf
      · rw [if_neg hc] at hf
        exact wp_buildSlice 30 28 len parts ho cells ie z Tryz.underlying30 hie hz (fun h' => hc (Or.inl h')) (fun h' => hc (Or.inr h')) hf h
theorem step_us2 (hw : Region.wanted o (yielded ops a.tmps) = true) (p q : Operand) (ho : o.op = .buildSlice 30 2 #[(0, p), (1, q)]) {x y : Value} {u1 u2 : Ub} (hp : a.eval p = x) (hq : a.eval q = y) (h1 : UbV w x u1) (h2 : UbV w y u2)
    (k : ∀ w', Us w' (.slice (some ⟨w.heap.size, 0, none⟩) 2 2) [u1, u2] → Frm [] w w' → K (a.put o.dst (.slice (some ⟨w.heap.size, 0, none⟩) 2 2)) w') : if Region.wanted o (yielded ops a.tmps) = true then Oper.wp Tryz.prog o a w K Q else E := by
  obtain ⟨r1, rfl, v1⟩ := h1.rowOf
  obtain ⟨r2, rfl, v2⟩ := h2.rowOf
  have f : Frm [] w (w.alloc (.cells (r1.1 ++ r2.1).toArray 28)) := (Frm.refl [] w).alloc _
  refine step_bsTo hw 2 _ ho (r1.1 ++ r2.1).toArray (by simp only [List.map_toArray, List.map_cons, List.map_nil, hp, hq]; exact built28x2 r1.2.1 r2.2.1) (k _ ⟨[r1, r2], [], Kr.SlE.of_block (T := 28) encR (by rw [show Kr.flt eR [r1, r2] = r1.1 ++ r2.1 by simp [Kr.flt, eR]]; exact heap_alloc_new _ _) rfl (by decide), rfl, fun i r u hr hu => ?_⟩ f)
  match i with
  | 0 => simp at hr hu; subst hr; subst hu; exact v1.keep0 f
  | 1 => simp at hr hu; subst hr; subst hu; exact v2.keep0 f
  | i + 2 => simp at hr
theorem step_us3 (hw : Region.wanted o (yielded ops a.tmps) = true) (p q s : Operand) (ho : o.op = .buildSlice 30 3 #[(0, p), (1, q), (2, s)]) {x y z : Value} {u1 u2 u3 : Ub} (hp : a.eval p = x) (hq : a.eval q = y) (hs : a.eval s = z) (h1 : UbV w x u1) (h2 : UbV w y u2) (h3 : UbV w z u3)
    (k : ∀ w', Us w' (.slice (some ⟨w.heap.size, 0, none⟩) 3 3) [u1, u2, u3] → Frm [] w w' → K (a.put o.dst (.slice (some ⟨w.heap.size, 0, none⟩) 3 3)) w') : if Region.wanted o (yielded ops a.tmps) = true then Oper.wp Tryz.prog o a w K Q else E := by
  obtain ⟨r1, rfl, v1⟩ := h1.rowOf
  obtain ⟨r2, rfl, v2⟩ := h2.rowOf
  obtain ⟨r3, rfl, v3⟩ := h3.rowOf
  have f : Frm [] w (w.alloc (.cells (r1.1 ++ (r2.1 ++ r3.1)).toArray 28)) := (Frm.refl [] w).alloc _
  refine step_bsTo hw 3 _ ho (r1.1 ++ (r2.1 ++ r3.1)).toArray (by simp only [List.map_toArray, List.map_cons, List.map_nil, hp, hq, hs]; exact built28x3 r1.2.1 r2.2.1 r3.2.1) (k _ ⟨[r1, r2, r3], [], Kr.SlE.of_block (T := 28) encR (by rw [show Kr.flt eR [r1, r2, r3] = r1.1 ++ (r2.1 ++ r3.1) by simp [Kr.flt, eR]]; exact heap_alloc_new _ _) rfl (by decide), rfl, fun i r u hr hu => ?_⟩ f)
  match i with
  | 0 => simp at hr hu; subst hr; subst hu; exact v1.keep0 f
  | 1 => simp at hr hu; subst hr; subst hu; exact v2.keep0 f
  | 2 => simp at hr hu; subst hr; subst hu; exact v3.keep0 f
  | i + 3 => simp at hr
end
/-- What the examples' slots have. -/
theorem stand_none (pool : List UInt8) (i : Nat) : stands pool i Zb = false := by
  have h : unp Zb = (zeroU, 6) := by unfold unp; rw [if_neg (by simp [Zb]), if_pos (show Zb = List.replicate 256 0 from rfl)]
  unfold stands
  rw [h]; rfl
theorem stand_of {t : Int} (h1 : 1 ≤ t) (h2 : t ≤ 2147483648) (i : Nat) (pool : List UInt8) : stands pool i (packU (ofU t)) = ((List.replicate 32 0 == pool) && (((1 + i : Nat) : Int) == 1 + t % 4)) := by
  unfold stands
  rw [unp_pack (ofU_wf t) (ofU_may h1 h2)]
  rw [slotN_may (ofU_may h1 h2)]
  rfl
def z32g : List UInt8 := List.replicate 32 0
theorem found56 : foundU z32g [Zb, packU (ofU 5), packU (ofU 6), Zb] = [ofU 5, ofU 6] := by
  have h0 : stands z32g 0 Zb = false := stand_none _ _
  have h1 : stands z32g 1 (packU (ofU 5)) = true := by rw [stand_of (by decide) (by decide)]; decide
  have h2 : stands z32g 2 (packU (ofU 6)) = true := by rw [stand_of (by decide) (by decide)]; decide
  have h3 : stands z32g 3 Zb = false := stand_none _ _
  unfold foundU
  rw [if_pos (by rfl)]
  have e : ∀ i b, rowAt [Zb, packU (ofU 5), packU (ofU 6), Zb] i = b → fndAt z32g [Zb, packU (ofU 5), packU (ofU 6), Zb] i = if stands z32g i b = true then some (unp b).1 else none := fun i b h => by unfold fndAt; rw [h]
  unfold fnd
  rw [show List.range 4 = [0, 1, 2, 3] from rfl]
  simp only [List.filterMap_cons, List.filterMap_nil]
  rw [e 0 Zb rfl, e 1 (packU (ofU 5)) rfl, e 2 (packU (ofU 6)) rfl, e 3 Zb rfl, h0, h1, h2, h3, unp_pack (ofU_wf 5) (ofU_may (by decide) (by decide)), unp_pack (ofU_wf 6) (ofU_may (by decide) (by decide))]
  rfl
theorem ltE_of {s t : Int} (h : t < s) : ltE (entU (ofU s)) (entU (ofU t)) = true := ltE_iff.2 (.inl h)
theorem best56 : bestU [ofU 5, ofU 6, ofU 5] = [ofU 6, ofU 5] := by
  refine (Best.eq (fun u hu => ?_) ⟨?_, fun x => ?_⟩).symm
  · simp at hu; rcases hu with rfl | rfl | rfl <;> exact ofU_wf _
  · exact List.pairwise_cons.2 ⟨fun e he => by simp at he; subst he; exact ltE_of (by decide), List.pairwise_singleton _ _⟩
  · simp only [List.mem_cons, List.not_mem_nil, or_false]
    constructor
    · rintro (rfl | rfl)
      · exact ⟨by simp, ofU_may (by decide) (by decide)⟩
      · exact ⟨by simp, ofU_may (by decide) (by decide)⟩
    · rintro ⟨rfl | rfl | rfl, _⟩ <;> simp
end Go.Proofs.YtjdejhgfkjeeiaaGreatDoor

namespace Go.Proofs.YtjdejhgfkjeeiaaGreatDoor
open Go.RowKit
set_option linter.unusedVariables false
set_option linter.unusedSimpArgs false
set_option maxRecDepth 100000

open Pt (Pt may enc readPt readE zeroPt pc pv PtV SlA OwnA)
open Kr (OwnE SlE Enco RowTys)
theorem bld24z (W : World) : (Instr.build 24 #[]).run Tryz.prog W = .ok (idv z32g) W := by kernel_rfl
theorem exec_bld24z {o : Oper} {a : Act} (hop : o.op = Op.build 24 #[]) (W : World) : (execOp a.eval o).run Tryz.prog W = .ok (.value (idv z32g)) W := by
  have hb := bld24z W
  simp [execOp, hop, hb, Result.andThen]
def YesR (w : World) (e : Ending) (w' : World) : Prop := e = .returned (.bool true) ∧ Frm [] w w'
theorem fits_of {l : List Ub} (h : l.length ≤ 1000) (h2 : ∀ u ∈ l, u.root = zeroPt) : Fits l := ⟨h, fun u hu => by rw [h2 u hu]; exact Nat.zero_le _⟩
set_option maxHeartbeats 16000000 in
theorem awakeR_any {s0 s1 s2 : Addr} (w : World) (hs : Sens w s0 s1 s2) (hG : Hs.Glob w) : Calls Tryz.prog 34 #[] w (YesR w) := by
  have HO5 := Lib.hid (fun W (f : Frm [] w W) => of_any 5 W (by decide) (by decide) (hG.keep f (by simp)))
  have HO6 := Lib.hid (fun W (f : Frm [] w W) => of_any 6 W (by decide) (by decide) (hG.keep f (by simp)))
  unfold OfP at HO5 HO6
  have HFO := Lib.hid (fun v W (f : Frm [] w W) (h : Ls W v [Zb, packU (ofU 5), packU (ofU 6), Zb]) => Found_any v [Zb, packU (ofU 5), packU (ofU 6), Zb] z32g W h (fun b hb => by
    simp at hb
    rcases hb with rfl | rfl | rfl | rfl
    · simp [Zb]
    · rw [packU_length (ofU_wf 5) (ofU_may (by decide) (by decide))]; decide
    · rw [packU_length (ofU_wf 6) (ofU_may (by decide) (by decide))]; decide
    · simp [Zb]) rfl (hs.keep0 f) (hG.keep f (by simp)))
  unfold FoundP at HFO
  rw [found56, show foundE [Zb, packU (ofU 5), packU (ofU 6), Zb] = 0 from rfl] at HFO
  have HBE := Lib.hid (fun v W (f : Frm [] w W) (h : Us W v [ofU 5, ofU 6, ofU 5]) => Best_any v [ofU 5, ofU 6, ofU 5] W h (fits_of (by decide) (fun u hu => by simp at hu; rcases hu with rfl | rfl | rfl <;> rfl)) (hs.keep0 f) (hG.keep f (by simp)))
  unfold BestP at HBE
  rw [best56] at HBE
  have HS1 := Lib.hid (fun x y W (hx : Us W x [ofU 5, ofU 6]) (hy : Us W y [ofU 5, ofU 6]) => SameUbs_true x y _ W hx hy (fits_of (by decide) (fun u hu => by simp at hu; rcases hu with rfl | rfl <;> rfl)))
  have HS2 := Lib.hid (fun x y W (hx : Us W x [ofU 6, ofU 5]) (hy : Us W y [ofU 6, ofU 5]) => SameUbs_true x y _ W hx hy (fits_of (by decide) (fun u hu => by simp at hu; rcases hu with rfl | rfl <;> rfl)))
  have HV5 := Lib.hid (fun W => ofU_v 5 W)
  have HV6 := Lib.hid (fun W => ofU_v 6 W)
  have hw5 := ofU_wf 5
  have hw6 := ofU_wf 6
  have HSL := Lib.hid (fun W => Slot_any 7 W)
  rw [show slotN 7 = 4 by decide, show slotB 7 = true by decide] at HSL
  clear hs hG
  obtain ⟨P5, hP5⟩ : ∃ P, packU (ofU 5) = P := ⟨_, rfl⟩
  obtain ⟨P6, hP6⟩ : ∃ P, packU (ofU 6) = P := ⟨_, rfl⟩
  rw [hP5] at HO5 HFO
  rw [hP6] at HO6 HFO
  clear hP5 hP6
  generalize ofU 5 = u5 at *
  generalize ofU 6 = u6 at *
  go_enter Tryz.func34, Tryz.ntmps34
  go_upto_region 2 with (first
    | ((with_reducible (show wpList _ _ _ (Oper.mk _ (Op.alloc 28) _ _ _ _ :: _) _ _)); refine wpList_lay28 rfl rfl rfl _ _ rfl (v := nilS) rfl (u := u5) hw5 rfl rfl ?_)
    | (go_at_call 47; refine (HO5.out _ (Frm.refl [] w)).mono ?_; rintro r w1 ⟨pa, pc, ps, rfl, po, f1, _⟩))
  have f2 : Frm [] w1 (w1.alloc (.cells (uc nilS u5).toArray 28)) := (Frm.refl [] w1).alloc _
  have G1 := Lib.hid (UB.new w1 nilS hw5)
  have S1 := Lib.hid ((po.keep f2 (by simp)).sl)
  have F2 := Lib.hid (f1.trans f2 (by simp))
  clear f1 f2 po
  generalize w1.alloc (.cells (uc nilS u5).toArray 28) = W2 at *
  generalize w1.heap.size = L1 at *
  go_upto_region 3 with (first
    | ((with_reducible (show wpList _ _ _ (Oper.mk _ (Op.alloc 28) _ _ _ _ :: _) _ _)); refine wpList_lay28 rfl rfl rfl _ _ rfl (v := nilS) rfl (u := u6) hw6 rfl rfl ?_)
    | (go_at_call 47; refine (HO6.out _ F2.out).mono ?_; rintro r w3 ⟨qa, qc, qs, rfl, qo, f3, _⟩))
  have f4 : Frm [] w3 (w3.alloc (.cells (uc nilS u6).toArray 28)) := (Frm.refl [] w3).alloc _
  have G3 := Lib.hid (UB.new w3 nilS hw6)
  have S3 := Lib.hid ((qo.keep f4 (by simp)).sl)
  have F4 := Lib.hid ((F2.out.trans f3 (by simp)).trans f4 (by simp))
  have G1b := Lib.hid (G1.out.keep0 (f3.trans f4 (by simp)))
  have S1b := Lib.hid (S1.out.keep (f3.trans f4 (by simp)) (by simp))
  clear f3 f4 qo G1 S1 F2
  generalize w3.alloc (.cells (uc nilS u6).toArray 28) = W4 at *
  generalize w3.heap.size = L3 at *
  have HFR := Lib.hid (four_any _ _ _ _ _ _ W4 S1b.out S3.out)
  unfold FourP at HFR
  go_upto_region 4 with (first
    | (go_at_call 48; refine HFR.out.mono ?_; rintro r w5 ⟨v5, rfl, l5, f5⟩; have F5 := Lib.hid (F4.out.trans f5 (by simp)); have L5 := Lib.hid l5; have G15 := Lib.hid (G1b.out.keep0 f5); have G35 := Lib.hid (G3.out.keep0 f5); clear f5 l5)
    | ((with_reducible (show wpList _ _ _ (Oper.mk _ (Op.build 24 _) _ _ _ _ :: _) _ _)); refine wpList_val rfl (exec_bld24z rfl _) ?_)
    | (go_at_call 36; refine (HFO.out _ _ F5.out L5.out).mono ?_; rintro r w6 ⟨v6, rs6, B6, rfl, t6, f6⟩))
  have G16 := Lib.hid (G15.out.keep0 f6)
  have G36 := Lib.hid (G35.out.keep0 f6)
  have F6 := Lib.hid (F5.out.trans f6 (by simp))
  have U6 := Lib.hid t6.us
  clear f6 t6 G15 G35 L5 F5 HFR S1b S3 G1b G3 F4
  go_upto_region 5 with (go_at_call 42; refine (HSL.out _).mono ?_; rintro r w7 ⟨rfl, hw7⟩; obtain rfl := hw7.symm)
  refine wp_region_held_drew (S := fun z => Frm [] w6 z) (by kernel_rfl) ((Frm.refl [] w6).drew) (fun hHeld => ?_)
  refine wpAnyH_take (i := 0) (oi := { dst := some 29, op := Op.move (Operand.tmp 6), type := 33, pos := "outright.go:31", after := #[], guard := none }) (v := ?_) rfl (by kernel_rfl) (by kernel_rfl) (by kernel_rfl) (fun _ _ _ h => h) (Or.inl ⟨by rfl, ?_⟩) hHeld ?_
  rotate_left
  focus (intro z hSw; clear hSw; go_simp; try with_reducible rfl)
  try simp only [Act.put, List.setIfInBounds_toArray, List.set_cons_zero, List.set_cons_succ]
  refine wpAnyH_take (i := 1) (oi := { dst := some 30, op := Op.binOp BinOp.eql 33 (Operand.tmp 29) (Operand.const (Value.int IntKind.i64 0)) 33, type := 4, pos := "outright.go:31", after := #[{ on := 0, ground := Ground.data }], guard := none }) (v := ?_) rfl (by kernel_rfl) (by kernel_rfl) (by kernel_rfl) (fun _ _ _ h => h) (Or.inl ⟨by rfl, ?_⟩) hHeld ?_
  rotate_left
  focus (intro z hSw; clear hSw; go_simp; try with_reducible rfl)
  try simp only [Act.put, List.setIfInBounds_toArray, List.set_cons_zero, List.set_cons_succ]
  refine wpAnyH_take (i := 2) (oi := { dst := some 31, op := Op.move (Operand.tmp 30), type := 4, pos := "outright.go:31", after := #[{ on := 1, ground := Ground.data }], guard := none }) (v := ?_) rfl (by kernel_rfl) (by kernel_rfl) (by kernel_rfl) (fun _ _ _ h => h) (Or.inl ⟨by rfl, ?_⟩) hHeld ?_
  rotate_left
  focus (intro z hSw; clear hSw; go_simp; try with_reducible rfl)
  try simp only [Act.put, List.setIfInBounds_toArray, List.set_cons_zero, List.set_cons_succ]
  refine wpAnyH_take (i := 3) (oi := { dst := some 32, op := Op.move (Operand.tmp 5), type := 30, pos := "outright.go:31", after := #[{ on := 2, ground := Ground.guard }], guard := some (2, true) }) (v := ?_) rfl (by kernel_rfl) (by kernel_rfl) (by kernel_rfl) (fun _ _ _ h => h) (Or.inl ⟨by rfl, ?_⟩) hHeld ?_
  rotate_left
  focus (intro z hSw; clear hSw; go_simp; try with_reducible rfl)
  try simp only [Act.put, List.setIfInBounds_toArray, List.set_cons_zero, List.set_cons_succ]
  refine wpAnyH_take (i := 4) (oi := { dst := some 33, op := Op.load 28 (Operand.tmp 1), type := 28, pos := "outright.go:31", after := #[{ on := 2, ground := Ground.guard }], guard := some (2, true) }) rfl (by kernel_rfl) (by kernel_rfl) (by kernel_rfl) (fun _ _ _ h => h) (yieldsIf_ld (by rfl) 28 _ rfl _ rfl (fun z hSw => (G16.out.keep0 hSw).gets.all)) hHeld ?_
  try simp only [Act.put, List.setIfInBounds_toArray, List.set_cons_zero, List.set_cons_succ]
  refine wpAnyH_take (i := 5) (oi := { dst := some 34, op := Op.load 28 (Operand.tmp 3), type := 28, pos := "outright.go:31", after := #[{ on := 2, ground := Ground.guard }], guard := some (2, true) }) rfl (by kernel_rfl) (by kernel_rfl) (by kernel_rfl) (fun _ _ _ h => h) (yieldsIf_ld (by rfl) 28 _ rfl _ rfl (fun z hSw => (G36.out.keep0 hSw).gets.all)) hHeld ?_
  try simp only [Act.put, List.setIfInBounds_toArray, List.set_cons_zero, List.set_cons_succ]
  refine wpAnyH_ready (rs := [6]) (by kernel_rfl) (by simp) ?_
  refine AllReadyH.cons (o := { dst := some 35, op := Op.buildSlice 30 2 #[(0, Operand.tmp 33), (1, Operand.tmp 34)], type := 30, pos := "outright.go:31", after := #[{ on := 4, ground := Ground.data }, { on := 5, ground := Ground.data }, { on := 2, ground := Ground.guard }], guard := some (2, true) }) rfl (fun K hK => ?_) ?_
  · refine step_us2 (by rfl) _ _ rfl rfl rfl (HV5.out _) (HV6.out _) ?_
    intro w36 u36 f36
    refine hK.out _ _ ?_ (fun hNext => ?_)
    · exact hHeld.trans f36 (by simp)
    clear hK K hHeld
    have hHeld := hNext
    clear hNext
    try simp only [Act.put, List.setIfInBounds_toArray, List.set_cons_zero, List.set_cons_succ]
    refine wpAnyH_ready (rs := [7]) (by kernel_rfl) (by simp) ?_
    refine AllReadyH.cons (o := { dst := some 36, op := Op.call { callee := Callee.value (Operand.func 38), args := #[Operand.tmp 32, Operand.tmp 35], argTypes := #[30, 30] }, type := 4, pos := "outright.go:31", after := #[{ on := 3, ground := Ground.data }, { on := 6, ground := Ground.data }, { on := 2, ground := Ground.chain }, { on := 2, ground := Ground.guard }], guard := some (2, true) }) rfl (fun K hK => ?_) ?_
    · go_simp
      refine (HS1.out _ _ _ (U6.out.keep0 hHeld) u36).mono ?_
      rintro r w37 ⟨rfl, f37⟩
      refine hK.out _ _ ?_ (fun hNext => ?_)
      · exact hHeld.trans f37 (by simp)
      clear hK K hHeld
      have hHeld := hNext
      clear hNext
      try simp only [Act.put, List.setIfInBounds_toArray, List.set_cons_zero, List.set_cons_succ]
      refine wpAnyH_take (i := 8) (oi := { dst := some 37, op := Op.pick (Operand.tmp 31) (Operand.tmp 36) (Operand.const (Value.bool false)), type := 4, pos := "outright.go:31", after := #[{ on := 2, ground := Ground.data }, { on := 7, ground := Ground.data }], guard := none }) (v := ?_) rfl (by kernel_rfl) (by kernel_rfl) (by kernel_rfl) (fun _ _ _ h => h) (Or.inl ⟨by rfl, ?_⟩) hHeld ?_
      rotate_left
      focus (intro z hSw; clear hSw; go_simp; try with_reducible rfl)
      try simp only [Act.put, List.setIfInBounds_toArray, List.set_cons_zero, List.set_cons_succ]
      refine wpAnyH_take (i := 9) (oi := { dst := some 38, op := Op.move (Operand.tmp 37), type := 4, pos := "outright.go:31", after := #[{ on := 8, ground := Ground.data }, { on := 7, ground := Ground.chain }], guard := none }) (v := ?_) rfl (by kernel_rfl) (by kernel_rfl) (by kernel_rfl) (fun _ _ _ h => h) (Or.inl ⟨by rfl, ?_⟩) hHeld ?_
      rotate_left
      focus (intro z hSw; clear hSw; go_simp; try with_reducible rfl)
      try simp only [Act.put, List.setIfInBounds_toArray, List.set_cons_zero, List.set_cons_succ]
      refine wpAnyH_take (i := 10) (oi := { dst := some 39, op := Op.move (Operand.tmp 7), type := 3, pos := "outright.go:31", after := #[{ on := 9, ground := Ground.guard }], guard := some (9, true) }) (v := ?_) rfl (by kernel_rfl) (by kernel_rfl) (by kernel_rfl) (fun _ _ _ h => h) (Or.inl ⟨by rfl, ?_⟩) hHeld ?_
      rotate_left
      focus (intro z hSw; clear hSw; go_simp; try with_reducible rfl)
      try simp only [Act.put, List.setIfInBounds_toArray, List.set_cons_zero, List.set_cons_succ]
      refine wpAnyH_take (i := 11) (oi := { dst := some 40, op := Op.binOp BinOp.eql 3 (Operand.tmp 39) (Operand.const (Value.int IntKind.i64 4)) 3, type := 4, pos := "outright.go:31", after := #[{ on := 10, ground := Ground.data }, { on := 9, ground := Ground.guard }], guard := some (9, true) }) (v := ?_) rfl (by kernel_rfl) (by kernel_rfl) (by kernel_rfl) (fun _ _ _ h => h) (Or.inl ⟨by rfl, ?_⟩) hHeld ?_
      rotate_left
      focus (intro z hSw; clear hSw; go_simp; try with_reducible rfl)
      try simp only [Act.put, List.setIfInBounds_toArray, List.set_cons_zero, List.set_cons_succ]
      refine wpAnyH_take (i := 12) (oi := { dst := some 41, op := Op.pick (Operand.tmp 38) (Operand.tmp 40) (Operand.const (Value.bool false)), type := 4, pos := "outright.go:31", after := #[{ on := 9, ground := Ground.data }, { on := 11, ground := Ground.data }], guard := none }) (v := ?_) rfl (by kernel_rfl) (by kernel_rfl) (by kernel_rfl) (fun _ _ _ h => h) (Or.inl ⟨by rfl, ?_⟩) hHeld ?_
      rotate_left
      focus (intro z hSw; clear hSw; go_simp; try with_reducible rfl)
      try simp only [Act.put, List.setIfInBounds_toArray, List.set_cons_zero, List.set_cons_succ]
      refine wpAnyH_take (i := 13) (oi := { dst := some 42, op := Op.move (Operand.tmp 41), type := 4, pos := "outright.go:31", after := #[{ on := 12, ground := Ground.data }, { on := 9, ground := Ground.chain }], guard := none }) (v := ?_) rfl (by kernel_rfl) (by kernel_rfl) (by kernel_rfl) (fun _ _ _ h => h) (Or.inl ⟨by rfl, ?_⟩) hHeld ?_
      rotate_left
      focus (intro z hSw; clear hSw; go_simp; try with_reducible rfl)
      try simp only [Act.put, List.setIfInBounds_toArray, List.set_cons_zero, List.set_cons_succ]
      refine wpAnyH_take (i := 14) (oi := { dst := some 43, op := Op.move (Operand.tmp 8), type := 4, pos := "outright.go:31", after := #[{ on := 13, ground := Ground.guard }], guard := some (13, true) }) (v := ?_) rfl (by kernel_rfl) (by kernel_rfl) (by kernel_rfl) (fun _ _ _ h => h) (Or.inl ⟨by rfl, ?_⟩) hHeld ?_
      rotate_left
      focus (intro z hSw; clear hSw; go_simp; try with_reducible rfl)
      try simp only [Act.put, List.setIfInBounds_toArray, List.set_cons_zero, List.set_cons_succ]
      refine wpAnyH_take (i := 15) (oi := { dst := some 44, op := Op.pick (Operand.tmp 42) (Operand.tmp 43) (Operand.const (Value.bool false)), type := 4, pos := "outright.go:31", after := #[{ on := 13, ground := Ground.data }, { on := 14, ground := Ground.data }], guard := none }) (v := ?_) rfl (by kernel_rfl) (by kernel_rfl) (by kernel_rfl) (fun _ _ _ h => h) (Or.inl ⟨by rfl, ?_⟩) hHeld ?_
      rotate_left
      focus (intro z hSw; clear hSw; go_simp; try with_reducible rfl)
      try simp only [Act.put, List.setIfInBounds_toArray, List.set_cons_zero, List.set_cons_succ]
      refine wpAnyH_take (i := 16) (oi := { dst := some 45, op := Op.move (Operand.tmp 44), type := 4, pos := "outright.go:31", after := #[{ on := 15, ground := Ground.data }, { on := 13, ground := Ground.chain }], guard := none }) (v := ?_) rfl (by kernel_rfl) (by kernel_rfl) (by kernel_rfl) (fun _ _ _ h => h) (Or.inl ⟨by rfl, ?_⟩) hHeld ?_
      rotate_left
      focus (intro z hSw; clear hSw; go_simp; try with_reducible rfl)
      try simp only [Act.put, List.setIfInBounds_toArray, List.set_cons_zero, List.set_cons_succ]
      refine wpAnyH_take (i := 17) (oi := { dst := some 46, op := Op.load 28 (Operand.tmp 1), type := 28, pos := "outright.go:31", after := #[{ on := 16, ground := Ground.guard }], guard := some (16, true) }) rfl (by kernel_rfl) (by kernel_rfl) (by kernel_rfl) (fun _ _ _ h => h) (yieldsIf_ld (by rfl) 28 _ rfl _ rfl (fun z hSw => (G16.out.keep0 hSw).gets.all)) hHeld ?_
      try simp only [Act.put, List.setIfInBounds_toArray, List.set_cons_zero, List.set_cons_succ]
      refine wpAnyH_take (i := 18) (oi := { dst := some 47, op := Op.load 28 (Operand.tmp 3), type := 28, pos := "outright.go:31", after := #[{ on := 16, ground := Ground.guard }], guard := some (16, true) }) rfl (by kernel_rfl) (by kernel_rfl) (by kernel_rfl) (fun _ _ _ h => h) (yieldsIf_ld (by rfl) 28 _ rfl _ rfl (fun z hSw => (G36.out.keep0 hSw).gets.all)) hHeld ?_
      try simp only [Act.put, List.setIfInBounds_toArray, List.set_cons_zero, List.set_cons_succ]
      refine wpAnyH_take (i := 19) (oi := { dst := some 48, op := Op.load 28 (Operand.tmp 1), type := 28, pos := "outright.go:31", after := #[{ on := 16, ground := Ground.guard }], guard := some (16, true) }) rfl (by kernel_rfl) (by kernel_rfl) (by kernel_rfl) (fun _ _ _ h => h) (yieldsIf_ld (by rfl) 28 _ rfl _ rfl (fun z hSw => (G16.out.keep0 hSw).gets.all)) hHeld ?_
      try simp only [Act.put, List.setIfInBounds_toArray, List.set_cons_zero, List.set_cons_succ]
      refine wpAnyH_take (i := 22) (oi := { dst := some 51, op := Op.load 28 (Operand.tmp 3), type := 28, pos := "outright.go:31", after := #[{ on := 16, ground := Ground.guard }], guard := some (16, true) }) rfl (by kernel_rfl) (by kernel_rfl) (by kernel_rfl) (fun _ _ _ h => h) (yieldsIf_ld (by rfl) 28 _ rfl _ rfl (fun z hSw => (G36.out.keep0 hSw).gets.all)) hHeld ?_
      try simp only [Act.put, List.setIfInBounds_toArray, List.set_cons_zero, List.set_cons_succ]
      refine wpAnyH_take (i := 23) (oi := { dst := some 52, op := Op.load 28 (Operand.tmp 1), type := 28, pos := "outright.go:31", after := #[{ on := 16, ground := Ground.guard }], guard := some (16, true) }) rfl (by kernel_rfl) (by kernel_rfl) (by kernel_rfl) (fun _ _ _ h => h) (yieldsIf_ld (by rfl) 28 _ rfl _ rfl (fun z hSw => (G16.out.keep0 hSw).gets.all)) hHeld ?_
      try simp only [Act.put, List.setIfInBounds_toArray, List.set_cons_zero, List.set_cons_succ]
      refine wpAnyH_ready (rs := [20, 24]) (by kernel_rfl) (by simp) ?_
      refine AllReadyH.cons (o := { dst := some 49, op := Op.buildSlice 30 3 #[(0, Operand.tmp 46), (1, Operand.tmp 47), (2, Operand.tmp 48)], type := 30, pos := "outright.go:31", after := #[{ on := 17, ground := Ground.data }, { on := 18, ground := Ground.data }, { on := 19, ground := Ground.data }, { on := 16, ground := Ground.guard }], guard := some (16, true) }) rfl (fun K hK => ?_) ?_
      · refine step_us3 (by rfl) _ _ _ rfl rfl rfl rfl (HV5.out _) (HV6.out _) (HV5.out _) ?_
        intro w20 u20 f20
        refine hK.out _ _ ?_ (fun hNext => ?_)
        · exact hHeld.trans f20 (by simp)
        clear hK K hHeld
        have hHeld := hNext
        clear hNext
        try simp only [Act.put, List.setIfInBounds_toArray, List.set_cons_zero, List.set_cons_succ]
        refine wpAnyH_ready (rs := [21, 24]) (by kernel_rfl) (by simp) ?_
        refine AllReadyH.cons (o := { dst := some 50, op := Op.call { callee := Callee.value (Operand.func 45), args := #[Operand.tmp 49], argTypes := #[30] }, type := 30, pos := "outright.go:31", after := #[{ on := 20, ground := Ground.data }, { on := 16, ground := Ground.chain }, { on := 16, ground := Ground.guard }], guard := some (16, true) }) rfl (fun K hK => ?_) ?_
        · go_simp
          refine (HBE.out _ _ (F6.out.trans hHeld (by simp)) (u20)).mono ?_
          rintro r w21 ⟨v21, rs21, B21, rfl, t21, f21⟩
          refine hK.out _ _ ?_ (fun hNext => ?_)
          · exact hHeld.trans f21 (by simp)
          clear hK K hHeld
          have hHeld := hNext
          clear hNext
          try simp only [Act.put, List.setIfInBounds_toArray, List.set_cons_zero, List.set_cons_succ]
          refine wpAnyH_ready (rs := [24]) (by kernel_rfl) (by simp) ?_
          refine AllReadyH.cons (o := { dst := some 53, op := Op.buildSlice 30 2 #[(0, Operand.tmp 51), (1, Operand.tmp 52)], type := 30, pos := "outright.go:31", after := #[{ on := 22, ground := Ground.data }, { on := 23, ground := Ground.data }, { on := 16, ground := Ground.guard }], guard := some (16, true) }) rfl (fun K hK => ?_) ?_
          · refine step_us2 (by rfl) _ _ rfl rfl rfl (HV6.out _) (HV5.out _) ?_
            intro w24 u24 f24
            refine hK.out _ _ ?_ (fun hNext => ?_)
            · exact hHeld.trans f24 (by simp)
            clear hK K hHeld
            have hHeld := hNext
            clear hNext
            try simp only [Act.put, List.setIfInBounds_toArray, List.set_cons_zero, List.set_cons_succ]
            refine wpAnyH_ready (rs := [25]) (by kernel_rfl) (by simp) ?_
            refine AllReadyH.cons (o := { dst := some 54, op := Op.call { callee := Callee.value (Operand.func 38), args := #[Operand.tmp 50, Operand.tmp 53], argTypes := #[30, 30] }, type := 4, pos := "outright.go:31", after := #[{ on := 21, ground := Ground.data }, { on := 24, ground := Ground.data }, { on := 21, ground := Ground.chain }, { on := 16, ground := Ground.guard }], guard := some (16, true) }) rfl (fun K hK => ?_) ?_
            · go_simp
              refine (HS2.out _ _ _ (t21.us.keep0 f24) (u24)).mono ?_
              rintro r w25 ⟨rfl, f25⟩
              refine hK.out _ _ ?_ (fun hNext => ?_)
              · exact hHeld.trans f25 (by simp)
              clear hK K hHeld
              have hHeld := hNext
              clear hNext
              try simp only [Act.put, List.setIfInBounds_toArray, List.set_cons_zero, List.set_cons_succ]
              refine wpAnyH_take (i := 26) (oi := { dst := some 55, op := Op.pick (Operand.tmp 45) (Operand.tmp 54) (Operand.const (Value.bool false)), type := 4, pos := "outright.go:31", after := #[{ on := 16, ground := Ground.data }, { on := 25, ground := Ground.data }], guard := none }) (v := ?_) rfl (by kernel_rfl) (by kernel_rfl) (by kernel_rfl) (fun _ _ _ h => h) (Or.inl ⟨by rfl, ?_⟩) hHeld ?_
              rotate_left
              focus (intro z hSw; clear hSw; go_simp; try with_reducible rfl)
              try simp only [Act.put, List.setIfInBounds_toArray, List.set_cons_zero, List.set_cons_succ]
              refine wpAnyH_take (i := 27) (oi := { dst := some 0, op := Op.assign (Operand.tmp 55), type := 4, pos := "outright.go:31", after := #[{ on := 26, ground := Ground.data }, { on := 25, ground := Ground.chain }, { on := 0, ground := Ground.phase }, { on := 1, ground := Ground.phase }, { on := 2, ground := Ground.phase }, { on := 3, ground := Ground.phase }, { on := 4, ground := Ground.phase }, { on := 5, ground := Ground.phase }, { on := 6, ground := Ground.phase }, { on := 7, ground := Ground.phase }, { on := 8, ground := Ground.phase }, { on := 9, ground := Ground.phase }, { on := 10, ground := Ground.phase }, { on := 11, ground := Ground.phase }, { on := 12, ground := Ground.phase }, { on := 13, ground := Ground.phase }, { on := 14, ground := Ground.phase }, { on := 15, ground := Ground.phase }, { on := 16, ground := Ground.phase }, { on := 17, ground := Ground.phase }, { on := 18, ground := Ground.phase }, { on := 19, ground := Ground.phase }, { on := 20, ground := Ground.phase }, { on := 21, ground := Ground.phase }, { on := 22, ground := Ground.phase }, { on := 23, ground := Ground.phase }, { on := 24, ground := Ground.phase }, { on := 25, ground := Ground.phase }, { on := 26, ground := Ground.phase }], guard := none }) (v := ?_) rfl (by kernel_rfl) (by kernel_rfl) (by kernel_rfl) (fun _ _ _ h => h) (Or.inl ⟨by rfl, ?_⟩) hHeld ?_
              rotate_left
              focus (intro z hSw; clear hSw; go_simp; try with_reducible rfl)
              try simp only [Act.put, List.setIfInBounds_toArray, List.set_cons_zero, List.set_cons_succ]
              refine wpAnyH_done (by kernel_rfl) ?_ _
              go_wp2_with fail
              go_ret
              exact ⟨rfl, F6.out.trans hHeld (by simp)⟩
            exact AllReadyH.nil
          exact AllReadyH.nil
        refine AllReadyH.cons (o := { dst := some 53, op := Op.buildSlice 30 2 #[(0, Operand.tmp 51), (1, Operand.tmp 52)], type := 30, pos := "outright.go:31", after := #[{ on := 22, ground := Ground.data }, { on := 23, ground := Ground.data }, { on := 16, ground := Ground.guard }], guard := some (16, true) }) rfl (fun K hK => ?_) ?_
        · refine step_us2 (by rfl) _ _ rfl rfl rfl (HV6.out _) (HV5.out _) ?_
          intro w24 u24 f24
          refine hK.out _ _ ?_ (fun hNext => ?_)
          · exact hHeld.trans f24 (by simp)
          clear hK K hHeld
          have hHeld := hNext
          clear hNext
          try simp only [Act.put, List.setIfInBounds_toArray, List.set_cons_zero, List.set_cons_succ]
          refine wpAnyH_ready (rs := [21]) (by kernel_rfl) (by simp) ?_
          refine AllReadyH.cons (o := { dst := some 50, op := Op.call { callee := Callee.value (Operand.func 45), args := #[Operand.tmp 49], argTypes := #[30] }, type := 30, pos := "outright.go:31", after := #[{ on := 20, ground := Ground.data }, { on := 16, ground := Ground.chain }, { on := 16, ground := Ground.guard }], guard := some (16, true) }) rfl (fun K hK => ?_) ?_
          · go_simp
            refine (HBE.out _ _ (F6.out.trans hHeld (by simp)) (u20.keep0 f24)).mono ?_
            rintro r w21 ⟨v21, rs21, B21, rfl, t21, f21⟩
            refine hK.out _ _ ?_ (fun hNext => ?_)
            · exact hHeld.trans f21 (by simp)
            clear hK K hHeld
            have hHeld := hNext
            clear hNext
            try simp only [Act.put, List.setIfInBounds_toArray, List.set_cons_zero, List.set_cons_succ]
            refine wpAnyH_ready (rs := [25]) (by kernel_rfl) (by simp) ?_
            refine AllReadyH.cons (o := { dst := some 54, op := Op.call { callee := Callee.value (Operand.func 38), args := #[Operand.tmp 50, Operand.tmp 53], argTypes := #[30, 30] }, type := 4, pos := "outright.go:31", after := #[{ on := 21, ground := Ground.data }, { on := 24, ground := Ground.data }, { on := 21, ground := Ground.chain }, { on := 16, ground := Ground.guard }], guard := some (16, true) }) rfl (fun K hK => ?_) ?_
            · go_simp
              refine (HS2.out _ _ _ (t21.us) (u24.keep0 f21)).mono ?_
              rintro r w25 ⟨rfl, f25⟩
              refine hK.out _ _ ?_ (fun hNext => ?_)
              · exact hHeld.trans f25 (by simp)
              clear hK K hHeld
              have hHeld := hNext
              clear hNext
              try simp only [Act.put, List.setIfInBounds_toArray, List.set_cons_zero, List.set_cons_succ]
              refine wpAnyH_take (i := 26) (oi := { dst := some 55, op := Op.pick (Operand.tmp 45) (Operand.tmp 54) (Operand.const (Value.bool false)), type := 4, pos := "outright.go:31", after := #[{ on := 16, ground := Ground.data }, { on := 25, ground := Ground.data }], guard := none }) (v := ?_) rfl (by kernel_rfl) (by kernel_rfl) (by kernel_rfl) (fun _ _ _ h => h) (Or.inl ⟨by rfl, ?_⟩) hHeld ?_
              rotate_left
              focus (intro z hSw; clear hSw; go_simp; try with_reducible rfl)
              try simp only [Act.put, List.setIfInBounds_toArray, List.set_cons_zero, List.set_cons_succ]
              refine wpAnyH_take (i := 27) (oi := { dst := some 0, op := Op.assign (Operand.tmp 55), type := 4, pos := "outright.go:31", after := #[{ on := 26, ground := Ground.data }, { on := 25, ground := Ground.chain }, { on := 0, ground := Ground.phase }, { on := 1, ground := Ground.phase }, { on := 2, ground := Ground.phase }, { on := 3, ground := Ground.phase }, { on := 4, ground := Ground.phase }, { on := 5, ground := Ground.phase }, { on := 6, ground := Ground.phase }, { on := 7, ground := Ground.phase }, { on := 8, ground := Ground.phase }, { on := 9, ground := Ground.phase }, { on := 10, ground := Ground.phase }, { on := 11, ground := Ground.phase }, { on := 12, ground := Ground.phase }, { on := 13, ground := Ground.phase }, { on := 14, ground := Ground.phase }, { on := 15, ground := Ground.phase }, { on := 16, ground := Ground.phase }, { on := 17, ground := Ground.phase }, { on := 18, ground := Ground.phase }, { on := 19, ground := Ground.phase }, { on := 20, ground := Ground.phase }, { on := 21, ground := Ground.phase }, { on := 22, ground := Ground.phase }, { on := 23, ground := Ground.phase }, { on := 24, ground := Ground.phase }, { on := 25, ground := Ground.phase }, { on := 26, ground := Ground.phase }], guard := none }) (v := ?_) rfl (by kernel_rfl) (by kernel_rfl) (by kernel_rfl) (fun _ _ _ h => h) (Or.inl ⟨by rfl, ?_⟩) hHeld ?_
              rotate_left
              focus (intro z hSw; clear hSw; go_simp; try with_reducible rfl)
              try simp only [Act.put, List.setIfInBounds_toArray, List.set_cons_zero, List.set_cons_succ]
              refine wpAnyH_done (by kernel_rfl) ?_ _
              go_wp2_with fail
              go_ret
              exact ⟨rfl, F6.out.trans hHeld (by simp)⟩
            exact AllReadyH.nil
          exact AllReadyH.nil
        exact AllReadyH.nil
      refine AllReadyH.cons (o := { dst := some 53, op := Op.buildSlice 30 2 #[(0, Operand.tmp 51), (1, Operand.tmp 52)], type := 30, pos := "outright.go:31", after := #[{ on := 22, ground := Ground.data }, { on := 23, ground := Ground.data }, { on := 16, ground := Ground.guard }], guard := some (16, true) }) rfl (fun K hK => ?_) ?_
      · refine step_us2 (by rfl) _ _ rfl rfl rfl (HV6.out _) (HV5.out _) ?_
        intro w24 u24 f24
        refine hK.out _ _ ?_ (fun hNext => ?_)
        · exact hHeld.trans f24 (by simp)
        clear hK K hHeld
        have hHeld := hNext
        clear hNext
        try simp only [Act.put, List.setIfInBounds_toArray, List.set_cons_zero, List.set_cons_succ]
        refine wpAnyH_ready (rs := [20]) (by kernel_rfl) (by simp) ?_
        refine AllReadyH.cons (o := { dst := some 49, op := Op.buildSlice 30 3 #[(0, Operand.tmp 46), (1, Operand.tmp 47), (2, Operand.tmp 48)], type := 30, pos := "outright.go:31", after := #[{ on := 17, ground := Ground.data }, { on := 18, ground := Ground.data }, { on := 19, ground := Ground.data }, { on := 16, ground := Ground.guard }], guard := some (16, true) }) rfl (fun K hK => ?_) ?_
        · refine step_us3 (by rfl) _ _ _ rfl rfl rfl rfl (HV5.out _) (HV6.out _) (HV5.out _) ?_
          intro w20 u20 f20
          refine hK.out _ _ ?_ (fun hNext => ?_)
          · exact hHeld.trans f20 (by simp)
          clear hK K hHeld
          have hHeld := hNext
          clear hNext
          try simp only [Act.put, List.setIfInBounds_toArray, List.set_cons_zero, List.set_cons_succ]
          refine wpAnyH_ready (rs := [21]) (by kernel_rfl) (by simp) ?_
          refine AllReadyH.cons (o := { dst := some 50, op := Op.call { callee := Callee.value (Operand.func 45), args := #[Operand.tmp 49], argTypes := #[30] }, type := 30, pos := "outright.go:31", after := #[{ on := 20, ground := Ground.data }, { on := 16, ground := Ground.chain }, { on := 16, ground := Ground.guard }], guard := some (16, true) }) rfl (fun K hK => ?_) ?_
          · go_simp
            refine (HBE.out _ _ (F6.out.trans hHeld (by simp)) (u20)).mono ?_
            rintro r w21 ⟨v21, rs21, B21, rfl, t21, f21⟩
            refine hK.out _ _ ?_ (fun hNext => ?_)
            · exact hHeld.trans f21 (by simp)
            clear hK K hHeld
            have hHeld := hNext
            clear hNext
            try simp only [Act.put, List.setIfInBounds_toArray, List.set_cons_zero, List.set_cons_succ]
            refine wpAnyH_ready (rs := [25]) (by kernel_rfl) (by simp) ?_
            refine AllReadyH.cons (o := { dst := some 54, op := Op.call { callee := Callee.value (Operand.func 38), args := #[Operand.tmp 50, Operand.tmp 53], argTypes := #[30, 30] }, type := 4, pos := "outright.go:31", after := #[{ on := 21, ground := Ground.data }, { on := 24, ground := Ground.data }, { on := 21, ground := Ground.chain }, { on := 16, ground := Ground.guard }], guard := some (16, true) }) rfl (fun K hK => ?_) ?_
            · go_simp
              refine (HS2.out _ _ _ (t21.us) (u24.keep0 (f20.trans f21 (by simp)))).mono ?_
              rintro r w25 ⟨rfl, f25⟩
              refine hK.out _ _ ?_ (fun hNext => ?_)
              · exact hHeld.trans f25 (by simp)
              clear hK K hHeld
              have hHeld := hNext
              clear hNext
              try simp only [Act.put, List.setIfInBounds_toArray, List.set_cons_zero, List.set_cons_succ]
              refine wpAnyH_take (i := 26) (oi := { dst := some 55, op := Op.pick (Operand.tmp 45) (Operand.tmp 54) (Operand.const (Value.bool false)), type := 4, pos := "outright.go:31", after := #[{ on := 16, ground := Ground.data }, { on := 25, ground := Ground.data }], guard := none }) (v := ?_) rfl (by kernel_rfl) (by kernel_rfl) (by kernel_rfl) (fun _ _ _ h => h) (Or.inl ⟨by rfl, ?_⟩) hHeld ?_
              rotate_left
              focus (intro z hSw; clear hSw; go_simp; try with_reducible rfl)
              try simp only [Act.put, List.setIfInBounds_toArray, List.set_cons_zero, List.set_cons_succ]
              refine wpAnyH_take (i := 27) (oi := { dst := some 0, op := Op.assign (Operand.tmp 55), type := 4, pos := "outright.go:31", after := #[{ on := 26, ground := Ground.data }, { on := 25, ground := Ground.chain }, { on := 0, ground := Ground.phase }, { on := 1, ground := Ground.phase }, { on := 2, ground := Ground.phase }, { on := 3, ground := Ground.phase }, { on := 4, ground := Ground.phase }, { on := 5, ground := Ground.phase }, { on := 6, ground := Ground.phase }, { on := 7, ground := Ground.phase }, { on := 8, ground := Ground.phase }, { on := 9, ground := Ground.phase }, { on := 10, ground := Ground.phase }, { on := 11, ground := Ground.phase }, { on := 12, ground := Ground.phase }, { on := 13, ground := Ground.phase }, { on := 14, ground := Ground.phase }, { on := 15, ground := Ground.phase }, { on := 16, ground := Ground.phase }, { on := 17, ground := Ground.phase }, { on := 18, ground := Ground.phase }, { on := 19, ground := Ground.phase }, { on := 20, ground := Ground.phase }, { on := 21, ground := Ground.phase }, { on := 22, ground := Ground.phase }, { on := 23, ground := Ground.phase }, { on := 24, ground := Ground.phase }, { on := 25, ground := Ground.phase }, { on := 26, ground := Ground.phase }], guard := none }) (v := ?_) rfl (by kernel_rfl) (by kernel_rfl) (by kernel_rfl) (fun _ _ _ h => h) (Or.inl ⟨by rfl, ?_⟩) hHeld ?_
              rotate_left
              focus (intro z hSw; clear hSw; go_simp; try with_reducible rfl)
              try simp only [Act.put, List.setIfInBounds_toArray, List.set_cons_zero, List.set_cons_succ]
              refine wpAnyH_done (by kernel_rfl) ?_ _
              go_wp2_with fail
              go_ret
              exact ⟨rfl, F6.out.trans hHeld (by simp)⟩
            exact AllReadyH.nil
          exact AllReadyH.nil
        exact AllReadyH.nil
      exact AllReadyH.nil
    exact AllReadyH.nil
  exact AllReadyH.nil
end Go.Proofs.YtjdejhgfkjeeiaaGreatDoor

namespace Go.Proofs.YtjdejhgfkjeeiaaGreatDoor
open Go.RowKit
set_option linter.unusedVariables false
set_option linter.unusedSimpArgs false
set_option maxRecDepth 100000

open Pt (Pt may enc readPt readE zeroPt pc pv PtV SlA OwnA)
open Kr (OwnE SlE Enco RowTys)
def o32 : List UInt8 := 1 :: List.replicate 31 0
theorem bld24o (W : World) : (Instr.build 24 #[(0, .int .u8 1)]).run Tryz.prog W = .ok (idv o32) W := by kernel_rfl
theorem exec_bld24o {o : Oper} {a : Act} (hop : o.op = Op.build 24 #[(0, .const (.int .u8 1))]) (W : World) : (execOp a.eval o).run Tryz.prog W = .ok (.value (idv o32)) W := by
  have hb := bld24o W
  have hm : (#[((0 : Nat), Operand.const (.int .u8 1))].map fun ((i, x) : Nat × Operand) => (i, a.eval x)) = #[(0, .int .u8 1)] := by simp [Act.eval]
  simp only [execOp, hop, hm, Sem.run_bind, Sem.run_pure, hb, Result.andThen_ok]
theorem fndAt_row {pool : List UInt8} {l : List (List UInt8)} {i : Nat} {b : List UInt8} (h : rowAt l i = b) : fndAt pool l i = if stands pool i b = true then some (unp b).1 else none := by unfold fndAt; rw [h]
theorem foundA : foundU z32g [packU (ofU 5), Zb, Zb, Zb] = [] := by
  have h0 : stands z32g 0 (packU (ofU 5)) = false := by rw [stand_of (by decide) (by decide)]; decide
  unfold foundU
  rw [if_pos (by rfl)]
  unfold fnd
  rw [show List.range 4 = [0, 1, 2, 3] from rfl]
  simp only [List.filterMap_cons, List.filterMap_nil]
  rw [fndAt_row (i := 0) (b := packU (ofU 5)) rfl, fndAt_row (i := 1) (b := Zb) rfl, fndAt_row (i := 2) (b := Zb) rfl, fndAt_row (i := 3) (b := Zb) rfl, h0, stand_none, stand_none, stand_none]
  rfl
theorem foundB : foundU o32 [Zb, packU (ofU 5), packU (ofU 6), Zb] = [] := by
  have h1 : stands o32 1 (packU (ofU 5)) = false := by rw [stand_of (by decide) (by decide)]; decide
  have h2 : stands o32 2 (packU (ofU 6)) = false := by rw [stand_of (by decide) (by decide)]; decide
  unfold foundU
  rw [if_pos (by rfl)]
  unfold fnd
  rw [show List.range 4 = [0, 1, 2, 3] from rfl]
  simp only [List.filterMap_cons, List.filterMap_nil]
  rw [fndAt_row (i := 0) (b := Zb) rfl, fndAt_row (i := 1) (b := packU (ofU 5)) rfl, fndAt_row (i := 2) (b := packU (ofU 6)) rfl, fndAt_row (i := 3) (b := Zb) rfl, h1, h2, stand_none, stand_none]
  rfl
theorem usedB_zb : usedB Zb = false := by kernel_rfl
theorem usedB_pack (u : Ub) : usedB (packU u) = true := by
  have h := packU_mark u
  have e : packU u = mark ++ (packU u).drop 8 := by rw [← h, List.take_append_drop]
  unfold usedB
  rw [e, List.any_append]
  rfl
theorem usedC (u v : Ub) : usedN [Zb, packU u, packU v, Zb] = 2 := by
  have h : usd [Zb, packU u, packU v, Zb] 4 = 2 := by
    have e3 : usd [Zb, packU u, packU v, Zb] (3 + 1) = usd [Zb, packU u, packU v, Zb] 3 := usd_no usedB_zb
    have e2 : usd [Zb, packU u, packU v, Zb] (2 + 1) = usd [Zb, packU u, packU v, Zb] 2 + 1 := usd_yes (usedB_pack v)
    have e1 : usd [Zb, packU u, packU v, Zb] (1 + 1) = usd [Zb, packU u, packU v, Zb] 1 + 1 := usd_yes (usedB_pack u)
    have e0 : usd [Zb, packU u, packU v, Zb] (0 + 1) = usd [Zb, packU u, packU v, Zb] 0 := usd_no usedB_zb
    rw [e3, e2, e1, e0]
    rfl
  unfold usedN
  rw [if_pos (by rfl), h]
  rfl
theorem usedD : usedN [[], [], [], []] = 0 := by kernel_rfl
theorem Ls.one {W : World} {g : Nat} {v1 : Value} {b1 s1 : List UInt8} (h : W.heap[g]? = some (.cells #[v1] 32 (0, 0))) (o1 : v1.oneCell' = true) (h1 : SlB W v1 b1 s1) : Ls W (.slice (some ⟨g, 0, none⟩) 1 1) [b1] := by
  refine ⟨[⟨v1, o1⟩], [], Kr.SlE.of_block encC (T := 32) h rfl (by decide), rfl, fun i c b hc hb => ?_⟩
  match i with
  | 0 => simp at hc hb; subst hc; subst hb; exact ⟨_, h1⟩
  | i + 1 => simp at hc
set_option maxHeartbeats 16000000 in
theorem knownR_any {s0 s1 s2 : Addr} (w : World) (hs : Sens w s0 s1 s2) (hG : Hs.Glob w) : Calls Tryz.prog 10 #[] w (YesR w) := by
  have HO5 := Lib.hid (fun W (f : Frm [] w W) => of_any 5 W (by decide) (by decide) (hG.keep f (by simp)))
  have HO6 := Lib.hid (fun W (f : Frm [] w W) => of_any 6 W (by decide) (by decide) (hG.keep f (by simp)))
  unfold OfP at HO5 HO6
  have l5 := packU_length (ofU_wf 5) (ofU_may (by decide) (by decide))
  have l6 := packU_length (ofU_wf 6) (ofU_may (by decide) (by decide))
  have lz : Zb.length = 256 := rfl
  have HFA := Lib.hid (fun v W (f : Frm [] w W) (h : Ls W v [packU (ofU 5), Zb, Zb, Zb]) => Found_any v _ z32g W h (fun b hb => by simp at hb; rcases hb with rfl | rfl | rfl | rfl <;> omega) rfl (hs.keep0 f) (hG.keep f (by simp)))
  have HFB := Lib.hid (fun v W (f : Frm [] w W) (h : Ls W v [Zb, packU (ofU 5), packU (ofU 6), Zb]) => Found_any v _ o32 W h (fun b hb => by simp at hb; rcases hb with rfl | rfl | rfl | rfl <;> omega) rfl (hs.keep0 f) (hG.keep f (by simp)))
  have HFC := Lib.hid (fun v W (f : Frm [] w W) (h : Ls W v [packU (ofU 5)]) => Found_any v _ z32g W h (fun b hb => by simp at hb; subst hb; omega) rfl (hs.keep0 f) (hG.keep f (by simp)))
  have HUA := Lib.hid (fun v W (h : Ls W v [Zb, packU (ofU 5), packU (ofU 6), Zb]) => Used_any v _ W h (fun b hb => by simp at hb; rcases hb with rfl | rfl | rfl | rfl <;> omega))
  have HUB := Lib.hid (fun v W (h : Ls W v [[], [], [], []]) => Used_any v _ W h (fun b hb => by simp at hb; subst hb; exact Nat.zero_le _))
  have HUC := Lib.hid (fun v W (h : Ls W v [packU (ofU 5)]) => Used_any v _ W h (fun b hb => by simp at hb; subst hb; omega))
  unfold FoundP at HFA HFB HFC
  unfold UsedP at HUA HUB HUC
  rw [foundA, show foundE [packU (ofU 5), Zb, Zb, Zb] = 0 from rfl] at HFA
  rw [foundB, show foundE [Zb, packU (ofU 5), packU (ofU 6), Zb] = 0 from rfl] at HFB
  rw [show foundE [packU (ofU 5)] = 2 from rfl] at HFC HUC
  rw [usedC, show foundE [Zb, packU (ofU 5), packU (ofU 6), Zb] = 0 from rfl] at HUA
  rw [usedD, show foundE [[], [], [], []] = 0 from rfl] at HUB
  rw [show usedN [packU (ofU 5)] = 0 from rfl] at HUC
  have HAW := Lib.hid (fun W (f : Frm [] w W) => awakeR_any W (hs.keep0 f) (hG.keep f (by simp)))
  unfold YesR at HAW
  have hw5 := ofU_wf 5
  have hw6 := ofU_wf 6
  have HA1 := Lib.hid (fun W => Slot_any 1 W)
  have HA2 := Lib.hid (fun W => Slot_any 4 W)
  have HA3 := Lib.hid (fun W => Slot_any 2147483648 W)
  have HA4 := Lib.hid (fun W => Slot_any 0 W)
  rw [show slotN 1 = 2 by decide, show slotB 1 = true by decide] at HA1
  rw [show slotN 4 = 1 by decide, show slotB 4 = true by decide] at HA2
  rw [show slotN 2147483648 = 1 by decide, show slotB 2147483648 = true by decide] at HA3
  rw [show slotN 0 = 0 by decide, show slotB 0 = false by decide] at HA4
  clear hs hG l5 l6 lz
  obtain ⟨P5, hP5⟩ : ∃ P, packU (ofU 5) = P := ⟨_, rfl⟩
  obtain ⟨P6, hP6⟩ : ∃ P, packU (ofU 6) = P := ⟨_, rfl⟩
  rw [hP5] at HO5 HFA HFB HFC HUA HUC
  rw [hP6] at HO6 HFB HUA
  clear hP5 hP6
  generalize ofU 5 = u5 at *
  generalize ofU 6 = u6 at *
  go_enter Tryz.func10, Tryz.ntmps10
  go_upto_region 2 with (first
    | ((with_reducible (show wpList _ _ _ (Oper.mk _ (Op.alloc 28) _ _ _ _ :: _) _ _)); refine wpList_lay28 rfl rfl rfl _ _ rfl (v := nilS) rfl (u := u5) hw5 rfl rfl ?_)
    | (go_at_call 47; refine (HO5.out _ (Frm.refl [] w)).mono ?_; rintro r w1 ⟨pa, pc, ps, rfl, po, f1, _⟩))
  have f2 : Frm [] w1 (w1.alloc (.cells (uc nilS u5).toArray 28)) := (Frm.refl [] w1).alloc _
  have S1 := Lib.hid ((po.keep f2 (by simp)).sl)
  have F2 := Lib.hid (f1.trans f2 (by simp))
  clear f1 f2 po
  generalize w1.alloc (.cells (uc nilS u5).toArray 28) = W2 at *
  generalize w1.heap.size = L1 at *
  go_upto_region 3 with (first
    | ((with_reducible (show wpList _ _ _ (Oper.mk _ (Op.alloc 28) _ _ _ _ :: _) _ _)); refine wpList_lay28 rfl rfl rfl _ _ rfl (v := nilS) rfl (u := u6) hw6 rfl rfl ?_)
    | (go_at_call 47; refine (HO6.out _ F2.out).mono ?_; rintro r w3 ⟨qa, qc, qs, rfl, qo, f3, _⟩))
  have f4 : Frm [] w3 (w3.alloc (.cells (uc nilS u6).toArray 28)) := (Frm.refl [] w3).alloc _
  have S6 := Lib.hid (fun W (f : Frm [] (w3.alloc (.cells (uc nilS u6).toArray 28)) W) => ((qo.keep f4 (by simp)).sl).keep f (by simp))
  have S5 := Lib.hid (fun W (f : Frm [] (w3.alloc (.cells (uc nilS u6).toArray 28)) W) => S1.out.keep ((f3.trans f4 (by simp)).trans f (by simp)) (by simp))
  have F4 := Lib.hid ((F2.out.trans f3 (by simp)).trans f4 (by simp))
  clear f3 f4 qo S1 F2
  generalize w3.alloc (.cells (uc nilS u6).toArray 28) = W4 at *
  generalize w3.heap.size = L3 at *
  have HFR := Lib.hid (fun W (f : Frm [] W4 W) => four_any _ _ _ _ _ _ W (S5.out W f) (S6.out W f))
  unfold FourP at HFR
  go_upto_region 4 with (go_at_call 42; refine (HA1.out _).mono ?_; rintro r w7 ⟨rfl, hw7⟩; obtain rfl := hw7.symm)
  go_upto_region 5 with (go_at_call 42; refine (HA2.out _).mono ?_; rintro r w7 ⟨rfl, hw7⟩; obtain rfl := hw7.symm)
  go_upto_region 6 with (go_at_call 42; refine (HA3.out _).mono ?_; rintro r w7 ⟨rfl, hw7⟩; obtain rfl := hw7.symm)
  go_upto_region 7 with (go_at_call 42; refine (HA4.out _).mono ?_; rintro r w7 ⟨rfl, hw7⟩; obtain rfl := hw7.symm)
  go_upto_region 8 with (fail)
  go_upto_region 9 with ((with_reducible (show wpList _ _ _ (Oper.mk _ (Op.makeSlice 32 _ _) _ _ _ _ :: _) _ _)); refine wpList_val rfl (exec_mk256 rfl _) ?_)
  have f5 : Frm [] W4 (W4.alloc (.cells Zc 5)) := (Frm.refl [] W4).alloc _
  have hZ := heap_alloc_new W4 (.cells Zc 5)
  have SZ := Lib.hid (fun W (f : Frm [] (W4.alloc (.cells Zc 5)) W) => zb_sl W W4.heap.size (f.heap hZ (by simp)))
  have F5 := Lib.hid f5
  clear f5 hZ
  generalize W4.alloc (.cells Zc 5) = W5 at *
  generalize W4.heap.size = L4 at *
  -- region 9
  have hLA : Ls (W5.alloc (.cells #[.slice pa 256 pc, .slice (some ⟨L4, 0, none⟩) 256 256, .slice (some ⟨L4, 0, none⟩) 256 256, .slice (some ⟨L4, 0, none⟩) 256 256] 32)) (.slice (some ⟨W5.heap.size, 0, none⟩) 4 4) [P5, Zb, Zb, Zb] := by
    have f : Frm [] W5 (W5.alloc (.cells #[.slice pa 256 pc, .slice (some ⟨L4, 0, none⟩) 256 256, .slice (some ⟨L4, 0, none⟩) 256 256, .slice (some ⟨L4, 0, none⟩) 256 256] 32)) := (Frm.refl [] W5).alloc _
    exact Ls.four (heap_alloc_new _ _) rfl rfl rfl rfl (S5.out _ (F5.out.trans f (by simp))) (SZ.out _ f) (SZ.out _ f) (SZ.out _ f)
  have HLA := Lib.hid hLA
  have FA := Lib.hid (F5.out.alloc (.cells #[.slice pa 256 pc, .slice (some ⟨L4, 0, none⟩) 256 256, .slice (some ⟨L4, 0, none⟩) 256 256, .slice (some ⟨L4, 0, none⟩) 256 256] 32))
  clear hLA
  go_upto_region 10 with (first
    | ((with_reducible (show wpList _ _ _ (Oper.mk _ (Op.build 24 _) _ _ _ _ :: _) _ _)); refine wpList_val rfl (exec_bld24z rfl _) ?_)
    | (go_at_call 36; refine (HFA.out _ _ (F4.out.trans FA.out (by simp)) HLA.out).mono ?_; rintro r w6 ⟨v6, rs6, B6, rfl, t6, f6⟩; have F6 := Lib.hid (FA.out.trans f6 (by simp)); obtain ⟨ax6, cx6, rfl⟩ := t6.form; clear f6 t6))
  clear FA HLA F5 SZ HFA
  go_upto_region 11 with (first
    | (go_at_call 48; refine (HFR.out _ F6.out).mono ?_; rintro r w7 ⟨v7, rfl, l7, f7⟩; have F7 := Lib.hid (F6.out.trans f7 (by simp)); have L7 := Lib.hid l7; clear f7 l7)
    | ((with_reducible (show wpList _ _ _ (Oper.mk _ (Op.build 24 _) _ _ _ _ :: _) _ _)); refine wpList_val rfl (exec_bld24o rfl _) ?_)
    | (go_at_call 36; refine (HFB.out _ _ (F4.out.trans F7.out (by simp)) L7.out).mono ?_; rintro r w8 ⟨v8, rs8, B8, rfl, t8, f8⟩; have F8 := Lib.hid (F7.out.trans f8 (by simp)); obtain ⟨ax8, cx8, rfl⟩ := t8.form; clear f8 t8))
  clear F6 F7 L7 HFB
  go_upto_region 12 with (first
    | (go_at_call 48; refine (HFR.out _ F8.out).mono ?_; rintro r w9 ⟨v9, rfl, l9, f9⟩; have F9 := Lib.hid (F8.out.trans f9 (by simp)); have L9 := Lib.hid l9; clear f9 l9)
    | (go_at_call 40; refine (HUA.out _ _ L9.out).mono ?_; rintro r w10 ⟨rfl, f10⟩; have F10 := Lib.hid (F9.out.trans f10 (by simp)); clear f10))
  clear F8 F9 L9 HUA HFR
  have hLN : Ls (w10.alloc (.cells #[.slice none 0 0, .slice none 0 0, .slice none 0 0, .slice none 0 0] 32)) (.slice (some ⟨w10.heap.size, 0, none⟩) 4 4) [[], [], [], []] := Ls.four (heap_alloc_new _ _) rfl rfl rfl rfl (SlB.nil _) (SlB.nil _) (SlB.nil _) (SlB.nil _)
  have HLN := Lib.hid hLN
  have FN := Lib.hid (F10.out.alloc (.cells #[.slice none 0 0, .slice none 0 0, .slice none 0 0, .slice none 0 0] 32))
  clear hLN F10
  go_upto_region 13 with (go_at_call 40; refine (HUB.out _ _ HLN.out).mono ?_; rintro r w11 ⟨rfl, f11⟩; have F11 := Lib.hid (FN.out.trans f11 (by simp)); clear f11)
  clear FN HLN HUB
  have hLO : Ls (w11.alloc (.cells #[.slice pa 256 pc] 32)) (.slice (some ⟨w11.heap.size, 0, none⟩) 1 1) [P5] := Ls.one (heap_alloc_new _ _) rfl (S5.out _ (F11.out.alloc _))
  have HLO := Lib.hid hLO
  have FO := Lib.hid (F11.out.alloc (.cells #[.slice pa 256 pc] 32))
  clear hLO F11
  go_upto_region 14 with (go_at_call 40; refine (HUC.out _ _ HLO.out).mono ?_; rintro r w12 ⟨rfl, f12⟩; have F12 := Lib.hid (FO.out.trans f12 (by simp)); clear f12)
  clear FO HLO HUC
  have hLQ : Ls (w12.alloc (.cells #[.slice pa 256 pc] 32)) (.slice (some ⟨w12.heap.size, 0, none⟩) 1 1) [P5] := Ls.one (heap_alloc_new _ _) rfl (S5.out _ (F12.out.alloc _))
  have HLQ := Lib.hid hLQ
  have FQ := Lib.hid (F12.out.alloc (.cells #[.slice pa 256 pc] 32))
  clear hLQ F12
  go_upto_region 15 with (first
    | ((with_reducible (show wpList _ _ _ (Oper.mk _ (Op.build 24 _) _ _ _ _ :: _) _ _)); refine wpList_val rfl (exec_bld24z rfl _) ?_)
    | (go_at_call 36; refine (HFC.out _ _ (F4.out.trans FQ.out (by simp)) HLQ.out).mono ?_; rintro r w13 ⟨v13, rs13, B13, rfl, t13, f13⟩; have F13 := Lib.hid (FQ.out.trans f13 (by simp)); clear f13 t13))
  clear FQ HLQ HFC S5 S6
  go_wp2_with (go_at_call 34; refine (HAW.out _ (F4.out.trans F13.out (by simp))).mono ?_; rintro r w14 ⟨rfl, f14⟩; have F14 := Lib.hid ((F4.out.trans F13.out (by simp)).trans f14 (by simp)); clear f14)
  go_ret
  exact ⟨rfl, F14.out⟩
end Go.Proofs.YtjdejhgfkjeeiaaGreatDoor

namespace Go.Proofs.YtjdejhgfkjeeiaaGreatDoor
open Go.RowKit
set_option linter.unusedVariables false
set_option linter.unusedSimpArgs false
set_option maxRecDepth 100000

theorem slotN_in {t : Int} (h1 : 1 ≤ t) (h2 : t ≤ 2147483648) : slotN t = 1 + t % 4 := by unfold slotN; rw [if_neg (by omega)]
theorem slotB_in {t : Int} (h1 : 1 ≤ t) (h2 : t ≤ 2147483648) : slotB t = true := by unfold slotB; simp; omega
theorem slot_out {t : Int} (h : t < 1 ∨ 2147483648 < t) : slotN t = 0 ∧ slotB t = false := by
  constructor
  · unfold slotN; rw [if_pos h]
  · unfold slotB; simp; omega
def InI (n : Int) : Prop := -9223372036854775808 ≤ n ∧ n ≤ 9223372036854775807
theorem wf_iff (n : Int) : (Lit.int .i64 n).wf = true ↔ InI n := by
  simp [Lit.wf, IntKind.min, IntKind.max, IntKind.bits, IntKind.signed, InI]
set_option maxHeartbeats 8000000 in
theorem turns_law (t : Int) (ht : InI t) {w : World} {s0 s1 s2 : Addr} (hs : Sens w s0 s1 s2) (hG : Hs.Glob w) : Calls Tryz.prog 11 #[.int .i64 t] w (YesR w) := by
  have HK := Lib.hid (knownR_any w hs hG)
  unfold YesR at HK
  clear hs hG
  by_cases ho : t < 1 ∨ 2147483648 < t
  · obtain ⟨e1, e2⟩ := slot_out ho
    have HS := Lib.hid (fun W => Slot_any t W)
    rw [e1, e2] at HS
    clear e1 e2
    by_cases h1 : t < 1
    · clear ho
      go_enter Tryz.func11, Tryz.ntmps11
      go_wp2_with (first
        | (go_at_call 10; refine HK.out.mono ?_; rintro r w1 ⟨rfl, f1⟩; have F1 := Lib.hid f1; clear f1)
        | (go_at_call 42; refine (HS.out _).mono ?_; rintro r w2 ⟨rfl, hw2⟩; obtain rfl := hw2.symm))
      go_ret
      exact ⟨rfl, F1.out⟩
    · have h2 : 2147483648 < t := by omega
      clear ho
      go_enter Tryz.func11, Tryz.ntmps11
      go_wp2_with (first
        | (go_at_call 10; refine HK.out.mono ?_; rintro r w1 ⟨rfl, f1⟩; have F1 := Lib.hid f1; clear f1)
        | (go_at_call 42; refine (HS.out _).mono ?_; rintro r w2 ⟨rfl, hw2⟩; obtain rfl := hw2.symm))
      go_ret
      exact ⟨rfl, F1.out⟩
  · have h1 : 1 ≤ t := by omega
    have h2 : t ≤ 2147483648 := by omega
    have HS := Lib.hid (fun W => Slot_any t W)
    have hn := slotN_in h1 h2
    rw [slotB_in h1 h2] at HS
    have HSK := Lib.hid (fun (k : Int) (h3 : 1 ≤ k) (h4 : k < 4) (h5 : t + k ≤ 2147483648) W => show Calls Tryz.prog 42 #[.int .i64 (t + k)] W fun e w' => ∃ m, e = .returned (.tuple #[.int .i64 m, .bool true]) ∧ m ≠ slotN t ∧ w' = W from
      (Slot_any (t + k) W).mono fun e w' ⟨he, hw⟩ => ⟨slotN (t + k), by rw [he, slotB_in (by omega) h5], by rw [slotN_in (by omega) h5, hn]; omega, hw⟩)
    have HS4 := Lib.hid (fun W => Slot_any (t + 4) W)
    have HN4 := Lib.hid (show t + 4 ≤ 2147483648 → slotN (t + 4) = slotN t ∧ slotB (t + 4) = true from fun h => ⟨by rw [slotN_in (by omega) h, hn]; omega, slotB_in (by omega) h⟩)
    have hb : 1 ≤ slotN t ∧ slotN t ≤ 4 := by omega
    generalize slotN t = n at *
    obtain ⟨hn1, hn4⟩ := hb
    have hw4 : IntKind.i64.wrap (t + 4) = t + 4 := IntWalk.i64_in _ (by omega)
    clear ho hn ht
    go_enter Tryz.func11, Tryz.ntmps11
    go_upto_region 8 with (first
      | (go_at_call 10; refine HK.out.mono ?_; rintro r w1 ⟨rfl, f1⟩; have F1 := Lib.hid f1; clear f1)
      | (go_at_call 42; refine (HS.out _).mono ?_; rintro r w2 ⟨rfl, hw2⟩; obtain rfl := hw2.symm))
    go_wp2_with fail
    go_loopw [6] (fun cv wr => wr = w1 ∧ ∃ k : Nat, cv = .int .i64 k ∧ 1 ≤ k ∧ k ≤ 4) (fun cv _ => 4 - (intOf cv).toNat)
    case atStart => exact ⟨rfl, 1, rfl, by omega, by omega⟩
    case round =>
      obtain ⟨hwr, k, rfl, hk1, hk4⟩ := hrel
      obtain rfl := hwr.symm
      have hwk : IntKind.i64.wrap (t + (k : Int)) = t + (k : Int) := IntWalk.i64_in _ (by omega)
      by_cases hlt : k < 4
      · have hlt' : (k : Int) < 4 := by omega
        by_cases hin : t + (k : Int) ≤ 2147483648
        · have HC := Lib.hid (HSK.out k (by omega) hlt' hin w1)
          have HLT := Lib.hid hlt
          clear hlt
          go_upto_region 11 with (go_at_call 42; refine HC.out.mono ?_; rintro r w2 ⟨m, rfl, hm, hw2⟩; obtain rfl := hw2.symm)
          have hmn : (m == n) = false := by simpa using hm
          go_wp2_with fail
          go_roundw
          case rel => exact ⟨by first | trivial | rfl, k + 1, by go_num, by omega, HLT.out⟩
          case measure => simp [intOf]; have := HLT.out; omega
        · have hin' : 2147483648 < t + (k : Int) := by omega
          have h4 : 2147483648 < t + 4 := by omega
          have HX4 := Lib.hid (HS4.out w1)
          generalize slotN (t + 4) = m4 at *
          generalize slotB (t + 4) = q4 at *
          clear HN4
          go_wp2_with (go_at_call 42; refine HX4.out.mono ?_; rintro r w2 ⟨rfl, hw2⟩; obtain rfl := hw2.symm)
          go_ret
          exact ⟨rfl, F1.out⟩
      · obtain rfl : k = 4 := by omega
        by_cases hbig : t + 4 ≤ 2147483648
        · have h4 : t + 4 ≤ 2147483648 := hbig
          have HX4 := Lib.hid (HS4.out w1)
          rw [(HN4.out h4).1, (HN4.out h4).2] at HX4
          go_wp2_with (go_at_call 42; refine HX4.out.mono ?_; rintro r w2 ⟨rfl, hw2⟩; obtain rfl := hw2.symm)
          go_ret
          exact ⟨rfl, F1.out⟩
        · have h4 : 2147483648 < t + 4 := by omega
          have HX4 := Lib.hid (HS4.out w1)
          generalize slotN (t + 4) = m4 at *
          generalize slotB (t + 4) = q4 at *
          clear HN4
          go_wp2_with (go_at_call 42; refine HX4.out.mono ?_; rintro r w2 ⟨rfl, hw2⟩; obtain rfl := hw2.symm)
          go_ret
          exact ⟨rfl, F1.out⟩
end Go.Proofs.YtjdejhgfkjeeiaaGreatDoor
