/-
  Contracts of SameUbers at one list, of 'of', of 'four'. No conditions but those that each theorem names. Slices of two and of three uberblocks, built in a drawn region; the walk of awake. No conditions but those that each theorem names. The walk of awake. No conditions but those that each theorem names. The walk of RingKnown. No conditions but those that each theorem names. The walk of RingTurns. No conditions but those that each theorem names.
-/
import Derived.Test.YtjdejhgfkjeeiaaGreatDoorMB3
import Derived.Test.YtjdejhgfkjeeiaaGreatDoorMB2
import Derived.Great.BuildSlice
namespace Go.Proofs.YtjdejhgfkjeeiaaGreatDoor
open Go.RowKit
set_option linter.unusedVariables false
set_option linter.unusedSimpArgs false
set_option maxRecDepth 100000

open Pt (Pt may enc readPt readE zeroPt pc pv PtV SlA OwnA)
open Kr (OwnE SlE Enco RowTys)
theorem exec_ld28 {o : Oper} {a : Act} {w : World} {x : Operand} {p v : Value} (ho : o.op = .load 28 x) (hx : a.eval x = p) (h : (Instr.loadAt 28 p).run Tryz.prog w = .ok v w) : (execOp a.eval o).run Tryz.prog w = .ok (.value v) w := by simp [execOp, ho, hx, h, Result.andThen]
theorem wpStill_val {P : Program} {ops : Array Oper} {w : World} {Q : Act → Prop} {a : Act} {o : Oper} {rest : List Oper} {v : Value} (hg : o.guard = none) (h : (execOp a.eval o).run P w = .ok (.value v) w)
    (k : wpStill P ops w Q rest (a.put o.dst v)) : wpStill P ops w Q (o :: rest) a := by
  refine wpStill_step (fun K hK => ?_)
  rw [if_pos (by simp [Region.wanted, hg])]
  unfold Oper.still
  rw [h, Oper.stillUpon_value]
  exact hK _ k
set_option maxHeartbeats 2000000 in
theorem SameUbs_true (x y : Value) (l : List Ub) (w : World) (hx : Us w x l) (hy : Us w y l) (hf : Fits l) : Calls Tryz.prog 38 #[x, y] w fun e w' => e = .returned (.bool true) ∧ Frm [] w w' := by
  obtain ⟨a, cap, rfl⟩ := hx.form
  obtain ⟨a2, cap2, rfl⟩ := hy.form
  have HX := Lib.hid hx
  have HY := Lib.hid hy
  have HF := Lib.hid hf
  have hl9 : (l.length : Int) ≤ 1000 := by have := hf.1; omega
  clear hx hy hf
  go_enter Tryz.func38, Tryz.ntmps38
  go_wp2_with fail
  go_loopw [5] (fun cv wr => ∃ k : Nat, k ≤ l.length ∧ cv = .int .i64 k ∧ Frm [] w wr) (fun cv _ => l.length - (intOf cv).toNat)
  case atStart => exact ⟨0, by omega, rfl, Frm.refl _ _⟩
  case round =>
    obtain ⟨k, hk, rfl, f⟩ := hrel
    by_cases hlt : k < l.length
    · have hlt' : (k : Int) < (l.length : Int) := by omega
      obtain ⟨b, off, cp, e⟩ := HX.out.at (by omega)
      injection e with e1 e2 e3
      subst e1; subst e3
      obtain ⟨b2, off2, cp2, e⟩ := HY.out.at (by omega)
      injection e with e1 e2 e3
      subst e1; subst e3
      have fd := f.trans ((Frm.refl [] wr).drew) (by simp)
      obtain ⟨xa, xc, ld1, u1, _, _⟩ := (HX.out.keep0 fd).load k hlt
      obtain ⟨ya, yc, ld2, u2, _, _⟩ := (HY.out.keep0 fd).load k hlt
      have HLD1 := Lib.hid ld1
      have HLD2 := Lib.hid ld2
      have HSM := Lib.hid (SameUber_any _ _ _ _ _ u1 u2 (HF.out.2 _ (List.getElem_mem _)))
      rw [sameU_refl] at HSM
      have FD := Lib.hid fd
      have HLT := Lib.hid hlt
      generalize l[k] = u at *
      clear f fd ld1 ld2 u1 u2 hlt
      go_upto_region 6 with (fail)
      refine wp_region_still_tail 8 (by kernel_rfl) (by kernel_rfl) ?_
      simp only [List.take_succ_cons, List.take_zero, List.drop_succ_cons, List.drop_zero]
      change wpStill _ _ (World.drew _) _ _ _
      iterate 3 still_step
      refine wpStill_val rfl (exec_ld28 rfl rfl HLD1.out) ?_
      iterate 3 still_step
      refine wpStill_val rfl (exec_ld28 rfl rfl HLD2.out) ?_
      refine wpStill_nil ?_
      change wpList _ _ _ _ _ (World.drew _)
      go_wp2_with (go_at_call 24; refine HSM.out.mono ?_; rintro r w3 ⟨rfl, f3⟩)
      go_roundw
      case rel => exact ⟨k + 1, HLT.out, by go_num, FD.out.trans f3 (by simp)⟩
      case measure => simp [intOf]; have := HLT.out; omega
    · obtain rfl : k = l.length := by omega
      have F := Lib.hid f
      clear f
      go_wp2_with fail
      go_ret
      exact ⟨rfl, F.out⟩
/-- The uberblock of a commit that has nothing. -/
def ofU (t : Int) : Ub := ⟨t, zeroPt, 0, List.replicate 32 0⟩
theorem ofU_wf (t : Int) : WfU (ofU t) := ⟨rfl, rfl⟩
theorem ofU_may {t : Int} (h1 : 1 ≤ t) (h2 : t ≤ 2147483648) : MayU (ofU t) := ⟨h1, h2, .inl (by kernel_rfl), by show (0:Int) ≤ 0; omega, by show (0:Int) ≤ 16384; omega⟩
theorem bldOf (t : Int) (W : World) : (Instr.build 28 #[(0, .int .i64 t)]).run Tryz.prog W = .ok (uv nilS (ofU t)) W := by kernel_rfl
theorem exec_bldOf {o : Oper} {a : Act} {t : Int} (s : Operand) (hop : o.op = Op.build 28 #[(0, s)]) (h1 : a.eval s = .int .i64 t) (W : World) : (execOp a.eval o).run Tryz.prog W = .ok (.value (uv nilS (ofU t))) W := by
  have hb := bldOf t W
  have hm : (#[(0, s)].map fun ((i, x) : Nat × Operand) => (i, a.eval x)) = #[(0, .int .i64 t)] := by simp [h1]
  simp only [execOp, hop, hm, Sem.run_bind, Sem.run_pure, hb, Result.andThen_ok]
theorem ofU_v (t : Int) (w : World) : UbV w (uv nilS (ofU t)) (ofU t) := ⟨none, 0, [], rfl, Pt.SlA.nil w, ofU_wf t⟩
/-- What 'of' tells. -/
def OfP (t : Int) (w : World) (r : Ending) (w' : World) : Prop := ∃ a cap sp, r = .returned (.tuple #[uv nilS (ofU t), .slice a 256 cap]) ∧ OwnB 5 w' (.slice a 256 cap) (packU (ofU t)) sp ∧ Frm [] w w' ∧ ∀ i ∈ blk (.slice a 256 cap), w.heap.size ≤ i
set_option maxHeartbeats 2000000 in
theorem of_any (t : Int) (w : World) (h1 : 1 ≤ t) (h2 : t ≤ 2147483648) (hG : Hs.Glob w) : Calls Tryz.prog 47 #[.int .i64 t] w (OfP t w) := by
  have f0 : Frm [] w (w.alloc (.cells (uc nilS zeroU).toArray 28)) := (Frm.refl [] w).alloc _
  have f1 : Frm [] (w.alloc (.cells (uc nilS zeroU).toArray 28)) ((w.alloc (.cells (uc nilS zeroU).toArray 28)).alloc (.cells (uc nilS (ofU t)).toArray 28)) := (Frm.refl [] _).alloc _
  have B0 := Lib.hid ((UB.new w nilS zeroU_wf).keep0 f1)
  have G1 := Lib.hid (UB.new (w.alloc (.cells (uc nilS zeroU).toArray 28)) nilS (ofU_wf t))
  have F1 := Lib.hid (f0.trans f1 (by simp))
  have hm := ofU_may h1 h2
  have HP := Lib.hid (Pack_any _ (ofU t) _ (ofU_v t _) (Nat.zero_le _) (hG.keep (f0.trans f1 (by simp)) (by simp)))
  unfold PackP at HP
  rw [packO_yes hm, mayE_yes hm, packU_length (ofU_wf t) hm] at HP
  have hwo := ofU_wf t
  have HPO : OfP t w = fun r w' => ∃ a cap sp, r = .returned (.tuple #[uv nilS (ofU t), .slice a 256 cap]) ∧ OwnB 5 w' (.slice a 256 cap) (packU (ofU t)) sp ∧ Frm [] w w' ∧ ∀ i ∈ blk (.slice a 256 cap), w.heap.size ≤ i := rfl
  rw [HPO]
  have hbo := fun (o : Oper) (a : Act) (s : Operand) (ho : o.op = Op.build 28 #[(0, s)]) (h1 : a.eval s = .int .i64 t) (W : World) => exec_bldOf s ho h1 W
  clear f0 f1 hm hG HPO h1 h2
  obtain ⟨u, hu⟩ : ∃ u, ofU t = u := ⟨_, rfl⟩
  rw [hu] at HP G1 F1 B0 hwo hbo ⊢
  clear hu
  go_enter Tryz.func47, Tryz.ntmps47
  go_upto_region 2 with (first
    | ((with_reducible (show wpList _ _ _ (Oper.mk (some 2) (Op.alloc 28) _ _ _ _ :: _) _ _)); refine wpList_val rfl (exec_alloc28 rfl _) ?_)
    | ((with_reducible (show wpList _ _ _ (Oper.mk _ (Op.build 28 _) _ _ _ _ :: _) _ _)); refine wpList_val rfl (hbo _ _ _ rfl rfl _) ?_)
    | ((with_reducible (show wpList _ _ _ (Oper.mk (some 4) (Op.alloc 28) _ _ _ _ :: _) _ _)); refine wpList_lay28 rfl rfl rfl _ _ rfl (v := nilS) rfl (u := u) hwo rfl rfl ?_))
  have hz : (w.alloc (.cells (uc nilS zeroU).toArray 28)).heap.size = w.heap.size + 1 := by simp
  rw [hz] at G1 ⊢
  generalize (w.alloc (.cells (uc nilS zeroU).toArray 28)).alloc (.cells (uc nilS u).toArray 28) = W1 at *
  have HW := Lib.hid hwo
  go_wp2_with (first
    | ((with_reducible (show wpList _ _ _ (Oper.mk (some 10) (Op.load 28 _) _ _ _ _ :: _) _ _)); refine wpList_load_g (by rfl) 28 _ rfl _ rfl G1.out.gets.all ?_)
    | (go_at_call 16; refine HP.out.mono ?_; rintro r w2 ⟨pa, pc, ps, rfl, po, f2, n2⟩; have G2 := Lib.hid (G1.out.keep0 f2); have B2 := Lib.hid (B0.out.keep0 f2); have PO := Lib.hid po; have F2 := Lib.hid (F1.out.trans f2 (by simp)); have N2 := Lib.hid n2; clear po f2 n2)
    | ((with_reducible (show wpList _ _ _ (Oper.mk (some 17) (Op.load 28 _) _ _ _ _ :: _) _ _)); refine wpList_load_g (by rfl) 28 _ rfl _ rfl G2.out.gets.all ?_)
    | ((with_reducible (show wpList _ _ _ (Oper.mk _ (Op.store 28 _ _) _ _ _ _ :: _) _ _)); refine wpList_store28 rfl _ _ rfl rfl B2.out HW.out rfl rfl ?_; intro V B5 F5))
  refine bodyPost_ret (v := .tuple #[uv nilS u, .slice pa 256 pc]) (results_cell_slot rfl _ _ rfl rfl B5.gets.var) rfl ?_
  have hpa : ∀ i ∈ blk (.slice pa 256 pc), w.heap.size < i := fun i hi => by
    have h1 := N2.out i hi
    have h2 := B0.out.lt
    omega
  exact ⟨pa, pc, ps, rfl, PO.out.keep F5 (fun i hi => by have := hpa i hi; simp; omega), F2.out.trans F5 (fun i hi => by simp at hi; exact .inr (by omega)), fun i hi => by have := hpa i hi; omega⟩
def Zb : List UInt8 := List.replicate 256 0
def Zc : Array Value := (bvs Zb).toArray
theorem mk256 (W : World) : (Instr.makeSlice 32 (.int .i64 256) (.int .i64 256)).run Tryz.prog W = .ok (.slice (some ⟨W.heap.size, 0, none⟩) 256 256) (W.alloc (.cells Zc 5)) := by kernel_rfl
theorem zb_sl (W : World) (g : Nat) (h : W.heap[g]? = some (.cells Zc 5 (0, 0))) : SlB W (.slice (some ⟨g, 0, none⟩) 256 256) Zb [] := by
  refine ⟨by rw [bvs_length]; rfl, .inr (.inr ⟨g, 0, 256, rfl, by decide, by simp [maxLen], by rw [show bvs [] = [] from rfl, List.append_nil, bvs_length]; rfl, fun i u hu => ?_⟩)⟩
  rw [cell_of_heap h, Nat.zero_add]
  unfold Zc
  rw [List.getElem?_toArray]
  rw [show bvs ([] : List UInt8) = [] from rfl, List.append_nil] at hu
  exact hu
/-- A slice of four lists, as their cells lie in a new block. -/
theorem Ls.four {W : World} {g : Nat} {v1 v2 v3 v4 : Value} {b1 b2 b3 b4 s1 s2 s3 s4 : List UInt8} (h : W.heap[g]? = some (.cells #[v1, v2, v3, v4] 32 (0, 0))) (o1 : v1.oneCell' = true) (o2 : v2.oneCell' = true) (o3 : v3.oneCell' = true) (o4 : v4.oneCell' = true)
    (h1 : SlB W v1 b1 s1) (h2 : SlB W v2 b2 s2) (h3 : SlB W v3 b3 s3) (h4 : SlB W v4 b4 s4) : Ls W (.slice (some ⟨g, 0, none⟩) 4 4) [b1, b2, b3, b4] := by
  refine ⟨[⟨v1, o1⟩, ⟨v2, o2⟩, ⟨v3, o3⟩, ⟨v4, o4⟩], [], Kr.SlE.of_block encC (T := 32) h rfl (by decide), rfl, fun i c b hc hb => ?_⟩
  match i with
  | 0 => simp at hc hb; subst hc; subst hb; exact ⟨_, h1⟩
  | 1 => simp at hc hb; subst hc; subst hb; exact ⟨_, h2⟩
  | 2 => simp at hc hb; subst hc; subst hb; exact ⟨_, h3⟩
  | 3 => simp at hc hb; subst hc; subst hb; exact ⟨_, h4⟩
  | i + 4 => simp at hc
def FourP (b c : List UInt8) (w : World) (r : Ending) (w' : World) : Prop := ∃ v, r = .returned v ∧ Ls w' v [Zb, b, c, Zb] ∧ Frm [] w w'
set_option maxHeartbeats 2000000 in
theorem four_any (x y : Value) (b c s1 s2 : List UInt8) (w : World) (hx : SlB w x b s1) (hy : SlB w y c s2) : Calls Tryz.prog 48 #[x, y] w (FourP b c w) := by
  obtain ⟨a, cap, rfl, _, _⟩ := hx.form
  obtain ⟨a2, cap2, rfl, _, _⟩ := hy.form
  have HX := Lib.hid hx
  have HY := Lib.hid hy
  have hmix : Tryz.prog.follows .mixedOrders = true := by kernel_rfl
  have hmk := mk256
  clear hx hy
  go_enter Tryz.func48, Tryz.ntmps48
  go_wp2_with fail
  go_region_law (fail)
  all_goals
    have hA := heap_alloc_lt (o := .cells Zc 5) (heap_alloc_new w (.cells Zc 5))
    have hB : ((w.alloc (.cells Zc 5)).alloc (.cells Zc 5)).heap[w.heap.size + 1]? = some (.cells Zc 5 (0, 0)) := heap_at (by simp)
    have fA : Frm [] w ((w.alloc (.cells Zc 5)).alloc (.cells Zc 5)) := ((Frm.refl [] w).alloc _).alloc _
    have hzz : ((w.alloc (.cells Zc 5)).alloc (.cells Zc 5)).heap.size = w.heap.size + 1 + 1 := by simp
    generalize (w.alloc (.cells Zc 5)).alloc (.cells Zc 5) = W2 at *
    generalize w.heap.size + 1 + 1 = n2 at *
    generalize w.heap.size + 1 = n1 at *
    generalize w.heap.size = n0 at *
  · have fB : Frm [] W2 (W2.alloc (.cells #[.slice (some ⟨n0, 0, none⟩) 256 256, .slice a b.length cap, .slice a2 c.length cap2, .slice (some ⟨n1, 0, none⟩) 256 256] 32)).drew := ((Frm.refl [] W2).alloc _).drew
    have hC : (W2.alloc (.cells #[.slice (some ⟨n0, 0, none⟩) 256 256, .slice a b.length cap, .slice a2 c.length cap2, .slice (some ⟨n1, 0, none⟩) 256 256] 32)).drew.heap[n2]? = some (.cells #[.slice (some ⟨n0, 0, none⟩) 256 256, .slice a b.length cap, .slice a2 c.length cap2, .slice (some ⟨n1, 0, none⟩) 256 256] 32 (0, 0)) := by rw [← hzz]; exact heap_alloc_new W2 _
    generalize (W2.alloc (.cells #[.slice (some ⟨n0, 0, none⟩) 256 256, .slice a b.length cap, .slice a2 c.length cap2, .slice (some ⟨n1, 0, none⟩) 256 256] 32)).drew = W3 at *
    go_wp2_with fail
    go_ret
    exact ⟨_, rfl, Ls.four hC rfl rfl rfl rfl (zb_sl W3 n0 (fB.heap hA (by simp))) (HX.out.keep (fA.trans fB (by simp)) (by simp)) (HY.out.keep (fA.trans fB (by simp)) (by simp)) (zb_sl W3 n1 (fB.heap hB (by simp))), fA.trans fB (by simp)⟩
  · have fB : Frm [] W2 (W2.alloc (.cells #[.slice (some ⟨n1, 0, none⟩) 256 256, .slice a b.length cap, .slice a2 c.length cap2, .slice (some ⟨n0, 0, none⟩) 256 256] 32)).drew := ((Frm.refl [] W2).alloc _).drew
    have hC : (W2.alloc (.cells #[.slice (some ⟨n1, 0, none⟩) 256 256, .slice a b.length cap, .slice a2 c.length cap2, .slice (some ⟨n0, 0, none⟩) 256 256] 32)).drew.heap[n2]? = some (.cells #[.slice (some ⟨n1, 0, none⟩) 256 256, .slice a b.length cap, .slice a2 c.length cap2, .slice (some ⟨n0, 0, none⟩) 256 256] 32 (0, 0)) := by rw [← hzz]; exact heap_alloc_new W2 _
    generalize (W2.alloc (.cells #[.slice (some ⟨n1, 0, none⟩) 256 256, .slice a b.length cap, .slice a2 c.length cap2, .slice (some ⟨n0, 0, none⟩) 256 256] 32)).drew = W3 at *
    go_wp2_with fail
    go_ret
    exact ⟨_, rfl, Ls.four hC rfl rfl rfl rfl (zb_sl W3 n1 (fB.heap hB (by simp))) (HX.out.keep (fA.trans fB (by simp)) (by simp)) (HY.out.keep (fA.trans fB (by simp)) (by simp)) (zb_sl W3 n0 (fB.heap hA (by simp))), fA.trans fB (by simp)⟩
end Go.Proofs.YtjdejhgfkjeeiaaGreatDoor

namespace Go.Proofs.YtjdejhgfkjeeiaaGreatDoor
open Go.RowKit
set_option linter.unusedVariables false
set_option linter.unusedSimpArgs false
set_option maxRecDepth 100000

open Pt (Pt may enc readPt readE zeroPt pc pv PtV SlA OwnA)
open Kr (OwnE SlE Enco RowTys)
theorem built28x3 {c d e : List Value} (hl : c.length = 69) (hd : d.length = 69) (he : e.length = 69) : Tryz.prog.builtSlice 28 3 [(0, .agg c.toArray), (1, .agg d.toArray), (2, .agg e.toArray)] = some (c ++ (d ++ e)).toArray := by
  obtain ⟨i, hi, hz, hsz⟩ := info28
  unfold Program.builtSlice
  simp only [hi, hz, hsz]
  have h0 : (Array.range (3 * 69)).map ((Value.agg (uc nilS zeroU).toArray).cells[· % (Value.agg (uc nilS zeroU).toArray).cells.size]!) = (uc nilS zeroU ++ (uc nilS zeroU ++ uc nilS zeroU)).toArray := by kernel_rfl
  have lz := uc_length (v := nilS) zeroU_wf
  rw [if_neg (by decide), h0]
  have e1 := fold_set2 0 (uc nilS zeroU ++ uc nilS zeroU) c 0 [] (uc nilS zeroU) (by omega) rfl
  have e2 := fold_set2 69 (uc nilS zeroU) d 0 c (uc nilS zeroU) (by omega) (by omega)
  have e3 := fold_set2 138 [] e 0 (c ++ d) (uc nilS zeroU) (by omega) (by simp; omega)
  rw [fill_cons (off := 0) (size := 69) rfl (by rw [show (Value.agg c.toArray).cells = c.toArray from rfl]; simp [hl]) (by simp [lz])]
  rw [show (Value.agg c.toArray).cells = c.toArray from rfl]
  have h1 : c.toArray.zipIdx.foldl (fun (cs : Array Value) (x : Value × Nat) => cs.setIfInBounds (0 + x.2) x.1) (uc nilS zeroU ++ (uc nilS zeroU ++ uc nilS zeroU)).toArray = (c ++ (uc nilS zeroU ++ uc nilS zeroU)).toArray := by
    simpa [← Array.foldl_toList] using e1
  rw [h1]
  rw [fill_cons (off := 69) (size := 69) rfl (by rw [show (Value.agg d.toArray).cells = d.toArray from rfl]; simp [hd]) (by simp [lz, hl])]
  rw [show (Value.agg d.toArray).cells = d.toArray from rfl]
  have h2 : d.toArray.zipIdx.foldl (fun (cs : Array Value) (x : Value × Nat) => cs.setIfInBounds (69 + x.2) x.1) (c ++ (uc nilS zeroU ++ uc nilS zeroU)).toArray = (c ++ (d ++ uc nilS zeroU)).toArray := by
    simpa [← Array.foldl_toList] using e2
  rw [h2]
  rw [fill_cons (off := 138) (size := 69) rfl (by rw [show (Value.agg e.toArray).cells = e.toArray from rfl]; simp [he]) (by simp [lz, hl, hd])]
  rw [show (Value.agg e.toArray).cells = e.toArray from rfl, Instr.fill]
  rw [show c ++ (d ++ uc nilS zeroU) = c ++ d ++ (uc nilS zeroU ++ []) by simp]
  simpa [← Array.foldl_toList] using e3
theorem UbV.rowOf {w : World} {x : Value} {u : Ub} (h : UbV w x u) : ∃ r : RowT, x = .agg r.1.toArray ∧ RowV w r u := by
  obtain ⟨a, cap, sp, rfl, hA, hw⟩ := h
  exact ⟨rowU (.slice a u.root.ads.length cap) rfl u hw, rfl, a, cap, sp, rfl, hA, hw⟩
theorem RowV.keep0 {w w' : World} {r : RowT} {u : Ub} (h : RowV w r u) (f : Frm [] w w') : RowV w' r u := by
  obtain ⟨a, cap, sp, e, hA, hw⟩ := h
  exact ⟨a, cap, sp, e, hA.keep f (by simp), hw⟩
section
variable {ops : Array Oper} {o : Oper} {a : Act} {w : World} {K : Act → World → Prop} {Q : Exit → Act → World → Prop} {E : Prop}
theorem step_bsTo (hw : Region.wanted o (yielded ops a.tmps) = true) (len : Nat) (parts : Array (Nat × Operand)) (ho : o.op = .buildSlice 30 len parts) (cells : Array Value)
    (hf : Tryz.prog.builtSlice 28 len (parts.map fun (i, x) => (i, a.eval x)).toList = some cells) (h : K (a.put o.dst (.slice (some ⟨w.heap.size, 0, none⟩) len len)) (w.alloc (.cells cells 28))) :
    if Region.wanted o (yielded ops a.tmps) = true then Oper.wp Tryz.prog o a w K Q else E := by
  rw [if_pos hw]
  unfold Program.builtSlice at hf
  cases hie : Tryz.prog.info? 28 with
  | none => simp [hie] at hf
  | some ie =>
    simp only [hie] at hf
    cases hz : ie.zero with
    | none => simp [hz] at hf
    | some z =>
      simp only [hz] at hf
      by_cases hc : len * ie.size > 2 ^ 24 ∨ len * ie.size = 0
      · simp [hc] at hf
      · rw [if_neg hc] at hf
        exact wp_buildSlice 30 28 len parts ho cells ie z Tryz.underlying30 hie hz (fun h' => hc (Or.inl h')) (fun h' => hc (Or.inr h')) hf h
theorem step_us2 (hw : Region.wanted o (yielded ops a.tmps) = true) (p q : Operand) (ho : o.op = .buildSlice 30 2 #[(0, p), (1, q)]) {x y : Value} {u1 u2 : Ub} (hp : a.eval p = x) (hq : a.eval q = y) (h1 : UbV w x u1) (h2 : UbV w y u2)
    (k : ∀ w', Us w' (.slice (some ⟨w.heap.size, 0, none⟩) 2 2) [u1, u2] → Frm [] w w' → K (a.put o.dst (.slice (some ⟨w.heap.size, 0, none⟩) 2 2)) w') : if Region.wanted o (yielded ops a.tmps) = true then Oper.wp Tryz.prog o a w K Q else E := by
  obtain ⟨r1, rfl, v1⟩ := h1.rowOf
  obtain ⟨r2, rfl, v2⟩ := h2.rowOf
  have f : Frm [] w (w.alloc (.cells (r1.1 ++ r2.1).toArray 28)) := (Frm.refl [] w).alloc _
  refine step_bsTo hw 2 _ ho (r1.1 ++ r2.1).toArray (by simp only [List.map_toArray, List.map_cons, List.map_nil, hp, hq]; exact built28x2 r1.2.1 r2.2.1) (k _ ⟨[r1, r2], [], Kr.SlE.of_block (T := 28) encR (by rw [show Kr.flt eR [r1, r2] = r1.1 ++ r2.1 by simp [Kr.flt, eR]]; exact heap_alloc_new _ _) rfl (by decide), rfl, fun i r u hr hu => ?_⟩ f)
  match i with
  | 0 => simp at hr hu; subst hr; subst hu; exact v1.keep0 f
  | 1 => simp at hr hu; subst hr; subst hu; exact v2.keep0 f
  | i + 2 => simp at hr
theorem step_us3 (hw : Region.wanted o (yielded ops a.tmps) = true) (p q s : Operand) (ho : o.op = .buildSlice 30 3 #[(0, p), (1, q), (2, s)]) {x y z : Value} {u1 u2 u3 : Ub} (hp : a.eval p = x) (hq : a.eval q = y) (hs : a.eval s = z) (h1 : UbV w x u1) (h2 : UbV w y u2) (h3 : UbV w z u3)
    (k : ∀ w', Us w' (.slice (some ⟨w.heap.size, 0, none⟩) 3 3) [u1, u2, u3] → Frm [] w w' → K (a.put o.dst (.slice (some ⟨w.heap.size, 0, none⟩) 3 3)) w') : if Region.wanted o (yielded ops a.tmps) = true then Oper.wp Tryz.prog o a w K Q else E := by
  obtain ⟨r1, rfl, v1⟩ := h1.rowOf
  obtain ⟨r2, rfl, v2⟩ := h2.rowOf
  obtain ⟨r3, rfl, v3⟩ := h3.rowOf
  have f : Frm [] w (w.alloc (.cells (r1.1 ++ (r2.1 ++ r3.1)).toArray 28)) := (Frm.refl [] w).alloc _
  refine step_bsTo hw 3 _ ho (r1.1 ++ (r2.1 ++ r3.1)).toArray (by simp only [List.map_toArray, List.map_cons, List.map_nil, hp, hq, hs]; exact built28x3 r1.2.1 r2.2.1 r3.2.1) (k _ ⟨[r1, r2, r3], [], Kr.SlE.of_block (T := 28) encR (by rw [show Kr.flt eR [r1, r2, r3] = r1.1 ++ (r2.1 ++ r3.1) by simp [Kr.flt, eR]]; exact heap_alloc_new _ _) rfl (by decide), rfl, fun i r u hr hu => ?_⟩ f)
  match i with
  | 0 => simp at hr hu; subst hr; subst hu; exact v1.keep0 f
  | 1 => simp at hr hu; subst hr; subst hu; exact v2.keep0 f
  | 2 => simp at hr hu; subst hr; subst hu; exact v3.keep0 f
  | i + 3 => simp at hr
end
/-- What the examples' slots have. -/
theorem stand_none (pool : List UInt8) (i : Nat) : stands pool i Zb = false := by
  have h : unp Zb = (zeroU, 6) := by unfold unp; rw [if_neg (by simp [Zb]), if_pos (show Zb = List.replicate 256 0 from rfl)]
  unfold stands
  rw [h]; rfl
theorem stand_of {t : Int} (h1 : 1 ≤ t) (h2 : t ≤ 2147483648) (i : Nat) (pool : List UInt8) : stands pool i (packU (ofU t)) = ((List.replicate 32 0 == pool) && (((1 + i : Nat) : Int) == 1 + t % 4)) := by
  unfold stands
  rw [unp_pack (ofU_wf t) (ofU_may h1 h2)]
  rw [slotN_may (ofU_may h1 h2)]
  rfl
def z32g : List UInt8 := List.replicate 32 0
theorem found56 : foundU z32g [Zb, packU (ofU 5), packU (ofU 6), Zb] = [ofU 5, ofU 6] := by
  have h0 : stands z32g 0 Zb = false := stand_none _ _
  have h1 : stands z32g 1 (packU (ofU 5)) = true := by rw [stand_of (by decide) (by decide)]; decide
  have h2 : stands z32g 2 (packU (ofU 6)) = true := by rw [stand_of (by decide) (by decide)]; decide
  have h3 : stands z32g 3 Zb = false := stand_none _ _
  unfold foundU
  rw [if_pos (by rfl)]
  have e : ∀ i b, rowAt [Zb, packU (ofU 5), packU (ofU 6), Zb] i = b → fndAt z32g [Zb, packU (ofU 5), packU (ofU 6), Zb] i = if stands z32g i b = true then some (unp b).1 else none := fun i b h => by unfold fndAt; rw [h]
  unfold fnd
  rw [show List.range 4 = [0, 1, 2, 3] from rfl]
  simp only [List.filterMap_cons, List.filterMap_nil]
  rw [e 0 Zb rfl, e 1 (packU (ofU 5)) rfl, e 2 (packU (ofU 6)) rfl, e 3 Zb rfl, h0, h1, h2, h3, unp_pack (ofU_wf 5) (ofU_may (by decide) (by decide)), unp_pack (ofU_wf 6) (ofU_may (by decide) (by decide))]
  rfl
theorem ltE_of {s t : Int} (h : t < s) : ltE (entU (ofU s)) (entU (ofU t)) = true := ltE_iff.2 (.inl h)
theorem best56 : bestU [ofU 5, ofU 6, ofU 5] = [ofU 6, ofU 5] := by
  refine (Best.eq (fun u hu => ?_) ⟨?_, fun x => ?_⟩).symm
  · simp at hu; rcases hu with rfl | rfl | rfl <;> exact ofU_wf _
  · exact List.pairwise_cons.2 ⟨fun e he => by simp at he; subst he; exact ltE_of (by decide), List.pairwise_singleton _ _⟩
  · simp only [List.mem_cons, List.not_mem_nil, or_false]
    constructor
    · rintro (rfl | rfl)
      · exact ⟨by simp, ofU_may (by decide) (by decide)⟩
      · exact ⟨by simp, ofU_may (by decide) (by decide)⟩
    · rintro ⟨rfl | rfl | rfl, _⟩ <;> simp
end Go.Proofs.YtjdejhgfkjeeiaaGreatDoor

namespace Go.Proofs.YtjdejhgfkjeeiaaGreatDoor
open Go.RowKit
set_option linter.unusedVariables false
set_option linter.unusedSimpArgs false
set_option maxRecDepth 100000

open Pt (Pt may enc readPt readE zeroPt pc pv PtV SlA OwnA)
open Kr (OwnE SlE Enco RowTys)
theorem bld24z (W : World) : (Instr.build 24 #[]).run Tryz.prog W = .ok (idv z32g) W := by kernel_rfl
theorem exec_bld24z {o : Oper} {a : Act} (hop : o.op = Op.build 24 #[]) (W : World) : (execOp a.eval o).run Tryz.prog W = .ok (.value (idv z32g)) W := by
  have hb := bld24z W
  simp [execOp, hop, hb, Result.andThen]
def YesR (w : World) (e : Ending) (w' : World) : Prop := e = .returned (.bool true) ∧ Frm [] w w'
theorem fits_of {l : List Ub} (h : l.length ≤ 1000) (h2 : ∀ u ∈ l, u.root = zeroPt) : Fits l := ⟨h, fun u hu => by rw [h2 u hu]; exact Nat.zero_le _⟩
set_option maxHeartbeats 16000000 in
theorem awakeR_any {s0 s1 s2 : Addr} (w : World) (hs : Sens w s0 s1 s2) (hG : Hs.Glob w) : Calls Tryz.prog 34 #[] w (YesR w) := by
  have HO5 := Lib.hid (fun W (f : Frm [] w W) => of_any 5 W (by decide) (by decide) (hG.keep f (by simp)))
  have HO6 := Lib.hid (fun W (f : Frm [] w W) => of_any 6 W (by decide) (by decide) (hG.keep f (by simp)))
  unfold OfP at HO5 HO6
  have HFO := Lib.hid (fun v W (f : Frm [] w W) (h : Ls W v [Zb, packU (ofU 5), packU (ofU 6), Zb]) => Found_any v [Zb, packU (ofU 5), packU (ofU 6), Zb] z32g W h (fun b hb => by
    simp at hb
    rcases hb with rfl | rfl | rfl | rfl
    · simp [Zb]
    · rw [packU_length (ofU_wf 5) (ofU_may (by decide) (by decide))]; decide
    · rw [packU_length (ofU_wf 6) (ofU_may (by decide) (by decide))]; decide
    · simp [Zb]) rfl (hs.keep0 f) (hG.keep f (by simp)))
  unfold FoundP at HFO
  rw [found56, show foundE [Zb, packU (ofU 5), packU (ofU 6), Zb] = 0 from rfl] at HFO
  have HBE := Lib.hid (fun v W (f : Frm [] w W) (h : Us W v [ofU 5, ofU 6, ofU 5]) => Best_any v [ofU 5, ofU 6, ofU 5] W h (fits_of (by decide) (fun u hu => by simp at hu; rcases hu with rfl | rfl | rfl <;> rfl)) (hs.keep0 f) (hG.keep f (by simp)))
  unfold BestP at HBE
  rw [best56] at HBE
  have HS1 := Lib.hid (fun x y W (hx : Us W x [ofU 5, ofU 6]) (hy : Us W y [ofU 5, ofU 6]) => SameUbs_true x y _ W hx hy (fits_of (by decide) (fun u hu => by simp at hu; rcases hu with rfl | rfl <;> rfl)))
  have HS2 := Lib.hid (fun x y W (hx : Us W x [ofU 6, ofU 5]) (hy : Us W y [ofU 6, ofU 5]) => SameUbs_true x y _ W hx hy (fits_of (by decide) (fun u hu => by simp at hu; rcases hu with rfl | rfl <;> rfl)))
  have HV5 := Lib.hid (fun W => ofU_v 5 W)
  have HV6 := Lib.hid (fun W => ofU_v 6 W)
  have hw5 := ofU_wf 5
  have hw6 := ofU_wf 6
  have HSL := Lib.hid (fun W => Slot_any 7 W)
  rw [show slotN 7 = 4 by decide, show slotB 7 = true by decide] at HSL
  clear hs hG
  obtain ⟨P5, hP5⟩ : ∃ P, packU (ofU 5) = P := ⟨_, rfl⟩
  obtain ⟨P6, hP6⟩ : ∃ P, packU (ofU 6) = P := ⟨_, rfl⟩
  rw [hP5] at HO5 HFO
  rw [hP6] at HO6 HFO
  clear hP5 hP6
  generalize ofU 5 = u5 at *
  generalize ofU 6 = u6 at *
  go_enter Tryz.func34, Tryz.ntmps34
  go_upto_region 2 with (first
    | ((with_reducible (show wpList _ _ _ (Oper.mk _ (Op.alloc 28) _ _ _ _ :: _) _ _)); refine wpList_lay28 rfl rfl rfl _ _ rfl (v := nilS) rfl (u := u5) hw5 rfl rfl ?_)
    | (go_at_call 47; refine (HO5.out _ (Frm.refl [] w)).mono ?_; rintro r w1 ⟨pa, pc, ps, rfl, po, f1, _⟩))
  have f2 : Frm [] w1 (w1.alloc (.cells (uc nilS u5).toArray 28)) := (Frm.refl [] w1).alloc _
  have G1 := Lib.hid (UB.new w1 nilS hw5)
  have S1 := Lib.hid ((po.keep f2 (by simp)).sl)
  have F2 := Lib.hid (f1.trans f2 (by simp))
  clear f1 f2 po
  generalize w1.alloc (.cells (uc nilS u5).toArray 28) = W2 at *
  generalize w1.heap.size = L1 at *
  go_upto_region 3 with (first
    | ((with_reducible (show wpList _ _ _ (Oper.mk _ (Op.alloc 28) _ _ _ _ :: _) _ _)); refine wpList_lay28 rfl rfl rfl _ _ rfl (v := nilS) rfl (u := u6) hw6 rfl rfl ?_)
    | (go_at_call 47; refine (HO6.out _ F2.out).mono ?_; rintro r w3 ⟨qa, qc, qs, rfl, qo, f3, _⟩))
  have f4 : Frm [] w3 (w3.alloc (.cells (uc nilS u6).toArray 28)) := (Frm.refl [] w3).alloc _
  have G3 := Lib.hid (UB.new w3 nilS hw6)
  have S3 := Lib.hid ((qo.keep f4 (by simp)).sl)
  have F4 := Lib.hid ((F2.out.trans f3 (by simp)).trans f4 (by simp))
  have G1b := Lib.hid (G1.out.keep0 (f3.trans f4 (by simp)))
  have S1b := Lib.hid (S1.out.keep (f3.trans f4 (by simp)) (by simp))
  clear f3 f4 qo G1 S1 F2
  generalize w3.alloc (.cells (uc nilS u6).toArray 28) = W4 at *
  generalize w3.heap.size = L3 at *
  have HFR := Lib.hid (four_any _ _ _ _ _ _ W4 S1b.out S3.out)
  unfold FourP at HFR
  go_upto_region 4 with (first
    | (go_at_call 48; refine HFR.out.mono ?_; rintro r w5 ⟨v5, rfl, l5, f5⟩; have F5 := Lib.hid (F4.out.trans f5 (by simp)); have L5 := Lib.hid l5; have G15 := Lib.hid (G1b.out.keep0 f5); have G35 := Lib.hid (G3.out.keep0 f5); clear f5 l5)
    | ((with_reducible (show wpList _ _ _ (Oper.mk _ (Op.build 24 _) _ _ _ _ :: _) _ _)); refine wpList_val rfl (exec_bld24z rfl _) ?_)
    | (go_at_call 36; refine (HFO.out _ _ F5.out L5.out).mono ?_; rintro r w6 ⟨v6, rs6, B6, rfl, t6, f6⟩))
  have G16 := Lib.hid (G15.out.keep0 f6)
  have G36 := Lib.hid (G35.out.keep0 f6)
  have F6 := Lib.hid (F5.out.trans f6 (by simp))
  have U6 := Lib.hid t6.us
  clear f6 t6 G15 G35 L5 F5 HFR S1b S3 G1b G3 F4
  go_upto_region 5 with (go_at_call 42; refine (HSL.out _).mono ?_; rintro r w7 ⟨rfl, hw7⟩; obtain rfl := hw7.symm)
  refine wp_region_held_drew (S := fun z => Frm [] w6 z) (by kernel_rfl) ((Frm.refl [] w6).drew) (fun hHeld => ?_)
  refine wpAnyH_take (i := 0) (oi := ⟨some 29, Op.move (Operand.tmp 6), 33, "outright.go:31", #[], none⟩) (v := ?_) rfl (by kernel_rfl) (by kernel_rfl) (by kernel_rfl) (fun _ _ _ h => h) (Or.inl ⟨by rfl, ?_⟩) hHeld ?_
  rotate_left
  focus (intro z hSw; clear hSw; go_simp; try with_reducible rfl)
  try simp only [Act.put, List.setIfInBounds_toArray, List.set_cons_zero, List.set_cons_succ]
  refine wpAnyH_take (i := 1) (oi := ⟨some 30, Op.binOp BinOp.eql 33 (Operand.tmp 29) (Operand.const (Value.int IntKind.i64 0)) 33, 4, "outright.go:31", #[⟨0, .data⟩], none⟩) (v := ?_) rfl (by kernel_rfl) (by kernel_rfl) (by kernel_rfl) (fun _ _ _ h => h) (Or.inl ⟨by rfl, ?_⟩) hHeld ?_
  rotate_left
  focus (intro z hSw; clear hSw; go_simp; try with_reducible rfl)
  try simp only [Act.put, List.setIfInBounds_toArray, List.set_cons_zero, List.set_cons_succ]
  refine wpAnyH_take (i := 2) (oi := ⟨some 31, Op.move (Operand.tmp 30), 4, "outright.go:31", #[⟨1, .data⟩], none⟩) (v := ?_) rfl (by kernel_rfl) (by kernel_rfl) (by kernel_rfl) (fun _ _ _ h => h) (Or.inl ⟨by rfl, ?_⟩) hHeld ?_
  rotate_left
  focus (intro z hSw; clear hSw; go_simp; try with_reducible rfl)
  try simp only [Act.put, List.setIfInBounds_toArray, List.set_cons_zero, List.set_cons_succ]
  refine wpAnyH_take (i := 3) (oi := ⟨some 32, Op.move (Operand.tmp 5), 30, "outright.go:31", #[⟨2, .guard⟩], some (2, true)⟩) (v := ?_) rfl (by kernel_rfl) (by kernel_rfl) (by kernel_rfl) (fun _ _ _ h => h) (Or.inl ⟨by rfl, ?_⟩) hHeld ?_
  rotate_left
  focus (intro z hSw; clear hSw; go_simp; try with_reducible rfl)
  try simp only [Act.put, List.setIfInBounds_toArray, List.set_cons_zero, List.set_cons_succ]
  refine wpAnyH_take (i := 4) (oi := ⟨some 33, Op.load 28 (Operand.tmp 1), 28, "outright.go:31", #[⟨2, .guard⟩], some (2, true)⟩) rfl (by kernel_rfl) (by kernel_rfl) (by kernel_rfl) (fun _ _ _ h => h) (yieldsIf_ld (by rfl) 28 _ rfl _ rfl (fun z hSw => (G16.out.keep0 hSw).gets.all)) hHeld ?_
  try simp only [Act.put, List.setIfInBounds_toArray, List.set_cons_zero, List.set_cons_succ]
  refine wpAnyH_take (i := 5) (oi := ⟨some 34, Op.load 28 (Operand.tmp 3), 28, "outright.go:31", #[⟨2, .guard⟩], some (2, true)⟩) rfl (by kernel_rfl) (by kernel_rfl) (by kernel_rfl) (fun _ _ _ h => h) (yieldsIf_ld (by rfl) 28 _ rfl _ rfl (fun z hSw => (G36.out.keep0 hSw).gets.all)) hHeld ?_
  try simp only [Act.put, List.setIfInBounds_toArray, List.set_cons_zero, List.set_cons_succ]
  refine wpAnyH_ready (rs := [6]) (by kernel_rfl) (by simp) ?_
  refine AllReadyH.cons (o := ⟨some 35, Op.buildSlice 30 2 #[(0, Operand.tmp 33), (1, Operand.tmp 34)], 30, "outright.go:31", #[⟨4, .data⟩, ⟨5, .data⟩, ⟨2, .guard⟩], some (2, true)⟩) rfl (fun K hK => ?_) ?_
  · refine step_us2 (by rfl) _ _ rfl rfl rfl (HV5.out _) (HV6.out _) ?_
    intro w36 u36 f36
    refine hK.out _ _ ?_ (fun hNext => ?_)
    · exact hHeld.trans f36 (by simp)
    clear hK K hHeld
    have hHeld := hNext
    clear hNext
    try simp only [Act.put, List.setIfInBounds_toArray, List.set_cons_zero, List.set_cons_succ]
    refine wpAnyH_ready (rs := [7]) (by kernel_rfl) (by simp) ?_
    refine AllReadyH.cons (o := ⟨some 36, Op.call { callee := Callee.value (Operand.func 38), args := #[Operand.tmp 32, Operand.tmp 35], argTypes := #[30, 30] }, 4, "outright.go:31", #[⟨3, .data⟩, ⟨6, .data⟩, ⟨2, .chain⟩, ⟨2, .guard⟩], some (2, true)⟩) rfl (fun K hK => ?_) ?_
    · go_simp
      refine (HS1.out _ _ _ (U6.out.keep0 hHeld) u36).mono ?_
      rintro r w37 ⟨rfl, f37⟩
      refine hK.out _ _ ?_ (fun hNext => ?_)
      · exact hHeld.trans f37 (by simp)
      clear hK K hHeld
      have hHeld := hNext
      clear hNext
      try simp only [Act.put, List.setIfInBounds_toArray, List.set_cons_zero, List.set_cons_succ]
      refine wpAnyH_take (i := 8) (oi := ⟨some 37, Op.pick (Operand.tmp 31) (Operand.tmp 36) (Operand.const (Value.bool false)), 4, "outright.go:31", #[⟨2, .data⟩, ⟨7, .data⟩], none⟩) (v := ?_) rfl (by kernel_rfl) (by kernel_rfl) (by kernel_rfl) (fun _ _ _ h => h) (Or.inl ⟨by rfl, ?_⟩) hHeld ?_
      rotate_left
      focus (intro z hSw; clear hSw; go_simp; try with_reducible rfl)
      try simp only [Act.put, List.setIfInBounds_toArray, List.set_cons_zero, List.set_cons_succ]
      refine wpAnyH_take (i := 9) (oi := ⟨some 38, Op.move (Operand.tmp 37), 4, "outright.go:31", #[⟨8, .data⟩, ⟨7, .chain⟩], none⟩) (v := ?_) rfl (by kernel_rfl) (by kernel_rfl) (by kernel_rfl) (fun _ _ _ h => h) (Or.inl ⟨by rfl, ?_⟩) hHeld ?_
      rotate_left
      focus (intro z hSw; clear hSw; go_simp; try with_reducible rfl)
      try simp only [Act.put, List.setIfInBounds_toArray, List.set_cons_zero, List.set_cons_succ]
      refine wpAnyH_take (i := 10) (oi := ⟨some 39, Op.move (Operand.tmp 7), 3, "outright.go:31", #[⟨9, .guard⟩], some (9, true)⟩) (v := ?_) rfl (by kernel_rfl) (by kernel_rfl) (by kernel_rfl) (fun _ _ _ h => h) (Or.inl ⟨by rfl, ?_⟩) hHeld ?_
      rotate_left
      focus (intro z hSw; clear hSw; go_simp; try with_reducible rfl)
      try simp only [Act.put, List.setIfInBounds_toArray, List.set_cons_zero, List.set_cons_succ]
      refine wpAnyH_take (i := 11) (oi := ⟨some 40, Op.binOp BinOp.eql 3 (Operand.tmp 39) (Operand.const (Value.int IntKind.i64 4)) 3, 4, "outright.go:31", #[⟨10, .data⟩, ⟨9, .guard⟩], some (9, true)⟩) (v := ?_) rfl (by kernel_rfl) (by kernel_rfl) (by kernel_rfl) (fun _ _ _ h => h) (Or.inl ⟨by rfl, ?_⟩) hHeld ?_
      rotate_left
      focus (intro z hSw; clear hSw; go_simp; try with_reducible rfl)
      try simp only [Act.put, List.setIfInBounds_toArray, List.set_cons_zero, List.set_cons_succ]
      refine wpAnyH_take (i := 12) (oi := ⟨some 41, Op.pick (Operand.tmp 38) (Operand.tmp 40) (Operand.const (Value.bool false)), 4, "outright.go:31", #[⟨9, .data⟩, ⟨11, .data⟩], none⟩) (v := ?_) rfl (by kernel_rfl) (by kernel_rfl) (by kernel_rfl) (fun _ _ _ h => h) (Or.inl ⟨by rfl, ?_⟩) hHeld ?_
      rotate_left
      focus (intro z hSw; clear hSw; go_simp; try with_reducible rfl)
      try simp only [Act.put, List.setIfInBounds_toArray, List.set_cons_zero, List.set_cons_succ]
      refine wpAnyH_take (i := 13) (oi := ⟨some 42, Op.move (Operand.tmp 41), 4, "outright.go:31", #[⟨12, .data⟩, ⟨9, .chain⟩], none⟩) (v := ?_) rfl (by kernel_rfl) (by kernel_rfl) (by kernel_rfl) (fun _ _ _ h => h) (Or.inl ⟨by rfl, ?_⟩) hHeld ?_
      rotate_left
      focus (intro z hSw; clear hSw; go_simp; try with_reducible rfl)
      try simp only [Act.put, List.setIfInBounds_toArray, List.set_cons_zero, List.set_cons_succ]
      refine wpAnyH_take (i := 14) (oi := ⟨some 43, Op.move (Operand.tmp 8), 4, "outright.go:31", #[⟨13, .guard⟩], some (13, true)⟩) (v := ?_) rfl (by kernel_rfl) (by kernel_rfl) (by kernel_rfl) (fun _ _ _ h => h) (Or.inl ⟨by rfl, ?_⟩) hHeld ?_
      rotate_left
      focus (intro z hSw; clear hSw; go_simp; try with_reducible rfl)
      try simp only [Act.put, List.setIfInBounds_toArray, List.set_cons_zero, List.set_cons_succ]
      refine wpAnyH_take (i := 15) (oi := ⟨some 44, Op.pick (Operand.tmp 42) (Operand.tmp 43) (Operand.const (Value.bool false)), 4, "outright.go:31", #[⟨13, .data⟩, ⟨14, .data⟩], none⟩) (v := ?_) rfl (by kernel_rfl) (by kernel_rfl) (by kernel_rfl) (fun _ _ _ h => h) (Or.inl ⟨by rfl, ?_⟩) hHeld ?_
      rotate_left
      focus (intro z hSw; clear hSw; go_simp; try with_reducible rfl)
      try simp only [Act.put, List.setIfInBounds_toArray, List.set_cons_zero, List.set_cons_succ]
      refine wpAnyH_take (i := 16) (oi := ⟨some 45, Op.move (Operand.tmp 44), 4, "outright.go:31", #[⟨15, .data⟩, ⟨13, .chain⟩], none⟩) (v := ?_) rfl (by kernel_rfl) (by kernel_rfl) (by kernel_rfl) (fun _ _ _ h => h) (Or.inl ⟨by rfl, ?_⟩) hHeld ?_
      rotate_left
      focus (intro z hSw; clear hSw; go_simp; try with_reducible rfl)
      try simp only [Act.put, List.setIfInBounds_toArray, List.set_cons_zero, List.set_cons_succ]
      refine wpAnyH_take (i := 17) (oi := ⟨some 46, Op.load 28 (Operand.tmp 1), 28, "outright.go:31", #[⟨16, .guard⟩], some (16, true)⟩) rfl (by kernel_rfl) (by kernel_rfl) (by kernel_rfl) (fun _ _ _ h => h) (yieldsIf_ld (by rfl) 28 _ rfl _ rfl (fun z hSw => (G16.out.keep0 hSw).gets.all)) hHeld ?_
      try simp only [Act.put, List.setIfInBounds_toArray, List.set_cons_zero, List.set_cons_succ]
      refine wpAnyH_take (i := 18) (oi := ⟨some 47, Op.load 28 (Operand.tmp 3), 28, "outright.go:31", #[⟨16, .guard⟩], some (16, true)⟩) rfl (by kernel_rfl) (by kernel_rfl) (by kernel_rfl) (fun _ _ _ h => h) (yieldsIf_ld (by rfl) 28 _ rfl _ rfl (fun z hSw => (G36.out.keep0 hSw).gets.all)) hHeld ?_
      try simp only [Act.put, List.setIfInBounds_toArray, List.set_cons_zero, List.set_cons_succ]
      refine wpAnyH_take (i := 19) (oi := ⟨some 48, Op.load 28 (Operand.tmp 1), 28, "outright.go:31", #[⟨16, .guard⟩], some (16, true)⟩) rfl (by kernel_rfl) (by kernel_rfl) (by kernel_rfl) (fun _ _ _ h => h) (yieldsIf_ld (by rfl) 28 _ rfl _ rfl (fun z hSw => (G16.out.keep0 hSw).gets.all)) hHeld ?_
      try simp only [Act.put, List.setIfInBounds_toArray, List.set_cons_zero, List.set_cons_succ]
      refine wpAnyH_take (i := 22) (oi := ⟨some 51, Op.load 28 (Operand.tmp 3), 28, "outright.go:31", #[⟨16, .guard⟩], some (16, true)⟩) rfl (by kernel_rfl) (by kernel_rfl) (by kernel_rfl) (fun _ _ _ h => h) (yieldsIf_ld (by rfl) 28 _ rfl _ rfl (fun z hSw => (G36.out.keep0 hSw).gets.all)) hHeld ?_
      try simp only [Act.put, List.setIfInBounds_toArray, List.set_cons_zero, List.set_cons_succ]
      refine wpAnyH_take (i := 23) (oi := ⟨some 52, Op.load 28 (Operand.tmp 1), 28, "outright.go:31", #[⟨16, .guard⟩], some (16, true)⟩) rfl (by kernel_rfl) (by kernel_rfl) (by kernel_rfl) (fun _ _ _ h => h) (yieldsIf_ld (by rfl) 28 _ rfl _ rfl (fun z hSw => (G16.out.keep0 hSw).gets.all)) hHeld ?_
      try simp only [Act.put, List.setIfInBounds_toArray, List.set_cons_zero, List.set_cons_succ]
      refine wpAnyH_ready (rs := [20, 24]) (by kernel_rfl) (by simp) ?_
      refine AllReadyH.cons (o := ⟨some 49, Op.buildSlice 30 3 #[(0, Operand.tmp 46), (1, Operand.tmp 47), (2, Operand.tmp 48)], 30, "outright.go:31", #[⟨17, .data⟩, ⟨18, .data⟩, ⟨19, .data⟩, ⟨16, .guard⟩], some (16, true)⟩) rfl (fun K hK => ?_) ?_
      · refine step_us3 (by rfl) _ _ _ rfl rfl rfl rfl (HV5.out _) (HV6.out _) (HV5.out _) ?_
        intro w20 u20 f20
        refine hK.out _ _ ?_ (fun hNext => ?_)
        · exact hHeld.trans f20 (by simp)
        clear hK K hHeld
        have hHeld := hNext
        clear hNext
        try simp only [Act.put, List.setIfInBounds_toArray, List.set_cons_zero, List.set_cons_succ]
        refine wpAnyH_ready (rs := [21, 24]) (by kernel_rfl) (by simp) ?_
        refine AllReadyH.cons (o := ⟨some 50, Op.call { callee := Callee.value (Operand.func 45), args := #[Operand.tmp 49], argTypes := #[30] }, 30, "outright.go:31", #[⟨20, .data⟩, ⟨16, .chain⟩, ⟨16, .guard⟩], some (16, true)⟩) rfl (fun K hK => ?_) ?_
        · go_simp
          refine (HBE.out _ _ (F6.out.trans hHeld (by simp)) (u20)).mono ?_
          rintro r w21 ⟨v21, rs21, B21, rfl, t21, f21⟩
          refine hK.out _ _ ?_ (fun hNext => ?_)
          · exact hHeld.trans f21 (by simp)
          clear hK K hHeld
          have hHeld := hNext
          clear hNext
          try simp only [Act.put, List.setIfInBounds_toArray, List.set_cons_zero, List.set_cons_succ]
          refine wpAnyH_ready (rs := [24]) (by kernel_rfl) (by simp) ?_
          refine AllReadyH.cons (o := ⟨some 53, Op.buildSlice 30 2 #[(0, Operand.tmp 51), (1, Operand.tmp 52)], 30, "outright.go:31", #[⟨22, .data⟩, ⟨23, .data⟩, ⟨16, .guard⟩], some (16, true)⟩) rfl (fun K hK => ?_) ?_
          · refine step_us2 (by rfl) _ _ rfl rfl rfl (HV6.out _) (HV5.out _) ?_
            intro w24 u24 f24
            refine hK.out _ _ ?_ (fun hNext => ?_)
            · exact hHeld.trans f24 (by simp)
            clear hK K hHeld
            have hHeld := hNext
            clear hNext
            try simp only [Act.put, List.setIfInBounds_toArray, List.set_cons_zero, List.set_cons_succ]
            refine wpAnyH_ready (rs := [25]) (by kernel_rfl) (by simp) ?_
            refine AllReadyH.cons (o := ⟨some 54, Op.call { callee := Callee.value (Operand.func 38), args := #[Operand.tmp 50, Operand.tmp 53], argTypes := #[30, 30] }, 4, "outright.go:31", #[⟨21, .data⟩, ⟨24, .data⟩, ⟨21, .chain⟩, ⟨16, .guard⟩], some (16, true)⟩) rfl (fun K hK => ?_) ?_
            · go_simp
              refine (HS2.out _ _ _ (t21.us.keep0 f24) (u24)).mono ?_
              rintro r w25 ⟨rfl, f25⟩
              refine hK.out _ _ ?_ (fun hNext => ?_)
              · exact hHeld.trans f25 (by simp)
              clear hK K hHeld
              have hHeld := hNext
              clear hNext
              try simp only [Act.put, List.setIfInBounds_toArray, List.set_cons_zero, List.set_cons_succ]
              refine wpAnyH_take (i := 26) (oi := ⟨some 55, Op.pick (Operand.tmp 45) (Operand.tmp 54) (Operand.const (Value.bool false)), 4, "outright.go:31", #[⟨16, .data⟩, ⟨25, .data⟩], none⟩) (v := ?_) rfl (by kernel_rfl) (by kernel_rfl) (by kernel_rfl) (fun _ _ _ h => h) (Or.inl ⟨by rfl, ?_⟩) hHeld ?_
              rotate_left
              focus (intro z hSw; clear hSw; go_simp; try with_reducible rfl)
              try simp only [Act.put, List.setIfInBounds_toArray, List.set_cons_zero, List.set_cons_succ]
              refine wpAnyH_take (i := 27) (oi := ⟨some 0, Op.assign (Operand.tmp 55), 4, "outright.go:31", #[⟨26, .data⟩, ⟨25, .chain⟩, ⟨0, .phase⟩, ⟨1, .phase⟩, ⟨2, .phase⟩, ⟨3, .phase⟩, ⟨4, .phase⟩, ⟨5, .phase⟩, ⟨6, .phase⟩, ⟨7, .phase⟩, ⟨8, .phase⟩, ⟨9, .phase⟩, ⟨10, .phase⟩, ⟨11, .phase⟩, ⟨12, .phase⟩, ⟨13, .phase⟩, ⟨14, .phase⟩, ⟨15, .phase⟩, ⟨16, .phase⟩, ⟨17, .phase⟩, ⟨18, .phase⟩, ⟨19, .phase⟩, ⟨20, .phase⟩, ⟨21, .phase⟩, ⟨22, .phase⟩, ⟨23, .phase⟩, ⟨24, .phase⟩, ⟨25, .phase⟩, ⟨26, .phase⟩], none⟩) (v := ?_) rfl (by kernel_rfl) (by kernel_rfl) (by kernel_rfl) (fun _ _ _ h => h) (Or.inl ⟨by rfl, ?_⟩) hHeld ?_
              rotate_left
              focus (intro z hSw; clear hSw; go_simp; try with_reducible rfl)
              try simp only [Act.put, List.setIfInBounds_toArray, List.set_cons_zero, List.set_cons_succ]
              refine wpAnyH_done (by kernel_rfl) ?_ _
              go_wp2_with fail
              go_ret
              exact ⟨rfl, F6.out.trans hHeld (by simp)⟩
            exact AllReadyH.nil
          exact AllReadyH.nil
        refine AllReadyH.cons (o := ⟨some 53, Op.buildSlice 30 2 #[(0, Operand.tmp 51), (1, Operand.tmp 52)], 30, "outright.go:31", #[⟨22, .data⟩, ⟨23, .data⟩, ⟨16, .guard⟩], some (16, true)⟩) rfl (fun K hK => ?_) ?_
        · refine step_us2 (by rfl) _ _ rfl rfl rfl (HV6.out _) (HV5.out _) ?_
          intro w24 u24 f24
          refine hK.out _ _ ?_ (fun hNext => ?_)
          · exact hHeld.trans f24 (by simp)
          clear hK K hHeld
          have hHeld := hNext
          clear hNext
          try simp only [Act.put, List.setIfInBounds_toArray, List.set_cons_zero, List.set_cons_succ]
          refine wpAnyH_ready (rs := [21]) (by kernel_rfl) (by simp) ?_
          refine AllReadyH.cons (o := ⟨some 50, Op.call { callee := Callee.value (Operand.func 45), args := #[Operand.tmp 49], argTypes := #[30] }, 30, "outright.go:31", #[⟨20, .data⟩, ⟨16, .chain⟩, ⟨16, .guard⟩], some (16, true)⟩) rfl (fun K hK => ?_) ?_
          · go_simp
            refine (HBE.out _ _ (F6.out.trans hHeld (by simp)) (u20.keep0 f24)).mono ?_
            rintro r w21 ⟨v21, rs21, B21, rfl, t21, f21⟩
            refine hK.out _ _ ?_ (fun hNext => ?_)
            · exact hHeld.trans f21 (by simp)
            clear hK K hHeld
            have hHeld := hNext
            clear hNext
            try simp only [Act.put, List.setIfInBounds_toArray, List.set_cons_zero, List.set_cons_succ]
            refine wpAnyH_ready (rs := [25]) (by kernel_rfl) (by simp) ?_
            refine AllReadyH.cons (o := ⟨some 54, Op.call { callee := Callee.value (Operand.func 38), args := #[Operand.tmp 50, Operand.tmp 53], argTypes := #[30, 30] }, 4, "outright.go:31", #[⟨21, .data⟩, ⟨24, .data⟩, ⟨21, .chain⟩, ⟨16, .guard⟩], some (16, true)⟩) rfl (fun K hK => ?_) ?_
            · go_simp
              refine (HS2.out _ _ _ (t21.us) (u24.keep0 f21)).mono ?_
              rintro r w25 ⟨rfl, f25⟩
              refine hK.out _ _ ?_ (fun hNext => ?_)
              · exact hHeld.trans f25 (by simp)
              clear hK K hHeld
              have hHeld := hNext
              clear hNext
              try simp only [Act.put, List.setIfInBounds_toArray, List.set_cons_zero, List.set_cons_succ]
              refine wpAnyH_take (i := 26) (oi := ⟨some 55, Op.pick (Operand.tmp 45) (Operand.tmp 54) (Operand.const (Value.bool false)), 4, "outright.go:31", #[⟨16, .data⟩, ⟨25, .data⟩], none⟩) (v := ?_) rfl (by kernel_rfl) (by kernel_rfl) (by kernel_rfl) (fun _ _ _ h => h) (Or.inl ⟨by rfl, ?_⟩) hHeld ?_
              rotate_left
              focus (intro z hSw; clear hSw; go_simp; try with_reducible rfl)
              try simp only [Act.put, List.setIfInBounds_toArray, List.set_cons_zero, List.set_cons_succ]
              refine wpAnyH_take (i := 27) (oi := ⟨some 0, Op.assign (Operand.tmp 55), 4, "outright.go:31", #[⟨26, .data⟩, ⟨25, .chain⟩, ⟨0, .phase⟩, ⟨1, .phase⟩, ⟨2, .phase⟩, ⟨3, .phase⟩, ⟨4, .phase⟩, ⟨5, .phase⟩, ⟨6, .phase⟩, ⟨7, .phase⟩, ⟨8, .phase⟩, ⟨9, .phase⟩, ⟨10, .phase⟩, ⟨11, .phase⟩, ⟨12, .phase⟩, ⟨13, .phase⟩, ⟨14, .phase⟩, ⟨15, .phase⟩, ⟨16, .phase⟩, ⟨17, .phase⟩, ⟨18, .phase⟩, ⟨19, .phase⟩, ⟨20, .phase⟩, ⟨21, .phase⟩, ⟨22, .phase⟩, ⟨23, .phase⟩, ⟨24, .phase⟩, ⟨25, .phase⟩, ⟨26, .phase⟩], none⟩) (v := ?_) rfl (by kernel_rfl) (by kernel_rfl) (by kernel_rfl) (fun _ _ _ h => h) (Or.inl ⟨by rfl, ?_⟩) hHeld ?_
              rotate_left
              focus (intro z hSw; clear hSw; go_simp; try with_reducible rfl)
              try simp only [Act.put, List.setIfInBounds_toArray, List.set_cons_zero, List.set_cons_succ]
              refine wpAnyH_done (by kernel_rfl) ?_ _
              go_wp2_with fail
              go_ret
              exact ⟨rfl, F6.out.trans hHeld (by simp)⟩
            exact AllReadyH.nil
          exact AllReadyH.nil
        exact AllReadyH.nil
      refine AllReadyH.cons (o := ⟨some 53, Op.buildSlice 30 2 #[(0, Operand.tmp 51), (1, Operand.tmp 52)], 30, "outright.go:31", #[⟨22, .data⟩, ⟨23, .data⟩, ⟨16, .guard⟩], some (16, true)⟩) rfl (fun K hK => ?_) ?_
      · refine step_us2 (by rfl) _ _ rfl rfl rfl (HV6.out _) (HV5.out _) ?_
        intro w24 u24 f24
        refine hK.out _ _ ?_ (fun hNext => ?_)
        · exact hHeld.trans f24 (by simp)
        clear hK K hHeld
        have hHeld := hNext
        clear hNext
        try simp only [Act.put, List.setIfInBounds_toArray, List.set_cons_zero, List.set_cons_succ]
        refine wpAnyH_ready (rs := [20]) (by kernel_rfl) (by simp) ?_
        refine AllReadyH.cons (o := ⟨some 49, Op.buildSlice 30 3 #[(0, Operand.tmp 46), (1, Operand.tmp 47), (2, Operand.tmp 48)], 30, "outright.go:31", #[⟨17, .data⟩, ⟨18, .data⟩, ⟨19, .data⟩, ⟨16, .guard⟩], some (16, true)⟩) rfl (fun K hK => ?_) ?_
        · refine step_us3 (by rfl) _ _ _ rfl rfl rfl rfl (HV5.out _) (HV6.out _) (HV5.out _) ?_
          intro w20 u20 f20
          refine hK.out _ _ ?_ (fun hNext => ?_)
          · exact hHeld.trans f20 (by simp)
          clear hK K hHeld
          have hHeld := hNext
          clear hNext
          try simp only [Act.put, List.setIfInBounds_toArray, List.set_cons_zero, List.set_cons_succ]
          refine wpAnyH_ready (rs := [21]) (by kernel_rfl) (by simp) ?_
          refine AllReadyH.cons (o := ⟨some 50, Op.call { callee := Callee.value (Operand.func 45), args := #[Operand.tmp 49], argTypes := #[30] }, 30, "outright.go:31", #[⟨20, .data⟩, ⟨16, .chain⟩, ⟨16, .guard⟩], some (16, true)⟩) rfl (fun K hK => ?_) ?_
          · go_simp
            refine (HBE.out _ _ (F6.out.trans hHeld (by simp)) (u20)).mono ?_
            rintro r w21 ⟨v21, rs21, B21, rfl, t21, f21⟩
            refine hK.out _ _ ?_ (fun hNext => ?_)
            · exact hHeld.trans f21 (by simp)
            clear hK K hHeld
            have hHeld := hNext
            clear hNext
            try simp only [Act.put, List.setIfInBounds_toArray, List.set_cons_zero, List.set_cons_succ]
            refine wpAnyH_ready (rs := [25]) (by kernel_rfl) (by simp) ?_
            refine AllReadyH.cons (o := ⟨some 54, Op.call { callee := Callee.value (Operand.func 38), args := #[Operand.tmp 50, Operand.tmp 53], argTypes := #[30, 30] }, 4, "outright.go:31", #[⟨21, .data⟩, ⟨24, .data⟩, ⟨21, .chain⟩, ⟨16, .guard⟩], some (16, true)⟩) rfl (fun K hK => ?_) ?_
            · go_simp
              refine (HS2.out _ _ _ (t21.us) (u24.keep0 (f20.trans f21 (by simp)))).mono ?_
              rintro r w25 ⟨rfl, f25⟩
              refine hK.out _ _ ?_ (fun hNext => ?_)
              · exact hHeld.trans f25 (by simp)
              clear hK K hHeld
              have hHeld := hNext
              clear hNext
              try simp only [Act.put, List.setIfInBounds_toArray, List.set_cons_zero, List.set_cons_succ]
              refine wpAnyH_take (i := 26) (oi := ⟨some 55, Op.pick (Operand.tmp 45) (Operand.tmp 54) (Operand.const (Value.bool false)), 4, "outright.go:31", #[⟨16, .data⟩, ⟨25, .data⟩], none⟩) (v := ?_) rfl (by kernel_rfl) (by kernel_rfl) (by kernel_rfl) (fun _ _ _ h => h) (Or.inl ⟨by rfl, ?_⟩) hHeld ?_
              rotate_left
              focus (intro z hSw; clear hSw; go_simp; try with_reducible rfl)
              try simp only [Act.put, List.setIfInBounds_toArray, List.set_cons_zero, List.set_cons_succ]
              refine wpAnyH_take (i := 27) (oi := ⟨some 0, Op.assign (Operand.tmp 55), 4, "outright.go:31", #[⟨26, .data⟩, ⟨25, .chain⟩, ⟨0, .phase⟩, ⟨1, .phase⟩, ⟨2, .phase⟩, ⟨3, .phase⟩, ⟨4, .phase⟩, ⟨5, .phase⟩, ⟨6, .phase⟩, ⟨7, .phase⟩, ⟨8, .phase⟩, ⟨9, .phase⟩, ⟨10, .phase⟩, ⟨11, .phase⟩, ⟨12, .phase⟩, ⟨13, .phase⟩, ⟨14, .phase⟩, ⟨15, .phase⟩, ⟨16, .phase⟩, ⟨17, .phase⟩, ⟨18, .phase⟩, ⟨19, .phase⟩, ⟨20, .phase⟩, ⟨21, .phase⟩, ⟨22, .phase⟩, ⟨23, .phase⟩, ⟨24, .phase⟩, ⟨25, .phase⟩, ⟨26, .phase⟩], none⟩) (v := ?_) rfl (by kernel_rfl) (by kernel_rfl) (by kernel_rfl) (fun _ _ _ h => h) (Or.inl ⟨by rfl, ?_⟩) hHeld ?_
              rotate_left
              focus (intro z hSw; clear hSw; go_simp; try with_reducible rfl)
              try simp only [Act.put, List.setIfInBounds_toArray, List.set_cons_zero, List.set_cons_succ]
              refine wpAnyH_done (by kernel_rfl) ?_ _
              go_wp2_with fail
              go_ret
              exact ⟨rfl, F6.out.trans hHeld (by simp)⟩
            exact AllReadyH.nil
          exact AllReadyH.nil
        exact AllReadyH.nil
      exact AllReadyH.nil
    exact AllReadyH.nil
  exact AllReadyH.nil
end Go.Proofs.YtjdejhgfkjeeiaaGreatDoor

namespace Go.Proofs.YtjdejhgfkjeeiaaGreatDoor
open Go.RowKit
set_option linter.unusedVariables false
set_option linter.unusedSimpArgs false
set_option maxRecDepth 100000

open Pt (Pt may enc readPt readE zeroPt pc pv PtV SlA OwnA)
open Kr (OwnE SlE Enco RowTys)
def o32 : List UInt8 := 1 :: List.replicate 31 0
theorem Ls.one {W : World} {g : Nat} {v1 : Value} {b1 s1 : List UInt8} (h : W.heap[g]? = some (.cells #[v1] 32 (0, 0))) (o1 : v1.oneCell' = true) (h1 : SlB W v1 b1 s1) : Ls W (.slice (some ⟨g, 0, none⟩) 1 1) [b1] := by
  refine ⟨[⟨v1, o1⟩], [], Kr.SlE.of_block encC (T := 32) h rfl (by decide), rfl, fun i c b hc hb => ?_⟩
  match i with
  | 0 => simp at hc hb; subst hc; subst hb; exact ⟨_, h1⟩
  | i + 1 => simp at hc
end Go.Proofs.YtjdejhgfkjeeiaaGreatDoor

namespace Go.Proofs.YtjdejhgfkjeeiaaGreatDoor
open Go.RowKit
set_option linter.unusedVariables false
set_option linter.unusedSimpArgs false
set_option maxRecDepth 100000

def InI (n : Int) : Prop := -9223372036854775808 ≤ n ∧ n ≤ 9223372036854775807
end Go.Proofs.YtjdejhgfkjeeiaaGreatDoor
