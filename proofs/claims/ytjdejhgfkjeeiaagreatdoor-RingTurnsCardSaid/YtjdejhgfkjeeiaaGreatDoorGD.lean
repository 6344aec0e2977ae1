/-
  Contracts of SameUbers at one list, of 'of', of 'four'. No conditions but those that each theorem names.
-/
import Derived.Test.YtjdejhgfkjeeiaaGreatDoorGC
import Derived.Test.YtjdejhgfkjeeiaaGreatDoorGY
namespace Go.Proofs.YtjdejhgfkjeeiaaGreatDoor
open Go.RowKit
set_option linter.unusedVariables false
set_option linter.unusedSimpArgs false
set_option maxRecDepth 100000

open Pt (Pt may enc readPt readE zeroPt pc pv PtV SlA OwnA)
open Kr (OwnE SlE Enco RowTys)
theorem exec_ld28 {o : Oper} {a : Act} {w : World} {x : Operand} {p v : Value} (ho : o.op = .load 28 x) (hx : a.eval x = p) (h : (Instr.loadAt 28 p).run Tryz.prog w = .ok v w) : (execOp a.eval o).run Tryz.prog w = .ok (.value v) w := by simp [execOp, ho, hx, h, Result.andThen]
theorem wpStill_val {P : Program} {ops : Array Oper} {w : World} {Q : Act → Prop} {a : Act} {o : Oper} {rest : List Oper} {v : Value} (hg : o.guard = none) (h : (execOp a.eval o).run P w = .ok (.value v) w)
    (k : wpStill P ops w Q rest (a.put o.dst v)) : wpStill P ops w Q (o :: rest) a := by
  refine wpStill_step (fun K hK => ?_)
  rw [if_pos (by simp [Region.wanted, hg])]
  unfold Oper.still
  rw [h, Oper.stillUpon_value]
  exact hK _ k
set_option maxHeartbeats 2000000 in
theorem SameUbs_true (x y : Value) (l : List Ub) (w : World) (hx : Us w x l) (hy : Us w y l) (hf : Fits l) : Calls Tryz.prog 38 #[x, y] w fun e w' => e = .returned (.bool true) ∧ Frm [] w w' := by
  obtain ⟨a, cap, rfl⟩ := hx.form
  obtain ⟨a2, cap2, rfl⟩ := hy.form
  have HX := Lib.hid hx
  have HY := Lib.hid hy
  have HF := Lib.hid hf
  have hl9 : (l.length : Int) ≤ 1000 := by have := hf.1; omega
  clear hx hy hf
  go_enter Tryz.func38, Tryz.ntmps38
  go_wp2_with fail
  go_loopw [5] (fun cv wr => ∃ k : Nat, k ≤ l.length ∧ cv = .int .i64 k ∧ Frm [] w wr) (fun cv _ => l.length - (intOf cv).toNat)
  case atStart => exact ⟨0, by omega, rfl, Frm.refl _ _⟩
  case round =>
    obtain ⟨k, hk, rfl, f⟩ := hrel
    by_cases hlt : k < l.length
    · have hlt' : (k : Int) < (l.length : Int) := by omega
      obtain ⟨b, off, cp, e⟩ := HX.out.at (by omega)
      injection e with e1 e2 e3
      subst e1; subst e3
      obtain ⟨b2, off2, cp2, e⟩ := HY.out.at (by omega)
      injection e with e1 e2 e3
      subst e1; subst e3
      have fd := f.trans ((Frm.refl [] wr).drew) (by simp)
      obtain ⟨xa, xc, ld1, u1, _, _⟩ := (HX.out.keep0 fd).load k hlt
      obtain ⟨ya, yc, ld2, u2, _, _⟩ := (HY.out.keep0 fd).load k hlt
      have HLD1 := Lib.hid ld1
      have HLD2 := Lib.hid ld2
      have HSM := Lib.hid (SameUber_any _ _ _ _ _ u1 u2 (HF.out.2 _ (List.getElem_mem _)))
      rw [sameU_refl] at HSM
      have FD := Lib.hid fd
      have HLT := Lib.hid hlt
      generalize l[k] = u at *
      clear f fd ld1 ld2 u1 u2 hlt
      go_upto_region 6 with (fail)
      refine wp_region_still_tail 8 (by kernel_rfl) (by kernel_rfl) ?_
      simp only [List.take_succ_cons, List.take_zero, List.drop_succ_cons, List.drop_zero]
      change wpStill _ _ (World.drew _) _ _ _
      iterate 3 still_step
      refine wpStill_val rfl (exec_ld28 rfl rfl HLD1.out) ?_
      iterate 3 still_step
      refine wpStill_val rfl (exec_ld28 rfl rfl HLD2.out) ?_
      refine wpStill_nil ?_
      change wpList _ _ _ _ _ (World.drew _)
      go_wp2_with (go_at_call 24; refine HSM.out.mono ?_; rintro r w3 ⟨rfl, f3⟩)
      go_roundw
      case rel => exact ⟨k + 1, HLT.out, by go_num, FD.out.trans f3 (by simp)⟩
      case measure => simp [intOf]; have := HLT.out; omega
    · obtain rfl : k = l.length := by omega
      have F := Lib.hid f
      clear f
      go_wp2_with fail
      go_ret
      exact ⟨rfl, F.out⟩
/-- The uberblock of a commit that has nothing. -/
def ofU (t : Int) : Ub := ⟨t, zeroPt, 0, List.replicate 32 0⟩
theorem ofU_wf (t : Int) : WfU (ofU t) := ⟨rfl, rfl⟩
theorem ofU_may {t : Int} (h1 : 1 ≤ t) (h2 : t ≤ 2147483648) : MayU (ofU t) := ⟨h1, h2, .inl (by kernel_rfl), by show (0:Int) ≤ 0; omega, by show (0:Int) ≤ 16384; omega⟩
theorem bldOf (t : Int) (W : World) : (Instr.build 28 #[(0, .int .i64 t)]).run Tryz.prog W = .ok (uv nilS (ofU t)) W := by kernel_rfl
theorem exec_bldOf {o : Oper} {a : Act} {t : Int} (s : Operand) (hop : o.op = Op.build 28 #[(0, s)]) (h1 : a.eval s = .int .i64 t) (W : World) : (execOp a.eval o).run Tryz.prog W = .ok (.value (uv nilS (ofU t))) W := by
  have hb := bldOf t W
  have hm : (#[(0, s)].map fun ((i, x) : Nat × Operand) => (i, a.eval x)) = #[(0, .int .i64 t)] := by simp [h1]
  simp only [execOp, hop, hm, Sem.run_bind, Sem.run_pure, hb, Result.andThen_ok]
theorem ofU_v (t : Int) (w : World) : UbV w (uv nilS (ofU t)) (ofU t) := ⟨none, 0, [], rfl, Pt.SlA.nil w, ofU_wf t⟩
/-- What 'of' tells. -/
def OfP (t : Int) (w : World) (r : Ending) (w' : World) : Prop := ∃ a cap sp, r = .returned (.tuple #[uv nilS (ofU t), .slice a 256 cap]) ∧ OwnB 5 w' (.slice a 256 cap) (packU (ofU t)) sp ∧ Frm [] w w' ∧ ∀ i ∈ blk (.slice a 256 cap), w.heap.size ≤ i
set_option maxHeartbeats 2000000 in
theorem of_any (t : Int) (w : World) (h1 : 1 ≤ t) (h2 : t ≤ 2147483648) (hG : Hs.Glob w) : Calls Tryz.prog 47 #[.int .i64 t] w (OfP t w) := by
  have f0 : Frm [] w (w.alloc (.cells (uc nilS zeroU).toArray 28)) := (Frm.refl [] w).alloc _
  have f1 : Frm [] (w.alloc (.cells (uc nilS zeroU).toArray 28)) ((w.alloc (.cells (uc nilS zeroU).toArray 28)).alloc (.cells (uc nilS (ofU t)).toArray 28)) := (Frm.refl [] _).alloc _
  have B0 := Lib.hid ((UB.new w nilS zeroU_wf).keep0 f1)
  have G1 := Lib.hid (UB.new (w.alloc (.cells (uc nilS zeroU).toArray 28)) nilS (ofU_wf t))
  have F1 := Lib.hid (f0.trans f1 (by simp))
  have hm := ofU_may h1 h2
  have HP := Lib.hid (Pack_any _ (ofU t) _ (ofU_v t _) (Nat.zero_le _) (hG.keep (f0.trans f1 (by simp)) (by simp)))
  unfold PackP at HP
  rw [packO_yes hm, mayE_yes hm, packU_length (ofU_wf t) hm] at HP
  have hwo := ofU_wf t
  have HPO : OfP t w = fun r w' => ∃ a cap sp, r = .returned (.tuple #[uv nilS (ofU t), .slice a 256 cap]) ∧ OwnB 5 w' (.slice a 256 cap) (packU (ofU t)) sp ∧ Frm [] w w' ∧ ∀ i ∈ blk (.slice a 256 cap), w.heap.size ≤ i := rfl
  rw [HPO]
  have hbo := fun (o : Oper) (a : Act) (s : Operand) (ho : o.op = Op.build 28 #[(0, s)]) (h1 : a.eval s = .int .i64 t) (W : World) => exec_bldOf s ho h1 W
  clear f0 f1 hm hG HPO h1 h2
  obtain ⟨u, hu⟩ : ∃ u, ofU t = u := ⟨_, rfl⟩
  rw [hu] at HP G1 F1 B0 hwo hbo ⊢
  clear hu
  go_enter Tryz.func47, Tryz.ntmps47
  go_upto_region 2 with (first
    | ((with_reducible (show wpList _ _ _ (Oper.mk (some 2) (Op.alloc 28) _ _ _ _ :: _) _ _)); refine wpList_val rfl (exec_alloc28 rfl _) ?_)
    | ((with_reducible (show wpList _ _ _ (Oper.mk _ (Op.build 28 _) _ _ _ _ :: _) _ _)); refine wpList_val rfl (hbo _ _ _ rfl rfl _) ?_)
    | ((with_reducible (show wpList _ _ _ (Oper.mk (some 4) (Op.alloc 28) _ _ _ _ :: _) _ _)); refine wpList_lay28 rfl rfl rfl _ _ rfl (v := nilS) rfl (u := u) hwo rfl rfl ?_))
  have hz : (w.alloc (.cells (uc nilS zeroU).toArray 28)).heap.size = w.heap.size + 1 := by simp
  rw [hz] at G1 ⊢
  generalize (w.alloc (.cells (uc nilS zeroU).toArray 28)).alloc (.cells (uc nilS u).toArray 28) = W1 at *
  have HW := Lib.hid hwo
  go_wp2_with (first
    | ((with_reducible (show wpList _ _ _ (Oper.mk (some 10) (Op.load 28 _) _ _ _ _ :: _) _ _)); refine wpList_load_g (by rfl) 28 _ rfl _ rfl G1.out.gets.all ?_)
    | (go_at_call 16; refine HP.out.mono ?_; rintro r w2 ⟨pa, pc, ps, rfl, po, f2, n2⟩; have G2 := Lib.hid (G1.out.keep0 f2); have B2 := Lib.hid (B0.out.keep0 f2); have PO := Lib.hid po; have F2 := Lib.hid (F1.out.trans f2 (by simp)); have N2 := Lib.hid n2; clear po f2 n2)
    | ((with_reducible (show wpList _ _ _ (Oper.mk (some 17) (Op.load 28 _) _ _ _ _ :: _) _ _)); refine wpList_load_g (by rfl) 28 _ rfl _ rfl G2.out.gets.all ?_)
    | ((with_reducible (show wpList _ _ _ (Oper.mk _ (Op.store 28 _ _) _ _ _ _ :: _) _ _)); refine wpList_store28 rfl _ _ rfl rfl B2.out HW.out rfl rfl ?_; intro V B5 F5))
  refine bodyPost_ret (v := .tuple #[uv nilS u, .slice pa 256 pc]) (results_cell_slot rfl _ _ rfl rfl B5.gets.var) rfl ?_
  have hpa : ∀ i ∈ blk (.slice pa 256 pc), w.heap.size < i := fun i hi => by
    have h1 := N2.out i hi
    have h2 := B0.out.lt
    omega
  exact ⟨pa, pc, ps, rfl, PO.out.keep F5 (fun i hi => by have := hpa i hi; simp; omega), F2.out.trans F5 (fun i hi => by simp at hi; exact .inr (by omega)), fun i hi => by have := hpa i hi; omega⟩
def Zb : List UInt8 := List.replicate 256 0
def Zc : Array Value := (bvs Zb).toArray
theorem mk256 (W : World) : (Instr.makeSlice 32 (.int .i64 256) (.int .i64 256)).run Tryz.prog W = .ok (.slice (some ⟨W.heap.size, 0, none⟩) 256 256) (W.alloc (.cells Zc 5)) := by kernel_rfl
theorem exec_mk256 {o : Oper} {a : Act} (hop : o.op = Op.makeSlice 32 (.const (.int .i64 256)) (.const (.int .i64 256))) (W : World) : (execOp a.eval o).run Tryz.prog W = .ok (.value (.slice (some ⟨W.heap.size, 0, none⟩) 256 256)) (W.alloc (.cells Zc 5)) := by
  have h := mk256 W
  generalize W.alloc (.cells Zc 5) = W2 at *
  simp only [execOp, hop, Sem.run_bind, Sem.run_pure]
  simp [h, Act.eval, Result.andThen]
theorem zb_sl (W : World) (g : Nat) (h : W.heap[g]? = some (.cells Zc 5 (0, 0))) : SlB W (.slice (some ⟨g, 0, none⟩) 256 256) Zb [] := by
  refine ⟨by rw [bvs_length]; rfl, .inr (.inr ⟨g, 0, 256, rfl, by decide, by simp [maxLen], by rw [show bvs [] = [] from rfl, List.append_nil, bvs_length]; rfl, fun i u hu => ?_⟩)⟩
  rw [cell_of_heap h, Nat.zero_add]
  unfold Zc
  rw [List.getElem?_toArray]
  rw [show bvs ([] : List UInt8) = [] from rfl, List.append_nil] at hu
  exact hu
/-- A slice of four lists, as their cells lie in a new block. -/
theorem Ls.four {W : World} {g : Nat} {v1 v2 v3 v4 : Value} {b1 b2 b3 b4 s1 s2 s3 s4 : List UInt8} (h : W.heap[g]? = some (.cells #[v1, v2, v3, v4] 32 (0, 0))) (o1 : v1.oneCell' = true) (o2 : v2.oneCell' = true) (o3 : v3.oneCell' = true) (o4 : v4.oneCell' = true)
    (h1 : SlB W v1 b1 s1) (h2 : SlB W v2 b2 s2) (h3 : SlB W v3 b3 s3) (h4 : SlB W v4 b4 s4) : Ls W (.slice (some ⟨g, 0, none⟩) 4 4) [b1, b2, b3, b4] := by
  refine ⟨[⟨v1, o1⟩, ⟨v2, o2⟩, ⟨v3, o3⟩, ⟨v4, o4⟩], [], Kr.SlE.of_block encC (T := 32) h rfl (by decide), rfl, fun i c b hc hb => ?_⟩
  match i with
  | 0 => simp at hc hb; subst hc; subst hb; exact ⟨_, h1⟩
  | 1 => simp at hc hb; subst hc; subst hb; exact ⟨_, h2⟩
  | 2 => simp at hc hb; subst hc; subst hb; exact ⟨_, h3⟩
  | 3 => simp at hc hb; subst hc; subst hb; exact ⟨_, h4⟩
  | i + 4 => simp at hc
def FourP (b c : List UInt8) (w : World) (r : Ending) (w' : World) : Prop := ∃ v, r = .returned v ∧ Ls w' v [Zb, b, c, Zb] ∧ Frm [] w w'
set_option maxHeartbeats 2000000 in
theorem four_any (x y : Value) (b c s1 s2 : List UInt8) (w : World) (hx : SlB w x b s1) (hy : SlB w y c s2) : Calls Tryz.prog 48 #[x, y] w (FourP b c w) := by
  obtain ⟨a, cap, rfl, _, _⟩ := hx.form
  obtain ⟨a2, cap2, rfl, _, _⟩ := hy.form
  have HX := Lib.hid hx
  have HY := Lib.hid hy
  have hmix : Tryz.prog.follows .mixedOrders = true := by kernel_rfl
  have hmk := mk256
  clear hx hy
  go_enter Tryz.func48, Tryz.ntmps48
  go_wp2_with fail
  go_region_law (fail)
  all_goals
    have hA := heap_alloc_lt (o := .cells Zc 5) (heap_alloc_new w (.cells Zc 5))
    have hB : ((w.alloc (.cells Zc 5)).alloc (.cells Zc 5)).heap[w.heap.size + 1]? = some (.cells Zc 5 (0, 0)) := heap_at (by simp)
    have fA : Frm [] w ((w.alloc (.cells Zc 5)).alloc (.cells Zc 5)) := ((Frm.refl [] w).alloc _).alloc _
    have hzz : ((w.alloc (.cells Zc 5)).alloc (.cells Zc 5)).heap.size = w.heap.size + 1 + 1 := by simp
    generalize (w.alloc (.cells Zc 5)).alloc (.cells Zc 5) = W2 at *
    generalize w.heap.size + 1 + 1 = n2 at *
    generalize w.heap.size + 1 = n1 at *
    generalize w.heap.size = n0 at *
  · have fB : Frm [] W2 (W2.alloc (.cells #[.slice (some ⟨n0, 0, none⟩) 256 256, .slice a b.length cap, .slice a2 c.length cap2, .slice (some ⟨n1, 0, none⟩) 256 256] 32)).drew := ((Frm.refl [] W2).alloc _).drew
    have hC : (W2.alloc (.cells #[.slice (some ⟨n0, 0, none⟩) 256 256, .slice a b.length cap, .slice a2 c.length cap2, .slice (some ⟨n1, 0, none⟩) 256 256] 32)).drew.heap[n2]? = some (.cells #[.slice (some ⟨n0, 0, none⟩) 256 256, .slice a b.length cap, .slice a2 c.length cap2, .slice (some ⟨n1, 0, none⟩) 256 256] 32 (0, 0)) := by rw [← hzz]; exact heap_alloc_new W2 _
    generalize (W2.alloc (.cells #[.slice (some ⟨n0, 0, none⟩) 256 256, .slice a b.length cap, .slice a2 c.length cap2, .slice (some ⟨n1, 0, none⟩) 256 256] 32)).drew = W3 at *
    go_wp2_with fail
    go_ret
    exact ⟨_, rfl, Ls.four hC rfl rfl rfl rfl (zb_sl W3 n0 (fB.heap hA (by simp))) (HX.out.keep (fA.trans fB (by simp)) (by simp)) (HY.out.keep (fA.trans fB (by simp)) (by simp)) (zb_sl W3 n1 (fB.heap hB (by simp))), fA.trans fB (by simp)⟩
  · have fB : Frm [] W2 (W2.alloc (.cells #[.slice (some ⟨n1, 0, none⟩) 256 256, .slice a b.length cap, .slice a2 c.length cap2, .slice (some ⟨n0, 0, none⟩) 256 256] 32)).drew := ((Frm.refl [] W2).alloc _).drew
    have hC : (W2.alloc (.cells #[.slice (some ⟨n1, 0, none⟩) 256 256, .slice a b.length cap, .slice a2 c.length cap2, .slice (some ⟨n0, 0, none⟩) 256 256] 32)).drew.heap[n2]? = some (.cells #[.slice (some ⟨n1, 0, none⟩) 256 256, .slice a b.length cap, .slice a2 c.length cap2, .slice (some ⟨n0, 0, none⟩) 256 256] 32 (0, 0)) := by rw [← hzz]; exact heap_alloc_new W2 _
    generalize (W2.alloc (.cells #[.slice (some ⟨n1, 0, none⟩) 256 256, .slice a b.length cap, .slice a2 c.length cap2, .slice (some ⟨n0, 0, none⟩) 256 256] 32)).drew = W3 at *
    go_wp2_with fail
    go_ret
    exact ⟨_, rfl, Ls.four hC rfl rfl rfl rfl (zb_sl W3 n1 (fB.heap hB (by simp))) (HX.out.keep (fA.trans fB (by simp)) (by simp)) (HY.out.keep (fA.trans fB (by simp)) (by simp)) (zb_sl W3 n0 (fB.heap hA (by simp))), fA.trans fB (by simp)⟩
end Go.Proofs.YtjdejhgfkjeeiaaGreatDoor
