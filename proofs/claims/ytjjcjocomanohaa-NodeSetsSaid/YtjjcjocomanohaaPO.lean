/-
  Contract of faultOf where its step changes blocks; contract of Read. No conditions but those that each theorem names.
-/
import Derived.Test.YtjjcjocomanohaaPN
namespace Go.Proofs.Ytjjcjocomanohaa
open Go.RowKit
set_option linter.unusedVariables false
set_option linter.unusedSimpArgs false
set_option maxRecDepth 100000

set_option maxHeartbeats 1000000 in
theorem faultOf_retL (L : List Nat) (K : FuncId) (cap : Array Value) (R : World → Prop) (w : World) (hL : w.heap.size ∉ L)
    (hcf : ∀ w, (callFunc K cap).run Try.prog w = .ok (.enter K cap) w) (hstep : ∀ w1, Frm [] w w1 → w.heap.size < w1.heap.size → Calls Try.prog K cap w1 fun e w' => e = .returned (.tuple #[]) ∧ Frm L w1 w' ∧ R w') :
    Calls Try.prog 51 #[.func (.func K) #[] cap] w (Through R w) := by
  have HS := Lib.hid hstep
  clear hstep
  have hmf : ∀ (fn : Fn) (first cap : Array Value) (w : World), (Instr.makeFunc fn first cap).run Try.prog w = .ok (.func fn first cap) w := fun _ _ _ _ => rfl
  go_enter_defers Try.func51, Try.ntmps51
  go_wp2_with fail
  have hn := heap_alloc_new w (.cells #[.int .i64 0, .int .i64 0] 40)
  refine (HS.out _ ((Frm.refl [] _).alloc _) (by simp)).mono ?_
  rintro e w1 ⟨rfl, f1, hr⟩
  have hb := f1.heap hn hL
  have c0 : w1.cell? ⟨w.heap.size, 0, none⟩ = some (.int .i64 0) := by rw [cell_of_heap hb]; rfl
  have c1 : w1.cell? ⟨w.heap.size, 1, none⟩ = some (.int .i64 0) := by rw [cell_of_heap hb]; rfl
  have z0 := frozen_of_heap hb 0
  have z1 := frozen_of_heap hb 1
  have hb2 : ((w1.setCell ⟨w.heap.size, 0, none⟩ (.int .i64 0)).setCell ⟨w.heap.size, 1, none⟩ (.int .i64 0)).heap[w.heap.size]? = some (.cells #[.int .i64 0, .int .i64 0] 40 (0, 0)) := by rw [heap_setCell_same _ (heap_setCell_same _ hb)]; rfl
  have f2 : Frm [w.heap.size] w1 ((w1.setCell ⟨w.heap.size, 0, none⟩ (.int .i64 0)).setCell ⟨w.heap.size, 1, none⟩ (.int .i64 0)) := ((Frm.refl _ w1).setCell _ _ (by simp)).setCell _ _ (by simp)
  have HB2 := Lib.hid hb2
  have F2 := Lib.hid f2
  have HRR := Lib.hid hr
  clear hn hb hb2 f2 f1 hr HS
  go_wp2
  generalize (w1.setCell ⟨w.heap.size, 0, none⟩ (.int .i64 0)).setCell ⟨w.heap.size, 1, none⟩ (.int .i64 0) = W2 at *
  refine leaves_cons (f := 72) (args := #[.pointer (some ⟨w.heap.size, 0, none⟩)]) (by simp) (by simp [go_sem]) ?_
  refine (catch_idle ⟨w.heap.size, 0, none⟩ _).mono ?_
  rintro e u' w3 ⟨rfl, rfl, f3⟩
  have hb3 := f3.heap HB2.out (by simp)
  have k0 : w3.cell? ⟨w.heap.size, 0, none⟩ = some (.int .i64 0) := by rw [cell_of_heap hb3]; rfl
  have k1 : w3.cell? ⟨w.heap.size, 1, none⟩ = some (.int .i64 0) := by rw [cell_of_heap hb3]; rfl
  simp [Leaves, settle, results, Try.results51, go_sem, k0, k1]
  exact ⟨rfl, w1, HRR.out, F2.out.trans f3 (by simp)⟩
/-- Results that lie in two cells. -/
theorem results_two {P : Program} {fn : Func} {p q : Tmp} {t1 t2 : TypeId} (h : fn.results = #[.cell p t1, .cell q t2]) (tmps : Array Value) (w : World) {a1 a2 : Addr} {v1 v2 : Value} (h1 : tmps.getD p undef = .pointer (some a1)) (h2 : tmps.getD q undef = .pointer (some a2))
    (k1 : (loadVar t1 a1).run P w = .ok v1 w) (k2 : (loadVar t2 a2).run P w = .ok v2 w) : (results fn tmps).run P w = .ok (.tuple #[v1, v2]) w := by
  have h1' : tmps[p]?.getD undef = .pointer (some a1) := by simpa using h1
  have h2' : tmps[q]?.getD undef = .pointer (some a2) := by simpa using h2
  simp [results, h, h1', h2', asAddr, k1, k2, Result.andThen]
def zs : List UInt8 := List.replicate 32 0
theorem zs_len : zs.length = 32 := rfl
theorem exec_alloc26z {o : Oper} {a : Act} (hop : o.op = Op.alloc 26) (W : World) : (execOp a.eval o).run Try.prog W = .ok (.value (.pointer (some ⟨W.heap.size, 0, none⟩))) (W.alloc (.cells (pc (.slice none 0 0) 0 0 zs).toArray 26)) := exec_alloc26 hop W
def ReadP (l : List UInt8) (w : World) (e : Ending) (w' : World) : Prop := ∃ x, e = .returned (.tuple #[x, .agg #[.int .i64 (readE l), .int .i64 (readAt l)]]) ∧ PtV w' x (readPt l) ∧ Frm [] w w'
/-- The same, and the list of what is told is new. -/
def ReadN (l : List UInt8) (w : World) (e : Ending) (w' : World) : Prop := ∃ x, e = .returned (.tuple #[x, .agg #[.int .i64 (readE l), .int .i64 (readAt l)]]) ∧ PtV w' x (readPt l) ∧ Frm [] w w' ∧ ∀ i ∈ ptBlk x, w.heap.size ≤ i
theorem d40 : (Try.prog.info? 40).map (·.size) = some 2 := by kernel_rfl
set_option maxHeartbeats 8000000 in
theorem ReadN_any (v : Value) (l sp : List UInt8) (w : World) (hS : SlB w v l sp) (hl : l.length ≤ 1000000) : Calls Try.prog 29 #[v] w (ReadN l w) := by
  obtain ⟨a, cap, rfl, _, _⟩ := hS.form
  have HS := Lib.hid hS
  have HL := Lib.hid hl
  clear hl hS
  have hmf : ∀ (fn : Fn) (first cap : Array Value) (w : World), (Instr.makeFunc fn first cap).run Try.prog w = .ok (.func fn first cap) w := fun _ _ _ _ => rfl
  go_enter Try.func29, Try.ntmps29
  go_upto_region 2 with ((with_reducible (show wpList _ _ _ (Oper.mk _ (Op.alloc 26) _ _ _ _ :: _) _ _)); refine wpList_val rfl (exec_alloc26z rfl _) ?_)
  simp only [World.size_alloc]
  have hb0 : ((((w.alloc (.cells #[.slice a l.length cap] 29)).alloc (.cells (pc (.slice none 0 0) 0 0 zs).toArray 26)).alloc (.cells #[.int .i64 0, .int .i64 0] 40)).alloc (.cells (pc (.slice none 0 0) 0 0 zs).toArray 26)).heap[w.heap.size]? = some (.cells #[.slice a l.length cap] 29 (0, 0)) := heap_alloc_lt (heap_alloc_lt (heap_alloc_lt (heap_alloc_new _ _)))
  have hb1 : ((((w.alloc (.cells #[.slice a l.length cap] 29)).alloc (.cells (pc (.slice none 0 0) 0 0 zs).toArray 26)).alloc (.cells #[.int .i64 0, .int .i64 0] 40)).alloc (.cells (pc (.slice none 0 0) 0 0 zs).toArray 26)).heap[w.heap.size + 1]? = some (.cells (pc (.slice none 0 0) 0 0 zs).toArray 26 (0, 0)) := heap_alloc_lt (heap_alloc_lt (heap_alloc_at (by simp)))
  have hb2 : ((((w.alloc (.cells #[.slice a l.length cap] 29)).alloc (.cells (pc (.slice none 0 0) 0 0 zs).toArray 26)).alloc (.cells #[.int .i64 0, .int .i64 0] 40)).alloc (.cells (pc (.slice none 0 0) 0 0 zs).toArray 26)).heap[w.heap.size + 1 + 1]? = some (.cells #[.int .i64 0, .int .i64 0] 40 (0, 0)) := heap_alloc_lt (heap_alloc_at (by simp))
  have hb3 : ((((w.alloc (.cells #[.slice a l.length cap] 29)).alloc (.cells (pc (.slice none 0 0) 0 0 zs).toArray 26)).alloc (.cells #[.int .i64 0, .int .i64 0] 40)).alloc (.cells (pc (.slice none 0 0) 0 0 zs).toArray 26)).heap[w.heap.size + 1 + 1 + 1]? = some (.cells (pc (.slice none 0 0) 0 0 zs).toArray 26 (0, 0)) := heap_alloc_at (by simp)
  have hf : Frm [] w ((((w.alloc (.cells #[.slice a l.length cap] 29)).alloc (.cells (pc (.slice none 0 0) 0 0 zs).toArray 26)).alloc (.cells #[.int .i64 0, .int .i64 0] 40)).alloc (.cells (pc (.slice none 0 0) 0 0 zs).toArray 26)) := ((((Frm.refl [] w).alloc _).alloc _).alloc _).alloc _
  have hsz : ((((w.alloc (.cells #[.slice a l.length cap] 29)).alloc (.cells (pc (.slice none 0 0) 0 0 zs).toArray 26)).alloc (.cells #[.int .i64 0, .int .i64 0] 40)).alloc (.cells (pc (.slice none 0 0) 0 0 zs).toArray 26)).heap.size = w.heap.size + 4 := by simp
  generalize (((w.alloc (.cells #[.slice a l.length cap] 29)).alloc (.cells (pc (.slice none 0 0) 0 0 zs).toArray 26)).alloc (.cells #[.int .i64 0, .int .i64 0] 40)).alloc (.cells (pc (.slice none 0 0) 0 0 zs).toArray 26) = W at *
  generalize hg3 : w.heap.size + 1 + 1 + 1 = g3 at *
  generalize hg2 : w.heap.size + 1 + 1 = g2 at *
  generalize hg1 : w.heap.size + 1 = g1 at *
  have HB0 := Lib.hid hb0
  have HB1 := Lib.hid hb1
  have HB2 := Lib.hid hb2
  have HB3 := Lib.hid hb3
  have HF := Lib.hid hf
  have HSZ := Lib.hid (show g1 = w.heap.size + 1 ∧ g2 = w.heap.size + 2 ∧ g3 = w.heap.size + 3 ∧ W.heap.size = w.heap.size + 4 from by omega)
  have hst := fun w1 (f1 : Frm [] W w1) => readStep_any w.heap.size g3 (.slice a l.length cap) l sp w1 (HS.out.keep (HF.out.trans f1 (by simp)) (by simp)) (f1.heap HB0.out (by simp)) (f1.heap HB3.out (by simp)) HL.out
  have HST := Lib.hid hst
  clear hb0 hb1 hb2 hb3 hf hsz hst hg1 hg2 hg3
  cases hg : goodB l with
  | true =>
    have HGD := Lib.hid hg
    have hF := faultOf_retL [g3] 59 #[.pointer (some ⟨w.heap.size, 0, none⟩), .pointer (some ⟨g3, 0, none⟩)] (fun z => Frm [g3] W z ∧ ∃ a cap sp, PB z (g3) (.slice a (rawPt l).ads.length cap) (rawPt l).b (rawPt l).l (rawPt l).s ∧ SlA z (.slice a (rawPt l).ads.length cap) (rawPt l).ads sp ∧ ∀ i ∈ blk (.slice a (rawPt l).ads.length cap), W.heap.size < i) W (by have := HSZ.out; simp; omega) (fun w => enter_of Try.func59 (by kernel_rfl) (by kernel_rfl) _ w) (fun w1 f1 hsz1 => (HST.out w1 f1).mono (by
      rintro e w' (⟨hb, _⟩ | ⟨hb, rfl, f2, xa, xc, xsp, q1, q2, q3⟩)
      · rw [hg] at hb; cases hb
      · exact ⟨rfl, f2, (f1.mono (by simp)).trans f2 (by simp), xa, xc, xsp, q1, q2, fun i hi => Nat.lt_of_lt_of_le hsz1 (q3 i hi)⟩))
    have HFF := Lib.hid hF
    clear hF hg
    go_upto_region 3 with (go_at_call 51; refine HFF.out.mono ?_; rintro r w5 ⟨rfl, w4, ⟨f4, xa, xc, xsp, pb4, sx4, nb4⟩, f5⟩)
    have F45 := Lib.hid ((f4.mono (L' := [g3, W.heap.size]) (by simp)).trans (L' := [W.heap.size]) f5 (by simp))
    have ZL := Lib.hid (show (rawPt l).s.length = 32 from by have := ((goodB_iff l).1 HGD.out).1; simp [rawPt]; omega)
    have PB5 := Lib.hid (pb4.keep f5 (by have := HSZ.out; simp; omega))
    have SX5 := Lib.hid (sx4.keep f5 (fun i hi => by have := nb4 i hi; simp; omega))
    have NX5 := Lib.hid nb4
    have SXV := Lib.hid (SX5.out.keep ((Frm.refl [] w5).alloc (.cells #[.int .i64 0, .int .i64 0] 40)) (by simp))
    clear pb4 sx4 nb4 f4 f5
    have hv : (w5.alloc (.cells #[.int .i64 0, .int .i64 0] 40)).heap[w5.heap.size]? = some (.cells #[.int .i64 0, .int .i64 0] 40 (0, 0)) := heap_alloc_new _ _
    have fv : Frm [g3, W.heap.size] W (w5.alloc (.cells #[.int .i64 0, .int .i64 0] 40)) := F45.out.alloc _
    have pv5 : PB (w5.alloc (.cells #[.int .i64 0, .int .i64 0] 40)) g3 (.slice xa (rawPt l).ads.length xc) (rawPt l).b (rawPt l).l (rawPt l).s := PB5.out.alloc _
    have hw5 : W.heap.size ≤ w5.heap.size := F45.out.size
    generalize w5.alloc (.cells #[.int .i64 0, .int .i64 0] 40) = V at *
    generalize w5.heap.size = g5 at *
    have hgs : g1 ≠ g2 ∧ g1 ≠ g3 ∧ g2 ≠ g3 ∧ g1 ≠ g5 ∧ g2 ≠ g5 ∧ w.heap.size ≤ g1 ∧ w.heap.size ≤ g2 ∧ g1 < W.heap.size ∧ g2 < W.heap.size := by have := HSZ.out; omega
    have HGS := Lib.hid hgs
    have PV5 := Lib.hid pv5
    have HV := Lib.hid hv
    have V1 := Lib.hid (fv.heap HB1.out (by have := HGS.out; simp; omega))
    have V2 := Lib.hid (fv.heap HB2.out (by have := HGS.out; simp; omega))
    have FVV := Lib.hid fv
    clear hv fv pv5 hw5 hgs
    refine wp_region_held_drew (S := fun z => Frm [g1, g2] V z) (by kernel_rfl) ((Frm.refl [g1, g2] V).drew) (fun hHeld => ?_)
    refine wpAnyH_take (i := 0) (oi := { dst := some 8, op := Op.load 26 (Operand.tmp 4), type := 26, pos := "pointer.go:37", after := #[], guard := none }) rfl (by kernel_rfl) (by kernel_rfl) (by kernel_rfl) (fun _ _ _ h => h) (yieldsIf_ld (by rfl) 26 _ rfl _ rfl (fun z hSw => ((PV5.out.keep hSw (by have := HGS.out; simp; omega)).gets ZL.out).all)) hHeld ?_
    try simp only [Act.put, List.setIfInBounds_toArray, List.set_cons_zero, List.set_cons_succ]
    refine wpAnyH_take (i := 1) (oi := { dst := some 9, op := Op.load 40 (Operand.tmp 5), type := 40, pos := "pointer.go:37", after := #[{ on := 2, ground := Ground.gcOnly Departure.lateStores }], guard := none }) (v := ?_) rfl (by kernel_rfl) (by kernel_rfl) (by kernel_rfl) (fun _ _ _ h => h) (Or.inl ⟨by rfl, ?_⟩) hHeld ?_
    rotate_left
    focus (intro z hSw; have hz := hSw.heap HV.out (by have := HGS.out; simp; omega); have c0 : z.cell? ⟨g5, 0, none⟩ = _ := cell_of_heap hz 0; have c1 : z.cell? ⟨g5, 1, none⟩ = _ := cell_of_heap hz 1; clear hSw hz; go_simp; try with_reducible rfl)
    try simp only [Act.put, List.setIfInBounds_toArray, List.set_cons_zero, List.set_cons_succ]
    refine wpAnyH_ready (rs := [2]) (by kernel_rfl) (by simp) ?_
    refine AllReadyH.cons (o := { dst := none, op := Op.store 26 (Operand.tmp 2) (Operand.tmp 8), type := 0, pos := "pointer.go:37", after := #[{ on := 0, ground := Ground.data }, { on := 0, ground := Ground.phase }, { on := 1, ground := Ground.textOnly Departure.lateStores }], guard := none }) rfl (fun K hK => ?_) AllReadyH.nil
    rw [if_pos (by rfl)]
    refine wp_store_row 26 (.tmp 2) (.tmp 8) rfl g1 (pc (.slice xa (rawPt l).ads.length xc) (rawPt l).b (rawPt l).l (rawPt l).s).toArray rfl rfl 26 _ (show V.drew.heap[g1]? = _ from V1.out) (by rw [i26, pc_size, ZL.out]) (by simp only [pc_size, ZL.out, zs_len]) (pc_one _ _ _) ?_
    refine hK.out _ _ ?_ (fun hNext => ?_)
    · exact hHeld.trans (L' := [g1]) ⟨rfl, rfl, rfl, by simp [World.setRow], fun k hk hn => setRow_other _ _ k _ (by simpa using hn)⟩ (by simp)
    clear hK K hHeld
    have hHeld := hNext
    clear hNext
    try simp only [Act.put, List.setIfInBounds_toArray, List.set_cons_zero, List.set_cons_succ]
    refine wpAnyH_ready (rs := [3]) (by kernel_rfl) (by simp) ?_
    refine AllReadyH.cons (o := { dst := none, op := Op.store 40 (Operand.tmp 3) (Operand.tmp 9), type := 0, pos := "pointer.go:37", after := #[{ on := 1, ground := Ground.data }, { on := 2, ground := Ground.chain }, { on := 0, ground := Ground.phase }, { on := 1, ground := Ground.phase }, { on := 2, ground := Ground.phase }], guard := none }) rfl (fun K hK => ?_) AllReadyH.nil
    have v2 : (V.drew.setRow g1 (pc (.slice xa (rawPt l).ads.length xc) (rawPt l).b (rawPt l).l (rawPt l).s).toArray).heap[g2]? = _ := (setRow_other _ _ g2 _ (fun h => HGS.out.1 h.symm)).trans V2.out
    have k0 := cell_of_heap v2 0
    have k1 := cell_of_heap v2 1
    have z0 := frozen_of_heap v2 0
    have z1 := frozen_of_heap v2 1
    simp only [List.getElem?_toArray, List.getElem?_cons_zero, List.getElem?_cons_succ] at k0 k1
    go_simp
    refine hK.out _ _ ?_ (fun hNext => ?_)
    · exact (hHeld.setCell _ _ (.inl (by simp))).setCell _ _ (.inl (by simp))
    clear hK K hHeld
    have hHeld := hNext
    clear hNext
    try simp only [Act.put, List.setIfInBounds_toArray, List.set_cons_zero, List.set_cons_succ]
    refine wpAnyH_done (by kernel_rfl) ?_ _
    have hf1 : (((V.drew.setRow g1 (pc (.slice xa (rawPt l).ads.length xc) (rawPt l).b (rawPt l).l (rawPt l).s).toArray).setCell ⟨g2, 0, none⟩ (.int .i64 0)).setCell ⟨g2, 1, none⟩ (.int .i64 0)).heap[g1]? = some (.cells (pc (.slice xa (rawPt l).ads.length xc) (rawPt l).b (rawPt l).l (rawPt l).s).toArray 26 (0, 0)) := (heap_setCell_ne _ HGS.out.1).trans ((heap_setCell_ne _ HGS.out.1).trans (setRow_heap V.drew g1 _ _ 26 (0, 0) V1.out))
    have hf2 : (((V.drew.setRow g1 (pc (.slice xa (rawPt l).ads.length xc) (rawPt l).b (rawPt l).l (rawPt l).s).toArray).setCell ⟨g2, 0, none⟩ (.int .i64 0)).setCell ⟨g2, 1, none⟩ (.int .i64 0)).heap[g2]? = some (.cells #[.int .i64 0, .int .i64 0] 40 (0, 0)) := by
      rw [heap_setCell_same _ (heap_setCell_same _ ((setRow_other V.drew g1 g2 (pc (.slice xa (rawPt l).ads.length xc) (rawPt l).b (rawPt l).l (rawPt l).s).toArray (fun h => HGS.out.1 h.symm)).trans V2.out))]
      rfl
    have ff : Frm [] w (((V.drew.setRow g1 (pc (.slice xa (rawPt l).ads.length xc) (rawPt l).b (rawPt l).l (rawPt l).s).toArray).setCell ⟨g2, 0, none⟩ (.int .i64 0)).setCell ⟨g2, 1, none⟩ (.int .i64 0)) := (HF.out.trans FVV.out (fun i hi => by have := HGS.out; have := HSZ.out; simp at hi; omega)).trans hHeld (fun i hi => by have := HGS.out; simp at hi; omega)
    have fvx := Lib.hid hHeld
    have HF1 := Lib.hid hf1
    have HF2 := Lib.hid hf2
    have FFF := Lib.hid ff
    clear hf1 hf2 ff hHeld
    generalize (((V.drew.setRow g1 (pc (.slice xa (rawPt l).ads.length xc) (rawPt l).b (rawPt l).l (rawPt l).s).toArray).setCell ⟨g2, 0, none⟩ (.int .i64 0)).setCell ⟨g2, 1, none⟩ (.int .i64 0)) = Y at *
    go_wp2_with fail
    refine bodyPost_ret (v := .tuple #[pv (.slice xa (rawPt l).ads.length xc) (rawPt l).b (rawPt l).l (rawPt l).s, .agg #[.int .i64 0, .int .i64 0]]) (results_two (p := 2) (q := 3) rfl _ _ rfl rfl (run_loadVar_row Y g1 26 26 _ (0, 0) _ HF1.out Try.underlying26 rfl (by rw [i26]; simp only [pc_size, ZL.out])) (run_loadVar_row Y g2 40 40 _ (0, 0) _ HF2.out Try.underlying40 rfl (by rw [d40]; rfl))) rfl ?_
    have hE : readE l = 0 := by simp [readE, HGD.out]
    have hA : readAt l = 0 := by simp [readAt, HGD.out]
    have hP : readPt l = rawPt l := by simp [readPt, HGD.out]
    exact ⟨_, by rw [hE, hA], by rw [hP]; exact ⟨xa, xc, xsp, rfl, SXV.out.keep fvx.out (fun i hi => by have := NX5.out i hi; have := HGS.out; simp; omega), ZL.out⟩, FFF.out, fun i hi => by rw [ptBlk_pv] at hi; have := NX5.out i hi; have := HSZ.out; omega⟩
  | false =>
    have HGD := Lib.hid hg
    have hF := faultOf_gave 59 #[.pointer (some ⟨w.heap.size, 0, none⟩), .pointer (some ⟨g3, 0, none⟩)] (readE l) (readAt l) W (fun w => enter_of Try.func59 (by kernel_rfl) (by kernel_rfl) _ w) (fun w1 f1 => (HST.out w1 f1).mono (by
      rintro e w' (⟨hb, rfl, f2⟩ | ⟨hb, _⟩)
      · exact ⟨rfl, f2⟩
      · rw [hg] at hb; cases hb))
    have HFF := Lib.hid hF
    clear hF hg
    go_upto_region 3 with (go_at_call 51; refine HFF.out.mono ?_; rintro r w5 ⟨rfl, f5⟩)
    have F45 := Lib.hid (f5.mono (L' := [g3, W.heap.size]) (by simp))
    have PB5 := Lib.hid (show PB w5 g3 (.slice none 0 0) 0 0 zs from f5.heap HB3.out (by simp))
    have hv : (w5.alloc (.cells #[.int .i64 (readE l), .int .i64 (readAt l)] 40)).heap[w5.heap.size]? = some (.cells #[.int .i64 (readE l), .int .i64 (readAt l)] 40 (0, 0)) := heap_alloc_new _ _
    have fv : Frm [g3, W.heap.size] W (w5.alloc (.cells #[.int .i64 (readE l), .int .i64 (readAt l)] 40)) := F45.out.alloc _
    have pv5 : PB (w5.alloc (.cells #[.int .i64 (readE l), .int .i64 (readAt l)] 40)) g3 (.slice none 0 0) 0 0 zs := PB5.out.alloc _
    have hw5 : W.heap.size ≤ w5.heap.size := F45.out.size
    generalize w5.alloc (.cells #[.int .i64 (readE l), .int .i64 (readAt l)] 40) = V at *
    generalize w5.heap.size = g5 at *
    have hgs : g1 ≠ g2 ∧ g1 ≠ g3 ∧ g2 ≠ g3 ∧ g1 ≠ g5 ∧ g2 ≠ g5 ∧ w.heap.size ≤ g1 ∧ w.heap.size ≤ g2 ∧ g1 < W.heap.size ∧ g2 < W.heap.size := by have := HSZ.out; omega
    have HGS := Lib.hid hgs
    have PV5 := Lib.hid pv5
    have HV := Lib.hid hv
    have V1 := Lib.hid (fv.heap HB1.out (by have := HGS.out; simp; omega))
    have V2 := Lib.hid (fv.heap HB2.out (by have := HGS.out; simp; omega))
    have FVV := Lib.hid fv
    clear hv fv pv5 hw5 hgs
    refine wp_region_held_drew (S := fun z => Frm [g1, g2] V z) (by kernel_rfl) ((Frm.refl [g1, g2] V).drew) (fun hHeld => ?_)
    refine wpAnyH_take (i := 0) (oi := { dst := some 8, op := Op.load 26 (Operand.tmp 4), type := 26, pos := "pointer.go:37", after := #[], guard := none }) rfl (by kernel_rfl) (by kernel_rfl) (by kernel_rfl) (fun _ _ _ h => h) (yieldsIf_ld (by rfl) 26 _ rfl _ rfl (fun z hSw => ((PV5.out.keep hSw (by have := HGS.out; simp; omega)).gets zs_len).all)) hHeld ?_
    try simp only [Act.put, List.setIfInBounds_toArray, List.set_cons_zero, List.set_cons_succ]
    refine wpAnyH_take (i := 1) (oi := { dst := some 9, op := Op.load 40 (Operand.tmp 5), type := 40, pos := "pointer.go:37", after := #[{ on := 2, ground := Ground.gcOnly Departure.lateStores }], guard := none }) (v := ?_) rfl (by kernel_rfl) (by kernel_rfl) (by kernel_rfl) (fun _ _ _ h => h) (Or.inl ⟨by rfl, ?_⟩) hHeld ?_
    rotate_left
    focus (intro z hSw; have hz := hSw.heap HV.out (by have := HGS.out; simp; omega); have c0 : z.cell? ⟨g5, 0, none⟩ = _ := cell_of_heap hz 0; have c1 : z.cell? ⟨g5, 1, none⟩ = _ := cell_of_heap hz 1; clear hSw hz; go_simp; try with_reducible rfl)
    try simp only [Act.put, List.setIfInBounds_toArray, List.set_cons_zero, List.set_cons_succ]
    refine wpAnyH_ready (rs := [2]) (by kernel_rfl) (by simp) ?_
    refine AllReadyH.cons (o := { dst := none, op := Op.store 26 (Operand.tmp 2) (Operand.tmp 8), type := 0, pos := "pointer.go:37", after := #[{ on := 0, ground := Ground.data }, { on := 0, ground := Ground.phase }, { on := 1, ground := Ground.textOnly Departure.lateStores }], guard := none }) rfl (fun K hK => ?_) AllReadyH.nil
    rw [if_pos (by rfl)]
    refine wp_store_row 26 (.tmp 2) (.tmp 8) rfl g1 (pc (.slice none 0 0) 0 0 zs).toArray rfl rfl 26 _ (show V.drew.heap[g1]? = _ from V1.out) (by rw [i26, pc_size, zs_len]) (by simp only [pc_size]) (pc_one _ _ _) ?_
    refine hK.out _ _ ?_ (fun hNext => ?_)
    · exact hHeld.trans (L' := [g1]) ⟨rfl, rfl, rfl, by simp [World.setRow], fun k hk hn => setRow_other _ _ k _ (by simpa using hn)⟩ (by simp)
    clear hK K hHeld
    have hHeld := hNext
    clear hNext
    try simp only [Act.put, List.setIfInBounds_toArray, List.set_cons_zero, List.set_cons_succ]
    refine wpAnyH_ready (rs := [3]) (by kernel_rfl) (by simp) ?_
    refine AllReadyH.cons (o := { dst := none, op := Op.store 40 (Operand.tmp 3) (Operand.tmp 9), type := 0, pos := "pointer.go:37", after := #[{ on := 1, ground := Ground.data }, { on := 2, ground := Ground.chain }, { on := 0, ground := Ground.phase }, { on := 1, ground := Ground.phase }, { on := 2, ground := Ground.phase }], guard := none }) rfl (fun K hK => ?_) AllReadyH.nil
    have v2 : (V.drew.setRow g1 (pc (.slice none 0 0) 0 0 zs).toArray).heap[g2]? = _ := (setRow_other _ _ g2 _ (fun h => HGS.out.1 h.symm)).trans V2.out
    have k0 := cell_of_heap v2 0
    have k1 := cell_of_heap v2 1
    have z0 := frozen_of_heap v2 0
    have z1 := frozen_of_heap v2 1
    simp only [List.getElem?_toArray, List.getElem?_cons_zero, List.getElem?_cons_succ] at k0 k1
    go_simp
    refine hK.out _ _ ?_ (fun hNext => ?_)
    · exact (hHeld.setCell _ _ (.inl (by simp))).setCell _ _ (.inl (by simp))
    clear hK K hHeld
    have hHeld := hNext
    clear hNext
    try simp only [Act.put, List.setIfInBounds_toArray, List.set_cons_zero, List.set_cons_succ]
    refine wpAnyH_done (by kernel_rfl) ?_ _
    have hf1 : (((V.drew.setRow g1 (pc (.slice none 0 0) 0 0 zs).toArray).setCell ⟨g2, 0, none⟩ (.int .i64 (readE l))).setCell ⟨g2, 1, none⟩ (.int .i64 (readAt l))).heap[g1]? = some (.cells (pc (.slice none 0 0) 0 0 zs).toArray 26 (0, 0)) := (heap_setCell_ne _ HGS.out.1).trans ((heap_setCell_ne _ HGS.out.1).trans (setRow_heap V.drew g1 _ _ 26 (0, 0) V1.out))
    have hf2 : (((V.drew.setRow g1 (pc (.slice none 0 0) 0 0 zs).toArray).setCell ⟨g2, 0, none⟩ (.int .i64 (readE l))).setCell ⟨g2, 1, none⟩ (.int .i64 (readAt l))).heap[g2]? = some (.cells #[.int .i64 (readE l), .int .i64 (readAt l)] 40 (0, 0)) := by
      rw [heap_setCell_same _ (heap_setCell_same _ ((setRow_other V.drew g1 g2 (pc (.slice none 0 0) 0 0 zs).toArray (fun h => HGS.out.1 h.symm)).trans V2.out))]
      rfl
    have ff : Frm [] w (((V.drew.setRow g1 (pc (.slice none 0 0) 0 0 zs).toArray).setCell ⟨g2, 0, none⟩ (.int .i64 (readE l))).setCell ⟨g2, 1, none⟩ (.int .i64 (readAt l))) := (HF.out.trans FVV.out (fun i hi => by have := HGS.out; have := HSZ.out; simp at hi; omega)).trans hHeld (fun i hi => by have := HGS.out; simp at hi; omega)
    have fvx := Lib.hid hHeld
    have HF1 := Lib.hid hf1
    have HF2 := Lib.hid hf2
    have FFF := Lib.hid ff
    clear hf1 hf2 ff hHeld
    generalize (((V.drew.setRow g1 (pc (.slice none 0 0) 0 0 zs).toArray).setCell ⟨g2, 0, none⟩ (.int .i64 (readE l))).setCell ⟨g2, 1, none⟩ (.int .i64 (readAt l))) = Y at *
    go_wp2_with fail
    refine bodyPost_ret (v := .tuple #[pv (.slice none 0 0) 0 0 zs, .agg #[.int .i64 (readE l), .int .i64 (readAt l)]]) (results_two (p := 2) (q := 3) rfl _ _ rfl rfl (run_loadVar_row Y g1 26 26 _ (0, 0) _ HF1.out Try.underlying26 rfl (by rw [i26]; simp only [pc_size, zs_len])) (run_loadVar_row Y g2 40 40 _ (0, 0) _ HF2.out Try.underlying40 rfl (by rw [d40]; rfl))) rfl ?_
    have hP : readPt l = zeroPt := by simp [readPt, HGD.out]
    exact ⟨_, rfl, by rw [hP]; exact ptv_zero _, FFF.out, fun i hi => by rw [ptBlk_pv] at hi; simp [blk] at hi⟩
theorem Read_any (v : Value) (l sp : List UInt8) (w : World) (hS : SlB w v l sp) (hl : l.length ≤ 1000000) : Calls Try.prog 29 #[v] w (ReadP l w) :=
  (ReadN_any v l sp w hS hl).mono fun e w' ⟨x, h1, h2, h3, _⟩ => ⟨x, h1, h2, h3⟩
end Go.Proofs.Ytjjcjocomanohaa
