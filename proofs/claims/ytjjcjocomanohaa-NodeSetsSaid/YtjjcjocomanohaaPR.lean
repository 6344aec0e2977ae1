/-
  Contracts of sample, fails, awake. No conditions but those that each theorem names.
-/
import Derived.Test.YtjjcjocomanohaaPO
namespace Go.Proofs.Ytjjcjocomanohaa
open Go.RowKit
set_option linter.unusedVariables false
set_option linter.unusedSimpArgs false
set_option maxRecDepth 100000

theorem bld012 (a : Option Addr) (n c : Nat) (x y : Int) (W : World) : (Instr.build 26 #[(0, .slice a n c), (1, .int .i64 x), (2, .int .i64 y)]).run Try.prog W = .ok (pv (.slice a n c) x y zs) W := by kernel_rfl
theorem exec_bld012 {o : Oper} {ac : Act} {a : Option Addr} {n c : Nat} {x y : Int} (r s t : Operand) (hop : o.op = Op.build 26 #[(0, r), (1, s), (2, t)]) (h0 : ac.eval r = .slice a n c) (h1 : ac.eval s = .int .i64 x) (h2 : ac.eval t = .int .i64 y) (W : World) : (execOp ac.eval o).run Try.prog W = .ok (.value (pv (.slice a n c) x y zs)) W := by
  have hb := bld012 a n c x y W
  have hm : (#[(0, r), (1, s), (2, t)].map fun ((i, x) : Nat × Operand) => (i, ac.eval x)) = #[(0, .slice a n c), (1, .int .i64 x), (2, .int .i64 y)] := by simp [h0, h1, h2]
  simp only [execOp, hop, hm, Sem.run_bind, Sem.run_pure, hb, Result.andThen_ok]
/-- The chapter's pointer. -/
def samplePt : Pt := ⟨[(1, 5), (0, 300)], 7, 2, zs⟩
def Samples (w : World) (e : Ending) (w' : World) : Prop := ∃ g, e = .returned (pv (.slice (some ⟨g, 0, none⟩) 2 2) 7 2 zs) ∧ OwnA 46 w' (.slice (some ⟨g, 0, none⟩) 2 2) [(1, 5), (0, 300)] [] ∧ Frm [] w w' ∧ w.heap.size ≤ g
set_option maxHeartbeats 4000000 in
theorem sample_any (w : World) : Calls Try.prog 32 #[] w (Samples w) := by
  go_enter Try.func32, Try.ntmps32
  go_upto_region 1 with ((with_reducible (show wpList _ _ _ (Oper.mk _ (Op.alloc 26) _ _ _ _ :: _) _ _)); refine wpList_val rfl (exec_alloc26z rfl _) ?_)
  have h0 := heap_alloc_new w (.cells (pc (.slice none 0 0) 0 0 zs).toArray 26)
  have f0 : Frm [] w (w.alloc (.cells (pc (.slice none 0 0) 0 0 zs).toArray 26)) := (Frm.refl [] w).alloc _
  have hlt : w.heap.size < (w.alloc (.cells (pc (.slice none 0 0) 0 0 zs).toArray 26)).heap.size := by simp
  generalize w.alloc (.cells (pc (.slice none 0 0) 0 0 zs).toArray 26) = W at *
  have H0 := Lib.hid h0
  have F0 := Lib.hid f0
  clear h0 f0
  have oA : OwnA 46 (W.alloc (.cells #[.int .i64 1, .int .i64 5, .int .i64 0, .int .i64 300] 46)) (.slice (some ⟨W.heap.size, 0, none⟩) 2 2) [(1, 5), (0, 300)] [] := OwnA.of_heap (by rw [heap_alloc_new]; rfl) rfl rfl (by simp [maxLen])
  have hA := (Frm.refl [] W).alloc (.cells #[.int .i64 1, .int .i64 5, .int .i64 0, .int .i64 300] 46)
  have OA := Lib.hid oA
  have HA := Lib.hid hA
  clear oA hA
  go_wp2_with (first | ((with_reducible (show wpList _ _ _ (Oper.mk _ (Op.build 26 _) _ _ _ _ :: _) _ _)); refine wpList_val rfl (exec_bld012 (.tmp 3) (.const (.int .i64 7)) (.const (.int .i64 2)) rfl rfl rfl rfl _) ?_) | ((with_reducible (show wpList _ _ _ (Oper.mk _ (Op.store 26 _ _) _ _ _ _ :: _) _ _)); refine wpList_store_row rfl 26 (.tmp 0) (.tmp 4) rfl w.heap.size (pc (.slice (some ⟨W.heap.size, 0, none⟩) 2 2) 7 2 zs).toArray rfl rfl 26 _ (HA.out.heap H0.out (by simp)) (by rw [i26]; simp only [pc_size, zs_len]) (by simp only [pc_size]) (pc_one _ _ _) ?_))
  have hf := setRow_heap (W.alloc (.cells #[.int .i64 1, .int .i64 5, .int .i64 0, .int .i64 300] 46)) w.heap.size _ (pc (.slice (some ⟨W.heap.size, 0, none⟩) 2 2) 7 2 zs).toArray 26 (0, 0) (HA.out.heap H0.out (by simp))
  have ff : Frm [w.heap.size] (W.alloc (.cells #[.int .i64 1, .int .i64 5, .int .i64 0, .int .i64 300] 46)) ((W.alloc (.cells #[.int .i64 1, .int .i64 5, .int .i64 0, .int .i64 300] 46)).setRow w.heap.size (pc (.slice (some ⟨W.heap.size, 0, none⟩) 2 2) 7 2 zs).toArray) := ⟨rfl, rfl, rfl, by simp [World.setRow], fun k hk hn => setRow_other _ _ k _ (by simpa using hn)⟩
  refine bodyPost_ret (v := pv (.slice (some ⟨W.heap.size, 0, none⟩) 2 2) 7 2 zs) (results_cell_row (p := 0) rfl _ _ w.heap.size 26 _ (0, 0) _ rfl hf Try.underlying26 rfl (by rw [i26]; simp only [pc_size, zs_len])) rfl ⟨W.heap.size, rfl, OA.out.keep ff (fun i hi => by simp [blk] at hi; simp; omega), (F0.out.trans HA.out (by simp)).trans ff (fun i hi => by simp at hi; subst hi; exact .inr (Nat.le_refl _)), Nat.le_of_lt hlt⟩
theorem OwnA.ptv {w : World} {g n cap : Nat} {l sp : List Ad} {b lv : Int} {s : List UInt8} (h : OwnA 46 w (.slice (some ⟨g, 0, none⟩) n cap) l sp) (hs : s.length = 32) : PtV w (pv (.slice (some ⟨g, 0, none⟩) n cap) b lv s) ⟨l, b, lv, s⟩ := by
  obtain ⟨h1, h2, h3⟩ := h.caps
  subst h1
  exact ⟨_, cap, sp, rfl, h.sl, hs⟩
theorem alloc40 (W : World) : (Instr.alloc 40 true (.tuple #[])).run Try.prog W = .ok (.pointer (some ⟨W.heap.size, 0, none⟩)) (W.alloc (.cells #[.int .i64 0, .int .i64 0] 40)) := by kernel_rfl
theorem exec_alloc40 {o : Oper} {a : Act} (hop : o.op = Op.alloc 40) (W : World) : (execOp a.eval o).run Try.prog W = .ok (.value (.pointer (some ⟨W.heap.size, 0, none⟩))) (W.alloc (.cells #[.int .i64 0, .int .i64 0] 40)) := by
  have h := alloc40 W
  generalize W.alloc (.cells #[.int .i64 0, .int .i64 0] 40) = W2 at *
  simp only [execOp, hop, Sem.run_bind, Sem.run_pure, h, Result.andThen_ok]
theorem setRow_alloc_two (w : World) (A A' : Array Value) (t : TypeId) (o : Obj) : ((w.alloc (.cells A t)).alloc o).setRow w.heap.size A' = (w.alloc (.cells A' t)).alloc o := by
  simp only [World.setRow, World.alloc]
  congr 1
  apply Array.ext_getElem?
  intro i
  rw [Array.getElem?_modify]
  by_cases h : w.heap.size = i
  · subst h
    simp [Array.getElem?_push]
  · have h' : ¬ i = w.heap.size := fun e => h e.symm
    simp [h, h', Array.getElem?_push]
/-- What a call of Read tells, laid into two variables. -/
theorem wpList_lay2 {ops : Array Oper} {rest : List Oper} {o1 o2 o3 o4 : Oper} {a : Act} {W : World} {Q : Exit → Act → World → Prop} (g1 : o1.guard = none) (g2 : o2.guard = none) (g3 : o3.guard = none) (g4 : o4.guard = none)
    (h1 : o1.op = .alloc 26) (h2 : o2.op = .alloc 40) (p q x y : Operand) (h3 : o3.op = .store 26 p x) (h4 : o4.op = .store 40 q y) {v : Option Addr} {n cap : Nat} {b l : Int} {s : List UInt8} {e f : Int} (hs : s.length = 32)
    (e1 : ((a.put o1.dst (.pointer (some ⟨W.heap.size, 0, none⟩))).put o2.dst (.pointer (some ⟨W.heap.size + 1, 0, none⟩))).eval p = .pointer (some ⟨W.heap.size, 0, none⟩))
    (e2 : ((a.put o1.dst (.pointer (some ⟨W.heap.size, 0, none⟩))).put o2.dst (.pointer (some ⟨W.heap.size + 1, 0, none⟩))).eval x = pv (.slice v n cap) b l s)
    (e3 : (((a.put o1.dst (.pointer (some ⟨W.heap.size, 0, none⟩))).put o2.dst (.pointer (some ⟨W.heap.size + 1, 0, none⟩))).put o3.dst undef).eval q = .pointer (some ⟨W.heap.size + 1, 0, none⟩))
    (e4 : (((a.put o1.dst (.pointer (some ⟨W.heap.size, 0, none⟩))).put o2.dst (.pointer (some ⟨W.heap.size + 1, 0, none⟩))).put o3.dst undef).eval y = .agg #[.int .i64 e, .int .i64 f])
    (k : wpList Try.prog ops Q rest ((((a.put o1.dst (.pointer (some ⟨W.heap.size, 0, none⟩))).put o2.dst (.pointer (some ⟨W.heap.size + 1, 0, none⟩))).put o3.dst undef).put o4.dst undef) ((W.alloc (.cells (pc (.slice v n cap) b l s).toArray 26)).alloc (.cells #[.int .i64 e, .int .i64 f] 40))) :
    wpList Try.prog ops Q (o1 :: o2 :: o3 :: o4 :: rest) a W := by
  refine wpList_val g1 (exec_alloc26z h1 _) ?_
  refine wpList_val g2 (exec_alloc40 h2 _) ?_
  have hsz : (W.alloc (.cells (pc (.slice none 0 0) 0 0 zs).toArray 26)).heap.size = W.heap.size + 1 := by simp
  rw [hsz]
  refine wpList_store_row g3 26 p x h3 W.heap.size (pc (.slice v n cap) b l s).toArray e1 e2 26 _ (heap_alloc_lt (heap_alloc_new _ _)) (by rw [i26]; simp only [pc_size, hs]) (by simp only [pc_size, hs, zs_len]) (pc_one _ _ _) ?_
  rw [setRow_alloc_two]
  have hsz2 : (W.alloc (.cells (pc (.slice v n cap) b l s).toArray 26)).heap.size = W.heap.size + 1 := by simp
  refine wpList_store_row g4 40 q y h4 (W.heap.size + 1) #[.int .i64 e, .int .i64 f] e3 e4 40 #[.int .i64 0, .int .i64 0] (heap_alloc_at hsz2.symm) (by rw [d40]; rfl) (by simp) (by simp [Value.oneCell']) ?_
  rw [← hsz2, World.setRow_alloc_new]
  rw [hsz2]
  exact k
theorem wpList_val_g {P : Program} {w w' : World} {ops : Array Oper} {rest : List Oper} {o : Oper} {a : Act} {Q : Exit → Act → World → Prop} {v : Value} (hw : Region.wanted o (yielded ops a.tmps) = true)
    (h : (execOp a.eval o).run P w = .ok (.value v) w') (k : wpList P ops Q rest (a.put o.dst v) w') : wpList P ops Q (o :: rest) a w :=
  wpList_step fun K hK => by
    rw [if_pos hw]
    unfold Oper.wp
    rw [h]
    exact hK _ _ k
theorem bld0 (W : World) : (Instr.build 26 #[]).run Try.prog W = .ok (pv (.slice none 0 0) 0 0 zs) W := by kernel_rfl
theorem exec_bld0 {o : Oper} {a : Act} (hop : o.op = Op.build 26 #[]) (W : World) : (execOp a.eval o).run Try.prog W = .ok (.value (pv (.slice none 0 0) 0 0 zs)) W := by
  have hb := bld0 W
  simp only [execOp, hop, List.map_toArray, List.map_nil, Sem.run_bind, Sem.run_pure, hb, Result.andThen_ok]
/-- Which bytes are no pointer, just so. -/
def failB (l : List UInt8) (e a : Int) : Bool := (readE l == e && readAt l == a) && same (readPt l) zeroPt
set_option maxHeartbeats 8000000 in
theorem fails_any (v : Value) (l sp : List UInt8) (e f : Int) (w : World) (hS : SlB w v l sp) (hl : l.length ≤ 1000000) (hz : (readPt l).ads.length ≤ 1000000) : Calls Try.prog 33 #[v, .agg #[.int .i64 e, .int .i64 f]] w fun r w' => r = .returned (.bool (failB l e f)) ∧ Frm [] w w' := by
  obtain ⟨a, cap, rfl, _, _⟩ := hS.form
  have hR := Lib.hid (fun W (f : Frm [] w W) => Read_any (.slice a l.length cap) l sp W (hS.keep f (by simp)) hl)
  have HZ := Lib.hid hz
  clear hS hl hz
  have f0 : Frm [] w (w.alloc (.cells #[.int .i64 e, .int .i64 f] 40)) := (Frm.refl [] w).alloc _
  have h0 := heap_alloc_new w (.cells #[.int .i64 e, .int .i64 f] 40)
  go_enter Try.func33, Try.ntmps33
  go_upto_region 1 with (fail)
  generalize w.alloc (.cells #[.int .i64 e, .int .i64 f] 40) = W at *
  have F0 := Lib.hid f0
  have H0 := Lib.hid h0
  clear f0 h0
  go_upto_region 2 with (first | (go_at_call 29; refine (hR.out _ F0.out).mono ?_; rintro r w1 ⟨x, rfl, hx, f1⟩; obtain ⟨xa, xc, xsp, rfl, sx, zx⟩ := hx) | (refine wpList_lay2 rfl rfl rfl rfl rfl rfl (.tmp 5) (.tmp 6) (.tmp 10) (.tmp 11) rfl rfl zx rfl rfl rfl rfl ?_))
  have b0 := (PB.new w1 (.slice xa (readPt l).ads.length xc) (readPt l).b (readPt l).l (readPt l).s).alloc (.cells #[.int .i64 (readE l), .int .i64 (readAt l)] 40)
  have b1 : ((w1.alloc (.cells (pc (.slice xa (readPt l).ads.length xc) (readPt l).b (readPt l).l (readPt l).s).toArray 26)).alloc (.cells #[.int .i64 (readE l), .int .i64 (readAt l)] 40)).heap[w1.heap.size + 1]? = some (.cells #[.int .i64 (readE l), .int .i64 (readAt l)] 40 (0, 0)) := heap_alloc_at (by simp)
  have fW : Frm [] w1 ((w1.alloc (.cells (pc (.slice xa (readPt l).ads.length xc) (readPt l).b (readPt l).l (readPt l).s).toArray 26)).alloc (.cells #[.int .i64 (readE l), .int .i64 (readAt l)] 40)) := ((Frm.refl [] w1).alloc _).alloc _
  generalize (w1.alloc (.cells (pc (.slice xa (readPt l).ads.length xc) (readPt l).b (readPt l).l (readPt l).s).toArray 26)).alloc (.cells #[.int .i64 (readE l), .int .i64 (readAt l)] 40) = V at *
  have G0 := Lib.hid (b0.gets zx)
  have c0 : V.cell? ⟨w1.heap.size + 1, 0, none⟩ = some (.int .i64 (readE l)) := by rw [cell_of_heap b1]; rfl
  have c1 : V.cell? ⟨w1.heap.size + 1, 1, none⟩ = some (.int .i64 (readAt l)) := by rw [cell_of_heap b1]; rfl
  have FV := Lib.hid (F0.out.trans (f1.trans fW (by simp)) (by simp))
  have hk := FV.out.size
  have h0' := (f1.trans fW (by simp)).heap H0.out (by simp)
  have d0 : V.cell? ⟨w.heap.size, 0, none⟩ = some (.int .i64 e) := by rw [cell_of_heap h0']; rfl
  have d1 : V.cell? ⟨w.heap.size, 1, none⟩ = some (.int .i64 f) := by rw [cell_of_heap h0']; rfl
  have hC := Lib.hid (fun W (f : Frm [] V W) => SamePointer_any (pv (.slice xa (readPt l).ads.length xc) (readPt l).b (readPt l).l (readPt l).s) (pv (.slice none 0 0) 0 0 zs) (readPt l) zeroPt W ⟨xa, xc, xsp, rfl, (sx.keep fW (by simp)).keep f (by simp), zx⟩ (ptv_zero W) HZ.out)
  clear b0 b1 fW f1 sx h0' hk
  have hfb : failB l e f = ((readE l == e && readAt l == f) && same (readPt l) zeroPt) := rfl
  have HFB := Lib.hid hfb
  clear hfb
  generalize readE l = re at *
  generalize readAt l = ra at *
  generalize hsm : same (readPt l) zeroPt = sm at *
  generalize (readPt l).ads.length = n at *
  by_cases e1 : re = e
  · by_cases e2 : ra = f
    · subst e1
      subst e2
      go_wp2_with (first | ((with_reducible (show wpList _ _ _ (Oper.mk _ (Op.load 26 _) _ _ _ _ :: _) _ _)); refine wpList_load_g (by rfl) 26 _ rfl _ rfl G0.out.all ?_) | ((with_reducible (show wpList _ _ _ (Oper.mk _ (Op.build 26 _) _ _ _ _ :: _) _ _)); refine wpList_val_g (by rfl) (exec_bld0 rfl _) ?_) | (go_at_call 27; refine (hC.out _ (Frm.refl [] V)).mono ?_; rintro r w3 ⟨rfl, f3⟩))
      go_ret
      exact ⟨by rw [HFB.out]; simp, FV.out.trans f3 (by simp)⟩
    · have e2' : (ra == f) = false := by simpa using e2
      subst e1
      clear e2
      go_wp2_with fail
      go_ret
      exact ⟨by rw [HFB.out]; simp [e2'], FV.out⟩
  · have e1' : (re == e) = false := by simpa using e1
    clear e1
    go_wp2_with fail
    go_ret
    exact ⟨by rw [HFB.out]; simp [e1'], FV.out⟩
end Go.Proofs.Ytjjcjocomanohaa
