/-
  Contracts of root, of begin, of errno. No conditions but those that each theorem names.
-/
import Derived.Test.YtjdejhgfkjeeiaaGreatDoorUV
import Derived.Test.YtjdejhgfkjeeiaaGreatDoorPY
namespace Go.Proofs.YtjdejhgfkjeeiaaGreatDoor
open Go.RowKit
set_option linter.unusedVariables false
set_option linter.unusedSimpArgs false
set_option maxRecDepth 100000

open Pt (Pt may enc readPt readE readAt zeroPt pc pv PtV PtO SlA OwnA exec_alloc26z pc_size pc_one zs zs_len d40)
theorem alloc80 (W : World) : (Instr.alloc 101 true (.tuple #[])).run Tryz.prog W = .ok (.pointer (some ⟨W.heap.size, 0, none⟩)) (W.alloc (.cells #[.int .i64 0, .int .i64 0] 101)) := by kernel_rfl
theorem exec_alloc80 {o : Oper} {a : Act} (hop : o.op = Op.alloc 101) (W : World) : (execOp a.eval o).run Tryz.prog W = .ok (.value (.pointer (some ⟨W.heap.size, 0, none⟩))) (W.alloc (.cells #[.int .i64 0, .int .i64 0] 101)) := by
  have h := alloc80 W
  generalize W.alloc (.cells #[.int .i64 0, .int .i64 0] 101) = W2 at *
  simp only [execOp, hop, Sem.run_bind, Sem.run_pure, h, Result.andThen_ok]
theorem setRow_alloc_two (w : World) (A A' : Array Value) (t : TypeId) (o : Obj) : ((w.alloc (.cells A t)).alloc o).setRow w.heap.size A' = (w.alloc (.cells A' t)).alloc o := by
  simp only [World.setRow, World.alloc]
  congr 1
  apply Array.ext_getElem?
  intro i
  rw [Array.getElem?_modify]
  by_cases h : w.heap.size = i
  · subst h
    simp [Array.getElem?_push]
  · have h' : ¬ i = w.heap.size := fun e => h e.symm
    simp [h, h', Array.getElem?_push]
/-- What a call of Read tells, laid into two variables. -/
theorem wpList_lay2 {ops : Array Oper} {rest : List Oper} {o1 o2 o3 o4 : Oper} {a : Act} {W : World} {Q : Exit → Act → World → Prop} (g1 : o1.guard = none) (g2 : o2.guard = none) (g3 : o3.guard = none) (g4 : o4.guard = none)
    (h1 : o1.op = .alloc 26) (h2 : o2.op = .alloc 101) (p q x y : Operand) (h3 : o3.op = .store 26 p x) (h4 : o4.op = .store 101 q y) {v : Option Addr} {n cap : Nat} {b l : Int} {s : List UInt8} {e f : Int} (hs : s.length = 32)
    (e1 : ((a.put o1.dst (.pointer (some ⟨W.heap.size, 0, none⟩))).put o2.dst (.pointer (some ⟨W.heap.size + 1, 0, none⟩))).eval p = .pointer (some ⟨W.heap.size, 0, none⟩))
    (e2 : ((a.put o1.dst (.pointer (some ⟨W.heap.size, 0, none⟩))).put o2.dst (.pointer (some ⟨W.heap.size + 1, 0, none⟩))).eval x = pv (.slice v n cap) b l s)
    (e3 : (((a.put o1.dst (.pointer (some ⟨W.heap.size, 0, none⟩))).put o2.dst (.pointer (some ⟨W.heap.size + 1, 0, none⟩))).put o3.dst undef).eval q = .pointer (some ⟨W.heap.size + 1, 0, none⟩))
    (e4 : (((a.put o1.dst (.pointer (some ⟨W.heap.size, 0, none⟩))).put o2.dst (.pointer (some ⟨W.heap.size + 1, 0, none⟩))).put o3.dst undef).eval y = .agg #[.int .i64 e, .int .i64 f])
    (k : wpList Tryz.prog ops Q rest ((((a.put o1.dst (.pointer (some ⟨W.heap.size, 0, none⟩))).put o2.dst (.pointer (some ⟨W.heap.size + 1, 0, none⟩))).put o3.dst undef).put o4.dst undef) ((W.alloc (.cells (pc (.slice v n cap) b l s).toArray 26)).alloc (.cells #[.int .i64 e, .int .i64 f] 101))) :
    wpList Tryz.prog ops Q (o1 :: o2 :: o3 :: o4 :: rest) a W := by
  refine wpList_val g1 (exec_alloc26z h1 _) ?_
  refine wpList_val g2 (exec_alloc80 h2 _) ?_
  have hsz : (W.alloc (.cells (pc (.slice none 0 0) 0 0 zs).toArray 26)).heap.size = W.heap.size + 1 := by simp
  rw [hsz]
  refine wpList_store_row g3 26 p x h3 W.heap.size (pc (.slice v n cap) b l s).toArray e1 e2 26 _ (heap_alloc_lt (heap_alloc_new _ _)) (by rw [i26]; simp only [pc_size, hs]) (by simp only [pc_size, hs, zs_len]) (pc_one _ _ _) ?_
  rw [setRow_alloc_two]
  have hsz2 : (W.alloc (.cells (pc (.slice v n cap) b l s).toArray 26)).heap.size = W.heap.size + 1 := by simp
  refine wpList_store_row g4 101 q y h4 (W.heap.size + 1) #[.int .i64 e, .int .i64 f] e3 e4 101 #[.int .i64 0, .int .i64 0] (heap_alloc_at hsz2.symm) (by rw [d40]; rfl) (by simp) (by simp [Value.oneCell']) ?_
  rw [← hsz2, World.setRow_alloc_new]
  rw [hsz2]
  exact k
section
variable {w0 w w' : World} {g : Nat} {n : Int} {S : List UInt8} {br : Nat} {rv : Value} {rsp : List UInt8} {st : Nat × Int × Int} {v : Value} {u : Ub} {E : Value} {L : List Addr} {p : Nat}
/-- What the step of the root hands on. -/
def RootP (w0 : World) (g : Nat) (n : Int) (S : List UInt8) (br : Nat) (rv : Value) (rsp : List UInt8) (u : Ub) (m : List UInt8) (L : List Addr) (r : Ending) (w' : World) : Prop := ∃ v', Hands w0 g n S br rv rsp (95, 0, 0) v' { u with root := readPt m } L r w'
set_option maxHeartbeats 2000000 in
theorem root_any {s0 s1 s2 : Addr} (hs : Sens w0 s0 s1 s2) (h : RG w0 w g n S br rv rsp (48, 0, 0) v u E L) : Calls Tryz.prog 70 #[.pointer (some ⟨g, 0, none⟩)] w (RootP w0 g n S br rv rsp u (seg S 48 47) (addL (readE (seg S 48 47) == 0) L s2)) := by
  have hl := h.len
  have cf := h.fld
  have hr := RRawR_any br rv (S.take 224) rsp (48, 0, 0) ((47 : Nat) : Int) w h.rd (by simp; omega) (by simp; omega)
  rw [raw_at (by simp [hl]), seg224 hl (by omega)] at hr
  have hsg : (seg S 48 47).length = 47 := seg_length (by omega)
  have HR := Lib.hid hr
  have H := Lib.hid h
  have HSE := Lib.hid hs
  clear h hl hr hs
  generalize seg S 48 47 = m at *
  have HSG := Lib.hid hsg
  clear hsg
  obtain ⟨q, hq⟩ : ∃ q, (readE m == 0) = q := ⟨_, rfl⟩
  rw [hq]
  go_enter Tryz.func70, Tryz.ntmps70
  go_upto_region 2 with (first
    | (go_at_call 112; refine HR.out.mono ?_; rintro r w1 ⟨a1, c1, s1', rfl, o1, n1, f1⟩; have H1 := Lib.hid (H.out.read f1); have HP := Lib.hid (Pt.ReadO_any _ m s1' w1 o1.sl (by rw [HSG.out]; decide)); clear o1 n1 f1)
    | (go_at_call 114; refine HP.out.mono ?_; rintro r w2 ⟨x, rfl, ⟨xa, xc, xs, rfl, hxs, h32⟩, f2, hn⟩; have F2 := Lib.hid f2; have HXS := Lib.hid hxs; have HN := Lib.hid hn; clear hxs hn)
    | ((with_reducible (show wpList _ _ _ (Oper.mk _ (Op.alloc 26) _ _ _ _ :: _) _ _)); refine wpList_lay2 rfl rfl rfl rfl rfl rfl _ _ _ _ rfl rfl h32 rfl rfl rfl rfl ?_))
  have fa : Frm [] w2 ((w2.alloc (.cells (pc (.slice xa (readPt m).ads.length xc) (readPt m).b (readPt m).l (readPt m).s).toArray 26)).alloc (.cells #[.int .i64 (readE m), .int .i64 (readAt m)] 101)) := ((Frm.refl [] w2).alloc _).alloc _
  have b1 : Blk ((w2.alloc (.cells (pc (.slice xa (readPt m).ads.length xc) (readPt m).b (readPt m).l (readPt m).s).toArray 26)).alloc (.cells #[.int .i64 (readE m), .int .i64 (readAt m)] 101)) w2.heap.size 26 (pc (.slice xa (readPt m).ads.length xc) (readPt m).b (readPt m).l (readPt m).s) := (Blk.new _ _ _).keep0 ((Frm.refl [] _).alloc _)
  have b2 : Blk ((w2.alloc (.cells (pc (.slice xa (readPt m).ads.length xc) (readPt m).b (readPt m).l (readPt m).s).toArray 26)).alloc (.cells #[.int .i64 (readE m), .int .i64 (readAt m)] 101)) (w2.heap.size + 1) 101 [.int .i64 (readE m), .int .i64 (readAt m)] := heap_alloc_at (by simp)
  have hp : PtO ((w2.alloc (.cells (pc (.slice xa (readPt m).ads.length xc) (readPt m).b (readPt m).l (readPt m).s).toArray 26)).alloc (.cells #[.int .i64 (readE m), .int .i64 (readAt m)] 101)) (pv (.slice xa (readPt m).ads.length xc) (readPt m).b (readPt m).l (readPt m).s) (readPt m) := ⟨xa, xc, xs, rfl, HXS.out.keep fa (by simp), h32⟩
  have h2 := H1.out.keep0 (F2.out.trans fa (by simp))
  have hv : ∀ i ∈ blk (.slice xa (readPt m).ads.length xc), i ≠ g ∧ i ≠ br ∧ i ∉ blk rv ∧ w0.heap.size ≤ i := fun i hi => by
    have h1 := HN.out i (by rw [Pt.ptBlk_pv]; exact hi)
    have h3 := H1.out.lt
    have h4 := H1.out.rd.lt
    exact ⟨by omega, fun e => by have := h4 br (by simp); omega, fun e => by have := h4 i (by simp [e]); omega, by have := H1.out.frm.size; omega⟩
  have HG := Lib.hid (show g < w2.heap.size by have := H1.out.lt; have := F2.out.size; omega)
  have LD := Lib.hid (b1.load0 d26 (by rw [i26, pc_length h32]))
  have B2 := Lib.hid b2
  have H2 := Lib.hid h2
  have HP2 := Lib.hid hp
  have HV := Lib.hid hv
  have H32 := Lib.hid h32
  clear fa b1 b2 hp h2 hv HXS HN H1 F2 f2 HP HR h32 cf H
  generalize (w2.alloc (.cells (pc (.slice xa (readPt m).ads.length xc) (readPt m).b (readPt m).l (readPt m).s).toArray 26)).alloc (.cells #[.int .i64 (readE m), .int .i64 (readAt m)] 101) = W2 at *
  generalize w2.heap.size = b1 at *
  obtain ⟨R, hR⟩ : ∃ R, readPt m = R := ⟨_, rfl⟩
  have HRR := Lib.hid hR
  rw [hR] at LD HP2 HV H32 ⊢
  clear hR
  go_upto_region 3 with (first
    | ((with_reducible (show wpList _ _ _ (Oper.mk _ (Op.load 26 _) _ _ _ _ :: _) _ _)); refine wpList_load_g (by rfl) 26 _ rfl _ rfl LD.out ?_)
    | ((with_reducible (show wpList _ _ _ (Oper.mk _ (Op.store 26 _ _) _ _ _ _ :: _) _ _)); refine wpList_store_mid rfl 26 (.tmp 18) (.tmp 15) rfl g 259 (pc (.slice xa R.ads.length xc) R.b R.l R.s).toArray rfl rfl (by rw [pc_size, H32.out]; exact H2.out.blk.there 35 (by rw [rcs_length H2.out.len H2.out.wf]; decide)) (by rw [i26, pc_size, H32.out]) (pc_one _ _ _) ?_))
  have H3 := Lib.hid (H2.out.setRoot HP2.out HV.out)
  have f3 : Frm [g] W2 (W2.setCells g 259 (pc (.slice xa R.ads.length xc) R.b R.l R.s).toArray.toList) := Frm.setCells _ _ _ (Frm.refl _ _) (.inl (by simp))
  have c3 := f3.cell (B2.out.cell 0 rfl) (by have := HG.out; simp; omega)
  simp only [List.toList_toArray] at f3 c3 ⊢
  clear f3 H2 B2 LD
  generalize W2.setCells g 259 (pc (.slice xa R.ads.length xc) R.b R.l R.s) = W3 at *
  obtain ⟨k0, k1, k2⟩ := heap_of_sen HSE.out H3.out.frm
  have HW := Lib.hid (want_any H3.out q s2 HSE.out.h2)
  clear H3 k0 k1
  go_wp2_with (go_at_call 111; refine HW.out.mono ?_; rintro r w4 ⟨rfl, h4⟩)
  go_ret
  exact ⟨_, rfl, by rw [HRR.out]; exact h4⟩
end
end Go.Proofs.YtjdejhgfkjeeiaaGreatDoor
