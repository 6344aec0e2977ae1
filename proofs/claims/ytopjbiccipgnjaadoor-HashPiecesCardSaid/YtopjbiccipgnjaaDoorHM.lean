/-
  Contracts of Turn, Parse and Less at the chapter's examples; no conditions but those that each theorem names.
-/
import Derived.Test.YtopjbiccipgnjaaDoorHL
import Derived.Laws.Externs
namespace Go.Proofs.YtopjbiccipgnjaaDoor
open Go.RowKit
set_option linter.unusedVariables false
set_option linter.unusedSimpArgs false
def Z32 : Array Value := (bvs (List.replicate 32 0)).toArray
theorem Z32_size : Z32.size = 32 := by kernel_rfl
theorem Z32_one : Z32.all (·.oneCell') = true := by kernel_rfl
theorem build29 (W : World) : (Instr.build 29 #[]).run Tryd.prog W = .ok (.agg Z32) W := by
  have := run_build (P := Tryd.prog) W 29 #[] Z32 (by kernel_rfl)
  exact this
theorem zero29 (W : World) : (zeroValue 29).run Tryd.prog W = .ok (.agg Z32) W := by
  have := Tryd.zeroValue29 W
  rw [this]
  rfl
theorem results_cells2 {P : Program} {fn : Func} {p q : Tmp} {t1 t2 : TypeId} (h : fn.results = #[.cell p t1, .cell q t2]) (tmps : Array Value) (w : World) (g1 g2 : Nat) (T1 T2 : TypeId) (cs1 cs2 : Array Value) (fr1 fr2 : Nat × Nat) (d1 d2 : TypeDesc)
    (hp : tmps.getD p undef = .pointer (some ⟨g1, 0, none⟩)) (hq : tmps.getD q undef = .pointer (some ⟨g2, 0, none⟩)) (hg1 : w.heap[g1]? = some (.cells cs1 T1 fr1)) (hg2 : w.heap[g2]? = some (.cells cs2 T2 fr2))
    (hu1 : P.underlying t1 = some d1) (hd1 : (match d1 with | .struct _ | .array _ _ => true | _ => false) = true) (hi1 : (P.info? t1).map (·.size) = some cs1.size)
    (hu2 : P.underlying t2 = some d2) (hd2 : (match d2 with | .struct _ | .array _ _ => true | _ => false) = true) (hi2 : (P.info? t2).map (·.size) = some cs2.size) :
    (results fn tmps).run P w = .ok (.tuple #[.agg cs1, .agg cs2]) w := by
  have hp' : tmps[p]?.getD undef = .pointer (some ⟨g1, 0, none⟩) := by simpa using hp
  have hq' : tmps[q]?.getD undef = .pointer (some ⟨g2, 0, none⟩) := by simpa using hq
  simp [results, h, hp', hq', asAddr, run_loadVar_row w g1 T1 t1 cs1 fr1 d1 hg1 hu1 hd1 hi1, run_loadVar_row w g2 T2 t2 cs2 fr2 d2 hg2 hu2 hd2 hi2]
theorem i43 : (Tryd.prog.info? 43).map (·.size) = some 2 := by kernel_rfl
theorem d43 : (match Tryd.prog.underlying 43 with | some (.struct _) => true | _ => false) = true := by kernel_rfl
set_option maxRecDepth 100000 in
set_option maxHeartbeats 1000000 in
theorem Parse_empty (w : World) : Calls Tryd.prog 23 #[.string ⟨#[]⟩] w fun r w' => r = .returned (.tuple #[.agg Z32, .agg #[.int .i64 4, .int .i64 0]]) ∧ Frm [] w w' := by
  have hb := build29
  go_enter Tryd.func23, Tryd.ntmps23
  go_upto_region 2 with (fail)
  have h2 := heap_alloc_lt (o := .cells #[.int .i64 0, .int .i64 0] 43) (heap_alloc_new w (.cells Z32 29))
  have hF : Frm [] w ((w.alloc (.cells Z32 29)).alloc (.cells #[.int .i64 0, .int .i64 0] 43)) := ((Frm.refl _ _).alloc _).alloc _
  have h3 : ((w.alloc (.cells Z32 29)).alloc (.cells #[.int .i64 0, .int .i64 0] 43)).heap[w.heap.size + 1]? = some (.cells #[.int .i64 0, .int .i64 0] 43 (0, 0)) := heap_alloc_at (by simp)
  change Code.wp _ _ _ _ ((w.alloc (.cells Z32 29)).alloc (.cells #[.int .i64 0, .int .i64 0] 43))
  generalize ((w.alloc (.cells Z32 29)).alloc (.cells #[.int .i64 0, .int .i64 0] 43)) = W at *
  have hres := setRow_heap W w.heap.size _ Z32 29 (0, 0) h2
  have hres3 := (setRow_other W w.heap.size (w.heap.size + 1) Z32 (by omega)).trans h3
  have hF2 : Frm [] w (W.setRow w.heap.size Z32) := hF.setRow _ _ (.inr (Nat.le_refl _))
  have HRES := Lib.hid hres
  have HR3 := Lib.hid hres3
  have HF2 := Lib.hid hF2
  have H2 := Lib.hid h2
  clear hres hres3 hF2 h2 h3 hF
  refine wp_region_lit ?_
  refine wpList_val rfl (v := .agg Z32) (w' := W) ?_ ?_
  · simp [execOp, hb, Result.andThen]
  have hz1 : (Tryd.prog.info? 29).map (·.size) = some Z32.size := by rw [Z32_size]; exact i29
  have hz2 : Z32.size = Z32.size := rfl
  go_wp2_with (refine wpList_store_row rfl 29 (.tmp 2) (.tmp 10) rfl w.heap.size Z32 rfl rfl 29 _ H2.out hz1 rfl Z32_one ?_; generalize W.setRow w.heap.size Z32 = W2 at *; have c0 := cell_of_heap HR3.out 0; have c1 := cell_of_heap HR3.out 1; have g0 := frozen_of_heap HR3.out 0; have g1 := frozen_of_heap HR3.out 1; simp only [List.getElem?_toArray, List.getElem?_cons_zero, List.getElem?_cons_succ] at c0 c1)
  have k1 : ((W2.setCell ⟨w.heap.size + 1, 0, none⟩ (.int .i64 4)).setCell ⟨w.heap.size + 1, 1, none⟩ (.int .i64 0)).heap[w.heap.size + 1]? = some (.cells #[.int .i64 4, .int .i64 0] 43 (0, 0)) := heap_setCell_same _ (heap_setCell_same _ HR3.out)
  have k0 : ((W2.setCell ⟨w.heap.size + 1, 0, none⟩ (.int .i64 4)).setCell ⟨w.heap.size + 1, 1, none⟩ (.int .i64 0)).heap[w.heap.size]? = some (.cells Z32 29 (0, 0)) := (heap_setCell_ne _ (by simp <;> omega)).trans ((heap_setCell_ne _ (by simp <;> omega)).trans HRES.out)
  obtain ⟨fs, hfs⟩ : ∃ fs, Tryd.prog.underlying 43 = some (.struct fs) := by
    have := d43
    split at this
    · rename_i fs h; exact ⟨fs, h⟩
    · cases this
  exact bodyPost_ret (v := .tuple #[.agg Z32, .agg #[.int .i64 4, .int .i64 0]]) (results_cells2 rfl _ _ _ _ 29 43 _ _ (0, 0) (0, 0) _ _ rfl rfl k0 k1 d29 rfl hz1 hfs rfl i43) rfl ⟨rfl, (HF2.out.setCell _ _ (.inr (by simp <;> omega))).setCell _ _ (.inr (by simp <;> omega))⟩
theorem ibs_no (W : World) : (callFunc 55 #[.string ⟨#[48, 49, 50, 51, 52, 53, 54, 55, 56, 57, 97, 98, 99, 100, 101, 102]⟩, .int .u8 71]).run Tryd.prog W = .ok (.value (.int .i64 (-1))) W := by
  rw [run_callFunc_extern Tryd.func55 (by kernel_rfl) (by kernel_rfl) (by kernel_rfl) (by kernel_rfl), run_indexByte_string]
  rfl
theorem IB_no (W : World) : Calls Tryd.prog 42 #[.string ⟨#[48, 49, 50, 51, 52, 53, 54, 55, 56, 57, 97, 98, 99, 100, 101, 102]⟩, .int .u8 71] W fun r w' => r = .returned (.int .i64 (-1)) ∧ w' = W := by
  have h := ibs_no
  go_enter Tryd.func42, Tryd.ntmps42
  go_wp2
  go_ret
  exact ⟨rfl, rfl⟩
set_option maxRecDepth 100000 in
set_option maxHeartbeats 1000000 in
theorem Turn_no (s : S8) (v : Value) (l sp : List UInt8) (n : Nat) (w : World) (hS : SlB w v l sp) (hn : l.length = n) (h64 : n ≠ 64) (hl : n ≤ 1000000) :
    Calls Tryd.prog 19 #[.agg (W32 s.l).toArray, v] w fun r w' => r = .returned (.tuple #[.agg #[.int .u32 0, .int .u32 0, .int .u32 0, .int .u32 0, .int .u32 0, .int .u32 0, .int .u32 0, .int .u32 0], .int .i64 2]) ∧ Frm [] w w' := by
  obtain ⟨a, cap, rfl, _, _⟩ := hS.form
  rw [hn]
  have hne : ¬ (n : Int) = 64 := by omega
  have hb : ((n : Int) != 64) = true := by simpa using hne
  clear hS hn
  go_enter Tryd.func19, Tryd.ntmps19
  go_wp2_with fail
  refine bodyPost_ret (v := .tuple #[.agg #[.int .u32 0, .int .u32 0, .int .u32 0, .int .u32 0, .int .u32 0, .int .u32 0, .int .u32 0, .int .u32 0], .int .i64 2]) (by simp [results, Tryd.results19, go_sem]) rfl ⟨rfl, ?_⟩
  exact ((Frm.refl _ _).alloc _).alloc _
set_option maxRecDepth 100000 in
set_option maxHeartbeats 1000000 in
theorem Parse_G (s : ByteArray) (hs : s.size = 64) (h0 : ∀ h : 0 < s.size, s[0] = 71) (w : World) : Calls Tryd.prog 23 #[.string s] w fun r w' => r = .returned (.tuple #[.agg Z32, .agg #[.int .i64 2, .int .i64 0]]) ∧ Frm [] w w' := by
  have hb := build29
  have hidx : ∀ W, (Instr.index 9 (.string s) (.int .i64 0)).run Tryd.prog W = .ok (.int .u8 71) W := fun W => by
    have hl : 0 < s.size := by omega
    have hg : s[0]? = some 71 := by rw [getElem?_pos s 0 hl, h0 hl]
    simp [Instr.index, run_underlying Tryd.underlying9, asIntOf, hg, go_sem]
  clear h0
  have hse : (((s.size : Nat) : Int) != 64) = false := by simp [hs]
  have hsz : (s.size : Int) = 64 := by omega
  go_enter Tryd.func23, Tryd.ntmps23
  go_upto_region 4 with (fail)
  have h2 := heap_alloc_lt (o := .cells Z32 29) (heap_alloc_lt (o := .cells #[.int .i64 0, .int .i64 0] 43) (heap_alloc_new w (.cells Z32 29)))
  have hF : Frm [] w (((w.alloc (.cells Z32 29)).alloc (.cells #[.int .i64 0, .int .i64 0] 43)).alloc (.cells Z32 29)) := (((Frm.refl _ _).alloc _).alloc _).alloc _
  have h3 : (((w.alloc (.cells Z32 29)).alloc (.cells #[.int .i64 0, .int .i64 0] 43)).alloc (.cells Z32 29)).heap[w.heap.size + 1]? = some (.cells #[.int .i64 0, .int .i64 0] 43 (0, 0)) := heap_alloc_lt (heap_alloc_at (by simp))
  change Code.wp _ _ _ _ (((w.alloc (.cells Z32 29)).alloc (.cells #[.int .i64 0, .int .i64 0] 43)).alloc (.cells Z32 29))
  generalize (((w.alloc (.cells Z32 29)).alloc (.cells #[.int .i64 0, .int .i64 0] 43)).alloc (.cells Z32 29)) = W at *
  have hres := setRow_heap W w.heap.size _ Z32 29 (0, 0) h2
  have hres3 := (setRow_other W w.heap.size (w.heap.size + 1) Z32 (by omega)).trans h3
  have hF2 : Frm [] w (W.setRow w.heap.size Z32) := hF.setRow _ _ (.inr (Nat.le_refl _))
  have HRES := Lib.hid hres
  have HR3 := Lib.hid hres3
  have HF2 := Lib.hid hF2
  have H2 := Lib.hid h2
  clear hres hres3 hF2 h2 h3 hF hs
  have hz1 : (Tryd.prog.info? 29).map (·.size) = some Z32.size := by rw [Z32_size]; exact i29
  have hz2 : Z32.size = Z32.size := rfl
  go_wp2_with fail
  go_loopw [17] (fun c wr => c = .int .i64 0 ∧ W = wr) (fun _ _ => 0)
  case atStart => exact ⟨rfl, rfl⟩
  case round =>
    obtain ⟨rfl, hwr⟩ := hrel
    subst wr
    go_upto_region 9 with (go_at_call 42; refine (IB_no _).mono ?_; rintro r w1 ⟨rfl, hw1⟩; rw [hw1]; clear hw1 w1)
    refine wp_region_lit ?_
    refine wpList_val rfl (v := .agg Z32) (w' := W) (by simp [execOp, hb, Result.andThen]) ?_
    refine wpList_val rfl (v := .int .i64 0) (w' := W) rfl ?_
    refine wpList_plain rfl (fun K2 hK2 => ?_)
    go_simp
    refine hK2 _ _ ?_
    clear hK2 K2
    refine wpList_store_row rfl 29 (.tmp 2) (.tmp 26) rfl w.heap.size Z32 rfl rfl 29 _ H2.out hz1 rfl Z32_one ?_
    generalize W.setRow w.heap.size Z32 = W2 at *
    have c0 := cell_of_heap HR3.out 0
    have c1 := cell_of_heap HR3.out 1
    have g0 := frozen_of_heap HR3.out 0
    have g1 := frozen_of_heap HR3.out 1
    simp only [List.getElem?_toArray, List.getElem?_cons_zero, List.getElem?_cons_succ] at c0 c1
    go_wp2_with fail
    have k1 : ((W2.setCell ⟨w.heap.size + 1, 0, none⟩ (.int .i64 2)).setCell ⟨w.heap.size + 1, 1, none⟩ (.int .i64 0)).heap[w.heap.size + 1]? = some (.cells #[.int .i64 2, .int .i64 0] 43 (0, 0)) := heap_setCell_same _ (heap_setCell_same _ HR3.out)
    have k0 : ((W2.setCell ⟨w.heap.size + 1, 0, none⟩ (.int .i64 2)).setCell ⟨w.heap.size + 1, 1, none⟩ (.int .i64 0)).heap[w.heap.size]? = some (.cells Z32 29 (0, 0)) := (heap_setCell_ne _ (by simp <;> omega)).trans ((heap_setCell_ne _ (by simp <;> omega)).trans HRES.out)
    obtain ⟨fs, hfs⟩ : ∃ fs, Tryd.prog.underlying 43 = some (.struct fs) := by
      have := d43
      split at this
      · rename_i fs h; exact ⟨fs, h⟩
      · cases this
    exact bodyPost_ret (v := .tuple #[.agg Z32, .agg #[.int .i64 2, .int .i64 0]]) (results_cells2 rfl _ _ _ _ 29 43 _ _ (0, 0) (0, 0) _ _ rfl rfl k0 k1 d29 rfl hz1 hfs rfl i43) rfl ⟨rfl, (HF2.out.setCell _ _ (.inr (by simp <;> omega))).setCell _ _ (.inr (by simp <;> omega))⟩
end Go.Proofs.YtopjbiccipgnjaaDoor
