/-
  Contracts of put and take of a queue. No conditions but those that each theorem names.
-/
import Derived.Test.YtjdejhgfkjeeiaaGreatDoorGW
namespace Go.Proofs.YtjdejhgfkjeeiaaGreatDoor
open Go.RowKit
set_option linter.unusedVariables false
set_option linter.unusedSimpArgs false
set_option maxRecDepth 100000

open Kr (OwnE SlE Enco RowTys)
theorem Qu.to {g : Nat} {v v1 : Value} {l2 : List En} {w w1 w2 : World} (f : Frm (g :: blk v) w w1) (hb : ∀ i ∈ blk v1, i ∈ blk v ∨ w.heap.size ≤ i) (h2 : QTo g v1 l2 w1 w2) : QTo g v l2 w w2 := by
  obtain ⟨v2, sp2, q2, f2, n2⟩ := h2
  refine ⟨v2, sp2, q2, f.trans f2 (fun i hi => ?_), fun i hi => ?_⟩
  · rcases List.mem_cons.1 hi with rfl | hi
    · exact .inl (by simp)
    · rcases hb i hi with h | h
      · exact .inl (by simp [h])
      · exact .inr h
  · rcases n2 i hi with h | h
    · exact hb i h
    · exact .inr (Nat.le_trans f.size h)
set_option maxHeartbeats 2000000 in
theorem putQ_any (g : Nat) (v : Value) (l : List En) (x : En) (sp : List Value) (w : World) (h : Qu w g v l sp) (hl : l.length + 1 ≤ 1000000) :
    Calls Tryz.prog 124 #[.pointer (some ⟨g, 0, none⟩), vEn x] w fun e w' => e = .returned (.tuple #[]) ∧ QTo g v (putQ l x) w w' := by
  have f0 : Frm [] w (w.alloc (.cells #[.int .i64 x.1, .string (sB x.2)] 118)) := (Frm.refl [] w).alloc _
  have hb := heap_alloc_new w (.cells #[.int .i64 x.1, .string (sB x.2)] 118)
  have H := Lib.hid (h.keep0 f0)
  have F0 := Lib.hid f0
  have HL := Lib.hid hl
  have HFX := Lib.hid (fun (v1 : Value) (sp1 : List Value) (W : World) (q : Qu W g v1 (l ++ [x]) sp1) => FixLast_any g v1 l x sp1 W q hl)
  have hw : IntKind.i64.wrap (((l.length + 1 : Nat) : Int) - 1) = (l.length : Int) := by rw [IntWalk.i64_in _ (by omega)]; omega
  have HW := Lib.hid hw
  clear h f0 hl hw
  unfold vEn
  go_enter Tryz.func124, Tryz.ntmps124
  go_upto_region 1 with (fail)
  have b0 : (w.alloc (.cells #[.int .i64 x.1, .string (sB x.2)] 118)).cell? ⟨w.heap.size, 0, none⟩ = some (.int .i64 x.1) := by rw [cell_of_heap hb]; rfl
  have b1 : (w.alloc (.cells #[.int .i64 x.1, .string (sB x.2)] 118)).cell? ⟨w.heap.size, 1, none⟩ = some (.string (sB x.2)) := by rw [cell_of_heap hb]; rfl
  clear hb
  generalize w.alloc (.cells #[.int .i64 x.1, .string (sB x.2)] 118) = W at *
  generalize w.heap.size = n0 at *
  go_wp2_with fail
  refine (PushQ_any g v l x sp W H.out (by have := HL.out; omega)).mono ?_
  rintro r w1 ⟨rfl, v1, sp1, q1, f1, n1⟩
  obtain ⟨a1, cap1, rfl⟩ := q1.form
  have c1 := q1.cell
  have Q1 := Lib.hid q1
  have F1 := Lib.hid f1
  have N1 := Lib.hid n1
  have hle : (l ++ [x]).length = l.length + 1 := by simp
  have hw := HW.out
  have HF := Lib.hid (HFX.out _ _ w1 q1)
  rw [hle] at c1 HF
  clear q1 f1 n1 b0 b1 hle
  generalize hm : l.length + 1 = m at *
  go_wp2_with fail
  refine (Len_any _ _ _ _).mono ?_
  rintro r w2 ⟨rfl, rfl⟩
  go_wp2_with fail
  refine HF.out.mono ?_
  rintro r w3 ⟨rfl, m3⟩
  go_wp2_with fail
  go_end0
  rw [show m = (l ++ [x]).length by simp [← hm]] at m3
  exact ⟨rfl, Qu.to (F0.out.mono (by simp)) (fun i hi => .inl hi) (Qu.to F1.out N1.out m3.to)⟩
set_option maxHeartbeats 4000000 in
theorem takeQ_any (g : Nat) (v : Value) (l : List En) (sp : List Value) (w : World) (h : Qu w g v l sp) (h0 : 0 < l.length) (hl : l.length ≤ 1000000) :
    Calls Tryz.prog 87 #[.pointer (some ⟨g, 0, none⟩)] w fun e w' => e = .returned (vEn (en l 0)) ∧ QTo g v (takeQ l) w w' := by
  have hb := heap_alloc_new w (.cells #[.int .i64 0, .string (sB [])] 118)
  have f0 : Frm [] w (w.alloc (.cells #[.int .i64 0, .string (sB [])] 118)) := (Frm.refl [] w).alloc _
  have H := Lib.hid (h.keep0 f0)
  have F0 := Lib.hid f0
  have hgl := h.lt
  have hne : ¬ w.heap.size = g := by omega
  have hvl : ∀ i ∈ blk v, ¬ w.heap.size = i := fun i hi => by have := h.own.lt i hi; omega
  have HV := Lib.hid hvl
  have HNE := Lib.hid hne
  have HL := Lib.hid (And.intro h0 hl)
  obtain ⟨a, cap, rfl⟩ := h.form
  have c0 := (h.keep0 f0).cell
  have HSW := Lib.hid (fun (W : World) (q : Qu W g (.slice a l.length cap) l sp) => SwapQ_any (.slice a l.length cap) l sp 0 (l.length - 1) W q.own h0 (by omega))
  have hw : IntKind.i64.wrap ((l.length : Int) - 1) = ((l.length - 1 : Nat) : Int) := by rw [IntWalk.i64_in _ (by omega)]; omega
  have HCUT := Lib.hid (swp_cut h0)
  have hcl := cutQ_len l
  have HCL := Lib.hid hcl
  have HT : takeQ l = (downL (cutQ l) 0).1 := rfl
  have HTT := Lib.hid HT
  clear h f0 hgl hne hvl h0 hl hcl HT
  generalize hln : l.length - 1 = n1 at *
  go_enter Tryz.func87, Tryz.ntmps87
  go_upto_region 1 with (fail)
  rw [show ({ data := #[] } : ByteArray) = sB [] from rfl]
  generalize w.alloc (.cells #[.int .i64 0, .string (sB [])] 118) = W at *
  generalize hn0w : w.heap.size = n0 at *
  have HN0W := Lib.hid hn0w
  clear hn0w
  refine wp_region_still_tail 8 (by kernel_rfl) (by kernel_rfl) ?_
  simp only [List.take_succ_cons, List.take_zero, List.drop_succ_cons, List.drop_zero]
  change wpStill _ _ (World.drew _) _ _ _
  iterate 6 still_step
  still_call (Len_any _ _ _ _)
  repeat still_step
  refine wpStill_nil ?_
  change wpList _ _ _ _ _ (World.drew _)
  have hq := H.out.keep0 ((Frm.refl [] W).drew)
  have HS := Lib.hid (HSW.out _ hq)
  have HQ := Lib.hid hq
  have hn0 : W.heap[n0]? = some (.cells #[.int .i64 0, .string (sB [])] 118 (0, 0)) := hb
  have HN0 := Lib.hid hn0
  clear hq c0 hb hn0 hw
  go_wp2_with fail
  refine HS.out.mono ?_
  rintro r w2 ⟨rfl, o2, f2⟩
  have q2 := HQ.out.swap o2 f2
  rw [HCUT.out] at q2
  have Q2 := Lib.hid q2
  have F2 := Lib.hid (((Frm.refl [] W).drew).mono (L' := g :: blk (.slice a l.length cap)) (by simp) |>.trans (L' := blk (.slice a l.length cap)) f2 (fun i hi => .inl (by simp [hi])))
  clear q2 o2 f2
  have ha := assert118 (vEn (en l 0))
  have HP := Lib.hid (PopQ_any g _ (cutQ l) (en l 0) sp w2 Q2.out (by rw [HCL.out]; have := HL.out; omega))
  go_wp2_with fail
  refine HP.out.mono ?_
  rintro r w3 ⟨rfl, v3, sp3, q3, f3, n3⟩
  have Q3 := Lib.hid q3
  have F3 := Lib.hid (F2.out.trans f3 (fun i hi => .inl hi))
  have N3 := Lib.hid n3
  clear q3 f3 n3
  unfold vEn at ha ⊢
  obtain ⟨x, hx⟩ : ∃ x, en l 0 = x := ⟨_, rfl⟩
  rw [hx] at ha ⊢
  have HX := Lib.hid hx
  clear hx
  have hn3 := F3.out.heap HN0.out (fun hm => by
    rcases List.mem_cons.1 hm with e | hm
    · exact HNE.out e
    · exact HV.out _ hm rfl)
  have f4 : Frm [] w3 (w3.alloc (.cells #[.int .i64 x.1, .string (sB x.2)] 118)) := (Frm.refl [] w3).alloc _
  have Q4 := Lib.hid (Q3.out.keep0 f4)
  have h4 := f4.heap hn3 (by simp)
  have H4 := Lib.hid h4
  have F4 := Lib.hid f4
  have b4 := heap_alloc_new w3 (.cells #[.int .i64 x.1, .string (sB x.2)] 118)
  have hc0 : w3.cell? ⟨n0, 0, none⟩ = some (.int .i64 0) := by rw [cell_of_heap hn3]; rfl
  have hlt := World.block_lt_of_cell? _ _ hc0
  clear hc0
  have hlt2 := Q3.out.lt
  clear f4 h4 hn3
  go_upto_region 3 with (fail)
  have hv3 : ∀ i ∈ blk v3, ¬ i = n0 ∧ ¬ i = w3.heap.size := fun i hi => by
    have h1 := Q3.out.own.lt i hi
    have h2 := World.block_lt_of_cell? W ⟨n0, 0, none⟩ (by rw [cell_of_heap HN0.out]; rfl)
    have h3 := F2.out.size
    rcases N3.out i hi with h | h
    · have := HV.out i h; exact ⟨fun e => this e.symm, by omega⟩
    · simp at h2; exact ⟨by omega, by omega⟩
  have HV3 := Lib.hid hv3
  have HFX := Lib.hid (FixFirst_any g v3 (cutQ l) sp3 _ Q4.out (by rw [HCL.out]; have := HL.out; omega))
  have B4 := Lib.hid b4
  have HLT := Lib.hid (And.intro hlt hlt2)
  rw [← HTT.out] at HFX
  have hs4 : w3.heap.size ≤ (w3.alloc (.cells #[.int .i64 x.1, .string (sB x.2)] 118)).heap.size := F4.out.size
  clear hv3 b4 hlt hlt2 ha
  generalize w3.alloc (.cells #[.int .i64 x.1, .string (sB x.2)] 118) = W4 at *
  generalize hn5 : w3.heap.size = n5 at *
  have hn05 : ¬ n5 = n0 := by have := HLT.out; omega
  have hn50 : ¬ n0 = n5 := by have := HLT.out; omega
  go_wp2_with fail
  refine HFX.out.mono ?_
  rintro r w5 ⟨rfl, m5⟩
  have k5 := m5.2.heap B4.out (fun hm => (HV3.out _ hm).2 rfl)
  have k0 := m5.2.heap H4.out (fun hm => (HV3.out _ hm).1 rfl)
  have c50 : w5.cell? ⟨n5, 0, none⟩ = some (.int .i64 x.1) := by rw [cell_of_heap k5]; rfl
  have c51 : w5.cell? ⟨n5, 1, none⟩ = some (.string (sB x.2)) := by rw [cell_of_heap k5]; rfl
  have c00 : w5.cell? ⟨n0, 0, none⟩ = some (.int .i64 0) := by rw [cell_of_heap k0]; rfl
  have c01 : w5.cell? ⟨n0, 1, none⟩ = some (.string (sB [])) := by rw [cell_of_heap k0]; rfl
  have z00 := frozen_of_heap k0 0
  have z01 := frozen_of_heap k0 1
  have M5 := Lib.hid m5
  have K0 := Lib.hid k0
  clear m5 k5 k0 hs4
  go_wp2_with fail
  have hfin : ((w5.setCell ⟨n0, 0, none⟩ (.int .i64 x.1)).setCell ⟨n0, 1, none⟩ (.string (sB x.2))).heap[n0]? = some (.cells #[.int .i64 x.1, .string (sB x.2)] 118 (0, 0)) := by
    rw [heap_setCell_same _ (heap_setCell_same _ K0.out)]; rfl
  have ff : Frm [n0] w5 ((w5.setCell ⟨n0, 0, none⟩ (.int .i64 x.1)).setCell ⟨n0, 1, none⟩ (.string (sB x.2))) := ((Frm.refl [n0] w5).setCell ⟨n0, 0, none⟩ _ (.inl (by simp))).setCell ⟨n0, 1, none⟩ _ (.inl (by simp))
  refine bodyPost_ret (v := vEn x) (results_cell_row (p := 2) rfl _ _ n0 118 _ (0, 0) _ rfl hfin Tryz.underlying118 rfl (by kernel_rfl)) rfl ?_
  refine ⟨by rw [HX.out], v3, sp3, ⟨ff.heap M5.out.1.box (by have := HNE.out; simp; omega), M5.out.1.own.keep ff (fun i hi => by have := (HV3.out i hi).1; simpa using this), M5.out.1.ne⟩, ?_, fun i hi => ?_⟩
  · have hz := HN0W.out
    have hz2 := F0.out.size
    have hz3 := F2.out.size
    have g1 : Frm (g :: blk (.slice a l.length cap)) w w3 := (F0.out.mono (by simp)).trans F3.out (fun i hi => .inl hi)
    have g2 : Frm (g :: blk (.slice a l.length cap)) w w5 := (g1.trans F4.out (by simp)).trans M5.out.2 (fun i hi => by
      rcases N3.out i hi with h | h
      · exact .inl (List.mem_cons_of_mem _ h)
      · exact .inr (by omega))
    exact g2.trans ff (fun i hi => by simp at hi; exact .inr (by omega))
  · have hz := HN0W.out
    have hz2 := F0.out.size
    have hz3 := F2.out.size
    rcases N3.out i hi with h | h
    · exact .inl h
    · exact .inr (by omega)
end Go.Proofs.YtjdejhgfkjeeiaaGreatDoor
