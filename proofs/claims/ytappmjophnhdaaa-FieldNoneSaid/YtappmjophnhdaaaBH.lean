/-
  The walk of FieldNone where the act is not long; no conditions but that the act can be read.
-/
import Derived.Test.YtappmjophnhdaaaBG
namespace Go.Proofs.Ytappmjophnhdaaa
open Go.RowKit
set_option linter.unusedVariables false
set_option linter.unusedSimpArgs false
set_option maxRecDepth 100000 in
set_option maxHeartbeats 4000000 in
theorem none_short (a : Option Addr) (cap : Nat) (msp : List UInt8) (x : Act0) (g0 g1 g2 g3 : Int) (w : World) (hS : SlB w (.slice a x.m.length cap) x.m msp) (hB : ∀ i ∈ blkR (.slice a x.m.length cap), i < w.heap.size) (hn : x.n ≤ 9223372036854775807) (hl : longB [x] = false) :
    Calls Try.prog 5 #[.agg #[.int .i64 x.kind, .int .i64 x.n, .int .i64 x.size, .string x.s, .slice a x.m.length cap], .agg #[.int .i64 g0, .int .i64 g1, .int .i64 g2, .int .i64 g3]] w fun r w' => YesF w r w' := by
  have f3 : ∀ x y z, Frm [] w (((w.alloc x).alloc y).alloc z) := fun x y z => (((Frm.refl [] w).alloc _).alloc _).alloc _
  have HF := Lib.hid f3
  have HO := Lib.hid (fun x1 y1 => acts_one a cap msp x (w.heap.size + 2) (((w.alloc x1).alloc y1).alloc (.cells #[.int .i64 x.kind, .int .i64 x.n, .int .i64 x.size, .string x.s, .slice a x.m.length cap] 34)) (hS.keep (f3 _ _ _) (by simp)) (fun i hi => Nat.lt_of_lt_of_le (hB i hi) (f3 _ _ _).size) hn (by have := heap_alloc_new ((w.alloc x1).alloc y1) (.cells #[.int .i64 x.kind, .int .i64 x.n, .int .i64 x.size, .string x.s, .slice a x.m.length cap] 34); simpa using this))
  have HS := Lib.hid hS
  have HN := Lib.hid hn
  clear hS hB f3 hn
  go_enter Try.func5, Try.ntmps5
  go_wp2_with fail
  refine (long_any _ _ [x] _ (HO.out _ _)).mono ?_
  rw [hl]
  rintro r w1 ⟨rfl, hw⟩
  subst hw
  have hm : x.m.length ≤ 300 := by
    have := hl
    simp [longB, bigAct] at this
    omega
  clear hl
  go_wp2_with fail
  go_loopw [9] (NNRel x (.slice a x.m.length cap) g1 g2 g3 w) (fun c _ => 2 - (intOf c).toNat)
  case atStart => 
    refine ⟨0, by omega, rfl, ⟨(((((HF.out _ _ _).alloc _).alloc _).alloc _).alloc _), ?_, ?_, ?_, ?_, ?_, ?_, ?_, ?_, ?_, ?_, ?_, ?_, ?_, ?_⟩⟩
    all_goals (simp [go_sem]; done)
  case round =>
    obtain ⟨k, hk, rfl, hN⟩ := hrel
    have hk3 : k = 0 ∨ k = 1 ∨ k = 2 := by omega
    rcases hk3 with rfl | rfl | rfl
    · have q0 := hN.a0
      have q1 := hN.a1
      have q2 := hN.a2
      have q3 := hN.a3
      have q4 := hN.a4
      have c0 := hN.c0
      have W1 := Lib.hid (fun w' (f : Frm [] wr w') => write_none none _ x w' (.inl rfl) ⟨a, cap, msp, rfl, (HS.out.keep hN.f (by simp)).keep f (by simp), HN.out⟩ (by omega))
      have NK := Lib.hid hN
      clear hN
      go_wp2_with fail
      refine wp_region_still_tail 5 (by kernel_rfl) (by kernel_rfl) ?_
      simp only [List.take_succ_cons, List.take_zero, List.drop_succ_cons, List.drop_zero]
      repeat still_step
      refine wpStill_nil ?_
      go_wp2_with fail
      refine (W1.out _ ((Frm.refl [] _).drewN 1)).mono ?_
      rintro r w2 ⟨rfl, f2⟩
      have N2 := Lib.hid (NK.out.keep (((Frm.refl [] _).drewN 1).trans f2 (by simp)))
      have c0 := N2.out.c0
      go_wp2_with fail
      refine (WOut_none none w2 (.inl rfl)).mono ?_
      rintro r w3 ⟨rfl, hw3⟩
      subst hw3
      have d0 := N2.out.d0
      have b1 := N2.out.b1
      have b2 := N2.out.b2
      have b3 := N2.out.b3
      go_wp2_with fail
      refine wp_region_still_tail 10 (by kernel_rfl) (by kernel_rfl) ?_
      simp only [List.take_succ_cons, List.take_zero, List.drop_succ_cons, List.drop_zero]
      repeat still_step
      refine wpStill_nil ?_
      go_wp2_with fail
      refine (RNum_none none _ _ _ _ (.inl rfl)).mono ?_
      rintro r w4 ⟨rfl, f4⟩
      have N4 := Lib.hid (N2.out.keep (((Frm.refl [] _).drewN 1).trans f4 (by simp)))
      clear d0 b1 b2 b3
      have d0 := N4.out.d0
      have b1 := N4.out.b1
      go_wp2_with fail
      refine wp_region_still_tail 6 (by kernel_rfl) (by kernel_rfl) ?_
      simp only [List.take_succ_cons, List.take_zero, List.drop_succ_cons, List.drop_zero]
      repeat still_step
      refine wpStill_nil ?_
      go_wp2_with fail
      refine (RText_none none _ _ (.inl rfl)).mono ?_
      rintro r w5 ⟨rfl, f5⟩
      have N5 := Lib.hid (N4.out.keep (((Frm.refl [] _).drewN 1).trans f5 (by simp)))
      clear d0 b1
      have d0 := N5.out.d0
      have b1 := N5.out.b1
      go_wp2_with fail
      refine wp_region_still_tail 6 (by kernel_rfl) (by kernel_rfl) ?_
      simp only [List.take_succ_cons, List.take_zero, List.drop_succ_cons, List.drop_zero]
      repeat still_step
      refine wpStill_nil ?_
      go_wp2_with fail
      refine (RRaw_none none _ _ (.inl rfl)).mono ?_
      rintro r w6 ⟨rfl, f6⟩
      have N6 := Lib.hid (N5.out.keep (((Frm.refl [] _).drewN 1).trans f6 (by simp)))
      clear d0 b1
      have d0 := N6.out.d0
      go_wp2_with fail
      refine (RRest_none none _ (.inl rfl)).mono ?_
      rintro r w7 ⟨rfl, f7⟩
      have N7 := Lib.hid (N6.out.keep f7)
      clear d0
      have d0 := N7.out.d0
      have s7 := lt_heap (heap_alloc_new w7 (.cells #[] 0))
      have d0' : ∀ o, (w7.alloc o).cell? ⟨w.heap.size + 6, 0, none⟩ = some (.pointer none) := fun o => ((Frm.refl [] w7).alloc o).cell d0 (by simp)
      go_wp2_with fail
      go_region_held3 (fun y => y.cell? ⟨w.heap.size + 6, 0, none⟩ = some (.pointer none) ∧ y.cell? ⟨w7.heap.size, 0, none⟩ = some (.int .i64 1) ∧ y.cell? ⟨w7.heap.size, 1, none⟩ = some (.int .i64 0))
        (first | go_keep | (go_split_ands; exact ⟨fE.cell ‹_› (by simp), fE.cell ‹_› (by simp), fE.cell ‹_› (by simp)⟩) | (go_split_ands; exact ⟨fF.cell ‹_› (by simp), fF.cell ‹_› (by simp), fF.cell ‹_› (by simp)⟩) | exact ⟨d0' _, by simp [go_sem], by simp [go_sem]⟩)
        (first | (go_at_call 23; refine (RAt_none none _ (.inl rfl)).mono ?_; rintro r w8 ⟨rfl, rfl⟩) | (go_at_call 24; refine (RLeft_none none _ (.inl rfl)).mono ?_; rintro r w9 ⟨rfl, rfl⟩) | (go_at_call 26; refine (RFault_none none _ (.inl rfl)).mono ?_; unfold flt; rintro r w10 ⟨rfl, fF⟩) | (go_at_call 27; refine (REnd_none none _ (.inl rfl)).mono ?_; unfold flt; rintro r w11 ⟨rfl, fE⟩))
      go_wp2_with fail
      refine ⟨⟨1, by omega, rfl, N7.out.keep ?_⟩, by simp [intOf]⟩
      first
        | exact ((((Frm.refl [] w7).alloc _).drewN _).trans fF (by simp)).trans fE (by simp)
        | exact ((((Frm.refl [] w7).alloc _).drew).trans fF (by simp)).trans fE (by simp)
        | exact (((Frm.refl [] w7).alloc _).trans fF (by simp)).trans fE (by simp)
    · have q0 := hN.a0
      have q1 := hN.a1
      have q2 := hN.a2
      have q3 := hN.a3
      have q4 := hN.a4
      have c0 := hN.c1
      have W1 := Lib.hid (fun w' (f : Frm [] wr w') => write_none (some ⟨w.heap.size + 3, 0, none⟩) _ x w' (.inr ⟨_, rfl, f.cell hN.e1 (by simp)⟩) ⟨a, cap, msp, rfl, (HS.out.keep hN.f (by simp)).keep f (by simp), HN.out⟩ (by omega))
      have NK := Lib.hid hN
      clear hN
      go_wp2_with fail
      refine wp_region_still_tail 5 (by kernel_rfl) (by kernel_rfl) ?_
      simp only [List.take_succ_cons, List.take_zero, List.drop_succ_cons, List.drop_zero]
      repeat still_step
      refine wpStill_nil ?_
      go_wp2_with fail
      refine (W1.out _ ((Frm.refl [] _).drewN 1)).mono ?_
      rintro r w2 ⟨rfl, f2⟩
      have N2 := Lib.hid (NK.out.keep (((Frm.refl [] _).drewN 1).trans f2 (by simp)))
      have c0 := N2.out.c1
      go_wp2_with fail
      refine (WOut_none _ w2 (.inr ⟨_, rfl, N2.out.e1⟩)).mono ?_
      rintro r w3 ⟨rfl, hw3⟩
      subst hw3
      have d0 := N2.out.d1
      have b1 := N2.out.b1
      have b2 := N2.out.b2
      have b3 := N2.out.b3
      go_wp2_with fail
      refine wp_region_still_tail 10 (by kernel_rfl) (by kernel_rfl) ?_
      simp only [List.take_succ_cons, List.take_zero, List.drop_succ_cons, List.drop_zero]
      repeat still_step
      refine wpStill_nil ?_
      go_wp2_with fail
      refine (RNum_none _ _ _ _ _ (.inr ⟨_, rfl, ((Frm.refl [] _).drewN 1).cell N2.out.e2 (by simp)⟩)).mono ?_
      rintro r w4 ⟨rfl, f4⟩
      have N4 := Lib.hid (N2.out.keep (((Frm.refl [] _).drewN 1).trans f4 (by simp)))
      clear d0 b1 b2 b3
      have d0 := N4.out.d1
      have b1 := N4.out.b1
      go_wp2_with fail
      refine wp_region_still_tail 6 (by kernel_rfl) (by kernel_rfl) ?_
      simp only [List.take_succ_cons, List.take_zero, List.drop_succ_cons, List.drop_zero]
      repeat still_step
      refine wpStill_nil ?_
      go_wp2_with fail
      refine (RText_none _ _ _ (.inr ⟨_, rfl, ((Frm.refl [] _).drewN 1).cell N4.out.e2 (by simp)⟩)).mono ?_
      rintro r w5 ⟨rfl, f5⟩
      have N5 := Lib.hid (N4.out.keep (((Frm.refl [] _).drewN 1).trans f5 (by simp)))
      clear d0 b1
      have d0 := N5.out.d1
      have b1 := N5.out.b1
      go_wp2_with fail
      refine wp_region_still_tail 6 (by kernel_rfl) (by kernel_rfl) ?_
      simp only [List.take_succ_cons, List.take_zero, List.drop_succ_cons, List.drop_zero]
      repeat still_step
      refine wpStill_nil ?_
      go_wp2_with fail
      refine (RRaw_none _ _ _ (.inr ⟨_, rfl, ((Frm.refl [] _).drewN 1).cell N5.out.e2 (by simp)⟩)).mono ?_
      rintro r w6 ⟨rfl, f6⟩
      have N6 := Lib.hid (N5.out.keep (((Frm.refl [] _).drewN 1).trans f6 (by simp)))
      clear d0 b1
      have d0 := N6.out.d1
      go_wp2_with fail
      refine (RRest_none _ _ (.inr ⟨_, rfl, N6.out.e2⟩)).mono ?_
      rintro r w7 ⟨rfl, f7⟩
      have N7 := Lib.hid (N6.out.keep f7)
      clear d0
      have d0 := N7.out.d1
      have s7 := lt_heap (heap_alloc_new w7 (.cells #[] 0))
      have e2' : ∀ o, (w7.alloc o).cell? ⟨w.heap.size + 5, 0, none⟩ = some (.pointer none) := fun o => ((Frm.refl [] w7).alloc o).cell N7.out.e2 (by simp)
      have d0' : ∀ o, (w7.alloc o).cell? ⟨w.heap.size + 6, 1, none⟩ = some (.pointer (some ⟨w.heap.size + 5, 0, none⟩)) := fun o => ((Frm.refl [] w7).alloc o).cell d0 (by simp)
      go_wp2_with fail
      go_region_held3 (fun y => y.cell? ⟨w.heap.size + 5, 0, none⟩ = some (.pointer none) ∧ y.cell? ⟨w.heap.size + 6, 1, none⟩ = some (.pointer (some ⟨w.heap.size + 5, 0, none⟩)) ∧ y.cell? ⟨w7.heap.size, 0, none⟩ = some (.int .i64 1) ∧ y.cell? ⟨w7.heap.size, 1, none⟩ = some (.int .i64 0))
        (first | go_keep | (go_split_ands; exact ⟨fE.cell ‹_› (by simp), fE.cell ‹_› (by simp), fE.cell ‹_› (by simp), fE.cell ‹_› (by simp)⟩) | (go_split_ands; exact ⟨fF.cell ‹_› (by simp), fF.cell ‹_› (by simp), fF.cell ‹_› (by simp), fF.cell ‹_› (by simp)⟩) | exact ⟨e2' _, d0' _, by simp [go_sem], by simp [go_sem]⟩)
        (first | (go_at_call 23; refine (RAt_none _ _ (.inr ⟨_, rfl, by first | assumption | exact ((Frm.refl [] _).drewN _).cell (e2' _) (by simp) | exact ((Frm.refl [] _).drew).cell (e2' _) (by simp) | exact e2' _ | exact fF.cell (((Frm.refl [] _).drewN _).cell (e2' _) (by simp)) (by simp) | exact fF.cell (((Frm.refl [] _).drew).cell (e2' _) (by simp)) (by simp) | (simp; assumption)⟩)).mono ?_; rintro r w8 ⟨rfl, rfl⟩) | (go_at_call 24; refine (RLeft_none _ _ (.inr ⟨_, rfl, by first | assumption | exact ((Frm.refl [] _).drewN _).cell (e2' _) (by simp) | exact ((Frm.refl [] _).drew).cell (e2' _) (by simp) | exact e2' _ | exact fF.cell (((Frm.refl [] _).drewN _).cell (e2' _) (by simp)) (by simp) | exact fF.cell (((Frm.refl [] _).drew).cell (e2' _) (by simp)) (by simp) | (simp; assumption)⟩)).mono ?_; rintro r w9 ⟨rfl, rfl⟩) | (go_at_call 26; refine (RFault_none _ _ (.inr ⟨_, rfl, by first | assumption | exact ((Frm.refl [] _).drewN _).cell (e2' _) (by simp) | exact ((Frm.refl [] _).drew).cell (e2' _) (by simp) | exact e2' _ | exact fF.cell (((Frm.refl [] _).drewN _).cell (e2' _) (by simp)) (by simp) | exact fF.cell (((Frm.refl [] _).drew).cell (e2' _) (by simp)) (by simp) | (simp; assumption)⟩)).mono ?_; unfold flt; rintro r w10 ⟨rfl, fF⟩) | (go_at_call 27; refine (REnd_none _ _ (.inr ⟨_, rfl, by first | assumption | exact ((Frm.refl [] _).drewN _).cell (e2' _) (by simp) | exact ((Frm.refl [] _).drew).cell (e2' _) (by simp) | exact e2' _ | exact fF.cell (((Frm.refl [] _).drewN _).cell (e2' _) (by simp)) (by simp) | exact fF.cell (((Frm.refl [] _).drew).cell (e2' _) (by simp)) (by simp) | (simp; assumption)⟩)).mono ?_; unfold flt; rintro r w11 ⟨rfl, fE⟩))
      go_wp2_with fail
      refine ⟨⟨2, by omega, rfl, N7.out.keep ?_⟩, by simp [intOf]⟩
      first
        | exact ((((Frm.refl [] w7).alloc _).drewN _).trans fF (by simp)).trans fE (by simp)
        | exact ((((Frm.refl [] w7).alloc _).drew).trans fF (by simp)).trans fE (by simp)
        | exact (((Frm.refl [] w7).alloc _).trans fF (by simp)).trans fE (by simp)
    · go_wp2_with fail
      refine (awake_any _).mono ?_
      rintro r wa ⟨rfl, fa⟩
      go_wp2
      go_ret
      exact ⟨rfl, hN.f.trans fa (by simp)⟩
end Go.Proofs.Ytappmjophnhdaaa
