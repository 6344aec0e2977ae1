/-
  The walk of HashTurns; no conditions but those that each theorem names.
-/
import Derived.Test.YtopjbiccipgnjaaDoorHX
namespace Go.Proofs.YtopjbiccipgnjaaDoor
open Go.RowKit
set_option linter.unusedVariables false
set_option linter.unusedSimpArgs false
set_option maxRecDepth 100000

def zero8 : S8 := ⟨0, 0, 0, 0, 0, 0, 0, 0⟩
set_option maxHeartbeats 1000000 in
theorem RefTurn_no (s : S8) (v : Value) (l sp : List UInt8) (w : World) (hS : SlB w v l sp) (h64 : l.length ≠ 64) (hl : l.length ≤ 1000000) :
    Calls Tryd.prog 20 #[.agg (W32 s.l).toArray, v] w fun r w' => r = .returned (.tuple #[.agg (W32 zero8.l).toArray, .int .i64 2]) ∧ Frm [] w w' := by
  obtain ⟨a, cap, rfl, _, _⟩ := hS.form
  have hb : (((l.length : Nat) : Int) != 64) = true := by simp; omega
  clear hS
  go_enter Tryd.func20, Tryd.ntmps20
  go_wp2_with fail
  refine bodyPost_ret (v := .tuple #[.agg (W32 zero8.l).toArray, .int .i64 2]) (by simp [results, Tryd.results20, go_sem, W32, zero8, S8.l, wi]) rfl ⟨rfl, ?_⟩
  exact ((Frm.refl _ _).alloc _).alloc _
theorem turns_form (s : S8) (l : List UInt8) (hl : l.length ≤ 1000000) : ∃ (y : S8) (e : Int), (∀ v sp w, SlB w v l sp → Glob w → Calls Tryd.prog 19 #[.agg (W32 s.l).toArray, v] w fun r w' => r = .returned (.tuple #[.agg (W32 y.l).toArray, .int .i64 e]) ∧ Frm [] w w') ∧
    ∀ v sp w, SlB w v l sp → Calls Tryd.prog 20 #[.agg (W32 s.l).toArray, v] w fun r w' => r = .returned (.tuple #[.agg (W32 y.l).toArray, .int .i64 e]) ∧ Frm [] w w' := by
  by_cases h : l.length = 64
  · exact ⟨turn s l, 0, fun v sp w hS hG => Turn_any s v l sp w hS h hG, fun v sp w hS => RefTurn_any s v l sp w hS h⟩
  · exact ⟨zero8, 2, fun v sp w hS hG => Turn_no s v l sp l.length w hS rfl h hl, fun v sp w hS => RefTurn_no s v l sp w hS h hl⟩
set_option maxHeartbeats 4000000 in
theorem turns_any (s : S8) (v : Value) (l sp : List UInt8) (w : World) (hS : SlB w v l sp) (hl : l.length ≤ 100) (hG : Glob w) :
    Calls Tryd.prog 4 #[.agg (W32 s.l).toArray, v] w fun r w' => YesF w r w' := by
  obtain ⟨a, cap, rfl, _, _⟩ := hS.form
  obtain ⟨y, e, hT, hR⟩ := turns_form s l (by omega)
  have HT := Lib.hid hT
  have HR := Lib.hid hR
  have HS := Lib.hid hS
  have HG := Lib.hid hG
  have HL := Lib.hid hl
  have hl9 : ((l.length : Nat) : Int) ≤ 100 := by omega
  have A0 := Lib.hid (show IsW (w.alloc (.cells (W32 s.l).toArray 36)) w.heap.size 36 s.l from heap_alloc_new _ _)
  have F0 := Lib.hid ((Frm.refl [] w).alloc (.cells (W32 s.l).toArray 36))
  clear hT hR hS hG hl
  go_enter Tryd.func4, Tryd.ntmps4
  go_wp2_with fail
  generalize w.alloc (.cells (W32 s.l).toArray 36) = w0 at *
  refine (Lent_any _ l sp _ (HS.out.keep F0.out (by simp)) (by have := HL.out; omega)).mono ?_
  rintro r w1 ⟨rfl, o1, f1⟩
  have A1 := Lib.hid (A0.out.keepF f1)
  have F1 := Lib.hid (F0.out.trans f1 (by simp))
  have O1 := Lib.hid o1
  have SZ := Lib.hid f1.size
  have SZ0 := Lib.hid (lt_heap A0.out)
  clear o1 f1
  go_upto_region 4 with (fail)
  refine wp_region_lit ?_
  refine wpList_load_row rfl 36 (.tmp 2) rfl w.heap.size rfl 36 (W32 s.l).toArray (0, 0) _ A1.out d36 rfl (by rw [W32_sz]; exact i36) ?_
  refine wpList_step (fun K hK => ?_)
  go_simp
  refine hK _ _ ?_
  clear hK K
  refine wpList_step (fun K hK => ?_)
  go_simp
  refine (HT.out _ _ _ O1.out.sl (HG.out.keep F1.out (by simp))).mono ?_
  rintro r w2 ⟨rfl, f2⟩
  have A2 := Lib.hid (A1.out.keepF f2)
  have F2 := Lib.hid (F1.out.trans f2 (by simp))
  have O2 := Lib.hid (O1.out.keep f2 (by simp))
  clear f2
  refine hK _ _ ?_
  clear hK K
  refine wpList_step (fun K hK => ?_)
  go_simp
  refine hK _ _ ?_
  clear hK K
  refine wpList_step (fun K hK => ?_)
  go_simp
  refine hK _ _ ?_
  clear hK K
  refine wpList_step (fun K hK => ?_)
  go_simp
  refine hK _ _ ?_
  clear hK K
  refine wpList_step (fun K hK => ?_)
  go_simp
  refine hK _ _ ?_
  clear hK K
  refine wpList_store_row rfl 36 (.tmp 6) (.tmp 20) rfl w2.heap.size (W32 y.l).toArray rfl rfl 36 _ (heap_alloc_new _ (.cells Z8 36)) (by rw [W32_sz]; exact i36) (by rw [W32_sz]; rfl) (W32_one _) ?_
  have h3 : IsW ((w2.alloc (.cells Z8 36)).setRow w2.heap.size (W32 y.l).toArray) w2.heap.size 36 y.l := setRow_heap _ _ _ _ _ _ (heap_alloc_new _ (.cells Z8 36))
  have f3 := ((Frm.refl [] w2).alloc (.cells Z8 36)).setRow w2.heap.size (W32 y.l).toArray (.inr (Nat.le_refl _))
  change wpList _ _ _ _ _ ((w2.alloc (.cells Z8 36)).setRow w2.heap.size (W32 y.l).toArray)
  generalize (w2.alloc (.cells Z8 36)).setRow w2.heap.size (W32 y.l).toArray = w3 at *
  have A3 := Lib.hid (A2.out.keepF f3)
  have F3 := Lib.hid (F2.out.trans f3 (by simp))
  have O3 := Lib.hid (O2.out.keep f3 (by simp))
  have B3 := Lib.hid h3
  clear f3 h3
  refine wpList_step (fun K hK => ?_)
  go_simp
  refine hK _ _ ?_
  clear hK K
  refine wpList_nil ?_
  go_upto_region 5 with (fail)
  refine wp_region_lit ?_
  refine wpList_load_row rfl 36 (.tmp 2) rfl w.heap.size rfl 36 (W32 s.l).toArray (0, 0) _ A3.out d36 rfl (by rw [W32_sz]; exact i36) ?_
  refine wpList_step (fun K hK => ?_)
  go_simp
  refine hK _ _ ?_
  clear hK K
  refine wpList_step (fun K hK => ?_)
  go_simp
  refine (HR.out _ _ _ (HS.out.keep F3.out (by simp))).mono ?_
  rintro r w4 ⟨rfl, f4⟩
  have F4 := Lib.hid (F3.out.trans f4 (by simp))
  have O4 := Lib.hid (O3.out.keep f4 (by simp))
  have B4 := Lib.hid (B3.out.keepF f4)
  clear f4
  refine hK _ _ ?_
  clear hK K
  refine wpList_step (fun K hK => ?_)
  go_simp
  refine hK _ _ ?_
  clear hK K
  refine wpList_step (fun K hK => ?_)
  go_simp
  refine hK _ _ ?_
  clear hK K
  refine wpList_step (fun K hK => ?_)
  go_simp
  refine hK _ _ ?_
  clear hK K
  refine wpList_step (fun K hK => ?_)
  go_simp
  refine hK _ _ ?_
  clear hK K
  refine wpList_store_row rfl 36 (.tmp 8) (.tmp 26) rfl w4.heap.size (W32 y.l).toArray rfl rfl 36 _ (heap_alloc_new _ (.cells Z8 36)) (by rw [W32_sz]; exact i36) (by rw [W32_sz]; rfl) (W32_one _) ?_
  have h5 : IsW ((w4.alloc (.cells Z8 36)).setRow w4.heap.size (W32 y.l).toArray) w4.heap.size 36 y.l := setRow_heap _ _ _ _ _ _ (heap_alloc_new _ (.cells Z8 36))
  have f5 := ((Frm.refl [] w4).alloc (.cells Z8 36)).setRow w4.heap.size (W32 y.l).toArray (.inr (Nat.le_refl _))
  change wpList _ _ _ _ _ ((w4.alloc (.cells Z8 36)).setRow w4.heap.size (W32 y.l).toArray)
  generalize (w4.alloc (.cells Z8 36)).setRow w4.heap.size (W32 y.l).toArray = w5 at *
  have F5 := Lib.hid (F4.out.trans f5 (by simp))
  have O5 := Lib.hid (O4.out.keep f5 (by simp))
  have B5 := Lib.hid (B4.out.keepF f5)
  have C5 := Lib.hid h5
  clear f5 h5
  refine wpList_step (fun K hK => ?_)
  go_simp
  refine hK _ _ ?_
  clear hK K
  refine wpList_nil ?_
  have heq : ∀ W, (binOp .eql 36 (.agg (W32 y.l).toArray) (.agg (W32 y.l).toArray)).run Tryd.prog W = .ok (.bool true) W := fun W => by rw [eql36 y.l y.l rfl rfl W]; simp
  have heq0 : ∀ W, (binOp .eql 36 (.agg (W32 s0.l).toArray) (.agg (W32 s0.l).toArray)).run Tryd.prog W = .ok (.bool true) W := fun W => by rw [eql36 s0.l s0.l rfl rfl W]; simp
  have hgd : ∀ x y xs ys W, (eqGuard .eql 36 x y (.agg xs) (.agg ys)).run Tryd.prog W = .ok () W := fun x y xs ys W => guard_agg _ _ _ _ _ _ (by kernel_rfl) W
  go_upto_region 6 with (fail)
  refine wp_region_lit ?_
  refine wpList_load_row rfl 36 (.tmp 6) rfl w2.heap.size rfl 36 (W32 y.l).toArray (0, 0) _ B5.out d36 rfl (by rw [W32_sz]; exact i36) ?_
  refine wpList_load_row rfl 36 (.tmp 8) rfl w4.heap.size rfl 36 (W32 y.l).toArray (0, 0) _ C5.out d36 rfl (by rw [W32_sz]; exact i36) ?_
  generalize (W32 y.l).toArray = vy at *
  refine wpList_step (fun K hK => ?_)
  go_simp
  refine hK _ _ ?_
  clear hK K
  refine wpList_step (fun K hK => ?_)
  go_simp
  refine hK _ _ ?_
  clear hK K
  refine wpList_step (fun K hK => ?_)
  go_simp
  refine hK _ _ ?_
  clear hK K
  refine wpList_step (fun K hK => ?_)
  go_simp
  refine hK _ _ ?_
  clear hK K
  refine wpList_step (fun K hK => ?_)
  go_simp
  refine hK _ _ ?_
  clear hK K
  refine wpList_step (fun K hK => ?_)
  go_simp
  refine hK _ _ ?_
  clear hK K
  refine wpList_step (fun K hK => ?_)
  go_simp
  refine hK _ _ ?_
  clear hK K
  refine wpList_step (fun K hK => ?_)
  go_simp
  refine (Start_any _).mono ?_
  rintro r w6 ⟨rfl, f6⟩
  refine hK _ _ ?_
  clear hK K
  refine wpList_step (fun K hK => ?_)
  go_simp
  refine (RefStart_any _).mono ?_
  rintro r w7 ⟨rfl, f7⟩
  refine hK _ _ ?_
  clear hK K
  refine wpList_step (fun K hK => ?_)
  go_simp
  refine hK _ _ ?_
  clear hK K
  refine wpList_step (fun K hK => ?_)
  go_simp
  refine hK _ _ ?_
  clear hK K
  refine wpList_step (fun K hK => ?_)
  go_simp
  refine hK _ _ ?_
  clear hK K
  refine wpList_step (fun K hK => ?_)
  go_simp
  refine hK _ _ ?_
  clear hK K
  refine wpList_step (fun K hK => ?_)
  go_simp
  refine hK _ _ ?_
  clear hK K
  have F7 := Lib.hid ((F5.out.trans f6 (by simp)).trans f7 (by simp))
  have O7 := Lib.hid ((O5.out.keep f6 (by simp)).keep f7 (by simp))
  clear f6 f7
  refine wpList_step (fun K hK => ?_)
  go_simp
  refine (Kept_true _ _ _ _ l sp _ O7.out (HS.out.keep F7.out (by simp)) (by have := HL.out; omega)).mono ?_
  rintro r w8 ⟨rfl, f8⟩
  have F8 := Lib.hid (F7.out.trans f8 (by simp))
  clear f8
  refine hK _ _ ?_
  clear hK K
  refine wpList_step (fun K hK => ?_)
  go_simp
  refine hK _ _ ?_
  clear hK K
  refine wpList_step (fun K hK => ?_)
  go_simp
  refine hK _ _ ?_
  clear hK K
  refine wpList_step (fun K hK => ?_)
  go_simp
  refine (awake_any _ (HG.out.keep F8.out (by simp))).mono ?_
  rintro r w9 ⟨rfl, f9⟩
  have F9 := Lib.hid (F8.out.trans f9 (by simp))
  clear f9
  refine hK _ _ ?_
  clear hK K
  refine wpList_step (fun K hK => ?_)
  go_simp
  refine hK _ _ ?_
  clear hK K
  refine wpList_step (fun K hK => ?_)
  go_simp
  refine hK _ _ ?_
  clear hK K
  refine wpList_nil ?_
  go_wp2_with fail
  go_ret
  exact ⟨rfl, F9.out⟩
set_option maxHeartbeats 1000000 in
theorem turns_long (s : S8) (v : Value) (l sp : List UInt8) (w : World) (hS : SlB w v l sp) (hl : 100 < l.length) (hG : Glob w) :
    Calls Tryd.prog 4 #[.agg (W32 s.l).toArray, v] w fun r w' => YesF w r w' := by
  obtain ⟨a, cap, rfl, _, hm⟩ := hS.form
  have hm9 : ((l.length : Nat) : Int) ≤ 9223372036854775807 := by simp [maxLen] at hm; omega
  have hl9 : (100 : Int) < ((l.length : Nat) : Int) := by omega
  have F0 := Lib.hid ((Frm.refl [] w).alloc (.cells (W32 s.l).toArray 36))
  have HG := Lib.hid hG
  clear hG hS hl hm
  go_enter Tryd.func4, Tryd.ntmps4
  go_wp2_with fail
  refine (awake_any _ (HG.out.keep F0.out (by simp))).mono ?_
  rintro r w1 ⟨rfl, f1⟩
  have F1 := Lib.hid (F0.out.trans f1 (by simp))
  clear f1
  go_wp2_with fail
  go_ret
  exact ⟨rfl, F1.out⟩
theorem s8_of (l : List UInt32) (hl : l.length = 8) : ∃ s : S8, l = s.l := by
  match l, hl with
  | [a, b, c, d, e, f, g, h], _ => exact ⟨⟨a, b, c, d, e, f, g, h⟩, rfl⟩
theorem turns_row (x : List UInt32) (v : Value) (l sp : List UInt8) (w : World) (hx : x.length = 8) (hS : SlB w v l sp) (hG : Glob w) :
    Calls Tryd.prog 4 #[.agg (W32 x).toArray, v] w fun r w' => YesF w r w' := by
  obtain ⟨s, rfl⟩ := s8_of x hx
  by_cases h : l.length ≤ 100
  · exact turns_any s v l sp _ hS h hG
  · exact turns_long s v l sp _ hS (by omega) hG
end Go.Proofs.YtopjbiccipgnjaaDoor
