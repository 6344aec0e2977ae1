/-
  Contract of the law's 'turned'; no conditions but those that the theorem names.
-/
import Derived.Test.YtopjbiccipgnjaaDoorPA
import Derived.Test.YtopjbiccipgnjaaDoorSC
namespace Go.Proofs.YtopjbiccipgnjaaDoor
open Go.RowKit
set_option linter.unusedVariables false
set_option linter.unusedSimpArgs false
set_option maxRecDepth 100000

def TurRel (w1 : World) (L : List UInt8) (M b4 : Nat) (c : Value) (wr : World) : Prop :=
  ∃ k : Nat, k ≤ M ∧ c = .int .i64 (64 * (k : Int)) ∧ IsW wr b4 36 (turnsP s0 L (List.range k)).l ∧ Frm [b4] w1 wr
theorem SlB.blk_lt {w : World} {v : Value} {l sp : List UInt8} (h : SlB w v l sp) (hne : 0 < l.length) : ∀ k ∈ blk v, k < w.heap.size := by
  obtain ⟨h1, ⟨h2, h3, h4⟩ | ⟨a, h2, h3, h4⟩ | ⟨b, off, cap, h2, h3, h4, h5, h6⟩⟩ := h
  · omega
  · omega
  · subst h2
    intro k hk
    simp [blk] at hk
    subst hk
    have h0 : 0 < (bvs l ++ bvs sp).length := by simp [bvs_length]; omega
    have := h6 0 _ (List.getElem?_eq_getElem h0)
    exact World.block_lt_of_cell? _ _ this
theorem exec_slice_lh {P : Program} {o : Oper} {a : Act} {w : World} {t : TypeId} {v u : Value} {x y : Int} (s lo hi : Operand) (hop : o.op = Op.slice t s (some lo) (some hi) none) (hs : a.eval s = v) (h1 : a.eval lo = .int .i64 x) (h2 : a.eval hi = .int .i64 y)
    (ht : P.underlying t = some (.slice (P.elem t))) (h : (Instr.slice t v (some (.int .i64 x)) (some (.int .i64 y)) none).run P w = .ok u w) : (execOp a.eval o).run P w = .ok (.value u) w := by
  simp [execOp, hop, hs, h1, h2, run_sliceAt_slice w t _ _ _ _ ht, h, Result.andThen]
set_option maxHeartbeats 4000000 in
theorem turnedL_any (v : Value) (L sp : List UInt8) (M : Nat) (w : World) (hS : SlB w v L sp) (hl : L.length = 64 * M) (hM : M ≤ 100000) (hG : Glob w) :
    Calls Tryd.prog 31 #[v] w fun r w' => r = .returned (.tuple #[.agg (W32 (turnsP s0 L (List.range M)).l).toArray, .bool true]) ∧ Frm [] w w' := by
  obtain ⟨a, cap, rfl, _, _⟩ := hS.form
  have HS := Lib.hid hS
  have HG := Lib.hid hG
  have HLL := Lib.hid hl
  clear hS hG
  go_enter Tryd.func31, Tryd.ntmps31
  go_upto_region 1 with (fail)
  have I2 := Lib.hid (show (w.alloc (.cells Z8 36)).heap[w.heap.size]? = some (.cells Z8 36 (0, 0)) from heap_alloc_new _ _)
  have F2 := Lib.hid ((Frm.refl [] w).alloc (.cells Z8 36))
  change Code.wp _ _ _ _ (w.alloc (.cells Z8 36))
  generalize w.alloc (.cells Z8 36) = w2 at *
  refine wp_region_lit ?_
  refine wpList_step (fun K hK => ?_)
  go_simp
  refine (Start_any _).mono ?_
  rintro r w3 ⟨rfl, f3⟩
  have I3 := Lib.hid (f3.heap I2.out (by simp))
  have F3 := Lib.hid (F2.out.trans f3 (by simp))
  clear f3
  refine hK _ _ ?_
  clear hK K
  refine wpList_step (fun K hK => ?_)
  go_simp
  refine hK _ _ ?_
  clear hK K
  refine wpList_store_row rfl 36 (.tmp 4) (.tmp 8) rfl w3.heap.size (W32 s0.l).toArray rfl rfl 36 _ (heap_alloc_new _ (.cells Z8 36)) (by rw [W32_sz]; exact i36) (by rw [W32_sz]; rfl) (W32_one _) ?_
  have h4 : IsW ((w3.alloc (.cells Z8 36)).setRow w3.heap.size (W32 s0.l).toArray) w3.heap.size 36 s0.l := setRow_heap _ _ _ _ _ _ (heap_alloc_new _ (.cells Z8 36))
  have f4 := ((Frm.refl [] w3).alloc (.cells Z8 36)).setRow w3.heap.size (W32 s0.l).toArray (.inr (Nat.le_refl _))
  change wpList _ _ _ _ _ ((w3.alloc (.cells Z8 36)).setRow w3.heap.size (W32 s0.l).toArray)
  generalize (w3.alloc (.cells Z8 36)).setRow w3.heap.size (W32 s0.l).toArray = w4 at *
  have I4 := Lib.hid (f4.heap I3.out (by simp))
  have F4 := Lib.hid (F3.out.trans f4 (by simp))
  have H4 := Lib.hid h4
  have Z3 := Lib.hid (show w.heap.size < w3.heap.size from World.block_lt_of_cell? w3 ⟨w.heap.size, 0, none⟩ (by rw [cell_of_heap I3.out]; rfl))
  clear f4 h4
  refine wpList_nil ?_
  go_wp2_with fail
  obtain ⟨b4, hb4⟩ : ∃ b4, w3.heap.size = b4 := ⟨_, rfl⟩
  rw [hb4] at H4 Z3 ⊢
  have SP := Lib.hid (HS.out.keep F4.out (by simp))
  have B4 := Lib.hid (show b4 < w4.heap.size from lt_heap H4.out)
  have BK := Lib.hid (show 0 < L.length → ∀ i ∈ blk (.slice a L.length cap), i ≠ b4 from fun hp i hi => by
    have := HS.out.blk_lt hp i hi
    have := Z3.out
    omega)
  clear hb4 I2 I3 F2 F3
  go_loopw [5] (TurRel w4 L M b4) (fun c _ => M - (intOf c).toNat / 64)
  case atStart => exact ⟨0, by omega, by simp, H4.out, Frm.refl _ _⟩
  case round =>
    obtain ⟨k, hk, rfl, h, f⟩ := hrel
    by_cases hlt : k < M
    · have hle : 64 * k + 64 ≤ L.length := by rw [hl]; omega
      have hO := SP.out.keep f (fun i hi => by have := BK.out (by omega) i hi; simpa using this)
      obtain ⟨a4, c4, hsl, hS4⟩ := slice_lh BT hO (64 * k) (64 * k + 64) (by omega) hle
      rw [show 64 * k + 64 - 64 * k = 64 by omega] at hsl hS4
      have hsl2 := fun wx => hsl (64 * (k : Int)) (64 * (k : Int) + 64) wx (by omega) (by omega)
      have hpl : (pieceL L k).length = 64 := by simp [pieceL]; omega
      rw [show List.take 64 (List.drop (64 * k) L) = pieceL L k from rfl] at hS4
      have hts : turnsP s0 L (List.range (k + 1)) = turn (turnsP s0 L (List.range k)) (pieceL L k) := by rw [List.range_succ, turnsP_snoc]
      have hcall := fun W (fW : Frm [] wr W) => Turn_any (turnsP s0 L (List.range k)) _ _ _ W (hS4.keep fW (by simp)) hpl (((HG.out.keep F4.out (by simp)).keep f (by have := Z3.out; simp; omega)).keep fW (by simp))
      generalize turn (turnsP s0 L (List.range k)) (pieceL L k) = y at *
      generalize turnsP s0 L (List.range k) = x at *
      have HC := Lib.hid hcall
      have HTS := Lib.hid hts
      have H := Lib.hid h
      have F := Lib.hid f
      have hk9 : (k : Int) ≤ 100000 := by omega
      have hlt9 : 64 * (k : Int) < (L.length : Int) := by omega
      have hL9 : (L.length : Int) ≤ 6400000 := by omega
      have e64 : IntKind.i64.wrap (64 * (k : Int) + 64) = 64 * (k : Int) + 64 := IntWalk.i64_in _ (by omega)
      clear hcall hts h f hS4 hpl hsl hO hle hl
      go_wp2_with fail
      refine wp_region_any (by kernel_rfl) ?_
      change wpAny _ _ _ _ _ _ _ (World.drew _)
      refine wpAny_take (i := 1) (v := ?_) rfl (by kernel_rfl) (by kernel_rfl) (by kernel_rfl) (fun _ _ _ h => h) (Or.inl ⟨by rfl, ?_⟩) ?_
      rotate_left
      focus (intro w; go_simp; try with_reducible rfl)
      refine wpAny_take (i := 2) (v := ?_) rfl (by kernel_rfl) (by kernel_rfl) (by kernel_rfl) (fun _ _ _ h => h) (Or.inl ⟨by rfl, ?_⟩) ?_
      rotate_left
      focus (intro w; go_simp; try with_reducible rfl)
      refine wpAny_take (i := 3) (v := ?_) rfl (by kernel_rfl) (by kernel_rfl) (by kernel_rfl) (fun _ _ _ h => h) (Or.inl ⟨by rfl, ?_⟩) ?_
      rotate_left
      focus (intro w; go_simp; try with_reducible rfl)
      refine wpAny_take (i := 4) (v := ?_) rfl (by kernel_rfl) (by kernel_rfl) (by kernel_rfl) (fun _ _ _ h => h) (Or.inl ⟨by rfl, ?_⟩) ?_
      rotate_left
      focus (intro w; go_simp; try with_reducible rfl)
      refine wpAny_take (i := 5) (v := .slice a4 64 c4) rfl (by kernel_rfl) (by kernel_rfl) (by kernel_rfl) (fun _ _ _ h => h) (Or.inl ⟨by rfl, fun wx => exec_slice_lh (.tmp 17) (.tmp 18) (.tmp 20) rfl rfl rfl rfl (by kernel_rfl) (hsl2 wx)⟩) ?_
      refine wpAny_ready (rs := [0, 10]) (by kernel_rfl) (by simp) ?_
      refine AllReady.cons rfl (fun K hK => ?_) ?_
      · rw [if_pos (by rfl)]
        refine wp_load_row 36 (.tmp 4) rfl b4 rfl 36 (W32 x.l).toArray (0, 0) _ (show (wr.drew).heap[b4]? = _ from H.out) d36 rfl (by rw [W32_sz]; exact i36) ?_
        refine hK _ _ ?_
        clear hK K
        refine wpAny_ready (rs := [6, 10]) (by kernel_rfl) (by simp) ?_
        refine AllReady.cons rfl (fun K hK => ?_) ?_
        · go_simp
          refine (HC.out _ ((Frm.refl [] wr).drew)).mono ?_
          rintro r w9 ⟨rfl, f9⟩
          have F9 := Lib.hid f9
          clear f9
          refine hK _ _ ?_
          clear hK K
          refine wpAny_take (i := 7) (v := ?_) rfl (by kernel_rfl) (by kernel_rfl) (by kernel_rfl) (fun _ _ _ h => h) (Or.inl ⟨by rfl, ?_⟩) ?_
          rotate_left
          focus (intro w; go_simp; try with_reducible rfl)
          refine wpAny_take (i := 8) (v := ?_) rfl (by kernel_rfl) (by kernel_rfl) (by kernel_rfl) (fun _ _ _ h => h) (Or.inl ⟨by rfl, ?_⟩) ?_
          rotate_left
          focus (intro w; go_simp; try with_reducible rfl)
          refine wpAny_take (i := 9) (v := ?_) rfl (by kernel_rfl) (by kernel_rfl) (by kernel_rfl) (fun _ _ _ h => h) (Or.inl ⟨by rfl, ?_⟩) ?_
          rotate_left
          focus (intro w; go_simp; try with_reducible rfl)
          refine wpAny_ready (rs := [10]) (by kernel_rfl) (by simp) ?_
          refine AllReady.cons rfl (fun K hK => ?_) ?_
          · go_simp
            refine hK _ _ ?_
            clear hK K
            have NA9 := Lib.hid (heap_alloc_new w9 (.cells Z8 36))
            have FA9 := Lib.hid ((((Frm.refl [] wr).drew).trans F9.out (by simp)).alloc (.cells Z8 36))
            change wpAny _ _ _ _ _ _ _ (w9.alloc (.cells Z8 36))
            generalize w9.alloc (.cells Z8 36) = wA at *
            refine wpAny_ready (rs := [11]) (by kernel_rfl) (by simp) ?_
            refine AllReady.cons rfl (fun K hK => ?_) ?_
            · rw [if_pos (by rfl)]
              refine wp_store_row 36 (.tmp 6) (.tmp 23) rfl w9.heap.size (W32 y.l).toArray rfl rfl 36 _ NA9.out (by rw [W32_sz]; exact i36) (by rw [W32_sz]; rfl) (W32_one _) ?_
              have hy6 := setRow_heap (wA) (w9.heap.size) _ (W32 y.l).toArray 36 (0, 0) NA9.out
              have hf6 : Frm [] wr ((wA).setRow (w9.heap.size) (W32 y.l).toArray) := (FA9.out).setRow _ _ (.inr (by have := F9.out.size; simp at this ⊢ <;> omega))
              obtain ⟨b6, hb6⟩ : ∃ b6, w9.heap.size = b6 := ⟨_, rfl⟩
              rw [hb6] at hy6 hf6 ⊢
              generalize (wA).setRow b6 (W32 y.l).toArray = w10 at *
              have h46 : b4 < w4.heap.size := lt_heap H4.out
              have hq9 : wr.drew.heap.size = wr.heap.size := rfl
              have hb46 : b4 ≠ b6 := by have h1 := F.out.size; have h2 := F9.out.size; simp at h2 hb6; omega
              have Y6 := Lib.hid hy6
              have F6 := Lib.hid (F.out.trans hf6 (by simp))
              have X6 := Lib.hid (hf6.heap H.out (by simp))
              clear hy6 hf6 hb6 F9 HC h46
              refine hK _ _ ?_
              clear hK K
              refine wpAny_take (i := 12) (v := ?_) rfl (by kernel_rfl) (by kernel_rfl) (by kernel_rfl) (fun _ _ _ h => h) (Or.inl ⟨by rfl, ?_⟩) ?_
              rotate_left
              focus (intro w; go_simp; try with_reducible rfl)
              refine wpAny_done (by kernel_rfl) ?_ _
              clear H4 B4 HS SP BK HG I4 F4 hsl2
              go_upto_region 8 with (fail)
              refine wp_region_lit ?_
              refine wpList_load_row rfl 36 (.tmp 6) rfl b6 rfl 36 (W32 y.l).toArray (0, 0) _ Y6.out d36 rfl (by rw [W32_sz]; exact i36) ?_
              refine wpList_store_row rfl 36 (.tmp 4) (.tmp 28) rfl b4 (W32 y.l).toArray rfl rfl 36 _ X6.out (by rw [W32_sz]; exact i36) (by rw [W32_sz, W32_sz]) (W32_one _) ?_
              have hnew : TurRel w4 L M b4 (.int .i64 (64 * (k : Int) + 64)) (w10.setRow b4 (W32 y.l).toArray) := ⟨k + 1, by omega, by go_num, by rw [HTS.out]; exact setRow_heap _ _ _ _ _ _ X6.out, F6.out.setRow _ _ (.inl (by simp))⟩
              have HN := Lib.hid hnew
              clear hnew
              generalize w10.setRow b4 (W32 y.l).toArray = w11 at *
              go_wp2_with fail
              have hms : M - (64 * (k : Int) + 64).toNat / 64 < M - (64 * (k : Int)).toNat / 64 := by omega
              exact ⟨HN.out, by simpa [intOf] using hms⟩
            exact AllReady.nil
          exact AllReady.nil
        refine AllReady.cons rfl (fun K hK => ?_) ?_
        · go_simp
          refine hK _ _ ?_
          clear hK K
          refine wpAny_ready (rs := [6]) (by kernel_rfl) (by simp) ?_
          refine AllReady.cons rfl (fun K hK => ?_) ?_
          · go_simp
            refine (HC.out _ (((Frm.refl [] wr).drew).alloc (.cells Z8 36))).mono ?_
            rintro r w9 ⟨rfl, f9⟩
            have F9 := Lib.hid f9
            clear f9
            refine hK _ _ ?_
            clear hK K
            refine wpAny_take (i := 7) (v := ?_) rfl (by kernel_rfl) (by kernel_rfl) (by kernel_rfl) (fun _ _ _ h => h) (Or.inl ⟨by rfl, ?_⟩) ?_
            rotate_left
            focus (intro w; go_simp; try with_reducible rfl)
            refine wpAny_take (i := 8) (v := ?_) rfl (by kernel_rfl) (by kernel_rfl) (by kernel_rfl) (fun _ _ _ h => h) (Or.inl ⟨by rfl, ?_⟩) ?_
            rotate_left
            focus (intro w; go_simp; try with_reducible rfl)
            refine wpAny_take (i := 9) (v := ?_) rfl (by kernel_rfl) (by kernel_rfl) (by kernel_rfl) (fun _ _ _ h => h) (Or.inl ⟨by rfl, ?_⟩) ?_
            rotate_left
            focus (intro w; go_simp; try with_reducible rfl)
            refine wpAny_ready (rs := [11]) (by kernel_rfl) (by simp) ?_
            refine AllReady.cons rfl (fun K hK => ?_) ?_
            · rw [if_pos (by rfl)]
              refine wp_store_row 36 (.tmp 6) (.tmp 23) rfl wr.heap.size (W32 y.l).toArray rfl rfl 36 _ (F9.out.heap (show (wr.drew.alloc (.cells Z8 36)).heap[wr.heap.size]? = some (.cells Z8 36 (0, 0)) from heap_alloc_new wr.drew (.cells Z8 36)) (by simp)) (by rw [W32_sz]; exact i36) (by rw [W32_sz]; rfl) (W32_one _) ?_
              have hy6 := setRow_heap (w9) (wr.heap.size) _ (W32 y.l).toArray 36 (0, 0) (F9.out.heap (show (wr.drew.alloc (.cells Z8 36)).heap[wr.heap.size]? = some (.cells Z8 36 (0, 0)) from heap_alloc_new wr.drew (.cells Z8 36)) (by simp))
              have hf6 : Frm [] wr ((w9).setRow (wr.heap.size) (W32 y.l).toArray) := ((((Frm.refl [] wr).drew).alloc (.cells Z8 36)).trans F9.out (by simp)).setRow _ _ (.inr (by have := F9.out.size; simp at this ⊢ <;> omega))
              obtain ⟨b6, hb6⟩ : ∃ b6, wr.heap.size = b6 := ⟨_, rfl⟩
              rw [hb6] at hy6 hf6 ⊢
              generalize (w9).setRow b6 (W32 y.l).toArray = w10 at *
              have h46 : b4 < w4.heap.size := lt_heap H4.out
              have hq9 : wr.drew.heap.size = wr.heap.size := rfl
              have hb46 : b4 ≠ b6 := by have h1 := F.out.size; have h2 := F9.out.size; simp at h2 hb6; omega
              have Y6 := Lib.hid hy6
              have F6 := Lib.hid (F.out.trans hf6 (by simp))
              have X6 := Lib.hid (hf6.heap H.out (by simp))
              clear hy6 hf6 hb6 F9 HC h46
              refine hK _ _ ?_
              clear hK K
              refine wpAny_take (i := 12) (v := ?_) rfl (by kernel_rfl) (by kernel_rfl) (by kernel_rfl) (fun _ _ _ h => h) (Or.inl ⟨by rfl, ?_⟩) ?_
              rotate_left
              focus (intro w; go_simp; try with_reducible rfl)
              refine wpAny_done (by kernel_rfl) ?_ _
              clear H4 B4 HS SP BK HG I4 F4 hsl2
              go_upto_region 8 with (fail)
              refine wp_region_lit ?_
              refine wpList_load_row rfl 36 (.tmp 6) rfl b6 rfl 36 (W32 y.l).toArray (0, 0) _ Y6.out d36 rfl (by rw [W32_sz]; exact i36) ?_
              refine wpList_store_row rfl 36 (.tmp 4) (.tmp 28) rfl b4 (W32 y.l).toArray rfl rfl 36 _ X6.out (by rw [W32_sz]; exact i36) (by rw [W32_sz, W32_sz]) (W32_one _) ?_
              have hnew : TurRel w4 L M b4 (.int .i64 (64 * (k : Int) + 64)) (w10.setRow b4 (W32 y.l).toArray) := ⟨k + 1, by omega, by go_num, by rw [HTS.out]; exact setRow_heap _ _ _ _ _ _ X6.out, F6.out.setRow _ _ (.inl (by simp))⟩
              have HN := Lib.hid hnew
              clear hnew
              generalize w10.setRow b4 (W32 y.l).toArray = w11 at *
              go_wp2_with fail
              have hms : M - (64 * (k : Int) + 64).toNat / 64 < M - (64 * (k : Int)).toNat / 64 := by omega
              exact ⟨HN.out, by simpa [intOf] using hms⟩
            exact AllReady.nil
          exact AllReady.nil
        exact AllReady.nil
      refine AllReady.cons rfl (fun K hK => ?_) ?_
      · go_simp
        refine hK _ _ ?_
        clear hK K
        refine wpAny_ready (rs := [0]) (by kernel_rfl) (by simp) ?_
        refine AllReady.cons rfl (fun K hK => ?_) ?_
        · rw [if_pos (by rfl)]
          refine wp_load_row 36 (.tmp 4) rfl b4 rfl 36 (W32 x.l).toArray (0, 0) _ (show (wr.drew.alloc (.cells Z8 36)).heap[b4]? = _ from (heap_alloc_lt (show wr.drew.heap[b4]? = _ from H.out))) d36 rfl (by rw [W32_sz]; exact i36) ?_
          refine hK _ _ ?_
          clear hK K
          refine wpAny_ready (rs := [6]) (by kernel_rfl) (by simp) ?_
          refine AllReady.cons rfl (fun K hK => ?_) ?_
          · go_simp
            refine (HC.out _ (((Frm.refl [] wr).drew).alloc (.cells Z8 36))).mono ?_
            rintro r w9 ⟨rfl, f9⟩
            have F9 := Lib.hid f9
            clear f9
            refine hK _ _ ?_
            clear hK K
            refine wpAny_take (i := 7) (v := ?_) rfl (by kernel_rfl) (by kernel_rfl) (by kernel_rfl) (fun _ _ _ h => h) (Or.inl ⟨by rfl, ?_⟩) ?_
            rotate_left
            focus (intro w; go_simp; try with_reducible rfl)
            refine wpAny_take (i := 8) (v := ?_) rfl (by kernel_rfl) (by kernel_rfl) (by kernel_rfl) (fun _ _ _ h => h) (Or.inl ⟨by rfl, ?_⟩) ?_
            rotate_left
            focus (intro w; go_simp; try with_reducible rfl)
            refine wpAny_take (i := 9) (v := ?_) rfl (by kernel_rfl) (by kernel_rfl) (by kernel_rfl) (fun _ _ _ h => h) (Or.inl ⟨by rfl, ?_⟩) ?_
            rotate_left
            focus (intro w; go_simp; try with_reducible rfl)
            refine wpAny_ready (rs := [11]) (by kernel_rfl) (by simp) ?_
            refine AllReady.cons rfl (fun K hK => ?_) ?_
            · rw [if_pos (by rfl)]
              refine wp_store_row 36 (.tmp 6) (.tmp 23) rfl wr.heap.size (W32 y.l).toArray rfl rfl 36 _ (F9.out.heap (show (wr.drew.alloc (.cells Z8 36)).heap[wr.heap.size]? = some (.cells Z8 36 (0, 0)) from heap_alloc_new wr.drew (.cells Z8 36)) (by simp)) (by rw [W32_sz]; exact i36) (by rw [W32_sz]; rfl) (W32_one _) ?_
              have hy6 := setRow_heap (w9) (wr.heap.size) _ (W32 y.l).toArray 36 (0, 0) (F9.out.heap (show (wr.drew.alloc (.cells Z8 36)).heap[wr.heap.size]? = some (.cells Z8 36 (0, 0)) from heap_alloc_new wr.drew (.cells Z8 36)) (by simp))
              have hf6 : Frm [] wr ((w9).setRow (wr.heap.size) (W32 y.l).toArray) := ((((Frm.refl [] wr).drew).alloc (.cells Z8 36)).trans F9.out (by simp)).setRow _ _ (.inr (by have := F9.out.size; simp at this ⊢ <;> omega))
              obtain ⟨b6, hb6⟩ : ∃ b6, wr.heap.size = b6 := ⟨_, rfl⟩
              rw [hb6] at hy6 hf6 ⊢
              generalize (w9).setRow b6 (W32 y.l).toArray = w10 at *
              have h46 : b4 < w4.heap.size := lt_heap H4.out
              have hq9 : wr.drew.heap.size = wr.heap.size := rfl
              have hb46 : b4 ≠ b6 := by have h1 := F.out.size; have h2 := F9.out.size; simp at h2 hb6; omega
              have Y6 := Lib.hid hy6
              have F6 := Lib.hid (F.out.trans hf6 (by simp))
              have X6 := Lib.hid (hf6.heap H.out (by simp))
              clear hy6 hf6 hb6 F9 HC h46
              refine hK _ _ ?_
              clear hK K
              refine wpAny_take (i := 12) (v := ?_) rfl (by kernel_rfl) (by kernel_rfl) (by kernel_rfl) (fun _ _ _ h => h) (Or.inl ⟨by rfl, ?_⟩) ?_
              rotate_left
              focus (intro w; go_simp; try with_reducible rfl)
              refine wpAny_done (by kernel_rfl) ?_ _
              clear H4 B4 HS SP BK HG I4 F4 hsl2
              go_upto_region 8 with (fail)
              refine wp_region_lit ?_
              refine wpList_load_row rfl 36 (.tmp 6) rfl b6 rfl 36 (W32 y.l).toArray (0, 0) _ Y6.out d36 rfl (by rw [W32_sz]; exact i36) ?_
              refine wpList_store_row rfl 36 (.tmp 4) (.tmp 28) rfl b4 (W32 y.l).toArray rfl rfl 36 _ X6.out (by rw [W32_sz]; exact i36) (by rw [W32_sz, W32_sz]) (W32_one _) ?_
              have hnew : TurRel w4 L M b4 (.int .i64 (64 * (k : Int) + 64)) (w10.setRow b4 (W32 y.l).toArray) := ⟨k + 1, by omega, by go_num, by rw [HTS.out]; exact setRow_heap _ _ _ _ _ _ X6.out, F6.out.setRow _ _ (.inl (by simp))⟩
              have HN := Lib.hid hnew
              clear hnew
              generalize w10.setRow b4 (W32 y.l).toArray = w11 at *
              go_wp2_with fail
              have hms : M - (64 * (k : Int) + 64).toNat / 64 < M - (64 * (k : Int)).toNat / 64 := by omega
              exact ⟨HN.out, by simpa [intOf] using hms⟩
            exact AllReady.nil
          exact AllReady.nil
        exact AllReady.nil
      exact AllReady.nil
    · obtain rfl : k = M := by omega
      have hI := f.heap I4.out (by have := Z3.out; simp; omega)
      have hfr : Frm [] w (wr.setRow w.heap.size (W32 (turnsP s0 L (List.range k)).l).toArray) := (F4.out.trans f (fun i hi => by simp at hi; subst hi; exact .inr (by have := Z3.out; omega))).setRow _ _ (.inr (Nat.le_refl _))
      have hres := setRow_heap wr w.heap.size _ (W32 (turnsP s0 L (List.range k)).l).toArray 36 (0, 0) hI
      have hsz := W32_sz (turnsP s0 L (List.range k))
      have HL9 : (L.length : Int) = 64 * (k : Int) := by omega
      generalize hy : turnsP s0 L (List.range k) = y at *
      have HY := Lib.hid hy
      clear hy
      have HI := Lib.hid hI
      have H := Lib.hid h
      have HFR := Lib.hid hfr
      have HRES := Lib.hid hres
      have HSZ := Lib.hid hsz
      have hx9 : decide (64 * (k : Int) < (L.length : Int)) = false := by simp; omega
      generalize L.length = nL at *
      clear h f hI hfr hres hsz HL9
      go_upto_region 9 with (fail)
      refine wp_region_lit ?_
      refine wpList_load_row rfl 36 (.tmp 4) rfl b4 rfl 36 (W32 y.l).toArray (0, 0) _ H.out d36 rfl (by rw [HSZ.out]; exact i36) ?_
      refine wpList_store_row rfl 36 (.tmp 2) (.tmp 29) rfl w.heap.size (W32 y.l).toArray rfl rfl 36 _ HI.out (by rw [HSZ.out]; exact i36) (by rw [HSZ.out]; rfl) (W32_one _) ?_
      generalize wr.setRow w.heap.size (W32 y.l).toArray = w9 at *
      go_wp2_with fail
      rw [HY.out]
      exact bodyPost_ret (v := .tuple #[.agg (W32 y.l).toArray, .bool true]) ((results_cell_tmp (p := 2) (q := 3) (t1 := 36) rfl _ _ w.heap.size 36 _ (0, 0) _ rfl HRES.out d36 rfl (by rw [HSZ.out]; exact i36)).trans rfl) rfl ⟨rfl, HFR.out⟩
end Go.Proofs.YtopjbiccipgnjaaDoor
