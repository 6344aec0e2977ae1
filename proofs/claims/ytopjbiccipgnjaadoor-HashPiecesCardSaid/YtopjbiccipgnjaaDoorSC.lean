/-
  Contract of the document's Sum; no conditions but those that the theorem names.
-/
import Derived.Test.YtopjbiccipgnjaaDoorSB
import Derived.Test.YtopjbiccipgnjaaDoorHX
namespace Go.Proofs.YtopjbiccipgnjaaDoor
open Go.RowKit
set_option linter.unusedVariables false
set_option linter.unusedSimpArgs false
set_option maxRecDepth 100000

def RSumA (w1 : World) (L : List UInt8) (M b3 : Nat) (c : Value) (wr : World) : Prop := ∃ k : Nat, k ≤ M ∧ c = .int .i64 k ∧ IsW wr b3 36 (turnsP s0 L (List.range k)).l ∧ Frm [b3] w1 wr
def RSumB (w1 : World) (ws : List UInt32) (b6 : Nat) (c : Value) (wr : World) : Prop := ∃ k : Nat, k ≤ 32 ∧ c = .int .i64 k ∧ IsB wr b6 29 (digK ws k ++ List.replicate (32 - k) 0) ∧ Frm [b6] w1 wr
theorem fills_at (b : List UInt8) (k : Nat) (hk : k < (fills b).length) : (fills b)[k] = pieceL (filled b) k := by simp [fills]
theorem fills_len (b : List UInt8) : (fills b).length = pcs b.length := by simp [fills]
theorem piece_len (b : List UInt8) (k : Nat) (hk : k < pcs b.length) : (pieceL (filled b) k).length = 64 := by
  have := pcs_len b
  simp [pieceL]; omega
set_option maxHeartbeats 4000000 in
theorem RefSum_any (v : Value) (b sp : List UInt8) (w : World) (hS : SlB w v b sp) (hb : b.length ≤ 1000000) :
    Calls Tryd.prog 15 #[v] w fun r w' => r = .returned (.agg (bvs (sha b)).toArray) ∧ Frm [] w w' := by
  obtain ⟨a, cap, rfl, _, _⟩ := hS.form
  have HS := Lib.hid hS
  have hpc : pcs b.length ≤ 100000 := by unfold pcs; omega
  obtain ⟨R, hR⟩ : ∃ R, sha b = R := ⟨_, rfl⟩
  rw [hR]
  have HR := Lib.hid hR
  clear hS hR
  go_enter Tryd.func15, Tryd.ntmps15
  go_upto_region 1 with (fail)
  have I2 := Lib.hid (show IsB (w.alloc (.cells Z32 29)) w.heap.size 29 (List.replicate 32 0) from heap_alloc_new _ _)
  have F2 := Lib.hid ((Frm.refl [] w).alloc (.cells Z32 29))
  change Code.wp _ _ _ _ (w.alloc (.cells Z32 29))
  generalize w.alloc (.cells Z32 29) = w2 at *
  refine wp_region_lit ?_
  refine wpList_step (fun K hK => ?_)
  go_simp
  refine (RefStart_any _).mono ?_
  rintro r w3 ⟨rfl, f3⟩
  have I3 := Lib.hid (I2.out.keepF f3)
  have F3 := Lib.hid (F2.out.trans f3 (by simp))
  clear f3
  refine hK _ _ ?_
  clear hK K
  refine wpList_step (fun K hK => ?_)
  go_simp
  refine hK _ _ ?_
  clear hK K
  refine wpList_store_row rfl 36 (.tmp 3) (.tmp 8) rfl w3.heap.size (W32 s0.l).toArray rfl rfl 36 _ (heap_alloc_new _ (.cells Z8 36)) (by rw [W32_sz]; exact i36) (by rw [W32_sz]; rfl) (W32_one _) ?_
  have h4 : IsW ((w3.alloc (.cells Z8 36)).setRow w3.heap.size (W32 s0.l).toArray) w3.heap.size 36 s0.l := setRow_heap _ _ _ _ _ _ (heap_alloc_new _ (.cells Z8 36))
  have f4 := ((Frm.refl [] w3).alloc (.cells Z8 36)).setRow w3.heap.size (W32 s0.l).toArray (.inr (Nat.le_refl _))
  change wpList _ _ _ _ _ ((w3.alloc (.cells Z8 36)).setRow w3.heap.size (W32 s0.l).toArray)
  generalize (w3.alloc (.cells Z8 36)).setRow w3.heap.size (W32 s0.l).toArray = w4 at *
  have I4 := Lib.hid (I3.out.keepF f4)
  have F4 := Lib.hid (F3.out.trans f4 (by simp))
  have H4 := Lib.hid h4
  have Z3 := Lib.hid (show w.heap.size < w3.heap.size from lt_heap I3.out)
  clear f4 h4
  refine wpList_nil ?_
  go_wp2_with fail
  refine (RefFill_any _ b sp _ (HS.out.keep F4.out (by simp)) hb).mono ?_
  rintro r w5 ⟨vl, rfl, hl, f5⟩
  obtain ⟨al, capl, rfl, _, _⟩ := hl.form
  rw [fills_len] at hl ⊢
  have I5 := Lib.hid (I4.out.keepF f5)
  have H5 := Lib.hid (H4.out.keepF f5)
  have F5 := Lib.hid (F4.out.trans f5 (by simp))
  have HL := Lib.hid hl
  have Z4 := Lib.hid (lt_heap H4.out)
  clear hl f5 I2 I3 I4 H4 F2 F3 F4
  have hpc9 : (pcs b.length : Int) ≤ 100000 := by omega
  go_wp2_with fail
  obtain ⟨b3, hb3⟩ : ∃ b3, w3.heap.size = b3 := ⟨_, rfl⟩
  rw [hb3] at H5 Z3 Z4 ⊢
  clear hb3
  go_loopw [5] (RSumA w5 (filled b) (pcs b.length) b3) (fun c _ => pcs b.length - (intOf c).toNat)
  case atStart => exact ⟨0, by omega, rfl, H5.out, Frm.refl _ _⟩
  case round =>
    obtain ⟨k, hk, rfl, h, f⟩ := hrel
    by_cases hlt : k < pcs b.length
    · have hpl := piece_len b k hlt
      obtain ⟨g, cg, gu, capu, spu, e1, d1, o1⟩ := HL.out.row k (by rw [fills_len]; exact hlt) (by rw [fills_at]; intro e; rw [e] at hpl; simp at hpl)
      simp only [Value.slice.injEq] at e1
      obtain ⟨rfl, hx9, rfl⟩ := e1
      clear hx9
      rw [fills_at] at d1 o1
      rw [hpl] at d1 o1
      have hb3 : b3 < w5.heap.size := lt_heap H5.out
      have hgb : g ≠ b3 := by
        obtain ⟨vs, spv, q1, q2, q3, q4⟩ := HL.out.ex
        have := q3 g (by simp [blk])
        have := Z4.out
        omega
      have hub : gu ≠ b3 := by
        obtain ⟨vs, spv, q1, q2, q3, q4⟩ := HL.out.ex
        obtain ⟨u, sp', m1, m2, m3, m4⟩ := q2 k (by rw [fills_len]; exact hlt)
        have hg := q1
        obtain ⟨p1, p2 | ⟨g', cap', p2, p3, p4, p5, p6⟩⟩ := q1
        · cases p2.1
        · simp only [Value.slice.injEq] at p2
          obtain ⟨p7, _, _⟩ := p2
          have hgg : g' = g := by simpa using p7.symm
          subst hgg
          have hc := d1
          rw [cell_of_heap p6, List.getElem?_toArray, List.getElem?_append_left (by have := p1; rw [fills_len] at this; omega), m1] at hc
          simp at hc
          subst hc
          have := (m4 gu (by simp [blk])).1
          have := Z4.out
          omega
      have d2 := f.cell d1 (by simpa using hgb)
      have o2 := o1.keep f (by simpa [blk] using hub)
      have hts : turnsP s0 (filled b) (List.range (k + 1)) = turn (turnsP s0 (filled b) (List.range k)) (pieceL (filled b) k) := by rw [List.range_succ, turnsP_snoc]
      have hcall := fun W (hW : SlB W (.slice (some ⟨gu, 0, none⟩) 64 capu) (pieceL (filled b) k) spu) => RefTurn_any (turnsP s0 (filled b) (List.range k)) _ _ _ W hW hpl
      generalize turn (turnsP s0 (filled b) (List.range k)) (pieceL (filled b) k) = y at *
      generalize turnsP s0 (filled b) (List.range k) = x at *
      have HC := Lib.hid hcall
      have HTS := Lib.hid hts
      have H := Lib.hid h
      have F := Lib.hid f
      have O2 := Lib.hid o2
      clear hcall hts h f o1 o2 d1 hub hgb hb3 hpl
      go_wp2_with fail
      refine wp_region_any (by kernel_rfl) ?_
      change wpAny _ _ _ _ _ _ _ (World.drew _)
      refine wpAny_take (i := 1) (v := ?_) rfl (by kernel_rfl) (by kernel_rfl) (by kernel_rfl) (fun _ _ _ h => h) (Or.inl ⟨by rfl, ?_⟩) ?_
      rotate_left
      focus (intro w; go_simp; try with_reducible rfl)
      refine wpAny_take (i := 2) (v := ?_) rfl (by kernel_rfl) (by kernel_rfl) (by kernel_rfl) (fun _ _ _ h => h) (Or.inl ⟨by rfl, ?_⟩) ?_
      rotate_left
      focus (intro w; go_simp; try with_reducible rfl)
      refine wpAny_take (i := 3) (v := ?_) rfl (by kernel_rfl) (by kernel_rfl) (by kernel_rfl) (fun _ _ _ h => h) (Or.inl ⟨by rfl, ?_⟩) ?_
      rotate_left
      focus (intro w; go_simp; try with_reducible rfl)
      refine wpAny_ready (rs := [0, 4]) (by kernel_rfl) (by simp) ?_
      refine AllReady.cons rfl (fun K hK => ?_) ?_
      · rw [if_pos (by rfl)]
        refine wp_load_row 36 (.tmp 3) rfl b3 rfl 36 (W32 x.l).toArray (0, 0) _ (show wr.drew.heap[b3]? = _ from H.out) d36 rfl (by rw [W32_sz]; exact i36) ?_
        refine hK _ _ ?_
        clear hK K
        refine wpAny_ready (rs := [4]) (by kernel_rfl) (by simp) ?_
        refine AllReady.cons rfl (fun K hK => ?_) ?_
        · go_simp
          refine hK _ _ ?_
          clear hK K
          refine wpAny_ready (rs := [5]) (by kernel_rfl) (by simp) ?_
          refine AllReady.cons rfl (fun K hK => ?_) ?_
          · go_simp
            refine (HC.out _ ((O2.out.keep ((Frm.refl [] wr).drew) (by simp)).sl)).mono ?_
            rintro r w9 ⟨rfl, f9⟩
            have H9 := Lib.hid (show IsW w9 b3 36 x.l from f9.heap (show wr.drew.heap[b3]? = _ from H.out) (by simp))
            have F9 := Lib.hid ((F.out.drew).trans f9 (by simp))
            clear f9
            refine hK _ _ ?_
            clear hK K
            refine wpAny_take (i := 6) (v := ?_) rfl (by kernel_rfl) (by kernel_rfl) (by kernel_rfl) (fun _ _ _ h => h) (Or.inl ⟨by rfl, ?_⟩) ?_
            rotate_left
            focus (intro w; go_simp; try with_reducible rfl)
            refine wpAny_take (i := 7) (v := ?_) rfl (by kernel_rfl) (by kernel_rfl) (by kernel_rfl) (fun _ _ _ h => h) (Or.inl ⟨by rfl, ?_⟩) ?_
            rotate_left
            focus (intro w; go_simp; try with_reducible rfl)
            refine wpAny_take (i := 8) (v := ?_) rfl (by kernel_rfl) (by kernel_rfl) (by kernel_rfl) (fun _ _ _ h => h) (Or.inl ⟨by rfl, ?_⟩) ?_
            rotate_left
            focus (intro w; go_simp; try with_reducible rfl)
            refine wpAny_ready (rs := [9]) (by kernel_rfl) (by simp) ?_
            refine AllReady.cons rfl (fun K hK => ?_) ?_
            · rw [if_pos (by rfl)]
              refine wp_store_row 36 (.tmp 3) (.tmp 24) rfl b3 (W32 y.l).toArray rfl rfl 36 _ H9.out (by rw [W32_sz]; exact i36) (by rw [W32_sz, W32_sz]) (W32_one _) ?_
              have hnew : RSumA w5 (filled b) (pcs b.length) b3 (.int .i64 ((k : Int) + 1)) (w9.setRow b3 (W32 y.l).toArray) := ⟨k + 1, by omega, by go_num, by rw [HTS.out]; exact setRow_heap _ _ _ _ _ _ H9.out, F9.out.setRow _ _ (.inl (by simp))⟩
              have HN := Lib.hid hnew
              clear hnew
              generalize w9.setRow b3 (W32 y.l).toArray = w10 at *
              refine hK _ _ ?_
              clear hK K
              refine wpAny_done (by kernel_rfl) ?_ _
              go_wp2_with fail
              first | exact ⟨HN.out, by simp [intOf]; omega⟩ | (refine ⟨?_, by simp [intOf]; omega⟩; (repeat apply Exists.intro); exact ⟨HN.out, rfl⟩)
            exact AllReady.nil
          exact AllReady.nil
        exact AllReady.nil
      refine AllReady.cons rfl (fun K hK => ?_) ?_
      · go_simp
        refine hK _ _ ?_
        clear hK K
        refine wpAny_ready (rs := [0]) (by kernel_rfl) (by simp) ?_
        refine AllReady.cons rfl (fun K hK => ?_) ?_
        · rw [if_pos (by rfl)]
          refine wp_load_row 36 (.tmp 3) rfl b3 rfl 36 (W32 x.l).toArray (0, 0) _ (show wr.drew.heap[b3]? = _ from H.out) d36 rfl (by rw [W32_sz]; exact i36) ?_
          refine hK _ _ ?_
          clear hK K
          refine wpAny_ready (rs := [5]) (by kernel_rfl) (by simp) ?_
          refine AllReady.cons rfl (fun K hK => ?_) ?_
          · go_simp
            refine (HC.out _ ((O2.out.keep ((Frm.refl [] wr).drew) (by simp)).sl)).mono ?_
            rintro r w9 ⟨rfl, f9⟩
            have H9 := Lib.hid (show IsW w9 b3 36 x.l from f9.heap (show wr.drew.heap[b3]? = _ from H.out) (by simp))
            have F9 := Lib.hid ((F.out.drew).trans f9 (by simp))
            clear f9
            refine hK _ _ ?_
            clear hK K
            refine wpAny_take (i := 6) (v := ?_) rfl (by kernel_rfl) (by kernel_rfl) (by kernel_rfl) (fun _ _ _ h => h) (Or.inl ⟨by rfl, ?_⟩) ?_
            rotate_left
            focus (intro w; go_simp; try with_reducible rfl)
            refine wpAny_take (i := 7) (v := ?_) rfl (by kernel_rfl) (by kernel_rfl) (by kernel_rfl) (fun _ _ _ h => h) (Or.inl ⟨by rfl, ?_⟩) ?_
            rotate_left
            focus (intro w; go_simp; try with_reducible rfl)
            refine wpAny_take (i := 8) (v := ?_) rfl (by kernel_rfl) (by kernel_rfl) (by kernel_rfl) (fun _ _ _ h => h) (Or.inl ⟨by rfl, ?_⟩) ?_
            rotate_left
            focus (intro w; go_simp; try with_reducible rfl)
            refine wpAny_ready (rs := [9]) (by kernel_rfl) (by simp) ?_
            refine AllReady.cons rfl (fun K hK => ?_) ?_
            · rw [if_pos (by rfl)]
              refine wp_store_row 36 (.tmp 3) (.tmp 24) rfl b3 (W32 y.l).toArray rfl rfl 36 _ H9.out (by rw [W32_sz]; exact i36) (by rw [W32_sz, W32_sz]) (W32_one _) ?_
              have hnew : RSumA w5 (filled b) (pcs b.length) b3 (.int .i64 ((k : Int) + 1)) (w9.setRow b3 (W32 y.l).toArray) := ⟨k + 1, by omega, by go_num, by rw [HTS.out]; exact setRow_heap _ _ _ _ _ _ H9.out, F9.out.setRow _ _ (.inl (by simp))⟩
              have HN := Lib.hid hnew
              clear hnew
              generalize w9.setRow b3 (W32 y.l).toArray = w10 at *
              refine hK _ _ ?_
              clear hK K
              refine wpAny_done (by kernel_rfl) ?_ _
              go_wp2_with fail
              first | exact ⟨HN.out, by simp [intOf]; omega⟩ | (refine ⟨?_, by simp [intOf]; omega⟩; (repeat apply Exists.intro); exact ⟨HN.out, rfl⟩)
            exact AllReady.nil
          exact AllReady.nil
        exact AllReady.nil
      exact AllReady.nil
    · obtain rfl : k = pcs b.length := by omega
      have hsh : R = digK (turnsP s0 (filled b) (List.range (pcs b.length))).l 32 := HR.out.symm
      have hb3 : b3 < w5.heap.size := lt_heap H5.out
      have FW := Lib.hid (F5.out.trans f (fun i hi => by simp at hi; subst hi; exact .inr (by have := Z3.out; omega)))
      have IW := Lib.hid (f.heap I5.out (by have := Z3.out; simp; omega))
      have Z5 := Lib.hid (Nat.lt_of_lt_of_le hb3 f.size)
      generalize turnsP s0 (filled b) (List.range (pcs b.length)) = y at *
      have H := Lib.hid h
      have HSH := Lib.hid hsh
      clear h f hsh hb3
      have hyl : y.l.length = 8 := rfl
      generalize y.l = ws at *
      have HWL := Lib.hid hyl
      clear hyl
      go_upto_region 8 with (fail)
      have h6 : IsB (wr.alloc (.cells Z32 29)) wr.heap.size 29 (digK ws 0 ++ List.replicate (32 - 0) 0) := heap_alloc_new _ _
      have h3 : IsW (wr.alloc (.cells Z32 29)) b3 36 ws := heap_alloc_lt H.out
      have h2 := heap_alloc_lt (o := .cells Z32 29) IW.out
      have f6 := FW.out.alloc (.cells Z32 29)
      change Code.wp _ _ _ _ (wr.alloc (.cells Z32 29))
      obtain ⟨b6, hb6⟩ : ∃ b6, wr.heap.size = b6 := ⟨_, rfl⟩
      have hz5 := Z5.out
      rw [hb6] at h6 hz5 ⊢
      have hz6 : b6 < (wr.alloc (.cells Z32 29)).heap.size := by simp [hb6]
      have hwb : w.heap.size < b6 := by have := Z3.out; omega
      generalize wr.alloc (.cells Z32 29) = wz at *
      have START := Lib.hid (show RSumB wz ws b6 (.int .i64 0) wz from ⟨0, by omega, rfl, h6, Frm.refl _ _⟩)
      have H3 := Lib.hid h3
      have I2 := Lib.hid h2
      have F6 := Lib.hid f6
      have N36 := Lib.hid hz5
      have NWB := Lib.hid hwb
      clear h6 h3 h2 f6 hz5 hb6 hz6 hwb H IW FW Z5 I5 H5 F5 HL Z3 Z4
      go_wp2_with fail
      go_loopw [7] (RSumB wz ws b6) (fun c _ => 32 - (intOf c).toNat)
      case atStart => exact START.out
      case round =>
        clear START
        obtain ⟨k, hk, rfl, hX, f⟩ := hrel
        by_cases hlt : k < 32
        · have hql : k / 4 < ws.length := by rw [HWL.out]; omega
          have n36 := N36.out
          have hW : IsW _ b3 36 ws := f.heap H3.out (by simp; omega)
          have cq := hW.cell (k / 4) hql
          rw [at32_lt] at cq
          have hxl : k < (digK ws k ++ List.replicate (32 - k) (0 : UInt8)).length := by simp [digK_length]; omega
          have cx := hX.cell k hxl
          have zx := hX.frozen k
          generalize (digK ws k ++ List.replicate (32 - k) (0 : UInt8))[k]'hxl = x0 at cx
          have hset := digK_set ws k hlt
          have hdb : digB ws k = UInt8.ofNat ((at32 ws (k / 4)).toNat / 2 ^ (24 - 8 * (k % 4))) := rfl
          have hdv := dig_val (at32 ws (k / 4)) (24 - 8 * (k % 4))
          rw [← hdb] at hdv
          obtain ⟨q, hq⟩ : ∃ q, k / 4 = q := ⟨_, rfl⟩
          obtain ⟨r, hr⟩ : ∃ r, k % 4 = r := ⟨_, rfl⟩
          have hq0 : (k : Int) / 4 = (q : Int) := by omega
          have hr0 : (k : Int) % 4 = (r : Int) := by omega
          have hr4 : (r : Int) < 4 := by omega
          have hq8 : (q : Int) < 8 := by omega
          have hrp : (0 : Int) ≤ (r : Int) := by omega
          have hqp : (0 : Int) ≤ (q : Int) := by omega
          rw [hq] at cq hdv
          rw [hr] at hdv
          generalize at32 ws q = xq at *
          generalize digB ws k = db at *
          have hk32 : (k : Int) < 32 := by omega
          have HSET := Lib.hid hset
          have HDV := Lib.hid hdv
          have HX := Lib.hid hX
          have HF := Lib.hid f
          clear hset hdv hdb hW hX f hql hxl hq hr n36
          go_wp2_with fail
          refine ⟨⟨k + 1, by omega, by go_num, ?_, HF.out.setCell _ _ (.inl (by simp))⟩, by simp [intOf]; omega⟩
          rw [← HSET.out]
          exact HX.out.store k db (by rw [HDV.out]; rfl)
        · obtain rfl : k = 32 := by omega
          have hX' : IsB wr b6 29 (digK ws 32) := by simpa using hX
          have hsz : (bvs (digK ws 32)).toArray.size = 32 := by simp [bvs_length, digK_length]
          have hi2 := f.heap I2.out (by have := NWB.out; simp; omega)
          have hfr : Frm [] w (wr.setRow w.heap.size (bvs (digK ws 32)).toArray) := (F6.out.trans f (fun i hi => by simp at hi; subst hi; exact .inr (by have := NWB.out; omega))).setRow _ _ (.inr (Nat.le_refl _))
          have hres := setRow_heap wr w.heap.size _ (bvs (digK ws 32)).toArray 29 (0, 0) hi2
          have HX := Lib.hid hX'
          have HI2 := Lib.hid hi2
          have HFR := Lib.hid hfr
          have HRES := Lib.hid hres
          have HSZ := Lib.hid hsz
          clear hX hX' f hi2 hfr hres hsz
          go_upto_region 12 with (fail)
          refine wp_region_lit ?_
          refine wpList_load_row rfl 29 (.tmp 6) rfl b6 rfl 29 (bvs (digK ws 32)).toArray (0, 0) _ HX.out d29 rfl (by rw [HSZ.out]; exact i29) ?_
          refine wpList_store_row rfl 29 (.tmp 2) (.tmp 42) rfl w.heap.size (bvs (digK ws 32)).toArray rfl rfl 29 _ HI2.out (by rw [HSZ.out]; exact i29) (by rw [HSZ.out]; simp [bvs_length]) (bvs_oneA _) ?_
          generalize wr.setRow w.heap.size (bvs (digK ws 32)).toArray = w9 at *
          go_wp2_with fail
          rw [HSH.out]
          exact bodyPost_ret (v := .agg (bvs (digK ws 32)).toArray) (results_cell_row rfl _ _ _ 29 _ (0, 0) _ rfl HRES.out d29 rfl (by rw [HSZ.out]; exact i29)) rfl ⟨rfl, HFR.out⟩
end Go.Proofs.YtopjbiccipgnjaaDoor
