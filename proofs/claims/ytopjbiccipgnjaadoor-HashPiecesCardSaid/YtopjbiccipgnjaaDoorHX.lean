/-
  Contract of the document's Turn; no conditions but those that each theorem names.
-/
import Derived.Test.YtopjbiccipgnjaaDoorHV
import Derived.Test.YtopjbiccipgnjaaDoorHW
namespace Go.Proofs.YtopjbiccipgnjaaDoor
open Go.RowKit
set_option linter.unusedVariables false
set_option linter.unusedSimpArgs false
set_option maxRecDepth 100000

theorem quiet_add {P : Program} {f : FuncId} {args : Array Value} {w : World} {a n : Nat} {v : Value}
    (h : Calls P f args (w.drewN (a + n)) fun e w' => e = .returned v ∧ ∃ m, w' = (w.drewN (a + n)).drewN m) :
    Calls P f args (w.drewN (a + n)) fun e w'' => e = .returned v ∧ ∃ m, w'' = w.drewN (a + m) :=
  h.mono fun _ _ ⟨he, m, hm⟩ => ⟨he, n + m, by rw [hm, World.drewN_drewN, Nat.add_assoc]⟩
def RTurnRel (w : World) (s : S8) (ws : List UInt32) (b6 b7 b8 : Nat) (c : Value) (wr : World) : Prop :=
  ∃ k : Nat, k ≤ 64 ∧ c = .int .i64 k ∧ IsW wr b6 61 kTab ∧ IsW wr b7 61 ws ∧ (∃ x : S8, x = s.run kTab ws k ∧ IsW wr b8 36 x.l) ∧ IsW wr w.heap.size 36 s.l ∧ IsW wr (w.heap.size + 1) 36 [0, 0, 0, 0, 0, 0, 0, 0] ∧ Frm [] w wr
def RAddRel (w : World) (b8 : Nat) (xs ss : List UInt32) (c : Value) (wr : World) : Prop :=
  ∃ k : Nat, k ≤ 8 ∧ c = .int .i64 k ∧ IsW wr b8 36 (addK xs ss k) ∧ IsW wr w.heap.size 36 ss ∧ IsW wr (w.heap.size + 1) 36 [0, 0, 0, 0, 0, 0, 0, 0] ∧ Frm [] w wr
theorem Z64W : W32 (List.replicate 64 0) = List.replicate 64 (.int .u32 0) := W32_zero 64
theorem S8.T' (s : S8) (k w : UInt32) : s.h + (ror32 s.e 6 ^^^ ror32 s.e 11 ^^^ ror32 s.e 25) + (s.e &&& s.f ^^^ ~~~s.e &&& s.g) + k + w = s.T k w := rfl
set_option maxHeartbeats 8000000 in
theorem RefTurn_any (s : S8) (v : Value) (l sp : List UInt8) (w : World) (hS : SlB w v l sp) (hl : l.length = 64) :
    Calls Tryd.prog 20 #[.agg (W32 s.l).toArray, v] w fun r w' => r = .returned (.tuple #[.agg (W32 (turn s l).l).toArray, .int .i64 0]) ∧ Frm [] w w' := by
  obtain ⟨b, off, cap, rfl, hc⟩ : ∃ b off cap, v = .slice (some ⟨b, off, none⟩) 64 cap ∧ ∀ i (h : i < l.length), w.cell? ⟨b, off + i, none⟩ = some (.int .u8 (l[i].toNat : Int)) := by
    obtain ⟨h1, h2 | ⟨a, h2, h3, h4⟩ | ⟨b, off, cap, h2, h3, h4, h5, h6⟩⟩ := id hS
    · omega
    · omega
    · subst h2
      exact ⟨b, off, cap, by rw [hl], fun i hi => by have := SlB.cellB hS i hi; exact this⟩
  have hw := fun W (f : Frm [] w W) => RefWords_any b off cap l hl W (fun i h => f.cell (hc i h) (by simp))
  have hwl := wordsK_length l 64
  have htu : turn s l = (s.run kTab (wordsK l 64) 64).add s := rfl
  rw [htu]
  generalize wordsK l 64 = ws at *
  have HW := Lib.hid hw
  have HWL := Lib.hid hwl
  clear hS hl hc hw hwl htu
  have h0 : IsW ((w.alloc (.cells (W32 s.l).toArray 36)).alloc (.cells Z8 36)) w.heap.size 36 s.l := heap_alloc_lt (heap_alloc_new _ _)
  have h1 : IsW ((w.alloc (.cells (W32 s.l).toArray 36)).alloc (.cells Z8 36)) (w.heap.size + 1) 36 [0, 0, 0, 0, 0, 0, 0, 0] := heap_alloc_at (by simp)
  have hF : Frm [] w ((w.alloc (.cells (W32 s.l).toArray 36)).alloc (.cells Z8 36)) := ((Frm.refl _ _).alloc _).alloc _
  have H0 := Lib.hid h0
  have H1 := Lib.hid h1
  have HF := Lib.hid hF
  clear h0 h1 hF
  go_enter Tryd.func20, Tryd.ntmps20
  go_upto_region 3 with (fail)
  change Code.wp _ _ _ _ ((w.alloc (.cells (W32 s.l).toArray 36)).alloc (.cells Z8 36))
  generalize (w.alloc (.cells (W32 s.l).toArray 36)).alloc (.cells Z8 36) = W at *
  refine wp_region_lit ?_
  refine wpList_step (fun K hK => ?_)
  go_simp
  refine (table_any _).mono ?_
  rintro r w1 ⟨rfl, f1⟩
  have F1 := Lib.hid (HF.out.trans f1 (by simp))
  have A0 := Lib.hid (f1.heap H0.out (by simp))
  have A1 := Lib.hid (f1.heap H1.out (by simp))
  clear f1
  refine hK _ _ ?_
  clear hK K
  refine wpList_step (fun K hK => ?_)
  go_simp
  refine hK _ _ ?_
  clear hK K
  refine wpList_step (fun K hK => ?_)
  go_simp
  refine (HW.out _ F1.out).mono ?_
  rintro r w2 ⟨rfl, f2⟩
  have F2 := Lib.hid (F1.out.trans f2 (by simp))
  have B0 := Lib.hid (f2.heap A0.out (by simp))
  have B1 := Lib.hid (f2.heap A1.out (by simp))
  clear f2
  refine hK _ _ ?_
  clear hK K
  refine wpList_step (fun K hK => ?_)
  go_simp
  refine hK _ _ ?_
  clear hK K
  refine wpList_step (fun K hK => ?_)
  go_simp
  refine hK _ _ ?_
  clear hK K
  have hz64 : (W32 (List.replicate 64 (0 : UInt32))).toArray.size = 64 := by rw [List.size_toArray, W32_length, List.length_replicate]
  have hzk : (W32 kTab).toArray.size = 64 := by rw [List.size_toArray, W32_length, kTab_len]
  have hzw : (W32 ws).toArray.size = 64 := by rw [List.size_toArray, W32_length, HWL.out]
  have g0 : ((w2.alloc (.cells (W32 (List.replicate 64 0)).toArray 61)).alloc (.cells (W32 (List.replicate 64 0)).toArray 61)).heap[w2.heap.size]? = some (.cells (W32 (List.replicate 64 0)).toArray 61 (0, 0)) := heap_alloc_lt (heap_alloc_new _ _)
  have g1 : ((w2.alloc (.cells (W32 (List.replicate 64 0)).toArray 61)).alloc (.cells (W32 (List.replicate 64 0)).toArray 61)).heap[w2.heap.size + 1]? = some (.cells (W32 (List.replicate 64 0)).toArray 61 (0, 0)) := heap_alloc_at (by simp)
  have f3 := ((Frm.refl [] w2).alloc (.cells (W32 (List.replicate 64 0)).toArray 61)).alloc (.cells (W32 (List.replicate 64 0)).toArray 61)
  change wpList _ _ _ _ _ ((w2.alloc (.cells (W32 (List.replicate 64 0)).toArray 61)).alloc (.cells (W32 (List.replicate 64 0)).toArray 61))
  generalize (w2.alloc (.cells (W32 (List.replicate 64 0)).toArray 61)).alloc (.cells (W32 (List.replicate 64 0)).toArray 61) = w3 at *
  refine wpList_store_row rfl 61 (.tmp 6) (.tmp 23) rfl w2.heap.size (W32 kTab).toArray rfl rfl 61 _ g0 (by rw [hzk]; exact i61) (by rw [hzk, hz64]) (W32_one _) ?_
  have h6 : IsW (w3.setRow w2.heap.size (W32 kTab).toArray) w2.heap.size 61 kTab := setRow_heap _ _ _ _ _ _ g0
  have g2 := (setRow_other w3 w2.heap.size (w2.heap.size + 1) (W32 kTab).toArray (by omega)).trans g1
  have f4 := f3.setRow w2.heap.size (W32 kTab).toArray (.inr (Nat.le_refl _))
  generalize w3.setRow w2.heap.size (W32 kTab).toArray = w4 at *
  refine wpList_store_row rfl 61 (.tmp 7) (.tmp 25) rfl (w2.heap.size + 1) (W32 ws).toArray rfl rfl 61 _ g2 (by rw [hzw]; exact i61) (by rw [hzw, hz64]) (W32_one _) ?_
  have h7 : IsW (w4.setRow (w2.heap.size + 1) (W32 ws).toArray) (w2.heap.size + 1) 61 ws := setRow_heap _ _ _ _ _ _ g2
  have h6' : IsW (w4.setRow (w2.heap.size + 1) (W32 ws).toArray) w2.heap.size 61 kTab := (setRow_other _ _ _ _ (by omega)).trans h6
  have f5 := f4.setRow (w2.heap.size + 1) (W32 ws).toArray (.inr (by omega))
  generalize w4.setRow (w2.heap.size + 1) (W32 ws).toArray = w5 at *
  have F5 := Lib.hid (F2.out.trans f5 (by simp))
  have C6 := Lib.hid h6'
  have C7 := Lib.hid h7
  have C0 := Lib.hid (show IsW w5 w.heap.size 36 s.l from f5.heap B0.out (by simp))
  have C1 := Lib.hid (show IsW w5 (w.heap.size + 1) 36 [0, 0, 0, 0, 0, 0, 0, 0] from f5.heap B1.out (by simp))
  have hb0 := lt_heap B1.out
  have hb5 := lt_heap h7
  clear g0 g1 g2 f3 f4 f5 h6 h6' h7 hz64 hzk hzw
  refine wpList_nil ?_
  go_upto_region 4 with (fail)
  refine wp_region_lit ?_
  refine wpList_load_row rfl 36 (.tmp 2) rfl w.heap.size rfl 36 (W32 s.l).toArray (0, 0) _ C0.out d36 rfl (by rw [W32_sz]; exact i36) ?_
  refine wpList_step (fun K hK => ?_)
  go_simp
  refine hK _ _ ?_
  clear hK K
  refine wpList_store_row rfl 36 (.tmp 8) (.tmp 26) rfl w5.heap.size (W32 s.l).toArray rfl rfl 36 _ (heap_alloc_new _ (.cells Z8 36)) (by rw [W32_sz]; exact i36) (by rw [W32_sz]; rfl) (W32_one _) ?_
  have h8 : IsW ((w5.alloc (.cells Z8 36)).setRow w5.heap.size (W32 s.l).toArray) w5.heap.size 36 s.l := setRow_heap _ _ _ _ _ _ (heap_alloc_new _ (.cells Z8 36))
  have f6 := ((Frm.refl [] w5).alloc (.cells Z8 36)).setRow w5.heap.size (W32 s.l).toArray (.inr (Nat.le_refl _))
  change wpList _ _ _ _ _ ((w5.alloc (.cells Z8 36)).setRow w5.heap.size (W32 s.l).toArray)
  generalize (w5.alloc (.cells Z8 36)).setRow w5.heap.size (W32 s.l).toArray = w6 at *
  obtain ⟨b6, hb6⟩ : ∃ b6, w2.heap.size = b6 := ⟨_, rfl⟩
  obtain ⟨b7, hb7⟩ : ∃ b7, w2.heap.size + 1 = b7 := ⟨_, rfl⟩
  obtain ⟨b8, hb8⟩ : ∃ b8, w5.heap.size = b8 := ⟨_, rfl⟩
  have START : RTurnRel w s ws b6 b7 b8 (.int .i64 0) w6 := by
    refine ⟨0, by omega, rfl, ?_, ?_, ⟨s, rfl, ?_⟩, f6.heap C0.out (by simp), f6.heap C1.out (by simp), F5.out.trans f6 (by simp)⟩
    · rw [← hb6]; exact f6.heap C6.out (by simp)
    · rw [← hb7]; exact f6.heap C7.out (by simp)
    · rw [← hb8]; exact h8
  have hne : w.heap.size + 1 < b6 ∧ b7 = b6 + 1 ∧ b7 < b8 := by
    have := F2.out.size
    omega
  rw [hb8, hb7, hb6]
  clear hb6 hb7 hb8 h8 f6 C0 C1 C6 C7 F5 B0 B1 F2 A0 A1 F1 H0 H1 HF hb0 hb5 HW
  have START' := Lib.hid START
  have NE := Lib.hid hne
  clear START hne
  go_wp2_with fail
  go_loopw [9] (RTurnRel w s ws b6 b7 b8) (fun c _ => 64 - (intOf c).toNat)
  case atStart => exact START'.out
  case round =>
    clear START'
    obtain ⟨k, hk, rfl, h6, h7, ⟨x, hx, h8⟩, h0, h1, f⟩ := hrel
    have HF := Lib.hid f
    have H6 := Lib.hid h6
    have H7 := Lib.hid h7
    have H8 := Lib.hid h8
    have H0 := Lib.hid h0
    have H1 := Lib.hid h1
    by_cases hlt : k < 64
    · have k6 := h6.cell k (by rw [kTab_len]; exact hlt)
      have k7 := h7.cell k (by rw [HWL.out]; exact hlt)
      rw [at32_lt] at k6 k7
      have c0 := h8.cell 0 (by simp [S8.l])
      have c1 := h8.cell 1 (by simp [S8.l])
      have c2 := h8.cell 2 (by simp [S8.l])
      have c3 := h8.cell 3 (by simp [S8.l])
      have c4 := h8.cell 4 (by simp [S8.l])
      have c5 := h8.cell 5 (by simp [S8.l])
      have c6 := h8.cell 6 (by simp [S8.l])
      have c7 := h8.cell 7 (by simp [S8.l])
      simp only [S8.l, List.getElem_cons_zero, List.getElem_cons_succ] at c0 c1 c2 c3 c4 c5 c6 c7
      have hxs : s.run kTab ws (k + 1) = x.step (at32 kTab k) (at32 ws k) := by rw [hx]; rfl
      have HXS := Lib.hid hxs
      generalize at32 kTab k = kk at *
      generalize at32 ws k = ww at *
      obtain ⟨xa, xb, xc, xd, xe, xf, xg, xh⟩ := x
      simp only at *
      have hk64 : (k : Int) < 64 := by omega
      clear hx hxs h6 h7 h8 h0 h1 f
      go_wp2_with fail
      go_quiet (fail)
      go_wp2_with fail
      have hx1 := wi_xor
      have hx2 := wi_add
      have hx3 := wi_add'
      have hx4 := wi_and
      have hx5 := wi_unxor
      go_quiet ((go_at_call 41; first | exact Calls.quiet_of (RefRight_j _ _ (by decide) (by decide) _) | exact quiet_add (RefRight_j _ _ (by decide) (by decide) _)))
      obtain ⟨tt, ht⟩ : ∃ tt, S8.T ⟨xa, xb, xc, xd, xe, xf, xg, xh⟩ kk ww = tt := ⟨_, rfl⟩
      have ht2 := ht
      simp only [S8.T] at ht2
      rw [ht2]
      have HT := Lib.hid ht
      clear ht ht2
      go_upto_region 11 with (go_at_call 41; refine (RefRight_j _ _ (by decide) (by decide) _).mono ?_; rintro r w2 ⟨rfl, m2, rfl⟩)
      obtain ⟨uu, hu⟩ : ∃ uu, S8.U ⟨xa, xb, xc, xd, xe, xf, xg, xh⟩ = uu := ⟨_, rfl⟩
      have hu2 := hu
      simp only [S8.U] at hu2
      have HU := Lib.hid hu
      try simp only [World.drewN_drewN]
      refine wp_region_lit ?_
      refine wpList_step (fun K hK => ?_)
      go_simp
      refine hK _ _ ?_
      clear hK K
      refine wpList_step (fun K hK => ?_)
      go_simp
      refine hK _ _ ?_
      clear hK K
      refine wpList_step (fun K hK => ?_)
      go_simp
      refine hK _ _ ?_
      clear hK K
      refine wpList_step (fun K hK => ?_)
      go_simp
      refine hK _ _ ?_
      clear hK K
      refine wpList_step (fun K hK => ?_)
      go_simp
      refine hK _ _ ?_
      clear hK K
      refine wpList_step (fun K hK => ?_)
      go_simp
      refine hK _ _ ?_
      clear hK K
      refine wpList_step (fun K hK => ?_)
      go_simp
      refine hK _ _ ?_
      clear hK K
      refine wpList_step (fun K hK => ?_)
      go_simp
      refine hK _ _ ?_
      clear hK K
      refine wpList_step (fun K hK => ?_)
      go_simp
      refine hK _ _ ?_
      clear hK K
      refine wpList_step (fun K hK => ?_)
      go_simp
      refine hK _ _ ?_
      clear hK K
      refine wpList_step (fun K hK => ?_)
      go_simp
      refine hK _ _ ?_
      clear hK K
      refine wpList_step (fun K hK => ?_)
      go_simp
      refine hK _ _ ?_
      clear hK K
      refine wpList_step (fun K hK => ?_)
      go_simp
      refine hK _ _ ?_
      clear hK K
      refine wpList_step (fun K hK => ?_)
      go_simp
      refine hK _ _ ?_
      clear hK K
      refine wpList_store_row rfl 36 (.tmp 8) (.tmp 104) rfl b8 (W32 (S8.l ⟨tt + uu, xa, xb, xc, xd + tt, xe, xf, xg⟩)).toArray rfl rfl 36 (W32 (S8.l ⟨xa, xb, xc, xd, xe, xf, xg, xh⟩)).toArray H8.out (by rw [W32_sz]; exact i36) (by rw [W32_sz, W32_sz]) (W32_one _) ?_
      have hnew : ∀ n, RTurnRel w s ws b6 b7 b8 (.int .i64 ((k : Int) + 1)) ((wr.drewN n).setRow b8 (W32 (S8.l ⟨tt + uu, xa, xb, xc, xd + tt, xe, xf, xg⟩)).toArray) := fun n => by
        have hne := NE.out
        refine ⟨k + 1, by omega, by go_num, ?_, ?_, ⟨_, HXS.out.symm, ?_⟩, ?_, ?_, (HF.out.drewN n).setRow _ _ (.inr (by omega))⟩
        · exact (setRow_other _ _ _ _ (by omega)).trans H6.out
        · exact (setRow_other _ _ _ _ (by omega)).trans H7.out
        · have h9 : IsW ((wr.drewN n).setRow b8 (W32 (S8.l ⟨tt + uu, xa, xb, xc, xd + tt, xe, xf, xg⟩)).toArray) b8 36 (S8.l ⟨tt + uu, xa, xb, xc, xd + tt, xe, xf, xg⟩) := setRow_heap _ _ _ _ _ _ H8.out
          rw [← HT.out, ← HU.out] at h9
          rw [← HT.out, ← HU.out]
          exact h9
        · exact (setRow_other _ _ _ _ (by omega)).trans H0.out
        · exact (setRow_other _ _ _ _ (by omega)).trans H1.out
      have HN := Lib.hid hnew
      clear hnew
      go_wp2_with fail
      first | exact ⟨HN.out _, by simp [intOf]; omega⟩ | (refine ⟨?_, by simp [intOf]; omega⟩; (repeat apply Exists.intro); exact ⟨HN.out _, rfl⟩)
    · obtain rfl : k = 64 := by omega
      have HXE := Lib.hid hx
      have HST := Lib.hid (show RAddRel w b8 x.l s.l (.int .i64 0) wr from ⟨0, by omega, rfl, h8, h0, h1, f⟩)
      have hadd := addK_all x s
      have HXL := Lib.hid (show x.l.length = 8 from rfl)
      have HSL := Lib.hid (show s.l.length = 8 from rfl)
      have HADD := Lib.hid hadd
      clear hx h6 h7 h8 h0 h1 f H6 H7 H8 H0 H1 HF hadd
      go_wp2_with fail
      go_loopw [18] (RAddRel w b8 x.l s.l) (fun c _ => 8 - (intOf c).toNat)
      case atStart => exact HST.out
      case round =>
        obtain ⟨k, hk, rfl, h1, h2, h3, f3⟩ := hrel
        by_cases hlt : k < 8
        · have hl1 : k < (addK x.l s.l k).length := by rw [addK_length, HXL.out]; exact hlt
          have hl2 : k < s.l.length := by rw [HSL.out]; exact hlt
          have c1 := h1.cell k hl1
          have c2 := h2.cell k hl2
          rw [at32_lt] at c1 c2
          have z1 := h1.frozen k
          have hv : IsW (wr.setCell ⟨b8, k, none⟩ (.int .u32 (wi (at32 (addK x.l s.l k) k + at32 s.l k)))) b8 36 (addK x.l s.l (k + 1)) := h1.store k (at32 (addK x.l s.l k) k + at32 s.l k)
          generalize at32 (addK x.l s.l k) k = y1 at *
          generalize at32 s.l k = y2 at *
          have HV := Lib.hid hv
          have H2 := Lib.hid h2
          have H3 := Lib.hid h3
          have F3 := Lib.hid f3
          have hk8 : (k : Int) < 8 := by omega
          clear hv h1 h2 h3 f3 hl1 hl2
          have hx2 := wi_add
          have hx3 := wi_add'
          go_wp2_with fail
          refine wp_region_still_tail 9 (by kernel_rfl) (by kernel_rfl) ?_
          change wpStill _ _ (World.drew _) _ _ _
          simp only [List.take_succ_cons, List.take_zero, List.drop_succ_cons, List.drop_zero]
          repeat still_step
          refine wpStill_nil ?_
          change wpList _ _ _ _ _ (World.drew _)
          go_wp2_with fail
          have hq := NE.out
          have hnew : RAddRel w b8 x.l s.l (.int .i64 ((k : Int) + 1)) (wr.setCell ⟨b8, k, none⟩ (.int .u32 (wi (y1 + y2)))).drew :=
            ⟨k + 1, by omega, by go_num, HV.out, H2.out.other _ _ (by simp <;> omega), H3.out.other _ _ (by simp <;> omega), (F3.out.setCell _ _ (.inr (by simp <;> omega))).drew⟩
          first | exact ⟨hnew, by simp [intOf]; omega⟩ | (refine ⟨?_, by simp [intOf]; omega⟩; (repeat apply Exists.intro); exact ⟨hnew, rfl⟩)
        · obtain rfl : k = 8 := by omega
          rw [HADD.out] at h1
          have hout : x.add s = (s.run kTab ws 64).add s := by rw [HXE.out]
          rw [hout] at h1
          have H1 := Lib.hid h1
          have H3 := Lib.hid h3
          have F3 := Lib.hid f3
          have hsz := W32_sz ((s.run kTab ws 64).add s)
          have HSZ := Lib.hid hsz
          clear h1 h2 h3 f3 hsz hout
          go_upto_region 16 with (fail)
          refine wp_region_lit ?_
          refine wpList_load_row rfl 36 (.tmp 8) rfl b8 rfl 36 (W32 ((s.run kTab ws 64).add s).l).toArray (0, 0) _ H1.out d36 rfl (by rw [HSZ.out]; exact i36) ?_
          refine wpList_store_row rfl 36 (.tmp 4) (.tmp 118) rfl (w.heap.size + 1) (W32 ((s.run kTab ws 64).add s).l).toArray rfl rfl 36 (W32 [0, 0, 0, 0, 0, 0, 0, 0]).toArray H3.out (by rw [HSZ.out]; exact i36) (by rw [HSZ.out]; rfl) (W32_one _) ?_
          have HRES := Lib.hid (setRow_heap wr (w.heap.size + 1) _ (W32 ((s.run kTab ws 64).add s).l).toArray 36 (0, 0) H3.out)
          have HFR := Lib.hid (F3.out.setRow (w.heap.size + 1) (W32 ((s.run kTab ws 64).add s).l).toArray (.inr (by omega)))
          generalize (wr.setRow (w.heap.size + 1) (W32 ((s.run kTab ws 64).add s).l).toArray) = w9 at *
          go_wp2_with fail
          exact bodyPost_ret (v := .tuple #[.agg (W32 ((s.run kTab ws 64).add s).l).toArray, .int .i64 0]) ((results_cell_tmp (p := 4) (q := 5) (t1 := 36) rfl _ _ (w.heap.size + 1) 36 _ (0, 0) _ rfl HRES.out d36 rfl (by rw [HSZ.out]; exact i36)).trans rfl) rfl ⟨rfl, HFR.out⟩
end Go.Proofs.YtopjbiccipgnjaaDoor
