/-
  Contract of the document's Pack. No conditions but those that each theorem names.
-/
import Derived.Test.YtcnjjcnmjmcoiaaGreatDoorLE
import Derived.Test.YtcnjjcnmjmcoiaaGreatDoorFA
import Derived.Test.YtcnjjcnmjmcoiaaGreatDoorHS

namespace Go.Proofs.YtcnjjcnmjmcoiaaGreatDoor
open Go.RowKit
set_option linter.unusedVariables false
set_option linter.unusedSimpArgs false
set_option maxRecDepth 100000

/-- The document's writer, made in this call, has these bytes. -/
def RS (wb : World) (bw : Nat) (m : List UInt8) (W : World) : Prop := ∃ v sp, Rw W bw v m sp 0 ∧ (∀ i ∈ blk v, wb.heap.size ≤ i) ∧ Frm [bw] wb W
theorem RS.step {wb W1 W2 : World} {bw : Nat} {m' : List UInt8} {v : Value} (hn : ∀ i ∈ blk v, wb.heap.size ≤ i) (f : Frm [bw] wb W1) (h : RwTo W1 bw v (m', 0) W2) : RS wb bw m' W2 := by
  obtain ⟨v', sp', h1, h2, h3⟩ := h
  refine ⟨v', sp', h1, fun i hi => ?_, f.trans h2 (fun i hi => ?_)⟩
  · rcases h3 i hi with h | h
    · exact hn i h
    · exact Nat.le_trans f.size h
  · rcases List.mem_cons.1 hi with rfl | h
    · exact .inl (by simp)
    · exact .inr (hn i h)
theorem LB.poolR {w : World} {g : Nat} {l : Lab} (h : LB w g l) : SlB w (.slice (some ⟨g, 0, none⟩) 32 32) l.pool [] := h.poolS
theorem RefPack_no (l : Lab) (hl : l.pool.length = 32) (hm : ¬ May l) (w : World) : Calls Tryz.prog 29 #[lv l] w (PackP w l) := by
  have B1 := LB.new w hl
  have hlv : lv l = .agg (lc l).toArray := rfl
  have f : Frm [] w (w.alloc (.cells (lc l).toArray 28)) := (Frm.refl [] w).alloc _
  have HC := RefCheck_any l hl
  rw [mayE_no hm] at HC
  have HC1 := Lib.hid HC
  have HM := Lib.hid hm
  rw [hlv]
  clear hlv HC hm
  generalize hA : (lc l).toArray = A at *
  go_enter Tryz.func29, Tryz.ntmps29
  go_upto_region 1 with (fail)
  generalize w.alloc (.cells A 28) = W at *
  have G1 := Lib.hid B1.gets.all
  clear hA B1
  go_wp2_with (first | ((with_reducible (show wpList _ _ _ (Oper.mk _ (Op.load 28 _) _ _ _ _ :: _) _ _)); refine wpList_load_g (by rfl) 28 _ rfl _ rfl G1.out ?_) | (go_at_call 34; refine (HC1.out _).mono ?_; rintro r w2 ⟨rfl, f2⟩))
  go_ret2
  refine ⟨none, 0, [], by simp [packO_no HM.out, mayE_no HM.out], by rw [packO_no HM.out]; exact OwnB.nil _ _, f.trans f2 (by simp), by simp [Fresh, blk]⟩
set_option maxHeartbeats 4000000 in
theorem RefPack_yes (l : Lab) (hl : l.pool.length = 32) (hm : May l) (w : World) : Calls Tryz.prog 29 #[lv l] w (PackP w l) := by
  have B1 := LB.new w hl
  have hlv : lv l = .agg (lc l).toArray := rfl
  have f : Frm [] w (w.alloc (.cells (lc l).toArray 28)) := (Frm.refl [] w).alloc _
  have HC := RefCheck_any l hl
  rw [mayE_yes hm] at HC
  have HC1 := Lib.hid HC
  have HM := Lib.hid hm
  have HP := Lib.hid hl
  have hsA := sliceAt26
  have kc := fun (w : World) (C : Array Value) (n c : Nat) => Lib.run_convert_bytes_const (P := Tryz.prog) w 22 5 C n c Tryz.underlying22 Tryz.underlying5
  rw [hlv]
  clear hlv HC hm hl
  generalize hA : (lc l).toArray = A at *
  go_enter Tryz.func29, Tryz.ntmps29
  go_upto_region 1 with (fail)
  generalize w.alloc (.cells A 28) = W at *
  have B1h := Lib.hid B1
  have F0 := Lib.hid f
  have G1 := Lib.hid B1.gets.all
  clear hA B1 f
  go_upto_region 4 with (first | ((with_reducible (show wpList _ _ _ (Oper.mk _ (Op.load 28 _) _ _ _ _ :: _) _ _)); refine wpList_load_g (by rfl) 28 _ rfl _ rfl G1.out ?_) | (go_at_call 34; refine (HC1.out _).mono ?_; rintro r w2 ⟨rfl, f2⟩))
  have hwb : Rw (w2.alloc (.cells #[.slice none 0 0, .int .i64 0] 81)) w2.heap.size (.slice none 0 0) [] [] 0 := ⟨heap_alloc_new _ _, OwnB.nil _ _, by simp [blk]⟩
  have fwb : Frm [] w2 (w2.alloc (.cells #[.slice none 0 0, .int .i64 0] 81)) := (Frm.refl [] w2).alloc _
  have B2 := Lib.hid (B1h.out.keep0 (f2.trans fwb (by simp)))
  have F2 := Lib.hid ((F0.out.trans f2 (by simp)).trans fwb (by simp))
  have Z1 := Lib.hid (show w.heap.size < w2.heap.size from (B1h.out.keep0 f2).lt)
  obtain ⟨wb, hwbe⟩ : ∃ wb, w2.alloc (.cells #[.slice none 0 0, .int .i64 0] 81) = wb := ⟨_, rfl⟩
  rw [hwbe] at hwb fwb B2 F2 ⊢
  have R0 := Lib.hid (show RS wb w2.heap.size [] wb from ⟨_, _, hwb, by simp [blk], Frm.refl _ _⟩)
  have ZB := Lib.hid (show w2.heap.size < wb.heap.size from hwb.lt _ (by simp))
  clear hwb fwb f2 F0 B1h G1 hwbe
  obtain ⟨bw, hbw⟩ : ∃ bw, w2.heap.size = bw := ⟨_, rfl⟩
  rw [hbw] at R0 Z1 ZB ⊢
  obtain ⟨g, hg⟩ : ∃ g, w.heap.size = g := ⟨_, rfl⟩
  rw [hg] at B2 Z1 ⊢
  have HGE := Lib.hid hg
  clear hbw hg
  have ZG := Lib.hid (show g ≠ bw by have := Z1.out; omega)
  obtain ⟨v0, s0, h0, n0, f0⟩ := R0.out
  have hS := Hs.slb_new wb mark 8 #[.int .u8 67, .int .u8 65, .int .u8 85, .int .u8 76, .int .u8 75, .int .u8 69, .int .u8 82, .int .u8 49] (8, 9) rfl rfl (by simp [mark, maxLen])
  have fm : Frm [] wb (wb.alloc (.cells #[.int .u8 67, .int .u8 65, .int .u8 85, .int .u8 76, .int .u8 75, .int .u8 69, .int .u8 82, .int .u8 49] 5 (8, 9))) := (Frm.refl [] wb).alloc _
  have HR := Lib.hid (RRaw_any bw v0 _ [] s0 mark [] 0 _ (h0.keep fm (by simp) (by simp)) hS (by have := ZB.out; simp [blkR]; omega) (by simp) (by simp [mark]))
  rw [step_raw (by simp [mark])] at HR
  have N0 := Lib.hid n0
  have FM := Lib.hid ((Frm.refl [bw] wb).alloc (.cells #[.int .u8 67, .int .u8 65, .int .u8 85, .int .u8 76, .int .u8 75, .int .u8 69, .int .u8 82, .int .u8 49] 5 (8, 9)))
  clear hS fm h0 n0 f0
  go_upto_region 5 with (go_at_call 49; refine HR.out.mono ?_; rintro r W1 ⟨rfl, hw⟩)
  have R1 := Lib.hid (show RS wb bw mark W1 from RS.step N0.out FM.out hw)
  clear hw HR N0 FM R0
  obtain ⟨v1, s1, h1, n1, f1⟩ := R1.out
  have BX := (B2.out.keep f1 (by simp; exact ZG.out)).poolS
  have o0 : OwnB 5 (W1.alloc (.cells #[] 5)) (.slice (some ⟨W1.heap.size, 0, none⟩) 0 0) [] [] := OwnB.of_heap (heap_alloc_new _ _) rfl rfl (by simp)
  have fe : Frm [] W1 (W1.alloc (.cells #[] 5)) := (Frm.refl _ _).alloc _
  have BXh := Lib.hid (BX.keep fe (by simp))
  have H1 := Lib.hid h1
  have N1 := Lib.hid n1
  have F1 := Lib.hid f1
  have FE := Lib.hid fe
  have O0 := Lib.hid o0
  have hlp := HP.out
  clear h1 n1 f1 fe BX o0
  go_upto_region 6 with (first | (at_builtin; refine wpList_append_bytes BT O0.out BXh.out (by rw [HP.out]; decide) rfl (.tmp 16) (.tmp 18) rfl rfl rfl ?_; intro a2 c2 W2 s2 o2 fa b2; simp only [List.length_nil, Nat.zero_add, HP.out, List.nil_append] at o2 b2; have FA := Lib.hid (FE.out.trans fa (by simp [blk])); have HRa := Lib.hid (RRaw_any bw v1 _ mark s1 l.pool s2 0 _ (H1.out.keep FA.out (by simp) (by simp)) o2.sl (fun hm => by have h9 := blkR_sub hm; rcases b2 _ h9 with h9 | h9 <;> have := ZB.out <;> have := F1.out.size <;> simp [blk] at h9 <;> omega) (by simp [mark]) (by rw [HP.out]; decide)); clear fa b2 o2) | (go_at_call 49; refine HRa.out.mono ?_; rintro r W3 ⟨rfl, hw⟩))
  rw [step_raw (by rw [HP.out]; simp [mark])] at hw
  have R2 := Lib.hid (show RS wb bw (pst l 2) W3 from RS.step N1.out (F1.out.trans FA.out (by simp)) hw)
  clear hw HRa FA H1 N1 F1 FE O0 BXh R1 hlp
  obtain ⟨v4, s4, h4, n4, f4⟩ := R2.out
  have hc4 := (B2.out.keep f4 (by simp; exact ZG.out)).gets.c1
  have HR4 := Lib.hid (RNum_any bw v4 (pst l 2) s4 0 l.dev 1 _ h4 (Nat.le_trans (pst_len HP.out 2 (by omega)) (by omega)) (by have := HM.out.n8; have := HM.out.d1; have := HM.out.c3; have := HM.out.s4; have := HM.out.l1; omega))
  rw [step_num (size := 1) (by omega) (by omega) HM.out.d0 (by rw [show (2 : Int) ^ (8 * Int.toNat 1) = 256 from rfl]; exact (by have := HM.out.d1; have := HM.out.n8; omega)) (Nat.le_trans (pst_len HP.out 2 (by omega)) (by omega))] at HR4
  have N4 := Lib.hid n4
  have F4 := Lib.hid f4
  clear h4 n4 f4
  go_upto_region 7 with (go_at_call 50; refine HR4.out.mono ?_; rintro r W4 ⟨rfl, hw⟩)
  have R4 := Lib.hid (show RS wb bw (pst l 3) W4 from RS.step N4.out F4.out hw)
  clear hw HR4 N4 F4 R2 hc4
  obtain ⟨v5, s5, h5, n5, f5⟩ := R4.out
  have hc5 := (B2.out.keep f5 (by simp; exact ZG.out)).gets.c2
  have HR5 := Lib.hid (RNum_any bw v5 (pst l 3) s5 0 l.devs 1 _ h5 (Nat.le_trans (pst_len HP.out 3 (by omega)) (by omega)) (by have := HM.out.n8; have := HM.out.d1; have := HM.out.c3; have := HM.out.s4; have := HM.out.l1; omega))
  rw [step_num (size := 1) (by omega) (by omega) (by have := HM.out.n2; omega) (by rw [show (2 : Int) ^ (8 * Int.toNat 1) = 256 from rfl]; exact (by have := HM.out.n8; omega)) (Nat.le_trans (pst_len HP.out 3 (by omega)) (by omega))] at HR5
  have N5 := Lib.hid n5
  have F5 := Lib.hid f5
  clear h5 n5 f5
  go_upto_region 8 with (go_at_call 50; refine HR5.out.mono ?_; rintro r W5 ⟨rfl, hw⟩)
  have R5 := Lib.hid (show RS wb bw (pst l 4) W5 from RS.step N5.out F5.out hw)
  clear hw HR5 N5 F5 R4 hc5
  obtain ⟨v6, s6, h6, n6, f6⟩ := R5.out
  have hc6 := (B2.out.keep f6 (by simp; exact ZG.out)).gets.c3
  have HR6 := Lib.hid (RNum_any bw v6 (pst l 4) s6 0 l.cop 1 _ h6 (Nat.le_trans (pst_len HP.out 4 (by omega)) (by omega)) (by have := HM.out.n8; have := HM.out.d1; have := HM.out.c3; have := HM.out.s4; have := HM.out.l1; omega))
  rw [step_num (size := 1) (by omega) (by omega) (by have := HM.out.c1; omega) (by rw [show (2 : Int) ^ (8 * Int.toNat 1) = 256 from rfl]; exact (by have := HM.out.c3; omega)) (Nat.le_trans (pst_len HP.out 4 (by omega)) (by omega))] at HR6
  have N6 := Lib.hid n6
  have F6 := Lib.hid f6
  clear h6 n6 f6
  go_upto_region 9 with (go_at_call 50; refine HR6.out.mono ?_; rintro r W6 ⟨rfl, hw⟩)
  have R6 := Lib.hid (show RS wb bw (pst l 5) W6 from RS.step N6.out F6.out hw)
  clear hw HR6 N6 F6 R5 hc6
  obtain ⟨v7, s7, h7, n7, f7⟩ := R6.out
  have hc7 := (B2.out.keep f7 (by simp; exact ZG.out)).gets.c4
  have HR7 := Lib.hid (RNum_any bw v7 (pst l 5) s7 0 l.sec 2 _ h7 (Nat.le_trans (pst_len HP.out 5 (by omega)) (by omega)) (by have := HM.out.n8; have := HM.out.d1; have := HM.out.c3; have := HM.out.s4; have := HM.out.l1; omega))
  rw [step_num (size := 2) (by omega) (by omega) (by have := HM.out.s8; omega) (by rw [show (2 : Int) ^ (8 * Int.toNat 2) = 65536 from rfl]; exact (by have := HM.out.s4; omega)) (Nat.le_trans (pst_len HP.out 5 (by omega)) (by omega))] at HR7
  have N7 := Lib.hid n7
  have F7 := Lib.hid f7
  clear h7 n7 f7
  go_upto_region 10 with (go_at_call 50; refine HR7.out.mono ?_; rintro r W7 ⟨rfl, hw⟩)
  have R7 := Lib.hid (show RS wb bw (pst l 6) W7 from RS.step N7.out F7.out hw)
  clear hw HR7 N7 F7 R6 hc7
  obtain ⟨v8, s8, h8, n8, f8⟩ := R7.out
  have hc8 := (B2.out.keep f8 (by simp; exact ZG.out)).gets.c5
  have HR8 := Lib.hid (RNum_any bw v8 (pst l 6) s8 0 l.life 5 _ h8 (Nat.le_trans (pst_len HP.out 6 (by omega)) (by omega)) (by have := HM.out.n8; have := HM.out.d1; have := HM.out.c3; have := HM.out.s4; have := HM.out.l1; omega))
  rw [step_num (size := 5) (by omega) (by omega) HM.out.l0 (by rw [show (2 : Int) ^ (8 * Int.toNat 5) = 1099511627776 from rfl]; exact (by have := HM.out.l1; omega)) (Nat.le_trans (pst_len HP.out 6 (by omega)) (by omega))] at HR8
  have N8 := Lib.hid n8
  have F8 := Lib.hid f8
  clear h8 n8 f8
  go_upto_region 11 with (go_at_call 50; refine HR8.out.mono ?_; rintro r W8 ⟨rfl, hw⟩)
  have R8 := Lib.hid (show RS wb bw (pst l 7) W8 from RS.step N8.out F8.out hw)
  clear hw HR8 N8 F8 R7 hc8
  obtain ⟨v9, s9, h9, n9, f9⟩ := R8.out
  have hl9 := pst_len HP.out 7 (by omega)
  have HR9 := Lib.hid (RPad_any bw v9 (pst l 7) s9 0 (224 : Nat) _ h9 (by omega))
  rw [step_pad (by omega) (by omega), pst_pad HP.out] at HR9
  have N9 := Lib.hid n9
  have F9 := Lib.hid f9
  clear h9 n9 f9 hl9
  go_upto_region 12 with (go_at_call 51; refine HR9.out.mono ?_; rintro r W9 ⟨rfl, hw⟩)
  have R9 := Lib.hid (show RS wb bw (headL l) W9 from RS.step N9.out F9.out hw)
  clear hw HR9 N9 F9 R8
  have hl10 := headL_length HP.out
  have hpk : packL l = headL l ++ Hs.sha (headL l) := rfl
  have hsl := sha_length (headL l)
  have HSA := Hs.RefSum_any
  obtain ⟨hd, hhd⟩ : ∃ hd, headL l = hd := ⟨_, rfl⟩
  rw [hhd] at R9 hl10 hpk hsl
  obtain ⟨v10, s10, h10, n10, f10⟩ := R9.out
  have HSm := Hs.RefSum_any v10 hd s10 W9 h10.2.1.sl (by omega)
  obtain ⟨dg, hdg⟩ : ∃ dg, Hs.sha hd = dg := ⟨_, rfl⟩
  rw [hdg] at HSm hpk hsl
  have HSm1 := Lib.hid HSm
  have HPK := Lib.hid hpk
  have HL10 := Lib.hid hl10
  clear HSm hpk hdg hhd HSA
  have hcb : W9.cell? ⟨bw, 0, none⟩ = some v10 := by rw [cell_of_heap h10.1]; rfl
  have H10 := Lib.hid h10
  have N10 := Lib.hid n10
  have F10 := Lib.hid f10
  obtain ⟨a10, c10, rfl, _, _⟩ := h10.2.1.sl.form
  clear h10 n10 f10 hl10
  go_upto_region 13 with (first
    | ((with_reducible (show wpList _ _ _ (Oper.mk _ (Op.alloc 26) _ _ _ _ :: _) _ _)); refine wpList_lay26 rfl rfl rfl _ _ rfl (s := dg) hsl rfl rfl ?_)
    | (go_at_call 52; refine HSm1.out.mono ?_; rintro r W10 ⟨rfl, fs⟩))
  have fb : Frm [] W9 (W10.alloc (.cells (bvs dg).toArray 26)) := fs.alloc _
  have hp := Hs.slb_part (heap_alloc_new W10 (.cells (bvs dg).toArray 26)) 0 32 32 (by rw [hsl]; omega) (Nat.le_refl _) (by rw [hsl]; omega) (by rw [hsl]; decide)
  rw [List.drop_zero, List.take_of_length_le (by rw [hsl]; omega)] at hp
  have hgb : bw < W10.heap.size := Nat.lt_of_lt_of_le (H10.out.lt bw (by simp)) fs.size
  obtain ⟨gd, hgd⟩ : ∃ gd, W10.heap.size = gd := ⟨_, rfl⟩
  rw [hgd] at hp hgb ⊢
  generalize W10.alloc (.cells (bvs dg).toArray 26) = W11 at *
  have o0 : OwnB 5 (W11.alloc (.cells #[] 5)) (.slice (some ⟨W11.heap.size, 0, none⟩) 0 0) [] [] := OwnB.of_heap (heap_alloc_new _ _) rfl rfl (by simp)
  have fe : Frm [] W11 (W11.alloc (.cells #[] 5)) := (Frm.refl _ _).alloc _
  have BXh := Lib.hid (hp.keep fe (by simp))
  have FE := Lib.hid (fb.trans fe (by simp))
  have O0 := Lib.hid o0
  have ZW := Lib.hid (show W9.heap.size ≤ W11.heap.size from fb.size)
  clear fe o0 fs fb hp hgd hcb HSm1 R9
  go_upto_region 14 with (first | (at_builtin; refine wpList_append_bytes BT O0.out BXh.out (by rw [hsl]; decide) rfl (.tmp 49) (.tmp 50) rfl rfl rfl ?_; intro a2 c2 W12 s2 o2 fa b2; simp only [List.length_nil, Nat.zero_add, hsl, List.nil_append] at o2 b2; have FA := Lib.hid (FE.out.trans fa (by simp [blk]; exact ZW.out)); have HRa := Lib.hid (RRaw_any bw _ _ hd s10 dg s2 0 _ (H10.out.keep FA.out (by simp) (by simp)) o2.sl (fun hm => by have h9 := blkR_sub hm; rcases b2 _ h9 with h9 | h9 <;> have h8 := H10.out.lt bw (by simp) <;> have h7 := ZW.out <;> simp [blk] at h9 <;> omega) (by rw [HL10.out]; decide) (by rw [hsl]; decide)); clear fa b2 o2) | (go_at_call 49; refine HRa.out.mono ?_; rintro r W13 ⟨rfl, hw⟩))
  rw [step_raw (by rw [hsl, HL10.out]; decide), ← HPK.out] at hw
  have R13 := Lib.hid (show RS wb bw (packL l) W13 from RS.step N10.out (F10.out.trans FA.out (by simp)) hw)
  clear hw HRa FA H10 N10 F10 FE O0 BXh
  obtain ⟨v14, s14, h14, n14, f14⟩ := R13.out
  have HO := Lib.hid (ROut_any bw v14 (packL l) s14 0 W13 h14 (by rw [packL_length HP.out]; decide))
  have F14 := Lib.hid f14
  clear h14 n14 f14
  go_wp2_with (go_at_call 53; refine HO.out.mono ?_; rintro r w6 ⟨a, cap, sp', rfl, o6, f6, n6⟩)
  go_ret2
  have e0 : outB (packL l) 0 = packL l := rfl
  rw [e0] at o6 n6
  have e1 := packO_yes HM.out
  have hfr : Frm [] w W13 := F2.out.trans F14.out (fun i hi => .inr (by have := Z1.out; have := HGE.out; simp at hi; omega))
  exact ⟨a, cap, sp', by rw [e1, mayE_yes HM.out]; rfl, by rw [e1]; exact o6, hfr.trans f6 (by simp), by rw [e1]; exact fun i hi => Nat.le_trans hfr.size (n6 i hi)⟩
theorem RefPack_any (l : Lab) (hl : l.pool.length = 32) (w : World) : Calls Tryz.prog 29 #[lv l] w (PackP w l) := by
  by_cases h : May l
  · exact RefPack_yes l hl h w
  · exact RefPack_no l hl h w

end Go.Proofs.YtcnjjcnmjmcoiaaGreatDoor
