/-
  Contract of fields: what stands in a sector's places. No conditions but those that each theorem names.
-/
import Derived.Test.YtcnjjcnmjmcoiaaGreatDoorLG

namespace Go.Proofs.YtcnjjcnmjmcoiaaGreatDoor
open Go.RowKit
set_option linter.unusedVariables false
set_option linter.unusedSimpArgs false
set_option maxRecDepth 100000

theorem parse_as (b : List UInt8) (r : Lab) (h1 : r.pool = seg b 8 32) (h2 : r.dev = beNat (seg b 40 1)) (h3 : r.devs = beNat (seg b 41 1)) (h4 : r.cop = beNat (seg b 42 1)) (h5 : r.sec = beNat (seg b 43 2)) (h6 : r.life = beNat (seg b 45 5)) : r = parse b := Lab.ext' h1 h2 h3 h4 h5 h6
theorem arrayAt26 (a : Addr) (c : Nat) (W : World) : (Instr.arrayAt 26 (.slice (some a) 32 c)).run Tryz.prog W = .ok (.pointer (some a)) W := by
  have hl : Tryz.prog.arrayLen 26 = 32 := by kernel_rfl
  simp [Instr.arrayAt, run_underlying d26, go_sem]
theorem OwnB.at {T : TypeId} {w : World} {a : Option Addr} {n c : Nat} {l sp : List UInt8} (h : OwnB T w (.slice a n c) l sp) (hne : 0 < l.length) : ∃ g, a = some ⟨g, 0, none⟩ := by
  obtain ⟨_, ⟨_, h2, _⟩ | ⟨g, cap, h2, _⟩⟩ := h
  · omega
  · simp only [Value.slice.injEq] at h2
    exact ⟨g, h2.1⟩
theorem OwnB.load26 {w : World} {g n c : Nat} {l sp : List UInt8} (h : OwnB 5 w (.slice (some ⟨g, 0, none⟩) n c) l sp) (hl : l.length = 32) : (Instr.loadAt 26 (.pointer (some ⟨g, 0, none⟩))).run Tryz.prog w = .ok (idv l) w := by
  refine run_loadAt_mid w g 0 26 (bvs l) _ (fun j u hu => ?_) d26 rfl (by rw [i26, bvs_length, hl])
  have hj : j < (bvs l).length := (List.getElem?_eq_some_iff.1 hu).1
  rw [cell_of_heap h.heap, Nat.zero_add, List.getElem?_toArray, bvs_append, List.getElem?_append_left hj]
  exact hu
set_option maxHeartbeats 4000000 in
theorem fields_any (v : Value) (b sp : List UInt8) (w : World) (hS : SlB w v b sp) (hb : b.length = 256) : Calls Tryz.prog 23 #[v] w fun r w' => r = .returned (lv (parse b)) ∧ Frm [] w w' := by
  obtain ⟨a0, c0, rfl, _, _⟩ := hS.form
  have B0 := LB.new w zeroLab_len
  have f0 : Frm [] w (w.alloc (.cells (lc zeroLab).toArray 28)) := (Frm.refl [] w).alloc _
  have HO := Lib.hid (Open_any _ b sp _ (hS.keep f0 (by simp)) (by omega))
  have HB := Lib.hid hb
  clear hS hb
  go_enter Tryz.func23, Tryz.ntmps23
  go_upto_region 1 with ((with_reducible (show wpList _ _ _ (Oper.mk _ (Op.alloc 28) _ _ _ _ :: _) _ _)); refine wpList_val rfl (exec_alloc28 rfl _) ?_)
  have B0h := Lib.hid B0
  have F0 := Lib.hid f0
  clear B0 f0
  generalize w.alloc (.cells (lc zeroLab).toArray 28) = W0 at *
  obtain ⟨R, hR⟩ : ∃ R, w.heap.size = R := ⟨_, rfl⟩
  rw [hR] at B0h ⊢
  have HRe := Lib.hid hR
  clear hR
  go_upto_region 2 with (go_at_call 42; refine HO.out.mono ?_; rintro r W1 ⟨br, a1, c1, s1, rfl, hd, f1, hbr, hfr⟩)
  have hP : (W1.alloc (.cells #[.pointer (some ⟨br, 0, none⟩)] 70)).heap[W1.heap.size]? = some (.cells #[.pointer (some ⟨br, 0, none⟩)] 70 (0, 0)) := heap_alloc_new _ _
  have fP : Frm [] W1 (W1.alloc (.cells #[.pointer (some ⟨br, 0, none⟩)] 70)) := (Frm.refl [] W1).alloc _
  have ZR := Lib.hid (show R < br by have := B0h.out.lt; omega)
  have ZP := Lib.hid (show br < W1.heap.size from lt_heap hd.1)
  have RD2 := Lib.hid (hd.keep fP (by simp) (by simp))
  have B2 := Lib.hid (B0h.out.keep0 (f1.trans fP (by simp)))
  have F2 := Lib.hid (F0.out.trans (f1.trans fP (by simp)) (by simp))
  have ZF := Lib.hid (show ∀ k ∈ blk (.slice a1 b.length c1), R < k from fun k hk => by have := hfr k hk; have := B0h.out.lt; omega)
  have ZS := Lib.hid fP.size
  clear hd f1 hbr hfr fP F0 B0h
  generalize W1.alloc (.cells #[.pointer (some ⟨br, 0, none⟩)] 70) = W2 at *
  obtain ⟨P, hPe⟩ : ∃ P, W1.heap.size = P := ⟨_, rfl⟩
  rw [hPe] at hP ZP ⊢
  clear hPe
  have HP := Lib.hid hP
  have hc : W2.cell? ⟨P, 0, none⟩ = some (.pointer (some ⟨br, 0, none⟩)) := by rw [cell_of_heap hP]; rfl
  have h1 := RRawR_any br _ b s1 (0, 0, 0) ((8 : Nat) : Int) W2 RD2.out (by simp) (by rw [HB.out]; decide)
  rw [raw_at (by rw [HB.out]; decide)] at h1
  have H1 := Lib.hid h1
  clear h1 hP
  go_upto_region 3 with (go_at_call 43; refine H1.out.mono ?_; rintro r W3 ⟨a3, c3, s3, rfl, _, _, hd3⟩)
  have B3 := Lib.hid (B2.out.keep hd3.2 (by have := ZR.out; simp; omega))
  have RD3 := Lib.hid hd3.1
  have F3 := Lib.hid hd3.2
  have ZS2 := Lib.hid hd3.2.size
  have HP3 := Lib.hid (hd3.2.heap HP.out (by have := ZP.out; simp; omega))
  clear hc hd3 H1 HP B2 RD2
  go_upto_region 5 with ((with_reducible (show wpList _ _ _ (Oper.mk _ (Op.alloc 28) _ _ _ _ :: _) _ _)); refine wpList_val rfl (exec_alloc28 rfl _) ?_)
  have BL := Lib.hid (LB.new W3 zeroLab_len)
  have f4 : Frm [] W3 (W3.alloc (.cells (lc zeroLab).toArray 28)) := (Frm.refl [] W3).alloc _
  have B4 := Lib.hid (B3.out.keep0 f4)
  have RD4 := Lib.hid (show Rd _ br _ b s1 ((8 : Nat) : Int) 0 0 from RD3.out.keep f4 (by simp) (by simp))
  have HP4 := Lib.hid (f4.heap HP3.out (by simp))
  have F4 := Lib.hid (F3.out.trans f4 (by simp))
  have ZL := Lib.hid (show P < W3.heap.size from lt_heap HP3.out)
  have ZV := Lib.hid (show ∀ k ∈ br :: blk (.slice a1 b.length c1), k < W3.heap.size from RD3.out.lt)
  clear f4 B3 RD3 HP3 F3
  generalize W3.alloc (.cells (lc zeroLab).toArray 28) = W4 at *
  obtain ⟨L, hL⟩ : ∃ L, W3.heap.size = L := ⟨_, rfl⟩
  rw [hL] at BL ZL ZV ZS2 ⊢
  clear hL
  have hc : W4.cell? ⟨P, 0, none⟩ = some (.pointer (some ⟨br, 0, none⟩)) := by rw [cell_of_heap HP4.out]; rfl
  have h1 := RRawR_any br _ b s1 (8, 0, 0) ((32 : Nat) : Int) W4 RD4.out (by simp only; rw [HB.out]; decide) (by rw [HB.out]; decide)
  rw [raw_at (by rw [HB.out]; decide)] at h1
  have H1 := Lib.hid h1
  clear h1
  obtain ⟨pl, hpl⟩ : ∃ pl, seg b 8 32 = pl := ⟨_, rfl⟩
  have hsg : pl.length = 32 := by rw [← hpl]; exact seg_length (by rw [HB.out]; decide)
  rw [hpl] at H1
  have HPL := Lib.hid hpl
  have hAt := arrayAt26
  clear hpl
  go_upto_region 6 with (first
    | (go_at_call 43; refine H1.out.mono ?_; rintro r W5 ⟨a5, c5, s5, rfl, o5, n5, hd5⟩; obtain ⟨g5, rfl⟩ := o5.at (by rw [hsg]; decide); have HLD := Lib.hid (o5.load26 hsg); have O5 := Lib.hid hd5; have BL5 := Lib.hid (BL.out.keep hd5.2 (by have := ZP.out; have := ZL.out; simp; omega)); clear o5 n5 hd5)
    | ((with_reducible (show wpList _ _ _ (Oper.mk _ (Op.load 26 _) _ _ _ _ :: _) _ _)); refine wpList_load_g (by rfl) 26 _ rfl _ rfl HLD.out ?_)
    | ((with_reducible (show wpList _ _ _ (Oper.mk _ (Op.store 26 _ _) _ _ _ _ :: _) _ _)); refine wpList_store_mid rfl 26 (.tmp 15) (.tmp 14) rfl L 0 (bvs pl).toArray rfl rfl (by rw [List.size_toArray, bvs_length, hsg]; exact BL5.out.there) (by rw [i26]; simp [bvs_length, hsg]) (all_oneCell_toArray (bvs_one pl)) ?_))
  have fs : Frm [L] W5 (W5.setCells L 0 (bvs pl).toArray.toList) := Frm.setCells _ _ _ (Frm.refl _ W5) (.inl (by simp))
  have BL6 := Lib.hid (show LB (W5.setCells L 0 (bvs pl).toArray.toList) L { zeroLab with pool := pl } from BL5.out.setPool pl hsg)
  have RD6 := Lib.hid (show Rd (W5.setCells L 0 (bvs pl).toArray.toList) br (.slice a1 b.length c1) b s1 ((40 : Nat) : Int) 0 0 from O5.out.1.keep fs (fun hm => by have := ZV.out br (by simp); simp at hm; omega) (fun k hk hm => by have := ZV.out k (by simp [hk]); simp at hm; omega))
  have F6 := Lib.hid ((F4.out.trans O5.out.2 (by simp)).trans fs (L := [br]) (L' := [L]) (fun i hi => .inr (by have := ZS2.out; simp at hi; omega)))
  have HP6 := Lib.hid (show (W5.setCells L 0 (bvs pl).toArray.toList).heap[P]? = some (.cells #[.pointer (some ⟨br, 0, none⟩)] 70 (0, 0)) from fs.heap (O5.out.2.heap HP4.out (by have := ZP.out; simp; omega)) (by have := ZL.out; simp; omega))
  have B6 := Lib.hid (show LB (W5.setCells L 0 (bvs pl).toArray.toList) R zeroLab from (B4.out.keep O5.out.2 (by have := ZR.out; simp; omega)).keep fs (by have := ZR.out; have := ZP.out; have := ZL.out; simp; omega))
  clear HLD BL5 BL RD4 fs O5 HP4 F4 B4 H1 hAt hc
  generalize W5.setCells L 0 (bvs pl).toArray.toList = W6 at *
  have hc6 : W6.cell? ⟨P, 0, none⟩ = some (.pointer (some ⟨br, 0, none⟩)) := by rw [cell_of_heap HP6.out]; rfl
  have hb9 : b.length ≤ 1000000 := by rw [HB.out]; decide
  have C1 := Lib.hid (num_closure P br _ b s1 40 1 W6 RD6.out (by rw [HB.out]; decide) hb9 (by decide) (by decide) hc6)
  clear hc6
  go_upto_region 7 with (first
    | (go_at_call 44; refine C3.out.mono ?_; rintro r W9 ⟨rfl, hd9⟩; have D9 := Lib.hid (D8.out.trans hd9.2 (by simp)); have BL9 := (BL6.out.keep D9.out (by have := ZP.out; have := ZL.out; simp; omega)); obtain ⟨c1, c2, c3, c4, c5, _, _⟩ := BL9.gets; have z0 := frozen_of_heap BL9.at' 32; have z1 := frozen_of_heap BL9.at' 33; have z2 := frozen_of_heap BL9.at' 34; have E9 := Lib.hid hd9.1; have BL9h := Lib.hid BL9; clear hd9 BL9)
    | (go_at_call 44; refine C2.out.mono ?_; rintro r W8 ⟨rfl, hd8⟩; have D8 := Lib.hid (D7.out.trans hd8.2 (by simp)); have hp8 := D8.out.heap HP6.out (by have := ZP.out; simp; omega); have C3 := Lib.hid (num_closure P br _ b s1 42 1 W8 hd8.1 (by rw [HB.out]; decide) hb9 (by decide) (by decide) (by rw [cell_of_heap hp8]; rfl)); clear hd8 hp8)
    | (go_at_call 44; refine C1.out.mono ?_; rintro r W7 ⟨rfl, hd7⟩; have D7 := Lib.hid hd7.2; have hp7 := D7.out.heap HP6.out (by have := ZP.out; simp; omega); have C2 := Lib.hid (num_closure P br _ b s1 41 1 W7 hd7.1 (by rw [HB.out]; decide) hb9 (by decide) (by decide) (by rw [cell_of_heap hp7]; rfl)); clear hd7 hp7))
  have X1 := BL9h.out.set (m := ⟨pl, beNat (seg b 40 1), 0, 0, 0, 0⟩) 0 (.int .i64 (beNat (seg b 40 1))) rfl rfl
  have X2 := X1.set (m := ⟨pl, beNat (seg b 40 1), beNat (seg b 41 1), 0, 0, 0⟩) 1 (.int .i64 (beNat (seg b 41 1))) rfl rfl
  have X3 := X2.set (m := ⟨pl, beNat (seg b 40 1), beNat (seg b 41 1), beNat (seg b 42 1), 0, 0⟩) 2 (.int .i64 (beNat (seg b 42 1))) rfl rfl
  have fs := (((Frm.refl [L] W9).setCell ⟨L, 32 + 0, none⟩ (.int .i64 (beNat (seg b 40 1))) (.inl (by simp))).setCell ⟨L, 32 + 1, none⟩ (.int .i64 (beNat (seg b 41 1))) (.inl (by simp))).setCell ⟨L, 32 + 2, none⟩ (.int .i64 (beNat (seg b 42 1))) (.inl (by simp))
  simp only [Nat.add_zero, Nat.reduceAdd] at X3 fs
  obtain ⟨W10, hW10⟩ : ∃ W, ((W9.setCell ⟨L, 32, none⟩ (.int .i64 (beNat (seg b 40 1)))).setCell ⟨L, 33, none⟩ (.int .i64 (beNat (seg b 41 1)))).setCell ⟨L, 34, none⟩ (.int .i64 (beNat (seg b 42 1))) = W := ⟨_, rfl⟩
  rw [hW10] at X3 fs ⊢
  clear hW10 X1 X2 c1 c2 c3 c4 c5 z0 z1 z2
  have BL10 := Lib.hid X3
  have RD10 := Lib.hid (show Rd W10 br (.slice a1 b.length c1) b s1 ((43 : Nat) : Int) 0 0 from E9.out.keep fs (fun hm => by have := ZV.out br (by simp); simp at hm; omega) (fun k hk hm => by have := ZV.out k (by simp [hk]); simp at hm; omega))
  have F10 := Lib.hid ((F6.out.trans D9.out (by simp)).trans fs (L := [br]) (L' := [L]) (fun i hi => .inr (by have := ZS2.out; simp at hi; omega)))
  have HP10 := Lib.hid (fs.heap (D9.out.heap HP6.out (by have := ZP.out; simp; omega)) (by have := ZL.out; simp; omega))
  have B10 := Lib.hid ((B6.out.keep D9.out (by have := ZR.out; simp; omega)).keep fs (by have := ZR.out; have := ZP.out; have := ZL.out; simp; omega))
  clear X3 fs BL9h E9 D9 B6 HP6 F6 RD6 BL6
  have hc6 : W10.cell? ⟨P, 0, none⟩ = some (.pointer (some ⟨br, 0, none⟩)) := by rw [cell_of_heap HP10.out]; rfl
  have C4 := Lib.hid (num_closure P br _ b s1 43 2 W10 RD10.out (by rw [HB.out]; decide) hb9 (by decide) (by decide) hc6)
  clear hc6
  go_upto_region 8 with (first
    | (go_at_call 44; refine C5.out.mono ?_; rintro r W12 ⟨rfl, hd9⟩; have D12 := Lib.hid (D11.out.trans hd9.2 (by simp)); have BL9 := (BL10.out.keep D12.out (by have := ZP.out; have := ZL.out; simp; omega)); obtain ⟨c1, c2, c3, c4, c5, _, _⟩ := BL9.gets; have z0 := frozen_of_heap BL9.at' 35; have z1 := frozen_of_heap BL9.at' 36; have BL12 := Lib.hid BL9; clear hd9 BL9)
    | (go_at_call 44; refine C4.out.mono ?_; rintro r W11 ⟨rfl, hd8⟩; have D11 := Lib.hid hd8.2; have hp8 := D11.out.heap HP10.out (by have := ZP.out; simp; omega); have C5 := Lib.hid (num_closure P br _ b s1 45 5 W11 hd8.1 (by rw [HB.out]; decide) hb9 (by decide) (by decide) (by rw [cell_of_heap hp8]; rfl)); clear hd8 hp8))
  have X1 := BL12.out.set (m := ⟨pl, beNat (seg b 40 1), beNat (seg b 41 1), beNat (seg b 42 1), beNat (seg b 43 2), 0⟩) 3 (.int .i64 (beNat (seg b 43 2))) rfl rfl
  have X2 := X1.set (m := ⟨pl, beNat (seg b 40 1), beNat (seg b 41 1), beNat (seg b 42 1), beNat (seg b 43 2), beNat (seg b 45 5)⟩) 4 (.int .i64 (beNat (seg b 45 5))) rfl rfl
  have fs := ((Frm.refl [L] W12).setCell ⟨L, 32 + 3, none⟩ (.int .i64 (beNat (seg b 43 2))) (.inl (by simp))).setCell ⟨L, 32 + 4, none⟩ (.int .i64 (beNat (seg b 45 5))) (.inl (by simp))
  simp only [Nat.add_zero, Nat.reduceAdd] at X2 fs
  obtain ⟨W13, hW13⟩ : ∃ W, (W12.setCell ⟨L, 35, none⟩ (.int .i64 (beNat (seg b 43 2)))).setCell ⟨L, 36, none⟩ (.int .i64 (beNat (seg b 45 5))) = W := ⟨_, rfl⟩
  rw [hW13] at X2 fs ⊢
  clear hW13 X1 c1 c2 c3 c4 c5 z0 z1
  rw [parse_as b ⟨pl, beNat (seg b 40 1), beNat (seg b 41 1), beNat (seg b 42 1), beNat (seg b 43 2), beNat (seg b 45 5)⟩ HPL.out.symm rfl rfl rfl rfl rfl] at X2
  have BL13 := Lib.hid X2
  have F13 := Lib.hid ((F10.out.trans D12.out (by simp)).trans fs (L := [br]) (L' := [L]) (fun i hi => .inr (by have := ZS2.out; simp at hi; omega)))
  have B13 := Lib.hid ((B10.out.keep D12.out (by have := ZR.out; simp; omega)).keep fs (by have := ZR.out; have := ZP.out; have := ZL.out; simp; omega))
  have G13 := Lib.hid BL13.out.gets.all
  have hpp : (parse b).pool.length = 32 := parse_pool HB.out
  have hlL : 0 < b.length := by rw [HB.out]; decide
  clear X2 fs BL12 D12 B10 HP10 F10 RD10 BL10 hlL
  go_upto_region 9 with (first
    | ((with_reducible (show wpList _ _ _ (Oper.mk _ (Op.load 28 _) _ _ _ _ :: _) _ _)); refine wpList_load_g (by rfl) 28 _ rfl _ rfl G13.out ?_)
    | ((with_reducible (show wpList _ _ _ (Oper.mk _ (Op.store 28 _ _) _ _ _ _ :: _) _ _)); refine wpList_store28 rfl _ _ rfl B13.out hpp rfl rfl ?_; intro W14 B14 F14))
  refine bodyPost_ret (v := lv (parse b)) (results_cell_row rfl _ _ R 28 (lc (parse b)).toArray (0, 0) _ rfl B14.at' Tryz.underlying28 rfl (by rw [i28]; simp [lc_length hpp])) rfl ⟨rfl, ?_⟩
  have e := HRe.out
  exact (F2.out.trans F13.out (fun i hi => .inr (by have := ZR.out; simp at hi; omega))).trans F14 (fun i hi => .inr (by simp at hi; omega))
end Go.Proofs.YtcnjjcnmjmcoiaaGreatDoor
