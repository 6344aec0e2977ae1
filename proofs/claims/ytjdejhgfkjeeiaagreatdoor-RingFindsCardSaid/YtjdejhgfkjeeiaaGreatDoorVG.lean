/-
  Contract of the document's Pack of uberblocks. No conditions but those that each theorem names.
-/
import Derived.Test.YtjdejhgfkjeeiaaGreatDoorVF
import Derived.Test.YtjdejhgfkjeeiaaGreatDoorVA
import Derived.Test.YtjdejhgfkjeeiaaGreatDoorPI
import Derived.Test.YtjdejhgfkjeeiaaGreatDoorFA
import Derived.Test.YtjdejhgfkjeeiaaGreatDoorHS
namespace Go.Proofs.YtjdejhgfkjeeiaaGreatDoor
open Go.RowKit
set_option linter.unusedVariables false
set_option linter.unusedSimpArgs false
set_option maxRecDepth 100000

open Pt (Pt may enc readPt readE zeroPt pc pv PtV SlA OwnA)
/-- How far a writer of the document's, of one's own, is. -/
def DS (w0 : World) (bw : Nat) (m : List UInt8) (w : World) : Prop := ∃ v sp, Rw w bw v m sp 0 ∧ (∀ i ∈ blk v, w0.heap.size ≤ i) ∧ Frm [] w0 w ∧ w0.heap.size ≤ bw
section
variable {w0 w w' : World} {bw : Nat} {m : List UInt8}
theorem DS.frm (h : DS w0 bw m w) : Frm [] w0 w := by
  obtain ⟨_, _, _, _, f, _⟩ := h
  exact f
theorem DS.lt (h : DS w0 bw m w) : bw < w.heap.size := by
  obtain ⟨_, _, h, _, f, _⟩ := h
  exact h.lt _ (by simp)
theorem DS.keep0 (h : DS w0 bw m w) (f : Frm [] w w') : DS w0 bw m w' := by
  obtain ⟨v, sp, h1, h2, h3, h4⟩ := h
  exact ⟨v, sp, h1.keep f (by simp) (by simp), h2, h3.trans f (by simp), h4⟩
theorem DS.to {v : Value} {l : List UInt8} (h1 : ∀ i ∈ blk v, w0.heap.size ≤ i) (h2 : Frm [] w0 w) (h3 : w0.heap.size ≤ bw) (h : RwTo w bw v (l, 0) w') : DS w0 bw l w' := by
  obtain ⟨v', sp', k1, k2, k3⟩ := h
  refine ⟨v', sp', k1, fun i hi => ?_, h2.trans k2 (fun i hi => .inr ?_), h3⟩
  · rcases k3 i hi with h | h
    · exact h1 i h
    · have := h2.size; omega
  · rcases List.mem_cons.1 hi with rfl | h
    · exact h3
    · exact h1 i h
theorem DS.raw (h : DS w0 bw m w) {x : Value} {b bsp : List UInt8} (hS : SlB w x b bsp) (hx : bw ∉ blkR x) (hl : m.length + b.length ≤ 1000) : Calls Tryz.prog 53 #[.pointer (some ⟨bw, 0, none⟩), x] w fun r w' => r = .returned (.tuple #[]) ∧ DS w0 bw (m ++ b) w' := by
  obtain ⟨v, sp, h1, h2, h3, h4⟩ := h
  have hr := RRaw_any bw v x m sp b bsp 0 w h1 hS hx (by omega) (by omega)
  rw [step_raw (by omega)] at hr
  refine hr.mono ?_
  rintro r w' ⟨rfl, hw⟩
  exact ⟨rfl, DS.to h2 h3 h4 hw⟩
theorem DS.num (h : DS w0 bw m w) (n : Int) (k : Nat) (h1 : 1 ≤ k) (h7 : k ≤ 7) (hn0 : 0 ≤ n) (hn : n < 2 ^ (8 * k)) (hn6 : n ≤ 9223372036854775807) (hl : m.length ≤ 1000) : Calls Tryz.prog 54 #[.pointer (some ⟨bw, 0, none⟩), .int .i64 n, .int .i64 k] w fun r w' => r = .returned (.tuple #[]) ∧ DS w0 bw (m ++ beBytes n.toNat k) w' := by
  obtain ⟨v, sp, k1, k2, k3, k4⟩ := h
  have hr := RNum_any bw v m sp 0 n k w k1 (by omega) hn6
  rw [step_num (by omega) (by omega) hn0 (by simpa using hn) (by omega)] at hr
  refine hr.mono ?_
  rintro r w' ⟨rfl, hw⟩
  exact ⟨rfl, DS.to k2 k3 k4 (by simpa using hw)⟩
theorem DS.pad (h : DS w0 bw m w) (hl : m.length ≤ 224) : Calls Tryz.prog 55 #[.pointer (some ⟨bw, 0, none⟩), .int .i64 224] w fun r w' => r = .returned (.tuple #[]) ∧ DS w0 bw (m ++ List.replicate (224 - m.length) 0) w' := by
  obtain ⟨v, sp, k1, k2, k3, k4⟩ := h
  have hr := RPad_any bw v m sp 0 (224 : Nat) w k1 (by omega)
  rw [step_pad hl (by omega)] at hr
  refine hr.mono ?_
  rintro r w' ⟨rfl, hw⟩
  exact ⟨rfl, DS.to k2 k3 k4 hw⟩
theorem DS.out (h : DS w0 bw m w) (hl : m.length ≤ 1000) : Calls Tryz.prog 56 #[.pointer (some ⟨bw, 0, none⟩)] w fun r w' => ∃ a cap sp, r = .returned (.tuple #[.slice a m.length cap, .int .i64 0]) ∧ OwnB 5 w' (.slice a m.length cap) m sp ∧ Frm [] w w' ∧ Fresh w (.slice a m.length cap) := by
  obtain ⟨v, sp, k1, k2, k3, k4⟩ := h
  exact ROut_any bw v m sp 0 w k1 (by omega)
/-- The bytes that it has lie in the box. -/
theorem DS.cell (h : DS w0 bw m w) : ∃ a cap sp, w.cell? ⟨bw, 0, none⟩ = some (.slice a m.length cap) ∧ SlB w (.slice a m.length cap) m sp := by
  obtain ⟨v, sp, k1, k2, k3, k4⟩ := h
  obtain ⟨a, cap, rfl, _, _⟩ := k1.2.1.sl.form
  exact ⟨a, cap, sp, by rw [cell_of_heap k1.1]; rfl, k1.2.1.sl⟩
end
set_option maxHeartbeats 8000000 in
theorem RefPack_any (x : Value) (u : Ub) (w : World) (h : UbV w x u) (hl : u.root.ads.length ≤ 1000000) : Calls Tryz.prog 17 #[x] w (PackP u w) := by
  obtain ⟨a, cap, sp, rfl, hS, hw⟩ := id h
  have hC := fun W (f : Frm [] w W) => RefUCheck_any _ u W (h.keep0 f) hl
  have HBy := Lib.hid (fun W (f : Frm [] w W) => Pt.RefBytes_any _ u.root W (h.root.keep0 f) hl)
  have b0 := UB.new w (.slice a u.root.ads.length cap) hw
  have f0 : Frm [] w (w.alloc (.cells (uc (.slice a u.root.ads.length cap) u).toArray 28)) := (Frm.refl [] w).alloc _
  have HB := Lib.hid b0
  have G0 := Lib.hid b0.gets.all
  have HC := Lib.hid (hC _ f0)
  have HW := Lib.hid hw
  have hpv := uv_box (.slice a u.root.ads.length cap) u
  clear h hS hC b0 hw
  rw [hpv] at HC G0 ⊢
  have HPV := Lib.hid hpv
  clear hpv
  generalize hA : (uc (.slice a u.root.ads.length cap) u).toArray = A at *
  go_enter Tryz.func17, Tryz.ntmps17
  go_upto_region 1 with fail
  generalize w.alloc (.cells A 28) = W at *
  have F0 := Lib.hid f0
  clear f0 hA
  by_cases hm : MayU u
  · rw [mayE_yes hm] at HC
    go_upto_region 3 with (first
      | ((with_reducible (show wpList _ _ _ (Oper.mk _ (Op.load 28 _) _ _ _ _ :: _) _ _)); refine wpList_load_g (by rfl) 28 _ rfl _ rfl G0.out ?_)
      | (go_at_call 20; refine HC.out.mono ?_; rintro r w1 ⟨rfl, f1⟩))
    have B1 := Lib.hid (HB.out.keep0 f1)
    have R1 := Lib.hid B1.out.gets.root
    have F1 := Lib.hid (F0.out.trans f1 (by simp))
    have HB1 := Lib.hid (HBy.out _ F1.out)
    have hbe : Pt.outB u.root = enc u.root := by unfold Pt.outB; rw [if_pos ((Pt.mayB_iff _).2 hm.root)]
    have he := Pt.enc_len hm.root HW.out.sum
    have HEL := Lib.hid he
    have hhd : headU u = ((((mark ++ u.pool) ++ beBytes u.txg.toNat 5) ++ beBytes u.len.toNat 3) ++ enc u.root) ++ List.replicate 129 0 := by simp [headU, midU, -List.reduceReplicate]
    have hhl := headU_length HW.out hm
    unfold Pt.BytesP at HB1
    rw [hbe] at HB1
    have HPK := Lib.hid (show packO u = headU u ++ Hs.sha (headU u) from by rw [packO_yes hm]; rfl)
    have HME := Lib.hid (mayE_yes hm)
    have HM := Lib.hid hm
    clear hbe he hm HC G0 HB HBy f1
    obtain ⟨H, hH⟩ : ∃ H, headU u = H := ⟨_, rfl⟩
    rw [hH] at hhd hhl HPK
    have HHD := Lib.hid hhd
    have HHL := Lib.hid hhl
    clear hH hhd hhl
    obtain ⟨en, hen⟩ : ∃ en, enc u.root = en := ⟨_, rfl⟩
    rw [hen] at HB1 HEL HHD
    clear hen
    go_upto_region 4 with (first
      | ((with_reducible (show wpList _ _ _ (Oper.mk _ (Op.load 26 _) _ _ _ _ :: _) _ _)); refine wpList_load_g (by rfl) 26 _ rfl _ rfl R1.out ?_)
      | (go_at_call 52; refine HB1.out.mono ?_; rintro r w2 ⟨a1, c1, s1, rfl, o1, f2, n1⟩))
    have O2 := Lib.hid o1.sl
    have B2 := Lib.hid (B1.out.keep0 f2)
    have F2 := Lib.hid (F1.out.trans f2 (by simp))
    have NX := Lib.hid (show w2.heap.size ∉ blkR (.slice a1 en.length c1) from fun hm => by have := o1.lt _ (blkR_sub hm); omega)
    clear o1 f2 n1 B1 F1 HB1 R1
    go_upto_region 5 with fail
    have S3 := Lib.hid (show DS w2 w2.heap.size [] (w2.alloc (.cells #[.slice none 0 0, .int .i64 0] 78)) from ⟨.slice none 0 0, [], ⟨heap_alloc_new _ _, OwnB.nil _ _, by simp [blk]⟩, by simp [blk], (Frm.refl [] w2).alloc _, Nat.le_refl _⟩)
    generalize w2.alloc (.cells #[.slice none 0 0, .int .i64 0] 78) = w3 at *
    generalize w2.heap.size = bw at *
    have hSm := Hs.slb_new w3 mark 8 #[.int .u8 67, .int .u8 65, .int .u8 85, .int .u8 76, .int .u8 75, .int .u8 69, .int .u8 82, .int .u8 50] (8, 9) rfl rfl (by simp [mark, maxLen])
    have fm : Frm [] w3 (w3.alloc (.cells #[.int .u8 67, .int .u8 65, .int .u8 85, .int .u8 76, .int .u8 75, .int .u8 69, .int .u8 82, .int .u8 50] 5 (8, 9))) := (Frm.refl [] w3).alloc _
    have C3 := Lib.hid ((S3.out.keep0 fm).raw hSm (by have := S3.out.lt; simp [blkR]; omega) (by simp [mark]))
    have kc := fun (w : World) (C : Array Value) (n c : Nat) => Lib.run_convert_bytes_const (P := Tryz.prog) w 32 5 C n c Tryz.underlying32 Tryz.underlying5
    clear hSm fm
    go_upto_region 6 with (go_at_call 53; refine C3.out.mono ?_; rintro r w4 ⟨rfl, h4⟩; have S4 := Lib.hid h4; clear h4)
    clear kc C3 S3
    have hsl := sliceAt24
    have o0 : OwnB 5 (w4.alloc (.cells #[] 5)) (.slice (some ⟨w4.heap.size, 0, none⟩) 0 0) [] [] := OwnB.of_heap (heap_alloc_new _ _) rfl rfl (by simp)
    have fe : Frm [] w4 (w4.alloc (.cells #[] 5)) := (Frm.refl _ _).alloc _
    have BXh := Lib.hid ((B2.out.keep0 (S4.out.frm.trans fe (by simp))).poolS)
    have FE := Lib.hid fe
    have O0 := Lib.hid o0
    have hlp := HW.out.pool
    clear fe o0
    go_upto_region 7 with (first | (at_builtin; refine wpList_append_bytes BT O0.out BXh.out (by rw [HW.out.pool]; decide) rfl (.tmp 24) (.tmp 26) rfl rfl rfl ?_; intro a2 c2 W5 s2 o2 fa b2; simp only [List.length_nil, Nat.zero_add, HW.out.pool, List.nil_append] at o2 b2; have FA := Lib.hid (FE.out.trans fa (by simp [blk])); have HRa := Lib.hid ((S4.out.keep0 FA.out).raw o2.sl (fun hm => by have h9 := blkR_sub hm; have := S4.out.lt; rcases b2 _ h9 with h9 | h9 <;> simp [blk] at h9 <;> omega) (by simp [mark, HW.out.pool])); clear fa b2 o2) | (go_at_call 53; refine HRa.out.mono ?_; rintro r w5 ⟨rfl, h5⟩; have S5 := Lib.hid h5; clear h5))
    clear hsl HRa FA BXh FE O0 S4 hlp
    have c0 := ((B2.out.keep0 S5.out.frm).gets).c0
    have C5 := Lib.hid (S5.out.num u.txg 5 (by omega) (by omega) (by have := HM.out.t1; omega) (by have := HM.out.t2; omega) (by have := HM.out.t2; omega) (by rw [List.length_append, HW.out.pool]; simp [mark]))
    go_upto_region 8 with (go_at_call 54; refine C5.out.mono ?_; rintro r w6 ⟨rfl, h6⟩; have S6 := Lib.hid h6; clear h6)
    clear c0 C5 S5
    have c36 := ((B2.out.keep0 S6.out.frm).gets).c36
    have C6 := Lib.hid (S6.out.num u.len 3 (by omega) (by omega) HM.out.l0 (by have := HM.out.l1; omega) (by have := HM.out.l1; omega) (by simp [mark, HW.out.pool, beBytes_length]))
    go_upto_region 9 with (go_at_call 54; refine C6.out.mono ?_; rintro r w7 ⟨rfl, h7⟩; have S7 := Lib.hid h7; clear h7)
    clear c36 C6 S6
    have C7 := Lib.hid (S7.out.raw (O2.out.keep S7.out.frm (by simp)) NX.out (by simp [mark, HW.out.pool, beBytes_length, HEL.out]))
    go_upto_region 10 with (go_at_call 53; refine C7.out.mono ?_; rintro r w8 ⟨rfl, h8⟩; have S8 := Lib.hid h8; clear h8)
    clear C7 S7
    have e7 : ([] ++ mark ++ u.pool ++ beBytes u.txg.toNat 5 ++ beBytes u.len.toNat 3 ++ en).length = 95 := by simp [mark, HW.out.pool, beBytes_length, HEL.out]
    have C8 := Lib.hid (S8.out.pad (by rw [e7]; omega))
    rw [e7, show ([] ++ mark ++ u.pool ++ beBytes u.txg.toNat 5 ++ beBytes u.len.toNat 3 ++ en) ++ List.replicate (224 - 95) 0 = H by rw [HHD.out]; simp [-List.reduceReplicate]] at C8
    clear e7
    go_upto_region 11 with (go_at_call 55; refine C8.out.mono ?_; rintro r w9 ⟨rfl, h9⟩; have S9 := Lib.hid h9; clear h9)
    clear C8 S8
    obtain ⟨ab, cb, sb, kb, kS⟩ := S9.out.cell
    have HSm := Lib.hid (Hs.RefSum_any _ H sb w9 kS (by rw [HHL.out]; decide))
    have hsl := sha_length H
    rw [show (Value.agg (bvs (Hs.sha H)).toArray) = idv (Hs.sha H) from rfl] at HSm
    obtain ⟨X, hX⟩ : ∃ X, Hs.sha H = X := ⟨_, rfl⟩
    rw [hX] at HSm hsl HPK
    clear hX kS
    go_upto_region 12 with (first
      | (go_at_call 32; refine HSm.out.mono ?_; rintro r wa ⟨rfl, fa⟩)
      | ((with_reducible (show wpList _ _ _ (Oper.mk _ (Op.alloc 24) _ _ _ _ :: _) _ _)); refine wpList_lay24 rfl rfl rfl _ _ rfl (s := X) hsl rfl rfl ?_))
    have h4 := heap_alloc_new wa (.cells (bvs X).toArray 24)
    have f4 : Frm [] wa (wa.alloc (.cells (bvs X).toArray 24)) := (Frm.refl [] wa).alloc _
    have SX := slb_id h4 hsl
    have S10 := Lib.hid (S9.out.keep0 (fa.trans f4 (by simp)))
    clear h4 f4 fa kb S9 HSm
    generalize wa.alloc (.cells (bvs X).toArray 24) = w10 at *
    generalize wa.heap.size = gd at *
    have hsz := sliceAt24z
    have o0 : OwnB 5 (w10.alloc (.cells #[] 5)) (.slice (some ⟨w10.heap.size, 0, none⟩) 0 0) [] [] := OwnB.of_heap (heap_alloc_new _ _) rfl rfl (by simp)
    have fe : Frm [] w10 (w10.alloc (.cells #[] 5)) := (Frm.refl _ _).alloc _
    have BXh := Lib.hid (SX.keep fe (by simp))
    have FE := Lib.hid fe
    have O0 := Lib.hid o0
    have HXL := Lib.hid hsl
    clear fe o0 SX
    go_upto_region 13 with (first | (at_builtin; refine wpList_append_bytes BT O0.out BXh.out (by rw [HXL.out]; decide) rfl (.tmp 48) (.tmp 49) rfl rfl rfl ?_; intro a2 c2 W5 s2 o2 fa b2; simp only [List.length_nil, Nat.zero_add, HXL.out, List.nil_append] at o2 b2; have FA := Lib.hid (FE.out.trans fa (by simp [blk])); have HRa := Lib.hid ((S10.out.keep0 FA.out).raw o2.sl (fun hm => by have h9 := blkR_sub hm; have := S10.out.lt; rcases b2 _ h9 with h9 | h9 <;> simp [blk] at h9 <;> omega) (by rw [HHL.out, HXL.out]; decide)); clear fa b2 o2) | (go_at_call 53; refine HRa.out.mono ?_; rintro r w11 ⟨rfl, h11⟩; have S11 := Lib.hid h11; clear h11))
    rw [← HPK.out] at S11
    have hpl : (packO u).length = 256 := by rw [HPK.out, List.length_append, HHL.out, HXL.out]
    have C9 := Lib.hid (S11.out.out (by rw [hpl]; omega))
    clear hpl
    obtain ⟨PO, hPO⟩ : ∃ PO, packO u = PO := ⟨_, rfl⟩
    rw [hPO] at C9
    have HPO := Lib.hid hPO
    clear hPO
    go_wp2_with (go_at_call 56; refine C9.out.mono ?_; rintro r w12 ⟨a9, c9, s9, rfl, o9, f9, n9⟩)
    go_ret2
    have ff := F2.out.trans S11.out.frm (by simp)
    have e := HPO.out
    subst e
    exact ⟨a9, c9, s9, by rw [HME.out]; rfl, o9, ff.trans f9 (by simp), fun i hi => Nat.le_trans ff.size (n9 i hi)⟩
  · rw [mayE_no hm] at HC
    have HM := Lib.hid hm
    clear hm
    go_wp2_with (first
      | ((with_reducible (show wpList _ _ _ (Oper.mk _ (Op.load 28 _) _ _ _ _ :: _) _ _)); refine wpList_load_g (by rfl) 28 _ rfl _ rfl G0.out ?_)
      | (go_at_call 20; refine HC.out.mono ?_; rintro r w1 ⟨rfl, f1⟩))
    go_ret2
    exact ⟨none, 0, [], by simp [packO_no HM.out, mayE_no HM.out], by rw [packO_no HM.out]; exact OwnB.nil _ _, F0.out.trans f1 (by simp), by simp [Fresh, blk]⟩
end Go.Proofs.YtjdejhgfkjeeiaaGreatDoor
