/-
  ArrayKnown: the walk. No conditions but those that each theorem names.
-/
import Derived.Test.YtdebnikolhhmgaaDoorBX
import Derived.Test.YtdebnikolhhmgaaDoorBU
import Derived.OrdersHeld
import Derived.Deep.RegionLaw
namespace Go.Proofs.YtdebnikolhhmgaaDoor
open Go.RowKit
set_option linter.unusedVariables false
set_option linter.unusedSimpArgs false
set_option maxRecDepth 100000

open Kr (OwnE SlE Enco RowTys)
theorem of_x (b : UInt8) (x : Int) (hx : x = (b.toNat : Int)) (w : World) : Calls Tryd.prog 29 #[.int .u8 x] w (OfP b w) := by
  subst hx
  exact of_any b w
def tornL : List UInt8 := List.replicate 3 1 ++ List.replicate 253 0
theorem slB_tail {w : World} {g : Nat} {b : UInt8} (h : OwnB 5 w (.slice (some ⟨g, 0, none⟩) 256 256) (ofL b) []) : SlB w (.slice (some ⟨g, 3, none⟩) 253 253) (List.replicate 253 b) [] := by
  have hh := h.heap
  refine ⟨by rw [bvs_length, List.length_replicate], .inr (.inr ⟨g, 3, 253, by rw [List.length_replicate], by rw [List.length_replicate]; omega, by simp only [maxLen]; omega, by rw [show bvs [] = [] from rfl, List.append_nil, bvs_length, List.length_replicate], fun i u hu => ?_⟩)⟩
  rw [show bvs [] = [] from rfl, List.append_nil, bvs_get] at hu
  rw [cell_of_heap hh, List.getElem?_toArray, bvs_get, List.append_nil, ofL]
  have hi : i < 253 := by
    by_cases hi : i < 253
    · exact hi
    · rw [List.getElem?_eq_none (by rw [List.length_replicate]; omega)] at hu; cases hu
  rw [List.getElem?_replicate, if_pos hi] at hu
  rw [List.getElem?_replicate, if_pos (by omega)]
  exact hu
theorem own_head {w : World} {g : Nat} {b : UInt8} (h : OwnB 5 w (.slice (some ⟨g, 0, none⟩) 256 256) (ofL b) []) : OwnB 5 w (.slice (some ⟨g, 0, none⟩) 3 256) (List.replicate 3 b) (List.replicate 253 b) := by
  have hh := h.heap
  have e : ofL b ++ [] = List.replicate 3 b ++ List.replicate 253 b := by rw [List.append_nil, List.replicate_append_replicate]; rfl
  rw [e] at hh
  exact OwnB.of_heap hh (by simp) (by simp) (by simp only [maxLen]; omega)
def kn0 : St := newS 8 2
theorem knf0 : Wf 0 kn0 := new_wf 8 2 (by omega)
def kn1 : St := (stR kn0 1 6).2
theorem kne1 : (stR kn0 1 6).1 = 0 := by kernel_rfl
theorem knf1 : Wf 0 kn1 := knf0.stR _ _
def kn2 : St := (wrR kn1 1 5 (ofL 1)).2
theorem kne2 : (wrR kn1 1 5 (ofL 1)).1 = 0 := by kernel_rfl
theorem knf2 : Wf 1 kn2 := knf1.wrR _ _ _
def kn3 : St := (rdR kn2 1 5).2
theorem kne3 : (decide ((rdR kn2 1 5).1 = none) && (tellAt kn2 1 5 == (ofL 0))) = true := by kernel_rfl
theorem knf3 : Wf 1 kn3 := knf2.rdR _ _
def kn4 : St := (rdR kn3 1 6).2
theorem kne4 : (decide ((rdR kn3 1 6).1 = none) && (tellAt kn3 1 6 == (ofL 1))) = true := by kernel_rfl
theorem knf4 : Wf 1 kn4 := knf3.rdR _ _
def kn5 : St := (faR kn4 1 1).2
theorem kne5 : (faR kn4 1 1).1 = 0 := by kernel_rfl
theorem knf5 : Wf 1 kn5 := knf4.faR _ _
def kn6 : St := (rdR kn5 1 6).2
theorem kne6 : (rdR kn5 1 6).1 = some 5 := by kernel_rfl
theorem knf6 : Wf 1 kn6 := knf5.rdR _ _
def kn7 : St := (rdR kn6 1 6).2
theorem kne7 : (decide ((rdR kn6 1 6).1 = none) && (tellAt kn6 1 6 == (ofL 1))) = true := by kernel_rfl
theorem knf7 : Wf 1 kn7 := knf6.rdR _ _
def kn8 : St := (crR kn7 [] 0).2
theorem kne8 : (crR kn7 [] 0).1 = 0 := by kernel_rfl
theorem knf8 : Wf 1 kn8 := knf7.crR _ _
def kn9 : St := (fuR kn8 1).2
theorem kne9 : (fuR kn8 1).1 = 0 := by kernel_rfl
theorem knf9 : Wf 1 kn9 := knf8.fuR _ (by omega)
def kn10 : St := (wrR kn9 0 7 (ofL 2)).2
theorem kne10 : (wrR kn9 0 7 (ofL 2)).1 = 0 := by kernel_rfl
theorem knf10 : Wf 2 kn10 := knf9.wrR _ _ _
def kn11 : St := (flR kn10 0).2
theorem kne11 : (flR kn10 0).1 = 10 := by kernel_rfl
theorem knf11 : Wf 3 kn11 := knf10.flR _
theorem knu11 : (dCons (nR kn11, kn11) (dCons (nD kn11 0, kn11) (nT kn11 0, kn11))).1.isNone = false := by kernel_rfl
def kn12 : St := (crR kn11 [true] 0).2
theorem kne12 : (crR kn11 [true] 0).1 = 0 := by kernel_rfl
theorem knf12 : Wf 3 kn12 := knf11.crR _ _
def kn13 : St := (rdR kn12 0 7).2
theorem kne13 : (decide ((rdR kn12 0 7).1 = none) && (tellAt kn12 0 7 == (ofL 2))) = true := by kernel_rfl
theorem knf13 : Wf 3 kn13 := knf12.rdR _ _
def kn14 : St := (wrR kn13 1 8 (ofL 1)).2
theorem kne14 : (wrR kn13 1 8 (ofL 1)).1 = 5 := by kernel_rfl
theorem knf14 : Wf 4 kn14 := knf13.wrR _ _ _
def kn15 : St := (wrR kn14 1 7 []).2
theorem kne15 : (wrR kn14 1 7 []).1 = 2 := by kernel_rfl
theorem knf15 : Wf 5 kn15 := knf14.wrR _ _ _
def kn16 : St := (puR kn15 0).2
theorem kne16 : (puR kn15 0).1 = 0 := by kernel_rfl
theorem knf16 : Wf 5 kn16 := knf15.puR _
def kn17 : St := (rdR kn16 0 5).2
theorem kne17 : (rdR kn16 0 5).1 = some 4 := by kernel_rfl
theorem knf17 : Wf 5 kn17 := knf16.rdR _ _
def kn18 : St := (fiR kn17 0).2
theorem kne18 : (fiR kn17 0).1 = 0 := by kernel_rfl
theorem knf18 : Wf 5 kn18 := knf17.fiR _
def kn19 : St := (rdR kn18 0 7).2
theorem kne19 : (decide ((rdR kn18 0 7).1 = none) && (tellAt kn18 0 7 == (ofL 0))) = true := by kernel_rfl
theorem knf19 : Wf 5 kn19 := knf18.rdR _ _
def kn20 : St := (wrR kn19 1 5 (ofL 1)).2
theorem kne20 : (wrR kn19 1 5 (ofL 1)).1 = 0 := by kernel_rfl
theorem knf20 : Wf 6 kn20 := knf19.wrR _ _ _
def kn21 : St := (wrR kn20 1 6 (ofL 1)).2
theorem kne21 : (wrR kn20 1 6 (ofL 1)).1 = 0 := by kernel_rfl
theorem knf21 : Wf 7 kn21 := knf20.wrR _ _ _
def kn22 : St := (crR kn21 [false, true] 3).2
theorem kne22 : (crR kn21 [false, true] 3).1 = 0 := by kernel_rfl
theorem knf22 : Wf 7 kn22 := knf21.crR _ _
def kn23 : St := (rdR kn22 1 5).2
theorem kne23 : (decide ((rdR kn22 1 5).1 = none) && (tellAt kn22 1 5 == tornL)) = true := by kernel_rfl
theorem knf23 : Wf 7 kn23 := knf22.rdR _ _
def kn24 : St := (rdR kn23 1 6).2
theorem kne24 : (decide ((rdR kn23 1 6).1 = none) && (tellAt kn23 1 6 == (ofL 1))) = true := by kernel_rfl
theorem knf24 : Wf 7 kn24 := knf23.rdR _ _
set_option maxHeartbeats 32000000 in
theorem Known_any {lo : Nat} {w : World} {sn : Nat → Addr} (hs : Sn w lo sn) (hlo : lo ≤ w.heap.size) : Calls Tryd.prog 4 #[] w fun e w' => e = .returned (.bool true) ∧ Fa lo w w' := by
  have HS := Lib.hid hs
  have HLO := Lib.hid hlo
  clear hs hlo
  go_enter Tryd.func4, Tryd.ntmps4
  go_upto_region 14 with (first
    | (go_at_call 28; refine (made_any HS.out HLO.out).mono ?_; rintro e w1 ⟨g, rfl, a1, f1⟩; have A := Lib.hid (show Arr lo w1 g kn0 from a1); have F := Lib.hid f1; have S := Lib.hid (HS.out.fa f1); have P0 := Lib.hid True.intro; clear a1 f1 HS)
    | (go_at_call 19; have hp := P0; refine (st_at S.out A.out knf0 (by omega) 1 6).mono ?_; rintro e w1 ⟨rfl, a1, f1⟩; rw [kne1]; have F := Lib.hid (F.out.trans f1); have S := Lib.hid (S.out.fa f1); have A := Lib.hid (show Arr lo w1 g kn1 from a1); have P1 := Lib.hid True.intro; clear P0 hp; clear a1 f1)
    | (go_at_call 29; have hp := P1; refine (of_at (lo := lo) 1 _ rfl).mono ?_; rintro e w1 ⟨v, rfl, hv, f0⟩; have f1 := Fa.of0 f0 lo; have F := Lib.hid (F.out.trans f1); have S := Lib.hid (S.out.fa f1); have A := Lib.hid (A.out.keep0 f0); have V := Lib.hid hv; have P2 := Lib.hid True.intro; clear P1 hp; clear hv f1 f0)
    | (go_at_call 13; have hp := P2; refine (wr_at S.out A.out knf1 (by omega) 1 5 _ (ofL 1) [] V.out).mono ?_; rintro e w1 ⟨rfl, a1, f1⟩; rw [kne2]; have F := Lib.hid (F.out.trans f1); have S := Lib.hid (S.out.fa f1); have A := Lib.hid (show Arr lo w1 g kn2 from a1); have P3 := Lib.hid True.intro; clear P2 hp V; clear a1 f1)
    | (go_at_call 29; have hp := P3; refine (of_at (lo := lo) 0 _ rfl).mono ?_; rintro e w1 ⟨v, rfl, hv, f0⟩; have f1 := Fa.of0 f0 lo; have F := Lib.hid (F.out.trans f1); have S := Lib.hid (S.out.fa f1); have A := Lib.hid (A.out.keep0 f0); have V := Lib.hid hv; have P4 := Lib.hid True.intro; clear P3 hp; clear hv f1 f0)
    | (go_at_call 30; have hp := P4; refine (rd_at S.out A.out knf2 (by omega) 1 5 _ (ofL 0) _ V.out).mono ?_; rintro e w1 ⟨rfl, a1, f1⟩; rw [kne3]; have F := Lib.hid (F.out.trans f1); have S := Lib.hid (S.out.fa f1); have A := Lib.hid (show Arr lo w1 g kn3 from a1); have P5 := Lib.hid True.intro; clear P4 hp V; clear a1 f1)
    | (go_at_call 29; have hp := P5; refine (of_at (lo := lo) 1 _ rfl).mono ?_; rintro e w1 ⟨v, rfl, hv, f0⟩; have f1 := Fa.of0 f0 lo; have F := Lib.hid (F.out.trans f1); have S := Lib.hid (S.out.fa f1); have A := Lib.hid (A.out.keep0 f0); have V := Lib.hid hv; have P6 := Lib.hid True.intro; clear P5 hp; clear hv f1 f0)
    | (go_at_call 30; have hp := P6; refine (rd_at S.out A.out knf3 (by omega) 1 6 _ (ofL 1) _ V.out).mono ?_; rintro e w1 ⟨rfl, a1, f1⟩; rw [kne4]; have F := Lib.hid (F.out.trans f1); have S := Lib.hid (S.out.fa f1); have A := Lib.hid (show Arr lo w1 g kn4 from a1); have P7 := Lib.hid True.intro; clear P6 hp V; clear a1 f1)
    | (go_at_call 20; have hp := P7; refine (fa_at S.out A.out 1 1 (by omega)).mono ?_; rintro e w1 ⟨rfl, a1, f1⟩; rw [kne5]; have F := Lib.hid (F.out.trans f1); have S := Lib.hid (S.out.fa f1); have A := Lib.hid (show Arr lo w1 g kn5 from a1); have P8 := Lib.hid True.intro; clear P7 hp; clear a1 f1)
    | (go_at_call 11; have hp := P8; refine (rdE_at S.out A.out knf5 (by omega) 1 6 5 kne6).mono ?_; rintro e w1 ⟨rfl, a1, f1⟩; rw [show code 5 = 13 from rfl]; have F := Lib.hid (F.out.trans f1); have S := Lib.hid (S.out.fa f1); have A := Lib.hid (show Arr lo w1 g kn6 from a1); have P9 := Lib.hid True.intro; clear P8 hp; clear a1 f1)
    | (go_at_call 29; have hp := P9; refine (of_at (lo := lo) 1 _ rfl).mono ?_; rintro e w1 ⟨v, rfl, hv, f0⟩; have f1 := Fa.of0 f0 lo; have F := Lib.hid (F.out.trans f1); have S := Lib.hid (S.out.fa f1); have A := Lib.hid (A.out.keep0 f0); have V := Lib.hid hv; have P10 := Lib.hid True.intro; clear P9 hp; clear hv f1 f0)
    | (go_at_call 30; have hp := P10; refine (rd_at S.out A.out knf6 (by omega) 1 6 _ (ofL 1) _ V.out).mono ?_; rintro e w1 ⟨rfl, a1, f1⟩; rw [kne7]; have F := Lib.hid (F.out.trans f1); have S := Lib.hid (S.out.fa f1); have A := Lib.hid (show Arr lo w1 g kn7 from a1); have P11 := Lib.hid True.intro; clear P10 hp V; clear a1 f1)
    | (go_at_call 16; have hp := P11; refine (cr_at S.out A.out knf7 (by omega) _ [] [] 0 (fun w2 f2 => SlE.nil _ _ _)).mono ?_; rintro e w1 ⟨rfl, a1, f1⟩; rw [kne8]; have F := Lib.hid (F.out.trans f1); have S := Lib.hid (S.out.fa f1); have A := Lib.hid (show Arr lo w1 g kn8 from a1); have P12 := Lib.hid True.intro; clear P11 hp; clear a1 f1)
    | (go_at_call 15; have hp := P12; refine (fu_at S.out A.out 1).mono ?_; rintro e w1 ⟨rfl, a1, f1⟩; rw [kne9]; have F := Lib.hid (F.out.trans f1); have S := Lib.hid (S.out.fa f1); have A := Lib.hid (show Arr lo w1 g kn9 from a1); have P13 := Lib.hid True.intro; clear P12 hp; clear a1 f1)
    | (go_at_call 29; have hp := P13; refine (of_at (lo := lo) 2 _ rfl).mono ?_; rintro e w1 ⟨v, rfl, hv, f0⟩; have f1 := Fa.of0 f0 lo; have F := Lib.hid (F.out.trans f1); have S := Lib.hid (S.out.fa f1); have A := Lib.hid (A.out.keep0 f0); have V := Lib.hid hv; have P14 := Lib.hid True.intro; clear P13 hp; clear hv f1 f0)
    | (go_at_call 13; have hp := P14; refine (wr_at S.out A.out knf9 (by omega) 0 7 _ (ofL 2) [] V.out).mono ?_; rintro e w1 ⟨rfl, a1, f1⟩; rw [kne10]; have F := Lib.hid (F.out.trans f1); have S := Lib.hid (S.out.fa f1); have A := Lib.hid (show Arr lo w1 g kn10 from a1); have P15 := Lib.hid True.intro; clear P14 hp V; clear a1 f1)
    | (go_at_call 14; have hp := P15; refine (fl_at S.out A.out knf10 (by omega) 0).mono ?_; rintro e w1 ⟨rfl, a1, f1⟩; rw [kne11]; have F := Lib.hid (F.out.trans f1); have S := Lib.hid (S.out.fa f1); have A := Lib.hid (show Arr lo w1 g kn11 from a1); have P16 := Lib.hid True.intro; clear P15 hp; clear a1 f1)
    | (go_at_call 27; have hp := P16; refine (up_at S.out A.out 0).mono ?_; rintro e w1 ⟨rfl, a1, f1⟩; rw [knu11]; have F := Lib.hid (F.out.trans f1); have S := Lib.hid (S.out.fa f1); have A := Lib.hid (show Arr lo w1 g kn11 from a1); have P17 := Lib.hid True.intro; clear P16 hp; clear a1 f1)
    | (go_at_call 16; have hp := P17; have fz := Lib.hid (fun (W : World) (o : Obj) => (Frm.refl [] W).alloc o); refine (cr_at (S.out.keep0 (fz.out _ _)) (A.out.keep0 (fz.out _ _)) knf11 (by omega) _ [true] [] 0 (fun w2 f2 => Kr.SlE.of_block encB (T := 4) (f2.typ _ _ _ _ (heap_alloc_new _ _) (by decide)) rfl (by decide))).mono ?_; rintro e w1 ⟨rfl, a1, f2⟩; have f1 := (Fa.of0 (fz.out _ _) lo).trans f2; rw [kne12]; have F := Lib.hid (F.out.trans f1); have S := Lib.hid (S.out.fa f1); have A := Lib.hid (show Arr lo w1 g kn12 from a1); have P18 := Lib.hid True.intro; clear P17 hp fz; clear a1 f1 f2)
    | (go_at_call 29; have hp := P18; refine (of_at (lo := lo) 2 _ rfl).mono ?_; rintro e w1 ⟨v, rfl, hv, f0⟩; have f1 := Fa.of0 f0 lo; have F := Lib.hid (F.out.trans f1); have S := Lib.hid (S.out.fa f1); have A := Lib.hid (A.out.keep0 f0); have V := Lib.hid hv; have P19 := Lib.hid True.intro; clear P18 hp; clear hv f1 f0)
    | (go_at_call 30; have hp := P19; refine (rd_at S.out A.out knf12 (by omega) 0 7 _ (ofL 2) _ V.out).mono ?_; rintro e w1 ⟨rfl, a1, f1⟩; rw [kne13]; have F := Lib.hid (F.out.trans f1); have S := Lib.hid (S.out.fa f1); have A := Lib.hid (show Arr lo w1 g kn13 from a1); have P20 := Lib.hid True.intro; clear P19 hp V; clear a1 f1)
    | (go_at_call 31; have hp := P20; refine (New_no 1 8 S.out (by omega)).mono ?_; rintro e w1 ⟨rfl, f0⟩; have f1 := Fa.of0 f0 lo; rw [show code 0 = 2 from rfl]; have F := Lib.hid (F.out.trans f1); have S := Lib.hid (S.out.fa f1); have A := Lib.hid (A.out.keep0 f0); have P21 := Lib.hid True.intro; clear P20 hp; clear f1 f0)
    | (go_at_call 29; have hp := P21; refine (of_at (lo := lo) 1 _ rfl).mono ?_; rintro e w1 ⟨v, rfl, hv, f0⟩; have f1 := Fa.of0 f0 lo; have F := Lib.hid (F.out.trans f1); have S := Lib.hid (S.out.fa f1); have A := Lib.hid (A.out.keep0 f0); have V := Lib.hid hv; have P22 := Lib.hid True.intro; clear P21 hp; clear hv f1 f0)
    | (go_at_call 13; have hp := P22; refine (wr_at S.out A.out knf13 (by omega) 1 8 _ (ofL 1) [] V.out).mono ?_; rintro e w1 ⟨rfl, a1, f1⟩; rw [kne14]; have F := Lib.hid (F.out.trans f1); have S := Lib.hid (S.out.fa f1); have A := Lib.hid (show Arr lo w1 g kn14 from a1); have P23 := Lib.hid True.intro; clear P22 hp V; clear a1 f1)
    | (go_at_call 13; have hp := P23; refine (wr_at S.out A.out knf14 (by omega) 1 7 _ [] [] (fun _ _ => SlB.nil _)).mono ?_; rintro e w1 ⟨rfl, a1, f1⟩; rw [kne15]; have F := Lib.hid (F.out.trans f1); have S := Lib.hid (S.out.fa f1); have A := Lib.hid (show Arr lo w1 g kn15 from a1); have P24 := Lib.hid True.intro; clear P23 hp; clear a1 f1)
    | (go_at_call 21; have hp := P24; refine (pu_at S.out A.out knf15 (by omega) 0).mono ?_; rintro e w1 ⟨rfl, a1, f1⟩; rw [kne16]; have F := Lib.hid (F.out.trans f1); have S := Lib.hid (S.out.fa f1); have A := Lib.hid (show Arr lo w1 g kn16 from a1); have P25 := Lib.hid True.intro; clear P24 hp; clear a1 f1)
    | (go_at_call 11; have hp := P25; refine (rdE_at S.out A.out knf16 (by omega) 0 5 4 kne17).mono ?_; rintro e w1 ⟨rfl, a1, f1⟩; rw [show code 4 = 14 from rfl]; have F := Lib.hid (F.out.trans f1); have S := Lib.hid (S.out.fa f1); have A := Lib.hid (show Arr lo w1 g kn17 from a1); have P26 := Lib.hid True.intro; clear P25 hp; clear a1 f1)
    | (go_at_call 22; have hp := P26; refine (fi_at S.out A.out knf17 (by omega) 0).mono ?_; rintro e w1 ⟨rfl, a1, f1⟩; rw [kne18]; have F := Lib.hid (F.out.trans f1); have S := Lib.hid (S.out.fa f1); have A := Lib.hid (show Arr lo w1 g kn18 from a1); have P27 := Lib.hid True.intro; clear P26 hp; clear a1 f1)
    | (go_at_call 29; have hp := P27; refine (of_at (lo := lo) 0 _ rfl).mono ?_; rintro e w1 ⟨v, rfl, hv, f0⟩; have f1 := Fa.of0 f0 lo; have F := Lib.hid (F.out.trans f1); have S := Lib.hid (S.out.fa f1); have A := Lib.hid (A.out.keep0 f0); have V := Lib.hid hv; have P28 := Lib.hid True.intro; clear P27 hp; clear hv f1 f0)
    | (go_at_call 30; have hp := P28; refine (rd_at S.out A.out knf18 (by omega) 0 7 _ (ofL 0) _ V.out).mono ?_; rintro e w1 ⟨rfl, a1, f1⟩; rw [kne19]; have F := Lib.hid (F.out.trans f1); have S := Lib.hid (S.out.fa f1); have A := Lib.hid (show Arr lo w1 g kn19 from a1); have P29 := Lib.hid True.intro; clear P28 hp V; clear a1 f1))
  refine wp_region_held_drew (S := fun _ => True) (by kernel_rfl) (trivial) (fun hHeld => ?_)
  refine wpAnyH_ready (rs := [0]) (by kernel_rfl) (by simp) ?_
  refine AllReadyH.cons (o := { dst := some 130, op := Op.call { callee := Callee.value (Operand.func 29), args := #[Operand.const (Value.int IntKind.u8 1)], argTypes := #[5] }, type := 22, pos := "outright.go:67", after := #[], guard := none }) rfl (fun K hK => ?_) AllReadyH.nil
  go_simp
  refine (of_x 1 _ rfl _).mono ?_
  rintro e w2 ⟨g2, rfl, o2, l2, f2⟩
  refine hK.out _ _ ?_ (fun hNext => ?_)
  · trivial
  clear hK K hHeld
  have hHeld := hNext
  clear hNext
  try simp only [Act.put, List.setIfInBounds_toArray, List.set_cons_zero, List.set_cons_succ]
  refine wpAnyH_take (i := 1) (oi := { dst := some 131, op := Op.slice 22 (Operand.tmp 130) none (some (Operand.const (Value.int IntKind.i64 3))) none, type := 22, pos := "outright.go:67", after := #[{ on := 0, ground := Ground.data }], guard := none }) (v := ?_) rfl (by kernel_rfl) (by kernel_rfl) (by kernel_rfl) (fun _ _ _ h => h) (Or.inl ⟨by rfl, ?_⟩) hHeld ?_
  rotate_left
  focus (intro z hSw; clear hSw; go_simp; try with_reducible rfl)
  try simp only [Act.put, List.setIfInBounds_toArray, List.set_cons_zero, List.set_cons_succ]
  refine wpAnyH_ready (rs := [2]) (by kernel_rfl) (by simp) ?_
  refine AllReadyH.cons (o := { dst := some 132, op := Op.call { callee := Callee.value (Operand.func 29), args := #[Operand.const (Value.int IntKind.u8 0)], argTypes := #[5] }, type := 22, pos := "outright.go:67", after := #[{ on := 0, ground := Ground.chain }], guard := none }) rfl (fun K hK => ?_) AllReadyH.nil
  go_simp
  refine (of_x 0 _ rfl _).mono ?_
  rintro e w3 ⟨g3, rfl, o3, l3, f3⟩
  refine hK.out _ _ ?_ (fun hNext => ?_)
  · trivial
  clear hK K hHeld
  have hHeld := hNext
  clear hNext
  try simp only [Act.put, List.setIfInBounds_toArray, List.set_cons_zero, List.set_cons_succ]
  refine wpAnyH_take (i := 3) (oi := { dst := some 133, op := Op.slice 22 (Operand.tmp 132) (some (Operand.const (Value.int IntKind.i64 3))) none none, type := 22, pos := "outright.go:67", after := #[{ on := 2, ground := Ground.data }], guard := none }) (v := ?_) rfl (by kernel_rfl) (by kernel_rfl) (by kernel_rfl) (fun _ _ _ h => h) (Or.inl ⟨by rfl, ?_⟩) hHeld ?_
  rotate_left
  focus (intro z hSw; clear hSw; go_simp; try with_reducible rfl)
  try simp only [Act.put, List.setIfInBounds_toArray, List.set_cons_zero, List.set_cons_succ]
  refine wpAnyH_ready (rs := [4]) (by kernel_rfl) (by simp) ?_
  refine AllReadyH.cons (o := { dst := some 134, op := Op.call { callee := Callee.builtin Builtin.append, args := #[Operand.tmp 131, Operand.tmp 133], argTypes := #[22, 22] }, type := 22, pos := "outright.go:67", after := #[{ on := 1, ground := Ground.data }, { on := 3, ground := Ground.data }, { on := 2, ground := Ground.chain }], guard := none }) rfl (fun K hK => ?_) AllReadyH.nil
  refine step_append_bytes BT (own_head (o2.keep f3 (by simp))) (slB_tail o3) (by simp) rfl (.tmp 131) (.tmp 133) rfl rfl rfl ?_
  intro a5 c5 w5 sp5 o5 f5 b5
  refine hK.out _ _ ?_ (fun hNext => ?_)
  · trivial
  clear hK K hHeld
  have hHeld := hNext
  clear hNext
  try simp only [Act.put, List.setIfInBounds_toArray, List.set_cons_zero, List.set_cons_succ]
  refine wpAnyH_take (i := 5) (oi := { dst := some 9, op := Op.assign (Operand.tmp 134), type := 22, pos := "outright.go:67", after := #[{ on := 4, ground := Ground.data }, { on := 4, ground := Ground.chain }, { on := 0, ground := Ground.phase }, { on := 1, ground := Ground.phase }, { on := 2, ground := Ground.phase }, { on := 3, ground := Ground.phase }, { on := 4, ground := Ground.phase }], guard := none }) (v := ?_) rfl (by kernel_rfl) (by kernel_rfl) (by kernel_rfl) (fun _ _ _ h => h) (Or.inl ⟨by rfl, ?_⟩) hHeld ?_
  rotate_left
  focus (intro z hSw; clear hSw; go_simp; try with_reducible rfl)
  try simp only [Act.put, List.setIfInBounds_toArray, List.set_cons_zero, List.set_cons_succ]
  refine wpAnyH_done (by kernel_rfl) ?_ _
  simp only [List.length_replicate] at o5 ⊢
  have f5' := ((f2.trans f3 (by simp)).trans f5 (fun i hi => .inr (by simp [blk] at hi; omega)))
  have S := Lib.hid (S.out.keep0 ((Frm.refl [] _).drew |>.trans f5' (by simp)))
  have A := Lib.hid (A.out.keep0 ((Frm.refl [] _).drew |>.trans f5' (by simp)))
  have F := Lib.hid (F.out.trans (Fa.of0 ((Frm.refl [] _).drew |>.trans f5' (by simp)) lo))
  have VT := Lib.hid (fun w2 (f : Fa lo w5 w2) => own_st o5 f)
  have FT := Lib.hid (Fa.refl lo w5)
  clear f2 f3 f5 f5' o2 o3 o5 l2 l3 b5
  go_wp2_with (first
    | (go_at_call 29; have hp := P29; refine (of_at (lo := lo) 1 _ rfl).mono ?_; rintro e w1 ⟨v, rfl, hv, f0⟩; have f1 := Fa.of0 f0 lo; have F := Lib.hid (F.out.trans f1); have S := Lib.hid (S.out.fa f1); have FT := Lib.hid (FT.out.trans f1); have A := Lib.hid (A.out.keep0 f0); have V := Lib.hid hv; have P30 := Lib.hid True.intro; clear P29 hp; clear hv f1 f0)
    | (go_at_call 13; have hp := P30; refine (wr_at S.out A.out knf19 (by omega) 1 5 _ (ofL 1) [] V.out).mono ?_; rintro e w1 ⟨rfl, a1, f1⟩; rw [kne20]; have F := Lib.hid (F.out.trans f1); have S := Lib.hid (S.out.fa f1); have FT := Lib.hid (FT.out.trans f1); have A := Lib.hid (show Arr lo w1 g kn20 from a1); have P31 := Lib.hid True.intro; clear P30 hp V; clear a1 f1)
    | (go_at_call 29; have hp := P31; refine (of_at (lo := lo) 1 _ rfl).mono ?_; rintro e w1 ⟨v, rfl, hv, f0⟩; have f1 := Fa.of0 f0 lo; have F := Lib.hid (F.out.trans f1); have S := Lib.hid (S.out.fa f1); have FT := Lib.hid (FT.out.trans f1); have A := Lib.hid (A.out.keep0 f0); have V := Lib.hid hv; have P32 := Lib.hid True.intro; clear P31 hp; clear hv f1 f0)
    | (go_at_call 13; have hp := P32; refine (wr_at S.out A.out knf20 (by omega) 1 6 _ (ofL 1) [] V.out).mono ?_; rintro e w1 ⟨rfl, a1, f1⟩; rw [kne21]; have F := Lib.hid (F.out.trans f1); have S := Lib.hid (S.out.fa f1); have FT := Lib.hid (FT.out.trans f1); have A := Lib.hid (show Arr lo w1 g kn21 from a1); have P33 := Lib.hid True.intro; clear P32 hp V; clear a1 f1)
    | (go_at_call 16; have hp := P33; have fz := Lib.hid (fun (W : World) (o : Obj) => (Frm.refl [] W).alloc o); refine (cr_at (S.out.keep0 (fz.out _ _)) (A.out.keep0 (fz.out _ _)) knf21 (by omega) _ [false, true] [] 3 (fun w2 f2 => Kr.SlE.of_block encB (T := 4) (f2.typ _ _ _ _ (heap_alloc_new _ _) (by decide)) rfl (by decide))).mono ?_; rintro e w1 ⟨rfl, a1, f2⟩; have f1 := (Fa.of0 (fz.out _ _) lo).trans f2; rw [kne22]; have F := Lib.hid (F.out.trans f1); have S := Lib.hid (S.out.fa f1); have FT := Lib.hid (FT.out.trans f1); have A := Lib.hid (show Arr lo w1 g kn22 from a1); have P34 := Lib.hid True.intro; clear P33 hp fz; clear a1 f1 f2)
    | (go_at_call 30; have hp := P34; refine (rd_at S.out A.out knf22 (by omega) 1 5 _ tornL _ (fun w2 f2 => VT.out w2 (FT.out.trans f2))).mono ?_; rintro e w1 ⟨rfl, a1, f1⟩; rw [kne23]; have F := Lib.hid (F.out.trans f1); have S := Lib.hid (S.out.fa f1); have FT := Lib.hid (FT.out.trans f1); have A := Lib.hid (show Arr lo w1 g kn23 from a1); have P35 := Lib.hid True.intro; clear P34 hp; clear a1 f1)
    | (go_at_call 29; have hp := P35; refine (of_at (lo := lo) 1 _ rfl).mono ?_; rintro e w1 ⟨v, rfl, hv, f0⟩; have f1 := Fa.of0 f0 lo; have F := Lib.hid (F.out.trans f1); have S := Lib.hid (S.out.fa f1); have FT := Lib.hid (FT.out.trans f1); have A := Lib.hid (A.out.keep0 f0); have V := Lib.hid hv; have P36 := Lib.hid True.intro; clear P35 hp; clear hv f1 f0)
    | (go_at_call 30; have hp := P36; refine (rd_at S.out A.out knf23 (by omega) 1 6 _ (ofL 1) _ V.out).mono ?_; rintro e w1 ⟨rfl, a1, f1⟩; rw [kne24]; have F := Lib.hid (F.out.trans f1); have S := Lib.hid (S.out.fa f1); have FT := Lib.hid (FT.out.trans f1); have A := Lib.hid (show Arr lo w1 g kn24 from a1); have P37 := Lib.hid True.intro; clear P36 hp V; clear a1 f1)
    | (go_at_call 10; refine (awake_any S.out (Nat.le_trans HLO.out F.out.size)).mono ?_; rintro e w3 ⟨rfl, f3⟩; have F := Lib.hid (F.out.trans f3); clear f3))
  go_ret
  exact ⟨rfl, F.out⟩
end Go.Proofs.YtdebnikolhhmgaaDoor

