/-
  The law's examples: awake. No conditions but those that each theorem names.
-/
import Derived.Test.YtdebnikolhhmgaaDoorBR
namespace Go.Proofs.YtdebnikolhhmgaaDoor
open Go.RowKit
set_option linter.unusedVariables false
set_option linter.unusedSimpArgs false
set_option maxRecDepth 100000

open Kr (OwnE SlE Enco RowTys)

section
variable {lo : Nat} {w : World} {sn : Nat → Addr} {g K : Nat} {s : St}
theorem wr_at (hs : Sn w lo sn) (h : Arr lo w g s) (wf : Wf K s) (hK : K ≤ 100000000) (d a : Int) (v : Value) (l sp : List UInt8) (hS : ∀ w', Fa lo w w' → SlB w' v l sp) :
    Calls Tryd.prog 13 #[.pointer (some ⟨g, 0, none⟩), .int .i64 d, .int .i64 a, v] w fun e w' => e = .returned (.int .i64 (wrR s d a l).1) ∧ Arr lo w' g (wrR s d a l).2 ∧ Fa lo w w' := Write_any d a v l sp hs h (wf.wfs hK) wf.fd wf.fx (wf.row hK) hS
theorem fl_at (hs : Sn w lo sn) (h : Arr lo w g s) (wf : Wf K s) (hK : K ≤ 100000000) (d : Int) :
    Calls Tryd.prog 14 #[.pointer (some ⟨g, 0, none⟩), .int .i64 d] w fun e w' => e = .returned (.int .i64 (flR s d).1) ∧ Arr lo w' g (flR s d).2 ∧ Fa lo w w' := Flush_any d hs h (wf.wfs hK) wf.fr (wf.row hK)
theorem cr_at (hs : Sn w lo sn) (h : Arr lo w g s) (wf : Wf K s) (hK : K ≤ 100000000) (v : Value) (keep : List Bool) (ksp : List Value) (torn : Int) (hV : ∀ w', Fa lo w w' → SlE eB 1 w' v keep ksp) :
    Calls Tryd.prog 16 #[.pointer (some ⟨g, 0, none⟩), v, .int .i64 torn] w fun e w' => e = .returned (.int .i64 (crR s keep torn).1) ∧ Arr lo w' g (crR s keep torn).2 ∧ Fa lo w w' := Crash_any v keep ksp torn hs h wf.fr (wf.row hK) hV
theorem lo_at (hs : Sn w lo sn) (h : Arr lo w g s) (d : Int) :
    Calls Tryd.prog 18 #[.pointer (some ⟨g, 0, none⟩), .int .i64 d] w fun e w' => e = .returned (.int .i64 (loR s d).1) ∧ Arr lo w' g (loR s d).2 ∧ Fa lo w w' := Lose_any d hs h
theorem rd_at (hs : Sn w lo sn) (h : Arr lo w g s) (wf : Wf K s) (hK : K ≤ 100000000) (d a : Int) (v : Value) (l sp : List UInt8) (hS : ∀ w', Fa lo w w' → SlB w' v l sp) :
    Calls Tryd.prog 30 #[.pointer (some ⟨g, 0, none⟩), .int .i64 d, .int .i64 a, v] w fun e w' => e = .returned (.bool (decide ((rdR s d a).1 = none) && (tellAt s d a == l))) ∧ Arr lo w' g (rdR s d a).2 ∧ Fa lo w w' := reads_any d a v l sp hs h (wf.wfs hK) wf.fd hS
theorem of_at (b : UInt8) (x : Int) (hx : x = (b.toNat : Int)) : Calls Tryd.prog 29 #[.int .u8 x] w fun e w' => ∃ v, e = .returned v ∧ (∀ w2, Fa lo w' w2 → SlB w2 v (ofL b) []) ∧ Frm [] w w' := by
  subst hx
  refine (of_any b w).mono ?_
  rintro e w' ⟨g, rfl, ho, hg, f⟩
  exact ⟨_, rfl, fun w2 f2 => own_st ho f2, f⟩
end
theorem new_wf (n k : Nat) (hn : n ≤ 1000000) : Wf 0 (newS n k) :=
  ⟨Int.le_refl _, by show (0 : Int) ≤ _; omega, Int.le_refl _, Int.le_refl _, hn, Nat.le_refl _, fun q hq _ => by
    obtain ⟨_, rfl⟩ := List.mem_replicate.1 hq
    show (List.replicate n zSc).length = n
    rw [List.length_replicate], fun q hq hf => by
    obtain ⟨_, rfl⟩ := List.mem_replicate.1 hq
    exact absurd (by show (0 &&& 4 : Nat) = 0; decide) hf, fun x hx => by cases hx⟩
def aw0 : St := newS 8 2
theorem awf0 : Wf 0 aw0 := new_wf 8 2 (by omega)
def aw1 : St := (wrR aw0 0 5 (ofL 1)).2
theorem awe1 : (wrR aw0 0 5 (ofL 1)).1 = 0 := by kernel_rfl
theorem awf1 : Wf 1 aw1 := awf0.wrR _ _ _
def aw2 : St := (rdR aw1 0 5).2
theorem awe2 : (decide ((rdR aw1 0 5).1 = none) && (tellAt aw1 0 5 == ofL 1)) = true := by kernel_rfl
theorem awf2 : Wf 1 aw2 := awf1.rdR _ _
theorem awl2 : (aw2.row.length : Int) = 1 := by kernel_rfl
def aw3 : St := (crR aw2 [] 0).2
theorem awe3 : (crR aw2 [] 0).1 = 0 := by kernel_rfl
theorem awf3 : Wf 1 aw3 := awf2.crR _ _
def aw4 : St := (rdR aw3 0 5).2
theorem awe4 : (decide ((rdR aw3 0 5).1 = none) && (tellAt aw3 0 5 == ofL 0)) = true := by kernel_rfl
theorem awf4 : Wf 1 aw4 := awf3.rdR _ _
def aw5 : St := (wrR aw4 0 5 (ofL 1)).2
theorem awe5 : (wrR aw4 0 5 (ofL 1)).1 = 0 := by kernel_rfl
theorem awf5 : Wf 2 aw5 := awf4.wrR _ _ _
def aw6 : St := (flR aw5 0).2
theorem awe6 : (flR aw5 0).1 = 0 := by kernel_rfl
theorem awf6 : Wf 3 aw6 := awf5.flR _
def aw7 : St := (loR aw6 0).2
theorem awe7 : (loR aw6 0).1 = 0 := by kernel_rfl
theorem awf7 : Wf 3 aw7 := awf6.lose _
def aw8 : St := (wrR aw7 0 5 (ofL 2)).2
theorem awe8 : (wrR aw7 0 5 (ofL 2)).1 = 0 := by kernel_rfl
theorem awf8 : Wf 4 aw8 := awf7.wrR _ _ _
def aw9 : St := (rdR aw8 0 5).2
theorem awe9 : (decide ((rdR aw8 0 5).1 = none) && (tellAt aw8 0 5 == ofL 1)) = true := by kernel_rfl
theorem awf9 : Wf 4 aw9 := awf8.rdR _ _
theorem aws9 : aw9.steps = 4 := by kernel_rfl
set_option maxHeartbeats 16000000 in
theorem awake_any {lo : Nat} {w : World} {sn : Nat → Addr} (hs : Sn w lo sn) (hlo : lo ≤ w.heap.size) : Calls Tryd.prog 10 #[] w fun e w' => e = .returned (.bool true) ∧ Fa lo w w' := by
  have HS := Lib.hid hs
  have HLO := Lib.hid hlo
  clear hs hlo
  go_enter Tryd.func10, Tryd.ntmps10
  go_wp2_with (first
    | (go_at_call 28; refine (made_any HS.out HLO.out).mono ?_; rintro e w1 ⟨g, rfl, a1, f1⟩; have A := Lib.hid (show Arr lo w1 g aw0 from a1); have F := Lib.hid f1; have S := Lib.hid (HS.out.fa f1); have P0 := Lib.hid True.intro; clear a1 f1 HS)
    | (go_at_call 29; have hp := P0; refine (of_at (lo := lo) 1 _ rfl).mono ?_; rintro e w1 ⟨v, rfl, hv, f0⟩; have f1 := Fa.of0 f0 lo; have F := Lib.hid (F.out.trans f1); have S := Lib.hid (S.out.fa f1); have A := Lib.hid (A.out.keep0 f0); have V := Lib.hid hv; have P1 := Lib.hid True.intro; clear P0 hp; clear hv f1 f0)
    | (go_at_call 13; have hp := P1; refine (wr_at S.out A.out awf0 (by omega) 0 5 _ _ _ V.out).mono ?_; rintro e w1 ⟨rfl, a1, f1⟩; rw [awe1]; have F := Lib.hid (F.out.trans f1); have S := Lib.hid (S.out.fa f1); have A := Lib.hid (show Arr lo w1 g aw1 from a1); have P2 := Lib.hid True.intro; clear P1 hp V; clear a1 f1)
    | (go_at_call 29; have hp := P2; refine (of_at (lo := lo) 1 _ rfl).mono ?_; rintro e w1 ⟨v, rfl, hv, f0⟩; have f1 := Fa.of0 f0 lo; have F := Lib.hid (F.out.trans f1); have S := Lib.hid (S.out.fa f1); have A := Lib.hid (A.out.keep0 f0); have V := Lib.hid hv; have P3 := Lib.hid True.intro; clear P2 hp; clear hv f1 f0)
    | (go_at_call 30; have hp := P3; refine (rd_at S.out A.out awf1 (by omega) 0 5 _ _ _ V.out).mono ?_; rintro e w1 ⟨rfl, a1, f1⟩; rw [awe2]; have F := Lib.hid (F.out.trans f1); have S := Lib.hid (S.out.fa f1); have A := Lib.hid (show Arr lo w1 g aw2 from a1); have P4 := Lib.hid True.intro; clear P3 hp V; clear a1 f1)
    | (go_at_call 25; have hp := P4; refine (Loose_any A.out).mono ?_; rintro e w1 ⟨rfl, hw1⟩; obtain rfl := hw1.symm; rw [awl2]; have P5 := Lib.hid True.intro; clear P4 hp)
    | (go_at_call 16; have hp := P5; refine (cr_at S.out A.out awf2 (by omega) _ [] [] 0 (fun w2 f2 => SlE.nil _ _ _)).mono ?_; rintro e w1 ⟨rfl, a1, f1⟩; rw [awe3]; have F := Lib.hid (F.out.trans f1); have S := Lib.hid (S.out.fa f1); have A := Lib.hid (show Arr lo w1 g aw3 from a1); have P6 := Lib.hid True.intro; clear P5 hp; clear a1 f1)
    | (go_at_call 29; have hp := P6; refine (of_at (lo := lo) 0 _ rfl).mono ?_; rintro e w1 ⟨v, rfl, hv, f0⟩; have f1 := Fa.of0 f0 lo; have F := Lib.hid (F.out.trans f1); have S := Lib.hid (S.out.fa f1); have A := Lib.hid (A.out.keep0 f0); have V := Lib.hid hv; have P7 := Lib.hid True.intro; clear P6 hp; clear hv f1 f0)
    | (go_at_call 30; have hp := P7; refine (rd_at S.out A.out awf3 (by omega) 0 5 _ _ _ V.out).mono ?_; rintro e w1 ⟨rfl, a1, f1⟩; rw [awe4]; have F := Lib.hid (F.out.trans f1); have S := Lib.hid (S.out.fa f1); have A := Lib.hid (show Arr lo w1 g aw4 from a1); have P8 := Lib.hid True.intro; clear P7 hp V; clear a1 f1)
    | (go_at_call 29; have hp := P8; refine (of_at (lo := lo) 1 _ rfl).mono ?_; rintro e w1 ⟨v, rfl, hv, f0⟩; have f1 := Fa.of0 f0 lo; have F := Lib.hid (F.out.trans f1); have S := Lib.hid (S.out.fa f1); have A := Lib.hid (A.out.keep0 f0); have V := Lib.hid hv; have P9 := Lib.hid True.intro; clear P8 hp; clear hv f1 f0)
    | (go_at_call 13; have hp := P9; refine (wr_at S.out A.out awf4 (by omega) 0 5 _ _ _ V.out).mono ?_; rintro e w1 ⟨rfl, a1, f1⟩; rw [awe5]; have F := Lib.hid (F.out.trans f1); have S := Lib.hid (S.out.fa f1); have A := Lib.hid (show Arr lo w1 g aw5 from a1); have P10 := Lib.hid True.intro; clear P9 hp V; clear a1 f1)
    | (go_at_call 14; have hp := P10; refine (fl_at S.out A.out awf5 (by omega) 0).mono ?_; rintro e w1 ⟨rfl, a1, f1⟩; rw [awe6]; have F := Lib.hid (F.out.trans f1); have S := Lib.hid (S.out.fa f1); have A := Lib.hid (show Arr lo w1 g aw6 from a1); have P11 := Lib.hid True.intro; clear P10 hp; clear a1 f1)
    | (go_at_call 18; have hp := P11; refine (lo_at S.out A.out 0).mono ?_; rintro e w1 ⟨rfl, a1, f1⟩; rw [awe7]; have F := Lib.hid (F.out.trans f1); have S := Lib.hid (S.out.fa f1); have A := Lib.hid (show Arr lo w1 g aw7 from a1); have P12 := Lib.hid True.intro; clear P11 hp; clear a1 f1)
    | (go_at_call 29; have hp := P12; refine (of_at (lo := lo) 2 _ rfl).mono ?_; rintro e w1 ⟨v, rfl, hv, f0⟩; have f1 := Fa.of0 f0 lo; have F := Lib.hid (F.out.trans f1); have S := Lib.hid (S.out.fa f1); have A := Lib.hid (A.out.keep0 f0); have V := Lib.hid hv; have P13 := Lib.hid True.intro; clear P12 hp; clear hv f1 f0)
    | (go_at_call 13; have hp := P13; refine (wr_at S.out A.out awf7 (by omega) 0 5 _ _ _ V.out).mono ?_; rintro e w1 ⟨rfl, a1, f1⟩; rw [awe8]; have F := Lib.hid (F.out.trans f1); have S := Lib.hid (S.out.fa f1); have A := Lib.hid (show Arr lo w1 g aw8 from a1); have P14 := Lib.hid True.intro; clear P13 hp V; clear a1 f1)
    | (go_at_call 29; have hp := P14; refine (of_at (lo := lo) 1 _ rfl).mono ?_; rintro e w1 ⟨v, rfl, hv, f0⟩; have f1 := Fa.of0 f0 lo; have F := Lib.hid (F.out.trans f1); have S := Lib.hid (S.out.fa f1); have A := Lib.hid (A.out.keep0 f0); have V := Lib.hid hv; have P15 := Lib.hid True.intro; clear P14 hp; clear hv f1 f0)
    | (go_at_call 30; have hp := P15; refine (rd_at S.out A.out awf8 (by omega) 0 5 _ _ _ V.out).mono ?_; rintro e w1 ⟨rfl, a1, f1⟩; rw [awe9]; have F := Lib.hid (F.out.trans f1); have S := Lib.hid (S.out.fa f1); have A := Lib.hid (show Arr lo w1 g aw9 from a1); have P16 := Lib.hid True.intro; clear P15 hp V; clear a1 f1)
    | (go_at_call 26; have hp := P16; refine (Steps_any A.out).mono ?_; rintro e w1 ⟨rfl, hw1⟩; obtain rfl := hw1.symm; rw [aws9]; have P17 := Lib.hid True.intro; clear P16 hp))
  go_ret
  exact ⟨rfl, F.out⟩
end Go.Proofs.YtdebnikolhhmgaaDoor
