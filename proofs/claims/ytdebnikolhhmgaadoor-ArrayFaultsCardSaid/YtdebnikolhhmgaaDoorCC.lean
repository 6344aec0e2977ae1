/-
  ArrayFaults: the walk. No conditions but those that each theorem names.
-/
import Derived.Test.YtdebnikolhhmgaaDoorCB
namespace Go.Proofs.YtdebnikolhhmgaaDoor
open Go.RowKit
set_option linter.unusedVariables false
set_option linter.unusedSimpArgs false
set_option maxRecDepth 100000

open Kr (OwnE SlE Enco RowTys)
theorem zwf (b c : UInt8) (i j : Nat) : Wf 1 (zz1 b i) ∧ Wf 1 (zz2 b i) ∧ Wf 2 (zz3 b c i) ∧ Wf 2 (zz4 b c i j) ∧ Wf 3 (zz5 b c i j) ∧ Wf 4 (zz6 b c i j) := by
  have w1 : Wf 1 (zz1 b i) := (new_wf 8 2 (by omega)).wrR _ _ _
  have w2 : Wf 1 (zz2 b i) := w1.lose _
  have w3 : Wf 2 (zz3 b c i) := w2.wrR _ _ _
  have w4 : Wf 2 (zz4 b c i j) := w3.stR _ _
  have w5 : Wf 3 (zz5 b c i j) := w4.wrR _ _ _
  exact ⟨w1, w2, w3, w4, w5, w5.wrR _ _ _⟩
/-- So many reads are still to fail. -/
def zz7 (b c : UInt8) (i j : Nat) (m : Int) : St := zzF b c i j (failF 0 m) m
theorem fa_res {b c : UInt8} {i j : Nat} (x : Fx b c i j) {m : Int} (hm : 0 ≤ m) : faR (zz6 b c i j) 0 m = (0, zz7 b c i j m) := by
  unfold faR
  have e : dCons (nD (zz6 b c i j) 0, zz6 b c i j) (dCons (nA (decide (0 ≤ m)), zz6 b c i j) (nT (zz6 b c i j) 0, zz6 b c i j)) = (none, zz6 b c i j) := by
    rw [dCons_none x.d6.1, dCons_none (by show nA _ = none; rw [decide_eq_true hm]; rfl)]
    exact Prod.ext x.d6.2 rfl
  rw [e]
  show (0, setD (zz6 b c i j) 0 fun q => failD q m) = _
  rw [x.f6]
  rfl
theorem re_res {b c : UInt8} {i j : Nat} (x : Fx b c i j) {m : Int} (hm : 0 < m) : rdR (zz7 b c i j m) 0 i = (some 5, zz7 b c i j (m - 1)) := by
  unfold zz7
  rw [failF_pos hm, x.rF, failF_8]
theorem pk_res {b c : UInt8} {i j : Nat} (x : Fx b c i j) {m : Int} (hm : 0 ≤ m) : pkR (zz7 b c i j m) 0 i = none ∧ tellAt (zz7 b c i j m) 0 i = ofL b := by
  unfold zz7
  rcases Int.lt_or_eq_of_le hm with h | rfl
  · rw [failF_pos h]; exact ⟨x.kF m, x.tF m⟩
  · rw [failF_nil]; exact ⟨x.k0 0, x.t0 0⟩
def FaRel (lo g : Nat) (b c : UInt8) (i j m : Nat) (w0 : World) (cv : Value) (wr : World) : Prop :=
  ∃ k : Nat, k ≤ m ∧ cv = .int .i64 k ∧ Arr lo wr g (zz7 b c i j ((m - k : Nat) : Int)) ∧ Wf 4 (zz7 b c i j ((m - k : Nat) : Int)) ∧ Fa lo w0 wr
set_option maxHeartbeats 32000000 in
theorem Faults_any (x0 x1 x2 x3 x4 : Int) (h2 : 0 ≤ x2 ∧ x2 ≤ 255) (h3 : 0 ≤ x3 ∧ x3 ≤ 255) {lo : Nat} {w : World} {sn : Nat → Addr} (hs : Sn w lo sn) (hlo : lo ≤ w.heap.size) :
    Calls Tryd.prog 8 #[.int .i64 x0, .int .i64 x1, .int .u8 x2, .int .u8 x3, .int .i64 x4] w fun e w' => e = .returned (.bool true) ∧ Fa lo w w' := by
  obtain ⟨b, Hb0⟩ : ∃ b : UInt8, x2 = (b.toNat : Int) := ⟨UInt8.ofNat x2.toNat, by rw [UInt8.toNat_ofNat']; omega⟩
  obtain ⟨c, Hc0⟩ : ∃ c : UInt8, x3 = (c.toNat : Int) := ⟨UInt8.ofNat x3.toNat, by rw [UInt8.toNat_ofNat']; omega⟩
  have Hb := Lib.hid Hb0
  have Hc := Lib.hid Hc0
  have S := Lib.hid hs
  have F := Lib.hid (Fa.refl lo w)
  have HLO := Lib.hid hlo
  have Q0 := Lib.hid True.intro
  clear hs hlo h2 h3 Hb0 Hc0
  go_enter Tryd.func8, Tryd.ntmps8
  go_upto_region 4 with (first
    | (go_at_call 10; refine (awake_any S.out (Nat.le_trans HLO.out F.out.size)).mono ?_; rintro e w1 ⟨rfl, f1⟩; have F := Lib.hid (F.out.trans f1); have S := Lib.hid (S.out.fa f1); clear f1)
    | (go_at_call 28; refine (made_any S.out (Nat.le_trans HLO.out F.out.size)).mono ?_; rintro e w1 ⟨g, rfl, a1, f1⟩; have A := Lib.hid (show Arr lo w1 g (newS 8 2) from a1); have F := Lib.hid (F.out.trans f1); have S := Lib.hid (S.out.fa f1); clear a1 f1)
    | (go_at_call 34; have hq := Q0; refine (Pick_at x0 8 (by omega) (by omega) _).mono ?_; rintro e w1 ⟨i, hi, rfl, hw1⟩; obtain rfl := hw1.symm; have Q1 := Lib.hid True.intro; clear Q0 hq)
    | (go_at_call 34; have hq := Q1; refine (Pick_at x1 8 (by omega) (by omega) _).mono ?_; rintro e w1 ⟨j, hj, rfl, hw1⟩; obtain rfl := hw1.symm; have Q2 := Lib.hid True.intro; clear Q1 hq)
    | (go_at_call 34; have hq := Q2; refine (Pick_at x4 21 (by omega) (by omega) _).mono ?_; rintro e w1 ⟨m, hm, rfl, hw1⟩; obtain rfl := hw1.symm; clear Q2 hq))
  have hi : i < 8 := by omega
  have hj : j < 8 := by omega
  have HM := Lib.hid (show (m : Int) < 21 from hm)
  have hm21 : (m : Int) < 21 := hm
  by_cases hij : i = j
  · subst hij
    have X := Lib.hid (fx b c i hi i hi)
    have ZW := Lib.hid (zwf b c i i)
    have FAR := Lib.hid (show (faR (zz6 b c i i) 0 m).1 = 0 ∧ (faR (zz6 b c i i) 0 m).2 = zz7 b c i i m from by rw [fa_res (fx b c i hi i hi) (by omega)]; exact ⟨rfl, rfl⟩)
    have P0 := Lib.hid True.intro
    go_upto_region 11 with (first
      | (go_at_call 29; have hp := P0; refine (of_at (lo := lo) b _ Hb.out).mono ?_; rintro e w1 ⟨v, rfl, hv, f0⟩; have f1 := Fa.of0 f0 lo; have F := Lib.hid (F.out.trans f1); have S := Lib.hid (S.out.fa f1); have A := Lib.hid (A.out.keep0 f0); have V := Lib.hid hv; have P1 := Lib.hid True.intro; clear P0 hp; clear hv f1 f0)
      | (go_at_call 13; have hp := P1; refine (wr_at S.out A.out (new_wf 8 2 (by omega)) (by omega) 0 i _ (ofL b) _ V.out).mono ?_; rintro e w1 ⟨rfl, a1, f1⟩; rw [X.out.e1]; have F := Lib.hid (F.out.trans f1); have S := Lib.hid (S.out.fa f1); have A := Lib.hid (show Arr lo w1 g (zz1 b i) from a1); have P2 := Lib.hid True.intro; clear P1 hp V; clear a1 f1)
      | (go_at_call 18; have hp := P2; refine (lo_at S.out A.out 0).mono ?_; rintro e w1 ⟨rfl, a1, f1⟩; rw [X.out.e2]; have F := Lib.hid (F.out.trans f1); have S := Lib.hid (S.out.fa f1); have A := Lib.hid (show Arr lo w1 g (zz2 b i) from a1); have P3 := Lib.hid True.intro; clear P2 hp; clear a1 f1)
      | (go_at_call 29; have hp := P3; refine (of_at (lo := lo) c _ Hc.out).mono ?_; rintro e w1 ⟨v, rfl, hv, f0⟩; have f1 := Fa.of0 f0 lo; have F := Lib.hid (F.out.trans f1); have S := Lib.hid (S.out.fa f1); have A := Lib.hid (A.out.keep0 f0); have V := Lib.hid hv; have P4 := Lib.hid True.intro; clear P3 hp; clear hv f1 f0)
      | (go_at_call 13; have hp := P4; refine (wr_at S.out A.out ZW.out.2.1 (by omega) 0 i _ (ofL c) _ V.out).mono ?_; rintro e w1 ⟨rfl, a1, f1⟩; rw [X.out.e3]; have F := Lib.hid (F.out.trans f1); have S := Lib.hid (S.out.fa f1); have A := Lib.hid (show Arr lo w1 g (zz3 b c i) from a1); have P5 := Lib.hid True.intro; clear P4 hp V; clear a1 f1)
      | (go_at_call 29; have hp := P5; refine (of_at (lo := lo) b _ Hb.out).mono ?_; rintro e w1 ⟨v, rfl, hv, f0⟩; have f1 := Fa.of0 f0 lo; have F := Lib.hid (F.out.trans f1); have S := Lib.hid (S.out.fa f1); have A := Lib.hid (A.out.keep0 f0); have V := Lib.hid hv; have P6 := Lib.hid True.intro; clear P5 hp; clear hv f1 f0)
      | (go_at_call 33; have hp := P6; refine (pkY_at S.out A.out ZW.out.2.2.1 (by omega) 0 i _ (ofL b) _ V.out X.out.k3 X.out.t3).mono ?_; rintro e w1 ⟨rfl, a1, f1⟩; have F := Lib.hid (F.out.trans f1); have S := Lib.hid (S.out.fa f1); have A := Lib.hid (show Arr lo w1 g (zz3 b c i) from a1); have P7 := Lib.hid True.intro; clear P6 hp V; clear a1 f1)
      | (go_at_call 25; have hp := P7; refine (Loose_any A.out).mono ?_; rintro e w1 ⟨rfl, hw1⟩; obtain rfl := hw1.symm; rw [X.out.l3]; have P8 := Lib.hid True.intro; clear P7 hp)
      | (go_at_call 19; have hp := P8; refine (st_at S.out A.out ZW.out.2.2.1 (by omega) 0 i).mono ?_; rintro e w1 ⟨rfl, a1, f1⟩; rw [X.out.e4]; have F := Lib.hid (F.out.trans f1); have S := Lib.hid (S.out.fa f1); have A := Lib.hid (show Arr lo w1 g (zz4 b c i i) from a1); have P9 := Lib.hid True.intro; clear P8 hp; clear a1 f1)
      | (go_at_call 29; have hp := P9; refine (of_at (lo := lo) c _ Hc.out).mono ?_; rintro e w1 ⟨v, rfl, hv, f0⟩; have f1 := Fa.of0 f0 lo; have F := Lib.hid (F.out.trans f1); have S := Lib.hid (S.out.fa f1); have A := Lib.hid (A.out.keep0 f0); have V := Lib.hid hv; have P10 := Lib.hid True.intro; clear P9 hp; clear hv f1 f0)
      | (go_at_call 13; have hp := P10; refine (wr_at S.out A.out ZW.out.2.2.2.1 (by omega) 0 i _ (ofL c) _ V.out).mono ?_; rintro e w1 ⟨rfl, a1, f1⟩; rw [X.out.e5]; have F := Lib.hid (F.out.trans f1); have S := Lib.hid (S.out.fa f1); have A := Lib.hid (show Arr lo w1 g (zz5 b c i i) from a1); have P11 := Lib.hid True.intro; clear P10 hp V; clear a1 f1)
      | (go_at_call 29; have hp := P11; refine (of_at (lo := lo) c _ Hc.out).mono ?_; rintro e w1 ⟨v, rfl, hv, f0⟩; have f1 := Fa.of0 f0 lo; have F := Lib.hid (F.out.trans f1); have S := Lib.hid (S.out.fa f1); have A := Lib.hid (A.out.keep0 f0); have V := Lib.hid hv; have P12 := Lib.hid True.intro; clear P11 hp; clear hv f1 f0)
      | (go_at_call 33; have hp := P12; refine (pkY_at S.out A.out ZW.out.2.2.2.2.1 (by omega) 0 i _ (ofL c) _ V.out X.out.k5 X.out.t5).mono ?_; rintro e w1 ⟨rfl, a1, f1⟩; have F := Lib.hid (F.out.trans f1); have S := Lib.hid (S.out.fa f1); have A := Lib.hid (show Arr lo w1 g (zz5 b c i i) from a1); have P13 := Lib.hid True.intro; clear P12 hp V; clear a1 f1)
      | (go_at_call 29; have hp := P13; refine (of_at (lo := lo) b _ Hb.out).mono ?_; rintro e w1 ⟨v, rfl, hv, f0⟩; have f1 := Fa.of0 f0 lo; have F := Lib.hid (F.out.trans f1); have S := Lib.hid (S.out.fa f1); have A := Lib.hid (A.out.keep0 f0); have V := Lib.hid hv; have P14 := Lib.hid True.intro; clear P13 hp; clear hv f1 f0)
      | (go_at_call 13; have hp := P14; refine (wr_at S.out A.out ZW.out.2.2.2.2.1 (by omega) 0 i _ (ofL b) _ V.out).mono ?_; rintro e w1 ⟨rfl, a1, f1⟩; rw [X.out.e6]; have F := Lib.hid (F.out.trans f1); have S := Lib.hid (S.out.fa f1); have A := Lib.hid (show Arr lo w1 g (zz6 b c i i) from a1); have P15 := Lib.hid True.intro; clear P14 hp V; clear a1 f1)
      | (go_at_call 29; have hp := P15; refine (of_at (lo := lo) b _ Hb.out).mono ?_; rintro e w1 ⟨v, rfl, hv, f0⟩; have f1 := Fa.of0 f0 lo; have F := Lib.hid (F.out.trans f1); have S := Lib.hid (S.out.fa f1); have A := Lib.hid (A.out.keep0 f0); have V := Lib.hid hv; have P16 := Lib.hid True.intro; clear P15 hp; clear hv f1 f0)
      | (go_at_call 33; have hp := P16; refine (pkY_at S.out A.out ZW.out.2.2.2.2.2 (by omega) 0 i _ (ofL b) _ V.out X.out.k6 X.out.t6).mono ?_; rintro e w1 ⟨rfl, a1, f1⟩; have F := Lib.hid (F.out.trans f1); have S := Lib.hid (S.out.fa f1); have A := Lib.hid (show Arr lo w1 g (zz6 b c i i) from a1); have P17 := Lib.hid True.intro; clear P16 hp V; clear a1 f1)
      | (go_at_call 20; have hp := P17; refine (fa_at S.out A.out 0 m (by have := HM.out; omega)).mono ?_; rintro e w1 ⟨rfl, a1, f1⟩; rw [(FAR.out).1]; have F := Lib.hid (F.out.trans f1); have S := Lib.hid (S.out.fa f1); have A := Lib.hid (show Arr lo w1 g ((faR (zz6 b c i i) 0 m).2) from a1); have P18 := Lib.hid True.intro; clear P17 hp; clear a1 f1))
    have A7 := Lib.hid (show Arr lo _ g (zz7 b c i i m) from FAR.out.2 ▸ A.out)
    have W7 := Lib.hid (show Wf 4 (zz7 b c i i m) from FAR.out.2 ▸ ZW.out.2.2.2.2.2.faR 0 m)
    go_loopw [13] (fun cv wr => ∃ k : Nat, k ≤ m ∧ cv = .int .i64 k ∧ Arr lo wr g (zz7 b c i i ((m - k : Nat) : Int)) ∧ Wf 4 (zz7 b c i i ((m - k : Nat) : Int)) ∧ Fa lo w wr ∧ Sn wr lo sn) (fun cv _ => m - (intOf cv).toNat)
    case atStart => exact ⟨0, Nat.zero_le _, rfl, A7.out, W7.out, F.out, S.out⟩
    case round =>
      obtain ⟨k, hk, rfl, hA, hW, hF, hS⟩ := hrel
      clear A F S A7 W7
      have A := Lib.hid hA
      have F := Lib.hid hF
      have S := Lib.hid hS
      have WFK := Lib.hid hW
      have P0 := Lib.hid True.intro
      by_cases hlt : k < m
      · have hlt9 : (k : Int) < (m : Int) := by omega
        have hm1 : ((m - k : Nat) : Int) - 1 = ((m - (k + 1) : Nat) : Int) := by omega
        have rr := re_res (fx b c i hi i hi) (m := ((m - k : Nat) : Int)) (by omega)
        rw [hm1] at rr
        have RE := Lib.hid (show (rdR (zz7 b c i i ((m - k : Nat) : Int)) 0 i).1 = some 5 ∧ (rdR (zz7 b c i i ((m - k : Nat) : Int)) 0 i).2 = zz7 b c i i ((m - (k + 1) : Nat) : Int) from by rw [rr]; exact ⟨rfl, rfl⟩)
        have WFN := Lib.hid (show Wf 4 (zz7 b c i i ((m - (k + 1) : Nat) : Int)) from RE.out.2 ▸ hW.rdR 0 i)
        have PKN := Lib.hid (pk_res (fx b c i hi i hi) (m := ((m - (k + 1) : Nat) : Int)) (by omega))
        clear hA hF hS hW rr hm1
        go_wp2_with (first
          | (go_at_call 11; have hp := P0; refine (rdE_at S.out A.out WFK.out (by omega) 0 i 5 RE.out.1).mono ?_; rintro e w1 ⟨rfl, a1, f1⟩; rw [show code 5 = 13 from rfl]; have F := Lib.hid (F.out.trans f1); have S := Lib.hid (S.out.fa f1); have A := Lib.hid (show Arr lo w1 g (zz7 b c i i ((m - (k + 1) : Nat) : Int)) from RE.out.2 ▸ a1); have P1 := Lib.hid True.intro; clear P0 hp; clear a1 f1)
          | (go_at_call 29; have hp := P1; refine (of_at (lo := lo) b _ Hb.out).mono ?_; rintro e w1 ⟨v, rfl, hv, f0⟩; have f1 := Fa.of0 f0 lo; have F := Lib.hid (F.out.trans f1); have S := Lib.hid (S.out.fa f1); have A := Lib.hid (A.out.keep0 f0); have V := Lib.hid hv; have P2 := Lib.hid True.intro; clear P1 hp; clear hv f1 f0)
          | (go_at_call 33; have hp := P2; refine (pkY_at S.out A.out WFN.out (by omega) 0 i _ (ofL b) _ V.out PKN.out.1 PKN.out.2).mono ?_; rintro e w1 ⟨rfl, a1, f1⟩; have F := Lib.hid (F.out.trans f1); have S := Lib.hid (S.out.fa f1); have A := Lib.hid (show Arr lo w1 g (zz7 b c i i ((m - (k + 1) : Nat) : Int)) from a1); have P3 := Lib.hid True.intro; clear P2 hp V; clear a1 f1))
        go_roundw
        case rel => exact ⟨k + 1, by omega, by go_num, A.out, WFN.out, F.out, S.out⟩
        case measure => simp [intOf]; omega
      · obtain rfl : k = m := by omega
        rw [Nat.sub_self] at A WFK
        have R0 := Lib.hid (show rdR (zz7 b c i i 0) 0 i = (none, zz7 b c i i 0) from by unfold zz7; rw [failF_nil]; exact (fx b c i hi i hi).r0 0)
        have PK0 := Lib.hid (pk_res (fx b c i hi i hi) (m := 0) (by omega)).2
        have A := Lib.hid (show Arr lo wr g (zz7 b c i i 0) from A.out)
        clear hA hF hS hW
        go_wp2_with (first
          | (go_at_call 29; have hp := P0; refine (of_at (lo := lo) b _ Hb.out).mono ?_; rintro e w1 ⟨v, rfl, hv, f0⟩; have f1 := Fa.of0 f0 lo; have F := Lib.hid (F.out.trans f1); have S := Lib.hid (S.out.fa f1); have A := Lib.hid (A.out.keep0 f0); have V := Lib.hid hv; have P1 := Lib.hid True.intro; clear P0 hp; clear hv f1 f0)
          | (go_at_call 30; have hp := P1; refine (rdY_at S.out A.out WFK.out (by omega) 0 i _ (ofL b) _ V.out R0.out PK0.out).mono ?_; rintro e w1 ⟨rfl, a1, f1⟩; have F := Lib.hid (F.out.trans f1); have S := Lib.hid (S.out.fa f1); have A := Lib.hid (show Arr lo w1 g (zz7 b c i i 0) from a1); have P2 := Lib.hid True.intro; clear P1 hp V; clear a1 f1))
        go_ret
        exact ⟨rfl, F.out⟩
  · skip
    have X := Lib.hid (fx b c i hi j hj)
    have ZW := Lib.hid (zwf b c i j)
    have FAR := Lib.hid (show (faR (zz6 b c i j) 0 m).1 = 0 ∧ (faR (zz6 b c i j) 0 m).2 = zz7 b c i j m from by rw [fa_res (fx b c i hi j hj) (by omega)]; exact ⟨rfl, rfl⟩)
    have N5 := Lib.hid (X.out.n5.resolve_left hij)
    have N0 := Lib.hid (show rdR (zz7 b c i j 0) 0 j = (none, zz7 b c i j 0) ∧ tellAt (zz7 b c i j 0) 0 j = ofL c from by unfold zz7; rw [failF_nil]; exact (X.out.n0.resolve_left hij) 0)
    have hij9 : ¬ (i : Int) = (j : Int) := by omega
    have P0 := Lib.hid True.intro
    go_upto_region 11 with (first
      | (go_at_call 29; have hp := P0; refine (of_at (lo := lo) b _ Hb.out).mono ?_; rintro e w1 ⟨v, rfl, hv, f0⟩; have f1 := Fa.of0 f0 lo; have F := Lib.hid (F.out.trans f1); have S := Lib.hid (S.out.fa f1); have A := Lib.hid (A.out.keep0 f0); have V := Lib.hid hv; have P1 := Lib.hid True.intro; clear P0 hp; clear hv f1 f0)
      | (go_at_call 13; have hp := P1; refine (wr_at S.out A.out (new_wf 8 2 (by omega)) (by omega) 0 i _ (ofL b) _ V.out).mono ?_; rintro e w1 ⟨rfl, a1, f1⟩; rw [X.out.e1]; have F := Lib.hid (F.out.trans f1); have S := Lib.hid (S.out.fa f1); have A := Lib.hid (show Arr lo w1 g (zz1 b i) from a1); have P2 := Lib.hid True.intro; clear P1 hp V; clear a1 f1)
      | (go_at_call 18; have hp := P2; refine (lo_at S.out A.out 0).mono ?_; rintro e w1 ⟨rfl, a1, f1⟩; rw [X.out.e2]; have F := Lib.hid (F.out.trans f1); have S := Lib.hid (S.out.fa f1); have A := Lib.hid (show Arr lo w1 g (zz2 b i) from a1); have P3 := Lib.hid True.intro; clear P2 hp; clear a1 f1)
      | (go_at_call 29; have hp := P3; refine (of_at (lo := lo) c _ Hc.out).mono ?_; rintro e w1 ⟨v, rfl, hv, f0⟩; have f1 := Fa.of0 f0 lo; have F := Lib.hid (F.out.trans f1); have S := Lib.hid (S.out.fa f1); have A := Lib.hid (A.out.keep0 f0); have V := Lib.hid hv; have P4 := Lib.hid True.intro; clear P3 hp; clear hv f1 f0)
      | (go_at_call 13; have hp := P4; refine (wr_at S.out A.out ZW.out.2.1 (by omega) 0 i _ (ofL c) _ V.out).mono ?_; rintro e w1 ⟨rfl, a1, f1⟩; rw [X.out.e3]; have F := Lib.hid (F.out.trans f1); have S := Lib.hid (S.out.fa f1); have A := Lib.hid (show Arr lo w1 g (zz3 b c i) from a1); have P5 := Lib.hid True.intro; clear P4 hp V; clear a1 f1)
      | (go_at_call 29; have hp := P5; refine (of_at (lo := lo) b _ Hb.out).mono ?_; rintro e w1 ⟨v, rfl, hv, f0⟩; have f1 := Fa.of0 f0 lo; have F := Lib.hid (F.out.trans f1); have S := Lib.hid (S.out.fa f1); have A := Lib.hid (A.out.keep0 f0); have V := Lib.hid hv; have P6 := Lib.hid True.intro; clear P5 hp; clear hv f1 f0)
      | (go_at_call 33; have hp := P6; refine (pkY_at S.out A.out ZW.out.2.2.1 (by omega) 0 i _ (ofL b) _ V.out X.out.k3 X.out.t3).mono ?_; rintro e w1 ⟨rfl, a1, f1⟩; have F := Lib.hid (F.out.trans f1); have S := Lib.hid (S.out.fa f1); have A := Lib.hid (show Arr lo w1 g (zz3 b c i) from a1); have P7 := Lib.hid True.intro; clear P6 hp V; clear a1 f1)
      | (go_at_call 25; have hp := P7; refine (Loose_any A.out).mono ?_; rintro e w1 ⟨rfl, hw1⟩; obtain rfl := hw1.symm; rw [X.out.l3]; have P8 := Lib.hid True.intro; clear P7 hp)
      | (go_at_call 19; have hp := P8; refine (st_at S.out A.out ZW.out.2.2.1 (by omega) 0 j).mono ?_; rintro e w1 ⟨rfl, a1, f1⟩; rw [X.out.e4]; have F := Lib.hid (F.out.trans f1); have S := Lib.hid (S.out.fa f1); have A := Lib.hid (show Arr lo w1 g (zz4 b c i j) from a1); have P9 := Lib.hid True.intro; clear P8 hp; clear a1 f1)
      | (go_at_call 29; have hp := P9; refine (of_at (lo := lo) c _ Hc.out).mono ?_; rintro e w1 ⟨v, rfl, hv, f0⟩; have f1 := Fa.of0 f0 lo; have F := Lib.hid (F.out.trans f1); have S := Lib.hid (S.out.fa f1); have A := Lib.hid (A.out.keep0 f0); have V := Lib.hid hv; have P10 := Lib.hid True.intro; clear P9 hp; clear hv f1 f0)
      | (go_at_call 13; have hp := P10; refine (wr_at S.out A.out ZW.out.2.2.2.1 (by omega) 0 i _ (ofL c) _ V.out).mono ?_; rintro e w1 ⟨rfl, a1, f1⟩; rw [X.out.e5]; have F := Lib.hid (F.out.trans f1); have S := Lib.hid (S.out.fa f1); have A := Lib.hid (show Arr lo w1 g (zz5 b c i j) from a1); have P11 := Lib.hid True.intro; clear P10 hp V; clear a1 f1)
      | (go_at_call 29; have hp := P11; refine (of_at (lo := lo) c _ Hc.out).mono ?_; rintro e w1 ⟨v, rfl, hv, f0⟩; have f1 := Fa.of0 f0 lo; have F := Lib.hid (F.out.trans f1); have S := Lib.hid (S.out.fa f1); have A := Lib.hid (A.out.keep0 f0); have V := Lib.hid hv; have P12 := Lib.hid True.intro; clear P11 hp; clear hv f1 f0)
      | (go_at_call 33; have hp := P12; refine (pkY_at S.out A.out ZW.out.2.2.2.2.1 (by omega) 0 j _ (ofL c) _ V.out X.out.k5 X.out.t5).mono ?_; rintro e w1 ⟨rfl, a1, f1⟩; have F := Lib.hid (F.out.trans f1); have S := Lib.hid (S.out.fa f1); have A := Lib.hid (show Arr lo w1 g (zz5 b c i j) from a1); have P13 := Lib.hid True.intro; clear P12 hp V; clear a1 f1)
      | (go_at_call 29; have hp := P13; refine (of_at (lo := lo) b _ Hb.out).mono ?_; rintro e w1 ⟨v, rfl, hv, f0⟩; have f1 := Fa.of0 f0 lo; have F := Lib.hid (F.out.trans f1); have S := Lib.hid (S.out.fa f1); have A := Lib.hid (A.out.keep0 f0); have V := Lib.hid hv; have P14 := Lib.hid True.intro; clear P13 hp; clear hv f1 f0)
      | (go_at_call 33; have hp := P14; refine (pkY_at S.out A.out ZW.out.2.2.2.2.1 (by omega) 0 i _ (ofL b) _ V.out (N5.out.1) (N5.out.2)).mono ?_; rintro e w1 ⟨rfl, a1, f1⟩; have F := Lib.hid (F.out.trans f1); have S := Lib.hid (S.out.fa f1); have A := Lib.hid (show Arr lo w1 g (zz5 b c i j) from a1); have P15 := Lib.hid True.intro; clear P14 hp V; clear a1 f1)
      | (go_at_call 29; have hp := P15; refine (of_at (lo := lo) b _ Hb.out).mono ?_; rintro e w1 ⟨v, rfl, hv, f0⟩; have f1 := Fa.of0 f0 lo; have F := Lib.hid (F.out.trans f1); have S := Lib.hid (S.out.fa f1); have A := Lib.hid (A.out.keep0 f0); have V := Lib.hid hv; have P16 := Lib.hid True.intro; clear P15 hp; clear hv f1 f0)
      | (go_at_call 13; have hp := P16; refine (wr_at S.out A.out ZW.out.2.2.2.2.1 (by omega) 0 i _ (ofL b) _ V.out).mono ?_; rintro e w1 ⟨rfl, a1, f1⟩; rw [X.out.e6]; have F := Lib.hid (F.out.trans f1); have S := Lib.hid (S.out.fa f1); have A := Lib.hid (show Arr lo w1 g (zz6 b c i j) from a1); have P17 := Lib.hid True.intro; clear P16 hp V; clear a1 f1)
      | (go_at_call 29; have hp := P17; refine (of_at (lo := lo) b _ Hb.out).mono ?_; rintro e w1 ⟨v, rfl, hv, f0⟩; have f1 := Fa.of0 f0 lo; have F := Lib.hid (F.out.trans f1); have S := Lib.hid (S.out.fa f1); have A := Lib.hid (A.out.keep0 f0); have V := Lib.hid hv; have P18 := Lib.hid True.intro; clear P17 hp; clear hv f1 f0)
      | (go_at_call 33; have hp := P18; refine (pkY_at S.out A.out ZW.out.2.2.2.2.2 (by omega) 0 i _ (ofL b) _ V.out X.out.k6 X.out.t6).mono ?_; rintro e w1 ⟨rfl, a1, f1⟩; have F := Lib.hid (F.out.trans f1); have S := Lib.hid (S.out.fa f1); have A := Lib.hid (show Arr lo w1 g (zz6 b c i j) from a1); have P19 := Lib.hid True.intro; clear P18 hp V; clear a1 f1)
      | (go_at_call 20; have hp := P19; refine (fa_at S.out A.out 0 m (by have := HM.out; omega)).mono ?_; rintro e w1 ⟨rfl, a1, f1⟩; rw [(FAR.out).1]; have F := Lib.hid (F.out.trans f1); have S := Lib.hid (S.out.fa f1); have A := Lib.hid (show Arr lo w1 g ((faR (zz6 b c i j) 0 m).2) from a1); have P20 := Lib.hid True.intro; clear P19 hp; clear a1 f1))
    have A7 := Lib.hid (show Arr lo _ g (zz7 b c i j m) from FAR.out.2 ▸ A.out)
    have W7 := Lib.hid (show Wf 4 (zz7 b c i j m) from FAR.out.2 ▸ ZW.out.2.2.2.2.2.faR 0 m)
    go_loopw [13] (fun cv wr => ∃ k : Nat, k ≤ m ∧ cv = .int .i64 k ∧ Arr lo wr g (zz7 b c i j ((m - k : Nat) : Int)) ∧ Wf 4 (zz7 b c i j ((m - k : Nat) : Int)) ∧ Fa lo w wr ∧ Sn wr lo sn) (fun cv _ => m - (intOf cv).toNat)
    case atStart => exact ⟨0, Nat.zero_le _, rfl, A7.out, W7.out, F.out, S.out⟩
    case round =>
      obtain ⟨k, hk, rfl, hA, hW, hF, hS⟩ := hrel
      clear A F S A7 W7
      have A := Lib.hid hA
      have F := Lib.hid hF
      have S := Lib.hid hS
      have WFK := Lib.hid hW
      have P0 := Lib.hid True.intro
      by_cases hlt : k < m
      · have hlt9 : (k : Int) < (m : Int) := by omega
        have hm1 : ((m - k : Nat) : Int) - 1 = ((m - (k + 1) : Nat) : Int) := by omega
        have rr := re_res (fx b c i hi j hj) (m := ((m - k : Nat) : Int)) (by omega)
        rw [hm1] at rr
        have RE := Lib.hid (show (rdR (zz7 b c i j ((m - k : Nat) : Int)) 0 i).1 = some 5 ∧ (rdR (zz7 b c i j ((m - k : Nat) : Int)) 0 i).2 = zz7 b c i j ((m - (k + 1) : Nat) : Int) from by rw [rr]; exact ⟨rfl, rfl⟩)
        have WFN := Lib.hid (show Wf 4 (zz7 b c i j ((m - (k + 1) : Nat) : Int)) from RE.out.2 ▸ hW.rdR 0 i)
        have PKN := Lib.hid (pk_res (fx b c i hi j hj) (m := ((m - (k + 1) : Nat) : Int)) (by omega))
        clear hA hF hS hW rr hm1
        go_wp2_with (first
          | (go_at_call 11; have hp := P0; refine (rdE_at S.out A.out WFK.out (by omega) 0 i 5 RE.out.1).mono ?_; rintro e w1 ⟨rfl, a1, f1⟩; rw [show code 5 = 13 from rfl]; have F := Lib.hid (F.out.trans f1); have S := Lib.hid (S.out.fa f1); have A := Lib.hid (show Arr lo w1 g (zz7 b c i j ((m - (k + 1) : Nat) : Int)) from RE.out.2 ▸ a1); have P1 := Lib.hid True.intro; clear P0 hp; clear a1 f1)
          | (go_at_call 29; have hp := P1; refine (of_at (lo := lo) b _ Hb.out).mono ?_; rintro e w1 ⟨v, rfl, hv, f0⟩; have f1 := Fa.of0 f0 lo; have F := Lib.hid (F.out.trans f1); have S := Lib.hid (S.out.fa f1); have A := Lib.hid (A.out.keep0 f0); have V := Lib.hid hv; have P2 := Lib.hid True.intro; clear P1 hp; clear hv f1 f0)
          | (go_at_call 33; have hp := P2; refine (pkY_at S.out A.out WFN.out (by omega) 0 i _ (ofL b) _ V.out PKN.out.1 PKN.out.2).mono ?_; rintro e w1 ⟨rfl, a1, f1⟩; have F := Lib.hid (F.out.trans f1); have S := Lib.hid (S.out.fa f1); have A := Lib.hid (show Arr lo w1 g (zz7 b c i j ((m - (k + 1) : Nat) : Int)) from a1); have P3 := Lib.hid True.intro; clear P2 hp V; clear a1 f1))
        go_roundw
        case rel => exact ⟨k + 1, by omega, by go_num, A.out, WFN.out, F.out, S.out⟩
        case measure => simp [intOf]; omega
      · obtain rfl : k = m := by omega
        rw [Nat.sub_self] at A WFK
        have R0 := Lib.hid (show rdR (zz7 b c i j 0) 0 i = (none, zz7 b c i j 0) from by unfold zz7; rw [failF_nil]; exact (fx b c i hi j hj).r0 0)
        have PK0 := Lib.hid (pk_res (fx b c i hi j hj) (m := 0) (by omega)).2
        have A := Lib.hid (show Arr lo wr g (zz7 b c i j 0) from A.out)
        clear hA hF hS hW
        go_wp2_with (first
          | (go_at_call 29; have hp := P0; refine (of_at (lo := lo) b _ Hb.out).mono ?_; rintro e w1 ⟨v, rfl, hv, f0⟩; have f1 := Fa.of0 f0 lo; have F := Lib.hid (F.out.trans f1); have S := Lib.hid (S.out.fa f1); have A := Lib.hid (A.out.keep0 f0); have V := Lib.hid hv; have P1 := Lib.hid True.intro; clear P0 hp; clear hv f1 f0)
          | (go_at_call 30; have hp := P1; refine (rdY_at S.out A.out WFK.out (by omega) 0 i _ (ofL b) _ V.out R0.out PK0.out).mono ?_; rintro e w1 ⟨rfl, a1, f1⟩; have F := Lib.hid (F.out.trans f1); have S := Lib.hid (S.out.fa f1); have A := Lib.hid (show Arr lo w1 g (zz7 b c i j 0) from a1); have P2 := Lib.hid True.intro; clear P1 hp V; clear a1 f1)
          | (go_at_call 29; have hp := P2; refine (of_at (lo := lo) c _ Hc.out).mono ?_; rintro e w1 ⟨v, rfl, hv, f0⟩; have f1 := Fa.of0 f0 lo; have F := Lib.hid (F.out.trans f1); have S := Lib.hid (S.out.fa f1); have A := Lib.hid (A.out.keep0 f0); have V := Lib.hid hv; have P3 := Lib.hid True.intro; clear P2 hp; clear hv f1 f0)
          | (go_at_call 30; have hp := P3; refine (rdY_at S.out A.out WFK.out (by omega) 0 j _ (ofL c) _ V.out N0.out.1 N0.out.2).mono ?_; rintro e w1 ⟨rfl, a1, f1⟩; have F := Lib.hid (F.out.trans f1); have S := Lib.hid (S.out.fa f1); have A := Lib.hid (show Arr lo w1 g (zz7 b c i j 0) from a1); have P4 := Lib.hid True.intro; clear P3 hp V; clear a1 f1))
        go_ret
        exact ⟨rfl, F.out⟩
end Go.Proofs.YtdebnikolhhmgaaDoor

