/-
  ArrayNone: the law. No conditions but those that each theorem names.
-/
import Derived.Test.YtdebnikolhhmgaaDoorBT
namespace Go.Proofs.YtdebnikolhhmgaaDoor
open Go.RowKit
set_option linter.unusedVariables false
set_option linter.unusedSimpArgs false
set_option maxRecDepth 100000

open Kr (OwnE SlE Enco RowTys)
def actV (kd d a n m : Int) (b5 : Option Addr) (n5 c5 : Nat) (b6 : Option Addr) (n6 c6 : Nat) : Value := .agg #[.int .i64 kd, .int .i64 d, .int .i64 a, .int .i64 n, .int .u8 m, .slice b5 n5 c5, .slice b6 n6 c6]
theorem i25 : (Tryd.prog.info? 25).map (·.size) = some 7 := by kernel_rfl
set_option maxHeartbeats 16000000 in
theorem None_any (kd d a n m : Int) (b5 : Option Addr) (n5 c5 : Nat) (b6 : Option Addr) (n6 c6 : Nat) {lo : Nat} {w : World} {sn : Nat → Addr} (hs : Sn w lo sn) (hlo : lo ≤ w.heap.size) :
    Calls Tryd.prog 3 #[actV kd d a n m b5 n5 c5 b6 n6 c6] w fun e w' => e = .returned (.bool true) ∧ Fa lo w w' := by
  have f1 : Frm [] w (w.alloc (.cells #[.int .i64 kd, .int .i64 d, .int .i64 a, .int .i64 n, .int .u8 m, .slice b5 n5 c5, .slice b6 n6 c6] 25)) := (Frm.refl [] w).alloc _
  have hh : (w.alloc (.cells #[.int .i64 kd, .int .i64 d, .int .i64 a, .int .i64 n, .int .u8 m, .slice b5 n5 c5, .slice b6 n6 c6] 25)).heap[w.heap.size]? = _ := heap_alloc_new _ _
  have F1 := Lib.hid f1
  have H1 := Lib.hid hh
  have HS := Lib.hid hs
  have HLO2 : ∀ W', Frm [] w W' → lo ≤ W'.heap.size := fun W' f => Nat.le_trans hlo f.size
  clear f1 hh hs hlo
  unfold actV
  go_enter Tryd.func3, Tryd.ntmps3
  go_upto_region 1 with (fail)
  generalize w.alloc (.cells #[.int .i64 kd, .int .i64 d, .int .i64 a, .int .i64 n, .int .u8 m, .slice b5 n5 c5, .slice b6 n6 c6] 25) = W at *
  generalize w.heap.size = g1 at *
  have k0 : W.cell? ⟨g1, 0, none⟩ = some (.int .i64 kd) := by rw [cell_of_heap H1.out]; rfl
  have k1 : W.cell? ⟨g1, 1, none⟩ = some (.int .i64 d) := by rw [cell_of_heap H1.out]; rfl
  have k2 : W.cell? ⟨g1, 2, none⟩ = some (.int .i64 a) := by rw [cell_of_heap H1.out]; rfl
  have k3 : W.cell? ⟨g1, 3, none⟩ = some (.int .i64 n) := by rw [cell_of_heap H1.out]; rfl
  have k4 : W.cell? ⟨g1, 4, none⟩ = some (.int .u8 m) := by rw [cell_of_heap H1.out]; rfl
  have k5 : W.cell? ⟨g1, 5, none⟩ = some (.slice b5 n5 c5) := by rw [cell_of_heap H1.out]; rfl
  have k6 : W.cell? ⟨g1, 6, none⟩ = some (.slice b6 n6 c6) := by rw [cell_of_heap H1.out]; rfl
  go_wp2_with fail
  have f2 : Frm [] W (W.alloc (.cells #[.int .i64 kd, .int .i64 d, .int .i64 a, .int .i64 n, .int .u8 m, .slice b5 n5 c5, .slice b6 n6 c6] 25)) := (Frm.refl [] W).alloc _
  have h2 : (W.alloc (.cells #[.int .i64 kd, .int .i64 d, .int .i64 a, .int .i64 n, .int .u8 m, .slice b5 n5 c5, .slice b6 n6 c6] 25)).heap[W.heap.size]? = _ := heap_alloc_new _ _
  have F2 := Lib.hid (F1.out.trans f2 (by simp))
  refine (Long1_any W.heap.size n5 c5 n6 c6 b5 b6 _ (by rw [cell_of_heap h2]; rfl) (by rw [cell_of_heap h2]; rfl)).mono ?_
  replace k1 := f2.cell k1 (by simp)
  replace k2 := f2.cell k2 (by simp)
  replace k3 := f2.cell k3 (by simp)
  replace k4 := f2.cell k4 (by simp)
  replace k5 := f2.cell k5 (by simp)
  replace k6 := f2.cell k6 (by simp)
  clear h2 f2 k0
  rintro e w2 ⟨rfl, hw2⟩
  obtain rfl := hw2.symm
  generalize W.alloc (.cells #[.int .i64 kd, .int .i64 d, .int .i64 a, .int .i64 n, .int .u8 m, .slice b5 n5 c5, .slice b6 n6 c6] 25) = W2 at *
  generalize W.heap.size = g2 at *
  obtain ⟨q, hq⟩ : ∃ q, decide (300 < n5 ∨ 200 < n6) = q := ⟨_, rfl⟩
  rw [hq]
  clear hq
  have S2 := Lib.hid (HS.out.keep0 F2.out)
  have L2 := Lib.hid (show lo ≤ W2.heap.size from HLO2 W2 F2.out)
  cases q
  rotate_left
  · go_wp2_with (go_at_call 10; refine (awake_any S2.out L2.out).mono ?_; rintro e w3 ⟨rfl, f3⟩; have F3 := Lib.hid f3; clear f3)
    go_ret
    exact ⟨rfl, (Fa.of0 F2.out lo).trans F3.out⟩
  · go_upto_region 4 with (fail)
    have f4 : Frm [] W2 ((W2.alloc (.cells #[.pointer none, .int .i64 0, .slice none 0 0, .slice none 0 0, .bool false, .int .i64 0, .bool false, .int .i64 0] 35)).alloc (.cells #[.pointer none, .pointer (some ⟨W2.heap.size, 0, none⟩)] 29)) := ((Frm.refl [] W2).alloc _).alloc _
    have hA : ((W2.alloc (.cells #[.pointer none, .int .i64 0, .slice none 0 0, .slice none 0 0, .bool false, .int .i64 0, .bool false, .int .i64 0] 35)).alloc (.cells #[.pointer none, .pointer (some ⟨W2.heap.size, 0, none⟩)] 29)).heap[W2.heap.size + 1]? = some (.cells #[.pointer none, .pointer (some ⟨W2.heap.size, 0, none⟩)] 29 (0, 0)) := heap_alloc_at (by simp)
    have hZ : ((W2.alloc (.cells #[.pointer none, .int .i64 0, .slice none 0 0, .slice none 0 0, .bool false, .int .i64 0, .bool false, .int .i64 0] 35)).alloc (.cells #[.pointer none, .pointer (some ⟨W2.heap.size, 0, none⟩)] 29)).heap[W2.heap.size]? = some (.cells #[.pointer none, .int .i64 0, .slice none 0 0, .slice none 0 0, .bool false, .int .i64 0, .bool false, .int .i64 0] 35 (0, 0)) := heap_alloc_lt (heap_alloc_new _ _)
    replace k1 := f4.cell k1 (by simp)
    replace k2 := f4.cell k2 (by simp)
    replace k3 := f4.cell k3 (by simp)
    replace k4 := f4.cell k4 (by simp)
    replace k5 := f4.cell k5 (by simp)
    replace k6 := f4.cell k6 (by simp)
    have F4 := Lib.hid (F2.out.trans f4 (by simp))
    generalize (W2.alloc (.cells #[.pointer none, .int .i64 0, .slice none 0 0, .slice none 0 0, .bool false, .int .i64 0, .bool false, .int .i64 0] 35)).alloc (.cells #[.pointer none, .pointer (some ⟨W2.heap.size, 0, none⟩)] 29) = W5 at *
    have HP := Lib.hid (show ∀ k, k < 2 → ∃ q, W5.cell? ⟨W2.heap.size + 1, k, none⟩ = some (.pointer q) ∧ Un W5 (.pointer q) from fun k hk => by
      have e : k = 0 ∨ k = 1 := by omega
      rcases e with rfl | rfl
      · exact ⟨none, by rw [cell_of_heap hA]; rfl, .inl rfl⟩
      · exact ⟨_, by rw [cell_of_heap hA]; rfl, .inr ⟨_, rfl, by rw [cell_of_heap hZ]; rfl⟩⟩)
    have S5 := Lib.hid (HS.out.keep0 F4.out)
    clear f4 hA hZ S2 L2 F2
    generalize W2.heap.size + 1 = gA at *
    have K5 := Lib.hid (And.intro k1 (And.intro k2 (And.intro k3 (And.intro k4 (And.intro k5 k6)))))
    clear k1 k2 k3 k4 k5 k6
    go_upto_region 5 with (fail)
    go_loopw [4] (fun c wr => ∃ k : Nat, k ≤ 2 ∧ c = .int .i64 k ∧ Frm [] W5 wr) (fun c _ => 2 - (intOf c).toNat)
    case atStart => exact ⟨0, by omega, rfl, Frm.refl [] W5⟩
    case round =>
      obtain ⟨k, hk, rfl, hF⟩ := hrel
      have F := Lib.hid hF
      by_cases hlt : k < 2
      · obtain ⟨k1, k2, k3, k4, k5, k6⟩ := K5.out
        obtain ⟨q, hc, hU⟩ := HP.out k hlt
        have HU := Lib.hid hU
        replace hc := hF.cell hc (by simp)
        replace k1 := hF.cell k1 (by simp)
        replace k2 := hF.cell k2 (by simp)
        replace k3 := hF.cell k3 (by simp)
        replace k4 := hF.cell k4 (by simp)
        replace k5 := hF.cell k5 (by simp)
        replace k6 := hF.cell k6 (by simp)
        have hlt9 : (k : Int) < 2 := by omega
        clear hU hF
        go_wp2_with (first
          | (go_at_call 11; refine (Read_no (S5.out.keep0 F.out) _ _ _ (HU.out.keep0 F.out)).mono ?_; rintro e w1 ⟨rfl, f1⟩; have F := Lib.hid (F.out.trans f1 (by simp)); replace k1 := f1.cell k1 (by simp); replace k2 := f1.cell k2 (by simp); replace k3 := f1.cell k3 (by simp); replace k4 := f1.cell k4 (by simp); replace k5 := f1.cell k5 (by simp); replace k6 := f1.cell k6 (by simp); clear f1)
          | (go_at_call 12; refine (Peek_no (S5.out.keep0 F.out) _ _ _ (HU.out.keep0 F.out)).mono ?_; rintro e w1 ⟨rfl, f1⟩; have F := Lib.hid (F.out.trans f1 (by simp)); replace k1 := f1.cell k1 (by simp); replace k2 := f1.cell k2 (by simp); replace k3 := f1.cell k3 (by simp); replace k4 := f1.cell k4 (by simp); replace k5 := f1.cell k5 (by simp); replace k6 := f1.cell k6 (by simp); clear f1)
          | (go_at_call 13; refine (Write_no (S5.out.keep0 F.out) _ _ _ _ _ _ (HU.out.keep0 F.out)).mono ?_; rintro e w1 ⟨rfl, f1⟩; have F := Lib.hid (F.out.trans f1 (by simp)); replace k1 := f1.cell k1 (by simp); replace k2 := f1.cell k2 (by simp); replace k3 := f1.cell k3 (by simp); replace k4 := f1.cell k4 (by simp); replace k5 := f1.cell k5 (by simp); replace k6 := f1.cell k6 (by simp); clear f1)
          | (go_at_call 14; refine (Flush_no (S5.out.keep0 F.out) _ _ (HU.out.keep0 F.out)).mono ?_; rintro e w1 ⟨rfl, f1⟩; have F := Lib.hid (F.out.trans f1 (by simp)); replace k1 := f1.cell k1 (by simp); replace k2 := f1.cell k2 (by simp); replace k3 := f1.cell k3 (by simp); replace k4 := f1.cell k4 (by simp); replace k5 := f1.cell k5 (by simp); replace k6 := f1.cell k6 (by simp); clear f1)
          | (go_at_call 15; refine (Fuse_no (S5.out.keep0 F.out) _ _ (HU.out.keep0 F.out)).mono ?_; rintro e w1 ⟨rfl, f1⟩; have F := Lib.hid (F.out.trans f1 (by simp)); replace k1 := f1.cell k1 (by simp); replace k2 := f1.cell k2 (by simp); replace k3 := f1.cell k3 (by simp); replace k4 := f1.cell k4 (by simp); replace k5 := f1.cell k5 (by simp); replace k6 := f1.cell k6 (by simp); clear f1)
          | (go_at_call 16; refine (Crash_no (S5.out.keep0 F.out) _ _ _ (HU.out.keep0 F.out)).mono ?_; rintro e w1 ⟨rfl, f1⟩; have F := Lib.hid (F.out.trans f1 (by simp)); replace k1 := f1.cell k1 (by simp); replace k2 := f1.cell k2 (by simp); replace k3 := f1.cell k3 (by simp); replace k4 := f1.cell k4 (by simp); replace k5 := f1.cell k5 (by simp); replace k6 := f1.cell k6 (by simp); clear f1)
          | (go_at_call 17; refine (Spoil_no (S5.out.keep0 F.out) _ _ _ _ _ (HU.out.keep0 F.out)).mono ?_; rintro e w1 ⟨rfl, f1⟩; have F := Lib.hid (F.out.trans f1 (by simp)); replace k1 := f1.cell k1 (by simp); replace k2 := f1.cell k2 (by simp); replace k3 := f1.cell k3 (by simp); replace k4 := f1.cell k4 (by simp); replace k5 := f1.cell k5 (by simp); replace k6 := f1.cell k6 (by simp); clear f1)
          | (go_at_call 18; refine (Lose_no (S5.out.keep0 F.out) _ _ (HU.out.keep0 F.out)).mono ?_; rintro e w1 ⟨rfl, f1⟩; have F := Lib.hid (F.out.trans f1 (by simp)); replace k1 := f1.cell k1 (by simp); replace k2 := f1.cell k2 (by simp); replace k3 := f1.cell k3 (by simp); replace k4 := f1.cell k4 (by simp); replace k5 := f1.cell k5 (by simp); replace k6 := f1.cell k6 (by simp); clear f1)
          | (go_at_call 19; refine (Stray_no (S5.out.keep0 F.out) _ _ _ (HU.out.keep0 F.out)).mono ?_; rintro e w1 ⟨rfl, f1⟩; have F := Lib.hid (F.out.trans f1 (by simp)); replace k1 := f1.cell k1 (by simp); replace k2 := f1.cell k2 (by simp); replace k3 := f1.cell k3 (by simp); replace k4 := f1.cell k4 (by simp); replace k5 := f1.cell k5 (by simp); replace k6 := f1.cell k6 (by simp); clear f1)
          | (go_at_call 20; refine (Fail_no (S5.out.keep0 F.out) _ _ _ (HU.out.keep0 F.out)).mono ?_; rintro e w1 ⟨rfl, f1⟩; have F := Lib.hid (F.out.trans f1 (by simp)); replace k1 := f1.cell k1 (by simp); replace k2 := f1.cell k2 (by simp); replace k3 := f1.cell k3 (by simp); replace k4 := f1.cell k4 (by simp); replace k5 := f1.cell k5 (by simp); replace k6 := f1.cell k6 (by simp); clear f1)
          | (go_at_call 21; refine (Pull_no (S5.out.keep0 F.out) _ _ (HU.out.keep0 F.out)).mono ?_; rintro e w1 ⟨rfl, f1⟩; have F := Lib.hid (F.out.trans f1 (by simp)); replace k1 := f1.cell k1 (by simp); replace k2 := f1.cell k2 (by simp); replace k3 := f1.cell k3 (by simp); replace k4 := f1.cell k4 (by simp); replace k5 := f1.cell k5 (by simp); replace k6 := f1.cell k6 (by simp); clear f1)
          | (go_at_call 22; refine (Fit_no (S5.out.keep0 F.out) _ _ (HU.out.keep0 F.out)).mono ?_; rintro e w1 ⟨rfl, f1⟩; have F := Lib.hid (F.out.trans f1 (by simp)); replace k1 := f1.cell k1 (by simp); replace k2 := f1.cell k2 (by simp); replace k3 := f1.cell k3 (by simp); replace k4 := f1.cell k4 (by simp); replace k5 := f1.cell k5 (by simp); replace k6 := f1.cell k6 (by simp); clear f1)
          | (go_at_call 23; refine (Devs_no (S5.out.keep0 F.out) _ (HU.out.keep0 F.out)).mono ?_; rintro e w1 ⟨rfl, f1⟩; have F := Lib.hid (F.out.trans f1 (by simp)); replace k1 := f1.cell k1 (by simp); replace k2 := f1.cell k2 (by simp); replace k3 := f1.cell k3 (by simp); replace k4 := f1.cell k4 (by simp); replace k5 := f1.cell k5 (by simp); replace k6 := f1.cell k6 (by simp); clear f1)
          | (go_at_call 24; refine (Sectors_no (S5.out.keep0 F.out) _ (HU.out.keep0 F.out)).mono ?_; rintro e w1 ⟨rfl, f1⟩; have F := Lib.hid (F.out.trans f1 (by simp)); replace k1 := f1.cell k1 (by simp); replace k2 := f1.cell k2 (by simp); replace k3 := f1.cell k3 (by simp); replace k4 := f1.cell k4 (by simp); replace k5 := f1.cell k5 (by simp); replace k6 := f1.cell k6 (by simp); clear f1)
          | (go_at_call 25; refine (Loose_no (S5.out.keep0 F.out) _ (HU.out.keep0 F.out)).mono ?_; rintro e w1 ⟨rfl, f1⟩; have F := Lib.hid (F.out.trans f1 (by simp)); replace k1 := f1.cell k1 (by simp); replace k2 := f1.cell k2 (by simp); replace k3 := f1.cell k3 (by simp); replace k4 := f1.cell k4 (by simp); replace k5 := f1.cell k5 (by simp); replace k6 := f1.cell k6 (by simp); clear f1)
          | (go_at_call 26; refine (Steps_no (S5.out.keep0 F.out) _ (HU.out.keep0 F.out)).mono ?_; rintro e w1 ⟨rfl, f1⟩; have F := Lib.hid (F.out.trans f1 (by simp)); replace k1 := f1.cell k1 (by simp); replace k2 := f1.cell k2 (by simp); replace k3 := f1.cell k3 (by simp); replace k4 := f1.cell k4 (by simp); replace k5 := f1.cell k5 (by simp); replace k6 := f1.cell k6 (by simp); clear f1)
          | (go_at_call 27; refine (Up_no (S5.out.keep0 F.out) _ _ (HU.out.keep0 F.out)).mono ?_; rintro e w1 ⟨rfl, f1⟩; have F := Lib.hid (F.out.trans f1 (by simp)); replace k1 := f1.cell k1 (by simp); replace k2 := f1.cell k2 (by simp); replace k3 := f1.cell k3 (by simp); replace k4 := f1.cell k4 (by simp); replace k5 := f1.cell k5 (by simp); replace k6 := f1.cell k6 (by simp); clear f1))
        go_roundw
        case rel => exact ⟨k + 1, by omega, by go_num, F.out⟩
        case measure => simp [intOf]; omega
      · obtain rfl : k = 2 := by omega
        have S9 := Lib.hid (S5.out.keep0 hF)
        have L9 := Lib.hid (HLO2 wr (F4.out.trans hF (by simp)))
        clear hF
        go_wp2_with (go_at_call 10; refine (awake_any S9.out L9.out).mono ?_; rintro e w3 ⟨rfl, f3⟩; have F3 := Lib.hid f3; clear f3)
        go_ret
        exact ⟨rfl, (Fa.of0 (F4.out.trans F.out (by simp)) lo).trans F3.out⟩
end Go.Proofs.YtdebnikolhhmgaaDoor

