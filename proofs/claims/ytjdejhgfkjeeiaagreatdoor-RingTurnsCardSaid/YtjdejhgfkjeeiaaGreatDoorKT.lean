/-
  The walk of RingTurns. No conditions but those that each theorem names.
-/
import Derived.Test.YtjdejhgfkjeeiaaGreatDoorKN
namespace Go.Proofs.YtjdejhgfkjeeiaaGreatDoor
open Go.RowKit
set_option linter.unusedVariables false
set_option linter.unusedSimpArgs false
set_option maxRecDepth 100000

theorem slotN_in {t : Int} (h1 : 1 ≤ t) (h2 : t ≤ 2147483648) : slotN t = 1 + t % 4 := by unfold slotN; rw [if_neg (by omega)]
theorem slotB_in {t : Int} (h1 : 1 ≤ t) (h2 : t ≤ 2147483648) : slotB t = true := by unfold slotB; simp; omega
theorem slot_out {t : Int} (h : t < 1 ∨ 2147483648 < t) : slotN t = 0 ∧ slotB t = false := by
  constructor
  · unfold slotN; rw [if_pos h]
  · unfold slotB; simp; omega
def InI (n : Int) : Prop := -9223372036854775808 ≤ n ∧ n ≤ 9223372036854775807
theorem wf_iff (n : Int) : (Lit.int .i64 n).wf = true ↔ InI n := by
  simp [Lit.wf, IntKind.min, IntKind.max, IntKind.bits, IntKind.signed, InI]
set_option maxHeartbeats 8000000 in
theorem turns_law (t : Int) (ht : InI t) {w : World} {s0 s1 s2 : Addr} (hs : Sens w s0 s1 s2) (hG : Hs.Glob w) : Calls Tryz.prog 11 #[.int .i64 t] w (YesR w) := by
  have HK := Lib.hid (knownR_any w hs hG)
  unfold YesR at HK
  clear hs hG
  by_cases ho : t < 1 ∨ 2147483648 < t
  · obtain ⟨e1, e2⟩ := slot_out ho
    have HS := Lib.hid (fun W => Slot_any t W)
    rw [e1, e2] at HS
    clear e1 e2
    by_cases h1 : t < 1
    · clear ho
      go_enter Tryz.func11, Tryz.ntmps11
      go_wp2_with (first
        | (go_at_call 10; refine HK.out.mono ?_; rintro r w1 ⟨rfl, f1⟩; have F1 := Lib.hid f1; clear f1)
        | (go_at_call 42; refine (HS.out _).mono ?_; rintro r w2 ⟨rfl, hw2⟩; obtain rfl := hw2.symm))
      go_ret
      exact ⟨rfl, F1.out⟩
    · have h2 : 2147483648 < t := by omega
      clear ho
      go_enter Tryz.func11, Tryz.ntmps11
      go_wp2_with (first
        | (go_at_call 10; refine HK.out.mono ?_; rintro r w1 ⟨rfl, f1⟩; have F1 := Lib.hid f1; clear f1)
        | (go_at_call 42; refine (HS.out _).mono ?_; rintro r w2 ⟨rfl, hw2⟩; obtain rfl := hw2.symm))
      go_ret
      exact ⟨rfl, F1.out⟩
  · have h1 : 1 ≤ t := by omega
    have h2 : t ≤ 2147483648 := by omega
    have HS := Lib.hid (fun W => Slot_any t W)
    have hn := slotN_in h1 h2
    rw [slotB_in h1 h2] at HS
    have HSK := Lib.hid (fun (k : Int) (h3 : 1 ≤ k) (h4 : k < 4) (h5 : t + k ≤ 2147483648) W => show Calls Tryz.prog 42 #[.int .i64 (t + k)] W fun e w' => ∃ m, e = .returned (.tuple #[.int .i64 m, .bool true]) ∧ m ≠ slotN t ∧ w' = W from
      (Slot_any (t + k) W).mono fun e w' ⟨he, hw⟩ => ⟨slotN (t + k), by rw [he, slotB_in (by omega) h5], by rw [slotN_in (by omega) h5, hn]; omega, hw⟩)
    have HS4 := Lib.hid (fun W => Slot_any (t + 4) W)
    have HN4 := Lib.hid (show t + 4 ≤ 2147483648 → slotN (t + 4) = slotN t ∧ slotB (t + 4) = true from fun h => ⟨by rw [slotN_in (by omega) h, hn]; omega, slotB_in (by omega) h⟩)
    have hb : 1 ≤ slotN t ∧ slotN t ≤ 4 := by omega
    generalize slotN t = n at *
    obtain ⟨hn1, hn4⟩ := hb
    have hw4 : IntKind.i64.wrap (t + 4) = t + 4 := IntWalk.i64_in _ (by omega)
    clear ho hn ht
    go_enter Tryz.func11, Tryz.ntmps11
    go_upto_region 8 with (first
      | (go_at_call 10; refine HK.out.mono ?_; rintro r w1 ⟨rfl, f1⟩; have F1 := Lib.hid f1; clear f1)
      | (go_at_call 42; refine (HS.out _).mono ?_; rintro r w2 ⟨rfl, hw2⟩; obtain rfl := hw2.symm))
    go_wp2_with fail
    go_loopw [6] (fun cv wr => wr = w1 ∧ ∃ k : Nat, cv = .int .i64 k ∧ 1 ≤ k ∧ k ≤ 4) (fun cv _ => 4 - (intOf cv).toNat)
    case atStart => exact ⟨rfl, 1, rfl, by omega, by omega⟩
    case round =>
      obtain ⟨hwr, k, rfl, hk1, hk4⟩ := hrel
      obtain rfl := hwr.symm
      have hwk : IntKind.i64.wrap (t + (k : Int)) = t + (k : Int) := IntWalk.i64_in _ (by omega)
      by_cases hlt : k < 4
      · have hlt' : (k : Int) < 4 := by omega
        by_cases hin : t + (k : Int) ≤ 2147483648
        · have HC := Lib.hid (HSK.out k (by omega) hlt' hin w1)
          have HLT := Lib.hid hlt
          clear hlt
          go_upto_region 11 with (go_at_call 42; refine HC.out.mono ?_; rintro r w2 ⟨m, rfl, hm, hw2⟩; obtain rfl := hw2.symm)
          have hmn : (m == n) = false := by simpa using hm
          go_wp2_with fail
          go_roundw
          case rel => exact ⟨by first | trivial | rfl, k + 1, by go_num, by omega, HLT.out⟩
          case measure => simp [intOf]; have := HLT.out; omega
        · have hin' : 2147483648 < t + (k : Int) := by omega
          have h4 : 2147483648 < t + 4 := by omega
          have HX4 := Lib.hid (HS4.out w1)
          generalize slotN (t + 4) = m4 at *
          generalize slotB (t + 4) = q4 at *
          clear HN4
          go_wp2_with (go_at_call 42; refine HX4.out.mono ?_; rintro r w2 ⟨rfl, hw2⟩; obtain rfl := hw2.symm)
          go_ret
          exact ⟨rfl, F1.out⟩
      · obtain rfl : k = 4 := by omega
        by_cases hbig : t + 4 ≤ 2147483648
        · have h4 : t + 4 ≤ 2147483648 := hbig
          have HX4 := Lib.hid (HS4.out w1)
          rw [(HN4.out h4).1, (HN4.out h4).2] at HX4
          go_wp2_with (go_at_call 42; refine HX4.out.mono ?_; rintro r w2 ⟨rfl, hw2⟩; obtain rfl := hw2.symm)
          go_ret
          exact ⟨rfl, F1.out⟩
        · have h4 : 2147483648 < t + 4 := by omega
          have HX4 := Lib.hid (HS4.out w1)
          generalize slotN (t + 4) = m4 at *
          generalize slotB (t + 4) = q4 at *
          clear HN4
          go_wp2_with (go_at_call 42; refine HX4.out.mono ?_; rintro r w2 ⟨rfl, hw2⟩; obtain rfl := hw2.symm)
          go_ret
          exact ⟨rfl, F1.out⟩
end Go.Proofs.YtjdejhgfkjeeiaaGreatDoor
