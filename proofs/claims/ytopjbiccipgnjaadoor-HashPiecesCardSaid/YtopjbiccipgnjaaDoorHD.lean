/-
  Contracts of asWord and ending: what bytes are as a word, and what fills bytes up; no conditions but those that each theorem names.
-/
import Derived.Test.YtopjbiccipgnjaaDoorHC
namespace Go.Proofs.YtopjbiccipgnjaaDoor
open Go.RowKit
set_option linter.unusedVariables false
set_option linter.unusedSimpArgs false

def stepB (x : UInt32) (b : UInt8) : UInt32 := UInt32.ofNat (x.toNat * 256 % 4294967296 ||| b.toNat)
def beW (l : List UInt8) : UInt32 := l.foldl stepB 0
theorem beW_snoc (l : List UInt8) (b : UInt8) : beW (l ++ [b]) = stepB (beW l) b := by simp [beW]
theorem stepB_val (x : UInt32) (b : UInt8) : bits BinOp.or IntKind.u32 (wi x * 256 % 4294967296) (b.toNat : Int) = wi (stepB x b) := by
  have h1 : x.toNat * 256 % 4294967296 < 4294967296 := Nat.mod_lt _ (by decide)
  have h2 : b.toNat < 4294967296 := by have := b.toNat_lt; omega
  have e1 : wi x * 256 % 4294967296 = ((x.toNat * 256 % 4294967296 : Nat) : Int) := by unfold wi; simp
  rw [e1, u32_or_nat _ _ h1 h2]
  unfold wi stepB
  rw [UInt32.toNat_ofNat', Nat.mod_eq_of_lt (Nat.or_lt_two_pow (n := 32) h1 h2)]
theorem SlB.cellB {w : World} {b off n cap : Nat} {l sp : List UInt8} (h : SlB w (.slice (some ⟨b, off, none⟩) n cap) l sp) (k : Nat) (hk : k < l.length) : w.cell? ⟨b, off + k, none⟩ = some (.int .u8 (l[k].toNat : Int)) := by
  obtain ⟨h1, h2 | ⟨a, h2, h3, h4⟩ | ⟨b', off', cap', h2, h3, h4, h5, h6⟩⟩ := h
  · cases h2.1
  · rw [h3] at hk; omega
  · cases h2
    have := h6 k (bv l[k]) (by rw [List.getElem?_append_left (by simpa [bvs_length] using hk), bvs_get, List.getElem?_eq_getElem hk]; rfl)
    exact this
set_option maxHeartbeats 1000000 in
theorem asWord_any (b off cap : Nat) (l sp : List UInt8) (w : World) (hS : SlB w (.slice (some ⟨b, off, none⟩) l.length cap) l sp) (hl : l.length ≤ 1000000) :
    Calls Tryd.prog 53 #[.slice (some ⟨b, off, none⟩) l.length cap] w fun r w' => r = .returned (.int .u32 (wi (beW l))) ∧ w' = w := by
  have HS := Lib.hid hS
  clear hS
  have hl9 : (l.length : Int) ≤ 1000000 := by omega
  go_enter Tryd.func53, Tryd.ntmps53
  go_wp2
  go_loop [3, 8] (fun x c => ∃ k : Nat, k ≤ l.length ∧ c = .int .i64 k ∧ x = .int .u32 (wi (beW (l.take k)))) (fun _ c => l.length - (intOf c).toNat)
  case atStart => exact ⟨0, Nat.zero_le _, rfl, rfl⟩
  case round =>
    obtain ⟨k, hk, rfl, rfl⟩ := hrel
    by_cases hlt : k < l.length
    · have hc := HS.out.cellB k hlt
      have hts : l.take (k + 1) = l.take k ++ [l[k]] := by rw [List.take_succ_eq_append_getElem hlt]
      have hsn := beW_snoc (l.take k) l[k]
      rw [← hts] at hsn
      have hv := stepB_val (beW (l.take k)) l[k]
      rw [← hsn] at hv
      have hb := l[k].toNat_lt
      have hb2 : ((l[k].toNat : Nat) : Int) < 256 := by omega
      have l1 := wi_lo (beW (l.take k))
      have l2 := wi_hi (beW (l.take k))
      generalize beW (l.take k) = x0 at *
      generalize l[k] = y at *
      have HV := Lib.hid hv
      clear hv hts hsn hb
      go_wp2
      go_round
      case rel => exact ⟨k + 1, by omega, by go_num, by rw [HV.out]⟩
      case measure => simp [intOf]; omega
    · obtain rfl : k = l.length := by omega
      go_wp2
      go_ret
      exact ⟨by simp, rfl⟩
/-- The j-th lowest byte of how many bits there are. -/
def cntB (n j : Nat) : UInt8 := UInt8.ofNat (8 * n / 2 ^ (8 * j))
def padN (n : Nat) : Nat := ((n + 8) / 64 + 1) * 64 - n
/-- What fills n bytes up, but for the last eight bytes of which k are laid. -/
def endK (n : Nat) : Nat → List UInt8
  | 0 => 128 :: List.replicate (padN n - 1) 0
  | k + 1 => (endK n k).set (padN n - 1 - k) (cntB n k)
theorem padN_ge (n : Nat) : 9 ≤ padN n ∧ padN n ≤ 72 := by unfold padN; omega
theorem endK_length (n k : Nat) : (endK n k).length = padN n := by
  induction k with
  | zero => have := padN_ge n; simp [endK]; omega
  | succ k ih => simp [endK, ih]
theorem cnt_val (n k : Nat) : (n : Int) * 8 / 2 ^ (8 * k) % 256 = ((8 * n / 2 ^ (8 * k) % 2 ^ 8 : Nat) : Int) := by
  rw [Int.mul_comm]
  have h : ∀ m : Nat, ((8 * n / m % 2 ^ 8 : Nat) : Int) = 8 * (n : Int) / (m : Int) % 256 := fun m => by simp
  rw [h]
  simp
def EndRel (w : World) (n : Nat) (c : Value) (wr : World) : Prop :=
  ∃ k : Nat, k ≤ 8 ∧ c = .int .i64 k ∧ OwnB 5 wr (.slice (some ⟨w.heap.size, 0, none⟩) (padN n) (padN n)) (endK n k) [] ∧ Frm [] w wr
set_option maxHeartbeats 1000000 in
theorem ending_any (n : Nat) (w : World) (hn : n ≤ 1000000000) :
    Calls Tryd.prog 47 #[.int .i64 n] w fun r w' => r = .returned (.slice (some ⟨w.heap.size, 0, none⟩) (padN n) (padN n)) ∧ OwnB 5 w' (.slice (some ⟨w.heap.size, 0, none⟩) (padN n) (padN n)) (endK n 8) [] ∧ Frm [] w w' := by
  have hn9 : (n : Int) ≤ 1000000000 := by omega
  obtain ⟨p1, p2⟩ := padN_ge n
  have hp : (((n : Int) + 8) / 64 + 1) * 64 - (n : Int) = (padN n : Int) := by unfold padN; omega
  have hp9 : (9 : Int) ≤ (padN n : Int) := by omega
  have hp72 : (padN n : Int) ≤ 72 := by omega
  have HP := Lib.hid hp
  clear hp
  go_enter Tryd.func47, Tryd.ntmps47
  go_wp2_with (at_make; refine wpList_make_bytes BT (padN n) (by omega) rfl (.tmp 14) (.tmp 14) rfl rfl rfl (by exact HP.out) (by exact HP.out) ?_; intro w1 o1 f1; have c0 := o1.cell 0 (by simp; omega); have z0 := o1.frozen 0; unfold bv at c0)
  have o2 : OwnB 5 (w1.setCell ⟨w.heap.size, 0, none⟩ (.int .u8 128)) (.slice (some ⟨w.heap.size, 0, none⟩) (padN n) (padN n)) (endK n 0) [] := by
    have := o1.store 0 (by simp; omega) 128 (u := .int .u8 128) rfl
    rwa [show (List.replicate (padN n) (0 : UInt8)).set 0 128 = endK n 0 from by
      rw [show padN n = (padN n - 1) + 1 by omega, List.replicate_succ, List.set_cons_zero]
      simp [endK]] at this
  have f2 : Frm [] w (w1.setCell ⟨w.heap.size, 0, none⟩ (.int .u8 128)) := f1.setCell _ _ (.inr (by simp))
  go_loopw [21] (EndRel w n) (fun c _ => 8 - (intOf c).toNat)
  case atStart => exact ⟨0, by omega, rfl, o2, f2⟩
  case round =>
    obtain ⟨k, hk, rfl, o3, f3⟩ := hrel
    clear o2 f2 o1 f1 c0 z0
    by_cases hlt : k < 8
    · have hc := o3.cell (padN n - 1 - k) (by rw [endK_length]; simp; omega)
      have hf := o3.frozen (padN n - 1 - k)
      unfold bv at hc
      have e1 : ((padN n : Int) - 1 - (k : Int)) = ((padN n - 1 - k : Nat) : Int) := by omega
      have e2 : ((padN n : Int) - 1 - (k : Int)).toNat = padN n - 1 - k := by omega
      have hs := o3.store (padN n - 1 - k) (by rw [endK_length]; omega) (cntB n k) (u := .int .u8 ((n : Int) * 8 / 2 ^ (8 * k) % 256)) (by
        simp only [bv, cntB, UInt8.toNat_ofNat']
        exact congrArg (Value.int IntKind.u8) (cnt_val n k))
      have HS := Lib.hid hs
      have O3 := Lib.hid o3
      have F3 := Lib.hid f3
      clear hs o3 f3
      generalize (endK n k ++ [])[padN n - 1 - k]! = y0 at hc
      go_wp2
      exact ⟨⟨k + 1, by omega, by go_num, HS.out, F3.out.setCell _ _ (.inr (Nat.le_refl _))⟩, by simp [intOf]; omega⟩
    · obtain rfl : k = 8 := by omega
      go_wp2
      go_ret
      exact ⟨rfl, o3, f3⟩
end Go.Proofs.YtopjbiccipgnjaaDoor
