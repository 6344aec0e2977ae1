/-
  Contracts of the document's Less, of half, of IndexByte among the letters; no conditions but those that each theorem names.
-/
import Derived.Test.YtopjbiccipgnjaaDoorHN
namespace Go.Proofs.YtopjbiccipgnjaaDoor
open Go.RowKit
set_option linter.unusedVariables false
set_option linter.unusedSimpArgs false

/-- Where two rows are alike up to k and unlike there, which is the lesser is told there. -/
theorem cmp_at : ∀ (a b : List UInt8) (k : Nat) (ha : k < a.length) (hb : k < b.length), a.take k = b.take k → a[k] ≠ b[k] → (decide (Lib.compareBytes a b < 0)) = decide (a[k].toNat < b[k].toNat)
  | x :: xs, y :: bs, 0, _, _, _, hne => by
    simp only [List.getElem_cons_zero] at hne ⊢
    rw [decide_eq_decide]
    simp only [Lib.compareBytes]
    by_cases h : x < y
    · rw [if_pos h]; have := UInt8.lt_iff_toNat_lt.1 h; omega
    · rw [if_neg h]
      have h2 : y < x := by
        have e1 : x.toNat ≠ y.toNat := fun e => hne (UInt8.toNat_inj.1 e)
        have e2 : ¬ x.toNat < y.toNat := fun e => h (UInt8.lt_iff_toNat_lt.2 e)
        exact UInt8.lt_iff_toNat_lt.2 (by omega)
      rw [if_pos h2]
      have := UInt8.lt_iff_toNat_lt.1 h2
      omega
  | x :: xs, y :: bs, k + 1, ha, hb, ht, hne => by
    simp only [List.take_succ_cons, List.cons.injEq] at ht
    obtain ⟨rfl, ht⟩ := ht
    simp only [List.getElem_cons_succ] at hne ⊢
    have := cmp_at xs bs k (by simpa using ha) (by simpa using hb) ht hne
    rw [decide_eq_decide] at this ⊢
    simp only [Lib.compareBytes]
    rw [if_neg (by simp), if_neg (by simp)]
    exact this
  | [], _, _, ha, _, _, _ => by simp at ha
  | _ :: _, [], _, _, hb, _, _ => by simp at hb
theorem take_more {a b : List UInt8} {k : Nat} (ha : k < a.length) (hb : k < b.length) (h : a.take k = b.take k) (he : a[k] = b[k]) : a.take (k + 1) = b.take (k + 1) := by
  rw [List.take_succ_eq_append_getElem ha, List.take_succ_eq_append_getElem hb, h, he]
set_option maxHeartbeats 1000000 in
theorem RefLess_any (a b : List UInt8) (ha : a.length = 32) (hb : b.length = 32) (w : World) : Calls Tryd.prog 26 #[.agg (bvs a).toArray, .agg (bvs b).toArray] w fun r w' => r = .returned (.bool (decide (Lib.compareBytes a b < 0))) ∧ Frm [] w w' := by
  have hA : ((w.alloc (.cells (bvs a).toArray 29)).alloc (.cells (bvs b).toArray 29)).heap[w.heap.size]? = some (.cells (bvs a).toArray 29 (0, 0)) := heap_alloc_lt (heap_alloc_new _ _)
  have hB : ((w.alloc (.cells (bvs a).toArray 29)).alloc (.cells (bvs b).toArray 29)).heap[w.heap.size + 1]? = some (.cells (bvs b).toArray 29 (0, 0)) := heap_alloc_at (by simp)
  have hF : Frm [] w ((w.alloc (.cells (bvs a).toArray 29)).alloc (.cells (bvs b).toArray 29)) := ((Frm.refl _ _).alloc _).alloc _
  have HA := Lib.hid (show IsB _ _ _ _ from hA)
  have HB := Lib.hid (show IsB _ _ _ _ from hB)
  have HF := Lib.hid hF
  have HLA := Lib.hid ha
  have HLB := Lib.hid hb
  clear hA hB hF ha hb
  go_enter Tryd.func26, Tryd.ntmps26
  go_wp2_with fail
  generalize ((w.alloc (.cells (bvs a).toArray 29)).alloc (.cells (bvs b).toArray 29)) = W at *
  go_loopw [5] (fun c wr => ∃ k : Nat, k ≤ 32 ∧ c = .int .i64 k ∧ a.take k = b.take k ∧ Frm [] W wr) (fun c _ => 32 - (intOf c).toNat)
  case atStart => exact ⟨0, by omega, rfl, rfl, Frm.refl _ _⟩
  case round =>
    obtain ⟨k, hk, rfl, hkk, f⟩ := hrel
    have HKK := Lib.hid hkk
    have FF := Lib.hid f
    clear hkk f
    by_cases hlt : k < 32
    · have hla : k < a.length := by rw [HLA.out]; exact hlt
      have hlb : k < b.length := by rw [HLB.out]; exact hlt
      have c1 := (HA.out.keepF FF.out).cell k hla
      have c2 := (HB.out.keepF FF.out).cell k hlb
      have hcmp := cmp_at a b k hla hlb HKK.out
      have htk : a[k] = b[k] → a.take (k + 1) = b.take (k + 1) := take_more hla hlb HKK.out
      generalize a[k] = x at *
      generalize b[k] = y at *
      have HC := Lib.hid hcmp
      have HT := Lib.hid htk
      clear hcmp htk hla hlb
      by_cases hxy : x = y
      · subst hxy
        have hne : (((x.toNat : Int)) != (x.toNat : Int)) = false := by simp
        go_wp2_with fail
        go_quiet (fail)
        go_wp2_with fail
        have ht := HT.out (by trivial)
        exact ⟨⟨k + 1, by omega, by go_num, ht, FF.out.drewN _⟩, by simp [intOf]; omega⟩
      · have hne : (((x.toNat : Int)) != (y.toNat : Int)) = true := by
          have : x.toNat ≠ y.toNat := fun e => hxy (UInt8.toNat_inj.1 e)
          simp; omega
        have hres := HC.out hxy
        have HR := Lib.hid hres
        clear hres
        go_wp2_with fail
        go_quiet (fail)
        go_wp2_with fail
        go_quiet (fail)
        go_wp2_with fail
        go_ret
        exact ⟨by rw [HR.out]; rfl, HF.out.trans ((FF.out.drewN _).drewN _) (by simp)⟩
    · obtain rfl : k = 32 := by omega
      have hab : a = b := by
        have := HKK.out
        rwa [List.take_of_length_le (by rw [HLA.out]; omega), List.take_of_length_le (by rw [HLB.out]; omega)] at this
      subst hab
      go_wp2_with fail
      go_ret
      exact ⟨by rw [compareBytes_self]; rfl, HF.out.trans FF.out (by simp)⟩
/-- The letters. -/
def lets : List UInt8 := [48, 49, 50, 51, 52, 53, 54, 55, 56, 57, 97, 98, 99, 100, 101, 102]
abbrev lit : ByteArray := ⟨#[48, 49, 50, 51, 52, 53, 54, 55, 56, 57, 97, 98, 99, 100, 101, 102]⟩
/-- A letter's number, or -1. -/
def hv (c : UInt8) : Int := firstIdx lit c
def lt (i : Nat) : UInt8 := lets.getD i 0
theorem lit_get : ∀ i : Fin 16, lit[i.val]! = lt i.val := by decide
theorem lit_size : lit.size = 16 := rfl
theorem hv_at (c : UInt8) (k : Nat) (hk : k < 16) (hne : ∀ j, j < k → lt j ≠ c) (he : lt k = c) : hv c = k := by
  unfold hv firstIdx
  have : (List.range lit.size).find? (fun i => lit[i]! == c) = some k := by
    rw [List.find?_range_eq_some]
    refine ⟨?_, by rw [List.mem_range]; exact hk, fun j hj => ?_⟩
    · rw [lit_get ⟨k, hk⟩]; simpa using he
    · rw [lit_get ⟨j, by omega⟩]; simpa using hne j hj
  rw [this]
theorem hv_no (c : UInt8) (hne : ∀ j, j < 16 → lt j ≠ c) : hv c = -1 := by
  unfold hv firstIdx
  have : (List.range lit.size).find? (fun i => lit[i]! == c) = none := by
    rw [List.find?_range_eq_none]
    intro j hj
    rw [lit_get ⟨j, hj⟩]; simpa using hne j hj
  rw [this]
theorem hv_cases (c : UInt8) : (∃ k, k < 16 ∧ hv c = (k : Nat)) ∨ hv c = -1 := by
  unfold hv firstIdx
  cases h : (List.range lit.size).find? (fun i => lit[i]! == c) with
  | none => exact .inr rfl
  | some k => exact .inl ⟨k, by have := List.mem_of_find?_eq_some h; rw [List.mem_range] at this; exact this, rfl⟩
theorem index_lit (k : Nat) (hk : k < 16) (W : World) : (Instr.index 9 (.string lit) (.int .i64 (k : Int))).run Tryd.prog W = .ok (.int .u8 (lt k).toNat) W := by
  have hl : k < lit.size := hk
  have hg : lit[k]? = some (lt k) := by
    rw [getElem?_pos lit k hl, ← lit_get ⟨k, hk⟩, getElem!_pos lit k hl]
  simp [Instr.index, run_underlying Tryd.underlying9, asIntOf, hg, go_sem]
set_option maxHeartbeats 1000000 in
theorem half_any (c : UInt8) (w : World) : Calls Tryd.prog 43 #[.int .u8 c.toNat] w fun r w' => r = .returned (.int .i64 (hv c)) ∧ w' = w := by
  go_enter Tryd.func43, Tryd.ntmps43
  go_wp2_with fail
  go_loop [3] (fun i => ∃ k : Nat, k ≤ 16 ∧ i = .int .i64 k ∧ ∀ j, j < k → lt j ≠ c) (fun i => 16 - (intOf i).toNat)
  case atStart => exact ⟨0, by omega, rfl, fun j h => by omega⟩
  case round =>
    obtain ⟨k, hk, rfl, hn⟩ := hrel
    have HN := Lib.hid hn
    clear hn
    by_cases hlt : k < 16
    · have hi := index_lit k hlt
      obtain ⟨x, hx⟩ : ∃ x, lt k = x := ⟨_, rfl⟩
      rw [hx] at hi
      have HX := Lib.hid hx
      clear hx
      by_cases hxc : x = c
      · subst hxc
        have he : (((x.toNat : Int)) == (x.toNat : Int)) = true := by simp
        go_wp2_with fail
        go_ret
        exact ⟨by rw [hv_at x k hlt HN.out HX.out]; rfl, rfl⟩
      · have he : (((x.toNat : Int)) == (c.toNat : Int)) = false := by
          have : x.toNat ≠ c.toNat := fun e => hxc (UInt8.toNat_inj.1 e)
          simp; omega
        go_wp2_with fail
        go_round
        case rel => exact ⟨k + 1, by omega, by go_num, fun j hj => by
          by_cases h : j = k
          · subst h; rw [HX.out]; exact hxc
          · exact HN.out j (by omega)⟩
        case measure => simp [intOf]; omega
    · obtain rfl : k = 16 := by omega
      go_wp2_with fail
      go_ret
      exact ⟨by rw [hv_no c HN.out]; rfl, rfl⟩
theorem ibs_any (c : UInt8) (W : World) : (callFunc 55 #[.string lit, .int .u8 c.toNat]).run Tryd.prog W = .ok (.value (.int .i64 (hv c))) W := by
  rw [run_callFunc_extern Tryd.func55 (by kernel_rfl) (by kernel_rfl) (by kernel_rfl) (by kernel_rfl), run_indexByte_string]
  simp [hv, Result.andThen]
theorem IB_any (c : UInt8) (W : World) : Calls Tryd.prog 42 #[.string lit, .int .u8 c.toNat] W fun r w' => r = .returned (.int .i64 (hv c)) ∧ w' = W := by
  have h := fun W => ibs_any c W
  generalize hv c = n at *
  go_enter Tryd.func42, Tryd.ntmps42
  go_wp2
  go_ret
  exact ⟨rfl, rfl⟩
end Go.Proofs.YtopjbiccipgnjaaDoor
