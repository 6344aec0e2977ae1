/-
  Contracts of bytes.Count, bytes.Equal, and of what a label is read by. No conditions but those that each theorem names.
-/
import Derived.Test.YtcnjjcnmjmcoiaaGreatDoorLF
import Derived.Test.YtcnjjcnmjmcoiaaGreatDoorFB
import Derived.Test.YtcnjjcnmjmcoiaaGreatDoorHZ

namespace Go.Proofs.YtcnjjcnmjmcoiaaGreatDoor
open Go.RowKit
set_option linter.unusedVariables false
set_option linter.unusedSimpArgs false
set_option maxRecDepth 100000

theorem Equal_any (v x : Value) (l sp m msp : List UInt8) (w : World) (h1 : SlB w v l sp) (h2 : SlB w x m msp) :
    Calls Tryz.prog 24 #[v, x] w fun r w' => r = .returned (.bool (l == m)) ∧ w' = w := by
  obtain ⟨a, cap, rfl, _, _⟩ := h1.form
  obtain ⟨a2, cap2, rfl, _, _⟩ := h2.form
  have e1 := convert_bytes BT h1 Tryz.underlying9
  have e2 := convert_bytes BT h2 Tryz.underlying9
  go_enter Tryz.func24, Tryz.ntmps24
  go_wp2
  go_ret
  exact ⟨rfl, rfl⟩
theorem call40 {w : World} {v : Value} {l sp : List UInt8} (h1 : SlB w v l sp) : (callFunc 40 #[v, .int .u8 0]).run Tryz.prog w = .ok (.value (.int .i64 (l.count 0 : Nat))) w := by
  rw [run_callFunc_extern Tryz.func40 (by kernel_rfl) (by kernel_rfl) (by kernel_rfl) (by kernel_rfl)]
  have : (Extern.BytealgCount.count #[v, .int .u8 0]).run Tryz.prog w = .ok (.int .i64 (l.count 0 : Nat)) w := by
    change Sem.run Tryz.prog (do
      let b ← Extern.Bytes.bytesOf v
      let c' ← Extern.Bytes.asByte (.int .u8 0)
      pure (goInt (b.foldl (fun n x => if x == c' then n + 1 else n) (0 : Nat)))) w = _
    simp only [Extern.Bytes.asByte, Sem.run_bind, Sem.run_pure, Hs.run_bytesOf h1, Result.andThen]
    rw [Lib.foldl_data, Lib.count_foldl]
    simp [goInt, Lib.countByte]
  rw [this]
  rfl
theorem count_zeros (l : List UInt8) : l.count 0 = l.length ↔ l = List.replicate l.length 0 := by
  rw [List.count_eq_length, List.eq_replicate_iff]
  exact ⟨fun h => ⟨rfl, fun b hb => (h b hb).symm⟩, fun h b hb => (h.2 b hb).symm⟩
/-- bytes.Count of a nought. -/
theorem Count_any (v : Value) (g : Nat) (l sp : List UInt8) (w : World) (h1 : SlB w v l sp) (h2 : w.cell? ⟨g, 0, none⟩ = some (.int .u8 0)) :
    Calls Tryz.prog 22 #[v, .slice (some ⟨g, 0, none⟩) 1 1] w fun r w' => r = .returned (.int .i64 (l.count 0 : Nat)) ∧ w' = w := by
  have hc := call40 h1
  obtain ⟨a, cap, rfl, _, _⟩ := h1.form
  clear h1
  go_enter Tryz.func22, Tryz.ntmps22
  go_wp2
  go_ret
  exact ⟨rfl, rfl⟩
theorem raw_at {b : List UInt8} {p n : Nat} (h : p + n ≤ b.length) (fa : Int) : rRaw b (p, 0, fa) n = (seg b p n, (p + n, 0, fa)) := by
  have hr : rawRead b p n = .inr ((b.drop p).take n) := by
    unfold rawRead
    rw [if_neg (by omega), if_neg (by simp; omega)]
    simp
  unfold rRaw stepR
  simp only [if_true, hr, Int.toNat_natCast]
  rfl
theorem num_at {b : List UInt8} {p n : Nat} (h : p + n ≤ b.length) (h1 : 1 ≤ n) (h5 : n ≤ 5) (fa : Int) {hi : Int} (hh : 256 ^ n ≤ hi + 1) : rNum b (p, 0, fa) n 0 hi = ((beNat (seg b p n) : Int), (p + n, 0, fa)) := by
  have hl : (seg b p n).length = n := seg_length h
  have hb := beNat_lt (seg b p n)
  rw [hl] at hb
  have hb' : (beNat (seg b p n) : Int) < 256 ^ n := by
    have := Int.ofNat_lt.2 hb
    rw [Int.natCast_pow] at this
    exact this
  have hr : numRead b p n 0 hi = .inr (beNat (seg b p n)) := by
    unfold numRead
    rw [if_neg (by simp [isSizeB]; omega), if_neg (by simp; omega)]
    simp only [Int.toNat_natCast]
    rw [if_neg (by unfold seg at *; omega)]
    rfl
  unfold rNum stepR
  simp only [if_true, hr, Int.toNat_natCast]
  rfl
theorem num_closure (bp br : Nat) (v : Value) (l sp : List UInt8) (p n : Nat) (w : World) (hR : Rd w br v l sp p 0 0) (hp : p + n ≤ l.length) (hl : l.length ≤ 1000000) (h1 : 1 ≤ n) (h5 : n ≤ 5) (hc : w.cell? ⟨bp, 0, none⟩ = some (.pointer (some ⟨br, 0, none⟩))) :
    Calls Tryz.prog 44 #[.int .i64 n, .pointer (some ⟨bp, 0, none⟩)] w fun r w' => r = .returned (.int .i64 (beNat (seg l p n))) ∧ RdTo w br v l sp (p + n, 0, 0) w' := by
  have HR := RNumR_any br v l sp (p, 0, 0) n 0 9223372036854775807 w hR (by simp only; omega) (by omega)
  rw [num_at hp h1 h5 0 (by rcases (show n = 1 ∨ n = 2 ∨ n = 3 ∨ n = 4 ∨ n = 5 by omega) with rfl | rfl | rfl | rfl | rfl <;> decide)] at HR
  have HR1 := Lib.hid HR
  clear HR
  go_enter Tryz.func44, Tryz.ntmps44
  go_wp2_with (go_at_call 45; refine HR1.out.mono ?_; rintro r w' ⟨rfl, hw⟩)
  go_ret
  exact ⟨rfl, hw⟩
/-- Cells that stand from a place on, written over. -/
def setL (C : Array Value) : Nat → List Value → Array Value
  | _, [] => C
  | o, v :: r => setL (C.setIfInBounds o v) (o + 1) r
theorem setL_toList : ∀ (vs : List Value) (C : Array Value) (o : Nat), o + vs.length ≤ C.size → (setL C o vs).toList = C.toList.take o ++ vs ++ C.toList.drop (o + vs.length)
  | [], C, o, h => by simp [setL]
  | v :: r, C, o, h => by
    have h1 : o < C.size := by simp at h; omega
    simp only [setL]
    rw [setL_toList r (C.setIfInBounds o v) (o + 1) (by simp at h ⊢; omega)]
    simp only [Array.toList_setIfInBounds]
    have hl : o < C.toList.length := by simpa using h1
    rw [List.take_set, List.take_succ_eq_append_getElem hl, List.set_append_right _ _ (by simp; omega)]
    have : o - (C.toList.take o).length = 0 := by simp; omega
    rw [this, List.set_cons_zero, List.drop_set_of_lt (by omega), List.length_cons, show o + 1 + r.length = o + (r.length + 1) by omega]
    simp
theorem heap_setCells {w : World} {g : Nat} {t : TypeId} : ∀ (vs : List Value) (o : Nat) (w : World) (C : Array Value), w.heap[g]? = some (.cells C t (0, 0)) → (w.setCells g o vs).heap[g]? = some (.cells (setL C o vs) t (0, 0))
  | [], o, w, C, h => h
  | v :: r, o, w, C, h => heap_setCells (w := w) r (o + 1) (w.setCell ⟨g, o, none⟩ v) (C.setIfInBounds o v) (by rw [heap_setCell_same _ h])
theorem Frm.setCells {L : List Nat} {w : World} {g : Nat} : ∀ (vs : List Value) (o : Nat) (w' : World), Frm L w w' → (g ∈ L ∨ w.heap.size ≤ g) → Frm L w (w'.setCells g o vs)
  | [], o, w', f, h => f
  | v :: r, o, w', f, h => Frm.setCells r (o + 1) _ (f.setCell _ _ h) h
theorem LB.setPool {w : World} {g : Nat} {l : Lab} (h : LB w g l) (s : List UInt8) (hs : s.length = 32) : LB (w.setCells g 0 (bvs s)) g { l with pool := s } := by
  refine ⟨?_, hs⟩
  rw [heap_setCells (w := w) _ _ _ _ h.1]
  congr 2
  apply Array.ext'
  rw [setL_toList _ _ _ (by simp [lc, bvs_length, h.2, hs])]
  simp only [List.take_zero, List.nil_append, lc, bvs_length, hs, Nat.zero_add]
  rw [List.drop_append_of_le_length (by simp [bvs_length, h.2]), List.drop_eq_nil_of_le (by simp [bvs_length, h.2]), List.nil_append]
theorem LB.there {w : World} {g : Nat} {l : Lab} (h : LB w g l) : w.there g 0 32 := fun j hj => by
  refine ⟨?_, frozen_of_heap h.1 _⟩
  rw [cell_of_heap h.1]
  have : 0 + j < (lc l).toArray.size := by simp only [List.size_toArray, lc_length h.2]; omega
  rw [Array.getElem?_eq_getElem this]
  rfl
end Go.Proofs.YtcnjjcnmjmcoiaaGreatDoor
