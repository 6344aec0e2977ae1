/-
  Contracts of a number and of a text as bytes of fixed room; no conditions but those that each theorem names.
-/
import Derived.Test.YtappmjophnhdaaaA
namespace Go.Proofs.Ytappmjophnhdaaa
open Go.RowKit
set_option linter.unusedVariables false
set_option linter.unusedSimpArgs false

/-- The k lowest bytes of a number, the highest first. -/
def beBytes (n : Nat) : Nat → List UInt8
  | 0 => []
  | k + 1 => UInt8.ofNat (n / 2 ^ (8 * k)) :: beBytes n k
theorem beBytes_length (n k : Nat) : (beBytes n k).length = k := by induction k <;> simp [beBytes, *]
theorem zeros_set (m : Nat) (L : List UInt8) (x : UInt8) : (List.replicate (m + 1) 0 ++ L).set m x = List.replicate m 0 ++ x :: L := by
  rw [List.replicate_succ', List.append_assoc, List.set_append_right _ _ (by simp)]
  simp
def NabRel (w : World) (n size : Nat) (c : Value) (wr : World) : Prop :=
  ∃ k : Nat, k ≤ size ∧ c = .int .i64 k ∧ OwnB 5 wr (.slice (some ⟨w.heap.size, 0, none⟩) size size) (List.replicate (size - k) 0 ++ beBytes n k) [] ∧ Frm [] w wr
set_option maxHeartbeats 400000 in
theorem nab_any (n : Nat) (size : Nat) (w : World) (h1 : 1 ≤ size) (h7 : size ≤ 7) (hn : n < 2 ^ (8 * size)) :
    Calls Try.prog 70 #[.int .i64 n, .int .i64 size] w fun r w' => r = .returned (.slice (some ⟨w.heap.size, 0, none⟩) size size) ∧
      OwnB 5 w' (.slice (some ⟨w.heap.size, 0, none⟩) size size) (beBytes n size) [] ∧ Frm [] w w' := by
  go_enter Try.func70, Try.ntmps70
  go_wp2_with (at_make; refine wpList_make_bytes BT size (by omega) rfl (.tmp 7) (.tmp 7) rfl rfl rfl rfl rfl ?_; intro w1 o1 f1)
  go_loopw [11] (NabRel w n size) (fun c _ => size - (intOf c).toNat)
  case atStart => exact ⟨0, by omega, rfl, by simpa [beBytes] using o1, f1⟩
  case round =>
    obtain ⟨k, hk, rfl, o2, f2⟩ := hrel
    by_cases hlt : k < size
    · have hc := o2.cell (size - 1 - k) (by simp [beBytes_length]; omega)
      have hf := o2.frozen (size - 1 - k)
      unfold bv at hc
      go_wp2
      refine ⟨⟨k + 1, by omega, by go_num, ?_, f2.setCell _ _ (.inr (Nat.le_refl _))⟩, by simp [intOf]; omega⟩
      have := o2.store (size - 1 - k) (by simp [beBytes_length]; omega) (UInt8.ofNat (n / 2 ^ (8 * k))) rfl
      rw [show size - k = (size - 1 - k) + 1 by omega, zeros_set] at this
      rw [show size - (k + 1) = size - 1 - k by omega]
      simpa [beBytes, bv] using this
    · obtain rfl : k = size := by omega
      go_wp2
      go_ret
      exact ⟨rfl, by simpa using o2, f2⟩

def textBytes (s : List UInt8) (most : Nat) : List UInt8 := UInt8.ofNat s.length :: (s ++ List.replicate (most - s.length) 0)
theorem textBytes_length (s : List UInt8) (most : Nat) (h : s.length ≤ most) : (textBytes s most).length = 1 + most := by simp [textBytes]; omega
set_option maxHeartbeats 400000 in
theorem tab_any (s : ByteArray) (most : Nat) (w : World) (h1 : s.data.toList.length ≤ most) (h7 : most ≤ 255) :
    Calls Try.prog 72 #[.string s, .int .i64 most] w fun r w' => r = .returned (.slice (some ⟨w.heap.size, 0, none⟩) (1 + most) (1 + most)) ∧
      OwnB 5 w' (.slice (some ⟨w.heap.size, 0, none⟩) (1 + most) (1 + most)) (textBytes s.data.toList most) [] ∧ Frm [] w w' := by
  have hsz : s.size = s.data.toList.length := rfl
  have hs2 : s.size ≤ most := h1
  have hu8 : Value.int .u8 (s.size : Int) = bv (UInt8.ofNat s.data.toList.length) := by
    rw [← hsz]; simp [bv]; omega
  have hfin : ∀ x, List.take 1 ((List.replicate (1 + most) (0 : UInt8)).set 0 x) ++ s.data.toList ++ List.drop (1 + s.data.toList.length) ((List.replicate (1 + most) 0).set 0 x) = x :: (s.data.toList ++ List.replicate (most - s.data.toList.length) 0) := by
    intro x
    rw [show 1 + most = most + 1 by omega, List.replicate_succ]
    simp [Nat.add_comm 1]
  have Hu := Lib.hid hu8
  have Hs := Lib.hid hsz
  have Hf := Lib.hid hfin
  clear hsz hu8 hfin
  rcases Nat.eq_zero_or_pos most with h0 | h0
  · subst h0
    go_enter Try.func72, Try.ntmps72
    go_wp2_with (first | (at_make; refine wpList_make_bytes BT (1 + 0) (by omega) rfl (.tmp 7) (.tmp 7) rfl rfl rfl (by omega) (by omega) ?_; intro w1 o1 f1; have c0 := o1.cell 0 (by simp); have z0 := o1.frozen 0; unfold bv at c0) | ((with_reducible (show wpList _ _ _ (Oper.mk _ (Op.call (Call.mk (Callee.builtin Builtin.copy) _ _)) _ _ _ _ :: _) _ _)); (refine wpList_copy_bytes BT (o1.store 0 (by simp) _ Hu.out) 1 (src_string Try.underlying9 s _) (by simp <;> omega) (by omega) (by omega) rfl (.tmp 15) (.tmp 16) rfl rfl rfl ?_); intro w2 o2 f2))
    go_ret
    refine ⟨rfl, ?_, (f1.setCell ⟨w.heap.size, 0, none⟩ _ (.inr (Nat.le_refl _))).trans f2 (by simp)⟩
    have := o2
    rw [Hf.out] at this
    simpa [textBytes] using this
  · go_enter Try.func72, Try.ntmps72
    go_wp2_with (first | (at_make; refine wpList_make_bytes BT (1 + most) (by omega) rfl (.tmp 7) (.tmp 7) rfl rfl rfl (by omega) (by omega) ?_; intro w1 o1 f1; have c0 := o1.cell 0 (by simp; omega); have z0 := o1.frozen 0; unfold bv at c0) | ((with_reducible (show wpList _ _ _ (Oper.mk _ (Op.call (Call.mk (Callee.builtin Builtin.copy) _ _)) _ _ _ _ :: _) _ _)); (refine wpList_copy_bytes BT (o1.store 0 (by simp; omega) _ Hu.out) 1 (src_string Try.underlying9 s _) (by simp <;> omega) (by omega) (fun _ => rfl) rfl (.tmp 15) (.tmp 16) rfl rfl rfl ?_); intro w2 o2 f2))
    go_ret
    refine ⟨rfl, ?_, (f1.setCell ⟨w.heap.size, 0, none⟩ _ (.inr (Nat.le_refl _))).trans f2 (by simp)⟩
    have := o2
    rw [Hf.out] at this
    simpa [textBytes] using this
end Go.Proofs.Ytappmjophnhdaaa
