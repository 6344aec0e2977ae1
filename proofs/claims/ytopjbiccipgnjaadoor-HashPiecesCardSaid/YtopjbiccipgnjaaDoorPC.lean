/-
  Plain facts of pieces; no conditions but those that each theorem names.
-/
import Derived.Test.YtopjbiccipgnjaaDoorSB
namespace Go.Proofs.YtopjbiccipgnjaaDoor
set_option linter.unusedVariables false
set_option linter.unusedSimpArgs false

/-- The pieces, joined again. -/
def joinK (L : List UInt8) (k : Nat) : List UInt8 := ((List.range k).map (pieceL L)).flatten
theorem joinK_snoc (L : List UInt8) (k : Nat) : joinK L (k + 1) = joinK L k ++ pieceL L k := by simp [joinK, List.range_succ]
theorem joinK_take (L : List UInt8) : ∀ k, 64 * k ≤ L.length → joinK L k = L.take (64 * k)
  | 0, _ => by simp [joinK]
  | k + 1, h => by
    rw [joinK_snoc, joinK_take L k (by omega), pieceL, show 64 * (k + 1) = 64 * k + 64 by omega, List.take_add]
theorem joinK_all (L : List UInt8) (M : Nat) (h : L.length = 64 * M) : joinK L M = L := by
  rw [joinK_take L M (by omega), List.take_of_length_le (by omega)]
theorem pieceL_take (L : List UInt8) (n j : Nat) (h : 64 * j + 64 ≤ n) : pieceL (L.take n) j = pieceL L j := by
  unfold pieceL
  rw [List.drop_take, List.take_take, show min 64 (n - 64 * j) = 64 by omega]
theorem pieceL_append (l m : List UInt8) (j : Nat) (h : 64 * j + 64 ≤ l.length) : pieceL (l ++ m) j = pieceL l j := by
  unfold pieceL
  rw [List.drop_append_of_le_length (by omega), List.take_append_of_le_length (by simp; omega)]
theorem foldl_same {α β : Type} (f : α → List UInt8 → α) (p q : β → List UInt8) : ∀ (js : List β) (s : α), (∀ j ∈ js, p j = q j) → js.foldl (fun s j => f s (p j)) s = js.foldl (fun s j => f s (q j)) s := by
  intro js
  induction js with
  | nil => intro s _; rfl
  | cons j js ih => intro s h; simp only [List.foldl_cons]; rw [h j (by simp)]; exact ih _ (fun i hi => h i (by simp [hi]))
theorem turnsP_congr (s : S8) (L L' : List UInt8) (k : Nat) (h : ∀ j, j < k → pieceL L j = pieceL L' j) : turnsP s L (List.range k) = turnsP s L' (List.range k) :=
  foldl_same turn _ _ _ s (fun j hj => h j (by simpa using hj))
/-- The state after the first pieces of what is filled up is that of the beginning itself. -/
theorem turnsP_front (s : S8) (b : List UInt8) (k : Nat) (h : 64 * k ≤ b.length) : turnsP s (filled b) (List.range k) = turnsP s (b.take (64 * k)) (List.range k) :=
  turnsP_congr s _ _ k fun j hj => by
    rw [pieceL_take b (64 * k) j (by omega), filled_form, List.append_assoc, List.append_assoc, pieceL_append b _ j (by omega)]
/-- How long what is filled up is, against what is in it. -/
theorem filled_room (b : List UInt8) : b.length + 9 ≤ (filled b).length ∧ (filled b).length ≤ b.length + 72 := by
  have h := zs_mod b.length
  rw [filled_form]
  simp [cnts_length]
  unfold zs padN
  omega
end Go.Proofs.YtopjbiccipgnjaaDoor
