/-
  The law's helpers. No conditions but those that each theorem names.
-/
import Derived.Test.YtdebnikolhhmgaaDoorBN
namespace Go.Proofs.YtdebnikolhhmgaaDoor
open Go.RowKit
set_option linter.unusedVariables false
set_option linter.unusedSimpArgs false
set_option maxRecDepth 100000

open Kr (OwnE SlE Enco RowTys)
theorem code_ne (k : Nat) : code k ≠ 0 := by unfold code; split <;> decide
theorem Same_any (v x : Value) (l sp m msp : List UInt8) (w : World) (h1 : SlB w v l sp) (h2 : SlB w x m msp) :
    Calls Tryd.prog 36 #[v, x] w fun r w' => r = .returned (.bool (l == m)) ∧ w' = w := by
  obtain ⟨a, cap, rfl, _, _⟩ := h1.form
  obtain ⟨a2, cap2, rfl, _, _⟩ := h2.form
  have e1 := convert_bytes BT h1 Tryd.underlying9
  have e2 := convert_bytes BT h2 Tryd.underlying9
  go_enter Tryd.func36, Tryd.ntmps36
  go_wp2
  go_ret
  exact ⟨rfl, rfl⟩
def ofL (b : UInt8) : List UInt8 := List.replicate 256 b
def OfRel (b : UInt8) (g : Nat) (w : World) (cv : Value) (wr : World) : Prop :=
  ∃ k : Nat, k ≤ 256 ∧ cv = .int .i64 k ∧ OwnB 5 wr (.slice (some ⟨g, 0, none⟩) 256 256) (List.replicate k b ++ List.replicate (256 - k) 0) [] ∧ Frm [] w wr
def OfP (b : UInt8) (w : World) (e : Ending) (w' : World) : Prop := ∃ g, e = .returned (.slice (some ⟨g, 0, none⟩) 256 256) ∧ OwnB 5 w' (.slice (some ⟨g, 0, none⟩) 256 256) (ofL b) [] ∧ w.heap.size ≤ g ∧ Frm [] w w'
set_option maxHeartbeats 4000000 in
theorem of_any (b : UInt8) (w : World) : Calls Tryd.prog 29 #[.int .u8 (b.toNat : Int)] w (OfP b w) := by
  have HB := Lib.hid (show bv b = .int .u8 (b.toNat : Int) from rfl)
  generalize (b.toNat : Int) = x at *
  go_enter Tryd.func29, Tryd.ntmps29
  go_upto_region 3 with (at_make; refine wpList_make_bytes BT 256 (by omega) rfl (.const (.int .i64 256)) (.const (.int .i64 256)) rfl rfl rfl rfl rfl ?_; intro w1 o1 f1)
  have O1 := Lib.hid o1
  have F1 := Lib.hid f1
  clear o1 f1
  go_loopw [4] (OfRel b w.heap.size w) (fun c _ => 256 - (intOf c).toNat)
  case atStart => exact ⟨0, by omega, rfl, by simpa using O1.out, F1.out⟩
  case round =>
    obtain ⟨k, hk, rfl, hO, hF⟩ := hrel
    have HO := Lib.hid hO
    have HF := Lib.hid hF
    by_cases hlt : k < 256
    · have hlt9 : (k : Int) < 256 := by omega
      have ck := hO.cell k (by simp; omega)
      have zk := hO.frozen k
      clear hO hF
      go_wp2_with fail
      go_roundw
      case rel =>
        have hs : (List.replicate k b ++ List.replicate (256 - k) (0 : UInt8)).set k b = List.replicate (k + 1) b ++ List.replicate (256 - (k + 1)) 0 := by
          rw [List.set_append_right _ _ (by simp), List.length_replicate, Nat.sub_self, show 256 - k = (256 - (k + 1)) + 1 by omega, List.replicate_succ (n := 256 - (k + 1)), List.set_cons_zero, List.replicate_succ', List.append_assoc]
          rfl
        have o := HO.out.store k (by simp; omega) b HB.out.symm
        rw [hs] at o
        exact ⟨k + 1, by omega, by go_num, o, HF.out.trans ((Frm.refl [w.heap.size] wr).setCell _ _ (.inl (by simp))) (fun i hi => .inr (by simp at hi; omega))⟩
      case measure => simp [intOf]; omega
    · obtain rfl : k = 256 := by omega
      clear hO hF
      go_wp2_with fail
      go_ret
      exact ⟨_, rfl, by simpa [ofL] using HO.out, Nat.le_refl _, HF.out⟩
end Go.Proofs.YtdebnikolhhmgaaDoor

