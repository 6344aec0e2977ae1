/-
  Contracts of SameBytes, bytes.Equal, LentBytes, OverBytes, KeptBytes. No conditions but those that each theorem names.
-/
import Derived.Test.YtjjcjocomanohaaPJ
namespace Go.Proofs.Ytjjcjocomanohaa
open Go.RowKit
set_option linter.unusedVariables false
set_option linter.unusedSimpArgs false

theorem SameBytes_any (v x : Value) (l sp m msp : List UInt8) (w : World) (h1 : SlB w v l sp) (h2 : SlB w x m msp) :
    Calls Try.prog 17 #[v, x] w fun r w' => r = .returned (.bool (l == m)) ∧ w' = w := by
  obtain ⟨a, cap, rfl, _, _⟩ := h1.form
  obtain ⟨a2, cap2, rfl, _, _⟩ := h2.form
  have e1 := convert_bytes BT h1 Try.underlying9
  have e2 := convert_bytes BT h2 Try.underlying9
  go_enter Try.func17, Try.ntmps17
  go_wp2
  go_ret
  exact ⟨rfl, rfl⟩
/-- The marks behind what is lent. -/
def marks (n : Nat) : Nat → List UInt8
  | 0 => []
  | k + 1 => UInt8.ofNat (160 + n % 90) :: marks (n + 1) k
theorem marks_length (n k : Nat) : (marks n k).length = k := by induction k generalizing n <;> simp [marks, *]
theorem marks_snoc (n k : Nat) : marks n (k + 1) = marks n k ++ [UInt8.ofNat (160 + (n + k) % 90)] := by
  induction k generalizing n with
  | zero => rfl
  | succ k ih => rw [marks, ih, marks, show n + 1 + k = n + (k + 1) by omega]; rfl
def LentRel (w : World) (l : List UInt8) (c : Value) (wr : World) : Prop :=
  ∃ k : Nat, k ≤ 3 ∧ c = .int .i64 ((l.length + k : Nat) : Int) ∧ OwnB 5 wr (.slice (some ⟨w.heap.size, 0, none⟩) (l.length + 3) (l.length + 3)) (l ++ marks l.length k ++ List.replicate (3 - k) 0) [] ∧ Frm [] w wr
set_option maxHeartbeats 1000000 in
theorem Lent_any (v : Value) (l sp : List UInt8) (w : World) (hS : SlB w v l sp) (hl : l.length ≤ 1000000) :
    Calls Try.prog 28 #[v] w fun r w' => r = .returned (.slice (some ⟨w.heap.size, 0, none⟩) l.length (l.length + 3)) ∧
      OwnB 5 w' (.slice (some ⟨w.heap.size, 0, none⟩) l.length (l.length + 3)) l (marks l.length 3) ∧ Frm [] w w' := by
  obtain ⟨a, cap, rfl, hc1, hc2⟩ := hS.form
  have hsrc : ∀ wx, Frm [] w wx → Src Try.prog 1 29 (.slice a l.length cap) l.length (bvs l) wx := fun wx fx => Sl.src Try.underlying29 (hS.keep fx (by simp)) (bvs_one l)
  have Hsrc := Lib.hid hsrc
  clear hsrc
  go_enter Try.func28, Try.ntmps28
  go_wp2_with (first | (at_make; refine wpList_make_bytes BT (l.length + 3) (by omega) rfl (.tmp 7) (.tmp 7) rfl rfl rfl rfl rfl ?_; intro w1 o1 f1) | ((with_reducible (show wpList _ _ _ (Oper.mk _ (Op.call (Call.mk (Callee.builtin Builtin.copy) _ _)) _ _ _ _ :: _) _ _)); (refine wpList_copy_bytes BT o1 0 (Hsrc.out _ f1) (by simp <;> omega) (by omega) (fun _ => rfl) rfl (.tmp 9) (.tmp 10) rfl rfl rfl ?_); intro w2 o2 f2))
  go_loopw [4] (LentRel w l) (fun c _ => l.length + 3 - (intOf c).toNat)
  case atStart =>
    refine ⟨0, by omega, rfl, ?_, f1.trans f2 (by simp)⟩
    simpa [marks] using o2
  case round =>
    obtain ⟨k, hk, rfl, o3, f3⟩ := hrel
    by_cases hlt : k < 3
    · have hc := o3.cell (l.length + k) (by simp [marks_length]; omega)
      have hf := o3.frozen (l.length + k)
      unfold bv at hc
      go_wp2
      refine ⟨⟨k + 1, by omega, by go_num, ?_, f3.setCell _ _ (.inr (Nat.le_refl _))⟩, by simp [intOf]; omega⟩
      have h4 := o3.store (l.length + k) (by simp [marks_length]; omega) (UInt8.ofNat (160 + (l.length + k) % 90)) (u := .int .u8 (160 + ((l.length : Int) + k) % 90)) (by simp [bv]; omega)
      rw [show 3 - k = (3 - (k + 1)) + 1 by omega, List.set_append_right _ _ (by simp [marks_length]), show l.length + k - (l ++ marks l.length k).length = 0 by simp [marks_length], List.replicate_succ, List.set_cons_zero] at h4
      rw [marks_snoc]
      simpa using h4
    · obtain rfl : k = 3 := by omega
      go_wp2
      go_ret
      refine ⟨rfl, ?_, f3⟩
      refine OwnB.of_heap ?_ rfl (by simp [marks_length]) (by simp [maxLen]; omega)
      have := o3.heap
      simpa using this
def OverRel (w : World) (g cap : Nat) (c : Value) (wr : World) : Prop :=
  ∃ k : Nat, ∃ L : List UInt8, k ≤ cap ∧ c = .int .i64 k ∧ L.length = cap ∧ OwnB 5 wr (.slice (some ⟨g, 0, none⟩) cap cap) L [] ∧ Frm [g] w wr
set_option maxHeartbeats 1000000 in
theorem Over_all (v : Value) (l sp : List UInt8) (w : World) (hO : OwnB 5 w v l sp) :
    Calls Try.prog 22 #[v] w fun r w' => r = .returned (.tuple #[]) ∧ Frm (blk v) w w' := by
  have hO' := hO
  obtain ⟨h1, ⟨rfl, h2, h3⟩ | ⟨g, cap, rfl, h3, h4, h5, h6⟩⟩ := hO'
  · go_enter Try.func22, Try.ntmps22
    go_wp2
    go_loop [3] (fun c => c = .int .i64 0) (fun _ => 0)
    case atStart => rfl
    case round =>
      subst hrel
      go_wp2
      go_end0
      exact ⟨rfl, Frm.refl _ _⟩
  · obtain ⟨k1, k2, k3⟩ := hO.caps
    have o1 : OwnB 5 w (.slice (some ⟨g, 0, none⟩) cap cap) (l ++ sp) [] := OwnB.of_heap (by simpa using hO.heap) (by simp; omega) (by simp; omega) h4
    have hcap : (cap : Int) ≤ 9223372036854775807 := by simp [maxLen] at h4; omega
    have hlen : (l ++ sp).length = cap := by simp; omega
    have HL := Lib.hid hlen
    clear hO h1 h5 h6 k1 k2 k3 hlen
    go_enter Try.func22, Try.ntmps22
    go_wp2
    go_loopw [3] (OverRel w g cap) (fun c _ => cap - (intOf c).toNat)
    case atStart => exact ⟨0, _, Nat.zero_le _, rfl, HL.out, o1, Frm.refl _ _⟩
    case round =>
      obtain ⟨k, L, hk, rfl, hL, o2, f2⟩ := hrel
      have HL2 := Lib.hid hL
      by_cases hlt : k < cap
      · have hc := o2.cell k (by simp; omega)
        have hf := o2.frozen k
        unfold bv at hc
        generalize (L ++ [])[k]! = x at hc
        clear hL
        have hx := Go.bounds_u8 (Go.wf_bits .xor .u8 x.toNat 90)
        have HX := Lib.hid hx
        clear hx
        go_wp2
        refine ⟨⟨k + 1, _, by omega, by go_num, ?_, o2.store k (by rw [HL2.out]; exact hlt) (UInt8.ofNat (bits .xor .u8 x.toNat 90).toNat) ?_, f2.setCell _ _ (by simp)⟩, by simp [intOf]; omega⟩
        · rw [List.length_set, HL2.out]
        · have := HX.out; simp only [bv, UInt8.toNat_ofNat']; congr 1; omega
      · obtain rfl : k = cap := by omega
        clear hL
        go_wp2
        go_end0
        exact ⟨rfl, f2⟩
theorem OwnB.whole {T : TypeId} {w : World} {g n cap : Nat} {l sp : List UInt8} (h : OwnB T w (.slice (some ⟨g, 0, none⟩) n cap) l sp) : OwnB T w (.slice (some ⟨g, 0, none⟩) cap cap) (l ++ sp) [] := by
  obtain ⟨k1, k2, k3⟩ := h.caps
  exact OwnB.of_heap (by simpa using h.heap) (by simp; omega) (by simp; omega) k3
set_option maxHeartbeats 1000000 in
theorem Kept_true (g n cap : Nat) (x : Value) (l msp : List UInt8) (w : World) (hO : OwnB 5 w (.slice (some ⟨g, 0, none⟩) n cap) l (marks l.length 3)) (hS : SlB w x l msp) (hl : l.length ≤ 1000000) :
    Calls Try.prog 31 #[.slice (some ⟨g, 0, none⟩) n cap, x] w fun r w' => r = .returned (.bool true) ∧ Frm [] w w' := by
  obtain ⟨a, cap2, rfl, hc1, hc2⟩ := hS.form
  obtain ⟨k1, k2, k3⟩ := hO.caps
  rw [marks_length] at k2
  subst k1
  have Hw := Lib.hid hO.whole
  clear k3 hO
  have HN := Lib.hid k2
  have hg : ((l.length : Int) == (l.length : Int)) = true := by simp
  have hn0 : (0 : Int) ≤ (cap : Int) := by omega
  have hle : (cap : Int) ≤ (cap : Int) := by omega
  have hsum : IntKind.i64.wrap ((l.length : Int) + 3) = (cap : Int) := by rw [IntWalk.i64_in _ (by omega)]; omega
  clear k2
  go_enter Try.func31, Try.ntmps31
  go_wp2
  go_region_held3 (fun _ => True)
    (first | trivial | go_keep)
    (first | (go_at_call 28; refine (Lent_any _ l msp _ (hS.keep ((Frm.refl [] _).drewN _) (by simp)) hl).mono ?_; rw [← HN.out]; rintro r w1 ⟨rfl, o1, f1⟩) | (go_at_call 17; refine (SameBytes_any _ _ _ [] _ [] _ (Hw.out.keep (((Frm.refl [] _).drewN _).trans f1 (by simp)) (by simp)).sl o1.whole.sl).mono ?_; rintro r w2 ⟨rfl, rfl⟩))
  go_wp2
  go_ret
  exact ⟨by simp, ((Frm.refl [] _).drewN _).trans f1 (by simp)⟩
/-- A cut of a row that can be read can be read. -/
theorem bytesEqual_any (v x : Value) (l sp m msp : List UInt8) (w : World) (h1 : SlB w v l sp) (h2 : SlB w x m msp) :
    Calls Try.prog 62 #[v, x] w fun r w' => r = .returned (.bool (l == m)) ∧ w' = w := by
  obtain ⟨a, cap, rfl, _, _⟩ := h1.form
  obtain ⟨a2, cap2, rfl, _, _⟩ := h2.form
  have e1 := convert_bytes BT h1 Try.underlying9
  have e2 := convert_bytes BT h2 Try.underlying9
  go_enter Try.func62, Try.ntmps62
  go_wp2
  go_ret
  exact ⟨rfl, rfl⟩
theorem exec_slice_lh {P : Program} {o : Oper} {a : Act} {w : World} {t : TypeId} {v u : Value} {x y : Int} (s lo hi : Operand) (hop : o.op = Op.slice t s (some lo) (some hi) none) (hs : a.eval s = v) (h1 : a.eval lo = .int .i64 x) (h2 : a.eval hi = .int .i64 y)
    (ht : P.underlying t = some (.slice (P.elem t))) (h : (Instr.slice t v (some (.int .i64 x)) (some (.int .i64 y)) none).run P w = .ok u w) : (execOp a.eval o).run P w = .ok (.value u) w := by
  simp [execOp, hop, hs, h1, h2, run_sliceAt_slice w t _ _ _ _ ht, h, Result.andThen]
end Go.Proofs.Ytjjcjocomanohaa
