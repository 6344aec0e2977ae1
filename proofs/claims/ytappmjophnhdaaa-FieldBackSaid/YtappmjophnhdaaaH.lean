/-
  Contracts of a writer's Out and of SameBytes, LentBytes, OverBytes; no conditions but those that each theorem names.
-/
import Derived.Test.YtappmjophnhdaaaG
import Derived.OpenShut
namespace Go.Proofs.Ytappmjophnhdaaa
open Go.RowKit
set_option linter.unusedVariables false
set_option linter.unusedSimpArgs false

/-- What Out tells of bytes: nothing with an error. -/
def outB (l : List UInt8) (e : Int) : List UInt8 := if e = 0 then l else []
/-- What Out tells: the error, or a copy of the bytes. -/
def Outs (w : World) (l : List UInt8) (e : Int) (r : Ending) (w' : World) : Prop :=
  ∃ a cap sp', r = .returned (.tuple #[.slice a (outB l e).length cap, .int .i64 e]) ∧ OwnB 5 w' (.slice a (outB l e).length cap) (outB l e) sp' ∧ Frm [] w w' ∧ Fresh w (.slice a (outB l e).length cap)
set_option maxHeartbeats 1000000 in
theorem Out_any (bw : Nat) (v : Value) (l sp : List UInt8) (e : Int) (w : World) (hW : Wr w bw v l sp e) (hl : l.length ≤ 65536) :
    Calls Try.prog 15 #[.pointer (some ⟨bw, 0, none⟩)] w fun r w' => Outs w l e r w' := by
  obtain ⟨h1, h2, h3⟩ := hW
  obtain ⟨a, cap, rfl, hc1, hc2⟩ := h2.sl.form
  have c0 : w.cell? ⟨bw, 0, none⟩ = some (.pointer (some ⟨bw, 0, none⟩)) := by rw [cell_of_heap h1]; rfl
  have c1 : w.cell? ⟨bw, 1, none⟩ = some (.slice a l.length cap) := by rw [cell_of_heap h1]; rfl
  have c2 : w.cell? ⟨bw, 2, none⟩ = some (.int .i64 e) := by rw [cell_of_heap h1]; rfl
  clear h1
  by_cases he : e = 0
  · subst he
    go_enter Try.func15, Try.ntmps15
    go_wp2_with (first | (go_at_call 48; refine (made_yes bw _ c0).mono ?_; rintro r w' ⟨rfl, rfl⟩) | (go_at_call 49; refine (Clone_any _ l sp _ h2.sl (by omega)).mono ?_; rintro r w1 ⟨a', cap', sp', rfl, o1, f1, b1⟩))
    go_ret2
    exact ⟨a', cap', sp', by simp [outB], by simpa [outB] using o1, f1, by simpa [outB] using b1⟩
  · have hq : (e != 0) = true := by simpa using he
    have hE := Lib.hid he
    clear he
    go_enter Try.func15, Try.ntmps15
    go_wp2_with (first | (go_at_call 48; refine (made_yes bw _ c0).mono ?_; rintro r w' ⟨rfl, rfl⟩))
    go_quiet (fail)
    go_wp2
    go_ret2
    exact ⟨none, 0, [], by simp [outB, hE.out], by simpa [outB, hE.out] using OwnB.nil _ _, (Frm.refl _ _).drewN _, by simp [Fresh, blk]⟩
theorem Same_any (v x : Value) (l sp m msp : List UInt8) (w : World) (h1 : SlB w v l sp) (h2 : SlB w x m msp) :
    Calls Try.prog 17 #[v, x] w fun r w' => r = .returned (.bool (l == m)) ∧ w' = w := by
  obtain ⟨a, cap, rfl, _, _⟩ := h1.form
  obtain ⟨a2, cap2, rfl, _, _⟩ := h2.form
  have e1 := convert_bytes BT h1 Try.underlying9
  have e2 := convert_bytes BT h2 Try.underlying9
  go_enter Try.func17, Try.ntmps17
  go_wp2
  go_ret
  exact ⟨rfl, rfl⟩
/-- The marks behind what is lent. -/
def marks (n : Nat) : Nat → List UInt8
  | 0 => []
  | k + 1 => UInt8.ofNat (160 + n % 90) :: marks (n + 1) k
theorem marks_length (n k : Nat) : (marks n k).length = k := by induction k generalizing n <;> simp [marks, *]
theorem marks_snoc (n k : Nat) : marks n (k + 1) = marks n k ++ [UInt8.ofNat (160 + (n + k) % 90)] := by
  induction k generalizing n with
  | zero => rfl
  | succ k ih => rw [marks, ih, marks, show n + 1 + k = n + (k + 1) by omega]; rfl
def LentRel (w : World) (l : List UInt8) (c : Value) (wr : World) : Prop :=
  ∃ k : Nat, k ≤ 3 ∧ c = .int .i64 ((l.length + k : Nat) : Int) ∧ OwnB 5 wr (.slice (some ⟨w.heap.size, 0, none⟩) (l.length + 3) (l.length + 3)) (l ++ marks l.length k ++ List.replicate (3 - k) 0) [] ∧ Frm [] w wr
set_option maxHeartbeats 1000000 in
theorem Lent_any (v : Value) (l sp : List UInt8) (w : World) (hS : SlB w v l sp) (hl : l.length ≤ 1000000) :
    Calls Try.prog 19 #[v] w fun r w' => r = .returned (.slice (some ⟨w.heap.size, 0, none⟩) l.length (l.length + 3)) ∧
      OwnB 5 w' (.slice (some ⟨w.heap.size, 0, none⟩) l.length (l.length + 3)) l (marks l.length 3) ∧ Frm [] w w' := by
  obtain ⟨a, cap, rfl, hc1, hc2⟩ := hS.form
  have hsrc : ∀ wx, Frm [] w wx → Src Try.prog 1 26 (.slice a l.length cap) l.length (bvs l) wx := fun wx fx => Sl.src Try.underlying26 (hS.keep fx (by simp)) (bvs_one l)
  have Hsrc := Lib.hid hsrc
  clear hsrc
  go_enter Try.func19, Try.ntmps19
  go_wp2_with (first | (at_make; refine wpList_make_bytes BT (l.length + 3) (by omega) rfl (.tmp 7) (.tmp 7) rfl rfl rfl rfl rfl ?_; intro w1 o1 f1) | ((with_reducible (show wpList _ _ _ (Oper.mk _ (Op.call (Call.mk (Callee.builtin Builtin.copy) _ _)) _ _ _ _ :: _) _ _)); (refine wpList_copy_bytes BT o1 0 (Hsrc.out _ f1) (by simp <;> omega) (by omega) (fun _ => rfl) rfl (.tmp 9) (.tmp 10) rfl rfl rfl ?_); intro w2 o2 f2))
  go_loopw [4] (LentRel w l) (fun c _ => l.length + 3 - (intOf c).toNat)
  case atStart =>
    refine ⟨0, by omega, rfl, ?_, f1.trans f2 (by simp)⟩
    simpa [marks] using o2
  case round =>
    obtain ⟨k, hk, rfl, o3, f3⟩ := hrel
    by_cases hlt : k < 3
    · have hc := o3.cell (l.length + k) (by simp [marks_length]; omega)
      have hf := o3.frozen (l.length + k)
      unfold bv at hc
      go_wp2
      refine ⟨⟨k + 1, by omega, by go_num, ?_, f3.setCell _ _ (.inr (Nat.le_refl _))⟩, by simp [intOf]; omega⟩
      have h4 := o3.store (l.length + k) (by simp [marks_length]; omega) (UInt8.ofNat (160 + (l.length + k) % 90)) (u := .int .u8 (160 + ((l.length : Int) + k) % 90)) (by simp [bv]; omega)
      rw [show 3 - k = (3 - (k + 1)) + 1 by omega, List.set_append_right _ _ (by simp [marks_length]), show l.length + k - (l ++ marks l.length k).length = 0 by simp [marks_length], List.replicate_succ, List.set_cons_zero] at h4
      rw [marks_snoc]
      simpa using h4
    · obtain rfl : k = 3 := by omega
      go_wp2
      go_ret
      refine ⟨rfl, ?_, f3⟩
      refine OwnB.of_heap ?_ rfl (by simp [marks_length]) (by simp [maxLen]; omega)
      have := o3.heap
      simpa using this
def OverRel (w : World) (g cap : Nat) (c : Value) (wr : World) : Prop :=
  ∃ k : Nat, ∃ L : List UInt8, k ≤ cap ∧ c = .int .i64 k ∧ L.length = cap ∧ OwnB 5 wr (.slice (some ⟨g, 0, none⟩) cap cap) L [] ∧ Frm [g] w wr
set_option maxHeartbeats 1000000 in
theorem Over_any (v : Value) (l sp : List UInt8) (w : World) (hO : OwnB 5 w v l sp) (hb : l.length + sp.length ≤ 1000000000) :
    Calls Try.prog 18 #[v] w fun r w' => r = .returned (.tuple #[]) ∧ Frm (blk v) w w' := by
  have hO' := hO
  obtain ⟨h1, ⟨rfl, h2, h3⟩ | ⟨g, cap, rfl, h3, h4, h5, h6⟩⟩ := hO'
  · go_enter Try.func18, Try.ntmps18
    go_wp2
    go_loop [3] (fun c => c = .int .i64 0) (fun _ => 0)
    case atStart => rfl
    case round =>
      subst hrel
      go_wp2
      go_end0
      exact ⟨rfl, Frm.refl _ _⟩
  · obtain ⟨k1, k2, k3⟩ := hO.caps
    have o1 : OwnB 5 w (.slice (some ⟨g, 0, none⟩) cap cap) (l ++ sp) [] := OwnB.of_heap (by simpa using hO.heap) (by simp; omega) (by simp; omega) h4
    have hcap : cap ≤ 1000000000 := by omega
    have hlen : (l ++ sp).length = cap := by simp; omega
    have HL := Lib.hid hlen
    clear hO h1 h5 h6 k1 k2 k3 hlen
    go_enter Try.func18, Try.ntmps18
    go_wp2
    go_loopw [3] (OverRel w g cap) (fun c _ => cap - (intOf c).toNat)
    case atStart => exact ⟨0, _, Nat.zero_le _, rfl, HL.out, o1, Frm.refl _ _⟩
    case round =>
      obtain ⟨k, L, hk, rfl, hL, o2, f2⟩ := hrel
      have HL2 := Lib.hid hL
      by_cases hlt : k < cap
      · have hc := o2.cell k (by simp; omega)
        have hf := o2.frozen k
        unfold bv at hc
        generalize (L ++ [])[k]! = x at hc
        clear hL
        have hx := Go.bounds_u8 (Go.wf_bits .xor .u8 x.toNat 90)
        have HX := Lib.hid hx
        clear hx
        go_wp2
        refine ⟨⟨k + 1, _, by omega, by go_num, ?_, o2.store k (by rw [HL2.out]; exact hlt) (UInt8.ofNat (bits .xor .u8 x.toNat 90).toNat) ?_, f2.setCell _ _ (by simp)⟩, by simp [intOf]; omega⟩
        · rw [List.length_set, HL2.out]
        · have := HX.out; simp only [bv, UInt8.toNat_ofNat']; congr 1; omega
      · obtain rfl : k = cap := by omega
        clear hL
        go_wp2
        go_end0
        exact ⟨rfl, f2⟩
end Go.Proofs.Ytappmjophnhdaaa
