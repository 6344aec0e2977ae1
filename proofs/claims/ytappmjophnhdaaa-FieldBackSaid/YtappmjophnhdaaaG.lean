/-
  Contracts of a writer's Text, Raw, Pad and of slices.Clone; no conditions but those that each theorem names.
-/
import Derived.Test.YtappmjophnhdaaaE
import Derived.Test.YtappmjophnhdaaaF
namespace Go.Proofs.Ytappmjophnhdaaa
open Go.RowKit
set_option linter.unusedVariables false
set_option linter.unusedSimpArgs false

set_option maxHeartbeats 1000000 in
theorem Text_any (bw : Nat) (v : Value) (l sp : List UInt8) (e most : Int) (s : ByteArray) (w : World) (hW : Wr w bw v l sp e) (hl : l.length ≤ 65536) :
    Calls Try.prog 42 #[.pointer (some ⟨bw, 0, none⟩), .string s, .int .i64 most] w fun r w' => r = .returned (.tuple #[]) ∧
      WrTo w bw v (wStep (l, e) (textStep · s.data.toList most)).1 (wStep (l, e) (textStep · s.data.toList most)).2 w' := by
  have f3 : ∀ x y z, Frm [] w (((w.alloc x).alloc y).alloc z) := fun x y z => (((Frm.refl [] w).alloc _).alloc _).alloc _
  have hlt := hW.lt
  have nb : ∀ k, w.heap.size ≤ k → k ∉ bw :: blk v := fun k hk hm => by have := hlt k hm; omega
  have H2 := Lib.hid nb
  clear hlt nb
  go_enter Try.func42, Try.ntmps42
  go_wp2_with fail
  refine (unless_any 71 _ bw v l sp e (textStep · s.data.toList most) _ (hW.keep (f3 _ _ _) (by simp) (by simp)) (fun w => enter_of Try.func71 (by kernel_rfl) (by kernel_rfl) _ w) (fun he => ?_)).mono ?_
  · refine text1_any _ _ _ bw v l sp 0 most s _ (by subst he; exact hW.keep (f3 _ _ _) (by simp) (by simp)) hl ?_ ?_ ?_ (H2.out _ ?_) (H2.out _ ?_) (H2.out _ ?_)
    all_goals first | (simp [go_sem]; done) | (simp; done) | (simp; omega) | omega
  · rintro r w' ⟨rfl, hw⟩
    go_wp2
    go_end0
    exact ⟨rfl, hw.behind (f3 _ _ _)⟩
set_option maxHeartbeats 1000000 in
theorem Raw_any (bw : Nat) (v x : Value) (l sp m msp : List UInt8) (e : Int) (w : World) (hW : Wr w bw v l sp e) (hl : l.length ≤ 65536) (hS : SlB w x m msp) :
    Calls Try.prog 43 #[.pointer (some ⟨bw, 0, none⟩), x] w fun r w' => r = .returned (.tuple #[]) ∧
      WrTo w bw v (wStep (l, e) (addStep · m)).1 (wStep (l, e) (addStep · m)).2 w' := by
  obtain ⟨a, cap, rfl, _, _⟩ := hS.form
  have f3 : ∀ x y, Frm [] w ((w.alloc x).alloc y) := fun x y => ((Frm.refl [] w).alloc _).alloc _
  go_enter Try.func43, Try.ntmps43
  go_wp2_with fail
  refine (unless_any 73 _ bw v l sp e (addStep · m) _ (hW.keep (f3 _ _) (by simp) (by simp)) (fun w => enter_of Try.func73 (by kernel_rfl) (by kernel_rfl) _ w) (fun he => ?_)).mono ?_
  · refine raw1_any _ _ bw v _ l sp m msp 0 _ (by subst he; exact hW.keep (f3 _ _) (by simp) (by simp)) (hS.keep (f3 _ _) (by simp)) hl ?_ ?_
    all_goals first | (simp [go_sem]; done) | (simp; done) | (simp; omega) | omega
  · rintro r w' ⟨rfl, hw⟩
    go_wp2
    go_end0
    exact ⟨rfl, hw.behind (f3 _ _)⟩
set_option maxHeartbeats 1000000 in
theorem Pad_any (bw : Nat) (v : Value) (l sp : List UInt8) (e to : Int) (w : World) (hW : Wr w bw v l sp e) (hl : l.length ≤ 65536) :
    Calls Try.prog 37 #[.pointer (some ⟨bw, 0, none⟩), .int .i64 to] w fun r w' => r = .returned (.tuple #[]) ∧
      WrTo w bw v (wStep (l, e) (padStep · to)).1 (wStep (l, e) (padStep · to)).2 w' := by
  have f3 : ∀ x y, Frm [] w ((w.alloc x).alloc y) := fun x y => ((Frm.refl [] w).alloc _).alloc _
  have hlt := hW.lt
  have nb : ∀ k, w.heap.size ≤ k → k ∉ bw :: blk v := fun k hk hm => by have := hlt k hm; omega
  have H2 := Lib.hid nb
  clear hlt nb
  go_enter Try.func37, Try.ntmps37
  go_wp2_with fail
  refine (unless_any 67 _ bw v l sp e (padStep · to) _ (hW.keep (f3 _ _) (by simp) (by simp)) (fun w => enter_of Try.func67 (by kernel_rfl) (by kernel_rfl) _ w) (fun he => ?_)).mono ?_
  · refine pad1_any _ _ bw v l sp 0 to _ (by subst he; exact hW.keep (f3 _ _) (by simp) (by simp)) hl ?_ ?_ (H2.out _ ?_) (H2.out _ ?_)
    all_goals first | (simp [go_sem]; done) | (simp; done) | (simp; omega) | omega
  · rintro r w' ⟨rfl, hw⟩
    go_wp2
    go_end0
    exact ⟨rfl, hw.behind (f3 _ _)⟩

/-- slices.Clone of bytes: new memory, or none. -/
def Fresh (w : World) (v : Value) : Prop := ∀ k ∈ blk v, w.heap.size ≤ k
theorem eqSl (w : World) (a : Option Addr) (n c : Nat) : (binOp .eql 26 (.slice a n c) (.slice none 0 0)).run Try.prog w = .ok (.bool a.isNone) w := Lib.run_eql_slice_nil w 26 5 a n c 0 0 Try.underlying26
def Cloned (w : World) (l : List UInt8) (r : Ending) (w' : World) : Prop := ∃ a cap sp', r = .returned (.slice a l.length cap) ∧ OwnB 5 w' (.slice a l.length cap) l sp' ∧ Frm [] w w' ∧ Fresh w (.slice a l.length cap)
theorem Clone_any (v : Value) (l sp : List UInt8) (w : World) (hS : SlB w v l sp) (hl : l.length ≤ 140737488355328) :
    Calls Try.prog 49 #[v] w fun r w' => Cloned w l r w' := by
  have hS' := hS
  have he := eqSl
  have hS3 := hS
  obtain ⟨h1, ⟨rfl, h2, h3⟩ | ha⟩ := hS'
  · obtain rfl : l = [] := List.eq_nil_of_length_eq_zero h2
    go_enter Try.func49, Try.ntmps49
    go_wp2_with fail
    go_ret
    exact ⟨none, 0, [], rfl, OwnB.nil _ _, Frm.refl _ _, by simp [Fresh, blk]⟩
  · have hS2 := Lib.hid hS
    obtain ⟨ad, cap, rfl⟩ : ∃ ad cap, v = .slice (some ad) l.length cap := by
      rcases ha with ⟨a, rfl, h2, h3⟩ | ⟨b, off, cap, rfl, _⟩
      · exact ⟨a, 0, by rw [h2]⟩
      · exact ⟨_, cap, rfl⟩
    clear hS h1 ha hS3
    have o0 : OwnB 5 (w.alloc (.cells #[] 5)) (.slice (some ⟨w.heap.size, 0, none⟩) 0 0) [] [] := OwnB.of_heap (heap_alloc_new _ _) rfl rfl (by simp)
    have f0 : Frm [] w (w.alloc (.cells #[] 5)) := (Frm.refl _ _).alloc _
    go_enter Try.func49, Try.ntmps49
    go_wp2_with (at_builtin; refine wpList_append_bytes BT o0 (hS2.out.keep f0 (by simp)) (by simp; omega) rfl (.tmp 5) (.tmp 6) rfl rfl rfl ?_; intro a' cap' w' sp' o1 f1 b1)
    go_ret
    refine ⟨a', cap', sp', by simp, by simpa using o1, f0.trans f1 (by simp [blk]), ?_⟩
    intro k hk
    rcases b1 k (by simpa using hk) with h | h
    · simp [blk] at h; omega
    · simp at h; omega
end Go.Proofs.Ytappmjophnhdaaa
