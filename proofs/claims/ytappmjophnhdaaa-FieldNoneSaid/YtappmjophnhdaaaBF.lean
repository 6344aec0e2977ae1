/-
  Contracts of the faults of readers that are none; no conditions but those that each theorem names.
-/
import Derived.Test.YtappmjophnhdaaaBE
import Derived.Test.YtappmjophnhdaaaBB
namespace Go.Proofs.Ytappmjophnhdaaa
open Go.RowKit
set_option linter.unusedVariables false
set_option linter.unusedSimpArgs false

theorem RFault_none (a : Option Addr) (w : World) (h : WNone w a) : Calls Try.prog 26 #[.pointer a] w fun r w' => r = .returned (flt 1 0) ∧ Frm [] w w' := by
  have f1 : ∀ x, Frm [] w (w.alloc x) := fun x => (Frm.refl [] w).alloc _
  go_enter Try.func26, Try.ntmps26
  go_wp2_with (go_at_call 54; refine (rmade a _ (h.keep (f1 _))).mono ?_; rintro r w' ⟨rfl, rfl⟩)
  exact bodyPost_ret (v := flt 1 0) (by simp [results, Try.results26, go_sem, flt]) rfl ⟨rfl, f1 _⟩
theorem REnd_none (a : Option Addr) (w : World) (h : WNone w a) : Calls Try.prog 27 #[.pointer a] w fun r w' => r = .returned (flt 1 0) ∧ Frm [] w w' := by
  have f0 : ∀ x, Frm [] w (w.alloc x) := fun x => (Frm.refl [] w).alloc _
  go_enter Try.func27, Try.ntmps27
  go_wp2_with (go_at_call 26; refine (RFault_none a _ (h.keep (f0 _))).mono ?_; rintro r w1 ⟨rfl, f1⟩; unfold flt; have b1 : w1.heap[w.heap.size]? = some (.cells #[.int .i64 0, .int .i64 0] 51 (0, 0)) := f1.heap (heap_alloc_new _ _) (by simp); have q1 : w1.cell? ⟨w.heap.size, 0, none⟩ = some (.int .i64 0) := (by rw [cell_of_heap b1]; rfl); have q2 : w1.cell? ⟨w.heap.size, 1, none⟩ = some (.int .i64 0) := (by rw [cell_of_heap b1]; rfl); have q3 : w1.frozen? ⟨w.heap.size, 0, none⟩ = false := frozen_of_heap b1 0; have q4 : w1.frozen? ⟨w.heap.size, 1, none⟩ = false := frozen_of_heap b1 1; have q5 : w.heap.size < w1.heap.size := lt_heap b1; clear b1)
  exact bodyPost_ret (v := flt 1 0) (by simp [results, Try.results27, go_sem, flt, q1, q2, q5]) rfl ⟨rfl, ((((f0 _).trans f1 (by simp)).setCell _ _ (.inr (Nat.le_refl _))).setCell _ _ (.inr (Nat.le_refl _))).alloc _⟩
set_option maxHeartbeats 2000000 in
theorem write_none (a0 : Option Addr) (val : Value) (x : Act0) (w : World) (hN : WNone w a0) (hx : ActV w x val) (hm : x.m.length ≤ 1000000) :
    Calls Try.prog 13 #[.pointer a0, val] w fun r w' => r = .returned (.bool true) ∧ Frm [] w w' := by
  obtain ⟨kind, n, size, s, m⟩ := x
  obtain ⟨a, cap, msp, rfl, hS, hn⟩ := hx
  simp only at hS hn hm
  have f0 : ∀ o, Frm [] w (w.alloc o) := fun o => (Frm.refl _ _).alloc o
  have HF := Lib.hid f0
  clear f0
  by_cases k0 : kind = 0
  · subst k0
    go_enter Try.func13, Try.ntmps13
    go_wp2_with (go_at_call 41; refine (WNum_none a0 n size _ (hN.keep (HF.out _))).mono ?_; rintro r w' ⟨rfl, h⟩)
    go_ret
    exact ⟨rfl, (HF.out _).trans h (by simp)⟩
  by_cases k1 : kind = 1
  · subst k1
    go_enter Try.func13, Try.ntmps13
    go_wp2_with (go_at_call 42; refine (WText_none a0 s size _ (hN.keep (HF.out _))).mono ?_; rintro r w' ⟨rfl, h⟩)
    go_ret
    exact ⟨rfl, (HF.out _).trans h (by simp)⟩
  by_cases k3 : kind = 3
  · subst k3
    go_enter Try.func13, Try.ntmps13
    go_wp2_with (go_at_call 37; refine (WPad_none a0 size _ (hN.keep (HF.out _))).mono ?_; rintro r w' ⟨rfl, h⟩)
    go_ret
    exact ⟨rfl, (HF.out _).trans h (by simp)⟩
  by_cases k2 : kind = 2
  · subst k2
    go_enter Try.func13, Try.ntmps13
    have cB : (w.alloc (.cells #[.int .i64 2, .int .i64 n, .int .i64 size, .string s, .slice a m.length cap] 34)).cell? ⟨w.heap.size, 4, none⟩ = some (.slice a m.length cap) := by simp
    have CB := Lib.hid cB
    clear cB
    go_wp2_with fail
    refine (Lent_any _ m msp _ (hS.keep (HF.out _) (by simp)) hm).mono ?_
    rintro r w1 ⟨rfl, o1, f1⟩
    have F1 := (HF.out _).trans f1 (by simp)
    simp only [World.size_alloc] at o1
    have g1 : w.heap.size + 1 < w1.heap.size := o1.lt _ (by simp [blk])
    go_wp2_with fail
    refine (WRaw_none a0 _ _ _ _ (hN.keep F1)).mono ?_
    rintro r w2 ⟨rfl, f2⟩
    have c2 : w2.cell? ⟨w.heap.size, 4, none⟩ = some (.slice a m.length cap) := f2.cell (f1.cell CB.out (by simp)) (by simp)
    have O2 := Lib.hid (o1.keep f2 (by simp))
    have S2 := Lib.hid ((hS.keep F1 (by simp)).keep f2 (by simp))
    have F2 := F1.trans f2 (by simp)
    go_wp2_with (first | (go_at_call 29; refine (Kept_true _ _ _ _ m msp _ O2.out S2.out hm).mono ?_; rintro r w3 ⟨rfl, f3⟩) | (go_at_call 18; refine (Over_any _ m _ _ (O2.out.keep f3 (by simp)) (by simp [marks_length]; omega)).mono ?_; rintro r w4 ⟨rfl, f4⟩))
    go_ret
    refine ⟨rfl, (F2.trans f3 (by simp)).trans f4 (fun k hk => .inr ?_)⟩
    simp [blk] at hk
    omega
  · have e0 : (kind == 0) = false := by simpa using k0
    have e1 : (kind == 1) = false := by simpa using k1
    have e2 : (kind == 2) = false := by simpa using k2
    have e3 : (kind == 3) = false := by simpa using k3
    clear k0 k1 k2 k3
    go_enter Try.func13, Try.ntmps13
    go_wp2
    go_ret
    exact ⟨rfl, HF.out _⟩
end Go.Proofs.Ytappmjophnhdaaa
