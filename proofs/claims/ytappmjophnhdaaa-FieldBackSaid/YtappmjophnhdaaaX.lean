/-
  Contract of the law's told; no conditions but those that the theorem names.
-/
import Derived.Test.YtappmjophnhdaaaW
namespace Go.Proofs.Ytappmjophnhdaaa
open Go.RowKit
set_option linter.unusedVariables false
set_option linter.unusedSimpArgs false

theorem addStep_le (l m : List UInt8) (h : l.length ≤ 65536) : (addStep l m).1.length ≤ 65536 := by
  unfold addStep; split
  · simpa using ‹_›
  · exact h
theorem wStep_le (s : List UInt8 × Int) (f : List UInt8 → List UInt8 × Int) (h : s.1.length ≤ 65536) (hf : ∀ l, l.length ≤ 65536 → (f l).1.length ≤ 65536) : (wStep s f).1.length ≤ 65536 := by
  unfold wStep; split
  · exact hf _ h
  · exact h
theorem Act0.step_le (x : Act0) (s : List UInt8 × Int) (h : s.1.length ≤ 65536) : (x.step s).1.length ≤ 65536 := by
  unfold Act0.step
  split
  · refine wStep_le _ _ h fun l hl => ?_
    unfold numStep
    split
    · exact hl
    · split
      · exact hl
      · exact addStep_le _ _ hl
  · split
    · refine wStep_le _ _ h fun l hl => ?_
      unfold textStep
      split
      · exact hl
      · split
        · exact hl
        · exact addStep_le _ _ hl
    · split
      · exact wStep_le _ _ h fun l hl => addStep_le _ _ hl
      · split
        · refine wStep_le _ _ h fun l hl => ?_
          unfold padStep
          split
          · exact hl
          · exact addStep_le _ _ hl
        · exact h
def steps (xs : List Act0) (s : List UInt8 × Int) : List UInt8 × Int := xs.foldl (fun s x => x.step s) s
theorem steps_le (xs : List Act0) (s : List UInt8 × Int) (h : s.1.length ≤ 65536) : (steps xs s).1.length ≤ 65536 := by
  induction xs generalizing s with
  | nil => exact h
  | cons x xs ih => exact ih _ (x.step_le s h)
theorem steps_snoc (xs : List Act0) (k : Nat) (hk : k < xs.length) (s : List UInt8 × Int) : steps (xs.take (k + 1)) s = xs[k].step (steps (xs.take k) s) := by
  rw [List.take_succ_eq_append_getElem hk]
  unfold steps
  rw [List.foldl_append]
  rfl
/-- A list of acts that can be read, all of it below a block. -/
structure ActsAt (B : Nat) (w : World) (val : Value) (xs : List Act0) : Prop where
  form : ∃ a cap, val = .slice a xs.length cap
  big : xs.length ≤ 1000000
  at' : ∀ k (hk : k < xs.length), ∃ b off a c msp, (∃ cap, val = .slice (some ⟨b, off, none⟩) xs.length cap) ∧ b < B ∧
    w.cell? ⟨b, off + k * 5, none⟩ = some (.int .i64 xs[k].kind) ∧ w.cell? ⟨b, off + k * 5 + 1, none⟩ = some (.int .i64 xs[k].n) ∧ w.cell? ⟨b, off + k * 5 + 2, none⟩ = some (.int .i64 xs[k].size) ∧
    w.cell? ⟨b, off + k * 5 + 3, none⟩ = some (.string xs[k].s) ∧ w.cell? ⟨b, off + k * 5 + 4, none⟩ = some (.slice a xs[k].m.length c) ∧
    SlB w (.slice a xs[k].m.length c) xs[k].m msp ∧ (∀ i ∈ blkR (.slice a xs[k].m.length c), i < B) ∧ xs[k].m.length ≤ 1000000 ∧ xs[k].n ≤ 9223372036854775807
def ToldRel (w : World) (bw : Nat) (xs : List Act0) (c : Value) (wr : World) : Prop :=
  ∃ k : Nat, ∃ v sp, k ≤ xs.length ∧ c = .int .i64 k ∧ Wr wr bw v (steps (xs.take k) ([], 0)).1 sp (steps (xs.take k) ([], 0)).2 ∧ Fresh w v ∧ Frm [] w wr
set_option maxHeartbeats 2000000 in
theorem told_any (val : Value) (xs : List Act0) (w : World) (hA : ActsAt w.heap.size w val xs) :
    Calls Try.prog 40 #[val] w fun r w' => Outs w (steps xs ([], 0)).1 (steps xs ([], 0)).2 r w' := by
  obtain ⟨a, cap, rfl⟩ := hA.form
  have hbig := hA.big
  have HA := Lib.hid hA.at'
  clear hA
  have hxl : (xs.length : Int) ≤ 1000000 := by omega
  go_enter Try.func40, Try.ntmps40
  go_wp2_with (go_at_call 10; refine (New_any _).mono ?_; rintro r w1 ⟨rfl, hw1, f1⟩)
  go_loopw [5] (ToldRel w w.heap.size xs) (fun c _ => xs.length - (intOf c).toNat)
  case atStart => exact ⟨0, _, _, Nat.zero_le _, rfl, hw1, by simp [Fresh, blk], f1⟩
  case round =>
    obtain ⟨k, v, sp, hk, rfl, hW, hv, f2⟩ := hrel
    by_cases hlt : k < xs.length
    · obtain ⟨b, off, a2, c2, msp, ⟨cap2, hval⟩, hbB, q0, q1, q2, q3, q4, hS, hB, hm, hn⟩ := HA.out k hlt
      cases hval
      have p0 := f2.cell q0 (by simp)
      have p1 := f2.cell q1 (by simp)
      have p2 := f2.cell q2 (by simp)
      have p3 := f2.cell q3 (by simp)
      have p4 := f2.cell q4 (by simp)
      have hx : ActV wr xs[k] (.agg #[.int .i64 xs[k].kind, .int .i64 xs[k].n, .int .i64 xs[k].size, .string xs[k].s, .slice a2 xs[k].m.length c2]) := ⟨a2, c2, msp, rfl, hS.keep f2 (by simp), hn⟩
      have hd : ∀ i ∈ blkA (.agg #[.int .i64 xs[k].kind, .int .i64 xs[k].n, .int .i64 xs[k].size, .string xs[k].s, .slice a2 xs[k].m.length c2]), i ∉ w.heap.size :: blk v := fun i hi hm => by
        have h5 := hB i hi
        rcases List.mem_cons.1 hm with h6 | h6
        · omega
        · have := hv i h6; omega
      have hp := Lib.hid (write_any w.heap.size v _ _ sp _ xs[k] wr hW (steps_le _ _ (by simp)) hx hm hd)
      clear q0 q1 q2 q3 q4 hS hB hm hn hx hd
      go_wp2_with (go_at_call 13; refine hp.out.mono ?_; rintro r w3 ⟨rfl, v', sp', hW', f3, b3⟩)
      refine ⟨⟨k + 1, v', sp', by omega, by go_num, by rw [steps_snoc _ _ hlt]; exact hW', fun i hi => ?_, f2.trans f3 (fun i hi => ?_)⟩, by simp [intOf]; omega⟩
      · rcases b3 i hi with h | h
        · exact hv i h
        · exact Nat.le_trans f2.size h
      · rcases List.mem_cons.1 hi with rfl | h
        · exact .inr (Nat.le_refl _)
        · exact .inr (hv i h)
    · obtain rfl : k = xs.length := by omega
      have hW' := hW
      rw [List.take_length] at hW'
      have hp := Lib.hid (Out_any w.heap.size v _ sp _ wr hW' (steps_le xs _ (by simp)))
      clear hW'
      go_wp2_with (go_at_call 15; refine hp.out.mono ?_; rintro r w3 ⟨a', cap', sp', rfl, o3, f3, b3⟩)
      go_ret2
      exact ⟨a', cap', sp', rfl, o3, f2.trans f3 (by simp), fun i hi => Nat.le_trans f2.size (b3 i hi)⟩
end Go.Proofs.Ytappmjophnhdaaa
