/-
  Contracts of Chunk and of what it hands back; no conditions but those that each theorem names.
-/
import Derived.Test.YtopjbiccipgnjaaDoorHH
import Derived.RangeFuncBound
import Derived.RangeFuncNested
import Derived.OwnWalkIn
import Derived.TacticsInMore
import Derived.LoopNIn
import Derived.LoopIn
import Derived.Lib.MinMax
namespace Go.Proofs.YtopjbiccipgnjaaDoor
open Go.RowKit
set_option linter.unusedVariables false
set_option linter.unusedSimpArgs false
attribute [local go_sem] Oper.semAt_some

theorem Chunk_any (a : Option Addr) (len cap : Nat) (w : World) :
    Calls Tryd.prog 34 #[.slice a len cap, .int .i64 64] w fun e w' => e = .returned (.func (.func 45) #[] #[.pointer (some ⟨w.heap.size, 0, none⟩), .pointer (some ⟨w.heap.size + 1, 0, none⟩)]) ∧
      w' = (w.alloc (.cells #[.slice a len cap] 22)).alloc (.cells #[.int .i64 64] 3) := by
  have hmf : ∀ (fn : Fn) (first cap : Array Value) (w : World), (Instr.makeFunc fn first cap).run Tryd.prog w = .ok (.func fn first cap) w := fun _ _ _ _ => rfl
  go_enter Tryd.func34, Tryd.ntmps34
  go_wp2
  go_ret
  exact ⟨rfl, rfl⟩
/-- The j-th piece of 64 of a row. -/
def pieceV (b j : Nat) : Value := .slice (some ⟨b, 64 * j, none⟩) 64 64
abbrev Idx (M : Nat) := { j : Nat // j < M }
def KpB (B1 B2 : Nat) (W W' : World) : Prop := W'.heap[B1]? = W.heap[B1]? ∧ W'.heap[B2]? = W.heap[B2]?
set_option maxRecDepth 100000 in
set_option maxHeartbeats 2000000 in
theorem chunk1_in (n : Nat) (hn : 1 ≤ n) (l B1 B2 b M cap : Nat) (hcap : 64 * M ≤ cap) (hM : M ≤ 1000000) (J Jx : List (Idx M) → World → Prop)
    (hY : ∀ pre (x : Idx M) W, J pre W → pre.length < M → YieldAt Fence.wide (n - 1) Tryd.prog l #[pieceV b x.1] W fun e W' =>
      (e = .returned (.bool true) ∧ J (pre ++ [x]) W' ∧ KpB B1 B2 W W') ∨ (e = .returned (.bool false) ∧ Jx (pre ++ [x]) W'))
    (W : World) (h1 : W.heap[B1]? = some (.cells #[.slice (some ⟨b, 0, none⟩) (64 * M) cap] 22 (0, 0))) (h2 : W.heap[B2]? = some (.cells #[.int .i64 64] 3 (0, 0))) (hJd : ∀ pre W, J pre W → J pre W.drew) (h0 : J [] W) :
    CallsIn Fence.wide n Tryd.prog 45 #[.func (.yield l) #[] #[], .pointer (some ⟨B1, 0, none⟩), .pointer (some ⟨B2, 0, none⟩)] W fun e W' => (∃ v, e = .returned v) ∧
      ((∃ ys, ys.map (·.1) = List.range M ∧ J ys W') ∨ (∃ pre, Jx pre W')) := by
  refine callsIn_of_wp Tryd.func45 rfl trivial ?_ rfl
  simp only [Tryd.ntmps45, List.size_toArray, List.length_cons, List.length_nil, Nat.reduceAdd, Nat.reduceSub, Array.replicate_succ, Array.replicate_zero, List.push_toArray, List.append_toArray, List.nil_append, List.cons_append]
  gi_wp2
  gi_loopw [4] (fun i wr => ∃ k : Nat, k ≤ M ∧ i = .int .i64 (64 * (k : Int)) ∧ ∃ pre : List (Idx M), pre.map (·.1) = List.range k ∧ J pre wr ∧ wr.heap[B1]? = some (.cells #[.slice (some ⟨b, 0, none⟩) (64 * M) cap] 22 (0, 0)) ∧ wr.heap[B2]? = some (.cells #[.int .i64 64] 3 (0, 0)))
    (fun i _ => 64 * M - (intOf i).toNat)
  case atStart => exact ⟨0, Nat.zero_le _, rfl, [], rfl, h0, h1, h2⟩
  case round =>
    obtain ⟨k, hk, rfl, pre, hpre, hJs, g1, g2⟩ := hrel
    have hpl : pre.length = k := by have := congrArg List.length hpre; simpa using this
    have HPRE := Lib.hid hpre
    have HPL := Lib.hid hpl
    clear hpre hpl
    have c1 : wr.cell? ⟨B1, 0, none⟩ = some (.slice (some ⟨b, 0, none⟩) (64 * M) cap) := by rw [cell_of_heap g1]; rfl
    have c2 : wr.cell? ⟨B2, 0, none⟩ = some (.int .i64 64) := by rw [cell_of_heap g2]; rfl
    have G1 := Lib.hid g1
    have G2 := Lib.hid g2
    have HY := Lib.hid hY
    have HJD := Lib.hid hJd
    have hJs' := Lib.hid hJs
    clear g1 g2 hY hJd hJs h1 h2 h0
    have hM9 : (M : Int) ≤ 1000000 := by omega
    by_cases hlt : k < M
    · have hlt' : (k : Int) < (M : Int) := by omega
      have hk0 : (0 : Int) ≤ 64 * (k : Int) := by omega
      have hk1 : 64 * (k : Int) ≤ 64 * (M : Int) := by omega
      have e1 : (64 * (k : Int)).toNat = 64 * k := by omega
      have hne : ¬ cap = 64 * k := by omega
      have e2 : min (64 : Int) ((64 * M - 64 * k : Nat) : Int) = 64 := by omega
      gi_wp2
      refine wpIn_wide.2 ?_
      refine wp_region_still_lit (by kernel_rfl) (by kernel_rfl) ?_
      change wpStill _ _ (World.drew _) _ _ _
      repeat still_step
      refine wpStill_nil ?_
      change Exit.then _ _ _ _ (World.drew _)
      obtain ⟨fn, tmps, assign, body, hy, hR⟩ := HY.out pre ⟨k, hlt⟩ wr.drew (HJD.out _ _ hJs'.out) (by rw [HPL.out]; exact hlt)
      dsimp only [pieceV] at hy
      have hne2 : ¬ 64 * k + 64 = 64 * k := by omega
      gi_wp2
      refine hR.mono ?_
      rintro e W3 (⟨rfl, hJ3, hk3⟩ | ⟨rfl, hJx3⟩)
      · have c2' : W3.cell? ⟨B2, 0, none⟩ = some (.int .i64 64) := by rw [cell_of_heap (hk3.2.trans G2.out)]; rfl
        gi_wp2
        refine ⟨⟨k + 1, by omega, congrArg (Value.int IntKind.i64) (by omega), pre ++ [⟨k, hlt⟩], by rw [List.map_append, HPRE.out, List.range_succ]; rfl, hJ3, hk3.1.trans G1.out, hk3.2.trans G2.out⟩, by simp [intOf]; omega⟩
      · gi_wp2
        refine bodyPost_ret (results_none rfl _ _ _) rfl ?_
        exact ⟨⟨_, rfl⟩, .inr ⟨_, hJx3⟩⟩
    · obtain rfl : k = M := by omega
      gi_wp2
      go_end0
      exact ⟨⟨_, rfl⟩, .inl ⟨_, HPRE.out, hJs'.out⟩⟩
theorem grownBy_drew (W : World) : W.grownBy W.drew none := by
  have := World.grownBy_alloc W (.cells #[] 0) none
  exact ⟨rfl, rfl, rfl, Nat.le_refl _, fun _ _ _ => rfl⟩
theorem chunk_stops (n : Nat) (hn : 1 ≤ n) (B1 B2 b M cap : Nat) (hcap : 64 * M ≤ cap) (hM : M ≤ 1000000) (w : World) (hB1 : B1 < w.heap.size) (hB2 : B2 < w.heap.size)
    (h1 : w.heap[B1]? = some (.cells #[.slice (some ⟨b, 0, none⟩) (64 * M) cap] 22 (0, 0))) (h2 : w.heap[B2]? = some (.cells #[.int .i64 64] 3 (0, 0))) :
    SeqStopsK Fence.wide n Tryd.prog 45 #[.pointer (some ⟨B1, 0, none⟩), .pointer (some ⟨B2, 0, none⟩)] (fun j : Idx M => #[pieceV b j.1]) (KpB B1 B2) (fun xs => xs.map (·.1) = List.range M) (fun _ => True) M w := fun l J Jx W hW hJ _ hY h0 => by
  refine (chunk1_in n hn l B1 B2 b M cap hcap hM J Jx hY W ((hW.block B1 hB1).trans h1) ((hW.block B2 hB2).trans h2) (fun pre W' hj => ?_) h0).mono ?_
  · exact hJ pre W' W'.drew none hj (grownBy_drew W') (fun r e => by cases e)
  · rintro e W' ⟨he, ⟨ys, hy, hj⟩ | ⟨pre, hj⟩⟩
    · exact ⟨he, .inl ⟨ys, hy, hj⟩⟩
    · exact ⟨he, .inr ⟨pre, trivial, hj⟩⟩
end Go.Proofs.YtopjbiccipgnjaaDoor
