/-
  Contracts of Slot, of standsIn; rows of lists of bytes; slices.All's iterator. No conditions but those that each theorem names.
-/
import Derived.Test.YtjdejhgfkjeeiaaGreatDoorML
import Derived.Test.YtjdejhgfkjeeiaaGreatDoorHZ
namespace Go.Proofs.YtjdejhgfkjeeiaaGreatDoor
open Go.RowKit
set_option linter.unusedVariables false
set_option linter.unusedSimpArgs false
set_option maxRecDepth 100000
attribute [local go_sem] Oper.semAt_some

open Pt (Pt may enc readPt readE zeroPt pc pv PtV SlA OwnA)
open Kr (OwnE SlE Enco RowTys)
open Hs (Idx wpIn_round_region inBlock_lets ownPostK_lets grownBy_drew)
theorem Slot_any (t : Int) (w : World) : Calls Tryz.prog 42 #[.int .i64 t] w fun e w' => e = .returned (.tuple #[.int .i64 (slotN t), .bool (slotB t)]) ∧ w' = w := by
  by_cases h1 : t < 1
  · have e1 : slotN t = 0 := by unfold slotN; rw [if_pos (.inl h1)]
    have e2 : slotB t = false := by simp [slotB, h1]
    rw [e1, e2]
    go_enter Tryz.func42, Tryz.ntmps42
    go_wp2
    exact bodyPost_ret (v := .tuple #[.int .i64 0, .bool false]) (by simp [results, Tryz.results42, go_sem]) rfl ⟨rfl, rfl⟩
  · by_cases h2 : 2147483648 < t
    · have e1 : slotN t = 0 := by unfold slotN; rw [if_pos (.inr h2)]
      have e2 : slotB t = false := by simp [slotB, h2]
      rw [e1, e2]
      go_enter Tryz.func42, Tryz.ntmps42
      go_wp2
      exact bodyPost_ret (v := .tuple #[.int .i64 0, .bool false]) (by simp [results, Tryz.results42, go_sem]) rfl ⟨rfl, rfl⟩
    · have e1 : slotN t = 1 + t % 4 := by unfold slotN; rw [if_neg (by omega)]
      have e2 : slotB t = true := by simp [slotB]; omega
      have e3 : t.tmod 4 = t % 4 := Int.tmod_eq_emod_of_nonneg (by omega)
      have e4 : IntKind.i64.wrap (t % 4) = t % 4 := IntWalk.i64_in _ (by omega)
      have e5 : IntKind.i64.wrap (1 + t % 4) = 1 + t % 4 := IntWalk.i64_in _ (by omega)
      rw [e1, e2]
      clear e1 e2
      go_enter Tryz.func42, Tryz.ntmps42
      go_wp2
      exact bodyPost_ret (v := .tuple #[.int .i64 (1 + t % 4), .bool true]) (by simp [results, Tryz.results42, go_sem]) rfl ⟨rfl, rfl⟩
theorem RefSlot_any (t : Int) (w : World) : Calls Tryz.prog 43 #[.int .i64 t] w fun e w' => e = .returned (.tuple #[.int .i64 (slotN t), .bool (slotB t)]) ∧ w' = w := by
  by_cases h1 : t < 1
  · have e1 : slotN t = 0 := by unfold slotN; rw [if_pos (.inl h1)]
    have e2 : slotB t = false := by simp [slotB, h1]
    rw [e1, e2]
    go_enter Tryz.func43, Tryz.ntmps43
    go_wp2
    exact bodyPost_ret (v := .tuple #[.int .i64 0, .bool false]) (by simp [results, Tryz.results43, go_sem]) rfl ⟨rfl, rfl⟩
  · by_cases h2 : 2147483648 < t
    · have e1 : slotN t = 0 := by unfold slotN; rw [if_pos (.inr h2)]
      have e2 : slotB t = false := by simp [slotB, h2]
      rw [e1, e2]
      go_enter Tryz.func43, Tryz.ntmps43
      go_wp2
      exact bodyPost_ret (v := .tuple #[.int .i64 0, .bool false]) (by simp [results, Tryz.results43, go_sem]) rfl ⟨rfl, rfl⟩
    · have e1 : slotN t = 1 + t % 4 := by unfold slotN; rw [if_neg (by omega)]
      have e2 : slotB t = true := by simp [slotB]; omega
      have e3 : t.tmod 4 = t % 4 := Int.tmod_eq_emod_of_nonneg (by omega)
      have e4 : IntKind.i64.wrap (t % 4) = t % 4 := IntWalk.i64_in _ (by omega)
      have e5 : IntKind.i64.wrap (1 + t % 4) = 1 + t % 4 := IntWalk.i64_in _ (by omega)
      rw [e1, e2]
      clear e1 e2
      go_enter Tryz.func43, Tryz.ntmps43
      go_wp2
      exact bodyPost_ret (v := .tuple #[.int .i64 (1 + t % 4), .bool true]) (by simp [results, Tryz.results43, go_sem]) rfl ⟨rfl, rfl⟩
set_option maxHeartbeats 1000000 in
theorem standsIn_any (n : Int) (x : Value) (u : Ub) (w : World) (hx : UbV w x u) : Calls Tryz.prog 84 #[.int .i64 n, x] w fun e w' => e = .returned (.bool (n == slotN u.txg)) ∧ Frm [] w w' := by
  obtain ⟨a, cap, sp, rfl, hA, hw⟩ := hx
  have B1 := UB.new w (.slice a u.root.ads.length cap) hw
  have f : Frm [] w (w.alloc (.cells (uc (.slice a u.root.ads.length cap) u).toArray 28)) := (Frm.refl [] w).alloc _
  have c0 := B1.gets.c0
  have HS := Lib.hid (fun W => Slot_any u.txg W)
  have HF := Lib.hid f
  rw [show uv (.slice a u.root.ads.length cap) u = .agg (uc (.slice a u.root.ads.length cap) u).toArray from rfl]
  clear hA hw B1 f
  generalize slotN u.txg = s at *
  generalize slotB u.txg = q at *
  generalize u.txg = t at *
  generalize (uc (.slice a u.root.ads.length cap) u).toArray = A at *
  go_enter Tryz.func84, Tryz.ntmps84
  go_upto_region 1 with (fail)
  generalize w.alloc (.cells A 28) = W at *
  go_wp2_with (go_at_call 42; refine (HS.out _).mono ?_; rintro r w1 ⟨rfl, hw1⟩; obtain rfl := hw1.symm)
  go_ret
  exact ⟨rfl, HF.out⟩
/-- A cell of a row. -/
abbrev CelT := { v : Value // v.oneCell' = true }
def eC (x : CelT) : List Value := [x.1]
theorem encC : Enco eC 1 := ⟨fun _ => rfl, fun x u hu => by simp [eC] at hu; subst hu; exact x.2, by omega, fun x y h => Subtype.ext (by simpa [eC] using h)⟩
/-- A slice of lists of bytes. -/
def Ls (w : World) (v : Value) (l : List (List UInt8)) : Prop := ∃ cs sp, SlE eC 1 w v cs sp ∧ cs.length = l.length ∧ ∀ (i : Nat) (c : CelT) b, cs[i]? = some c → l[i]? = some b → ∃ s, SlB w c.1 b s
theorem Ls.keep0 {w w' : World} {v : Value} {l : List (List UInt8)} (h : Ls w v l) (f : Frm [] w w') : Ls w' v l := by
  obtain ⟨cs, sp, hs, hl, hr⟩ := h
  refine ⟨cs, sp, hs.keep0 f, hl, fun i c b h1 h2 => ?_⟩
  obtain ⟨s, h⟩ := hr i c b h1 h2
  exact ⟨s, h.keep f (by simp)⟩
theorem Ls.form {w : World} {v : Value} {l : List (List UInt8)} (h : Ls w v l) : ∃ a cap, v = .slice a l.length cap := by
  obtain ⟨cs, sp, hs, hl, hr⟩ := h
  obtain ⟨a, cap, e, _, _⟩ := hs.form
  exact ⟨a, cap, by rw [← hl]; exact e⟩
theorem Ls.at {w : World} {v : Value} {l : List (List UInt8)} (h : Ls w v l) (hp : 0 < l.length) : ∃ b off cap, v = .slice (some ⟨b, off, none⟩) l.length cap := by
  obtain ⟨a, cap, rfl⟩ := h.form
  obtain ⟨cs, sp, hs, hl, hr⟩ := h
  obtain ⟨b, off, rfl⟩ := hs.at (by omega)
  exact ⟨b, off, cap, rfl⟩
/-- An element: its cell, its bytes. -/
theorem Ls.cell {w : World} {b off n cap : Nat} {l : List (List UInt8)} (h : Ls w (.slice (some ⟨b, off, none⟩) n cap) l) (i : Nat) (hi : i < l.length) : ∃ c s, w.cell? ⟨b, off + i, none⟩ = some c ∧ SlB w c l[i] s := by
  obtain ⟨cs, sp, hs, hl, hr⟩ := h
  have hi2 : i < cs.length := by omega
  obtain ⟨s, hS⟩ := hr i cs[i] l[i] (List.getElem?_eq_getElem _) (List.getElem?_eq_getElem _)
  have := SlE.cell encC hs i hi2 0 (u := (cs[i]).1) rfl
  rw [Nat.mul_one, Nat.add_zero] at this
  exact ⟨_, s, this, hS⟩
theorem cell_same {w w' : World} {b : Nat} (h : w'.heap[b]? = w.heap[b]?) (i : Nat) : w'.cell? ⟨b, i, none⟩ = w.cell? ⟨b, i, none⟩ := by simp [World.cell?, h]
theorem All_any (v : Value) (w : World) (hv : v.oneCell' = true) : Calls Tryz.prog 83 #[v] w fun e w' => e = .returned (.func (.func 123) #[] #[.pointer (some ⟨w.heap.size, 0, none⟩)]) ∧ w' = w.alloc (.cells #[v] 52) := by
  have hmf : ∀ (fn : Fn) (first cap : Array Value) (w : World), (Instr.makeFunc fn first cap).run Tryz.prog w = .ok (.func fn first cap) w := fun _ _ _ _ => rfl
  go_enter Tryz.func83, Tryz.ntmps83
  go_wp2
  go_ret
  exact ⟨rfl, rfl⟩
def Kp1 (b : Nat) (W W' : World) : Prop := W'.heap[b]? = W.heap[b]?
set_option maxHeartbeats 2000000 in
theorem all1_in (n : Nat) (hn : 1 ≤ n) (l B1 b off M cap : Nat) (cs : Idx M → Value) (hM : M ≤ 1000000) (J Jx : List (Idx M) → World → Prop)
    (hY : ∀ pre (x : Idx M) W, J pre W → pre.length < M → YieldAt Fence.wide (n - 1) Tryz.prog l #[.int .i64 x.1, cs x] W fun e W' =>
      (e = .returned (.bool true) ∧ J (pre ++ [x]) W' ∧ Kp1 b W W') ∨ (e = .returned (.bool false) ∧ Jx (pre ++ [x]) W'))
    (W : World) (h1 : W.heap[B1]? = some (.cells #[.slice (some ⟨b, off, none⟩) M cap] 52 (0, 0))) (hc : ∀ x : Idx M, W.cell? ⟨b, off + x.1, none⟩ = some (cs x)) (h0 : J [] W) :
    CallsIn Fence.wide n Tryz.prog 123 #[.func (.yield l) #[] #[], .pointer (some ⟨B1, 0, none⟩)] W fun e W' => (∃ v, e = .returned v) ∧
      ((∃ ys, ys.map (·.1) = List.range M ∧ J ys W') ∨ (∃ pre, Jx pre W')) := by
  refine callsIn_of_wp Tryz.func123 rfl trivial ?_ rfl
  simp only [Tryz.ntmps123, List.size_toArray, List.length_cons, List.length_nil, Nat.reduceAdd, Nat.reduceSub, Array.replicate_succ, Array.replicate_zero, List.push_toArray, List.append_toArray, List.nil_append, List.cons_append]
  have c1 : W.cell? ⟨B1, 0, none⟩ = some (.slice (some ⟨b, off, none⟩) M cap) := by rw [cell_of_heap h1]; rfl
  gi_wp2
  gi_loopw [7] (fun i wr => ∃ k : Nat, k ≤ M ∧ i = .int .i64 k ∧ ∃ pre : List (Idx M), pre.map (·.1) = List.range k ∧ J pre wr ∧ Kp1 b W wr)
    (fun i _ => M - (intOf i).toNat)
  case atStart => exact ⟨0, Nat.zero_le _, rfl, [], rfl, h0, rfl⟩
  case round =>
    obtain ⟨k, hk, rfl, pre, hpre, hJs, hkp⟩ := hrel
    have hpl : pre.length = k := by have := congrArg List.length hpre; simpa using this
    have HPRE := Lib.hid hpre
    have HPL := Lib.hid hpl
    have HKP := Lib.hid hkp
    have hM9 : (M : Int) ≤ 1000000 := by omega
    clear hpre hpl
    by_cases hlt : k < M
    · have hlt' : (k : Int) < (M : Int) := by omega
      have hck : wr.cell? ⟨b, off + k, none⟩ = some (cs ⟨k, hlt⟩) := (cell_same hkp _).trans (hc ⟨k, hlt⟩)
      obtain ⟨fn, tmps, assign, body, hy, hR⟩ := hY pre ⟨k, hlt⟩ wr hJs (by rw [HPL.out]; exact hlt)
      generalize cs ⟨k, hlt⟩ = ck at *
      have HR := Lib.hid hR
      have HC := Lib.hid hc
      have HYY := Lib.hid hY
      clear hR hY hc hJs h0 h1 c1 hkp
      gi_wp2
      refine HR.out.mono ?_
      rintro e W3 (⟨rfl, hJ3, hk3⟩ | ⟨rfl, hJx3⟩)
      · have HN := Lib.hid (show ∃ pre : List (Idx M), pre.map (·.1) = List.range (k + 1) ∧ J pre W3 ∧ Kp1 b W W3 from ⟨pre ++ [⟨k, hlt⟩], by rw [List.map_append, HPRE.out, List.range_succ]; rfl, hJ3, hk3.trans HKP.out⟩)
        gi_wp2
        refine ⟨⟨k + 1, by omega, by go_num, HN.out⟩, by simp [intOf]; omega⟩
      · gi_wp2
        refine bodyPost_ret (results_none rfl _ _ _) rfl ?_
        exact ⟨⟨_, rfl⟩, .inr ⟨_, hJx3⟩⟩
    · obtain rfl : k = M := by omega
      gi_wp2
      go_end0
      exact ⟨⟨_, rfl⟩, .inl ⟨_, HPRE.out, hJs⟩⟩
theorem all_stops (n : Nat) (hn : 1 ≤ n) (B1 b off M cap : Nat) (cs : Idx M → Value) (hM : M ≤ 1000000) (w : World) (hB1 : B1 < w.heap.size) (hb : b < w.heap.size)
    (h1 : w.heap[B1]? = some (.cells #[.slice (some ⟨b, off, none⟩) M cap] 52 (0, 0))) (hc : ∀ x : Idx M, w.cell? ⟨b, off + x.1, none⟩ = some (cs x)) :
    SeqStopsK Fence.wide n Tryz.prog 123 #[.pointer (some ⟨B1, 0, none⟩)] (fun j : Idx M => #[.int .i64 j.1, cs j]) (Kp1 b) (fun xs => xs.map (·.1) = List.range M) (fun _ => True) M w := fun l J Jx W hW hJ _ hY h0 => by
  refine (all1_in n hn l B1 b off M cap cs hM J Jx hY W ((hW.block B1 hB1).trans h1) (fun x => (cell_same (hW.block b hb) _).trans (hc x)) h0).mono ?_
  rintro e W' ⟨he, ⟨ys, hy, hj⟩ | ⟨pre, hj⟩⟩
  · exact ⟨he, .inl ⟨ys, hy, hj⟩⟩
  · exact ⟨he, .inr ⟨pre, trivial, hj⟩⟩
end Go.Proofs.YtjdejhgfkjeeiaaGreatDoor
