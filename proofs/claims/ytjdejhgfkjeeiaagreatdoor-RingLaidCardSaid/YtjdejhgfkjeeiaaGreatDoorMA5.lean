/-
  Plain facts of sectors laid one behind the other in four slots; Pick at large bounds. No conditions but those that each theorem names. The walk of RingLaid. No conditions but those that each theorem names. The walk of RingLaid. No conditions but those that each theorem names.
-/
import Derived.Test.YtjdejhgfkjeeiaaGreatDoorMA4
namespace Go.Proofs.YtjdejhgfkjeeiaaGreatDoor
open Go.RowKit
set_option linter.unusedVariables false
set_option linter.unusedSimpArgs false
set_option maxRecDepth 100000

theorem PickL_any (n : Int) (k : Nat) (hk : 1 ≤ k) (hk2 : k ≤ 4294967296) (hn : InI n) (w : World) :
    Calls Tryz.prog 31 #[.int .i64 n, .int .i64 (k : Int)] w fun r w' => ∃ j : Nat, j < k ∧ r = .returned (.int .i64 (j : Int)) ∧ Frm [] w w' := by
  have h1 : -(k : Int) < n.tmod k := by
    rcases Int.le_total 0 n with h | h
    · have := Int.tmod_nonneg (k : Int) h; omega
    · have h3 := Int.tmod_nonneg (k : Int) (a := -n) (by omega)
      have h4 := Int.tmod_lt_of_pos (-n) (b := (k : Int)) (by omega)
      rw [Int.neg_tmod] at h3 h4
      omega
  have h2 : n.tmod k < (k : Int) := Int.tmod_lt_of_pos n (by omega)
  have hk9 : (k : Int) ≤ 4294967296 := by omega
  have hk1 : (1 : Int) ≤ (k : Int) := by omega
  have hk0 : ((k : Int) == 0) = false := by simp; omega
  have hw : IntKind.i64.wrap (n.tmod k) = n.tmod k := IntWalk.i64_in _ (by omega)
  generalize hm : n.tmod k = m at *
  go_enter Tryz.func31, Tryz.ntmps31
  by_cases hneg : m < 0
  · go_wp2_with fail
    go_ret
    refine ⟨(m + k).toNat, by omega, ?_, ?_⟩
    · rw [Int.toNat_of_nonneg (by omega)]; rfl
    · exact Frm.refl _ _
  · go_wp2_with fail
    go_ret
    refine ⟨m.toNat, by omega, ?_, ?_⟩
    · rw [Int.toNat_of_nonneg (by omega)]; rfl
    · exact Frm.refl _ _
theorem PickP_any (n : Int) (k : Nat) (hk : 1 ≤ k) (hk2 : k ≤ 4294967296) (hn : 0 ≤ n) (hn2 : n ≤ 9223372036854775807) (w : World) :
    Calls Tryz.prog 31 #[.int .i64 n, .int .i64 (k : Int)] w fun r w' => r = .returned (.int .i64 (n % k)) ∧ Frm [] w w' := by
  have e : n.tmod k = n % k := Int.tmod_eq_emod_of_nonneg hn
  have h1 : 0 ≤ n % (k : Int) := Int.emod_nonneg _ (by omega)
  have h2 : n % (k : Int) < k := Int.emod_lt_of_pos _ (by omega)
  have hk9 : (k : Int) ≤ 4294967296 := by omega
  have hk1 : (1 : Int) ≤ (k : Int) := by omega
  have hk0 : ((k : Int) == 0) = false := by simp; omega
  have hw : IntKind.i64.wrap (n % k) = n % k := IntWalk.i64_in _ (by omega)
  rw [← e] at h1 h2 hw ⊢
  generalize hm : n.tmod k = m at *
  go_enter Tryz.func31, Tryz.ntmps31
  have hneg : ¬ m < 0 := by omega
  go_wp2_with fail
  go_ret
  exact ⟨rfl, Frm.refl _ _⟩
/-- What a slot holds behind some sectors. -/
def laid (t : Int) : Nat → Nat → List UInt8
  | 0, _ => []
  | n + 1, s => if (t + n) % 4 = s then packU (ofU (t + n)) else laid t n s
def rowsL (t : Int) (n : Nat) : List (List UInt8) := [laid t n 0, laid t n 1, laid t n 2, laid t n 3]
theorem laid_or (t : Int) (s : Nat) : ∀ n : Nat, (∃ j : Nat, j < n ∧ n ≤ j + 4 ∧ (t + j) % 4 = s ∧ laid t n s = packU (ofU (t + j))) ∨ ((∀ j : Nat, j < n → (t + j) % 4 ≠ s) ∧ laid t n s = [])
  | 0 => .inr ⟨fun j h => absurd h (Nat.not_lt_zero _), rfl⟩
  | n + 1 => by
    unfold laid
    by_cases h : (t + n) % 4 = s
    · rw [if_pos h]
      exact .inl ⟨n, by omega, by omega, h, rfl⟩
    · rw [if_neg h]
      rcases laid_or t s n with ⟨j, h1, h2, h3, h4⟩ | ⟨h1, h2⟩
      · refine .inl ⟨j, by omega, ?_, h3, h4⟩
        rcases Nat.eq_or_lt_of_le h2 with e | e
        · exfalso; apply h; rw [← h3, e]; push_cast; omega
        · omega
      · refine .inr ⟨fun j hj => ?_, h2⟩
        rcases Nat.eq_or_lt_of_le (Nat.le_of_lt_succ hj) with e | e
        · subst e; exact h
        · exact h1 j e
theorem row_laid (t : Int) (n : Nat) {s : Nat} (hs : s < 4) : rowAt (rowsL t n) s = laid t n s := by
  match s, hs with
  | 0, _ => rfl
  | 1, _ => rfl
  | 2, _ => rfl
  | 3, _ => rfl
theorem stand_nil (pool : List UInt8) (i : Nat) : stands pool i [] = false := by
  have h : (unp []).2 ≠ 0 := by unfold unp; rw [if_pos (by simp)]; decide
  unfold stands
  simp [h]
theorem ofU_back {t : Int} (h1 : 1 ≤ t) (h2 : t ≤ 2147483648) : unp (packU (ofU t)) = (ofU t, 0) := unp_pack (ofU_wf t) (ofU_may h1 h2)
theorem mem_found {t : Int} {n : Nat} (h1 : 1 ≤ t) (h2 : t + n ≤ 2147483649) (x : Ub) : x ∈ foundU z32g (rowsL t n) ↔ ∃ j : Nat, j < n ∧ n ≤ j + 4 ∧ x = ofU (t + j) := by
  unfold foundU
  rw [if_pos (show (rowsL t n).length = 4 from rfl)]
  unfold fnd
  rw [List.mem_filterMap]
  constructor
  · rintro ⟨s, hs, hx⟩
    have hs4 := List.mem_range.1 hs
    unfold fndAt at hx
    rw [row_laid t n hs4] at hx
    rcases laid_or t s n with ⟨j, k1, k2, k3, k4⟩ | ⟨k1, k2⟩
    · rw [k4, ofU_back (by omega) (by omega)] at hx
      split at hx
      · cases hx; exact ⟨j, k1, k2, rfl⟩
      · cases hx
    · rw [k2, stand_nil] at hx; cases hx
  · rintro ⟨j, k1, k2, rfl⟩
    refine ⟨((t + j) % 4).toNat, List.mem_range.2 (by omega), ?_⟩
    have hs4 : ((t + j) % 4).toNat < 4 := by omega
    unfold fndAt
    rw [row_laid t n hs4]
    rcases laid_or t ((t + j) % 4).toNat n with ⟨i, i1, i2, i3, i4⟩ | ⟨i1, i2⟩
    · have e : i = j := by omega
      subst e
      rw [i4, stand_of (by omega) (by omega), if_pos (by rw [Bool.and_eq_true]; exact ⟨by decide, by simp; omega⟩), ofU_back (by omega) (by omega)]
    · exact absurd (by omega) (i1 j k1)
/-- The newest of them. -/
def newest (t : Int) (n : Nat) : List Ub := (List.range (min n 4)).map (fun (i : Nat) => ofU (t + n - 1 - i))
theorem best_laid {t : Int} {n : Nat} (h1 : 1 ≤ t) (h2 : t + n ≤ 2147483649) : bestU (foundU z32g (rowsL t n)) = newest t n := by
  symm
  refine Best.eq (fun u hu => by obtain ⟨j, _, _, rfl⟩ := (mem_found h1 h2 u).1 hu; exact ofU_wf _) ⟨?_, fun x => ?_⟩
  · unfold newest Ris
    rw [List.map_map, List.pairwise_map]
    refine (List.pairwise_lt_range).imp_of_mem fun {a b} ha hb hab => ?_
    refine ltE_iff.2 (.inl ?_)
    show t + n - 1 - (b : Int) < t + n - 1 - (a : Int)
    omega
  · rw [mem_found h1 h2]
    unfold newest
    rw [List.mem_map]
    constructor
    · rintro ⟨i, hi, rfl⟩
      have hi := List.mem_range.1 hi
      exact ⟨⟨n - 1 - i, by omega, by omega, by congr 1; omega⟩, ofU_may (by omega) (by omega)⟩
    · rintro ⟨⟨j, k1, k2, rfl⟩, _⟩
      exact ⟨n - 1 - j, List.mem_range.2 (by omega), by congr 1; omega⟩
theorem newest_length (t : Int) (n : Nat) : (newest t n).length = min n 4 := by simp [newest]
theorem newest_at {t : Int} {n i : Nat} (h : i < (newest t n).length) : (newest t n)[i].txg = t + n - 1 - i := by simp [newest, ofU]
theorem used_pack (u : Ub) : usedB (packU u) = true := by
  have e : packU u = mark ++ (packU u).drop 8 := by rw [← packU_mark u, List.take_append_drop]
  unfold usedB
  rw [e, List.any_append]
  rfl
theorem laid_used (t : Int) (n s : Nat) : usedB (laid t n s) = decide (∃ j : Nat, j < n ∧ (t + j) % 4 = s) := by
  rcases laid_or t s n with ⟨j, k1, k2, k3, k4⟩ | ⟨k1, k2⟩
  · rw [k4, used_pack]; symm; rw [decide_eq_true_eq]; exact ⟨j, k1, k3⟩
  · rw [k2]; symm; simp only [usedB, List.any_nil, decide_eq_false_iff_not]; rintro ⟨j, h1, h2⟩; exact k1 j h1 h2
theorem usd_step (l : List (List UInt8)) (k : Nat) : usd l (k + 1) = usd l k + (if usedB (rowAt l k) = true then 1 else 0) := by
  by_cases h : usedB (rowAt l k) = true
  · rw [usd_yes h, if_pos h]
  · rw [usd_no (by simpa using h), if_neg h]; rfl
theorem used_laid (t : Int) (n : Nat) : usedN (rowsL t n) = ((min n 4 : Nat) : Int) := by
  have key : ∀ s : Nat, s < 4 → (usedB (rowAt (rowsL t n) s) = true ↔ ((s : Int) - t) % 4 < n) := fun s hs => by
    rw [row_laid t n hs, laid_used, decide_eq_true_eq]
    constructor
    · rintro ⟨j, h1, h2⟩; omega
    · intro h; exact ⟨(((s : Int) - t) % 4).toNat, by omega, by omega⟩
  have k0 := key 0 (by omega)
  have k1 := key 1 (by omega)
  have k2 := key 2 (by omega)
  have k3 := key 3 (by omega)
  unfold usedN
  rw [if_pos (show (rowsL t n).length = 4 from rfl)]
  have e : usd (rowsL t n) 4 = min n 4 := by
    rw [usd_step, usd_step, usd_step, usd_step, show usd (rowsL t n) 0 = 0 from rfl]
    simp only [k0, k1, k2, k3]
    split <;> split <;> split <;> split <;> omega
  rw [e]
end Go.Proofs.YtjdejhgfkjeeiaaGreatDoor

namespace Go.Proofs.YtjdejhgfkjeeiaaGreatDoor
open Go.RowKit
set_option linter.unusedVariables false
set_option linter.unusedSimpArgs false
set_option maxRecDepth 100000

open Kr (OwnE SlE Enco RowTys)
/-- Four slots of a call's own, and what stands in them. -/
def Slt (W : World) (g : Nat) (f : Nat → List UInt8) : Prop := ∃ c : Nat → Value, W.heap[g]? = some (.cells #[c 0, c 1, c 2, c 3] 32 (0, 0)) ∧ ∀ s, s < 4 → (c s).oneCell' = true ∧ (∃ sp, SlB W (c s) (f s) sp) ∧ g ∉ blk (c s)
theorem Slt.ls {W : World} {g : Nat} {f : Nat → List UInt8} (h : Slt W g f) : Ls W (.slice (some ⟨g, 0, none⟩) 4 4) [f 0, f 1, f 2, f 3] := by
  obtain ⟨c, hh, hc⟩ := h
  obtain ⟨o0, ⟨p0, s0⟩, _⟩ := hc 0 (by omega)
  obtain ⟨o1, ⟨p1, s1⟩, _⟩ := hc 1 (by omega)
  obtain ⟨o2, ⟨p2, s2⟩, _⟩ := hc 2 (by omega)
  obtain ⟨o3, ⟨p3, s3⟩, _⟩ := hc 3 (by omega)
  exact Ls.four hh o0 o1 o2 o3 s0 s1 s2 s3
theorem Slt.keep0 {W W' : World} {g : Nat} {f : Nat → List UInt8} (h : Slt W g f) (fr : Frm [] W W') : Slt W' g f := by
  obtain ⟨c, hh, hc⟩ := h
  refine ⟨c, fr.heap hh (by simp), fun s hs => ?_⟩
  obtain ⟨o, ⟨p, hS⟩, hg⟩ := hc s hs
  exact ⟨o, ⟨p, hS.keep fr (by simp)⟩, hg⟩
theorem Slt.cell {W : World} {g : Nat} {f : Nat → List UInt8} (h : Slt W g f) {s : Nat} (hs : s < 4) : ∃ u, W.cell? ⟨g, s, none⟩ = some u := by
  obtain ⟨c, hh, hc⟩ := h
  rw [cell_of_heap hh]
  match s, hs with
  | 0, _ => exact ⟨_, rfl⟩
  | 1, _ => exact ⟨_, rfl⟩
  | 2, _ => exact ⟨_, rfl⟩
  | 3, _ => exact ⟨_, rfl⟩
theorem Slt.frozen {W : World} {g : Nat} {f : Nat → List UInt8} (h : Slt W g f) (s : Nat) : W.frozen? ⟨g, s, none⟩ = false := by
  obtain ⟨c, hh, hc⟩ := h
  exact frozen_of_heap hh s
theorem Slt.put {W : World} {g : Nat} {f : Nat → List UInt8} (h : Slt W g f) {s : Nat} (hs : s < 4) {v : Value} {b sp : List UInt8} (hv : v.oneCell' = true) (hS : SlB W v b sp) (hg : g ∉ blk v) : Slt (W.setCell ⟨g, s, none⟩ v) g (fun i => if i = s then b else f i) := by
  obtain ⟨c, hh, hc⟩ := h
  have fr : Frm [g] W (W.setCell ⟨g, s, none⟩ v) := (Frm.refl _ _).setCell _ _ (.inl (by simp))
  refine ⟨fun i => if i = s then v else c i, ?_, fun i hi => ?_⟩
  · rw [heap_setCell_same v hh]
    match s, hs with
    | 0, _ => rfl
    | 1, _ => rfl
    | 2, _ => rfl
    | 3, _ => rfl
  · by_cases e : i = s
    · simp only [e, if_true]
      exact ⟨hv, ⟨sp, hS.keep fr (fun k hk hm => by simp at hm; subst hm; exact hg hk)⟩, hg⟩
    · simp only [e, if_false]
      obtain ⟨o, ⟨p, hp⟩, hn⟩ := hc i hi
      exact ⟨o, ⟨p, hp.keep fr (fun k hk hm => by simp at hm; subst hm; exact hn hk)⟩, hn⟩
theorem SlB.none (W : World) : SlB W (.slice none 0 0) [] [] := ⟨rfl, .inl ⟨rfl, rfl, rfl⟩⟩
theorem Slt.new (W : World) : Slt (W.alloc (.cells #[.slice none 0 0, .slice none 0 0, .slice none 0 0, .slice none 0 0] 32)) W.heap.size (fun _ => []) :=
  ⟨fun _ => .slice none 0 0, heap_alloc_new _ _, fun s _ => ⟨rfl, ⟨[], SlB.none _⟩, by simp [blk]⟩⟩
theorem laid_put (t : Int) (n : Nat) : (fun i => if i = ((t + n) % 4).toNat then packU (ofU (t + n)) else laid t n i) = laid t (n + 1) := by
  funext i
  show _ = if (t + n) % 4 = i then _ else _
  by_cases h : (t + n) % 4 = i
  · rw [if_pos h, if_pos (by omega)]
  · rw [if_neg h, if_neg (by omega)]
theorem built52 : Tryz.prog.builtSlice 32 4 [(0, .slice none 0 0), (1, .slice none 0 0), (2, .slice none 0 0), (3, .slice none 0 0)] = some #[.slice none 0 0, .slice none 0 0, .slice none 0 0, .slice none 0 0] := by kernel_rfl
theorem rowsL_eq (t : Int) (n : Nat) : [laid t n 0, laid t n 1, laid t n 2, laid t n 3] = rowsL t n := rfl
theorem laid_len {t : Int} {n : Nat} (h1 : 1 ≤ t) (h2 : t + n ≤ 2147483649) : ∀ b ∈ rowsL t n, b.length ≤ 1000000 := by
  have key : ∀ s, (laid t n s).length ≤ 1000000 := fun s => by
    rcases laid_or t s n with ⟨j, k1, k2, k3, k4⟩ | ⟨k1, k2⟩
    · rw [k4, packU_length (ofU_wf _) (ofU_may (by omega) (by omega))]; decide
    · rw [k2]; simp
  intro b hb
  simp [rowsL] at hb
  rcases hb with rfl | rfl | rfl | rfl <;> exact key _
theorem newest_fits (t : Int) (n : Nat) : Fits (newest t n) := by
  refine ⟨by rw [newest_length]; omega, fun u hu => ?_⟩
  obtain ⟨i, _, rfl⟩ := List.mem_map.1 hu
  exact Nat.zero_le _
theorem found_fits (t : Int) (n : Nat) : Fits (foundU z32g (rowsL t n)) := by
  unfold foundU
  rw [if_pos (show (rowsL t n).length = 4 from rfl)]
  refine ⟨Nat.le_trans (fnd_len _ _ _) (by decide), fun u hu => ?_⟩
  obtain ⟨i, _, hi⟩ := List.mem_filterMap.1 hu
  unfold fndAt at hi
  split at hi
  · cases hi
    rcases unp_errno (rowAt (rowsL t n) i) with ⟨_, h⟩ | ⟨e, _, _, h⟩
    · rw [h]; exact parse_ads _
    · rw [h]; exact Nat.zero_le _
  · cases hi
def LdRel (t : Int) (n : Nat) (g : Nat) (w : World) (cv : Value) (wr : World) : Prop := ∃ k : Nat, cv = .int .i64 k ∧ k ≤ n ∧ Slt wr g (laid t k) ∧ Frm [] w wr
/-- One sector in a slot that isn't its own. -/
def wrongRow (q : Nat) (b : List UInt8) : Nat → List UInt8 := fun i => if i = q then b else []
theorem wrong_none {t : Int} (h1 : 1 ≤ t) (h2 : t ≤ 2147483648) {q : Nat} (hq : (q : Int) ≠ t % 4) : foundU z32g [wrongRow q (packU (ofU t)) 0, wrongRow q (packU (ofU t)) 1, wrongRow q (packU (ofU t)) 2, wrongRow q (packU (ofU t)) 3] = [] := by
  unfold foundU
  rw [if_pos (show [wrongRow q (packU (ofU t)) 0, wrongRow q (packU (ofU t)) 1, wrongRow q (packU (ofU t)) 2, wrongRow q (packU (ofU t)) 3].length = 4 from rfl)]
  unfold fnd
  rw [List.filterMap_eq_nil_iff]
  intro s hs
  have hs4 := List.mem_range.1 hs
  have e : rowAt [wrongRow q (packU (ofU t)) 0, wrongRow q (packU (ofU t)) 1, wrongRow q (packU (ofU t)) 2, wrongRow q (packU (ofU t)) 3] s = wrongRow q (packU (ofU t)) s := by
    match s, hs4 with
    | 0, _ => rfl
    | 1, _ => rfl
    | 2, _ => rfl
    | 3, _ => rfl
  unfold fndAt
  rw [e]
  unfold wrongRow
  by_cases h : s = q
  · rw [if_pos h, stand_of h1 h2, if_neg]
    rw [Bool.and_eq_true]
    rintro ⟨_, h3⟩
    have := beq_iff_eq.1 h3
    omega
  · rw [if_neg h, stand_nil]; rfl
end Go.Proofs.YtjdejhgfkjeeiaaGreatDoor

namespace Go.Proofs.YtjdejhgfkjeeiaaGreatDoor
open Go.RowKit
set_option linter.unusedVariables false
set_option linter.unusedSimpArgs false
set_option maxRecDepth 100000

theorem slotN_i2 {t : Int} (h1 : 1 ≤ t) (h2 : t ≤ 2147483648) : slotN t = 1 + t % 4 := by unfold slotN; rw [if_neg (by omega)]
theorem slotB_i2 {t : Int} (h1 : 1 ≤ t) (h2 : t ≤ 2147483648) : slotB t = true := by unfold slotB; simp; omega
set_option maxHeartbeats 16000000 in
theorem laid_law (n0 n1 n2 : Int) (h0 : InI n0) (h1 : InI n1) (h2 : InI n2) {w : World} {s0 s1 s2 : Addr} (hs : Sens w s0 s1 s2) (hG : Hs.Glob w) : Calls Tryz.prog 12 #[.int .i64 n0, .int .i64 n1, .int .i64 n2] w (YesR w) := by
  have HAW := Lib.hid (fun W (f : Frm [] w W) => awakeR_any W (hs.keep0 f) (hG.keep f (by simp)))
  have HP0 := Lib.hid (show ∀ W, Calls Tryz.prog 31 #[.int .i64 n0, .int .i64 2147483608] W fun r w' => ∃ j : Nat, j < 2147483608 ∧ r = .returned (.int .i64 (j : Int)) ∧ Frm [] W w' from fun W => by have q := PickL_any n0 2147483608 (by omega) (by omega) h0 W; rw [show ((2147483608 : Nat) : Int) = 2147483608 from rfl] at q; exact q)
  have HP1 := Lib.hid (show ∀ W, Calls Tryz.prog 31 #[.int .i64 n1, .int .i64 30] W fun r w' => ∃ j : Nat, j < 30 ∧ r = .returned (.int .i64 (j : Int)) ∧ Frm [] W w' from fun W => PickL_any n1 30 (by omega) (by omega) h1 W)
  have HP2 := Lib.hid (show ∀ W, Calls Tryz.prog 31 #[.int .i64 n2, .int .i64 3] W fun r w' => ∃ j : Nat, j < 3 ∧ r = .returned (.int .i64 (j : Int)) ∧ Frm [] W w' from fun W => PickL_any n2 3 (by omega) (by omega) h2 W)
  have HFO := Lib.hid (fun (c : Value) (l : List (List UInt8)) W (f : Frm [] w W) (h : Ls W c l) (hb : ∀ b ∈ l, b.length ≤ 1000000) => Found_any c l z32g W h hb (by decide) (hs.keep0 f) (hG.keep f (by simp)))
  have HBE := Lib.hid (fun (c : Value) (l : List Ub) W (f : Frm [] w W) (h : Us W c l) (hf : Fits l) => Best_any c l W h hf (hs.keep0 f) (hG.keep f (by simp)))
  have HOF := Lib.hid (fun (t : Int) W (f : Frm [] w W) (a : 1 ≤ t) (b : t ≤ 2147483648) => of_any t W a b (hG.keep f (by simp)))
  unfold YesR at HAW
  unfold FoundP at HFO
  unfold BestP at HBE
  unfold OfP at HOF
  clear hs hG h0 h1 h2
  go_enter Tryz.func12, Tryz.ntmps12
  go_upto_region 2 with (go_at_call 34; refine (HAW.out _ (Frm.refl _ _)).mono ?_; rintro r w1 ⟨rfl, f1⟩)
  have F1 := Lib.hid f1
  clear f1
  go_upto_region 3 with (go_at_call 31; refine (HP0.out _).mono ?_; rintro r w2 ⟨j0, hj0, rfl, f2⟩)
  have F2 := Lib.hid (F1.out.trans f2 (by simp))
  clear f2
  have hw0 : IntKind.i64.wrap (1 + (j0 : Int)) = 1 + (j0 : Int) := IntWalk.i64_in _ (by omega)
  go_upto_region 4 with (go_at_call 31; refine (HP1.out _).mono ?_; rintro r w3 ⟨j1, hj1, rfl, f3⟩)
  have F3 := Lib.hid (F2.out.trans f3 (by simp))
  clear f3
  have hw1 : IntKind.i64.wrap (1 + (j1 : Int)) = 1 + (j1 : Int) := IntWalk.i64_in _ (by omega)
  obtain ⟨t, ht⟩ : ∃ t : Int, 1 + (j0 : Int) = t := ⟨_, rfl⟩
  have T1 : 1 ≤ t := by omega
  have T2 : t ≤ 2147483608 := by omega
  rw [ht] at hw0 ⊢
  obtain ⟨n, hn⟩ : ∃ n : Nat, 1 + (j1 : Int) = (n : Int) := ⟨1 + j1, by omega⟩
  have N1 : n ≤ 30 := by omega
  rw [hn] at hw1 ⊢
  clear hn ht hj0 hj1 HP0 HP1
  go_upto_region 6 with ((with_reducible (show wpList _ _ _ (Oper.mk _ (Op.buildSlice 52 4 _) _ _ _ _ :: _) _ _)); refine Great.wpList_buildSliceTo rfl 52 32 4 _ rfl w3.heap.size rfl _ rfl Tryz.underlying52 #[.slice none 0 0, .slice none 0 0, .slice none 0 0, .slice none 0 0] (by exact built52) ?_)
  have SN := Lib.hid (Slt.new w3)
  have f4 : Frm [] w3 (w3.alloc (.cells #[.slice none 0 0, .slice none 0 0, .slice none 0 0, .slice none 0 0] 32)) := (Frm.refl [] w3).alloc _
  have F34 := Lib.hid f4
  clear f4
  generalize w3.alloc (.cells #[.slice none 0 0, .slice none 0 0, .slice none 0 0, .slice none 0 0] 32) = w4 at *
  obtain ⟨g, hg⟩ : ∃ g, w3.heap.size = g := ⟨_, rfl⟩
  rw [hg] at SN ⊢
  have GW := Lib.hid (show w3.heap.size ≤ g by omega)
  clear hg
  have hn9 : (n : Int) ≤ 30 := by omega
  go_loopw [9] (LdRel t n g w3) (fun cv _ => n - (intOf cv).toNat)
  case atStart => exact ⟨0, rfl, by omega, SN.out, F34.out⟩
  case round =>
    obtain ⟨k, rfl, hk, sl, f⟩ := hrel
    by_cases hlt : k < n
    · have hlt' : (k : Int) < (n : Int) := by omega
      have FW := Lib.hid (F3.out.trans f (by simp))
      have hwk : IntKind.i64.wrap (t + (k : Int)) = t + (k : Int) := IntWalk.i64_in _ (by omega)
      obtain ⟨s, hse⟩ : ∃ s : Nat, ((t + (k : Int)) % 4).toNat = s := ⟨_, rfl⟩
      have hs4 : s < 4 := by omega
      have hsl : slotN (t + (k : Int)) = (s : Int) + 1 := by rw [slotN_i2 (by omega) (by omega)]; omega
      have HSL := Lib.hid (fun W => Slot_any (t + (k : Int)) W)
      rw [hsl, slotB_i2 (by omega) (by omega)] at HSL
      have HOK := Lib.hid (HOF.out (t + (k : Int)) wr FW.out (by omega) (by omega))
      have HPUT := Lib.hid (laid_put t k)
      rw [hse] at HPUT
      have hA : ¬ ((s : Int) + 1 < 1) := by omega
      have hB : ¬ (4 < (s : Int) + 1) := by omega
      have hs4' : (s : Int) < 4 := by omega
      have hws : IntKind.i64.wrap ((s : Int) + 1 - 1) = (s : Int) := by rw [IntWalk.i64_in _ (by omega)]; omega
      have hws2 : IntKind.i64.wrap (s : Int) = (s : Int) := IntWalk.i64_in _ (by omega)
      have SL := Lib.hid sl
      have F := Lib.hid f
      have HLT := Lib.hid hlt
      clear sl f hlt hse hsl
      go_upto_region 9 with (go_at_call 42; refine (HSL.out _).mono ?_; rintro r w5 ⟨rfl, hw5⟩; obtain rfl := hw5.symm)
      go_upto_region 10 with (first
        | (go_at_call 47; refine HOK.out.mono ?_; rintro r w6 ⟨xa, xc, xs, rfl, ox, f6, nx⟩)
        | ((with_reducible (show wpList _ _ _ (Oper.mk _ (Op.alloc 28) _ _ _ _ :: _) _ _)); refine wpList_lay28 rfl rfl rfl _ _ rfl (v := nilS) rfl (u := ofU (t + (k : Int))) (ofU_wf _) rfl rfl ?_))
      have f7 : Frm [] w6 (w6.alloc (.cells (uc nilS (ofU (t + (k : Int)))).toArray 28)) := (Frm.refl [] w6).alloc _
      have F7 := Lib.hid (f6.trans f7 (by simp))
      have OX := Lib.hid (ox.sl.keep f7 (by simp))
      have SL7 := Lib.hid (SL.out.keep0 F7.out)
      have GB := Lib.hid (show g ∉ blk (.slice xa 256 xc) from fun hm => by
        have h1 := nx g hm
        obtain ⟨c, hh, _⟩ := SL.out
        have h2 := lt_heap hh
        omega)
      clear f7 ox f6 nx
      generalize w6.alloc (.cells (uc nilS (ofU (t + (k : Int)))).toArray 28) = w7 at *
      obtain ⟨old, k0⟩ := SL7.out.cell hs4
      have k1 := SL7.out.frozen s
      go_wp2_with fail
      have HN := Lib.hid (show LdRel t n g w3 (.int .i64 ((k : Int) + 1)) (w7.setCell ⟨g, s, none⟩ (.slice xa 256 xc)) from ⟨k + 1, by go_num, HLT.out, by rw [← HPUT.out]; exact SL7.out.put hs4 rfl OX.out GB.out, (F.out.trans F7.out (by simp)).trans ((Frm.refl [g] _).setCell _ _ (.inl (by simp))) (fun i hi => by simp at hi; subst hi; exact .inr GW.out)⟩)
      go_roundw
      case rel => exact HN.out
      case measure => simp [intOf]; have := HLT.out; omega
    · obtain rfl : k = n := by omega
      have FW := Lib.hid (F3.out.trans f (by simp))
      have HLS := Lib.hid (show Ls wr (.slice (some ⟨g, 0, none⟩) 4 4) (rowsL t k) from sl.ls)
      have HLL := Lib.hid (laid_len (t := t) (n := k) (by omega) (by omega))
      have hfe : foundE (rowsL t k) = 0 := rfl
      have HF1 := Lib.hid (HFO.out _ _ wr FW.out HLS.out HLL.out)
      rw [hfe] at HF1
      have HBL := Lib.hid (best_laid (t := t) (n := k) (by omega) (by omega))
      have HUL := Lib.hid (used_laid t k)
      have HLN := Lib.hid (newest_length t k)
      clear sl f hlt hfe
      go_upto_region 14 with (first
        | ((with_reducible (show wpList _ _ _ (Oper.mk _ (Op.build 24 _) _ _ _ _ :: _) _ _)); refine wpList_val rfl (exec_bld24z rfl _) ?_)
        | (go_at_call 36; refine HF1.out.mono ?_; rintro r w5 ⟨v14, rs5, B5, rfl, tl5, f5⟩))
      have FW5 := Lib.hid (FW.out.trans f5 (by simp))
      have HB1 := Lib.hid (HBE.out _ _ w5 FW5.out tl5.us (found_fits t k))
      rw [HBL.out] at HB1
      have F5 := Lib.hid f5
      clear tl5 f5
      go_upto_region 15 with (go_at_call 45; refine HB1.out.mono ?_; rintro r w6 ⟨v16, rs6, B6, rfl, tl6, f6⟩)
      have FW6 := Lib.hid (FW5.out.trans f6 (by simp))
      have F06 := Lib.hid (F5.out.trans f6 (by simp))
      have US6 := Lib.hid tl6.us
      clear tl6 f6
      obtain ⟨a6, c6, rfl⟩ := US6.out.form
      rw [HLN.out] at US6 ⊢
      obtain ⟨m, hm⟩ : ∃ m : Nat, min k 4 = m := ⟨_, rfl⟩
      have hmI : ((k : Int) < 4 ∧ (m : Int) = k) ∨ (4 ≤ (k : Int) ∧ m = 4) := by omega
      have hm4 : (m : Int) ≤ 4 := by omega
      have hmin : min (k : Int) 4 = (m : Int) := by omega
      have hbm : ((m : Int) == (m : Int)) = true := by simp
      rw [hm] at US6 HUL HLN ⊢
      clear hm
      go_upto_region 18 with fail
      have HWK := Lib.hid (And.intro (show (t : Int) + k ≤ 2147483700 by omega) (show (1 : Int) ≤ t from T1))
      have hwa : IntKind.i64.wrap (t + (k : Int)) = t + (k : Int) := IntWalk.i64_in _ (by omega)
      have hwb : IntKind.i64.wrap (t + (k : Int) - 1) = t + (k : Int) - 1 := IntWalk.i64_in _ (by omega)
      go_loopw [17] (fun cv wr2 => ∃ i : Nat, cv = .int .i64 i ∧ i ≤ m ∧ Frm [] w6 wr2) (fun cv _ => m - (intOf cv).toNat)
      case atStart => exact ⟨0, rfl, by omega, Frm.refl _ _⟩
      case round =>
        obtain ⟨i, rfl, him, f9⟩ := hrel
        by_cases hilt : i < m
        · have hilt' : (i : Int) < (m : Int) := by omega
          have hi9 : (i : Int) ≤ 4 := by omega
          have hil : i < (newest t k).length := by rw [HLN.out]; exact hilt
          have US9 := US6.out.keep0 f9
          obtain ⟨b, off, cp, e⟩ := US9.at (by omega)
          rw [HLN.out] at e
          injection e with e1 e2 e3
          subst e1; subst e3
          obtain ⟨_, _, _, _, k0, _⟩ := US9.load i hil
          rw [newest_at hil] at k0
          have hwc : IntKind.i64.wrap (t + (k : Int) - 1 - (i : Int)) = t + (k : Int) - 1 - (i : Int) := IntWalk.i64_in _ (by omega)
          have F9 := Lib.hid f9
          have HLT := Lib.hid hilt
          clear US9 f9 hilt
          go_wp2_with fail
          go_roundw
          case rel => exact ⟨i + 1, by go_num, HLT.out, F9.out⟩
          case measure => simp [intOf]; have := HLT.out; omega
        · obtain rfl : i = m := by omega
          have FA := Lib.hid (F06.out.trans f9 (by simp))
          have FWA := Lib.hid (FW.out.trans FA.out (by simp))
          have HUS := Lib.hid (Used_any _ _ wr (HLS.out.keep0 FA.out) HLL.out)
          unfold UsedP at HUS
          rw [HUL.out, show foundE (rowsL t k) = 0 from rfl] at HUS
          clear f9
          go_upto_region 25 with (go_at_call 40; refine HUS.out.mono ?_; rintro r w10 ⟨rfl, f10⟩)
          have FW10 := Lib.hid (FWA.out.trans f10 (by simp))
          clear f10
          obtain ⟨q0, hq0⟩ : ∃ q0 : Nat, t % 4 = (q0 : Int) := ⟨(t % 4).toNat, by omega⟩
          have hq4 : (q0 : Int) < 4 := by omega
          have HSL := Lib.hid (fun W => Slot_any t W)
          rw [slotN_i2 T1 (by omega), slotB_i2 T1 (by omega), hq0] at HSL
          have x1 : IntKind.i64.wrap (1 + (q0 : Int) - 1) = (q0 : Int) := by rw [IntWalk.i64_in _ (by omega)]; omega
          have x2 : IntKind.i64.wrap (q0 : Int) = (q0 : Int) := IntWalk.i64_in _ (by omega)
          have x3 : IntKind.i64.wrap ((q0 : Int) + 1) = (q0 : Int) + 1 := IntWalk.i64_in _ (by omega)
          go_upto_region 26 with (go_at_call 42; refine (HSL.out _).mono ?_; rintro r w11 ⟨rfl, hw11⟩; obtain rfl := hw11.symm)
          have HP4 := Lib.hid (fun (x : Int) W (h : 0 ≤ x) (h2 : x ≤ 1000) => show Calls Tryz.prog 31 #[.int .i64 x, .int .i64 4] W fun r w' => r = .returned (.int .i64 (x % 4)) ∧ Frm [] W w' from PickP_any x 4 (by omega) (by omega) h (by omega) W)
          go_upto_region 27 with (go_at_call 31; fail)
          with_reducible refine Calls.mono (HP2.out _) ?_
          rintro r w12 ⟨j3, hj3, rfl, f12⟩
          have x4 : IntKind.i64.wrap ((q0 : Int) + 1 + (j3 : Int)) = (q0 : Int) + 1 + (j3 : Int) := IntWalk.i64_in _ (by omega)
          have HPX := Lib.hid (HP4.out ((q0 : Int) + 1 + (j3 : Int)) w12 (by omega) (by omega))
          go_upto_region 27 with (go_at_call 31; fail)
          with_reducible refine Calls.mono HPX.out ?_
          rintro r w13 ⟨rfl, f13⟩
          have FW13 := Lib.hid ((FW10.out.trans f12 (by simp)).trans f13 (by simp))
          clear f12 f13 HPX HP4 HP2 x1 x2 x3 x4 HSL
          obtain ⟨q, hq⟩ : ∃ q : Nat, ((q0 : Int) + 1 + (j3 : Int)) % 4 = (q : Int) := ⟨(((q0 : Int) + 1 + (j3 : Int)) % 4).toNat, by omega⟩
          have HQN := Lib.hid (show (q : Int) ≠ t % 4 by omega)
          have HQ4 := Lib.hid (show q < 4 by omega)
          rw [hq]
          clear hq hq0 hq4 hj3
          have HOK := Lib.hid (HOF.out t w13 FW13.out T1 (by omega))
          go_upto_region 28 with (first
            | (go_at_call 47; with_reducible refine Calls.mono HOK.out ?_; rintro r w14 ⟨xa, xc, xs, rfl, ox, f14, nx⟩)
            | ((with_reducible (show wpList _ _ _ (Oper.mk _ (Op.alloc 28) _ _ _ _ :: _) _ _)); refine wpList_lay28 rfl rfl rfl _ _ rfl (v := nilS) rfl (u := ofU t) (ofU_wf _) rfl rfl ?_))
          have f15 : Frm [] w14 (w14.alloc (.cells (uc nilS (ofU t)).toArray 28)) := (Frm.refl [] w14).alloc _
          have OX := Lib.hid (ox.sl.keep f15 (by simp))
          have FW15 := Lib.hid ((FW13.out.trans f14 (by simp)).trans f15 (by simp))
          have LTX := Lib.hid (show ∀ i ∈ blk (.slice xa 256 xc), i < (w14.alloc (.cells (uc nilS (ofU t)).toArray 28)).heap.size from fun i hi => Nat.lt_of_lt_of_le (ox.lt i hi) f15.size)
          clear f15 ox f14 nx
          generalize w14.alloc (.cells (uc nilS (ofU t)).toArray 28) = w15 at *
          go_upto_region 29 with ((with_reducible (show wpList _ _ _ (Oper.mk _ (Op.buildSlice 52 4 _) _ _ _ _ :: _) _ _)); refine Great.wpList_buildSliceTo rfl 52 32 4 _ rfl w15.heap.size rfl _ rfl Tryz.underlying52 #[.slice none 0 0, .slice none 0 0, .slice none 0 0, .slice none 0 0] (by exact built52) ?_)
          have SN2 := Lib.hid (Slt.new w15)
          have f16 : Frm [] w15 (w15.alloc (.cells #[.slice none 0 0, .slice none 0 0, .slice none 0 0, .slice none 0 0] 32)) := (Frm.refl [] w15).alloc _
          have FW16 := Lib.hid (FW15.out.trans f16 (by simp))
          have OX16 := Lib.hid (OX.out.keep f16 (by simp))
          have GB2 := Lib.hid (show w15.heap.size ∉ blk (.slice xa 256 xc) from fun hm => Nat.lt_irrefl _ (LTX.out _ hm))
          have GL2 := Lib.hid (show w.heap.size ≤ w15.heap.size from FW15.out.size)
          clear f16 LTX OX
          generalize w15.alloc (.cells #[.slice none 0 0, .slice none 0 0, .slice none 0 0, .slice none 0 0] 32) = w16 at *
          generalize w15.heap.size = g2 at *
          have hq4' : (q : Int) < 4 := by have := HQ4.out; omega
          have hwq : IntKind.i64.wrap (q : Int) = (q : Int) := IntWalk.i64_in _ (by omega)
          obtain ⟨old2, k2⟩ := SN2.out.cell HQ4.out
          have k3 := SN2.out.frozen q
          go_upto_region 30 with fail
          have SP := Lib.hid (show Slt (w16.setCell ⟨g2, q, none⟩ (.slice xa 256 xc)) g2 (wrongRow q (packU (ofU t))) from SN2.out.put HQ4.out rfl OX16.out GB2.out)
          have FW17 := Lib.hid (show Frm [] w (w16.setCell ⟨g2, q, none⟩ (.slice xa 256 xc)) from FW16.out.trans ((Frm.refl [g2] _).setCell _ _ (.inl (by simp))) (fun i hi => by simp at hi; subst hi; exact .inr GL2.out))
          clear k2 k3 SN2
          generalize w16.setCell ⟨g2, q, none⟩ (.slice xa 256 xc) = w17 at *
          have HF2 := Lib.hid (HFO.out _ _ w17 FW17.out SP.out.ls (fun b hb => by
            have hlen : (packU (ofU t)).length ≤ 1000000 := by rw [packU_length (ofU_wf t) (ofU_may T1 (by omega))]; decide
            simp only [List.mem_cons, List.not_mem_nil, or_false] at hb
            unfold wrongRow at hb
            rcases hb with rfl | rfl | rfl | rfl <;> (split <;> first | exact hlen | exact Nat.zero_le _)))
          rw [wrong_none T1 (by omega) HQN.out, show foundE [wrongRow q (packU (ofU t)) 0, wrongRow q (packU (ofU t)) 1, wrongRow q (packU (ofU t)) 2, wrongRow q (packU (ofU t)) 3] = 0 from rfl] at HF2
          go_upto_region 31 with (first
            | ((with_reducible (show wpList _ _ _ (Oper.mk _ (Op.build 24 _) _ _ _ _ :: _) _ _)); refine wpList_val rfl (exec_bld24z rfl _) ?_)
            | (go_at_call 36; with_reducible refine Calls.mono HF2.out ?_; rintro r w18 ⟨v18, rs18, B18, rfl, tl18, f18⟩))
          have FW18 := Lib.hid (FW17.out.trans f18 (by simp))
          obtain ⟨a18, c18, rfl⟩ := tl18.form
          clear tl18 f18
          go_wp2_with fail
          go_ret
          exact ⟨rfl, FW18.out⟩
end Go.Proofs.YtjdejhgfkjeeiaaGreatDoor
