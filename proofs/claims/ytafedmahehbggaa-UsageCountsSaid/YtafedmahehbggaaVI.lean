/-
  Counting: plain facts of UsageCounts. No conditions but those that each theorem names.
-/
import Derived.Test.YtafedmahehbggaaVG
namespace Go.Proofs.Ytafedmahehbggaa
open Go.RowKit Go.Sort Go.Maps
set_option linter.unusedVariables false
set_option linter.unusedSimpArgs false
set_option maxRecDepth 100000

open Kr (OwnE SlE Enco RowTys)
def cntUp (g : Nat → Nat) : Nat → Nat
  | 0 => 0
  | k + 1 => cntUp g k + g k
theorem sum_add (f g : Ad → Nat) : ∀ A : List Ad, (A.map fun x => f x + g x).sum = (A.map f).sum + (A.map g).sum
  | [] => rfl
  | a :: A => by simp only [List.map_cons, List.sum_cons, sum_add f g A]; omega
theorem filter_sum (p : Ad → Bool) : ∀ A : List Ad, (A.filter p).length = (A.map fun x => if p x = true then 1 else 0).sum
  | [] => rfl
  | a :: A => by
    by_cases h : p a = true
    · rw [List.filter_cons, if_pos h, List.length_cons, filter_sum p A, List.map_cons, List.sum_cons, if_pos h]; omega
    · rw [List.filter_cons, if_neg h, filter_sum p A, List.map_cons, List.sum_cons, if_neg h]; omega
theorem swap_sum (q : Nat → Ad → Bool) (A : List Ad) : ∀ n, cntUp (fun i => (A.filter (q i)).length) n = (A.map fun x => cntUp (fun i => if q i x = true then 1 else 0) n).sum
  | 0 => by
    simp only [cntUp]
    induction A with
    | nil => rfl
    | cons a A ih => rw [List.map_cons, List.sum_cons, ← ih]
  | n + 1 => by
    have e : (fun x => cntUp (fun i => if q i x = true then 1 else 0) (n + 1)) = fun x => cntUp (fun i => if q i x = true then 1 else 0) n + (if q n x = true then 1 else 0) := rfl
    rw [e, sum_add, ← swap_sum q A n, ← filter_sum]
    rfl
theorem cntUp_congr {f g : Nat → Nat} : ∀ {n}, (∀ i, i < n → f i = g i) → cntUp f n = cntUp g n
  | 0, _ => rfl
  | n + 1, h => by simp only [cntUp]; rw [cntUp_congr fun i hi => h i (by omega), h n (by omega)]
theorem who_cnt (L : List (List Ad)) (x : Ad) : ∀ n, (who L x n).length = cntUp (fun i => if decide (x ∈ L.getD i []) = true then 1 else 0) n
  | 0 => rfl
  | n + 1 => by
    rw [who_succ, List.length_append, who_cnt L x n]
    simp only [cntUp]
    by_cases h : x ∈ L.getD n []
    · rw [if_pos h, if_pos (decide_eq_true h)]; rfl
    · rw [if_neg h, if_neg (by simp only [decide_eq_true_eq]; exact h)]; rfl
theorem mem_who {L : List (List Ad)} {x : Ad} {n : Nat} {z : Int} : z ∈ who L x n ↔ ∃ i : Nat, i < n ∧ z = i ∧ x ∈ L.getD i [] := by
  unfold who
  rw [List.mem_map]
  simp only [List.mem_filter, List.mem_range, decide_eq_true_eq]
  constructor
  · rintro ⟨i, ⟨h1, h2⟩, rfl⟩; exact ⟨i, h1, rfl, h2⟩
  · rintro ⟨i, h1, rfl, h2⟩; exact ⟨i, ⟨h1, h2⟩, rfl⟩
theorem amg_one (i j : Nat) : amg [(i : Int)] j = true ↔ j = i := by simp [amg]; omega
theorem shared_one {L : List (List Ad)} {i : Nat} (hi : i < L.length) : sharedU L [(i : Int)] = (allU L).filter fun x => decide (x ∈ L.getD i []) := by
  refine rises_eq (rises_tell _ _) (List.Pairwise.filter _ (rises_tell _ _)) fun x => ?_
  rw [mem_sharedU, List.mem_filter, mem_allU, decide_eq_true_eq]
  constructor
  · rintro ⟨_, h⟩
    have := h i hi ((amg_one i i).2 rfl)
    exact ⟨⟨i, this⟩, this⟩
  · rintro ⟨_, h⟩
    exact ⟨⟨i, hi, (amg_one i i).2 rfl⟩, fun j _ hj => by rw [amg_one] at hj; subst hj; exact h⟩
def wn (L : List (List Ad)) (x : Ad) : Nat := (who L x L.length).length
theorem wn_one {L : List (List Ad)} {x : Ad} {i : Nat} (h : x ∈ L.getD i []) : wn L x = 1 ↔ ∀ j, x ∈ L.getD j [] → j = i := by
  have hm : (i : Int) ∈ who L x L.length := mem_who.2 ⟨i, (getD_mem h).1, rfl, h⟩
  constructor
  · intro h1 j hj
    have hj2 : (j : Int) ∈ who L x L.length := mem_who.2 ⟨j, (getD_mem hj).1, rfl, hj⟩
    unfold wn at h1
    obtain ⟨z, hz⟩ := List.length_eq_one_iff.1 h1
    rw [hz] at hm hj2
    simp at hm hj2
    omega
  · intro h1
    have hn : (who L x L.length).Nodup := by
      unfold who
      exact List.Pairwise.map _ (fun (a b : Nat) (h : a ≠ b) (e : (a : Int) = (b : Int)) => h (by omega)) (List.Pairwise.filter _ List.nodup_range)
    unfold wn
    match hw : who L x L.length with
    | [] => rw [hw] at hm; simp at hm
    | [a] => rfl
    | a :: b :: r =>
      exfalso
      rw [hw] at hn
      have ha : a ∈ who L x L.length := by rw [hw]; simp
      have hb : b ∈ who L x L.length := by rw [hw]; simp
      obtain ⟨p, _, rfl, hp⟩ := mem_who.1 ha
      obtain ⟨q, _, rfl, hq⟩ := mem_who.1 hb
      have e1 := h1 p hp
      have e2 := h1 q hq
      subst e1; subst e2
      simp at hn
theorem freed_one {L : List (List Ad)} {i : Nat} (hi : i < L.length) : freedU L [(i : Int)] = ((allU L).filter fun x => decide (wn L x = 1)).filter fun x => decide (x ∈ L.getD i []) := by
  refine rises_eq (rises_tell _ _) (List.Pairwise.filter _ (List.Pairwise.filter _ (rises_tell _ _))) fun x => ?_
  rw [mem_freedU, List.mem_filter, List.mem_filter, mem_allU, decide_eq_true_eq, decide_eq_true_eq]
  constructor
  · rintro ⟨⟨j, h1, h2⟩, h3⟩
    rw [amg_one] at h1
    subst h1
    exact ⟨⟨⟨j, h2⟩, (wn_one h2).2 fun k hk => by have := h3 k hk; rwa [amg_one] at this⟩, h2⟩
  · rintro ⟨⟨_, h1⟩, h2⟩
    exact ⟨⟨i, (amg_one i i).2 rfl, h2⟩, fun j hj => (amg_one i j).2 ((wn_one h2).1 h1 j hj)⟩
theorem sum_shared (L : List (List Ad)) : cntUp (fun i => (sharedU L [(i : Int)]).length) L.length = ((allU L).map (wn L)).sum := by
  have e : cntUp (fun i => (sharedU L [(i : Int)]).length) L.length = cntUp (fun i => ((allU L).filter fun x => decide (x ∈ L.getD i [])).length) L.length := cntUp_congr fun i hi => by rw [shared_one hi]
  rw [e, swap_sum (fun i x => decide (x ∈ L.getD i []))]
  congr 2
  funext x
  rw [wn, who_cnt]
theorem map_ones : ∀ (A : List Ad) (f : Ad → Nat), (∀ x ∈ A, f x = 1) → (A.map f).sum = A.length
  | [], _, _ => rfl
  | a :: A, f, h => by rw [List.map_cons, List.sum_cons, h a (by simp), map_ones A f fun x hx => h x (by simp [hx]), List.length_cons]; omega
theorem sum_freed (L : List (List Ad)) : cntUp (fun i => (freedU L [(i : Int)]).length) L.length = ((allU L).filter fun x => decide (wn L x = 1)).length := by
  have e : cntUp (fun i => (freedU L [(i : Int)]).length) L.length = cntUp (fun i => (((allU L).filter fun x => decide (wn L x = 1)).filter fun x => decide (x ∈ L.getD i [])).length) L.length := cntUp_congr fun i hi => by rw [freed_one hi]
  rw [e, swap_sum (fun i x => decide (x ∈ L.getD i []))]
  refine map_ones _ _ fun x hx => ?_
  rw [List.mem_filter, decide_eq_true_eq] at hx
  rw [← who_cnt]
  exact hx.2
theorem wn_pos {L : List (List Ad)} {x : Ad} (h : x ∈ allU L) : 1 ≤ wn L x := by
  obtain ⟨i, hi⟩ := mem_allU.1 h
  have := List.length_pos_of_mem (mem_who.2 ⟨i, (getD_mem hi).1, rfl, hi⟩)
  exact this
theorem srt_all (L : List (List Ad)) : srt (allU L) = allU L := rises_eq (rises_srt _) (rises_tell _ _) fun x => mem_srt
theorem cntUp_le {g : Nat → Nat} {m : Nat} (h : ∀ i, g i ≤ m) : ∀ n, cntUp g n ≤ n * m
  | 0 => by simp [cntUp]
  | n + 1 => by have := cntUp_le h n; have := h n; simp only [cntUp]; rw [Nat.succ_mul]; omega
end Go.Proofs.Ytafedmahehbggaa
