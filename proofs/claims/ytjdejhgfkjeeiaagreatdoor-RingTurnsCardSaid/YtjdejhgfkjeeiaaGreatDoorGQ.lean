/-
  Plain facts of the newest of some uberblocks, and of those that stand in slots. No conditions but those that each theorem names.
-/
import Derived.Test.YtjdejhgfkjeeiaaGreatDoorUP
import Derived.Test.YtjdejhgfkjeeiaaGreatDoorGP
namespace Go.Proofs.YtjdejhgfkjeeiaaGreatDoor
open Go.RowKit
set_option linter.unusedVariables false
set_option linter.unusedSimpArgs false
set_option maxRecDepth 100000

def entU (u : Ub) : En := (u.txg, packU u)
theorem entU_inj {u v : Ub} (wu : WfU u) (hu : MayU u) (wv : WfU v) (hv : MayU v) (h : entU u = entU v) : u = v := by
  have h2 : packU u = packU v := congrArg Prod.snd h
  rw [← parse_pack wu hu, ← parse_pack wv hv, h2]
/-- An uberblock laid among those that are there, in their order. -/
def insU (u : Ub) : List Ub → List Ub
  | [] => [u]
  | b :: r => if ltE (entU b) (entU u) = true then b :: insU u r else if entU b = entU u then b :: r else u :: b :: r
/-- Those that may be, in their order, each once. -/
def bestU (l : List Ub) : List Ub := (l.filter mayUB).foldl (fun B u => insU u B) []
theorem bestU_nil : bestU [] = [] := rfl
theorem bestU_yes {l : List Ub} {u : Ub} (h : mayUB u = true) : bestU (l ++ [u]) = insU u (bestU l) := by simp [bestU, h]
theorem bestU_no {l : List Ub} {u : Ub} (h : mayUB u = false) : bestU (l ++ [u]) = bestU l := by simp [bestU, h]
/-- What all of a list's are. -/
def AllU (l : List Ub) : Prop := ∀ u ∈ l, WfU u
/-- What is told: rising, and each may be. -/
structure Best (l B : List Ub) : Prop where
  ris : Ris (B.map entU)
  mem : ∀ x, x ∈ B ↔ x ∈ l ∧ MayU x
theorem insU_mem {u : Ub} (wu : WfU u) (hu : MayU u) : ∀ {B : List Ub}, (∀ b ∈ B, WfU b ∧ MayU b) → ∀ x, x ∈ insU u B ↔ x = u ∨ x ∈ B
  | [], _, x => by simp [insU]
  | b :: r, h, x => by
    have ih := insU_mem wu hu (fun c hc => h c (List.mem_cons_of_mem _ hc)) x
    unfold insU
    by_cases h1 : ltE (entU b) (entU u) = true
    · rw [if_pos h1]; simp only [List.mem_cons, ih]
      constructor
      · rintro (h | h | h) <;> simp [h]
      · rintro (h | h | h) <;> simp [h]
    · rw [if_neg h1]
      by_cases h2 : entU b = entU u
      · rw [if_pos h2]
        have := entU_inj (h b (by simp)).1 (h b (by simp)).2 wu hu h2
        subst this
        simp
      · rw [if_neg h2]; simp
theorem insU_ris {u : Ub} : ∀ {B : List Ub}, Ris (B.map entU) → Ris ((insU u B).map entU) ∧ ∀ e, e ∈ (insU u B).map entU → e = entU u ∨ e ∈ B.map entU
  | [], _ => ⟨List.pairwise_singleton _ _, fun e h => by simpa [insU] using h⟩
  | b :: r, h => by
    obtain ⟨a1, a2⟩ := List.pairwise_cons.1 h
    obtain ⟨i1, i2⟩ := insU_ris (u := u) a2
    unfold insU
    by_cases h1 : ltE (entU b) (entU u) = true
    · rw [if_pos h1]
      refine ⟨?_, fun e he => ?_⟩
      · rw [List.map_cons]
        refine List.pairwise_cons.2 ⟨fun e he => ?_, i1⟩
        rcases i2 e he with rfl | he
        · exact h1
        · exact a1 e he
      · rw [List.map_cons] at he ⊢
        rcases List.mem_cons.1 he with he | he
        · exact .inr (by rw [he]; exact List.mem_cons_self)
        · rcases i2 e he with he | he
          · exact .inl he
          · exact .inr (List.mem_cons_of_mem _ he)
    · rw [if_neg h1]
      by_cases h2 : entU b = entU u
      · rw [if_pos h2]; exact ⟨h, fun e he => .inr he⟩
      · rw [if_neg h2]
        have hub : ltE (entU u) (entU b) = true := by
          cases hb : ltE (entU u) (entU b) with
          | true => rfl
          | false => exact absurd (ltE_tri (by simpa using h1) hb) h2
        refine ⟨?_, fun e he => ?_⟩
        · rw [List.map_cons, List.map_cons]
          refine List.pairwise_cons.2 ⟨fun e he => ?_, h⟩
          rcases List.mem_cons.1 he with rfl | he
          · exact hub
          · exact ltE_trans hub (a1 e he)
        · rw [List.map_cons] at he
          rcases List.mem_cons.1 he with he | he
          · exact .inl he
          · exact .inr he
theorem bestU_best : ∀ (m : List Ub) (l B : List Ub), AllU m → (∀ b ∈ B, WfU b ∧ MayU b) → Best l B → Best (l ++ m) ((m.filter mayUB).foldl (fun B u => insU u B) B)
  | [], l, B, _, _, h => by simpa using h
  | u :: m, l, B, hw, hB, h => by
    have e : l ++ u :: m = (l ++ [u]) ++ m := by simp
    rw [e]
    cases hm : mayUB u with
    | false =>
      rw [List.filter_cons_of_neg (by simp [hm])]
      refine bestU_best m (l ++ [u]) B (fun x hx => hw x (List.mem_cons_of_mem _ hx)) hB ⟨h.ris, fun x => ?_⟩
      rw [h.mem]
      have := mayUB_no.1 hm
      constructor
      · rintro ⟨h1, h2⟩; exact ⟨List.mem_append_left _ h1, h2⟩
      · rintro ⟨h1, h2⟩
        rcases List.mem_append.1 h1 with h1 | h1
        · exact ⟨h1, h2⟩
        · simp at h1; subst h1; exact absurd h2 this
    | true =>
      rw [List.filter_cons_of_pos (by simp [hm]), List.foldl_cons]
      have hu := mayUB_iff.1 hm
      have wu := hw u (by simp)
      have hmem := insU_mem wu hu hB
      refine bestU_best m (l ++ [u]) (insU u B) (fun x hx => hw x (List.mem_cons_of_mem _ hx)) (fun b hb => ?_) ⟨(insU_ris h.ris).1, fun x => ?_⟩
      · rcases (hmem b).1 hb with rfl | hb
        · exact ⟨wu, hu⟩
        · exact hB b hb
      · rw [hmem, h.mem]
        constructor
        · rintro (rfl | ⟨h1, h2⟩)
          · exact ⟨by simp, hu⟩
          · exact ⟨List.mem_append_left _ h1, h2⟩
        · rintro ⟨h1, h2⟩
          rcases List.mem_append.1 h1 with h1 | h1
          · exact .inr ⟨h1, h2⟩
          · simp at h1; exact .inl h1
theorem best_bestU {l : List Ub} (h : AllU l) : Best l (bestU l) := by
  have := bestU_best l [] [] h (fun b hb => by cases hb) ⟨List.Pairwise.nil, fun x => by simp⟩
  simpa [bestU] using this
theorem map_back {B : List Ub} (h : ∀ u ∈ B, WfU u ∧ MayU u) : (B.map entU).map (fun e => parse e.2) = B := by
  rw [List.map_map]
  conv => rhs; rw [← List.map_id B]
  refine List.map_congr_left fun u hu => ?_
  exact parse_pack (h u hu).1 (h u hu).2
theorem Best.all {l B : List Ub} (hl : AllU l) (h : Best l B) : ∀ u ∈ B, WfU u ∧ MayU u := fun u hu => ⟨hl u ((h.mem u).1 hu).1, ((h.mem u).1 hu).2⟩
/-- There is one such answer. -/
theorem Best.eq {l B : List Ub} (hl : AllU l) (h : Best l B) : B = bestU l := by
  have h2 := best_bestU hl
  have e : B.map entU = (bestU l).map entU := by
    refine ris_eq h.ris h2.ris (fun x => ?_)
    simp only [List.mem_map]
    constructor
    · rintro ⟨u, hu, rfl⟩; exact ⟨u, (h2.mem u).2 ((h.mem u).1 hu), rfl⟩
    · rintro ⟨u, hu, rfl⟩; exact ⟨u, (h.mem u).2 ((h2.mem u).1 hu), rfl⟩
  rw [← map_back (h.all hl), ← map_back (h2.all hl), e]
theorem bestU_same {l m : List Ub} (hl : AllU l) (hm : AllU m) (h : ∀ x, x ∈ l ↔ x ∈ m) : bestU l = bestU m := by
  refine Best.eq hm ⟨(best_bestU hl).ris, fun x => ?_⟩
  rw [(best_bestU hl).mem, h]
/-- Where it is laid. -/
theorem insU_at {u : Ub} : ∀ {B : List Ub} {k : Nat}, k ≤ B.length → (∀ j (h : j < B.length), j < k → ltE (entU B[j]) (entU u) = true) → (∀ h : k < B.length, ltE (entU B[k]) (entU u) = false) →
    insU u B = if h : k < B.length then (if entU B[k] = entU u then B else B.take k ++ u :: B.drop k) else B ++ [u]
  | [], k, hk, _, _ => by simp at hk; subst hk; rfl
  | b :: r, 0, _, _, h => by
    have h0 := h (by simp)
    simp only [List.getElem_cons_zero] at h0
    unfold insU
    simp [h0]
  | b :: r, k + 1, hk, h1, h2 => by
    have h0 := h1 0 (by simp) (by omega)
    simp only [List.getElem_cons_zero] at h0
    have ih := insU_at (u := u) (B := r) (k := k) (by simpa using hk) (fun j hj hjk => by have := h1 (j + 1) (by simpa using hj) (by omega); simpa using this) (fun hh => by have := h2 (by simpa using hh); simpa using this)
    unfold insU
    rw [if_pos h0, ih]
    by_cases hlt : k < r.length
    · rw [dif_pos hlt, dif_pos (by simpa using hlt)]
      simp only [List.getElem_cons_succ]
      by_cases he : entU r[k] = entU u
      · rw [if_pos he, if_pos he]
      · rw [if_neg he, if_neg he]; simp
    · rw [dif_neg hlt, dif_neg (by simpa using hlt)]; simp

/-- The slot of a commit. -/
def slotN (txg : Int) : Int := if txg < 1 ∨ 2147483648 < txg then 0 else 1 + txg % 4
def slotB (txg : Int) : Bool := !(decide (txg < 1) || decide (2147483648 < txg))
theorem slotN_may {u : Ub} (h : MayU u) : slotN u.txg = 1 + u.txg % 4 := by
  unfold slotN; rw [if_neg (by have := h.t1; have := h.t2; omega)]
/-- Does an uberblock of a pool stand in the i-th slot, and what is told of them all. -/
def stands (pool : List UInt8) (i : Nat) (b : List UInt8) : Bool := ((unp b).2 == 0) && (((unp b).1.pool == pool) && (((1 + i : Nat) : Int) == slotN (unp b).1.txg))
def rowAt (l : List (List UInt8)) (i : Nat) : List UInt8 := l.getD i []
theorem rowAt_eq {l : List (List UInt8)} {i : Nat} (h : i < l.length) : rowAt l i = l[i] := by simp [rowAt, List.getD, List.getElem?_eq_getElem h]
def fndAt (pool : List UInt8) (l : List (List UInt8)) (i : Nat) : Option Ub := if stands pool i (rowAt l i) = true then some (unp (rowAt l i)).1 else none
def fnd (pool : List UInt8) (l : List (List UInt8)) (k : Nat) : List Ub := (List.range k).filterMap (fndAt pool l)
theorem fnd_yes {pool : List UInt8} {l : List (List UInt8)} {k : Nat} (h : stands pool k (rowAt l k) = true) : fnd pool l (k + 1) = fnd pool l k ++ [(unp (rowAt l k)).1] := by
  simp [fnd, List.range_succ, fndAt, h]
theorem fnd_no {pool : List UInt8} {l : List (List UInt8)} {k : Nat} (h : stands pool k (rowAt l k) = false) : fnd pool l (k + 1) = fnd pool l k := by
  simp [fnd, List.range_succ, fndAt, h]
theorem fnd_wf (pool : List UInt8) (l : List (List UInt8)) (k : Nat) : AllU (fnd pool l k) := fun u hu => by
  obtain ⟨i, _, h⟩ := List.mem_filterMap.1 hu
  unfold fndAt at h
  split at h
  · injection h with h; subst h; exact unp_wf _
  · cases h
theorem fnd_len (pool : List UInt8) (l : List (List UInt8)) (k : Nat) : (fnd pool l k).length ≤ k := by
  have := List.length_filterMap_le (fndAt pool l) (List.range k)
  simpa [fnd] using this
def foundU (pool : List UInt8) (l : List (List UInt8)) : List Ub := if l.length = 4 then fnd pool l 4 else []
def foundE (l : List (List UInt8)) : Int := if l.length = 4 then 0 else 2
/-- How many of some rows of bytes are not all noughts. -/
def usedB (b : List UInt8) : Bool := b.any (· != 0)
def usd (l : List (List UInt8)) (k : Nat) : Nat := ((List.range k).filter (fun i => usedB (rowAt l i))).length
theorem usd_yes {l : List (List UInt8)} {k : Nat} (h : usedB (rowAt l k) = true) : usd l (k + 1) = usd l k + 1 := by simp [usd, List.range_succ, h]
theorem usd_no {l : List (List UInt8)} {k : Nat} (h : usedB (rowAt l k) = false) : usd l (k + 1) = usd l k := by simp [usd, List.range_succ, h]
theorem usd_le (l : List (List UInt8)) (k : Nat) : usd l k ≤ k := by
  have := List.length_filter_le (fun i => usedB (rowAt l i)) (List.range k)
  simpa [usd] using this
def usedN (l : List (List UInt8)) : Int := if l.length = 4 then (usd l 4 : Int) else 0
end Go.Proofs.YtjdejhgfkjeeiaaGreatDoor
