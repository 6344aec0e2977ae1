/-
  What is kept by each call. No conditions but those that each theorem names.
-/
import Derived.Test.YtdebnikolhhmgaaDoorBP
namespace Go.Proofs.YtdebnikolhhmgaaDoor
open Go.RowKit
set_option linter.unusedVariables false
set_option linter.unusedSimpArgs false
set_option maxRecDepth 100000

open Kr (OwnE SlE Enco RowTys)
structure Wf (K : Nat) (s : St) : Prop where
  l0 : 0 ≤ s.left
  l1 : s.left ≤ 9223372036854775807
  s0 : 0 ≤ s.steps
  s1 : s.steps ≤ K
  n1 : s.n ≤ 1000000
  rw : s.row.length ≤ K
  fd : WfD s
  fx : WfX s
  fr : WfR s
theorem Wf.wfs {K : Nat} {s : St} (h : Wf K s) (hK : K ≤ 100000000) : WfS s := ⟨h.l0, h.l1, h.s0, by have := h.s1; omega, h.n1⟩
theorem Wf.row {K : Nat} {s : St} (h : Wf K s) (hK : K ≤ 100000000) : s.row.length ≤ 100000000 := Nat.le_trans h.rw hK
theorem Wf.mono {K K' : Nat} {s : St} (h : Wf K s) (hK : K ≤ K') : Wf K' s := ⟨h.l0, h.l1, h.s0, by have := h.s1; omega, h.n1, Nat.le_trans h.rw hK, h.fd, h.fx, h.fr⟩
/-- Devices changed, their sectors' number kept. -/
theorem Wf.devs {K : Nat} {s : St} (h : Wf K s) (ds : List Dv) (h0 : ds.map (fun q => q.secs.length) = szs s) (h1 : ∀ q ∈ ds, (q.f &&& 1) = 0 → q.secs.length = s.n) (h2 : ∀ q ∈ ds, (q.f &&& 4) ≠ 0 → 0 ≤ q.str ∧ q.str < s.n) : Wf K { s with devs := ds } :=
  ⟨h.l0, h.l1, h.s0, h.s1, h.n1, h.rw, h1, h2, fun x hx => by have := h.fr x hx; rw [show szs { s with devs := ds } = szs s from h0]; exact this⟩
theorem Wf.setD {K : Nat} {s : St} (h : Wf K s) (d : Int) (u : Dv → Dv) (h1 : ∀ q ∈ s.devs, (u q).secs.length = q.secs.length) (h2 : ∀ q ∈ s.devs, ((u q).f &&& 1) = 0 → (q.f &&& 1) = 0) (h3 : ∀ q ∈ s.devs, ((u q).f &&& 4) ≠ 0 → 0 ≤ (u q).str ∧ (u q).str < s.n) : Wf K (setD s d u) := by
  unfold YtdebnikolhhmgaaDoor.setD
  cases e : s.devs[d.toNat]? with
  | none => exact h
  | some q =>
    obtain ⟨hi, rfl⟩ := List.getElem?_eq_some_iff.1 e
    have hm := List.getElem_mem hi
    refine h.devs _ ?_ (fun q hq hf => ?_) (fun q hq hf => ?_)
    · unfold szs
      rw [List.map_set, h1 _ hm]
      have e : s.devs[d.toNat].secs.length = (s.devs.map fun q => q.secs.length)[d.toNat]'(by simpa using hi) := by simp
      rw [e, List.set_getElem_self]
    · rcases List.mem_or_eq_of_mem_set hq with hq | rfl
      · exact h.fd q hq hf
      · rw [h1 _ hm]; exact h.fd _ hm (h2 _ hm hf)
    · rcases List.mem_or_eq_of_mem_set hq with hq | rfl
      · exact h.fx q hq hf
      · exact h3 _ hm hf
theorem Wf.flags {K : Nat} {s : St} (h : Wf K s) (d : Int) (u : Nat → Nat) (h2 : ∀ f, ((u f) &&& 1) = 0 → (f &&& 1) = 0) (h3 : ∀ f, ((u f) &&& 4) ≠ 0 → (f &&& 4) ≠ 0) : Wf K (YtdebnikolhhmgaaDoor.setD s d fun q => { q with f := u q.f }) :=
  h.setD d _ (fun q hq => rfl) (fun q hq e => h2 _ e) (fun q hq e => h.fx q hq (h3 _ e))
theorem Wf.setSec {K : Nat} {s : St} (h : Wf K s) (d a : Int) (u : Sc → Sc) : Wf K (YtdebnikolhhmgaaDoor.setSec s d a u) :=
  h.setD d _ (fun q hq => by simp only; split <;> simp) (fun q hq e => e) (fun q hq e => h.fx q hq e)
theorem Wf.rows {K K' : Nat} {s : St} (h : Wf K s) (r : List Wt) (hK : K ≤ K') (hr : r.length ≤ K') (hx : ∀ x ∈ r, inR (szs s) x) : Wf K' { s with row := r } :=
  ⟨h.l0, h.l1, h.s0, by have := h.s1; simp only; omega, h.n1, hr, h.fd, h.fx, hx⟩
theorem Wf.settle {K : Nat} {s : St} (h : Wf K s) (x : Wt) (n : Nat) : Wf K (settleS s x n) := h.setSec _ _ _
theorem Wf.settles {K : Nat} : ∀ (l : List Wt) (s : St), Wf K s → Wf K (settles l s)
  | [], s, h => h
  | x :: l, s, h => Wf.settles l _ (h.settle x 256)
theorem Wf.flush {K : Nat} {s : St} (h : Wf K s) (d : Int) : Wf K (flushS s d) :=
  Wf.settles _ _ (h.rows _ (Nat.le_refl _) (Nat.le_trans (List.length_filter_le _ _) h.rw) fun x hx => h.fr x (List.mem_filter.1 hx).1)
theorem Wf.crK {K : Nat} {s : St} (h : Wf K s) (l : List Wt) (keep : List Bool) (torn : Nat) : ∀ k, Wf K (crK l keep torn s k).1
  | 0 => h
  | k + 1 => by
    have ih := h.crK l keep torn k
    unfold YtdebnikolhhmgaaDoor.crK
    split
    · exact ih
    · split
      · exact ih.settle _ _
      · exact ih.settle _ _
theorem Wf.crash {K : Nat} {s : St} (h : Wf K s) (keep : List Bool) (torn : Nat) : Wf K (crashS s keep torn) := by
  have h1 := (h.crK s.row keep torn s.row.length)
  have h2 := h1.devs ((YtdebnikolhhmgaaDoor.crK s.row keep torn s s.row.length).1.devs.map endQ) (by unfold szs endQ; simp [Function.comp_def]) (fun q hq hf => by
      obtain ⟨p, hp, rfl⟩ := List.mem_map.1 hq
      refine h1.fd p hp ?_
      have : ((p.f &&& 241) &&& 1) = 0 := hf
      rwa [Nat.and_assoc, show (241 &&& 1 : Nat) = 1 from by decide] at this) (fun q hq hf => by
      obtain ⟨p, hp, rfl⟩ := List.mem_map.1 hq
      have : ((p.f &&& 241) &&& 4) ≠ 0 := hf
      rw [Nat.and_assoc, show (241 &&& 4 : Nat) = 0 from by decide, Nat.and_zero] at this
      exact absurd rfl this)
  exact ⟨Int.le_refl _, by show (0 : Int) ≤ _; omega, h2.s0, h2.s1, h2.n1, Nat.zero_le _, h2.fd, h2.fx, fun x hx => by cases hx⟩
theorem Wf.step {K : Nat} {s : St} (h : Wf K s) : Wf (K + 1) (nStep s).2 := by
  unfold nStep
  split
  · exact ⟨h.l0, h.l1, h.s0, by have := h.s1; simp only; omega, h.n1, by have := h.rw; simp only; omega, h.fd, h.fx, h.fr⟩
  · rename_i hq
    refine ⟨?_, ?_, by have := h.s0; simp only; omega, by have := h.s1; simp only; omega, h.n1, by have := h.rw; simp only; omega, h.fd, h.fx, h.fr⟩
    · simp only
      split
      · rename_i hs
        have : s.left ≠ 0 := fun e => hq ⟨hs, e⟩
        have := h.l0
        omega
      · exact h.l0
    · simp only
      have := h.l1
      split <;> omega
theorem dCons_ind {P : St → Prop} {r1 r : Option Nat × St} (h1 : P r1.2) (h2 : P r.2) : P (dCons r1 r).2 := by unfold dCons; split; exact h2; exact h1
theorem mRes_ind {P : St → Prop} {r : Option Nat × St} {k : St → St} (h1 : P r.2) (h2 : r.1 = none → P (k r.2)) : P (mRes r k).2 := by
  unfold mRes
  split
  · rename_i e; exact h2 e
  · exact h1
def wrR (s : St) (d a : Int) (l : List UInt8) : Int × St := mRes (dCons (nR s, s) (dCons (nS s d a, s) (dCons (nA ((l.length : Int) == 256), s) (dCons (nT s d, s) (nStep s))))) fun s => wrK s d a l
def flR (s : St) (d : Int) : Int × St := mRes (dCons (nR s, s) (dCons (nD s d, s) (dCons (nT s d, s) (nStep s)))) fun s => flushS s d
def crR (s : St) (keep : List Bool) (torn : Int) : Int × St := mRes (nA (decide (0 ≤ torn) && decide (torn ≤ 255)), s) fun s => crashS s keep torn.toNat
def loR (s : St) (d : Int) : Int × St := mRes (dCons (nD s d, s) (nT s d, s)) fun s => devF s d 2
theorem Wf.lose {K : Nat} {s : St} (h : Wf K s) (d : Int) : Wf K (loR s d).2 :=
  mRes_ind (dCons_ind h h) fun e => by
    rw [show (dCons (nD s d, s) (nT s d, s)).2 = s from dCons_ind (P := fun x => x = s) rfl rfl]
    exact h.flags d (fun f => f ||| 2) (fun f e => by rw [Nat.and_or_distrib_right, show (2 &&& 1 : Nat) = 0 from by decide, Nat.or_zero] at e; exact e) (fun f e => by rw [Nat.and_or_distrib_right, show (2 &&& 4 : Nat) = 0 from by decide, Nat.or_zero] at e; exact e)
theorem Wf.crR {K : Nat} {s : St} (h : Wf K s) (keep : List Bool) (torn : Int) : Wf K (crR s keep torn).2 := mRes_ind h fun _ => h.crash _ _
theorem Wf.flR {K : Nat} {s : St} (h : Wf K s) (d : Int) : Wf (K + 1) (flR s d).2 :=
  have hh := h.mono (Nat.le_succ K)
  have h2 : Wf (K + 1) (dCons (nR s, s) (dCons (nD s d, s) (dCons (nT s d, s) (nStep s)))).2 := dCons_ind hh (dCons_ind hh (dCons_ind hh h.step))
  mRes_ind h2 fun _ => h2.flush d
theorem Wf.rdR {K : Nat} {s : St} (h : Wf K s) (d a : Int) : Wf K (rdR s d a).2 := by
  refine dCons_ind h (dCons_ind h (dCons_ind h ?_))
  unfold nFail
  split
  · refine h.setD d _ (fun q hq => rfl) (fun q hq e => ?_) (fun q hq e => ?_)
    · unfold failD failF at e
      simp only at e
      split at e
      · rw [Nat.and_or_distrib_right, show (8 &&& 1 : Nat) = 0 from by decide, Nat.or_zero] at e; exact e
      · rw [Nat.and_assoc, show (255 - 8 &&& 1 : Nat) = 1 from by decide] at e; exact e
    · refine h.fx q hq ?_
      unfold failD failF at e
      simp only at e
      split at e
      · rw [Nat.and_or_distrib_right, show (8 &&& 4 : Nat) = 0 from by decide, Nat.or_zero] at e; exact e
      · rw [Nat.and_assoc, show (255 - 8 &&& 4 : Nat) = 4 from by decide] at e; exact e
  · exact h
end Go.Proofs.YtdebnikolhhmgaaDoor

