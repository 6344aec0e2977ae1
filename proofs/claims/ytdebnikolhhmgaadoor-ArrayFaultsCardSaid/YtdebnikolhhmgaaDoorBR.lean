/-
  What is kept by a write. No conditions but those that each theorem names.
-/
import Derived.Test.YtdebnikolhhmgaaDoorBQ
namespace Go.Proofs.YtdebnikolhhmgaaDoor
open Go.RowKit
set_option linter.unusedVariables false
set_option linter.unusedSimpArgs false
set_option maxRecDepth 100000

open Kr (OwnE SlE Enco RowTys)
theorem strayAt_in {K : Nat} {s : St} (h : Wf K s) {d a : Int} (ha : 0 ≤ a ∧ a < s.n) : 0 ≤ strayAt s d a ∧ strayAt s d a < s.n := by
  unfold strayAt
  cases e : s.devs[d.toNat]? with
  | none => exact ha
  | some q =>
    simp only
    split
    · rename_i hf
      refine h.fx q (List.mem_of_getElem? e) ?_
      rw [Nat.and_assoc, show (253 &&& 4 : Nat) = 4 from by decide] at hf
      simpa using hf
    · exact ha
theorem usedS_szs (s : St) (d : Int) : szs (usedS s d) = szs s := setD_szs fun q => rfl
theorem Wf.used {K : Nat} {s : St} (h : Wf K s) (d : Int) : Wf K (usedS s d) :=
  h.flags d (fun f => (f &&& 253) &&& 251) (fun f e => by rw [Nat.and_assoc, Nat.and_assoc, show (253 &&& (251 &&& 1) : Nat) = 1 from by decide] at e; exact e) (fun f e => by
    rw [Nat.and_assoc, Nat.and_assoc, show (253 &&& (251 &&& 4) : Nat) = 0 from by decide, Nat.and_zero] at e
    exact absurd rfl e)
theorem Wf.lay {K : Nat} {s : St} (h : Wf (K + 1) s) (hr : s.row.length ≤ K) (d a : Int) (b : FB) (hx : inR (szs s) ⟨d, a, b⟩) : Wf (K + 1) (layS s d a b) := by
  unfold layS
  exact (h.rows (s.row ++ [(⟨d, a, b⟩ : Wt)]) (Nat.le_refl _) (by simp; omega) fun x hm => by
    rcases List.mem_append.1 hm with hm | hm
    · exact h.fr x hm
    · rw [List.mem_singleton.1 hm]; exact hx).setSec d a _
theorem Wf.wrR {K : Nat} {s : St} (h : Wf K s) (d a : Int) (l : List UInt8) : Wf (K + 1) (wrR s d a l).2 := by
  have hh := h.mono (Nat.le_succ K)
  have h2 : Wf (K + 1) (dCons (nR s, s) (dCons (nS s d a, s) (dCons (nA ((l.length : Int) == 256), s) (dCons (nT s d, s) (nStep s))))).2 := dCons_ind hh (dCons_ind hh (dCons_ind hh (dCons_ind hh h.step)))
  refine mRes_ind h2 fun hq => ?_
  obtain ⟨q0, q1⟩ := dCons_of hq
  obtain ⟨q1, q2⟩ := dCons_of q1
  obtain ⟨q2, q3⟩ := dCons_of q2
  obtain ⟨q3, q4⟩ := dCons_of q3
  rw [dCons_none q0, dCons_none q1, dCons_none q2, dCons_none q3]
  obtain ⟨t1, t2, t3⟩ := nStep_none q4
  have h1 := h.step
  have hr1 : (nStep s).2.row.length ≤ K := by rw [t2]; exact h.rw
  obtain ⟨hi, hd0, hd9⟩ := okD_at (nS_ok q1).1
  obtain ⟨hj, ha0, ha9⟩ := okA_at (nS_ok q1).2
  have hlen := nT_len h.fd hi q3
  have hz : szs (nStep s).2 = szs s := by unfold szs; rw [t1]
  generalize (nStep s).2 = s1 at *
  unfold wrK
  split
  · rename_i hl
    unfold wrS
    split
    · exact h1.flags d (fun f => f &&& 253) (fun f e => by rw [Nat.and_assoc, show (253 &&& 1 : Nat) = 1 from by decide] at e; exact e) (fun f e => by rw [Nat.and_assoc, show (253 &&& 4 : Nat) = 4 from by decide] at e; exact e)
    · have hst := strayAt_in h1 (d := d) (a := a) (by rw [t3]; exact ⟨ha0, ha9⟩)
      refine (h1.used d).lay (by unfold usedS; rw [(setD_row _ _ _).1]; exact hr1) d _ _ ⟨hd0, hst.1, s.n, ?_, by rw [← t3]; exact hst.2⟩
      rw [usedS_szs, hz]
      unfold szs
      rw [List.getElem?_map, List.getElem?_eq_getElem hi, ← hlen]
      rfl
  · exact h1
end Go.Proofs.YtdebnikolhhmgaaDoor

