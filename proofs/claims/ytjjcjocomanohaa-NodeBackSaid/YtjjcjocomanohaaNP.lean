/-
  Plain facts: a node's sector is unpacked as it, and packed back. No conditions but those that each theorem names.
-/
import Derived.Test.YtjjcjocomanohaaNO
namespace Go.Proofs.Ytjjcjocomanohaa
set_option linter.unusedVariables false
set_option linter.unusedSimpArgs false
set_option maxRecDepth 100000

theorem flat_chunk : ∀ {ps : List Pt} (k : Nat) {p : Pt} (r : List UInt8), (∀ q ∈ ps, (enc q).length = 47) → ps[k]? = some p → ((ps.flatMap enc ++ r).drop (k * 47)).take 47 = enc p
  | [], k, p, r, h, hp => by simp at hp
  | q :: t, 0, p, r, h, hp => by
    simp only [List.getElem?_cons_zero, Option.some.injEq] at hp
    subst hp
    simp only [List.flatMap_cons, Nat.zero_mul, List.drop_zero, List.append_assoc]
    exact List.take_left' (h q (by simp))
  | q :: t, k + 1, p, r, h, hp => by
    simp only [List.getElem?_cons_succ] at hp
    have ih := flat_chunk k r (fun x hx => h x (by simp [hx])) hp
    simp only [List.flatMap_cons, List.append_assoc]
    rw [show (k + 1) * 47 = 47 + k * 47 by omega, ← List.drop_drop, List.drop_left' (h q (by simp))]
    exact ih
/-- What is packed is unpacked. -/
theorem pack_good {n : Nd} (hb : nodeB n = true) (h4 : n.ps.length = 4) (hs : ∀ p ∈ n.ps, p.s.length = 32) : goodN (secB n) = true ∧ ndOf (secB n) = n := by
  obtain ⟨n1, n3, hst⟩ := nodeB_parts hb
  have henc : ∀ p ∈ n.ps, (enc p).length = 47 := fun p hp => enc_len (stand_may (hst p hp)) (hs p hp)
  have hlen : (secB n).length = 256 := by rw [← secK_four h4]; exact secK_length henc h4 4 (by omega)
  have hch : ∀ k, k < 4 → ∀ p, n.ps[k]? = some p → chunk (secB n) k = enc p := fun k hk p hp => by
    unfold chunk secB
    rw [show 1 + k * 47 = k * 47 + 1 by omega, List.drop_succ_cons]
    exact flat_chunk k _ henc hp
  have hnd : ndOf (secB n) = n := by
    obtain ⟨lv, ps⟩ := n
    unfold ndOf
    congr 1
    · simp only [secB, List.headD_cons]
      have : lv = 1 ∨ lv = 2 ∨ lv = 3 := by simp only at n1 n3; omega
      rcases this with e | e | e <;> rw [e] <;> rfl
    · refine List.ext_getElem (by simpa using h4.symm) fun j h1 h2 => ?_
      have hj : j < 4 := by simpa using h1
      simp only [List.getElem_map, List.getElem_range]
      have hp : ps[j]? = some ps[j] := List.getElem?_eq_getElem h2
      rw [hch j hj _ hp]
      exact (read_enc (stand_may (hst _ (List.getElem_mem h2))) (hs _ (List.getElem_mem h2))).2.2
  refine ⟨?_, hnd⟩
  have hok : okB (secB n) = true := okB_yes (fun j hj => by
    have hp : n.ps[j]? = some n.ps[j] := List.getElem?_eq_getElem (by omega)
    rw [hch j hj _ hp]
    exact (read_enc (stand_may (hst _ (List.getElem_mem (by omega)))) (hs _ (List.getElem_mem (by omega)))).1)
  unfold goodN
  rw [hnd, hok, hb, hlen]
  simp
/-- What is unpacked is packed. -/
theorem unpack_cases (S : List UInt8) : (unE S = 0 ∧ nchk (unNd S) = 0 ∧ packB (unNd S) = S) ∨ (unE S ≠ 0 ∧ unNd S = zeroNd) := by
  cases hg : goodN S with
  | true =>
    have h := hg
    simp only [goodN, Bool.and_eq_true, beq_iff_eq] at h
    obtain ⟨h1, h2, h3, h4⟩ := h
    exact .inl ⟨by simp [unE, hg], by simp [unNd, hg, nchk, h3], by simp [unNd, hg, packB, h3, h4]⟩
  | false =>
    refine .inr ⟨?_, by simp [unNd, hg]⟩
    simp only [unE, hg, Bool.false_eq_true, if_false]
    split <;> decide
theorem unNd_ads (S : List UInt8) : ∀ p ∈ (unNd S).ps, p.ads.length ≤ 1000000 := by
  unfold unNd
  split
  · exact ndOf_ads S
  · exact zero_ads
end Go.Proofs.Ytjjcjocomanohaa
