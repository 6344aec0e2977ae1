/-
  Plain facts: what bytes are read as. No conditions but those that each theorem names.
-/
import Derived.Test.YtjjcjocomanohaaQB
namespace Go.Proofs.Ytjjcjocomanohaa
open Go.RowKit
set_option linter.unusedVariables false
set_option linter.unusedSimpArgs false
set_option maxRecDepth 100000

/-- What bytes are told as, that were told of a pointer. -/
theorem read_enc {p : Pt} (h : may p) (hs : p.s.length = 32) : readE (enc p) = 0 ∧ readAt (enc p) = 0 ∧ readPt (enc p) = p := by
  obtain ⟨h1, h2⟩ := enc_good h hs
  exact ⟨by simp [readE, h1], by simp [readAt, h1], by simp [readPt, h1, h2]⟩
theorem read_cases (l : List UInt8) : (readE l = 0 ∧ may (readPt l) ∧ enc (readPt l) = l ∧ (readPt l).ads.length ≤ 3) ∨ (readE l ≠ 0 ∧ 0 ≤ readAt l ∧ readAt l ≤ l.length) := by
  by_cases h : goodB l = true
  · obtain ⟨h1, h2, h3, h4⟩ := (goodB_iff l).1 h
    refine .inl ⟨by simp [readE, h], by simp [readPt, h, h3], by simp [readPt, h, h4], ?_⟩
    simp [readPt, h, rawPt]
    exact h2
  · right
    have h' : goodB l = false := by simpa using h
    by_cases h47 : l.length = 47
    · exact ⟨by simp [readE, h', h47], by simp [readAt, h', h47], by simp [readAt, h', h47]⟩
    · by_cases h2 : l.length < 47
      · exact ⟨by simp [readE, h', h47], by simp [readAt, h', h47, h2], by simp [readAt, h', h47, h2]⟩
      · exact ⟨by simp [readE, h', h47], by simp [readAt, h', h47, h2], by simp [readAt, h', h47, h2]; omega⟩
theorem read_len (l : List UInt8) : (readPt l).ads.length ≤ 3 := by
  by_cases h : goodB l = true
  · obtain ⟨h1, h2, h3, h4⟩ := (goodB_iff l).1 h
    simp [readPt, h, rawPt]
    exact h2
  · have h' : goodB l = false := by simpa using h
    simp [readPt, h', zeroPt]
/-- A pointer that may be is a hole just if it has no address. -/
theorem may_hole {p : Pt} (h : may p) : hole p = decide (p.ads.length = 0) := by
  unfold may MayRest at h
  rcases h with h | h
  · rw [h]
    have : p.ads = [] := by rw [hole_iff.1 h]; rfl
    simp [this]
  · have h1 : hole p ≠ true := fun e => by
      have := h.1
      rw [hole_iff.1 e] at this
      simp [zeroPt] at this
    have h2 := h.1
    have h3 : hole p = false := by simpa using h1
    rw [h3]
    symm
    simp
    intro e
    rw [e] at h2
    simp at h2
end Go.Proofs.Ytjjcjocomanohaa
