/-
  Plain facts of sets of addresses; of no program. No conditions but those that each theorem names.
-/
import Derived.Test.YtpgekoicbceliaaPB
import Derived.Test.YtpgekoicbceliaaCF
namespace Go.Proofs.Ytpgekoicbceliaa
set_option linter.unusedVariables false
set_option linter.unusedSimpArgs false

theorem rises_nodup {l : List Ad} (h : Rises l) : l.Nodup := h.imp fun {x y} h e => by subst e; rw [ltA_irrefl] at h; cases h
theorem perm_of_mem {l m : List Ad} (hl : l.Nodup) (hm : m.Nodup) (h : ∀ x, x ∈ l ↔ x ∈ m) : l.Perm m := (List.perm_ext_iff_of_nodup hl hm).2 h
theorem srt_perm {l : List Ad} (h : l.Nodup) : (srt l).Perm l := perm_of_mem (rises_nodup (rises_srt l)) h fun x => mem_srt
theorem srt_nil : srt [] = [] := rfl
theorem srt_empty {l : List Ad} (h : ∀ x, x ∉ l) : srt l = [] := by
  cases hl : srt l with
  | nil => rfl
  | cons x r => exact absurd (mem_srt.1 (by rw [hl]; simp)) (h x)
theorem srt_srt (l : List Ad) : srt (srt l) = srt l := srt_congr fun x => mem_srt
theorem mem_minA {x : Ad} {l m : List Ad} : x ∈ minA l m ↔ x ∈ l ∧ x ∉ m := by simp [minA]
theorem mem_bothA {x : Ad} {l m : List Ad} : x ∈ bothA l m ↔ x ∈ l ∧ x ∈ m := by simp [bothA]
theorem minA_len (l m : List Ad) : (minA l m).length ≤ l.length := List.length_filter_le _ _
theorem bothA_len (l m : List Ad) : (bothA l m).length ≤ l.length := List.length_filter_le _ _
theorem onA_len (l : List Ad) (d : Int) : (onA l d).length ≤ l.length := List.length_filter_le _ _
/-- What each has alone, and what both have, are what either has, in number too. -/
theorem parts_len (a b : List Ad) : (srt (minA a b)).length + (srt (minA b a)).length + (srt (bothA a b)).length = (srt (a ++ b)).length := by
  have h1 := rises_nodup (rises_srt (minA a b))
  have h2 := rises_nodup (rises_srt (minA b a))
  have h3 := rises_nodup (rises_srt (bothA a b))
  have h4 := rises_nodup (rises_srt (a ++ b))
  have hn : (srt (minA a b) ++ srt (minA b a) ++ srt (bothA a b)).Nodup := by
    refine List.nodup_append.2 ⟨List.nodup_append.2 ⟨h1, h2, fun x hx y hy e => ?_⟩, h3, fun x hx y hy e => ?_⟩
    · subst e
      rw [mem_srt, mem_minA] at hx hy
      exact hx.2 hy.1
    · subst e
      rw [mem_srt, mem_bothA] at hy
      rcases List.mem_append.1 hx with h | h <;> rw [mem_srt, mem_minA] at h
      · exact h.2 hy.2
      · exact h.2 hy.1
  have hp := (perm_of_mem hn h4 fun x => by
    simp only [List.mem_append, mem_srt, mem_minA, mem_bothA]
    constructor
    · rintro ((h | h) | h)
      · exact .inl h.1
      · exact .inr h.1
      · exact .inl h.1
    · rintro (h | h)
      · by_cases hb : x ∈ b
        · exact .inr ⟨h, hb⟩
        · exact .inl (.inl ⟨h, hb⟩)
      · by_cases ha : x ∈ a
        · exact .inr ⟨ha, h⟩
        · exact .inl (.inr ⟨h, ha⟩)).length_eq
  simp only [List.length_append] at hp
  omega
theorem parts_no1 (a b : List Ad) : srt (bothA (srt (minA a b)) b) = [] := srt_empty fun x hx => by
  rw [mem_bothA, mem_srt, mem_minA] at hx
  exact hx.1.2 hx.2
theorem parts_no2 (a b : List Ad) : srt (bothA (srt (minA a b)) (srt (minA b a))) = [] := srt_empty fun x hx => by
  rw [mem_bothA, mem_srt, mem_minA, mem_srt, mem_minA] at hx
  exact hx.1.2 hx.2.1
theorem parts_all (a b : List Ad) : srt (srt (srt (minA a b) ++ srt (bothA a b)) ++ srt (minA b a)) = srt (a ++ b) := srt_congr fun x => by
  simp only [List.mem_append, mem_srt, mem_minA, mem_bothA]
  constructor
  · rintro ((h | h) | h)
    · exact .inl h.1
    · exact .inl h.1
    · exact .inr h.1
  · rintro (h | h)
    · by_cases hb : x ∈ b
      · exact .inl (.inr ⟨h, hb⟩)
      · exact .inl (.inl ⟨h, hb⟩)
    · by_cases ha : x ∈ a
      · exact .inl (.inr ⟨ha, h⟩)
      · exact .inr ⟨h, ha⟩
theorem parts_turn (a b : List Ad) : srt (b ++ a) = srt (a ++ b) := srt_congr fun x => by simp only [List.mem_append, or_comm]
/-- What is apart stays so. -/
theorem nodup_of_devs {l : List Ad} (h : (devs l).Nodup) : l.Nodup := by
  have h0 : (l.map (·.1)).Nodup := h
  have h' := List.pairwise_map.1 h0
  exact h'.imp fun {x y} h e => h (by rw [e])
theorem apart_sort {l : List Ad} (h : (devs l).Nodup) : (devs (srt l)).Nodup ∧ (srt l).length = l.length := by
  have hp := srt_perm (nodup_of_devs h)
  exact ⟨(show (devs (srt l)).Perm (devs l) from hp.map (fun x : Ad => x.1)).nodup_iff.2 h, hp.length_eq⟩
theorem apart_minus {l m : List Ad} (h : (devs l).Nodup) : (devs (srt (minA l m))).Nodup := by
  have hs : (devs (minA l m)).Nodup := by
    unfold devs minA
    exact h.sublist ((List.filter_sublist).map _)
  exact (apart_sort hs).1
end Go.Proofs.Ytpgekoicbceliaa
