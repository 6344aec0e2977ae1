/-
  Plain facts of what is apart, and of counting; of no program. No conditions but those that each theorem names.
-/
import Derived.Test.YtpgekoicbceliaaPA
namespace Go.Proofs.Ytpgekoicbceliaa
set_option linter.unusedVariables false
set_option linter.unusedSimpArgs false

def devs (l : List Ad) : List Int := l.map (·.1)
/-- How many unlike ones. -/
def dst : List Int → Nat
  | [] => 0
  | x :: r => if x ∈ r then dst r else dst r + 1
theorem dst_le : ∀ l, dst l ≤ l.length
  | [] => by simp [dst]
  | x :: r => by have := dst_le r; simp only [dst, List.length_cons]; split <;> omega
theorem dst_nodup : ∀ l, dst l = l.length ↔ l.Nodup
  | [] => by simp [dst]
  | x :: r => by
    have h1 := dst_le r
    have h2 := dst_nodup r
    rw [List.nodup_cons, ← h2]
    simp only [dst, List.length_cons]
    by_cases h : x ∈ r
    · simp [h]; omega
    · simp [h]
def apB (l : List Ad) : Bool := decide (devs l).Nodup
theorem apB_dst (l : List Ad) : (dst (devs l).reverse == l.length) = apB l := by
  have h := dst_nodup (devs l).reverse
  rw [(List.reverse_perm (devs l)).nodup_iff, List.length_reverse] at h
  have hl : (devs l).length = l.length := by simp [devs]
  rw [hl] at h
  unfold apB
  by_cases e : (devs l).Nodup
  · simp [e, h.2 e]
  · have : ¬ dst (devs l).reverse = l.length := fun h1 => e (h.1 h1)
    simp [e, this]
theorem devs_take_succ (l : List Ad) (i : Nat) (hi : i < l.length) : devs (l.take (i + 1)) = devs (l.take i) ++ [l[i].1] := by
  unfold devs
  rw [List.take_succ_eq_append_getElem hi, List.map_append]
  rfl
theorem mem_devs_take (l : List Ad) (i : Nat) (hi : i ≤ l.length) (d : Int) : d ∈ devs (l.take i) ↔ ∃ j, ∃ h : j < i, (l[j]'(by omega)).1 = d := by
  unfold devs
  rw [List.mem_map]
  constructor
  · rintro ⟨x, hx, rfl⟩
    obtain ⟨j, hj, rfl⟩ := List.getElem_of_mem hx
    simp at hj
    exact ⟨j, by omega, by rw [List.getElem_take]⟩
  · rintro ⟨j, hj, rfl⟩
    exact ⟨l[j]'(by omega), by rw [List.mem_take_iff_getElem]; exact ⟨j, Nat.lt_min.2 ⟨hj, by omega⟩, rfl⟩, rfl⟩
theorem nodup_take_succ (l : List Ad) (i : Nat) (hi : i < l.length) : (devs (l.take (i + 1))).Nodup ↔ ((devs (l.take i)).Nodup ∧ ∀ j, ∀ h : j < i, (l[j]'(by omega)).1 ≠ l[i].1) := by
  rw [devs_take_succ l i hi, List.nodup_append]
  constructor
  · rintro ⟨h1, _, h3⟩
    exact ⟨h1, fun j hj e => h3 _ ((mem_devs_take l i (by omega) _).2 ⟨j, hj, rfl⟩) _ (by simp) e⟩
  · rintro ⟨h1, h2⟩
    refine ⟨h1, by simp, fun a ha b hb => ?_⟩
    simp at hb
    subst hb
    obtain ⟨j, hj, rfl⟩ := (mem_devs_take l i (by omega) a).1 ha
    exact h2 j hj
theorem nodup_all (l : List Ad) : devs (l.take l.length) = devs l := by rw [List.take_length]
theorem nodup_take_of (l : List Ad) (i : Nat) (h : (devs l).Nodup) : (devs (l.take i)).Nodup := by
  unfold devs at *
  rw [List.map_take]
  exact h.sublist (List.take_sublist _ _)
/-- How many of a list are on a device. -/
def onD (d : Int) (l : List Ad) : Nat := (l.filter fun x => x.1 == d).length
theorem onD_snoc (d : Int) (l : List Ad) (x : Ad) : onD d (l ++ [x]) = onD d l + if x.1 = d then 1 else 0 := by
  unfold onD
  rw [List.filter_append]
  by_cases h : x.1 = d <;> simp [h]
theorem onD_le (d : Int) (l : List Ad) : onD d l ≤ l.length := List.length_filter_le _ _
theorem onD_zero (d : Int) : ∀ l : List Ad, onD d l = 0 ↔ d ∉ devs l
  | [] => by simp [onD, devs]
  | x :: r => by
    have := onD_zero d r
    by_cases h : x.1 = d
    · simp [onD, devs, h]
    · have e : onD d (x :: r) = onD d r := by simp [onD, h]
      rw [e, this]
      simp [devs]
      exact fun _ => fun e => h e.symm
theorem onD_one : ∀ l : List Ad, (∀ x ∈ l, onD x.1 l = 1) ↔ (devs l).Nodup
  | [] => by simp [devs]
  | x :: r => by
    have ih := onD_one r
    have hx : onD x.1 (x :: r) = onD x.1 r + 1 := by simp [onD]
    have hd : devs (x :: r) = x.1 :: devs r := rfl
    rw [hd, List.nodup_cons, ← ih, ← onD_zero]
    constructor
    · intro h
      have h0 : onD x.1 r = 0 := by have := h x (by simp); omega
      refine ⟨h0, fun y hy => ?_⟩
      have hne : ¬ x.1 = y.1 := fun e => (onD_zero x.1 r).1 h0 (by rw [e]; exact List.mem_map.2 ⟨y, hy, rfl⟩)
      have := h y (by simp [hy])
      simpa [onD, hne] using this
    · rintro ⟨h0, h⟩ y hy
      rcases List.mem_cons.1 hy with rfl | hy
      · omega
      · have hne : ¬ x.1 = y.1 := fun e => (onD_zero x.1 r).1 h0 (by rw [e]; exact List.mem_map.2 ⟨y, hy, rfl⟩)
        have := h y hy
        simpa [onD, hne] using this
end Go.Proofs.Ytpgekoicbceliaa
