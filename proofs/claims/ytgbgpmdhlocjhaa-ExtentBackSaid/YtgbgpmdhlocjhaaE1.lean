/-
  Plain facts of edges: what stands between them, and what a walk along them puts together. No conditions but those that each theorem names.
-/
import Derived.Test.YtgbgpmdhlocjhaaD9
namespace Go.Proofs.Ytgbgpmdhlocjhaa
open Go.RowKit Go.Sort
set_option linter.unusedVariables false
set_option linter.unusedSimpArgs false

/-- The edges of a list's runs. -/
def eds (i : Int) (l : List Ex) : List Ed := l.flatMap fun x => [(x.1, i, true), (x.1 + x.2, i, false)]
theorem eds_nil (i : Int) : eds i [] = [] := rfl
theorem eds_cons (i : Int) (x : Ex) (l : List Ex) : eds i (x :: l) = (x.1, i, true) :: (x.1 + x.2, i, false) :: eds i l := rfl
theorem eds_append (i : Int) (l m : List Ex) : eds i (l ++ m) = eds i l ++ eds i m := by simp [eds]
theorem eds_take (i : Int) (l : List Ex) (k : Nat) (hk : k < l.length) : eds i (l.take (k + 1)) = eds i (l.take k) ++ [(l[k].1, i, true), (l[k].1 + l[k].2, i, false)] := by
  rw [List.take_succ_eq_append_getElem hk, eds_append]; simp [eds]
theorem eds_length (i : Int) : ∀ l : List Ex, (eds i l).length = 2 * l.length
  | [] => rfl
  | x :: l => by have := eds_length i l; rw [eds_cons]; simp only [List.length_cons]; omega
theorem eds_list {i : Int} {l : List Ex} {e : Ed} (h : e ∈ eds i l) : e.2.1 = i := by
  simp only [eds, List.mem_flatMap, List.mem_cons, List.not_mem_nil, or_false] at h
  obtain ⟨x, _, rfl | rfl⟩ := h <;> rfl
theorem eds_bounds {i : Int} {l : List Ex} (hg : Good l) {e : Ed} (h : e ∈ eds i l) : 0 ≤ e.1 ∧ e.1 ≤ 4096 := by
  simp only [eds, List.mem_flatMap, List.mem_cons, List.not_mem_nil, or_false] at h
  obtain ⟨x, hx, rfl | rfl⟩ := h
  · have := hg.1 x hx; simp; omega
  · have := hg.1 x hx; simp; omega
def Up1 (l : List Ed) : Prop := l.Pairwise fun x y => x.1 < y.1
theorem eds_up (i : Int) : ∀ {l : List Ex}, Good l → Up1 (eds i l)
  | [], _ => List.Pairwise.nil
  | x :: l, h => by
    have hx := h.1 x (by simp)
    have hp := (List.pairwise_cons.1 h.2).1
    have hl : ∀ e ∈ eds i l, x.1 + x.2 < e.1 := fun e he => by
      simp only [eds, List.mem_flatMap, List.mem_cons, List.not_mem_nil, or_false] at he
      obtain ⟨y, hy, rfl | rfl⟩ := he
      · exact hp y hy
      · have := hp y hy
        have := h.1 y (by simp [hy])
        simp; omega
    rw [eds_cons]
    refine List.pairwise_cons.2 ⟨fun e he => ?_, List.pairwise_cons.2 ⟨hl, eds_up i h.tail⟩⟩
    rcases List.mem_cons.1 he with rfl | he
    · simp; omega
    · have := hl e he; simp; omega
theorem perm_up_eq : ∀ {l l' : List Ed}, l'.Perm l → Up l' → Up1 l → l' = l
  | [], l', hp, _, _ => List.perm_nil.1 hp
  | x :: t, [], hp, _, _ => by have := hp.length_eq; simp at this
  | x :: t, y :: t', hp, hu, h1 => by
    obtain ⟨u1, u2⟩ := List.pairwise_cons.1 hu
    obtain ⟨k1, k2⟩ := List.pairwise_cons.1 h1
    have e : y = x := by
      rcases List.mem_cons.1 (hp.mem_iff.1 (List.mem_cons_self ..)) with e | hy
      · exact e
      · have a := k1 y hy
        rcases List.mem_cons.1 (hp.mem_iff.2 (List.mem_cons_self ..)) with e | hx
        · exact e.symm
        · have := u1 x hx; omega
    subst e
    rw [perm_up_eq (List.Perm.cons_inv hp) u2 k2]
def fil (i : Int) (l : List Ed) : List Ed := l.filter fun e => e.2.1 == i
theorem fil_cons_same {i : Int} {e : Ed} {l : List Ed} (h : e.2.1 = i) : fil i (e :: l) = e :: fil i l := by simp [fil, h]
theorem fil_cons_other {i : Int} {e : Ed} {l : List Ed} (h : e.2.1 ≠ i) : fil i (e :: l) = fil i l := by simp [fil, h]
theorem fil_eds_same (i : Int) (l : List Ex) : fil i (eds i l) = eds i l := List.filter_eq_self.2 fun e he => by simp [eds_list he]
theorem fil_eds_other {i j : Int} (h : i ≠ j) (l : List Ex) : fil i (eds j l) = [] := List.filter_eq_nil_iff.2 fun e he => by simp [eds_list he]; omega
theorem fil_append (i : Int) (l m : List Ed) : fil i (l ++ m) = fil i l ++ fil i m := by simp [fil]
/-- Where a walk along edges stands of one of the lists: is it in a run? -/
def Side (i : Int) (l : List Ex) (inn : Bool) (fr : Int) (rest : List Ed) : Prop :=
  (inn = false ∧ ∃ l1 l2, l = l1 ++ l2 ∧ fil i rest = eds i l2 ∧ ∀ x ∈ l1, x.1 + x.2 ≤ fr) ∨
  (inn = true ∧ ∃ l1 x l2, l = l1 ++ x :: l2 ∧ fil i rest = (x.1 + x.2, i, false) :: eds i l2 ∧ x.1 ≤ fr ∧ ∀ y ∈ l1, y.1 + y.2 ≤ fr)
theorem Side.has {i : Int} {l : List Ex} {inn : Bool} {fr : Int} {rest : List Ed} (h : Side i l inn fr rest) (q : Int) (hr : ∀ e ∈ rest, q ≤ e.1) (s : Int) (h1 : fr ≤ s) (h2 : s < q) : hasE l s ↔ inn = true := by
  have hf : ∀ e ∈ fil i rest, q ≤ e.1 := fun e he => hr e ((List.mem_filter.1 he).1)
  rcases h with ⟨rfl, l1, l2, rfl, hfil, hl1⟩ | ⟨rfl, l1, x, l2, rfl, hfil, hx, hl1⟩
  · constructor
    · intro h
      exfalso
      rcases hasE_append.1 h with ⟨y, hy, h3⟩ | ⟨y, hy, h3⟩
      · have := hl1 y hy; omega
      · have : (y.1, i, true) ∈ eds i l2 := by simp only [eds, List.mem_flatMap]; exact ⟨y, hy, by simp⟩
        have := hf _ (hfil ▸ this)
        simp at this; omega
    · intro h; cases h
  · constructor
    · intro _; rfl
    · intro _
      have := hf (x.1 + x.2, i, false) (by rw [hfil]; simp)
      exact hasE_append.2 (.inr (hasE_cons.2 (.inl (by simp at this; omega))))
theorem Side.step {i : Int} {l : List Ex} {inn : Bool} {fr : Int} {e : Ed} {rest : List Ed} (h : Side i l inn fr (e :: rest)) (hfr : fr ≤ e.1) : Side i l (if e.2.1 = i then e.2.2 else inn) e.1 rest := by
  by_cases hi : e.2.1 = i
  · rw [if_pos hi]
    rcases h with ⟨rfl, l1, l2, rfl, hfil, hl1⟩ | ⟨rfl, l1, x, l2, rfl, hfil, hx, hl1⟩
    · rw [fil_cons_same hi] at hfil
      cases l2 with
      | nil => rw [eds_nil] at hfil; cases hfil
      | cons x l3 =>
        rw [eds_cons] at hfil
        obtain ⟨rfl, h4⟩ := List.cons.inj hfil
        exact .inr ⟨rfl, l1, x, l3, rfl, h4, Int.le_refl _, fun y hy => by have := hl1 y hy; omega⟩
    · rw [fil_cons_same hi] at hfil
      obtain ⟨rfl, h4⟩ := List.cons.inj hfil
      refine .inl ⟨rfl, l1 ++ [x], l2, by simp, h4, fun y hy => ?_⟩
      rcases List.mem_append.1 hy with hy | hy
      · have := hl1 y hy; simp at hfr; simp; omega
      · simp at hy; subst hy; exact Int.le_refl _
  · rw [if_neg hi]
    rcases h with ⟨rfl, l1, l2, rfl, hfil, hl1⟩ | ⟨rfl, l1, x, l2, rfl, hfil, hx, hl1⟩
    · rw [fil_cons_other hi] at hfil
      exact .inl ⟨rfl, l1, l2, rfl, hfil, fun y hy => by have := hl1 y hy; omega⟩
    · rw [fil_cons_other hi] at hfil
      exact .inr ⟨rfl, l1, x, l2, rfl, hfil, by omega, fun y hy => by have := hl1 y hy; omega⟩
theorem Side.end {i : Int} {l : List Ex} {inn : Bool} {fr : Int} (h : Side i l inn fr []) (s : Int) (hs : fr ≤ s) : ¬ hasE l s := by
  rcases h with ⟨rfl, l1, l2, rfl, hfil, hl1⟩ | ⟨rfl, l1, x, l2, rfl, hfil, hx, hl1⟩
  · cases l2 with
    | nil =>
      rintro ⟨y, hy, h3⟩
      have := hl1 y (by simpa using hy)
      omega
    | cons x l3 => rw [eds_cons] at hfil; cases hfil
  · cases hfil
/-- The walk's state behind k edges. -/
structure Wk (f : Bool → Bool → Bool) (l m : List Ex) (rest : List Ed) (fr : Int) (i0 i1 : Bool) (r : List Ex) : Prop where
  up : Up rest
  le : ∀ e ∈ rest, fr ≤ e.1
  bd : ∀ e ∈ rest, e.1 ≤ 4096 ∧ (e.2.1 = 0 ∨ e.2.1 = 1)
  fb : 0 ≤ fr ∧ fr ≤ 4096
  ru : Upto r fr
  hs : ∀ s, hasE r s ↔ 0 ≤ s ∧ s < fr ∧ f (hasB l s) (hasB m s) = true
  s0 : Side 0 l i0 fr rest
  s1 : Side 1 m i1 fr rest
theorem wk_start {f : Bool → Bool → Bool} {l m : List Ex} (hl : Good l) (hm : Good m) {es : List Ed} (hp : es.Perm (eds 0 l ++ eds 1 m)) (hu : Up es) : Wk f l m es 0 false false [] := by
  have hb : ∀ e ∈ es, 0 ≤ e.1 ∧ e.1 ≤ 4096 ∧ (e.2.1 = 0 ∨ e.2.1 = 1) := fun e he => by
    rcases List.mem_append.1 (hp.mem_iff.1 he) with h | h
    · have := eds_bounds hl h; exact ⟨this.1, this.2, .inl (eds_list h)⟩
    · have := eds_bounds hm h; exact ⟨this.1, this.2, .inr (eds_list h)⟩
  have e0 : fil 0 es = eds 0 l := by
    refine perm_up_eq ?_ (hu.filter _) (eds_up 0 hl)
    have := hp.filter fun e => e.2.1 == 0
    have h2 : fil 0 (eds 0 l ++ eds 1 m) = eds 0 l := by rw [fil_append, fil_eds_same, fil_eds_other (by decide), List.append_nil]
    rw [← h2]; exact this
  have e1 : fil 1 es = eds 1 m := by
    refine perm_up_eq ?_ (hu.filter _) (eds_up 1 hm)
    have := hp.filter fun e => e.2.1 == 1
    have h2 : fil 1 (eds 0 l ++ eds 1 m) = eds 1 m := by rw [fil_append, fil_eds_same, fil_eds_other (by decide), List.nil_append]
    rw [← h2]; exact this
  exact ⟨hu, fun e he => (hb e he).1, fun e he => (hb e he).2, by omega, Upto.nil _, fun s => ⟨fun h => absurd h (hasE_nil _), fun h => by omega⟩, .inl ⟨rfl, [], l, rfl, e0, by simp⟩, .inl ⟨rfl, [], m, rfl, e1, by simp⟩⟩
theorem wk_step {f : Bool → Bool → Bool} {l m : List Ex} {e : Ed} {rest : List Ed} {fr : Int} {i0 i1 : Bool} {r : List Ex} (h : Wk f l m (e :: rest) fr i0 i1 r) :
    Wk f l m rest e.1 (if e.2.1 = 0 then e.2.2 else i0) (if e.2.1 = 1 then e.2.2 else i1) (if f i0 i1 then putE r fr e.1 else r) := by
  obtain ⟨up, le, bd, fb, ru, hs, s0, s1⟩ := h
  have hfe := le e (by simp)
  have hbe := bd e (by simp)
  obtain ⟨u1, u2⟩ := List.pairwise_cons.1 up
  have hr : ∀ e' ∈ e :: rest, e.1 ≤ e'.1 := fun e' he => by
    rcases List.mem_cons.1 he with rfl | he
    · exact Int.le_refl _
    · exact u1 e' he
  have h0 := fun s h1 h2 => s0.has e.1 hr s h1 h2
  have h1 := fun s h1 h2 => s1.has e.1 hr s h1 h2
  have hf : ∀ s, fr ≤ s → s < e.1 → f (hasB l s) (hasB m s) = f i0 i1 := fun s k1 k2 => by
    have a := h0 s k1 k2
    have b := h1 s k1 k2
    rw [← hasB_iff] at a b
    rw [Bool.eq_iff_iff.2 a, Bool.eq_iff_iff.2 b]
  obtain ⟨p1, p2⟩ := putE_spec ru (b := e.1) fb.1 (Int.le_refl _) hfe hbe.1
  refine ⟨u2, u1, fun e' he => bd e' (by simp [he]), by omega, ?_, fun s => ?_, s0.step hfe, s1.step hfe⟩
  · split
    · exact p1
    · exact ru.mono hfe
  · split
    · rename_i hff
      rw [p2 s, hs s]
      constructor
      · rintro (⟨k1, k2, k3⟩ | k1)
        · exact ⟨k1, by omega, k3⟩
        · exact ⟨by omega, k1.2, by rw [hf s k1.1 k1.2]; exact hff⟩
      · rintro ⟨k1, k2, k3⟩
        by_cases hsf : s < fr
        · exact .inl ⟨k1, hsf, k3⟩
        · exact .inr ⟨by omega, k2⟩
    · rename_i hff
      rw [hs s]
      constructor
      · rintro ⟨k1, k2, k3⟩; exact ⟨k1, by omega, k3⟩
      · rintro ⟨k1, k2, k3⟩
        refine ⟨k1, ?_, k3⟩
        rcases Int.lt_or_le s fr with h | h
        · exact h
        · rw [hf s h k2] at k3; exact absurd k3 hff
theorem wk_end {f : Bool → Bool → Bool} (hf : f false false = false) {l m : List Ex} {fr : Int} {i0 i1 : Bool} {r : List Ex} (h : Wk f l m [] fr i0 i1 r) : IsL r fun s => 0 ≤ s ∧ s < 4096 ∧ f (hasB l s) (hasB m s) = true := by
  refine ⟨h.ru.1, fun s => (h.hs s).trans ⟨fun ⟨k1, k2, k3⟩ => ⟨k1, by have := h.fb; omega, k3⟩, fun ⟨k1, k2, k3⟩ => ⟨k1, ?_, k3⟩⟩⟩
  rcases Int.lt_or_le s fr with hlt | hle
  · exact hlt
  · have a := h.s0.end s hle
    have b := h.s1.end s hle
    rw [← hasB_iff] at a b
    simp only [Bool.not_eq_true] at a b
    rw [a, b, hf] at k3; cases k3
end Go.Proofs.Ytgbgpmdhlocjhaa
