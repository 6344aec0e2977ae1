/-
  Plain facts of addresses: their order, and the set of a list as one list; of no program. No conditions but those that each theorem names.
-/
namespace Go.Proofs.Ytafedmahehbggaa
set_option linter.unusedVariables false
set_option linter.unusedSimpArgs false

/-- An address: its device, its sector. -/
abbrev Ad := Int × Int
def ltA (x y : Ad) : Bool := decide (x.1 < y.1 ∨ x.1 = y.1 ∧ x.2 < y.2)
theorem ltA_iff {x y : Ad} : ltA x y = true ↔ (x.1 < y.1 ∨ x.1 = y.1 ∧ x.2 < y.2) := by simp [ltA]
theorem ltA_not {x y : Ad} : ltA x y = false ↔ ¬ (x.1 < y.1 ∨ x.1 = y.1 ∧ x.2 < y.2) := by simp [ltA]
theorem ltA_irrefl (x : Ad) : ltA x x = false := by rw [ltA_not]; omega
theorem ltA_trans {x y z : Ad} (h1 : ltA x y = true) (h2 : ltA y z = true) : ltA x z = true := by rw [ltA_iff] at *; omega
theorem ltA_asymm {x y : Ad} (h : ltA x y = true) : ltA y x = false := by rw [ltA_iff] at h; rw [ltA_not]; omega
theorem ad_ext {x y : Ad} (h1 : x.1 = y.1) (h2 : x.2 = y.2) : x = y := Prod.ext h1 h2
theorem ltA_total {x y : Ad} (h1 : ltA x y = false) (h2 : ltA y x = false) : x = y := by rw [ltA_not] at *; exact ad_ext (by omega) (by omega)
theorem ltA_ntrans {x y z : Ad} (h1 : ltA x y = false) (h2 : ltA y z = false) : ltA x z = false := by rw [ltA_not] at *; omega

/-- Each stands behind one that is ahead of it. -/
def Rises (l : List Ad) : Prop := l.Pairwise fun x y => ltA x y = true
theorem Rises.nil : Rises [] := List.Pairwise.nil
theorem rises_eq : ∀ {l m : List Ad}, Rises l → Rises m → (∀ x, x ∈ l ↔ x ∈ m) → l = m
  | [], [], _, _, _ => rfl
  | [], y :: m, _, _, h => by have := (h y).2 (by simp); simp at this
  | x :: l, [], _, _, h => by have := (h x).1 (by simp); simp at this
  | x :: l, y :: m, hl, hm, h => by
    obtain ⟨h1, h2⟩ := List.pairwise_cons.1 hl
    obtain ⟨k1, k2⟩ := List.pairwise_cons.1 hm
    have e : x = y := by
      rcases List.mem_cons.1 ((h x).1 (by simp)) with e | hx
      · exact e
      · rcases List.mem_cons.1 ((h y).2 (by simp)) with e | hy
        · exact e.symm
        · have a := k1 x hx
          have b := h1 y hy
          rw [ltA_asymm a] at b
          cases b
    subst e
    rw [rises_eq h2 k2 fun z => ?_]
    constructor
    · intro hz
      rcases List.mem_cons.1 ((h z).1 (by simp [hz])) with e | hz'
      · subst e; have := h1 z hz; rw [ltA_irrefl] at this; cases this
      · exact hz'
    · intro hz
      rcases List.mem_cons.1 ((h z).2 (by simp [hz])) with e | hz'
      · subst e; have := k1 z hz; rw [ltA_irrefl] at this; cases this
      · exact hz'

/-- How many of a list's first ones are ahead of x. -/
def cnt (x : Ad) : List Ad → Nat
  | [] => 0
  | y :: r => if ltA y x then cnt x r + 1 else 0
theorem cnt_le (x : Ad) : ∀ l, cnt x l ≤ l.length
  | [] => by simp [cnt]
  | y :: r => by have := cnt_le x r; simp only [cnt, List.length_cons]; split <;> omega
theorem cnt_lt (x : Ad) : ∀ (l : List Ad) (i : Nat) (h : i < l.length), i < cnt x l → ltA l[i] x = true
  | [], i, h, _ => by simp at h
  | y :: r, 0, h, hi => by
    simp only [cnt] at hi
    split at hi
    · assumption
    · omega
  | y :: r, i + 1, h, hi => by
    simp only [cnt] at hi
    split at hi
    · exact cnt_lt x r i (by simpa using h) (by omega)
    · omega
theorem cnt_at (x : Ad) : ∀ (l : List Ad) (h : cnt x l < l.length), ltA l[cnt x l] x = false
  | [], h => by simp at h
  | y :: r, h => by
    by_cases hy : ltA y x = true
    · have e : cnt x (y :: r) = cnt x r + 1 := by simp [cnt, hy]
      have h' : cnt x r < r.length := by simp [e] at h; omega
      simp only [e, List.getElem_cons_succ]
      exact cnt_at x r h'
    · have e : cnt x (y :: r) = 0 := by simp [cnt, hy]
      simp only [e, List.getElem_cons_zero]
      simpa using hy
theorem cnt_unique (x : Ad) (l : List Ad) (k : Nat) (hk : k ≤ l.length) (h1 : ∀ i (h : i < l.length), i < k → ltA l[i] x = true) (h2 : ∀ h : k < l.length, ltA l[k] x = false) : k = cnt x l := by
  rcases Nat.lt_trichotomy k (cnt x l) with h | h | h
  · have hl := cnt_le x l
    have := cnt_lt x l k (by omega) h
    rw [h2 (by omega)] at this
    cases this
  · exact h
  · have := h1 (cnt x l) (by omega) h
    rw [cnt_at x l (by omega)] at this
    cases this
/-- x put into a list that rises. -/
def ins (x : Ad) (l : List Ad) : List Ad := if l[cnt x l]? = some x then l else l.take (cnt x l) ++ x :: l.drop (cnt x l)
theorem mem_ins (x y : Ad) (l : List Ad) : y ∈ ins x l ↔ y = x ∨ y ∈ l := by
  unfold ins
  split
  · rename_i h
    have := List.mem_of_getElem? h
    constructor
    · exact fun h => .inr h
    · rintro (rfl | h)
      · exact this
      · exact h
  · have e : y ∈ l ↔ y ∈ l.take (cnt x l) ∨ y ∈ l.drop (cnt x l) := by
      rw [← List.mem_append, List.take_append_drop]
    rw [e]
    simp only [List.mem_append, List.mem_cons]
    constructor
    · rintro (h | h | h)
      · exact .inr (.inl h)
      · exact .inl h
      · exact .inr (.inr h)
    · rintro (h | h | h)
      · exact .inr (.inl h)
      · exact .inl h
      · exact .inr (.inr h)
theorem rises_ins (x : Ad) (l : List Ad) (h : Rises l) : Rises (ins x l) := by
  unfold ins
  split
  · exact h
  · rename_i hne
    have h0 : Rises (l.take (cnt x l) ++ l.drop (cnt x l)) := by rw [List.take_append_drop]; exact h
    obtain ⟨p1, p2, p3⟩ := List.pairwise_append.1 h0
    have a1 : ∀ y ∈ l.take (cnt x l), ltA y x = true := fun y hy => by
      obtain ⟨i, hi, rfl⟩ := List.getElem_of_mem hy
      simp only [List.length_take] at hi
      rw [List.getElem_take]
      exact cnt_lt x l i (by omega) (by omega)
    have a2 : ∀ y ∈ l.drop (cnt x l), ltA x y = true := fun y hy => by
      have hlt : cnt x l < l.length := by
        rcases Nat.lt_or_ge (cnt x l) l.length with h | h
        · exact h
        · rw [List.drop_of_length_le h] at hy; simp at hy
      have hf := cnt_at x l hlt
      have hxy : ltA x l[cnt x l] = true := by
        cases hc : ltA x l[cnt x l]
        · exact absurd (by rw [List.getElem?_eq_getElem hlt, ltA_total hf hc]) hne
        · rfl
      rw [List.drop_eq_getElem_cons hlt] at hy p2
      rcases List.mem_cons.1 hy with rfl | hy'
      · exact hxy
      · exact ltA_trans hxy ((List.pairwise_cons.1 p2).1 y hy')
    refine List.pairwise_append.2 ⟨p1, List.pairwise_cons.2 ⟨a2, p2⟩, fun y hy z hz => ?_⟩
    rcases List.mem_cons.1 hz with rfl | hz'
    · exact a1 y hy
    · exact p3 y hy z hz'
/-- The set of a list, as the list that rises. -/
def srt (l : List Ad) : List Ad := l.foldl (fun r x => ins x r) []
theorem srt_snoc (l : List Ad) (x : Ad) : srt (l ++ [x]) = ins x (srt l) := by simp [srt]
theorem rises_foldl : ∀ (l : List Ad) (r : List Ad), Rises r → Rises (l.foldl (fun r x => ins x r) r)
  | [], _, h => h
  | x :: l, r, h => rises_foldl l _ (rises_ins x r h)
theorem rises_srt (l : List Ad) : Rises (srt l) := rises_foldl l [] Rises.nil
theorem mem_foldl (y : Ad) : ∀ (l : List Ad) (r : List Ad), y ∈ l.foldl (fun r x => ins x r) r ↔ y ∈ l ∨ y ∈ r
  | [], r => by simp
  | x :: l, r => by
    rw [List.foldl_cons, mem_foldl y l, mem_ins, List.mem_cons]
    constructor
    · rintro (h | h | h)
      · exact .inl (.inr h)
      · exact .inl (.inl h)
      · exact .inr h
    · rintro ((h | h) | h)
      · exact .inr (.inl h)
      · exact .inl h
      · exact .inr (.inr h)
theorem mem_srt {y : Ad} {l : List Ad} : y ∈ srt l ↔ y ∈ l := by simp [srt, mem_foldl]
theorem srt_eq {r l : List Ad} (h : Rises r) (hm : ∀ x, x ∈ r ↔ x ∈ l) : r = srt l := rises_eq h (rises_srt l) fun x => (hm x).trans mem_srt.symm
theorem srt_congr {l m : List Ad} (h : ∀ x, x ∈ l ↔ x ∈ m) : srt l = srt m := srt_eq (rises_srt l) fun x => mem_srt.trans (h x)
theorem ins_length (x : Ad) (l : List Ad) : (ins x l).length ≤ l.length + 1 := by
  unfold ins
  split
  · omega
  · have := cnt_le x l; simp; omega
theorem srt_length (l : List Ad) : (srt l).length ≤ l.length := by
  have : ∀ (l : List Ad) (r : List Ad), (l.foldl (fun r x => ins x r) r).length ≤ l.length + r.length := by
    intro l
    induction l with
    | nil => intro r; simp
    | cons x l ih => intro r; have := ih (ins x r); have := ins_length x r; simp only [List.foldl_cons, List.length_cons]; omega
  simpa [srt] using this l []

/-- A list without twins, sorted, rises. -/
theorem rises_mergeSort (l : List Ad) (hn : l.Nodup) : Rises (l.mergeSort fun x y => !ltA y x) := by
  have tr : ∀ a b c : Ad, (!ltA b a) = true → (!ltA c b) = true → (!ltA c a) = true := fun a b c h1 h2 => by
    simp only [Bool.not_eq_true'] at *; exact ltA_ntrans h2 h1
  have to : ∀ a b : Ad, ((!ltA b a) || (!ltA a b)) = true := fun a b => by
    cases h : ltA b a
    · simp
    · rw [ltA_asymm h]; simp
  have hp := List.pairwise_mergeSort tr to l
  have hnd : (l.mergeSort fun x y => !ltA y x).Nodup := (List.mergeSort_perm l _).nodup_iff.2 hn
  refine (hp.and hnd).imp ?_
  rintro x y ⟨h1, h2⟩
  cases hc : ltA x y
  · exact absurd (ltA_total hc (by simpa using h1)) h2
  · rfl
theorem mergeSort_srt {l m : List Ad} (hn : l.Nodup) (hm : ∀ x, x ∈ l ↔ x ∈ m) : (l.mergeSort fun x y => !ltA y x) = srt m :=
  srt_eq (rises_mergeSort l hn) fun x => (List.mergeSort_perm l _).mem_iff.trans (hm x)
end Go.Proofs.Ytafedmahehbggaa
