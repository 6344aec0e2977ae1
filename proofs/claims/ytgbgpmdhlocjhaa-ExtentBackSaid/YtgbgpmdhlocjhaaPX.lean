/-
  Plain facts of sets of sectors as runs, and as lists that rise; of no program. No conditions but those that each theorem names.
-/
namespace Go.Proofs.Ytgbgpmdhlocjhaa
set_option linter.unusedVariables false
set_option linter.unusedSimpArgs false

/-- A run: where it begins, how many sectors it has. -/
abbrev Ex := Int × Int
def hasE (l : List Ex) (s : Int) : Prop := ∃ x ∈ l, x.1 ≤ s ∧ s < x.1 + x.2
def Good (l : List Ex) : Prop := (∀ x ∈ l, 0 ≤ x.1 ∧ 1 ≤ x.2 ∧ x.1 + x.2 ≤ 4096) ∧ l.Pairwise fun x y => x.1 + x.2 < y.1
/-- May a list of runs be, the first of which may not begin ahead of 'a'? -/
def okF : Int → List Ex → Bool
  | _, [] => true
  | a, x :: r => if x.1 < a ∨ x.2 < 1 ∨ 4096 - x.1 < x.2 then false else okF (x.1 + x.2 + 1) r
theorem hasE_nil (s : Int) : ¬ hasE [] s := by rintro ⟨x, h, _⟩; simp at h
theorem hasE_cons {x : Ex} {l : List Ex} {s : Int} : hasE (x :: l) s ↔ (x.1 ≤ s ∧ s < x.1 + x.2) ∨ hasE l s := by
  simp [hasE]
theorem hasE_append {l m : List Ex} {s : Int} : hasE (l ++ m) s ↔ hasE l s ∨ hasE m s := by
  unfold hasE
  constructor
  · rintro ⟨x, h, h2⟩
    rcases List.mem_append.1 h with h | h
    · exact .inl ⟨x, h, h2⟩
    · exact .inr ⟨x, h, h2⟩
  · rintro (⟨x, h, h2⟩ | ⟨x, h, h2⟩)
    · exact ⟨x, List.mem_append.2 (.inl h), h2⟩
    · exact ⟨x, List.mem_append.2 (.inr h), h2⟩
theorem okF_iff : ∀ {l : List Ex} {a : Int}, okF a l = true ↔ (∀ x ∈ l, a ≤ x.1 ∧ 1 ≤ x.2 ∧ x.1 + x.2 ≤ 4096) ∧ l.Pairwise fun x y => x.1 + x.2 < y.1
  | [], a => by simp [okF]
  | x :: r, a => by
    unfold okF
    split
    · rename_i h
      constructor
      · intro h; cases h
      · rintro ⟨h1, _⟩
        have := h1 x (by simp)
        omega
    · rename_i h
      rw [okF_iff, List.pairwise_cons]
      constructor
      · rintro ⟨h1, h2⟩
        refine ⟨fun y hy => ?_, fun y hy => ?_, h2⟩
        · rcases List.mem_cons.1 hy with rfl | hy
          · omega
          · have := h1 y hy; omega
        · have := h1 y hy; omega
      · rintro ⟨h1, h2, h3⟩
        refine ⟨fun y hy => ?_, h3⟩
        have a1 := h1 y (by simp [hy])
        have a2 := h2 y hy
        omega
theorem good_iff {l : List Ex} : okF 0 l = true ↔ Good l := okF_iff
theorem good_not {l : List Ex} : okF 0 l = false ↔ ¬ Good l := by
  rw [← good_iff]; simp
instance (l : List Ex) : Decidable (Good l) := decidable_of_iff _ good_iff
theorem Good.nil : Good [] := ⟨by simp, List.Pairwise.nil⟩
theorem Good.tail {x : Ex} {l : List Ex} (h : Good (x :: l)) : Good l := ⟨fun y hy => h.1 y (by simp [hy]), (List.pairwise_cons.1 h.2).2⟩
theorem Good.left {l m : List Ex} (h : Good (l ++ m)) : Good l := ⟨fun y hy => h.1 y (by simp [hy]), (List.pairwise_append.1 h.2).1⟩
theorem Good.bounds {l : List Ex} (h : Good l) {s : Int} (hs : hasE l s) : 0 ≤ s ∧ s < 4096 := by
  obtain ⟨x, hx, h1⟩ := hs
  have := h.1 x hx
  omega
theorem okF_len : ∀ {l : List Ex} {a : Int}, okF a l = true → a ≤ 4097 → (l.length : Int) ≤ 4097 - a
  | [], a, _, h => by simp; omega
  | x :: r, a, h, ha => by
    unfold okF at h
    split at h
    · cases h
    · rename_i h1
      have := okF_len h (by omega)
      simp only [List.length_cons]
      omega
theorem Good.len {l : List Ex} (h : Good l) : l.length ≤ 4097 := by
  have := okF_len (good_iff.2 h) (by omega)
  omega
theorem good_eq : ∀ {l m : List Ex}, Good l → Good m → (∀ s, hasE l s ↔ hasE m s) → l = m
  | [], [], _, _, _ => rfl
  | [], y :: m, _, hm, h => by
    have h1 := hm.1 y (by simp)
    exact absurd ((h y.1).2 (hasE_cons.2 (.inl (by omega)))) (hasE_nil _)
  | x :: l, [], hl, _, h => by
    have h1 := hl.1 x (by simp)
    exact absurd ((h x.1).1 (hasE_cons.2 (.inl (by omega)))) (hasE_nil _)
  | x :: l, y :: m, hl, hm, h => by
    have hx := hl.1 x (by simp)
    have hy := hm.1 y (by simp)
    have px := (List.pairwise_cons.1 hl.2).1
    have py := (List.pairwise_cons.1 hm.2).1
    have lx : ∀ s, hasE l s → x.1 + x.2 < s := fun s ⟨z, hz, h1⟩ => by have := px z hz; omega
    have ly : ∀ s, hasE m s → y.1 + y.2 < s := fun s ⟨z, hz, h1⟩ => by have := py z hz; omega
    have e1 : x.1 = y.1 := by
      have a1 := (h x.1).1 (hasE_cons.2 (.inl (by omega)))
      have a2 := (h y.1).2 (hasE_cons.2 (.inl (by omega)))
      rcases hasE_cons.1 a1 with a1 | a1
      · rcases hasE_cons.1 a2 with a2 | a2
        · omega
        · have := lx _ a2; omega
      · have := ly _ a1
        rcases hasE_cons.1 a2 with a2 | a2
        · omega
        · have := lx _ a2; omega
    have e2 : x.2 = y.2 := by
      rcases Int.lt_trichotomy x.2 y.2 with h2 | h2 | h2
      · have a := (h (x.1 + x.2)).2 (hasE_cons.2 (.inl (by omega)))
        rcases hasE_cons.1 a with a | a
        · omega
        · have := lx _ a; omega
      · exact h2
      · have a := (h (y.1 + y.2)).1 (hasE_cons.2 (.inl (by omega)))
        rcases hasE_cons.1 a with a | a
        · omega
        · have := ly _ a; omega
    obtain ⟨x1, x2⟩ := x
    obtain ⟨y1, y2⟩ := y
    simp only at e1 e2
    subst e1 e2
    rw [good_eq hl.tail hm.tail fun s => ?_]
    constructor
    · intro hs
      have := lx s hs
      rcases hasE_cons.1 ((h s).1 (hasE_cons.2 (.inr hs))) with a | a
      · simp only at *; omega
      · exact a
    · intro hs
      have := ly s hs
      rcases hasE_cons.1 ((h s).2 (hasE_cons.2 (.inr hs))) with a | a
      · simp only at *; omega
      · exact a
/-- The list of a set. -/
def IsL (r : List Ex) (p : Int → Prop) : Prop := Good r ∧ ∀ s, hasE r s ↔ p s
theorem IsL.eq {r r' : List Ex} {p p' : Int → Prop} (h : IsL r p) (h' : IsL r' p') (e : ∀ s, p s ↔ p' s) : r = r' :=
  good_eq h.1 h'.1 fun s => (h.2 s).trans ((e s).trans (h'.2 s).symm)
theorem IsL.self {l : List Ex} (h : Good l) : IsL l (hasE l) := ⟨h, fun _ => Iff.rfl⟩
theorem IsL.congr {r : List Ex} {p p' : Int → Prop} (h : IsL r p) (e : ∀ s, p s ↔ p' s) : IsL r p' := ⟨h.1, fun s => (h.2 s).trans (e s)⟩

/-- A list that may be, all of which lies ahead of q. -/
def Upto (r : List Ex) (q : Int) : Prop := Good r ∧ ∀ x ∈ r, x.1 + x.2 ≤ q
theorem Upto.nil (q : Int) : Upto [] q := ⟨Good.nil, by simp⟩
theorem Upto.mono {r : List Ex} {q q' : Int} (h : Upto r q) (hq : q ≤ q') : Upto r q' := ⟨h.1, fun x hx => by have := h.2 x hx; omega⟩
theorem Upto.no {r : List Ex} {q : Int} (h : Upto r q) {s : Int} (hs : q ≤ s) : ¬ hasE r s := by
  rintro ⟨x, hx, h1⟩
  have := h.2 x hx
  omega
/-- Sectors from a on to b are put behind a list. -/
def putE (r : List Ex) (a b : Int) : List Ex :=
  if a = b then r else match r.getLast? with
  | some x => if x.1 + x.2 = a then r.set (r.length - 1) (x.1, x.2 + (b - a)) else r ++ [(a, b - a)]
  | none => r ++ [(a, b - a)]
theorem set_last {α : Type} (l : List α) (x y : α) : (l ++ [x]).set ((l ++ [x]).length - 1) y = l ++ [y] := by
  rw [List.set_append_right _ _ (by simp)]; simp
theorem upto_snoc {r : List Ex} {q a b : Int} (h : Upto r q) (h0 : 0 ≤ a) (hq : q < a) (hab : a < b) (hb : b ≤ 4096) : Upto (r ++ [(a, b - a)]) b := by
  refine ⟨⟨fun x hx => ?_, List.pairwise_append.2 ⟨h.1.2, List.pairwise_singleton _ _, fun x hx y hy => ?_⟩⟩, fun x hx => ?_⟩
  · rcases List.mem_append.1 hx with hx | hx
    · exact h.1.1 x hx
    · simp at hx; subst hx; simp; omega
  · simp at hy; subst hy; have := h.2 x hx; simp; omega
  · rcases List.mem_append.1 hx with hx | hx
    · have := h.2 x hx; omega
    · simp at hx; subst hx; simp; omega
theorem putE_spec {r : List Ex} {q a b : Int} (h : Upto r q) (h0 : 0 ≤ a) (hq : q ≤ a) (hab : a ≤ b) (hb : b ≤ 4096) :
    Upto (putE r a b) b ∧ ∀ s, hasE (putE r a b) s ↔ hasE r s ∨ (a ≤ s ∧ s < b) := by
  unfold putE
  by_cases e : a = b
  · subst e
    rw [if_pos rfl]
    exact ⟨h.mono hq, fun s => ⟨.inl, fun h => h.elim id (fun h => by omega)⟩⟩
  rw [if_neg e]
  rcases List.eq_nil_or_concat r with rfl | ⟨l, x, rfl⟩
  · simp only [List.getLast?_nil, List.nil_append]
    refine ⟨upto_snoc (r := []) (Upto.nil (a - 1)) h0 (by omega) (by omega) hb, fun s => ?_⟩
    rw [hasE_cons]
    simp only [hasE_nil, or_false, false_or]
    omega
  · simp only [List.concat_eq_append, List.getLast?_append, List.getLast?_singleton, Option.some_or] at *
    have hx := h.2 x (by simp)
    have hxg := h.1.1 x (by simp)
    split
    · rename_i hxa
      rw [set_last]
      obtain ⟨p1, p2, p3⟩ := List.pairwise_append.1 h.1.2
      refine ⟨⟨⟨fun y hy => ?_, List.pairwise_append.2 ⟨p1, List.pairwise_singleton _ _, fun y hy z hz => ?_⟩⟩, fun y hy => ?_⟩, fun s => ?_⟩
      · rcases List.mem_append.1 hy with hy | hy
        · exact h.1.1 y (by simp [hy])
        · simp at hy; subst hy; simp; omega
      · simp at hz; subst hz; have := p3 y hy x (by simp); simpa using this
      · rcases List.mem_append.1 hy with hy | hy
        · have := h.2 y (by simp [hy]); omega
        · simp at hy; subst hy; simp; omega
      · rw [hasE_append, hasE_append, hasE_cons, hasE_cons]
        simp only [hasE_nil, or_false]
        constructor
        · rintro (h | h)
          · exact .inl (.inl h)
          · by_cases hs : s < a
            · exact .inl (.inr (by omega))
            · exact .inr (by omega)
        · rintro ((h | h) | h)
          · exact .inl h
          · exact .inr (by omega)
          · exact .inr (by omega)
    · rename_i hxa
      have hu : Upto (l ++ [x]) (a - 1) := by
        refine ⟨h.1, fun y hy => ?_⟩
        rcases List.mem_append.1 hy with hy' | hy'
        · have := (List.pairwise_append.1 h.1.2).2.2 y hy' x (by simp); omega
        · simp at hy'; subst hy'; omega
      refine ⟨upto_snoc hu h0 (by omega) (by omega) hb, fun s => ?_⟩
      rw [hasE_append, hasE_cons]
      simp only [hasE_nil, or_false]
      constructor
      · rintro (h | h)
        · exact .inl h
        · exact .inr (by omega)
      · rintro (h | h)
        · exact .inl h
        · exact .inr (by omega)

/-- Numbers that rise. -/
def Inc (l : List Int) : Prop := l.Pairwise (· < ·)
theorem inc_eq : ∀ {l m : List Int}, Inc l → Inc m → (∀ x, x ∈ l ↔ x ∈ m) → l = m
  | [], [], _, _, _ => rfl
  | [], y :: m, _, _, h => by have := (h y).2 (by simp); simp at this
  | x :: l, [], _, _, h => by have := (h x).1 (by simp); simp at this
  | x :: l, y :: m, hl, hm, h => by
    obtain ⟨h1, h2⟩ := List.pairwise_cons.1 hl
    obtain ⟨k1, k2⟩ := List.pairwise_cons.1 hm
    have e : x = y := by
      rcases List.mem_cons.1 ((h x).1 (by simp)) with e | hx
      · exact e
      · rcases List.mem_cons.1 ((h y).2 (by simp)) with e | hy
        · exact e.symm
        · have a := k1 x hx
          have b := h1 y hy
          omega
    subst e
    rw [inc_eq h2 k2 fun z => ?_]
    constructor
    · intro hz
      rcases List.mem_cons.1 ((h z).1 (by simp [hz])) with e | hz'
      · subst e; have := h1 z hz; omega
      · exact hz'
    · intro hz
      rcases List.mem_cons.1 ((h z).2 (by simp [hz])) with e | hz'
      · subst e; have := k1 z hz; omega
      · exact hz'
/-- n numbers from a on. -/
def run (a : Int) (n : Nat) : List Int := (List.range n).map fun (i : Nat) => a + (i : Int)
theorem run_length (a : Int) (n : Nat) : (run a n).length = n := by simp [run]
theorem mem_run {a s : Int} {n : Nat} : s ∈ run a n ↔ a ≤ s ∧ s < a + n := by
  simp only [run, List.mem_map, List.mem_range]
  constructor
  · rintro ⟨i, h, rfl⟩; omega
  · intro h; exact ⟨(s - a).toNat, by omega, by omega⟩
theorem inc_run (a : Int) (n : Nat) : Inc (run a n) := by
  unfold Inc run
  rw [List.pairwise_map]
  exact List.pairwise_lt_range.imp fun h => by omega
theorem run_succ (a : Int) (n : Nat) : run a (n + 1) = run a n ++ [a + n] := by simp [run, List.range_succ]
theorem run_take (a : Int) (n j : Nat) : (run a n).take j = run a (min j n) := by
  simp [run, ← List.map_take, List.take_range]
/-- The sectors of a list. -/
def secs (l : List Ex) : List Int := l.flatMap fun x => run x.1 x.2.toNat
theorem secs_append (l m : List Ex) : secs (l ++ m) = secs l ++ secs m := by simp [secs]
theorem secs_cons (x : Ex) (l : List Ex) : secs (x :: l) = run x.1 x.2.toNat ++ secs l := rfl
theorem mem_secs {l : List Ex} {s : Int} : s ∈ secs l ↔ hasE l s := by
  unfold secs hasE
  simp only [List.mem_flatMap, mem_run]
  constructor
  · rintro ⟨x, hx, h⟩; exact ⟨x, hx, by omega⟩
  · rintro ⟨x, hx, h⟩; exact ⟨x, hx, by omega⟩
theorem secs_inc : ∀ {l : List Ex}, Good l → Inc (secs l)
  | [], _ => List.Pairwise.nil
  | x :: l, h => by
    rw [secs_cons]
    refine List.pairwise_append.2 ⟨inc_run _ _, secs_inc h.tail, fun s hs t ht => ?_⟩
    rw [mem_run] at hs
    obtain ⟨y, hy, h1⟩ := mem_secs.1 ht
    have := (List.pairwise_cons.1 h.2).1 y hy
    have := h.1 x (by simp)
    omega
/-- How many sectors runs have. -/
def cntE (l : List Ex) : Int := (l.map (·.2)).sum
theorem cntE_secs : ∀ {l : List Ex}, Good l → cntE l = ((secs l).length : Int)
  | [], _ => rfl
  | x :: l, h => by
    have := cntE_secs h.tail
    have hx := h.1 x (by simp)
    rw [secs_cons, List.length_append, run_length]
    simp only [cntE, List.map_cons, List.sum_cons] at *
    omega
/-- The numbers from 0 on, below n, that a set has. -/
def scan (p : Int → Bool) (n : Nat) : List Int := (run 0 n).filter p
theorem scan_succ (p : Int → Bool) (n : Nat) : scan p (n + 1) = if p n then scan p n ++ [(n : Int)] else scan p n := by
  unfold scan
  rw [run_succ, List.filter_append]
  simp only [Int.zero_add]
  split
  · rename_i h; simp [h]
  · rename_i h; simp [h]
theorem mem_scan {p : Int → Bool} {n : Nat} {s : Int} : s ∈ scan p n ↔ (0 ≤ s ∧ s < n) ∧ p s = true := by
  simp [scan, mem_run]
theorem inc_scan (p : Int → Bool) (n : Nat) : Inc (scan p n) := (inc_run 0 n).filter _
open Classical in
theorem secs_scan {l : List Ex} (h : Good l) : secs l = scan (fun s => decide (hasE l s)) 4096 :=
  inc_eq (secs_inc h) (inc_scan _ _) fun s => by
    rw [mem_secs, mem_scan]
    constructor
    · intro hs; exact ⟨h.bounds hs, decide_eq_true hs⟩
    · rintro ⟨_, hs⟩; exact of_decide_eq_true hs
theorem secs_len_le {l : List Ex} (h : Good l) : (secs l).length ≤ 4096 := by
  classical
  rw [secs_scan h]
  have := List.length_filter_le (fun s => decide (hasE l s)) (run 0 4096)
  rw [run_length] at this
  exact this
theorem cntE_le {l : List Ex} (h : Good l) : 0 ≤ cntE l ∧ cntE l ≤ 4096 := by
  have := secs_len_le h
  rw [cntE_secs h]; omega
theorem filter_len_split {α : Type} (p q : α → Bool) : ∀ l : List α, (l.filter fun x => p x || q x).length + (l.filter fun x => p x && q x).length = (l.filter p).length + (l.filter q).length
  | [] => rfl
  | x :: l => by
    have := filter_len_split p q l
    cases hp : p x <;> cases hq : q x <;> simp [hp, hq] at * <;> omega
theorem filter_len_cut {α : Type} (p q : α → Bool) : ∀ l : List α, (l.filter fun x => p x && !q x).length + (l.filter fun x => p x && q x).length = (l.filter p).length
  | [] => rfl
  | x :: l => by
    have := filter_len_cut p q l
    cases hp : p x <;> cases hq : q x <;> simp [hp, hq] at * <;> omega
/-- The sectors of the list of a set. -/
theorem IsL.secs {r : List Ex} {p : Int → Bool} (h : IsL r fun s => p s = true) : secs r = scan p 4096 :=
  inc_eq (secs_inc h.1) (inc_scan _ _) fun s => by
    rw [mem_secs, mem_scan, h.2 s]
    exact ⟨fun hs => ⟨h.1.bounds ((h.2 s).2 hs), hs⟩, fun hs => hs.2⟩
end Go.Proofs.Ytgbgpmdhlocjhaa
