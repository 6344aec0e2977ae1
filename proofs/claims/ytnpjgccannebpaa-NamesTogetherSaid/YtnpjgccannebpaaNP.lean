/-
  Plain facts of names: parts, cuts at the first mark, the order; of no program. No conditions but those that each theorem names.
-/
import Derived.Lib.Bytealg
import Derived.Lib.TrimUEq
import Derived.Lib.MinMaxS
namespace Go.Proofs.Ytnpjgccannebpaa
open Go
set_option linter.unusedVariables false
set_option linter.unusedSimpArgs false

theorem cb_refl : ∀ l : List UInt8, Lib.compareBytes l l = 0
  | [] => rfl
  | x :: r => by simp [Lib.compareBytes, cb_refl r]
theorem cb_eq : ∀ {a b : List UInt8}, Lib.compareBytes a b = 0 → a = b
  | [], [], _ => rfl
  | [], _ :: _, h => by simp [Lib.compareBytes] at h
  | _ :: _, [], h => by simp [Lib.compareBytes] at h
  | x :: a, y :: b, h => by
    simp only [Lib.compareBytes] at h
    by_cases h1 : x < y
    · rw [if_pos h1] at h; cases h
    · rw [if_neg h1] at h
      by_cases h2 : y < x
      · rw [if_pos h2] at h; cases h
      · rw [if_neg h2] at h
        rw [cb_eq h, UInt8.le_antisymm (UInt8.not_lt.1 h2) (UInt8.not_lt.1 h1)]
theorem cb_swap : ∀ (a b : List UInt8), Lib.compareBytes b a = - Lib.compareBytes a b
  | [], [] => rfl
  | [], _ :: _ => rfl
  | _ :: _, [] => rfl
  | x :: a, y :: b => by
    simp only [Lib.compareBytes]
    by_cases h1 : x < y
    · have h2 : ¬ y < x := fun h => UInt8.lt_irrefl _ (UInt8.lt_trans h1 h)
      rw [if_pos h1, if_neg h2, if_pos h1]; rfl
    · by_cases h2 : y < x
      · rw [if_pos h2, if_neg h1, if_pos h2]
      · rw [if_neg h2, if_neg h1, if_neg h1, if_neg h2, cb_swap a b]
theorem cb_three : ∀ (a b : List UInt8), Lib.compareBytes a b = -1 ∨ Lib.compareBytes a b = 0 ∨ Lib.compareBytes a b = 1
  | [], [] => .inr (.inl rfl)
  | [], _ :: _ => .inl rfl
  | _ :: _, [] => .inr (.inr rfl)
  | x :: a, y :: b => by
    simp only [Lib.compareBytes]
    by_cases h1 : x < y
    · rw [if_pos h1]; exact .inl rfl
    · rw [if_neg h1]
      by_cases h2 : y < x
      · rw [if_pos h2]; exact .inr (.inr rfl)
      · rw [if_neg h2]; exact cb_three a b
theorem cb_trans : ∀ {a b c : List UInt8}, Lib.compareBytes a b < 0 → Lib.compareBytes b c < 0 → Lib.compareBytes a c < 0
  | [], [], _, h, _ => by simp [Lib.compareBytes] at h
  | [], _ :: _, [], _, h => by simp [Lib.compareBytes] at h
  | [], _ :: _, _ :: _, _, _ => by simp [Lib.compareBytes]
  | _ :: _, [], _, h, _ => by simp [Lib.compareBytes] at h
  | _ :: _, _ :: _, [], _, h => by simp [Lib.compareBytes] at h
  | x :: a, y :: b, z :: c, h1, h2 => by
    simp only [Lib.compareBytes] at h1 h2 ⊢
    by_cases xy : x < y
    · by_cases yz : y < z
      · rw [if_pos (UInt8.lt_trans xy yz)]; decide
      · rw [if_neg yz] at h2
        by_cases zy : z < y
        · rw [if_pos zy] at h2; exact absurd h2 (by decide)
        · have : y = z := UInt8.le_antisymm (UInt8.not_lt.1 zy) (UInt8.not_lt.1 yz)
          subst this
          rw [if_pos xy]; decide
    · rw [if_neg xy] at h1
      by_cases yx : y < x
      · rw [if_pos yx] at h1; exact absurd h1 (by decide)
      · have : x = y := UInt8.le_antisymm (UInt8.not_lt.1 yx) (UInt8.not_lt.1 xy)
        subst this
        rw [if_neg yx] at h1
        by_cases xz : x < z
        · rw [if_pos xz]; decide
        · rw [if_neg xz] at h2 ⊢
          by_cases zx : z < x
          · rw [if_pos zx] at h2; exact absurd h2 (by decide)
          · rw [if_neg zx] at h2 ⊢
            exact cb_trans h1 h2

/-- A text of bytes. -/
def sB (l : List UInt8) : ByteArray := ⟨l.toArray⟩
theorem sB_list (l : List UInt8) : (sB l).data.toList = l := rfl
theorem sB_data (s : ByteArray) : sB s.data.toList = s := Lib.mk_data s
theorem sB_size (l : List UInt8) : (sB l).size = l.length := by rw [Lib.size_eq]; rfl
theorem sB_inj {l m : List UInt8} (h : sB l = sB m) : l = m := by have := congrArg (fun x : ByteArray => x.data.toList) h; exact this
theorem ba_ext {a b : ByteArray} (h : a.data.toList = b.data.toList) : a = b := by rw [← sB_data a, h, sB_data]
/-! ### parts -/
def letB (b : UInt8) : Bool := decide (97 ≤ b.toNat) && decide (b.toNat ≤ 122)
def okB (b : UInt8) : Bool := letB b || (decide (48 ≤ b.toNat) && decide (b.toNat ≤ 57)) || b.toNat == 46 || b.toNat == 45 || b.toNat == 95
theorem letB_ok {b : UInt8} (h : letB b = true) : okB b = true := by unfold okB; rw [h]; rfl
def partL : List UInt8 → Bool
  | [] => false
  | c :: r => letB c && r.all okB && decide (r.length ≤ 19)
/-- What place j asks of a byte. -/
def okAt (j : Nat) (b : UInt8) : Bool := if j = 0 then letB b else okB b
theorem part_iff (l : List UInt8) : partL l = true ↔ 1 ≤ l.length ∧ l.length ≤ 20 ∧ ∀ j b, l[j]? = some b → okAt j b = true := by
  cases l with
  | nil => simp [partL]
  | cons c r =>
    simp only [partL, Bool.and_eq_true, decide_eq_true_eq, List.length_cons, List.all_eq_true]
    constructor
    · rintro ⟨⟨h1, h2⟩, h3⟩
      refine ⟨by omega, by omega, fun j b hb => ?_⟩
      cases j with
      | zero => simp at hb; subst hb; exact h1
      | succ j => simp at hb; exact h2 b (List.mem_of_getElem? hb)
    · rintro ⟨_, h3, h⟩
      refine ⟨⟨h 0 c rfl, fun b hb => ?_⟩, by omega⟩
      obtain ⟨j, hj⟩ := List.getElem?_of_mem hb
      exact h (j + 1) b (by simpa using hj)
theorem part_no {l : List UInt8} {j : Nat} {b : UInt8} (hb : l[j]? = some b) (h : okAt j b = false) : partL l = false := by
  rw [Bool.eq_false_iff]
  intro hp
  have := (part_iff l).1 hp |>.2.2 j b hb
  rw [h] at this; cases this
theorem part_end {l : List UInt8} (h : ∀ j b, l[j]? = some b → okAt j b = true) : partL l = (decide (1 ≤ l.length) && decide (l.length ≤ 20)) := by
  rw [Bool.eq_iff_iff, part_iff]
  simp only [Bool.and_eq_true, decide_eq_true_eq]
  exact ⟨fun ⟨a, b, _⟩ => ⟨a, b⟩, fun ⟨a, b⟩ => ⟨a, b, h⟩⟩
theorem part_cons (c : UInt8) (r : List UInt8) : partL (c :: r) = (decide ((c :: r).length ≤ 20) && letB c && (c :: r).all okB) := by
  simp only [partL, List.length_cons, List.all_cons]
  by_cases h1 : letB c = true
  · rw [h1, letB_ok h1]
    by_cases h2 : r.length ≤ 19
    · simp [h2]
    · simp [h2]
  · rw [Bool.not_eq_true] at h1; rw [h1]; simp
theorem part_length {l : List UInt8} (h : partL l = true) : l.length ≤ 20 := ((part_iff l).1 h).2.1
theorem part_none {l : List UInt8} (h : partL l = true) : ∀ b ∈ l, b ≠ 64 := by
  intro b hb e
  subst e
  obtain ⟨j, hj⟩ := List.getElem?_of_mem hb
  have h1 := ((part_iff l).1 h).2.2 j 64 hj
  unfold okAt at h1
  split at h1 <;> exact absurd h1 (by decide)
def partS (s : ByteArray) : Bool := partL s.data.toList
/-! ### cuts -/
def cutL : List UInt8 → List UInt8 × List UInt8 × Bool
  | [] => ([], [], false)
  | c :: r => if c = 64 then ([], r, true) else (c :: (cutL r).1, (cutL r).2)
theorem cut_hit : ∀ {l : List UInt8} {i : Nat}, l[i]? = some 64 → (∀ j, j < i → l[j]? ≠ some 64) → cutL l = (l.take i, l.drop (i + 1), true)
  | [], i, h, _ => by simp at h
  | c :: r, 0, h, _ => by simp at h; subst h; simp [cutL]
  | c :: r, i + 1, h, n => by
    have hc : c ≠ 64 := fun e => n 0 (by omega) (by simp [e])
    have ih := cut_hit (l := r) (i := i) (by simpa using h) (fun j hj => by have := n (j + 1) (by omega); simpa using this)
    simp [cutL, hc, ih]
theorem cut_no : ∀ {l : List UInt8}, (∀ b ∈ l, b ≠ 64) → cutL l = (l, [], false)
  | [], _ => rfl
  | c :: r, n => by
    have hc : c ≠ 64 := n c (by simp)
    have ih := cut_no (l := r) (fun b hb => n b (by simp [hb]))
    simp [cutL, hc, ih]
theorem cut_index : ∀ l : List UInt8, (Lib.indexByte l 64 = -1 ∧ cutL l = (l, [], false)) ∨ ∃ i : Nat, Lib.indexByte l 64 = i ∧ i < l.length ∧ cutL l = (l.take i, l.drop (i + 1), true)
  | [] => .inl ⟨rfl, rfl⟩
  | c :: r => by
    by_cases hc : c = 64
    · subst hc
      exact .inr ⟨0, rfl, by simp, by simp [cutL]⟩
    · have hb : (c == 64) = false := by simpa using hc
      rcases cut_index r with ⟨h1, h2⟩ | ⟨i, h1, h2, h3⟩
      · exact .inl ⟨by simp [Lib.indexByte, hb, h1], by simp [cutL, hc, h2]⟩
      · refine .inr ⟨i + 1, ?_, by simp; omega, by simp [cutL, hc, h3]⟩
        have hne : ((i : Int) == -1) = false := by rw [beq_eq_false_iff_ne]; omega
        simp [Lib.indexByte, hb, h1, hne]
theorem cut_join (v p : List UInt8) (hv : ∀ b ∈ v, b ≠ 64) : cutL (v ++ 64 :: p) = (v, p, true) := by
  induction v with
  | nil => simp [cutL]
  | cons c r ih =>
    have hc : c ≠ 64 := hv c (by simp)
    simp [cutL, hc, ih (fun b hb => hv b (by simp [hb]))]
theorem cut_back : ∀ l : List UInt8, l = if (cutL l).2.2 then (cutL l).1 ++ 64 :: (cutL l).2.1 else (cutL l).1
  | [] => rfl
  | c :: r => by
    by_cases hc : c = 64
    · simp [cutL, hc]
    · have ih := cut_back r
      simp only [cutL, hc, if_false]
      split
      · rename_i h; rw [if_pos h] at ih; rw [List.cons_append, ← ih]
      · rename_i h; rw [if_neg h] at ih; rw [← ih]
theorem cut_false : ∀ {l : List UInt8}, (cutL l).2.2 = false → (cutL l).2.1 = []
  | [], _ => rfl
  | c :: r, h => by
    by_cases hc : c = 64
    · simp [cutL, hc] at h
    · simp only [cutL, hc, if_false] at h ⊢
      exact cut_false h
def cut1 (s : ByteArray) : ByteArray := sB (cutL s.data.toList).1
def cut2 (s : ByteArray) : ByteArray := sB (cutL s.data.toList).2.1
def cutIs (s : ByteArray) : Bool := (cutL s.data.toList).2.2
/-! ### split, join -/
def snapS (s : ByteArray) : Bool := cutIs s && partS (cut1 s) && partS (cut2 s)
def spl1 (s : ByteArray) : ByteArray := if snapS s then cut1 s else sB []
def spl2 (s : ByteArray) : ByteArray := if snapS s then cut2 s else sB []
def joins (v p : ByteArray) : Bool := partS v && partS p
def joinS (v p : ByteArray) : ByteArray := if joins v p then sB (v.data.toList ++ 64 :: p.data.toList) else sB []
theorem part_nil : partS (sB []) = false := rfl
/-- Without a mark the part is empty. -/
theorem snap_eq (s : ByteArray) : snapS s = (partS (cut1 s) && partS (cut2 s)) := by
  unfold snapS
  cases h : cutIs s with
  | true => simp
  | false =>
    have : cut2 s = sB [] := by unfold cut2; rw [cut_false h]
    rw [this, part_nil]; simp
theorem snap_back {s : ByteArray} (h : snapS s = true) : joins (spl1 s) (spl2 s) = true ∧ joinS (spl1 s) (spl2 s) = s ∧ partS (spl1 s) = true ∧ partS (spl2 s) = true := by
  have h0 := h
  unfold snapS at h
  simp only [Bool.and_eq_true] at h
  obtain ⟨⟨h1, h2⟩, h3⟩ := h
  have e1 : spl1 s = cut1 s := if_pos h0
  have e2 : spl2 s = cut2 s := if_pos h0
  have hj : joins (cut1 s) (cut2 s) = true := by unfold joins; rw [h2, h3]; rfl
  rw [e1, e2]
  refine ⟨hj, ?_, h2, h3⟩
  unfold joinS
  rw [if_pos hj]
  have := cut_back s.data.toList
  unfold cutIs at h1
  rw [if_pos h1] at this
  unfold cut1 cut2
  rw [sB_list, sB_list, ← this, sB_data]
theorem join_cut {v p : ByteArray} (h : joins v p = true) : cutL (joinS v p).data.toList = (v.data.toList, p.data.toList, true) := by
  have h0 := h
  unfold joins at h
  simp only [Bool.and_eq_true] at h
  unfold joinS
  rw [if_pos h0, sB_list]
  exact cut_join _ _ (part_none h.1)
theorem join_back {v p : ByteArray} (h : joins v p = true) : snapS (joinS v p) = true ∧ spl1 (joinS v p) = v ∧ spl2 (joinS v p) = p := by
  have hc := join_cut h
  have h0 := h
  unfold joins at h
  simp only [Bool.and_eq_true] at h
  have c1 : cut1 (joinS v p) = v := by unfold cut1; rw [hc]; exact sB_data v
  have c2 : cut2 (joinS v p) = p := by unfold cut2; rw [hc]; exact sB_data p
  have c3 : cutIs (joinS v p) = true := by unfold cutIs; rw [hc]
  have hs : snapS (joinS v p) = true := by unfold snapS; rw [c1, c2, c3, h.1, h.2]; rfl
  exact ⟨hs, by unfold spl1; rw [if_pos hs, c1], by unfold spl2; rw [if_pos hs, c2]⟩
theorem part_cut {s : ByteArray} (h : partS s = true) : cutL s.data.toList = (s.data.toList, [], false) := cut_no (part_none h)
theorem snap_part {s : ByteArray} (h : snapS s = true) : partS s = false := by
  rw [Bool.eq_false_iff]
  intro hp
  have hc := part_cut hp
  unfold snapS cutIs at h
  rw [hc] at h
  simp at h
/-! ### the order -/
def pcs (l : List UInt8) : List UInt8 × List UInt8 × List UInt8 := ((cutL l).1, if (cutL l).2.2 then [64] else [], (cutL l).2.1)
def cmp3 (p q : List UInt8 × List UInt8 × List UInt8) : Int :=
  if Lib.compareBytes p.1 q.1 ≠ 0 then Lib.compareBytes p.1 q.1 else if Lib.compareBytes p.2.1 q.2.1 ≠ 0 then Lib.compareBytes p.2.1 q.2.1 else Lib.compareBytes p.2.2 q.2.2
def lessL (a b : List UInt8) : Bool := decide (cmp3 (pcs a) (pcs b) < 0)
def lessS (a b : ByteArray) : Bool := lessL a.data.toList b.data.toList
theorem cmp3_refl (p : List UInt8 × List UInt8 × List UInt8) : cmp3 p p = 0 := by unfold cmp3; simp [cb_refl]
theorem cmp3_swap (p q : List UInt8 × List UInt8 × List UInt8) : cmp3 q p = - cmp3 p q := by
  unfold cmp3
  rw [cb_swap p.1 q.1, cb_swap p.2.1 q.2.1, cb_swap p.2.2 q.2.2]
  by_cases h1 : Lib.compareBytes p.1 q.1 = 0
  · by_cases h2 : Lib.compareBytes p.2.1 q.2.1 = 0
    · simp [h1, h2]
    · simp [h1, h2]
  · simp [h1]
theorem cmp3_eq {p q : List UInt8 × List UInt8 × List UInt8} (h : cmp3 p q = 0) : p = q := by
  unfold cmp3 at h
  by_cases h1 : Lib.compareBytes p.1 q.1 = 0
  · by_cases h2 : Lib.compareBytes p.2.1 q.2.1 = 0
    · simp [h1, h2] at h
      exact Prod.ext (cb_eq h1) (Prod.ext (cb_eq h2) (cb_eq h))
    · simp [h1, h2] at h
  · simp [h1] at h
theorem cmp3_trans {p q r : List UInt8 × List UInt8 × List UInt8} (h1 : cmp3 p q < 0) (h2 : cmp3 q r < 0) : cmp3 p r < 0 := by
  obtain ⟨p1, p2, p3⟩ := p
  obtain ⟨q1, q2, q3⟩ := q
  obtain ⟨r1, r2, r3⟩ := r
  unfold cmp3 at *
  simp only at *
  by_cases a1 : Lib.compareBytes p1 q1 = 0
  · obtain rfl := cb_eq a1
    by_cases b1 : Lib.compareBytes p1 r1 = 0
    · rw [if_neg (by simpa using b1)] at h2 ⊢
      rw [if_neg (by simpa using a1)] at h1
      by_cases a2 : Lib.compareBytes p2 q2 = 0
      · obtain rfl := cb_eq a2
        rw [if_neg (by simpa using a2)] at h1
        by_cases b2 : Lib.compareBytes p2 r2 = 0
        · rw [if_neg (by simpa using b2)] at h2 ⊢
          exact cb_trans h1 h2
        · rw [if_pos b2] at h2 ⊢; exact h2
      · rw [if_pos a2] at h1
        by_cases b2 : Lib.compareBytes q2 r2 = 0
        · obtain rfl := cb_eq b2
          rw [if_pos a2]; exact h1
        · rw [if_pos b2] at h2
          have := cb_trans h1 h2
          rw [if_pos (by omega)]; exact this
    · rw [if_pos b1] at h2 ⊢; exact h2
  · rw [if_pos a1] at h1
    by_cases b1 : Lib.compareBytes q1 r1 = 0
    · obtain rfl := cb_eq b1
      rw [if_pos a1]; exact h1
    · rw [if_pos b1] at h2
      have := cb_trans h1 h2
      rw [if_pos (by omega)]; exact this
theorem pcs_inj {a b : List UInt8} (h : pcs a = pcs b) : a = b := by
  unfold pcs at h
  simp only [Prod.mk.injEq] at h
  obtain ⟨h1, h2, h3⟩ := h
  have e : (cutL a).2.2 = (cutL b).2.2 := by
    cases ha : (cutL a).2.2 <;> cases hb : (cutL b).2.2 <;> rw [ha, hb] at h2 <;> simp at h2 ⊢
  rw [cut_back a, cut_back b, h1, h3, e]
theorem less_irrefl (a : ByteArray) : lessS a a = false := by unfold lessS lessL; rw [cmp3_refl]; rfl
theorem less_asymm {a b : ByteArray} (h : lessS a b = true) : lessS b a = false := by
  unfold lessS lessL at *
  rw [decide_eq_true_eq] at h
  rw [decide_eq_false_iff_not, cmp3_swap (pcs a.data.toList)]
  omega
theorem less_tri {a b : ByteArray} (h1 : lessS a b = false) (h2 : lessS b a = false) : a = b := by
  unfold lessS lessL at *
  rw [decide_eq_false_iff_not] at h1 h2
  rw [cmp3_swap (pcs a.data.toList)] at h2
  exact ba_ext (pcs_inj (cmp3_eq (by omega)))
theorem less_trans {a b c : ByteArray} (h1 : lessS a b = true) (h2 : lessS b c = true) : lessS a c = true := by
  unfold lessS lessL at *
  rw [decide_eq_true_eq] at *
  exact cmp3_trans h1 h2
/-- As the document has it. -/
theorem less_doc (a b : List UInt8) : lessL a b = if (cutL a).1 ≠ (cutL b).1 then decide (Lib.compareBytes (cutL a).1 (cutL b).1 < 0)
    else if (!(cutL a).2.2 || !(cutL b).2.2) then (!(cutL a).2.2 && (cutL b).2.2) else decide (Lib.compareBytes (cutL a).2.1 (cutL b).2.1 < 0) := by
  have fa := fun h => cut_false (l := a) h
  have fb := fun h => cut_false (l := b) h
  unfold lessL cmp3 pcs
  simp only
  generalize cutL a = x at *
  generalize cutL b = y at *
  obtain ⟨x1, x2, x3⟩ := x
  obtain ⟨y1, y2, y3⟩ := y
  simp only at *
  by_cases h : x1 = y1
  · subst h
    rw [cb_refl]
    cases x3 <;> cases y3
    · obtain rfl := fa rfl
      obtain rfl := fb rfl
      simp [Lib.compareBytes]
    · simp [Lib.compareBytes]
    · simp [Lib.compareBytes]
    · simp [Lib.compareBytes]
  · rw [if_pos h, if_pos (fun e => h (cb_eq e))]
/-- A volume's name is less than those of its snapshots'. -/
theorem less_join {v p : ByteArray} (h : joins v p = true) : lessS v (joinS v p) = true := by
  have hc := join_cut h
  have hv : partS v = true := by unfold joins at h; simp only [Bool.and_eq_true] at h; exact h.1
  unfold lessS
  rw [less_doc, hc, part_cut hv]
  simp
/-- What stands between a volume's name and one of its snapshots'. -/
theorem together {v p s : ByteArray} (h : joins v p = true) (h1 : lessS s v = false) (h2 : lessS s (joinS v p) = true) : s = v ∨ (v.data.toList.length < s.data.toList.length ∧ s.data.toList.take (v.data.toList.length + 1) = v.data.toList ++ [64]) := by
  have hc := join_cut h
  have hv : partS v = true := by unfold joins at h; simp only [Bool.and_eq_true] at h; exact h.1
  have hvc := part_cut hv
  unfold lessS at h1 h2
  rw [less_doc, hvc] at h1
  rw [less_doc, hc] at h2
  simp only at h1 h2
  by_cases hx : (cutL s.data.toList).1 = v.data.toList
  · have hb := cut_back s.data.toList
    cases hs : (cutL s.data.toList).2.2 with
    | false =>
      rw [hs, hx] at hb
      exact .inl (ba_ext (by simpa using hb))
    | true =>
      rw [if_pos hs, hx] at hb
      refine .inr ⟨by rw [hb]; simp, ?_⟩
      rw [hb, show v.data.toList ++ 64 :: (cutL s.data.toList).2.1 = (v.data.toList ++ [64]) ++ (cutL s.data.toList).2.1 by simp]
      exact List.take_left' (by simp)
  · rw [if_pos hx] at h1 h2
    rw [h1] at h2
    cases h2
end Go.Proofs.Ytnpjgccannebpaa
