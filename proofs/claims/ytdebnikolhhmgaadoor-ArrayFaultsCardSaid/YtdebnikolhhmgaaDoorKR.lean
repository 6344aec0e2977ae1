/-
  Rows of elements of k cells each: read, owned, appended to; of no program. No conditions but those that each law names.
-/
import Derived.Test.YtdebnikolhhmgaaDoorKB
import Derived.Lib.Hide
namespace Go.Proofs.YtdebnikolhhmgaaDoor.Kr
open Go.RowKit
set_option linter.unusedVariables false
set_option maxRecDepth 100000
set_option linter.unusedSimpArgs false

section
variable {T : TypeId} {s : Nat} {w w' : World} {v : Value} {n : Nat} {xs sp : List Value} {L : List Nat}
theorem append_run2 {T : TypeId} {s : Nat} {w : World} {v : Value} {n : Nat} {xs sp : List Value} {P : Program} {tS tx ty : TypeId} {i : TypeInfo} {z : Value} {by' : Nat} (ht : P.underlying tS = some (.slice T)) (hi : P.info? T = some i) (hz : i.zero = some z)
    (hs : i.size = s) (hb : i.bytes = by') (hzs : z.cells.size = s) (hpos : 0 < s) (hO : Own T s w v n xs sp) {x : Value} {m : Nat} {news : List Value} (hS : Src P s tx x m news w)
    (h63 : n + m ≤ maxLen) (hbound : (n + m) * by' ≤ 140737488355328) :
    ∃ v' w' sp', (Builtin.append_ #[tS, tx] ty #[v, x]).run P w = .ok v' w' ∧ Own T s w' v' (n + m) (xs ++ news) sp' ∧ Frm (blk v) w w' ∧ (blk v' = blk v ∨ (blk v' = [w.heap.size] ∧ Frm [] w w')) ∧
      ∀ p : Value → Prop, (∀ u ∈ sp, p u) → (∀ u ∈ z.cells.toList, p u) → ∀ u ∈ sp', p u := by
  subst hs
  subst hb
  obtain ⟨h1, h2⟩ := hO
  have hnl := hS.newsLen
  have hlen : (xs ++ news).length = (n + m) * i.size := by rw [List.length_append, h1, hnl, Nat.add_mul]
  have hsmall : n + m ≤ 9223372036854775807 := by simp only [maxLen] at h63; omega
  by_cases hroom : ∃ g cap, v = .slice (some ⟨g, 0, none⟩) n cap ∧ n + m ≤ cap
  · obtain ⟨g, cap, rfl, hr⟩ := hroom
    rcases h2 with ⟨h2, _⟩ | ⟨g', cap', h2, h3, h4, h5, h6⟩
    · cases h2
    · cases h2
      have hspl : xs.length + sp.length = cap * i.size := by simpa using h5
      have hfit : n * i.size + news.length ≤ (xs ++ sp).toArray.size := by
        have : (n + m) * i.size ≤ cap * i.size := Nat.mul_le_mul_right _ hr
        simp only [List.size_toArray, h5]; rw [hnl, ← Nat.add_mul]; exact this
      have hst := run_storeCells_at P g (n * i.size) T news 0 (xs ++ sp).toArray w h6 (by simpa using hfit) hS.one
      simp only [Nat.add_zero] at hst
      have hcur : (xs ++ sp).take (n * i.size) ++ news ++ (xs ++ sp).drop (n * i.size + news.length) = (xs ++ news) ++ sp.drop news.length := by
        rw [← h1, List.take_left, List.drop_append]
        simp
      refine ⟨.slice (some ⟨g, 0, none⟩) (n + m) cap, w.setRow g ((xs ++ news) ++ sp.drop news.length).toArray, sp.drop news.length, ?_, ⟨hlen, .inr ⟨g, cap, rfl, hr, h4, ?_, ?_⟩⟩, ?_, .inl rfl, fun p hp _ u hu => hp u (List.mem_of_mem_drop hu)⟩
      · rw [← hcur]
        rcases hS.kind with ⟨e', hk⟩ | hk <;> simp [Builtin.append_, run_underlying ht, run_underlying hk, sizeOf, typeInfo, hi, hS.len, hr, hS.cells, Addr.add_lit, hst]
      · simp only [List.length_append, List.length_drop]
        simp only [List.size_toArray, List.length_append] at hfit
        omega
      · exact setRow_heap w g _ _ _ _ h6
      · exact ⟨rfl, rfl, rfl, by simp [World.setRow], fun k hk hn => setRow_other w g k _ (by simpa [blk] using hn)⟩
  · by_cases hnil : v = .slice none 0 0 ∧ m = 0
    · obtain ⟨rfl, rfl⟩ := hnil
      rcases h2 with ⟨_, rfl, rfl⟩ | ⟨_, _, h2, _⟩
      · obtain rfl : news = [] := List.eq_nil_of_length_eq_zero (by simpa using hnl)
        obtain rfl : xs = [] := List.eq_nil_of_length_eq_zero (by simpa using h1)
        refine ⟨.slice none 0 0, w, [], ?_, ⟨by simp, .inl ⟨rfl, rfl, rfl⟩⟩, Frm.refl _ _, .inl rfl, fun _ _ _ u hu => by cases hu⟩
        rcases hS.kind with ⟨e', hk⟩ | hk <;> simp [Builtin.append_, run_underlying ht, run_underlying hk, sizeOf, typeInfo, hi, hS.len, hS.cells]
      · cases h2
    · obtain ⟨base, cap, rfl, hcap, hold, hbl⟩ : ∃ base cap, v = .slice base n cap ∧ cap < n + m ∧ (Builtin.firstCells i.size n (.slice base n cap)).run P w.drew = .ok xs.toArray w.drew ∧ True := by
        rcases h2 with ⟨rfl, rfl, rfl⟩ | ⟨g, cap, rfl, h3, h4, h5, h6⟩
        · obtain rfl : xs = [] := List.eq_nil_of_length_eq_zero (by simpa using h1)
          exact ⟨none, 0, rfl, by have : m ≠ 0 := fun e => hnil ⟨rfl, e⟩; omega, run_firstCells_none w.drew i.size 0 0 0, trivial⟩
        · refine ⟨_, cap, rfl, ?_, run_firstCells_some w.drew i.size n _ n cap xs h1 (fun j u hu => ?_), trivial⟩
          · rcases Nat.lt_or_ge cap (n + m) with h | h
            · exact h
            · exact absurd ⟨g, cap, rfl, h⟩ hroom
          · have hj : j < xs.length := by
              rcases Nat.lt_or_ge j xs.length with h | h
              · exact h
              · simp [List.getElem?_eq_none h] at hu
            rw [add_plain, World.cell?_drew, cell_of_heap h6]
            simp only [Nat.zero_add, List.getElem?_toArray]
            rw [List.getElem?_append_left hj]; exact hu
      have hge := grownCap_ge w (n + m) cap T
      have hcm : grownCap w (n + m) cap T ≤ maxLen := grownCap_le_maxLen w (n + m) cap T h63
      have hr := run_append_grow_src (P := P) w tS tx ty T i z ht hi hz base n cap xs hold x m news hS hcap (by omega) (growslice_fits hcap hbound)
      refine ⟨_, _, (Builtin.zeroCells z.cells (grownCap w (n + m) cap T - (n + m))).toList, hr, ⟨hlen, .inr ⟨w.heap.size, _, rfl, hge, hcm, ?_, ?_⟩⟩, ?_, .inr ⟨rfl, ((Frm.refl _ _).drew).alloc _⟩, ?_⟩
      · rw [List.length_append, hlen, Array.length_toList, size_zeroCells, hzs, ← Nat.add_mul]
        congr 1
        omega
      · have := heap_alloc_new w.drew (.cells ((xs ++ news).toArray ++ Builtin.zeroCells z.cells (grownCap w (n + m) cap T - (n + m))) T)
        rw [show w.drew.heap.size = w.heap.size from rfl] at this
        rw [this]
        congr 2
        apply Array.ext'
        simp
      · exact ((Frm.refl _ _).drew).alloc _
      · intro p _ hp u hu
        simp only [Builtin.zeroCells, Array.toList_map, List.mem_map] at hu
        obtain ⟨j, hj, rfl⟩ := hu
        have hlt : j % z.cells.size < z.cells.size := Nat.mod_lt _ (by omega)
        rw [getElem!_pos z.cells _ hlt]
        exact hp _ (by simp)

end
/-- How an element lies in k cells. -/
structure Enco {α : Type} (enc : α → List Value) (k : Nat) : Prop where
  len : ∀ x, (enc x).length = k
  one : ∀ x, ∀ u ∈ enc x, u.oneCell' = true
  pos : 0 < k
  inj : ∀ x y, enc x = enc y → x = y
def flt {α : Type} (enc : α → List Value) (l : List α) : List Value := l.flatMap enc
section
variable {α : Type} {enc : α → List Value} {k : Nat}
theorem flt_nil : flt enc [] = [] := rfl
theorem flt_cons (x : α) (l : List α) : flt enc (x :: l) = enc x ++ flt enc l := rfl
theorem flt_append (l m : List α) : flt enc (l ++ m) = flt enc l ++ flt enc m := by simp [flt]
theorem flt_one (x : α) : flt enc [x] = enc x := by simp [flt]
theorem flt_length (E : Enco enc k) : ∀ l : List α, (flt enc l).length = l.length * k
  | [] => by simp [flt]
  | x :: l => by rw [flt_cons, List.length_append, E.len, flt_length E l, List.length_cons, Nat.add_mul]; omega
theorem flt_oneCell (E : Enco enc k) (l : List α) : ∀ u ∈ flt enc l, u.oneCell' = true := fun u hu => by
  obtain ⟨x, _, hx⟩ := List.mem_flatMap.1 hu
  exact E.one x u hx
theorem flt_get (E : Enco enc k) : ∀ (l : List α) (i : Nat) (h : i < l.length) (j : Nat), j < k → (flt enc l)[i * k + j]? = (enc l[i])[j]?
  | [], i, h, _, _ => by simp at h
  | x :: r, 0, h, j, hj => by
    rw [flt_cons, Nat.zero_mul, Nat.zero_add, List.getElem?_append_left (by rw [E.len]; exact hj)]; rfl
  | x :: r, i + 1, h, j, hj => by
    rw [flt_cons, List.getElem?_append_right (by rw [E.len, Nat.add_mul]; omega), E.len, show (i + 1) * k + j - k = i * k + j by rw [Nat.add_mul]; omega, flt_get E r i (by simpa using h) j hj]
    simp
theorem flt_inj (E : Enco enc k) : ∀ {l m : List α}, flt enc l = flt enc m → l = m
  | [], [], _ => rfl
  | [], y :: m, h => by
    have h1 := congrArg List.length h
    have := E.pos
    rw [flt_length E, flt_length E] at h1
    simp [Nat.add_mul] at h1
    omega
  | x :: l, [], h => by
    have h1 := congrArg List.length h
    have := E.pos
    rw [flt_length E, flt_length E] at h1
    simp [Nat.add_mul] at h1
    omega
  | x :: l, y :: m, h => by
    rw [flt_cons, flt_cons] at h
    obtain ⟨h1, h2⟩ := List.append_inj h (by rw [E.len, E.len])
    rw [E.inj _ _ h1, flt_inj E h2]
/-- The cells with one of them written, as those of a list. -/
theorem flt_set (E : Enco enc k) : ∀ (l : List α) (i : Nat) (j : Nat) (h : i < l.length) (_ : j < k) (y : α) (v : Value), enc y = (enc l[i]).set j v → flt enc (l.set i y) = (flt enc l).set (i * k + j) v
  | [], i, j, h, _, _, _, _ => by simp at h
  | x :: r, 0, j, h, hj, y, v, he => by
    simp only [List.set_cons_zero, flt_cons, Nat.zero_mul, Nat.zero_add]
    rw [List.set_append_left _ _ (by rw [E.len]; exact hj), he]; rfl
  | x :: r, i + 1, j, h, hj, y, v, he => by
    simp only [List.set_cons_succ, flt_cons]
    rw [flt_set E r i j (by simpa using h) hj y v (by simpa using he), List.set_append_right _ _ (by rw [E.len, Nat.add_mul]; omega), E.len, show (i + 1) * k + j - k = i * k + j by rw [Nat.add_mul]; omega]

def OwnE (enc : α → List Value) (k : Nat) (T : TypeId) (w : World) (v : Value) (l : List α) (sp : List Value) : Prop := Own T k w v l.length (flt enc l) sp
def SlE (enc : α → List Value) (k : Nat) (w : World) (v : Value) (l : List α) (sp : List Value) : Prop := Sl k w v l.length (flt enc l) sp
variable {T : TypeId} {w : World} {v x : Value} {l m : List α} {sp msp : List Value}
theorem OwnE.sl (h : OwnE enc k T w v l sp) : SlE enc k w v l sp := Own.sl h
theorem SlE.form (h : SlE enc k w v l sp) : ∃ a cap, v = .slice a l.length cap ∧ l.length ≤ cap ∧ cap ≤ maxLen := Sl.form h
theorem OwnE.keep {w' : World} {L : List Nat} (h : OwnE enc k T w v l sp) (f : Frm L w w') (hn : ∀ k ∈ blk v, k ∉ L) : OwnE enc k T w' v l sp := Own.keep h f hn
theorem OwnE.keep0 {w' : World} (h : OwnE enc k T w v l sp) (f : Frm [] w w') : OwnE enc k T w' v l sp := Own.keep h f (by simp)
theorem SlE.keep {w' : World} {L : List Nat} (h : SlE enc k w v l sp) (f : Frm L w w') (hn : ∀ k ∈ blk v, k ∉ L) : SlE enc k w' v l sp := Sl.keep h f hn
theorem SlE.keep0 {w' : World} (h : SlE enc k w v l sp) (f : Frm [] w w') : SlE enc k w' v l sp := Sl.keep h f (by simp)
theorem OwnE.lt (h : OwnE enc k T w v l sp) : ∀ k ∈ blk v, k < w.heap.size := Own.lt h
theorem OwnE.nil (enc : α → List Value) (k : Nat) (T : TypeId) (w : World) : OwnE enc k T w (.slice none 0 0) [] [] := Own.nil T k w
theorem SlE.nil (enc : α → List Value) (k : Nat) (w : World) : SlE enc k w (.slice none 0 0) [] [] := Sl.nil k w
theorem OwnE.heap {g n cap : Nat} (h : OwnE enc k T w (.slice (some ⟨g, 0, none⟩) n cap) l sp) : w.heap[g]? = some (.cells (flt enc l ++ sp).toArray T (0, 0)) := by
  obtain ⟨h1, h2 | ⟨g', cap', h2, h3, h4, h5, h6⟩⟩ := h
  · cases h2.1
  · cases h2; exact h6
theorem OwnE.caps (E : Enco enc k) {g n cap : Nat} (h : OwnE enc k T w (.slice (some ⟨g, 0, none⟩) n cap) l sp) : n = l.length ∧ l.length ≤ cap ∧ l.length * k + sp.length = cap * k ∧ cap ≤ maxLen := by
  obtain ⟨h1, h2 | ⟨g', cap', h2, h3, h4, h5, h6⟩⟩ := h
  · cases h2.1
  · cases h2; rw [List.length_append, flt_length E] at h5; exact ⟨rfl, h3, h5, h4⟩
theorem OwnE.of_heap (E : Enco enc k) {g n cap : Nat} (h : w.heap[g]? = some (.cells (flt enc l ++ sp).toArray T (0, 0))) (hn : n = l.length) (hn2 : n ≤ cap) (hc : l.length * k + sp.length = cap * k) (hm : cap ≤ maxLen) :
    OwnE enc k T w (.slice (some ⟨g, 0, none⟩) n cap) l sp := by
  subst hn
  exact ⟨flt_length E l, .inr ⟨g, cap, rfl, hn2, hm, by rw [List.length_append, flt_length E]; exact hc, h⟩⟩
theorem SlE.cell (E : Enco enc k) {b off n cap : Nat} (h : SlE enc k w (.slice (some ⟨b, off, none⟩) n cap) l sp) (i : Nat) (hi : i < l.length) (j : Nat) {u : Value} (hu : (enc l[i])[j]? = some u) :
    w.cell? ⟨b, off + (i * k + j), none⟩ = some u := by
  have hj : j < k := by
    rcases Nat.lt_or_ge j k with h | h
    · exact h
    · rw [List.getElem?_eq_none (by rw [E.len]; exact h)] at hu; cases hu
  obtain ⟨h1, ⟨h2, h3, h4⟩ | ⟨a, h2, h3, h4⟩ | ⟨b', off', cap', h2, h3, h4, h5, h6⟩⟩ := h
  · omega
  · omega
  · cases h2
    have hl := flt_length E l
    have hb : i * k + j < l.length * k := by
      have := Nat.mul_le_mul_right k (show i + 1 ≤ l.length from hi)
      rw [Nat.add_mul] at this; omega
    exact h6 (i * k + j) _ (by rw [List.getElem?_append_left (by omega), flt_get E l i hi j hj, hu])
theorem SlE.at {n : Nat} {a : Option Addr} {cap : Nat} (h : SlE enc k w (.slice a n cap) l sp) (hp : 0 < l.length) : ∃ b off, a = some ⟨b, off, none⟩ := by
  obtain ⟨h1, ⟨h2, h3, h4⟩ | ⟨a', h2, h3, h4⟩ | ⟨b', off', cap', h2, h3, h4, h5, h6⟩⟩ := h
  · omega
  · omega
  · cases h2; exact ⟨_, _, rfl⟩
theorem SlE.blk_lt (E : Enco enc k) (h : SlE enc k w v l sp) (hp : 0 < l.length) : ∀ k ∈ blk v, k < w.heap.size := by
  obtain ⟨h1, ⟨h2, h3, h4⟩ | ⟨a', h2, h3, h4⟩ | ⟨b', off', cap', h2, h3, h4, h5, h6⟩⟩ := id h
  · omega
  · omega
  · subst h2
    intro i hi
    simp [blk] at hi
    subst hi
    have h0 : 0 < (enc l[0]).length := by rw [E.len]; exact E.pos
    exact World.block_lt_of_cell? _ _ (h.cell E 0 hp 0 (List.getElem?_eq_getElem h0))
theorem SlE.src (E : Enco enc k) {P : Program} {tx e' : TypeId} (hk : P.underlying tx = some (.slice e')) (h : SlE enc k w v l sp) : Src P k tx v l.length (flt enc l) w := Sl.src hk h (flt_oneCell E l)
/-- What the table says of a slice of such elements. -/
structure RowTys (P : Program) (tS T : TypeId) (k by' : Nat) : Prop where
  sl : P.underlying tS = some (.slice T)
  info : ∃ z, z.cells.size = k ∧ (P.info? T).map (fun i => (i.zero, i.size, i.bytes)) = some (some z, k, by')
theorem append_e_src (E : Enco enc k) {P : Program} {tS : TypeId} {by' : Nat} (B : RowTys P tS T k by') (ty : TypeId) {tx : TypeId} (hO : OwnE enc k T w v l sp) (hS : Src P k tx x m.length (flt enc m) w) (hb : l.length + m.length ≤ 1000000000) (hby : by' ≤ 1000) :
    ∃ v' w' sp', (Builtin.append_ #[tS, tx] ty #[v, x]).run P w = .ok v' w' ∧ OwnE enc k T w' v' (l ++ m) sp' ∧ Frm (blk v) w w' ∧ (blk v' = blk v ∨ (blk v' = [w.heap.size] ∧ Frm [] w w')) := by
  obtain ⟨z, hzs, hinf⟩ := B.info
  obtain ⟨i, hi, hz, hs, hby'⟩ := info_parts hinf
  have hbb : (l.length + m.length) * by' ≤ 140737488355328 := by
    have := Nat.mul_le_mul hb hby
    omega
  obtain ⟨v', w', sp', h1, h2, h3, h4, h5⟩ := append_run2 (ty := ty) B.sl hi hz hs hby' hzs E.pos hO hS (by simp [maxLen]; omega) hbb
  refine ⟨v', w', sp', h1, ?_, h3, h4⟩
  unfold OwnE
  rw [flt_append, List.length_append]
  exact h2
theorem wpList_append_e (E : Enco enc k) {P : Program} {tS : TypeId} {by' : Nat} (B : RowTys P tS T k by') {ops : Array Oper} {rest : List Oper} {o : Oper} {a : Act} {Q : Exit → Act → World → Prop}
    {y : Value} (hO : OwnE enc k T w v l sp) (hS : SlE enc k w y m msp) (hb : l.length + m.length ≤ 1000000000) (hby : by' ≤ 1000)
    (hg : o.guard = none) (s x : Operand) (hop : o.op = Op.call { callee := Callee.builtin Builtin.append, args := #[s, x], argTypes := #[tS, tS] }) (hs : a.eval s = v) (hx : a.eval x = y)
    (kk : ∀ a' cap' w' sp', OwnE enc k T w' (.slice a' (l.length + m.length) cap') (l ++ m) sp' → Frm (blk v) w w' → (∀ i ∈ blk (.slice a' (l.length + m.length) cap'), i ∈ blk v ∨ w.heap.size ≤ i) →
      wpList P ops Q rest (a.put o.dst (.slice a' (l.length + m.length) cap')) w') :
    wpList P ops Q (o :: rest) a w := by
  obtain ⟨v', w', sp', h1, h2, h3, h4⟩ := append_e_src (x := y) E B o.type hO (SlE.src E B.sl hS) hb hby
  obtain ⟨a', cap', rfl, _, _⟩ := h2.sl.form
  rw [List.length_append] at h1 h2 h4
  refine wpList_val (w' := w') hg ?_ (kk a' cap' w' sp' h2 h3 ?_)
  · simp [execOp, hop, resolve, invoke, builtin, hs, hx, h1, Result.andThen]
  · intro i hi
    rcases h4 with h4 | ⟨h4, _⟩
    · exact .inl (h4 ▸ hi)
    · rw [h4] at hi; simp at hi; exact .inr (by omega)
theorem step_append_e (E : Enco enc k) {P : Program} {tS : TypeId} {by' : Nat} (B : RowTys P tS T k by') {ops : Array Oper} {o : Oper} {a : Act} {K : Act → World → Prop} {Q : Exit → Act → World → Prop} {X : Prop}
    {y : Value} (hO : OwnE enc k T w v l sp) (hS : SlE enc k w y m msp) (hb : l.length + m.length ≤ 1000000000) (hby : by' ≤ 1000)
    (hg : o.guard = none) (s x : Operand) (hop : o.op = Op.call { callee := Callee.builtin Builtin.append, args := #[s, x], argTypes := #[tS, tS] }) (hs : a.eval s = v) (hx : a.eval x = y)
    (kk : ∀ a' cap' w' sp', OwnE enc k T w' (.slice a' (l.length + m.length) cap') (l ++ m) sp' → Frm (blk v) w w' → (∀ i ∈ blk (.slice a' (l.length + m.length) cap'), i ∈ blk v ∨ w.heap.size ≤ i) →
      K (a.put o.dst (.slice a' (l.length + m.length) cap')) w') :
    if Region.wanted o (yielded ops a.tmps) = true then Oper.wp P o a w K Q else X := by
  obtain ⟨v', w', sp', h1, h2, h3, h4⟩ := append_e_src (x := y) E B o.type hO (SlE.src E B.sl hS) hb hby
  obtain ⟨a', cap', rfl, _, _⟩ := h2.sl.form
  rw [List.length_append] at h1 h2 h4
  refine step_val (w' := w') hg ?_ (kk a' cap' w' sp' h2 h3 ?_)
  · simp [execOp, hop, resolve, invoke, builtin, hs, hx, h1, Result.andThen]
  · intro i hi
    rcases h4 with h4 | ⟨h4, _⟩
    · exact .inl (h4 ▸ hi)
    · rw [h4] at hi; simp at hi; exact .inr (by omega)
/-- A store of one cell. -/
theorem OwnE.store (E : Enco enc k) {g n cap : Nat} (h : OwnE enc k T w (.slice (some ⟨g, 0, none⟩) n cap) l sp) (i j : Nat) (hi : i < l.length) (hj : j < k) (y : α) (u : Value) (he : enc y = (enc l[i]).set j u) :
    OwnE enc k T (w.setCell ⟨g, i * k + j, none⟩ u) (.slice (some ⟨g, 0, none⟩) n cap) (l.set i y) sp := by
  obtain ⟨h1, h2, h3, h4⟩ := h.caps E
  have hl := flt_length E l
  have hb : i * k + j < l.length * k := by
    have := Nat.mul_le_mul_right k (show i + 1 ≤ l.length from hi)
    rw [Nat.add_mul] at this; omega
  refine OwnE.of_heap E ?_ (by simpa using h1) (by omega) (by simpa using h3) h4
  rw [heap_setCell_same _ h.heap, flt_set E l i j hi hj y u he]
  congr 2
  apply Array.ext'
  simp only [Array.toList_setIfInBounds]
  rw [List.set_append_left _ _ (by omega)]
/-- A block of a list's cells, read as a slice. -/
theorem SlE.of_block (E : Enco enc k) {g n : Nat} {T : TypeId} (h : w.heap[g]? = some (.cells (flt enc l).toArray T (0, 0))) (hn : n = l.length) (hm : n ≤ 1000000000) : SlE enc k w (.slice (some ⟨g, 0, none⟩) n n) l [] := by
  subst hn
  exact OwnE.sl (OwnE.of_heap (T := T) E (by rw [List.append_nil]; exact h) rfl (Nat.le_refl _) (by simp) (by simp only [maxLen]; omega))
end
end Go.Proofs.YtdebnikolhhmgaaDoor.Kr
