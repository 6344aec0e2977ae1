/-
  Rows of addresses: read, owned, appended to. No conditions but those that each law names.
-/
import Derived.Test.YtafedmahehbggaaKR
import Derived.Test.YtafedmahehbggaaPA
namespace Go.Proofs.Ytafedmahehbggaa
open Go.RowKit
set_option linter.unusedVariables false
set_option linter.unusedSimpArgs false

theorem heap_alloc_at {w : World} {o : Obj} {n : Nat} (hn : n = w.heap.size) : (w.alloc o).heap[n]? = some o := by subst hn; exact heap_alloc_new _ _
/-- An address's two cells. -/
def ea (x : Ad) : List Value := [.int .i64 x.1, .int .i64 x.2]
def eas (l : List Ad) : List Value := (l.map ea).flatten
def av (x : Ad) : Value := .agg #[.int .i64 x.1, .int .i64 x.2]
theorem eas_nil : eas [] = [] := rfl
theorem eas_cons (x : Ad) (l : List Ad) : eas (x :: l) = .int .i64 x.1 :: .int .i64 x.2 :: eas l := rfl
theorem eas_append (l m : List Ad) : eas (l ++ m) = eas l ++ eas m := by simp [eas]
theorem eas_length (l : List Ad) : (eas l).length = l.length * 2 := by
  induction l with
  | nil => rfl
  | cons x r ih => rw [eas_cons]; simp only [List.length_cons, ih]; omega
theorem eas_one (l : List Ad) : ∀ u ∈ eas l, u.oneCell' = true := by
  induction l with
  | nil => intro u hu; simp [eas] at hu
  | cons x r ih =>
    intro u hu
    rw [eas_cons] at hu
    rcases List.mem_cons.1 hu with rfl | hu
    · rfl
    · rcases List.mem_cons.1 hu with rfl | hu
      · rfl
      · exact ih u hu
theorem eas_ints (l : List Ad) : ∀ u ∈ eas l, ∃ n, u = .int .i64 n := by
  induction l with
  | nil => intro u hu; simp [eas] at hu
  | cons x r ih =>
    intro u hu
    rw [eas_cons] at hu
    rcases List.mem_cons.1 hu with rfl | hu
    · exact ⟨_, rfl⟩
    · rcases List.mem_cons.1 hu with rfl | hu
      · exact ⟨_, rfl⟩
      · exact ih u hu
theorem eas_of : ∀ (k : Nat) {sp : List Value}, sp.length = k * 2 → (∀ u ∈ sp, ∃ n, u = .int .i64 n) → ∃ l, sp = eas l ∧ l.length = k
  | 0, sp, h, _ => ⟨[], List.eq_nil_of_length_eq_zero (by omega), rfl⟩
  | k + 1, sp, h, hp => by
    match sp, h, hp with
    | [], h, _ => simp at h
    | [u], h, _ => simp at h; omega
    | u :: v :: r, h, hp =>
      obtain ⟨n, rfl⟩ := hp u (by simp)
      obtain ⟨m, rfl⟩ := hp v (by simp)
      obtain ⟨l, rfl, hl⟩ := eas_of k (sp := r) (by simp at h; omega) (fun x hx => hp x (by simp [hx]))
      exact ⟨(n, m) :: l, rfl, by simp [hl]⟩
theorem eas_get0 : ∀ (l : List Ad) (i : Nat) (h : i < l.length), (eas l)[i * 2]? = some (.int .i64 l[i].1)
  | [], i, h => by simp at h
  | x :: r, 0, h => by simp [eas_cons]
  | x :: r, i + 1, h => by
    rw [eas_cons, show (i + 1) * 2 = i * 2 + 1 + 1 by omega, List.getElem?_cons_succ, List.getElem?_cons_succ, eas_get0 r i (by simpa using h)]
    simp
theorem eas_get1 : ∀ (l : List Ad) (i : Nat) (h : i < l.length), (eas l)[i * 2 + 1]? = some (.int .i64 l[i].2)
  | [], i, h => by simp at h
  | x :: r, 0, h => by simp [eas_cons]
  | x :: r, i + 1, h => by
    rw [eas_cons, show (i + 1) * 2 + 1 = i * 2 + 1 + 1 + 1 by omega, List.getElem?_cons_succ, List.getElem?_cons_succ, eas_get1 r i (by simpa using h)]
    simp
theorem eas_inj : ∀ {l m : List Ad}, eas l = eas m → l = m
  | [], [], _ => rfl
  | [], y :: m, h => by rw [eas_cons] at h; cases h
  | x :: l, [], h => by rw [eas_cons] at h; cases h
  | x :: l, y :: m, h => by
    rw [eas_cons, eas_cons] at h
    simp only [List.cons.injEq, Value.int.injEq, true_and] at h
    rw [eas_inj h.2.2, ad_ext h.1 h.2.1]

def OwnA (T : TypeId) (w : World) (v : Value) (l sp : List Ad) : Prop := Own T 2 w v l.length (eas l) (eas sp)
def SlA (w : World) (v : Value) (l sp : List Ad) : Prop := Sl 2 w v l.length (eas l) (eas sp)
theorem OwnA.sl {T : TypeId} {w : World} {v : Value} {l sp : List Ad} (h : OwnA T w v l sp) : SlA w v l sp := Own.sl h
structure AdTys (P : Program) (tS T : TypeId) : Prop where
  sl : P.underlying tS = some (.slice T)
  info : (P.info? T).map (fun i => (i.zero, i.size, i.bytes)) = some (some (.agg #[.int .i64 0, .int .i64 0]), 2, 16)

section
variable {P : Program} {tS T : TypeId} {w : World} {v x : Value} {l sp m msp : List Ad}
theorem SlA.form (h : SlA w v l sp) : ∃ a cap, v = .slice a l.length cap ∧ l.length ≤ cap ∧ cap ≤ maxLen := Sl.form h
theorem OwnA.keep {w' : World} {L : List Nat} (h : OwnA T w v l sp) (f : Frm L w w') (hn : ∀ k ∈ blk v, k ∉ L) : OwnA T w' v l sp := Own.keep h f hn
theorem SlA.keep {w' : World} {L : List Nat} (h : SlA w v l sp) (f : Frm L w w') (hn : ∀ k ∈ blk v, k ∉ L) : SlA w' v l sp := Sl.keep h f hn
theorem OwnA.lt (h : OwnA T w v l sp) : ∀ k ∈ blk v, k < w.heap.size := Own.lt h
theorem OwnA.nil (T : TypeId) (w : World) : OwnA T w (.slice none 0 0) [] [] := Own.nil T 2 w
theorem SlA.nil (w : World) : SlA w (.slice none 0 0) [] [] := Sl.nil 2 w
theorem OwnA.heap {g n cap : Nat} (h : OwnA T w (.slice (some ⟨g, 0, none⟩) n cap) l sp) : w.heap[g]? = some (.cells (eas (l ++ sp)).toArray T (0, 0)) := by
  obtain ⟨h1, h2 | ⟨g', cap', h2, h3, h4, h5, h6⟩⟩ := h
  · cases h2.1
  · cases h2; rw [eas_append]; exact h6
theorem OwnA.caps {g n cap : Nat} (h : OwnA T w (.slice (some ⟨g, 0, none⟩) n cap) l sp) : n = l.length ∧ cap = l.length + sp.length ∧ cap ≤ maxLen := by
  obtain ⟨h1, h2 | ⟨g', cap', h2, h3, h4, h5, h6⟩⟩ := h
  · cases h2.1
  · cases h2; simp [eas_length] at h5; exact ⟨rfl, by omega, h4⟩
theorem OwnA.of_heap {g n cap : Nat} (h : w.heap[g]? = some (.cells (eas (l ++ sp)).toArray T (0, 0))) (hn : n = l.length) (hc : cap = l.length + sp.length) (hm : cap ≤ maxLen) :
    OwnA T w (.slice (some ⟨g, 0, none⟩) n cap) l sp := by
  subst hn
  refine ⟨by simp [eas_length], .inr ⟨g, cap, rfl, by omega, hm, by simp [eas_length, hc]; omega, ?_⟩⟩
  rw [h, eas_append]
/-- The cells of the i-th. -/
theorem SlA.cells {b off n cap : Nat} (h : SlA w (.slice (some ⟨b, off, none⟩) n cap) l sp) (i : Nat) (hi : i < l.length) :
    w.cell? ⟨b, off + i * 2, none⟩ = some (.int .i64 l[i].1) ∧ w.cell? ⟨b, off + i * 2 + 1, none⟩ = some (.int .i64 l[i].2) := by
  obtain ⟨h1, ⟨h2, h3, h4⟩ | ⟨a, h2, h3, h4⟩ | ⟨b', off', cap', h2, h3, h4, h5, h6⟩⟩ := h
  · omega
  · omega
  · cases h2
    have hl : (eas l).length = l.length * 2 := eas_length l
    refine ⟨h6 (i * 2) _ ?_, ?_⟩
    · rw [List.getElem?_append_left (by omega), eas_get0 l i hi]
    · rw [Nat.add_assoc]
      exact h6 (i * 2 + 1) _ (by rw [List.getElem?_append_left (by omega), eas_get1 l i hi])
theorem SlA.at {n : Nat} {a : Option Addr} {cap : Nat} (h : SlA w (.slice a n cap) l sp) (hp : 0 < l.length) : ∃ b off, a = some ⟨b, off, none⟩ := by
  obtain ⟨h1, ⟨h2, h3, h4⟩ | ⟨a', h2, h3, h4⟩ | ⟨b', off', cap', h2, h3, h4, h5, h6⟩⟩ := h
  · omega
  · omega
  · cases h2; exact ⟨_, _, rfl⟩
theorem SlA.blk_lt (h : SlA w v l sp) (hp : 0 < l.length) : ∀ k ∈ blk v, k < w.heap.size := by
  obtain ⟨h1, ⟨h2, h3, h4⟩ | ⟨a', h2, h3, h4⟩ | ⟨b', off', cap', h2, h3, h4, h5, h6⟩⟩ := id h
  · omega
  · omega
  · subst h2
    intro k hk
    simp [blk] at hk
    subst hk
    exact World.block_lt_of_cell? _ _ (h.cells 0 hp).1
theorem SlA.src {tx e' : TypeId} (hk : P.underlying tx = some (.slice e')) (h : SlA w v l sp) : Src P 2 tx v l.length (eas l) w := Sl.src hk h (eas_one l)
theorem append_ads_src (B : AdTys P tS T) (ty : TypeId) {tx : TypeId} (hO : OwnA T w v l sp) (hS : Src P 2 tx x m.length (eas m) w) (hb : l.length + m.length ≤ 1000000000000) :
    ∃ v' w' sp', (Builtin.append_ #[tS, tx] ty #[v, x]).run P w = .ok v' w' ∧ OwnA T w' v' (l ++ m) sp' ∧ Frm (blk v) w w' ∧ (blk v' = blk v ∨ (blk v' = [w.heap.size] ∧ Frm [] w w')) := by
  obtain ⟨i, hi, hz, hs, hby⟩ := info_parts B.info
  obtain ⟨v', w', sp', h1, h2, h3, h4, h5⟩ := append_run2 (ty := ty) B.sl hi hz hs hby rfl (by omega) hO hS (by simp [maxLen]; omega) (by omega)
  have hints := h5 (fun u => ∃ n, u = .int .i64 n) (eas_ints sp) (by intro u hu; simp [Value.cells] at hu; exact ⟨0, hu⟩)
  have hk : ∃ k, sp'.length = k * 2 := by
    obtain ⟨q1, ⟨q2, q3, q4⟩ | ⟨g, cap, q2, q3, q4, q5, q6⟩⟩ := h2
    · exact ⟨0, by simp [q4]⟩
    · rw [List.length_append, q1] at q5
      exact ⟨cap - (l.length + m.length), by rw [Nat.sub_mul]; omega⟩
  obtain ⟨k, hk⟩ := hk
  obtain ⟨s2, rfl, _⟩ := eas_of k hk hints
  refine ⟨v', w', s2, h1, ?_, h3, h4⟩
  unfold OwnA
  rw [eas_append, List.length_append]
  exact h2
theorem append_ads (B : AdTys P tS T) (ty : TypeId) (hO : OwnA T w v l sp) (hS : SlA w x m msp) (hb : l.length + m.length ≤ 1000000000000) :
    ∃ v' w' sp', (Builtin.append_ #[tS, tS] ty #[v, x]).run P w = .ok v' w' ∧ OwnA T w' v' (l ++ m) sp' ∧ Frm (blk v) w w' ∧ (blk v' = blk v ∨ (blk v' = [w.heap.size] ∧ Frm [] w w')) :=
  append_ads_src B ty hO (SlA.src B.sl hS) hb
end
/-- 'append(s, x...)' as the walk meets it. -/
theorem wpList_append_ads {P : Program} {tS T : TypeId} (B : AdTys P tS T) {w : World} {ops : Array Oper} {rest : List Oper} {o : Oper} {a : Act} {Q : Exit → Act → World → Prop}
    {v y : Value} {l sp m msp : List Ad} (hO : OwnA T w v l sp) (hS : SlA w y m msp) (hb : l.length + m.length ≤ 1000000000000)
    (hg : o.guard = none) (s x : Operand) (hop : o.op = Op.call { callee := Callee.builtin Builtin.append, args := #[s, x], argTypes := #[tS, tS] }) (hs : a.eval s = v) (hx : a.eval x = y)
    (k : ∀ a' cap' w' sp', OwnA T w' (.slice a' (l.length + m.length) cap') (l ++ m) sp' → Frm (blk v) w w' → (∀ i ∈ blk (.slice a' (l.length + m.length) cap'), i ∈ blk v ∨ w.heap.size ≤ i) →
      wpList P ops Q rest (a.put o.dst (.slice a' (l.length + m.length) cap')) w') :
    wpList P ops Q (o :: rest) a w := by
  obtain ⟨v', w', sp', h1, h2, h3, h4⟩ := append_ads (x := y) B o.type hO hS hb
  obtain ⟨a', cap', rfl, _, _⟩ := h2.sl.form
  rw [List.length_append] at h1 h2 h4
  refine wpList_val (w' := w') hg ?_ (k a' cap' w' sp' h2 h3 ?_)
  · simp [execOp, hop, resolve, invoke, builtin, hs, hx, h1, Result.andThen]
  · intro i hi
    rcases h4 with h4 | ⟨h4, _⟩
    · exact .inl (h4 ▸ hi)
    · rw [h4] at hi; simp at hi; exact .inr (by omega)
theorem step_append_ads {P : Program} {tS T : TypeId} (B : AdTys P tS T) {w : World} {ops : Array Oper} {o : Oper} {a : Act} {K : Act → World → Prop} {Q : Exit → Act → World → Prop} {E : Prop}
    {v y : Value} {l sp m msp : List Ad} (hO : OwnA T w v l sp) (hS : SlA w y m msp) (hb : l.length + m.length ≤ 1000000000000)
    (hg : o.guard = none) (s x : Operand) (hop : o.op = Op.call { callee := Callee.builtin Builtin.append, args := #[s, x], argTypes := #[tS, tS] }) (hs : a.eval s = v) (hx : a.eval x = y)
    (k : ∀ a' cap' w' sp', OwnA T w' (.slice a' (l.length + m.length) cap') (l ++ m) sp' → Frm (blk v) w w' → (∀ i ∈ blk (.slice a' (l.length + m.length) cap'), i ∈ blk v ∨ w.heap.size ≤ i) →
      K (a.put o.dst (.slice a' (l.length + m.length) cap')) w') :
    if Region.wanted o (yielded ops a.tmps) = true then Oper.wp P o a w K Q else E := by
  obtain ⟨v', w', sp', h1, h2, h3, h4⟩ := append_ads (x := y) B o.type hO hS hb
  obtain ⟨a', cap', rfl, _, _⟩ := h2.sl.form
  rw [List.length_append] at h1 h2 h4
  refine step_val (w' := w') hg ?_ (k a' cap' w' sp' h2 h3 ?_)
  · simp [execOp, hop, resolve, invoke, builtin, hs, hx, h1, Result.andThen]
  · intro i hi
    rcases h4 with h4 | ⟨h4, _⟩
    · exact .inl (h4 ▸ hi)
    · rw [h4] at hi; simp at hi; exact .inr (by omega)
end Go.Proofs.Ytafedmahehbggaa
