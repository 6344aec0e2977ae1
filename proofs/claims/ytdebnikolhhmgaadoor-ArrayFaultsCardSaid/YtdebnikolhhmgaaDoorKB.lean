/-
  Laws on slices of bytes: read, owned, appended to, made, turned into a string; and the walk's step for an operation whose run is known. No conditions but those that each law names.
-/
import Derived.Test.YtdebnikolhhmgaaDoorK
import Derived.Laws.BytesString
namespace Go.Proofs.YtdebnikolhhmgaaDoor
open Go.RowKit
set_option linter.unusedVariables false
set_option maxRecDepth 100000
set_option linter.unusedSimpArgs false

theorem wpList_val {P : Program} {w w' : World} {ops : Array Oper} {rest : List Oper} {o : Oper} {a : Act} {Q : Exit → Act → World → Prop} {v : Value}
    (hg : o.guard = none) (h : (execOp a.eval o).run P w = .ok (.value v) w') (k : wpList P ops Q rest (a.put o.dst v) w') : wpList P ops Q (o :: rest) a w :=
  wpList_plain hg fun K hK => by
    unfold Oper.wp
    rw [h]
    exact hK _ _ k

def bv (b : UInt8) : Value := .int .u8 b.toNat
def bvs (l : List UInt8) : List Value := l.map bv
theorem bvs_length (l : List UInt8) : (bvs l).length = l.length := by simp [bvs]
theorem bvs_append (l m : List UInt8) : bvs (l ++ m) = bvs l ++ bvs m := by simp [bvs]
theorem bvs_one (l : List UInt8) : ∀ u ∈ bvs l, u.oneCell' = true := by
  intro u hu
  obtain ⟨b, _, rfl⟩ := List.mem_map.1 hu
  rfl
theorem bvs_of {sp : List Value} (h : ∀ u ∈ sp, ∃ b, u = bv b) : ∃ l, sp = bvs l := by
  induction sp with
  | nil => exact ⟨[], rfl⟩
  | cons u r ih =>
    obtain ⟨b, rfl⟩ := h u (by simp)
    obtain ⟨l, rfl⟩ := ih fun x hx => h x (by simp [hx])
    exact ⟨b :: l, rfl⟩
theorem bvs_mem (l : List UInt8) : ∀ u ∈ bvs l, ∃ b, u = bv b := by
  intro u hu
  obtain ⟨b, _, rfl⟩ := List.mem_map.1 hu
  exact ⟨b, rfl⟩
theorem bvs_inj {l m : List UInt8} (h : bvs l = bvs m) : l = m := by
  induction l generalizing m with
  | nil => cases m with
    | nil => rfl
    | cons b r => cases h
  | cons b r ih => cases m with
    | nil => cases h
    | cons c t =>
      have h1 : bv b = bv c := (List.cons.injEq _ _ _ _ ▸ h).1
      have h2 : bvs r = bvs t := (List.cons.injEq _ _ _ _ ▸ h).2
      have e : (b.toNat : Int) = c.toNat := by simpa [bv] using h1
      have e2 : b = c := UInt8.toNat_inj.1 (by omega)
      rw [ih h2, e2]
theorem bvs_get (l : List UInt8) (i : Nat) : (bvs l)[i]? = (l[i]?).map bv := by simp [bvs]

/-- An owned row of bytes: 'l' its elements, 'sp' behind them. -/
def OwnB (T : TypeId) (w : World) (v : Value) (l sp : List UInt8) : Prop := Own T 1 w v l.length (bvs l) (bvs sp)
/-- A row of bytes that can be read. -/
def SlB (w : World) (v : Value) (l sp : List UInt8) : Prop := Sl 1 w v l.length (bvs l) (bvs sp)
theorem OwnB.sl {T : TypeId} {w : World} {v : Value} {l sp : List UInt8} (h : OwnB T w v l sp) : SlB w v l sp := Own.sl h

/-- What the table says of a slice of bytes. -/
structure ByteTys (P : Program) (tS T : TypeId) : Prop where
  sl : P.underlying tS = some (.slice T)
  el : P.underlying T = some (.int .u8)
  info : (P.info? T).map (fun i => (i.zero, i.size, i.bytes)) = some (some (.int .u8 0), 1, 1)

section
variable {P : Program} {tS T : TypeId} {w : World} {v x : Value} {l sp m msp : List UInt8}
theorem append_bytes_src (B : ByteTys P tS T) (ty : TypeId) {tx : TypeId} (hO : OwnB T w v l sp) (hS : Src P 1 tx x m.length (bvs m) w) (hb : l.length + m.length ≤ 140737488355328) :
    ∃ v' w' sp', (Builtin.append_ #[tS, tx] ty #[v, x]).run P w = .ok v' w' ∧ OwnB T w' v' (l ++ m) sp' ∧ Frm (blk v) w w' ∧ (blk v' = blk v ∨ blk v' = [w.heap.size]) := by
  obtain ⟨i, hi, hz, hs, hby⟩ := info_parts B.info
  obtain ⟨v', w', sp', h1, h2, h3, h4, h5⟩ := append_run (ty := ty) B.sl hi hz hs hby rfl (by omega) hO hS (by simp [maxLen]; omega) (by omega)
  obtain ⟨s2, rfl⟩ := bvs_of (h5 (fun u => ∃ b, u = bv b) (bvs_mem sp) (by intro u hu; simp [Value.cells] at hu; subst hu; exact ⟨0, rfl⟩))
  refine ⟨v', w', s2, h1, ?_, h3, h4⟩
  unfold OwnB
  rw [bvs_append, List.length_append]
  exact h2
theorem append_bytes (B : ByteTys P tS T) (ty : TypeId) (hO : OwnB T w v l sp) (hS : SlB w x m msp) (hb : l.length + m.length ≤ 140737488355328) :
    ∃ v' w' sp', (Builtin.append_ #[tS, tS] ty #[v, x]).run P w = .ok v' w' ∧ OwnB T w' v' (l ++ m) sp' ∧ Frm (blk v) w w' ∧ (blk v' = blk v ∨ blk v' = [w.heap.size]) :=
  append_bytes_src B ty hO (Sl.src B.sl hS (bvs_one m)) hb
theorem bvs_string (s : ByteArray) : byteCells s = bvs s.data.toList := rfl
theorem append_bytes_string (B : ByteTys P tS T) (ty : TypeId) {tx : TypeId} (hx : P.underlying tx = some .string) (hO : OwnB T w v l sp) (s : ByteArray) (hb : l.length + s.size ≤ 140737488355328) :
    ∃ v' w' sp', (Builtin.append_ #[tS, tx] ty #[v, .string s]).run P w = .ok v' w' ∧ OwnB T w' v' (l ++ s.data.toList) sp' ∧ Frm (blk v) w w' ∧ (blk v' = blk v ∨ blk v' = [w.heap.size]) :=
  append_bytes_src B ty hO (by have := Src.ofString w hx s; rw [bvs_string] at this; exact this) hb
theorem madeCells_zero (n : Nat) : (madeCells #[Value.int .u8 0] n).toList = bvs (List.replicate n 0) := by
  rw [toList_madeCells_one]
  simp [bvs, bv]
/-- make([]byte, n). -/
theorem make_bytes (B : ByteTys P tS T) (w : World) (kl kc : IntKind) (n : Nat) (hn : n ≤ 281474976710656) :
    ∃ w', (Instr.makeSlice tS (.int kl (n : Int)) (.int kc (n : Int))).run P w = .ok (.slice (some ⟨w.heap.size, 0, none⟩) n n) w' ∧ OwnB T w' (.slice (some ⟨w.heap.size, 0, none⟩) n n) (List.replicate n 0) [] ∧ Frm [] w w' := by
  obtain ⟨i, hi, hz, hs, hby⟩ := info_parts B.info
  obtain ⟨w', h1, h2, h3⟩ := run_make_full (P := P) w 0 tS T i _ 1 B.sl hi hz hs kl kc n (by rw [hby]; omega) (by simp [maxLen]; omega) (Nat.zero_le _)
  refine ⟨w', h1, ?_, Frm.of_grown h3 (by simp)⟩
  obtain ⟨k1, k2 | ⟨g, cap, cur, k2, _, k3, k4, k5, k6, k7⟩⟩ := h2
  · cases k2.1
  · simp only [Value.slice.injEq, Option.some.injEq, Addr.mk.injEq] at k2
    obtain ⟨⟨rfl, _⟩, _, rfl⟩ := k2
    have e1 : cur.toList = bvs (List.replicate n 0) := by
      have : cur.toList.take (n * 1) = cur.toList := List.take_of_length_le (by simp [k6])
      rw [← this, k7]
      simpa [Value.cells] using madeCells_zero n
    refine ⟨by simp [bvs_length], .inr ⟨w.heap.size, n, by simp, by simp, k5, by simp [bvs_length], ?_⟩⟩
    rw [k3]
    congr 2
    apply Array.ext'
    simp [e1, bvs]
/-- string(b). -/
theorem convert_bytes (B : ByteTys P tS T) (hS : SlB w v l sp) {dst : TypeId} (hd : P.underlying dst = some .string) : (convert tS dst v).run P w = .ok (.string ⟨l.toArray⟩) w := by
  obtain ⟨h1, ⟨rfl, h2, h3⟩ | ⟨a, rfl, h2, h3⟩ | ⟨b, off, cap, rfl, h3, h4, h5, h6⟩⟩ := hS
  · obtain rfl : l = [] := List.eq_nil_of_length_eq_zero h2
    exact run_convert_bytes_nil w tS T B.sl B.el 0 0 dst hd
  · obtain rfl : l = [] := List.eq_nil_of_length_eq_zero h2
    have hl : (loadCells a 0).run P w = .ok (([] : List Int).map (Value.int .u8)).toArray w := by
      simpa using run_loadCells_list (P := P) w a [] (fun j v hj => by simp at hj)
    rw [run_convert_bytes_string w tS dst T _ 0 0 B.sl B.el hd, run_bytesToString w a 0 0 [] hl]
    rfl
  · have := run_convert_bytes_arg (P := P) w tS T B.sl B.el b off l.length cap (l.map fun b => (b.toNat : Int)) (by simp) (fun i hi => by
      have := h6 i (bv l[i]) (by rw [List.getElem?_append_left (by simpa [bvs_length] using hi), bvs_get, List.getElem?_eq_getElem hi]; rfl)
      rw [this]
      simp [bv, List.getD, List.getElem?_eq_getElem hi]) dst hd
    rw [this]
    congr 2
    simp [strOfNums, Function.comp_def]
theorem SlB.form (h : SlB w v l sp) : ∃ a cap, v = .slice a l.length cap ∧ l.length ≤ cap ∧ cap ≤ maxLen := Sl.form h
theorem OwnB.keep {w' : World} {L : List Nat} (h : OwnB T w v l sp) (f : Frm L w w') (hn : ∀ k ∈ blk v, k ∉ L) : OwnB T w' v l sp := Own.keep h f hn
theorem SlB.keep {w' : World} {L : List Nat} (h : SlB w v l sp) (f : Frm L w w') (hn : ∀ k ∈ blk v, k ∉ L) : SlB w' v l sp := Sl.keep h f hn
theorem OwnB.lt (h : OwnB T w v l sp) : ∀ k ∈ blk v, k < w.heap.size := Own.lt h
theorem OwnB.nil (T : TypeId) (w : World) : OwnB T w (.slice none 0 0) [] [] := Own.nil T 1 w
theorem SlB.nil (w : World) : SlB w (.slice none 0 0) [] [] := Sl.nil 1 w
end
/-- 'append(s, x...)' as the walk meets it. -/
theorem wpList_append_bytes {P : Program} {tS T : TypeId} (B : ByteTys P tS T) {w : World} {ops : Array Oper} {rest : List Oper} {o : Oper} {a : Act} {Q : Exit → Act → World → Prop}
    {v y : Value} {l sp m msp : List UInt8} (hO : OwnB T w v l sp) (hS : SlB w y m msp) (hb : l.length + m.length ≤ 140737488355328)
    (hg : o.guard = none) (s x : Operand) (hop : o.op = Op.call { callee := Callee.builtin Builtin.append, args := #[s, x], argTypes := #[tS, tS] }) (hs : a.eval s = v) (hx : a.eval x = y)
    (k : ∀ a' cap' w' sp', OwnB T w' (.slice a' (l.length + m.length) cap') (l ++ m) sp' → Frm (blk v) w w' → (∀ i ∈ blk (.slice a' (l.length + m.length) cap'), i ∈ blk v ∨ w.heap.size ≤ i) →
      wpList P ops Q rest (a.put o.dst (.slice a' (l.length + m.length) cap')) w') :
    wpList P ops Q (o :: rest) a w := by
  obtain ⟨v', w', sp', h1, h2, h3, h4⟩ := append_bytes (x := y) B o.type hO hS hb
  obtain ⟨a', cap', rfl, _, _⟩ := h2.sl.form
  rw [List.length_append] at h1 h2 h4
  refine wpList_val (w' := w') hg ?_ (k a' cap' w' sp' h2 h3 ?_)
  · simp [execOp, hop, resolve, invoke, builtin, hs, hx, h1, Result.andThen]
  · intro i hi
    rcases h4 with h4 | h4
    · exact .inl (h4 ▸ hi)
    · rw [h4] at hi; simp at hi; exact .inr (by omega)
/-- 'append(s, x...)' from whatever source. -/
theorem wpList_append_src {P : Program} {tS T tx : TypeId} (B : ByteTys P tS T) {w : World} {ops : Array Oper} {rest : List Oper} {o : Oper} {a : Act} {Q : Exit → Act → World → Prop}
    {v y : Value} {l sp m : List UInt8} (hO : OwnB T w v l sp) (hS : Src P 1 tx y m.length (bvs m) w) (hb : l.length + m.length ≤ 140737488355328)
    (hg : o.guard = none) (s x : Operand) (hop : o.op = Op.call { callee := Callee.builtin Builtin.append, args := #[s, x], argTypes := #[tS, tx] }) (hs : a.eval s = v) (hx : a.eval x = y)
    (k : ∀ a' cap' w' sp', OwnB T w' (.slice a' (l.length + m.length) cap') (l ++ m) sp' → Frm (blk v) w w' → (∀ i ∈ blk (.slice a' (l.length + m.length) cap'), i ∈ blk v ∨ w.heap.size ≤ i) →
      wpList P ops Q rest (a.put o.dst (.slice a' (l.length + m.length) cap')) w') :
    wpList P ops Q (o :: rest) a w := by
  obtain ⟨v', w', sp', h1, h2, h3, h4⟩ := append_bytes_src (x := y) B o.type hO hS hb
  obtain ⟨a', cap', rfl, _, _⟩ := h2.sl.form
  rw [List.length_append] at h1 h2 h4
  refine wpList_val (w' := w') hg ?_ (k a' cap' w' sp' h2 h3 ?_)
  · simp [execOp, hop, resolve, invoke, builtin, hs, hx, h1, Result.andThen]
  · intro i hi
    rcases h4 with h4 | h4
    · exact .inl (h4 ▸ hi)
    · rw [h4] at hi; simp at hi; exact .inr (by omega)
/-- 'make([]byte, n)' as the walk meets it. -/
theorem wpList_make_bytes {P : Program} {tS T : TypeId} (B : ByteTys P tS T) {w : World} {ops : Array Oper} {rest : List Oper} {o : Oper} {a : Act} {Q : Exit → Act → World → Prop}
    (n : Nat) (hn : n ≤ 281474976710656) (hg : o.guard = none) (x y : Operand) (hop : o.op = Op.makeSlice tS x y) {kl kc : IntKind} {X Y : Int} (hx : a.eval x = .int kl X) (hy : a.eval y = .int kc Y) (hX : X = n) (hY : Y = n)
    (k : ∀ w', OwnB T w' (.slice (some ⟨w.heap.size, 0, none⟩) n n) (List.replicate n 0) [] → Frm [] w w' → wpList P ops Q rest (a.put o.dst (.slice (some ⟨w.heap.size, 0, none⟩) n n)) w') :
    wpList P ops Q (o :: rest) a w := by
  subst hX
  subst hY
  obtain ⟨w', h1, h2, h3⟩ := make_bytes B w kl kc n hn
  refine wpList_val (v := .slice (some ⟨w.heap.size, 0, none⟩) n n) (w' := w') hg ?_ (k w' h2 h3)
  simp [execOp, hop, hx, hy, h1, Result.andThen]
theorem OwnB.heap {T : TypeId} {w : World} {g n cap : Nat} {l sp : List UInt8} (h : OwnB T w (.slice (some ⟨g, 0, none⟩) n cap) l sp) : w.heap[g]? = some (.cells (bvs (l ++ sp)).toArray T (0, 0)) := by
  obtain ⟨h1, h2 | ⟨g', cap', h2, h3, h4, h5, h6⟩⟩ := h
  · cases h2.1
  · cases h2; rw [bvs_append]; exact h6
theorem OwnB.caps {T : TypeId} {w : World} {g n cap : Nat} {l sp : List UInt8} (h : OwnB T w (.slice (some ⟨g, 0, none⟩) n cap) l sp) : n = l.length ∧ cap = l.length + sp.length ∧ cap ≤ maxLen := by
  obtain ⟨h1, h2 | ⟨g', cap', h2, h3, h4, h5, h6⟩⟩ := h
  · cases h2.1
  · cases h2; simp [bvs_length] at h5; exact ⟨rfl, by omega, h4⟩
theorem OwnB.of_heap {T : TypeId} {w : World} {g n cap : Nat} {l sp : List UInt8} (h : w.heap[g]? = some (.cells (bvs (l ++ sp)).toArray T (0, 0))) (hn : n = l.length) (hc : cap = l.length + sp.length) (hm : cap ≤ maxLen) :
    OwnB T w (.slice (some ⟨g, 0, none⟩) n cap) l sp := by
  subst hn
  refine ⟨by simp [bvs_length], .inr ⟨g, cap, rfl, by omega, hm, by simp [bvs_length, hc], ?_⟩⟩
  rw [h, bvs_append]
theorem bvs_set (l : List UInt8) (i : Nat) (x : UInt8) : (bvs l).toArray.setIfInBounds i (bv x) = (bvs (l.set i x)).toArray := by
  apply Array.ext'
  simp [bvs, List.map_set]
/-- A store into an owned row of bytes. -/
theorem OwnB.store {T : TypeId} {w : World} {g n cap : Nat} {l sp : List UInt8} (h : OwnB T w (.slice (some ⟨g, 0, none⟩) n cap) l sp) (i : Nat) (hi : i < l.length) (x : UInt8) {u : Value} (hu : u = bv x) :
    OwnB T (w.setCell ⟨g, i, none⟩ u) (.slice (some ⟨g, 0, none⟩) n cap) (l.set i x) sp := by
  subst hu
  obtain ⟨h1, h2, h3⟩ := h.caps
  refine OwnB.of_heap ?_ (by simpa using h1) (by simpa using h2) h3
  rw [heap_setCell_same _ h.heap, bvs_set, List.set_append_left _ _ hi]
theorem OwnB.cell {T : TypeId} {w : World} {g n cap : Nat} {l sp : List UInt8} (h : OwnB T w (.slice (some ⟨g, 0, none⟩) n cap) l sp) (i : Nat) (hi : i < l.length + sp.length) : w.cell? ⟨g, i, none⟩ = some (bv (l ++ sp)[i]!) := by
  have hi' : i < (l ++ sp).length := by simpa using hi
  rw [cell_of_heap h.heap, List.getElem?_toArray, bvs_get, List.getElem?_eq_getElem hi', getElem!_pos (l ++ sp) i hi']
  rfl
theorem OwnB.frozen {T : TypeId} {w : World} {g n cap : Nat} {l sp : List UInt8} (h : OwnB T w (.slice (some ⟨g, 0, none⟩) n cap) l sp) (i : Nat) : w.frozen? ⟨g, i, none⟩ = false := frozen_of_heap h.heap i
/-- copy(d, x), d a part of an owned row from 'off' on, x no longer than d. -/
theorem copy_bytes {P : Program} {tS T tx : TypeId} (B : ByteTys P tS T) (ty : TypeId) {w : World} {g n cap : Nat} {l sp m : List UInt8} (hO : OwnB T w (.slice (some ⟨g, 0, none⟩) n cap) l sp) (off : Nat) {da : Option Addr} {dLen dCap : Nat}
    (hda : 0 < dLen → da = some ⟨g, off, none⟩) (hfit : off + dLen ≤ l.length) {x : Value} (hS : Src P 1 tx x m.length (bvs m) w) (hm : m.length ≤ dLen) :
    ∃ w', (Builtin.copy_ #[tS, tx] ty #[.slice da dLen dCap, x]).run P w = .ok (goInt m.length) w' ∧ OwnB T w' (.slice (some ⟨g, 0, none⟩) n cap) (l.take off ++ m ++ l.drop (off + m.length)) sp ∧ Frm [g] w w' := by
  obtain ⟨i, hi, hz, hs, hby⟩ := info_parts B.info
  obtain ⟨c1, c2, c3⟩ := hO.caps
  have hlen : (l.take off ++ m ++ l.drop (off + m.length)).length = l.length := by simp; omega
  have hmin : Nat.min m.length dLen = m.length := Nat.min_eq_left hm
  have hcells := hS.cells
  by_cases h0 : m = []
  · subst h0
    refine ⟨w, ?_, by simpa using hO, Frm.refl _ _⟩
    have hst : ∀ a : Addr, (storeCells a []).run P w = .ok () w := fun a => by simp [storeCells]
    cases da <;> simp [Builtin.copy_, run_underlying B.sl, sizeOf, typeInfo, hi, hs, hS.len, bvs, goInt, hst] <;> (simp [bvs] at hcells; simp [hcells, hst])
  · have hpos : 0 < m.length := List.length_pos_iff.2 h0
    obtain rfl := hda (by omega)
    have hst := run_storeCells_at P g off T (bvs m) 0 (bvs (l ++ sp)).toArray w hO.heap (by simp [bvs_length]; omega) (bvs_one m)
    simp only [Nat.add_zero] at hst
    refine ⟨w.setRow g (bvs (l.take off ++ m ++ l.drop (off + m.length) ++ sp)).toArray, ?_, OwnB.of_heap (setRow_heap w g _ _ _ _ hO.heap) (by omega) (by omega) c3, ?_⟩
    · have hcur : (bvs (l ++ sp)).take off ++ bvs m ++ (bvs (l ++ sp)).drop (off + m.length) = bvs (l.take off ++ m ++ l.drop (off + m.length) ++ sp) := by
        simp only [bvs, List.map_append, List.map_take, List.map_drop]
        rw [List.take_append_of_le_length (by simp; omega), List.drop_append_of_le_length (by simp; omega)]
        simp
      rw [← hcur]
      simp [Builtin.copy_, run_underlying B.sl, sizeOf, typeInfo, hi, hs, hS.len, hmin, hcells, goInt, hst, bvs_length]
    · exact ⟨rfl, rfl, rfl, by simp [World.setRow], fun k hk hn => setRow_other w g k _ (by simpa using hn)⟩
/-- 'copy(d, x)' as the walk meets it. -/
theorem wpList_copy_bytes {P : Program} {tS T tx : TypeId} (B : ByteTys P tS T) {w : World} {ops : Array Oper} {rest : List Oper} {o : Oper} {a : Act} {Q : Exit → Act → World → Prop}
    {g n cap : Nat} {l sp m : List UInt8} (hO : OwnB T w (.slice (some ⟨g, 0, none⟩) n cap) l sp) (off : Nat) {da : Option Addr} {dLen dCap : Nat} {y : Value}
    (hS : Src P 1 tx y m.length (bvs m) w) (hfit : off + dLen ≤ l.length) (hm : m.length ≤ dLen) (hda : 0 < dLen → da = some ⟨g, off, none⟩)
    (hg : o.guard = none) (d x : Operand) (hop : o.op = Op.call { callee := Callee.builtin Builtin.copy, args := #[d, x], argTypes := #[tS, tx] }) (hd : a.eval d = .slice da dLen dCap) (hx : a.eval x = y)
    (k : ∀ w', OwnB T w' (.slice (some ⟨g, 0, none⟩) n cap) (l.take off ++ m ++ l.drop (off + m.length)) sp → Frm [g] w w' → wpList P ops Q rest (a.put o.dst (goInt m.length)) w') :
    wpList P ops Q (o :: rest) a w := by
  obtain ⟨w', h1, h2, h3⟩ := copy_bytes (dCap := dCap) B o.type hO off hda hfit hS hm
  refine wpList_val (w' := w') hg ?_ (k w' h2 h3)
  simp [execOp, hop, resolve, invoke, builtin, hd, hx, h1, Result.andThen]
theorem src_string {P : Program} {tx : TypeId} (hx : P.underlying tx = some .string) (s : ByteArray) (w : World) : Src P 1 tx (.string s) s.data.toList.length (bvs s.data.toList) w := by
  have := Src.ofString w hx s
  rw [bvs_string] at this
  exact this
/-- The same steps inside a region that draws its order. -/
theorem step_val {P : Program} {w w' : World} {ops : Array Oper} {o : Oper} {a : Act} {K : Act → World → Prop} {Q : Exit → Act → World → Prop} {E : Prop} {v : Value}
    (hg : o.guard = none) (h : (execOp a.eval o).run P w = .ok (.value v) w') (k : K (a.put o.dst v) w') : if Region.wanted o (yielded ops a.tmps) = true then Oper.wp P o a w K Q else E := by
  rw [if_pos (by simp [Region.wanted, hg])]
  unfold Oper.wp
  rw [h]
  exact k
theorem step_make_bytes {P : Program} {tS T : TypeId} (B : ByteTys P tS T) {w : World} {ops : Array Oper} {o : Oper} {a : Act} {K : Act → World → Prop} {Q : Exit → Act → World → Prop} {E : Prop}
    (n : Nat) (hn : n ≤ 281474976710656) (hg : o.guard = none) (x y : Operand) (hop : o.op = Op.makeSlice tS x y) {kl kc : IntKind} {X Y : Int} (hx : a.eval x = .int kl X) (hy : a.eval y = .int kc Y) (hX : X = n) (hY : Y = n)
    (k : ∀ w', OwnB T w' (.slice (some ⟨w.heap.size, 0, none⟩) n n) (List.replicate n 0) [] → Frm [] w w' → K (a.put o.dst (.slice (some ⟨w.heap.size, 0, none⟩) n n)) w') :
    if Region.wanted o (yielded ops a.tmps) = true then Oper.wp P o a w K Q else E := by
  subst hX
  subst hY
  obtain ⟨w', h1, h2, h3⟩ := make_bytes B w kl kc n hn
  refine step_val (v := .slice (some ⟨w.heap.size, 0, none⟩) n n) (w' := w') hg ?_ (k w' h2 h3)
  simp [execOp, hop, hx, hy, h1, Result.andThen]
theorem upon_make_bytes {P : Program} {tS T : TypeId} (B : ByteTys P tS T) {w : World} {o : Oper} {a : Act} {K : Act → World → Prop} {Q : Exit → Act → World → Prop}
    (n : Nat) (hn : n ≤ 281474976710656) {kl kc : IntKind}
    (k : ∀ w', OwnB T w' (.slice (some ⟨w.heap.size, 0, none⟩) n n) (List.replicate n 0) [] → Frm [] w w' → K (a.put o.dst (.slice (some ⟨w.heap.size, 0, none⟩) n n)) w') :
    o.upon P a K Q (((Instr.makeSlice tS (.int kl (n : Int)) (.int kc (n : Int))).run P w).andThen fun x w' => .ok (.value x) w') := by
  obtain ⟨w', h1, h2, h3⟩ := make_bytes B w kl kc n hn
  rw [h1]
  exact k w' h2 h3
theorem step_append_bytes {P : Program} {tS T : TypeId} (B : ByteTys P tS T) {w : World} {ops : Array Oper} {o : Oper} {a : Act} {K : Act → World → Prop} {Q : Exit → Act → World → Prop} {E : Prop}
    {v y : Value} {l sp m msp : List UInt8} (hO : OwnB T w v l sp) (hS : SlB w y m msp) (hb : l.length + m.length ≤ 140737488355328)
    (hg : o.guard = none) (s x : Operand) (hop : o.op = Op.call { callee := Callee.builtin Builtin.append, args := #[s, x], argTypes := #[tS, tS] }) (hs : a.eval s = v) (hx : a.eval x = y)
    (k : ∀ a' cap' w' sp', OwnB T w' (.slice a' (l.length + m.length) cap') (l ++ m) sp' → Frm (blk v) w w' → (∀ i ∈ blk (.slice a' (l.length + m.length) cap'), i ∈ blk v ∨ w.heap.size ≤ i) →
      K (a.put o.dst (.slice a' (l.length + m.length) cap')) w') :
    if Region.wanted o (yielded ops a.tmps) = true then Oper.wp P o a w K Q else E := by
  obtain ⟨v', w', sp', h1, h2, h3, h4⟩ := append_bytes (x := y) B o.type hO hS hb
  obtain ⟨a', cap', rfl, _, _⟩ := h2.sl.form
  rw [List.length_append] at h1 h2 h4
  refine step_val (w' := w') hg ?_ (k a' cap' w' sp' h2 h3 ?_)
  · simp [execOp, hop, resolve, invoke, builtin, hs, hx, h1, Result.andThen]
  · intro i hi
    rcases h4 with h4 | h4
    · exact .inl (h4 ▸ hi)
    · rw [h4] at hi; simp at hi; exact .inr (by omega)
#print axioms copy_bytes
#print axioms wpList_append_bytes
#print axioms wpList_make_bytes
#print axioms convert_bytes
end Go.Proofs.YtdebnikolhhmgaaDoor
