/-
  Runs of many; lists of records that are told. No conditions but those that each theorem names. What a row's own reading gives the walks: tables, bytes. No conditions but those that each theorem names. The document reads a table. No conditions but those that each theorem names. A table is copied. No conditions but those that each theorem names. The reader of the program: its block, its demand. No conditions but those that each theorem names. The reader of the program takes. No conditions but those that each theorem names. The reader of the program: numbers. No conditions but those that each theorem names. The reader of the program: texts, roots. No conditions but those that each theorem names. The reader of the program: a record. No conditions but those that each theorem names. The reader of the program: a cursor. No conditions but those that each theorem names.
-/
import Derived.Test.YtljhanhipmnioaaGreatMRa1
import Derived.Test.YtljhanhipmnioaaGreatMRa2
import Derived.Test.YtljhanhipmnioaaGreatMRa3
import Derived.Test.YtljhanhipmnioaaGreatMRa4
import Derived.Test.YtljhanhipmnioaaGreatMRa5
import Derived.Test.YtljhanhipmnioaaGreatMRa6
import Derived.Test.YtljhanhipmnioaaGreatMRa7
import Derived.OrdersHeld
import Derived.Great.Walk
import Derived.Deep.Slices
import Derived.ChangeSame
import Derived.ChangeMaps5
import Derived.StillTailTactics
import Derived.WalkKit
import Derived.WalkSpells
import Derived.WalkLawsBesides
import Derived.Deep.AppendSrc
import Derived.Laws.CopyOwn
import Derived.Laws.BytesArg
import Derived.Carry
import Derived.Laws.BytesString
import Derived.Deep.SlicePairs
import Derived.Deep.Cut
import Derived.Lib.Hide
import Derived.Test.YtljhanhipmnioaaGreatChecked
import Derived.ChangeKeysEq
import Derived.Deep.MidRow
import Derived.Deep.RegionHeld3
import Derived.OpenShut
import Derived.WalkHide
import Derived.IntWalk
import Derived.Deep.RegionLaw
import Derived.Deep.RegionWith
import Derived.Deep.QuietTactic
import Derived.BigQuiet
import Derived.Deep.CutBlock
import Derived.Deep.DeepCutAuto
import Derived.Defers
import Derived.Recover
import Derived.Deep.WholeRow
import Derived.Deep.Strs
import Derived.Lib.Bytealg
import Derived.Lib.TrimUEq
import Derived.Lib.MinMaxS
import Derived.LaidEqlPtr
import Derived.Lib.OthersKept
import Derived.Deep.Draws
import Derived.WalkMore
import Derived.Deep.LoopGhost
import Derived.Lib.BufferWrite
import Derived.Lib.UnsafeStr
import Derived.Laws.MakeOwn
import Derived.Laws.Strings3
import Derived.BigRegion
import Derived.Lib.Walk
namespace Go.Proofs.YtljhanhipmnioaaGreat.Rd
open Go.RowKit
set_option linter.unusedVariables false
set_option linter.unusedSimpArgs false
set_option maxRecDepth 100000

open Pt (Pt may enc readPt readE zeroPt be4 be1 pc pv PtV SlA OwnA BT wpList_load_g heap_alloc_at lst_slB one_slB Ext Grew exec_slice_lh yieldsIf_ld)
open Kr (OwnE SlE Enco RowTys)
/-- Parsers one behind the other. -/
theorem bnd_assoc {α β γ : Type} (p : P α) (f : α → P β) (h : β → P γ) : bnd (bnd p f) h = bnd p (fun x => bnd (f x) h) := by
  funext l; unfold bnd; cases p l <;> rfl
theorem bnd_ret {α β : Type} (x : α) (f : α → P β) : bnd (ret x) f = f x := by funext l; rfl
theorem many_snocP {α : Type} (p : P α) : ∀ n, many p (n + 1) = bnd (many p n) fun xs => bnd p fun x => ret (xs ++ [x])
  | 0 => rfl
  | n + 1 => by
    show bnd p (fun x => bnd (many p (n + 1)) fun r => ret (x :: r)) = bnd (bnd p fun x => bnd (many p n) fun r => ret (x :: r)) _
    rw [many_snocP p n]
    simp only [bnd_assoc, bnd_ret]
    rfl
theorem Runs.start {α : Type} {p : P α} {l : List UInt8} {a : Nat} {s : Bool} (ha : a ≤ l.length) : Runs (many p 0) l a s [] a s := Runs.ret _ _ _ _ ha
theorem Runs.snoc {α : Type} {p : P α} {n : Nat} {l : List UInt8} {a1 a2 a3 : Nat} {s1 s2 s3 : Bool} {xs : List α} {x : α} (h : Runs (many p n) l a1 s1 xs a2 s2) (k : Runs p l a2 s2 x a3 s3) (ha : a3 ≤ l.length) : Runs (many p (n + 1)) l a1 s1 (xs ++ [x]) a3 s3 := by
  rw [many_snocP]; exact h.bnd (k.bnd (Runs.ret _ _ _ _ ha))
/-- What the table's run means. -/
theorem Runs.none' {α : Type} {p : P α} {l : List UInt8} {x : α} {a : Nat} (h : Runs p l 0 false x a true) : p l = none := by
  rcases h.2 rfl with ⟨_, _, _, e, _⟩ | ⟨e, _⟩
  · cases e
  · exact e
theorem Runs.some' {α : Type} {p : P α} {l : List UInt8} {x : α} {a : Nat} (h : Runs p l 0 false x a false) : p l = some (x, l.drop a) ∧ a ≤ l.length := by
  rcases h.2 rfl with ⟨y, r, e, _, rfl, rfl, h1, _⟩ | ⟨_, e⟩
  · exact ⟨e, h1⟩
  · cases e
/-- The blocks of a row's addresses. -/
def rb (r : RowT) : List Nat := match r.1[4]? with
  | some v => blk v
  | none => []
theorem rb_rc {r : RowT} {v : Value} {u : Rec} (h : r.1 = rc v u) : rb r = blk v := by unfold rb; rw [h]; rfl
theorem tysRec : RowTys Tryz.prog 22 56 44 152 := ⟨Tryz.underlying22, .agg (rc nilS zeroR).toArray, by kernel_rfl, by kernel_rfl⟩
theorem fold_set2 (off : Nat) (post : List Value) : ∀ (vs : List Value) (k : Nat) (pre mid : List Value), mid.length = vs.length → pre.length = off + k → (vs.zipIdx k).foldl (fun (cs : Array Value) (x : Value × Nat) => cs.setIfInBounds (off + x.2) x.1) (pre ++ (mid ++ post)).toArray = (pre ++ (vs ++ post)).toArray
  | [], k, pre, mid, h, _ => by
    obtain rfl : mid = [] := List.eq_nil_of_length_eq_zero (by simpa using h)
    rfl
  | v :: vs, k, pre, [], h, _ => by simp at h
  | v :: vs, k, pre, s :: mid, h, hp => by
    have ih := fold_set2 off post vs (k + 1) (pre ++ [v]) mid (by simpa using h) (by simp; omega)
    simp only [List.zipIdx_cons, List.foldl_cons]
    have e : (pre ++ (s :: mid ++ post)).toArray.setIfInBounds (off + k) v = (pre ++ [v] ++ (mid ++ post)).toArray := by
      apply Array.ext'
      rw [Array.toList_setIfInBounds, ← hp]
      simp
    rw [e]
    simpa using ih
theorem info56 : ∃ i, Tryz.prog.info? 56 = some i ∧ i.zero = some (.agg (rc nilS zeroR).toArray) ∧ i.size = 44 := by
  obtain ⟨i, hi, hz, hs, _⟩ := info_parts (show (Tryz.prog.info? 56).map (fun i => (i.zero, i.size, i.bytes)) = some (some (.agg (rc nilS zeroR).toArray), 44, 152) by kernel_rfl)
  exact ⟨i, hi, hz, hs⟩
theorem fill_cons {place : Nat → Option (Nat × Nat)} {cells : Array Value} {i : Nat} {v : Value} {rest : List (Nat × Value)} {off size : Nat} (hp : place i = some (off, size)) (h1 : v.cells.size = size) (h2 : off + size ≤ cells.size) :
    Instr.fill place cells ((i, v) :: rest) = Instr.fill place (v.cells.zipIdx.foldl (fun (cs : Array Value) (x : Value × Nat) => cs.setIfInBounds (off + x.2) x.1) cells) rest := by
  subst h1
  rw [Instr.fill, hp]
  simp only
  rw [if_neg (by simp; omega)]
theorem built56 {c : List Value} (hl : c.length = 44) : Tryz.prog.builtSlice 56 1 [(0, .agg c.toArray)] = some c.toArray := by
  obtain ⟨i, hi, hz, hsz⟩ := info56
  unfold Program.builtSlice
  simp only [hi, hz, hsz]
  have h0 : (Array.range (1 * 44)).map ((Value.agg (rc nilS zeroR).toArray).cells[· % (Value.agg (rc nilS zeroR).toArray).cells.size]!) = (rc nilS zeroR).toArray := by kernel_rfl
  rw [if_neg (by decide), h0]
  rw [fill_cons (off := 0) (size := 44) rfl (by rw [show (Value.agg c.toArray).cells = c.toArray from rfl]; simp [hl]) (by simp [rc_length zeroR_s]), Instr.fill, show (Value.agg c.toArray).cells = c.toArray from rfl]
  have := fold_set2 0 [] (c) 0 [] (rc nilS zeroR) (by rw [hl, rc_length zeroR_s]) rfl
  simp only [List.nil_append, List.append_nil] at this
  simpa [← Array.foldl_toList] using this
theorem tysI : RowTys Tryz.prog 25 3 1 8 := ⟨Tryz.underlying25, .int .i64 0, by kernel_rfl, by kernel_rfl⟩
theorem SlA.either {w : World} {v : Value} {l sp : List Pt.Ad} (h : SlA w v l sp) : (∀ w', SlA w' v l sp) ∨ ∀ i ∈ blk v, i < w.heap.size := by
  obtain ⟨h1, ⟨h2, h3, h4⟩ | ⟨a, h2, h3, h4⟩ | ⟨b, off, cap, h2, h3, h4, h5, h6⟩⟩ := id h
  · exact .inl fun w' => ⟨h1, .inl ⟨h2, h3, h4⟩⟩
  · exact .inl fun w' => ⟨h1, .inr (.inl ⟨a, h2, h3, h4⟩)⟩
  · by_cases hc : (Pt.eas l ++ Pt.eas sp) = []
    · exact .inl fun w' => ⟨h1, .inr (.inr ⟨b, off, cap, h2, h3, h4, h5, fun i u hu => by rw [hc] at hu; simp at hu⟩)⟩
    · refine .inr fun i hi => ?_
      rw [h2] at hi
      simp [blk] at hi
      subst hi
      have hp : 0 < (Pt.eas l ++ Pt.eas sp).length := List.length_pos_iff.2 hc
      exact World.block_lt_of_cell? _ _ (h6 0 _ (List.getElem?_eq_getElem hp))
theorem RowV.either {w : World} {r : RowT} {u : Rec} (h : RowV w r u) : (∀ w', RowV w' r u) ∨ ∀ i ∈ rb r, i < w.heap.size := by
  obtain ⟨a, cap, sp, e, hA, hw⟩ := h
  rcases SlA.either hA with h | h
  · exact .inl fun w' => ⟨a, cap, sp, e, h w', hw⟩
  · exact .inr (by rw [rb_rc e]; exact h)
theorem RowV.keep {w w' : World} {r : RowT} {u : Rec} {L : List Nat} (h : RowV w r u) (f : Frm L w w') (hL : ∀ i ∈ rb r, i ∉ L) : RowV w' r u := by
  obtain ⟨a, cap, sp, e, hA, hw⟩ := h
  rw [rb_rc e] at hL
  exact ⟨a, cap, sp, e, hA.keep f hL, hw⟩
/-- A list of records that a call has made since a world: its row its own, the addresses wherever. -/
structure Td (w0 w : World) (v : Value) (l : List Rec) (rs : List RowT) : Prop where
  own : ∃ sp, OwnE eR 44 56 w v rs sp
  len : rs.length = l.length
  row : ∀ (i : Nat) r u, rs[i]? = some r → l[i]? = some u → RowV w r u ∧ ((∀ w', RowV w' r u) ∨ ∀ k ∈ rb r, k ∉ blk v ∧ k < w.heap.size)
  base : ∀ k ∈ blk v, w0.heap.size ≤ k
  frm : Frm [] w0 w
theorem Td.nil (w : World) : Td w w (.slice none 0 0) [] [] := ⟨⟨[], OwnE.nil _ _ _ _⟩, rfl, fun i r u h => by simp at h, by simp [blk], Frm.refl _ _⟩
theorem Td.us {w0 w : World} {v : Value} {l : List Rec} {rs : List RowT} (h : Td w0 w v l rs) : Rs w v l := by
  obtain ⟨sp, ho⟩ := h.own
  exact ⟨rs, sp, ho.sl, h.len, fun i r u h1 h2 => (h.row i r u h1 h2).1⟩
theorem Td.keep {w0 w w' : World} {v : Value} {l : List Rec} {rs : List RowT} {L : List Nat} (h : Td w0 w v l rs) (f : Frm L w w') (hL : ∀ k ∈ L, k ∉ blk v ∧ ∀ (i : Nat) r, rs[i]? = some r → k ∉ rb r) (f0 : Frm [] w0 w') : Td w0 w' v l rs := by
  obtain ⟨sp, ho⟩ := h.own
  refine ⟨⟨sp, ho.keep f (fun k hk hm => (hL k hm).1 hk)⟩, h.len, fun i r u h1 h2 => ?_, h.base, f0⟩
  obtain ⟨hv, hw⟩ := h.row i r u h1 h2
  refine ⟨hv.keep f (fun k hk hm => (hL k hm).2 i r h1 hk), hw.imp id (fun hk k hm => ⟨(hk k hm).1, Nat.lt_of_lt_of_le (hk k hm).2 f.size⟩)⟩
theorem Td.keep0 {w0 w w' : World} {v : Value} {l : List Rec} {rs : List RowT} (h : Td w0 w v l rs) (f : Frm [] w w') : Td w0 w' v l rs := h.keep f (fun k hk => by cases hk) (h.frm.trans f (by simp))
theorem Td.more {w0 w w' : World} {v v' : Value} {l : List Rec} {rs : List RowT} {x : RowT} {u : Rec} {sp : List Value} (h : Td w0 w v l rs) (f : Frm (blk v) w w') (ho : OwnE eR 44 56 w' v' (rs ++ [x]) sp) (hn : ∀ i ∈ blk v', i ∈ blk v ∨ w.heap.size ≤ i)
    (hx : RowV w x u) (hxn : (∀ w', RowV w' x u) ∨ ∀ k ∈ rb x, k ∉ blk v) : Td w0 w' v' (l ++ [u]) (rs ++ [x]) := by
  have hold : ∀ (r : RowT) (u : Rec), RowV w r u → ((∀ w', RowV w' r u) ∨ ∀ k ∈ rb r, k ∉ blk v ∧ k < w.heap.size) → RowV w' r u ∧ ((∀ w', RowV w' r u) ∨ ∀ k ∈ rb r, k ∉ blk v' ∧ k < w'.heap.size) := fun r u h1 h2 => by
    rcases h2 with h2 | h2
    · exact ⟨h2 w', .inl h2⟩
    · refine ⟨h1.keep f (fun k hk => (h2 k hk).1), .inr fun k hk => ⟨fun hm => ?_, Nat.lt_of_lt_of_le (h2 k hk).2 f.size⟩⟩
      rcases hn k hm with q | q
      · exact (h2 k hk).1 q
      · have := (h2 k hk).2; omega
  refine ⟨⟨sp, ho⟩, by simp [h.len], fun i r u2 h1 h2 => ?_, fun k hk => ?_, h.frm.trans f (fun i hi => .inr (h.base i hi))⟩
  · rcases Nat.lt_or_ge i rs.length with hi | hi
    · rw [List.getElem?_append_left hi] at h1
      rw [List.getElem?_append_left (by have := h.len; omega)] at h2
      exact hold r u2 (h.row i r u2 h1 h2).1 (h.row i r u2 h1 h2).2
    · rcases Nat.eq_or_lt_of_le hi with e | e
      · subst e
        rw [List.getElem?_append_right (Nat.le_refl _)] at h1
        rw [h.len, List.getElem?_append_right (Nat.le_refl _)] at h2
        simp at h1 h2
        subst h1; subst h2
        refine hold x u hx ?_
        rcases hxn with q | q
        · exact .inl q
        · rcases hx.either with q2 | q2
          · exact .inl q2
          · exact .inr fun k hk => ⟨q k hk, q2 k hk⟩
      · rw [List.getElem?_eq_none (by simp; omega)] at h1; cases h1
  · rcases hn k hk with q | q
    · exact h.base k q
    · have := h.frm.size; omega
def RowO (w : World) (r : RowT) (u : Rec) : Prop := ∃ a cap sp, r.1 = rc (.slice a u.root.ads.length cap) u ∧ OwnA 148 w (.slice a u.root.ads.length cap) u.root.ads sp ∧ u.root.s.length = 32
theorem RowO.v {w : World} {r : RowT} {u : Rec} (h : RowO w r u) : RowV w r u := by
  obtain ⟨a, cap, sp, e, hA, hw⟩ := h
  exact ⟨a, cap, sp, e, hA.sl, hw⟩
theorem RowO.lt {w : World} {r : RowT} {u : Rec} (h : RowO w r u) : ∀ i ∈ rb r, i < w.heap.size := by
  obtain ⟨a, cap, sp, e, hA, hw⟩ := h
  rw [rb_rc e]; exact hA.lt
theorem RowO.keep {w w' : World} {r : RowT} {u : Rec} {L : List Nat} (h : RowO w r u) (f : Frm L w w') (hL : ∀ i ∈ rb r, i ∉ L) : RowO w' r u := by
  obtain ⟨a, cap, sp, e, hA, hw⟩ := h
  rw [rb_rc e] at hL
  exact ⟨a, cap, sp, e, hA.keep f hL, hw⟩
/-- A list of records that a call has told since a world; B: all its blocks. -/
structure Tl (w0 w : World) (v : Value) (l : List Rec) (rs : List RowT) (B : List Nat) : Prop where
  own : ∃ sp, OwnE eR 44 56 w v rs sp
  len : rs.length = l.length
  row : ∀ (i : Nat) r u, rs[i]? = some r → l[i]? = some u → RowO w r u
  sep : ∀ (i j : Nat) r s, i ≠ j → rs[i]? = some r → rs[j]? = some s → ∀ k ∈ rb r, k ∉ rb s
  vsep : ∀ (i : Nat) r, rs[i]? = some r → ∀ k ∈ rb r, k ∉ blk v
  inv : ∀ k ∈ blk v, k ∈ B
  inr : ∀ (i : Nat) r, rs[i]? = some r → ∀ k ∈ rb r, k ∈ B
  lo : ∀ k ∈ B, w0.heap.size ≤ k ∧ k < w.heap.size
theorem Tl.nil (w : World) : Tl w w (.slice none 0 0) [] [] [] := ⟨⟨[], OwnE.nil _ _ _ _⟩, rfl, fun i r u h => by simp at h, fun i j r s _ h => by simp at h, fun i r h => by simp at h, by simp [blk], fun i r h => by simp at h, fun k h => by cases h⟩
theorem Tl.us {w0 w : World} {v : Value} {l : List Rec} {rs : List RowT} {B : List Nat} (h : Tl w0 w v l rs B) : Rs w v l := by
  obtain ⟨sp, ho⟩ := h.own
  exact ⟨rs, sp, ho.sl, h.len, fun i r u h1 h2 => (h.row i r u h1 h2).v⟩
theorem Tl.form {w0 w : World} {v : Value} {l : List Rec} {rs : List RowT} {B : List Nat} (h : Tl w0 w v l rs B) : ∃ a cap, v = .slice a l.length cap := h.us.form
theorem Tl.keep {w0 w w' : World} {v : Value} {l : List Rec} {rs : List RowT} {B L : List Nat} (h : Tl w0 w v l rs B) (f : Frm L w w') (hL : ∀ i ∈ L, i ∉ B) : Tl w0 w' v l rs B := by
  obtain ⟨sp, ho⟩ := h.own
  exact ⟨⟨sp, ho.keep f (fun k hk hm => hL k hm (h.inv k hk))⟩, h.len, fun i r u h1 h2 => (h.row i r u h1 h2).keep f (fun k hk hm => hL k hm (h.inr i r h1 k hk)), h.sep, h.vsep, h.inv, h.inr, fun k hk => ⟨(h.lo k hk).1, Nat.lt_of_lt_of_le (h.lo k hk).2 f.size⟩⟩
theorem Tl.keep0 {w0 w w' : World} {v : Value} {l : List Rec} {rs : List RowT} {B : List Nat} (h : Tl w0 w v l rs B) (f : Frm [] w w') : Tl w0 w' v l rs B := h.keep f (fun i hi => by cases hi)
/-- With an older base. -/
theorem Tl.base {w0 w1 w : World} {v : Value} {l : List Rec} {rs : List RowT} {B : List Nat} (h : Tl w1 w v l rs B) (hs : w0.heap.size ≤ w1.heap.size) : Tl w0 w v l rs B :=
  ⟨h.own, h.len, h.row, h.sep, h.vsep, h.inv, h.inr, fun k hk => ⟨Nat.le_trans hs (h.lo k hk).1, (h.lo k hk).2⟩⟩
/-- One more: a row whose addresses are newer than all that was there. -/
theorem Tl.more {w0 w w' : World} {v v' : Value} {l : List Rec} {rs : List RowT} {B : List Nat} {x : RowT} {u : Rec} {sp : List Value} (h : Tl w0 w v l rs B) (f : Frm (blk v) w w') (ho : OwnE eR 44 56 w' v' (rs ++ [x]) sp) (hn : ∀ i ∈ blk v', i ∈ blk v ∨ w.heap.size ≤ i)
    (hx : RowO w x u) (hxn : ∀ k ∈ rb x, k ∉ B) (hx0 : ∀ k ∈ rb x, w0.heap.size ≤ k) (h0 : w0.heap.size ≤ w.heap.size) : Tl w0 w' v' (l ++ [u]) (rs ++ [x]) (rb x ++ blk v' ++ B) := by
  have hrow : ∀ (i : Nat) r, (rs ++ [x])[i]? = some r → (rs[i]? = some r ∧ i < rs.length) ∨ (i = rs.length ∧ r = x) := fun i r hr => by
    rcases Nat.lt_or_ge i rs.length with hi | hi
    · rw [List.getElem?_append_left hi] at hr; exact .inl ⟨hr, hi⟩
    · rw [List.getElem?_append_right hi] at hr
      rcases Nat.eq_or_lt_of_le hi with e | e
      · subst e; simp at hr; exact .inr ⟨rfl, hr.symm⟩
      · rw [List.getElem?_eq_none (by simp; omega)] at hr; cases hr
  have hxv : ∀ k ∈ rb x, k ∉ blk v := fun k hk hm => hxn k hk (h.inv k hm)
  refine ⟨⟨sp, ho⟩, by simp [h.len], fun i r u2 h1 h2 => ?_, fun i j r s hij h1 h2 k hk hm => ?_, fun i r h1 k hk hm => ?_, fun k hk => by simp [hk], fun i r h1 k hk => ?_, fun k hk => ?_⟩
  · rcases hrow i r h1 with ⟨h3, hi⟩ | ⟨rfl, rfl⟩
    · rw [List.getElem?_append_left (by have := h.len; omega)] at h2
      exact (h.row i r u2 h3 h2).keep f (fun k hk => h.vsep i r h3 k hk)
    · rw [h.len] at h2
      simp at h2
      subst h2
      exact hx.keep f hxv
  · rcases hrow i r h1 with ⟨h3, hi⟩ | ⟨rfl, rfl⟩ <;> rcases hrow j s h2 with ⟨h4, hj⟩ | ⟨rfl, rfl⟩
    · exact h.sep i j r s hij h3 h4 k hk hm
    · exact hxn k hm (h.inr i r h3 k hk)
    · exact hxn k hk (h.inr j s h4 k hm)
    · exact hij rfl
  · rcases hrow i r h1 with ⟨h3, hi⟩ | ⟨rfl, rfl⟩
    · rcases hn k hm with q | q
      · exact h.vsep i r h3 k hk q
      · have := (h.lo k (h.inr i r h3 k hk)).2; omega
    · rcases hn k hm with q | q
      · exact hxv k hk q
      · have := hx.lt k hk; omega
  · rcases hrow i r h1 with ⟨h3, hi⟩ | ⟨rfl, rfl⟩
    · simp [h.inr i r h3 k hk]
    · simp [hk]
  · simp only [List.mem_append] at hk
    rcases hk with (hk | hk) | hk
    · exact ⟨hx0 k hk, Nat.lt_of_lt_of_le (hx.lt k hk) f.size⟩
    · have hlt := ho.lt k hk
      rcases hn k hk with q | q
      · exact ⟨(h.lo k (h.inv k q)).1, hlt⟩
      · exact ⟨Nat.le_trans h0 q, hlt⟩
    · exact ⟨(h.lo k hk).1, Nat.lt_of_lt_of_le (h.lo k hk).2 f.size⟩
end Go.Proofs.YtljhanhipmnioaaGreat.Rd

namespace Go.Proofs.YtljhanhipmnioaaGreat.Rd
open Go.RowKit
set_option linter.unusedVariables false
set_option linter.unusedSimpArgs false
set_option maxRecDepth 100000

open Pt (Pt may enc readPt readE zeroPt be4 be1 pc pv PtV SlA OwnA BT wpList_load_g heap_alloc_at lst_slB one_slB Ext Grew exec_slice_lh yieldsIf_ld)
open Kr (OwnE SlE Enco RowTys)

open Kr (flt_length flt_append flt_get)
open Go.ChangeShapes Go.WideShapes Go.Deep
theorem own : ownKnob Tryz.prog.godebug = none := by kernel_rfl
theorem laidOut : laidOutB Tryz.prog = true := by kernel_rfl
theorem sle_of_trod {α H : Type} {en : α → List Value} {k : Nat} {Wf : α → Prop} (E : Enco en k) {t e : TypeId} (y0 : α)
    {enc : TypeId × Value → H} {W : World} {fuel : Nat} {cs : List Value} {x : DataW H × List MemPlace}
    (ht : Tryz.prog.underlying t = some (.slice e)) (hk : Tryz.prog.cellsOf e = k)
    (hd : ∀ (fuel : Nat) cs x, DataW.trod enc Tryz.prog W 0 (fun _ => true) true fuel e cs = some x → ∃ y : α, cs = en y ∧ Wf y)
    (h : DataW.trod enc Tryz.prog W 0 (fun _ => true) true fuel t cs = some x) :
    ∃ a cap l sp, cs = [.slice a (l : List α).length cap] ∧ SlE en k W (.slice a l.length cap) l sp ∧ ∀ x ∈ l, Wf x := by
  rcases open_slice ht h with ⟨rfl, _⟩ | ⟨a, len, cap, m, n, D, Pl, rfl, _, hl, hm, hmm, _, hi⟩
  · exact ⟨none, 0, [], [], rfl, SlE.nil _ _ _, by simp⟩
  · simp at hmm
    subst hmm
    rw [hk] at hi
    have hex : ∀ i, ∃ y : α, i < m → (∀ j, j < k → W.cell? ((a.add (i * k)).add j) = (en y)[j]?) ∧ Wf y := fun i => by
      by_cases hlt : i < m
      · obtain ⟨cs', h1, h2⟩ := hi i hlt
        obtain ⟨y, rfl, hw⟩ := hd _ _ _ h2
        exact ⟨y, fun _ => ⟨(World.cells?_some h1).2.2, hw⟩⟩
      · exact ⟨y0, fun h => absurd h hlt⟩
    obtain ⟨f, hf⟩ := Classical.axiomOfChoice hex
    obtain ⟨L, hL⟩ : ∃ L, L = (List.range m).map f := ⟨_, rfl⟩
    have hLl : L.length = m := by rw [hL]; simp
    have hget : ∀ i (h : i < L.length), L[i] = f i := fun i h => by subst hL; simp
    have htl : (L.take len).length = len := by simp; omega
    have hw : ∀ x ∈ L.take len, Wf x := fun x hx => by
      obtain ⟨i, hi', rfl⟩ := List.getElem_of_mem (List.mem_of_mem_take hx)
      rw [hget]
      exact (hf i (by omega)).2
    by_cases hc : m = 0
    · subst hc
      obtain rfl : len = 0 := by omega
      exact ⟨some a, 0, [], [], rfl, ⟨by rw [flt_length E], .inr (.inl ⟨a, rfl, rfl, rfl⟩)⟩, by simp⟩
    · obtain ⟨b, off, spot⟩ := a
      have h0 := (hf 0 (by omega)).1 0 E.pos
      have hl0 : 0 < (en (f 0)).length := by rw [E.len]; exact E.pos
      rw [List.getElem?_eq_getElem hl0] at h0
      have hspot : spot = none := by simpa [Addr.add] using World.cell?_spot h0
      subst hspot
      have hfl := flt_length E L
      refine ⟨some ⟨b, off, none⟩, m, L.take len, Kr.flt en (L.drop len), by rw [htl], ?_, hw⟩
      rw [htl]
      refine ⟨by rw [flt_length E, htl], .inr (.inr ⟨b, off, m, by rw [htl], by omega, hm, ?_, fun i u hu => ?_⟩)⟩
      · rw [← flt_append, List.take_append_drop, hfl, hLl]
      · rw [← flt_append, List.take_append_drop] at hu
        have hi2 : i < L.length * k := by
          rcases Nat.lt_or_ge i (L.length * k) with h | h
          · exact h
          · rw [List.getElem?_eq_none (by rw [hfl]; exact h)] at hu; cases hu
        have hq : i / k < L.length := Nat.div_lt_of_lt_mul (by rw [Nat.mul_comm]; exact hi2)
        have hr : i % k < k := Nat.mod_lt _ E.pos
        have e : i / k * k + i % k = i := Nat.div_add_mod' i k
        have g := flt_get E L (i / k) hq (i % k) hr
        rw [e] at g
        rw [g, hget] at hu
        have c := (hf (i / k) (by omega)).1 (i % k) hr
        rw [add_plain, add_plain, Nat.add_assoc, e] at c
        rw [c, hu]

theorem cells9 : Tryz.prog.cellsOf 9 = 1 := by kernel_rfl
theorem cells56 : Tryz.prog.cellsOf 56 = 44 := by kernel_rfl
theorem cells54 : Tryz.prog.cellsOf 54 = 35 := by kernel_rfl
theorem cells27 : Tryz.prog.cellsOf 27 = 7 := by kernel_rfl
theorem cells24 : Tryz.prog.cellsOf 24 = 4 := by kernel_rfl
theorem cells22 : Tryz.prog.cellsOf 22 = 1 := by kernel_rfl
theorem cells25 : Tryz.prog.cellsOf 25 = 1 := by kernel_rfl
theorem cells3 : Tryz.prog.cellsOf 3 = 1 := by kernel_rfl
theorem take_at {cs : List Value} {i : Nat} {u : Value} (h : (cs.drop i).take 1 = [u]) : cs[i]? = some u := by
  have := congrArg (·[0]?) h
  simpa [List.getElem?_take, List.getElem?_drop] using this
theorem trod_fields {H : Type} {enc : TypeId × Value → H} {P : Program} {w : World} {base : Nat} {spare : Nat → Bool} {held : Bool} {t : TypeId} {fs : Array Field} {fuel : Nat} {cs : List Value} {x : DataW H × List MemPlace} (ht : P.underlying t = some (.struct fs)) (h : DataW.trod enc P w base spare held fuel t cs = some x) :
    cs.length = P.cellsOf t ∧ ∃ n, ∀ (i : Nat) (f : Field), fs[i]? = some f → ∃ y, DataW.trod enc P w base spare held n f.type ((cs.drop f.offset).take (P.cellsOf f.type)) = some y := by
  obtain ⟨xs, n, _, rfl, hl, hlen, hf⟩ := DataW.trod_struct ht h
  refine ⟨hl, n, fun i f hi => ?_⟩
  have hlt : i < xs.length := by rw [hlen]; exact (Array.getElem?_eq_some_iff.1 hi).1
  exact ⟨xs[i], by rw [hf i f hi]; exact List.getElem?_eq_getElem hlt⟩
theorem rec_of_trod {H : Type} {enc : TypeId × Value → H} {W : World} {fuel : Nat} {cs : List Value} {x : DataW H × List MemPlace} (h : DataW.trod enc Tryz.prog W 0 (fun _ => true) true fuel 56 cs = some x) :
    ∃ a cap, ∃ u : Rec, ∃ sp, cs = rc (.slice a u.root.ads.length cap) u ∧ SlA W (.slice a u.root.ads.length cap) u.root.ads sp ∧ u.root.s.length = 32 := by
  obtain ⟨hl, n, hf⟩ := trod_fields Tryz.underlying56 h
  rw [cells56] at hl
  obtain ⟨y0, t0⟩ : ∃ y, DataW.trod enc Tryz.prog W 0 (fun _ => true) true n 3 ((cs.drop 0).take (Tryz.prog.cellsOf 3)) = some y := hf 0 _ rfl
  obtain ⟨y1, t1⟩ : ∃ y, DataW.trod enc Tryz.prog W 0 (fun _ => true) true n 9 ((cs.drop 1).take (Tryz.prog.cellsOf 9)) = some y := hf 1 _ rfl
  obtain ⟨y2, t2⟩ : ∃ y, DataW.trod enc Tryz.prog W 0 (fun _ => true) true n 3 ((cs.drop 2).take (Tryz.prog.cellsOf 3)) = some y := hf 2 _ rfl
  obtain ⟨y3, t3⟩ : ∃ y, DataW.trod enc Tryz.prog W 0 (fun _ => true) true n 3 ((cs.drop 3).take (Tryz.prog.cellsOf 3)) = some y := hf 3 _ rfl
  obtain ⟨y4, t4⟩ : ∃ y, DataW.trod enc Tryz.prog W 0 (fun _ => true) true n 54 ((cs.drop 4).take (Tryz.prog.cellsOf 54)) = some y := hf 4 _ rfl
  obtain ⟨y5, t5⟩ : ∃ y, DataW.trod enc Tryz.prog W 0 (fun _ => true) true n 3 ((cs.drop 39).take (Tryz.prog.cellsOf 3)) = some y := hf 5 _ rfl
  obtain ⟨y6, t6⟩ : ∃ y, DataW.trod enc Tryz.prog W 0 (fun _ => true) true n 3 ((cs.drop 40).take (Tryz.prog.cellsOf 3)) = some y := hf 6 _ rfl
  obtain ⟨y7, t7⟩ : ∃ y, DataW.trod enc Tryz.prog W 0 (fun _ => true) true n 3 ((cs.drop 41).take (Tryz.prog.cellsOf 3)) = some y := hf 7 _ rfl
  obtain ⟨y8, t8⟩ : ∃ y, DataW.trod enc Tryz.prog W 0 (fun _ => true) true n 3 ((cs.drop 42).take (Tryz.prog.cellsOf 3)) = some y := hf 8 _ rfl
  obtain ⟨y9, t9⟩ : ∃ y, DataW.trod enc Tryz.prog W 0 (fun _ => true) true n 3 ((cs.drop 43).take (Tryz.prog.cellsOf 3)) = some y := hf 9 _ rfl
  try dsimp only at t0 t1 t2 t3 t4 t5 t6 t7 t8 t9
  rw [cells3] at t0 t2 t3 t5 t6 t7 t8 t9
  rw [cells9] at t1
  rw [cells54] at t4
  obtain ⟨z0, e0, _, _⟩ := DataW.trod_int Tryz.underlying3 t0
  obtain ⟨s1, e1, _, _⟩ := DataW.trod_string Tryz.underlying9 t1
  obtain ⟨z2, e2, _, _⟩ := DataW.trod_int Tryz.underlying3 t2
  obtain ⟨z3, e3, _, _⟩ := DataW.trod_int Tryz.underlying3 t3
  obtain ⟨a, cap, p, sp, e4, hS, hs⟩ := Pt.pt_of_trod t4
  obtain ⟨z5, e5, _, _⟩ := DataW.trod_int Tryz.underlying3 t5
  obtain ⟨z6, e6, _, _⟩ := DataW.trod_int Tryz.underlying3 t6
  obtain ⟨z7, e7, _, _⟩ := DataW.trod_int Tryz.underlying3 t7
  obtain ⟨z8, e8, _, _⟩ := DataW.trod_int Tryz.underlying3 t8
  obtain ⟨z9, e9, _, _⟩ := DataW.trod_int Tryz.underlying3 t9
  refine ⟨a, cap, ⟨z0, s1, z2, z3, p, z5, z6, z7, z8, z9⟩, sp, ?_, hS, hs⟩
  have h0 := take_at e0
  have h1 := take_at e1
  have h2 := take_at e2
  have h3 := take_at e3
  have h5 := take_at e5
  have h6 := take_at e6
  have h7 := take_at e7
  have h8 := take_at e8
  have h9 := take_at e9
  match cs, hl with
  | c0 :: c1 :: c2 :: c3 :: r, hl =>
    have hr : r.length = 40 := by simpa using hl
    have e4' : r.take 35 = pc (.slice a p.ads.length cap) p.b p.l p.s := by simpa using e4
    have q5 : r[35]? = some (.int .i64 z5) := by simpa using h5
    have q6 : r[36]? = some (.int .i64 z6) := by simpa using h6
    have q7 : r[37]? = some (.int .i64 z7) := by simpa using h7
    have q8 : r[38]? = some (.int .i64 z8) := by simpa using h8
    have q9 : r[39]? = some (.int .i64 z9) := by simpa using h9
    have hd : r.drop 35 = [.int .i64 z5, .int .i64 z6, .int .i64 z7, .int .i64 z8, .int .i64 z9] := by
      apply List.ext_getElem?
      intro j
      rw [List.getElem?_drop]
      match j with
      | 0 => exact q5
      | 1 => exact q6
      | 2 => exact q7
      | 3 => exact q8
      | 4 => exact q9
      | j + 5 => rw [List.getElem?_eq_none (by omega), List.getElem?_eq_none (by simp)]
    simp at h0 h1 h2 h3
    subst h0 h1 h2 h3
    show _ :: _ :: _ :: _ :: r = _ :: _ :: _ :: _ :: (pc (.slice a p.ads.length cap) p.b p.l p.s ++ _)
    rw [← e4', ← hd, List.take_append_drop]
noncomputable def recOf (W : World) (r : RowT) : Rec := Classical.epsilon (h := ⟨zeroR⟩) fun u => RowV W r u
theorem recOf_v {W : World} {r : RowT} (h : ∃ u, RowV W r u) : RowV W r (recOf W r) := Classical.epsilon_spec h
theorem recs_of_trod {H : Type} {enc : TypeId × Value → H} {W : World} {fuel : Nat} {cs : List Value} {x : DataW H × List MemPlace} (h : DataW.trod enc Tryz.prog W 0 (fun _ => true) true fuel 22 cs = some x) :
    ∃ v l, cs = [v] ∧ Rs W v l := by
  obtain ⟨a', c', l, sp, e, hS, hw⟩ := sle_of_trod (α := RowT) (en := eR) (k := 44) (Wf := fun x => ∃ u, RowV W x u) encRow (rowR nilS rfl zeroR zeroR_s) Tryz.underlying22 cells56 (fun fuel cs x h => by
    obtain ⟨a, cap, u, sp, e, hA, hw⟩ := rec_of_trod h
    exact ⟨rowR (.slice a u.root.ads.length cap) rfl u hw, e, u, a, cap, sp, rfl, hA, hw⟩) h
  refine ⟨_, l.map (recOf W), e, l, sp, hS, by simp, fun i r u h1 h2 => ?_⟩
  rw [List.getElem?_map, h1] at h2
  simp at h2
  subst h2
  exact recOf_v (hw r (List.mem_of_getElem? h1))
theorem ints_of_trod {H : Type} {enc : TypeId × Value → H} {W : World} {fuel : Nat} {cs : List Value} {x : DataW H × List MemPlace} (h : DataW.trod enc Tryz.prog W 0 (fun _ => true) true fuel 25 cs = some x) :
    ∃ v l sp, cs = [v] ∧ SlE eI 1 W v l sp := by
  obtain ⟨a', c', l, sp, e, hS, hw⟩ := sle_of_trod (α := Int) (en := eI) (k := 1) (Wf := fun _ => True) encI 0 Tryz.underlying25 cells3 (fun fuel cs x h => by
    obtain ⟨z, e, _⟩ := DataW.trod_int Tryz.underlying3 h
    exact ⟨z, by rw [e]; rfl, trivial⟩) h
  exact ⟨_, l, sp, e, hS⟩
theorem open_table {H : Type} {enc : TypeId × Value → H} {W : World} {r : Reach} {b0 : Nat} {v : Value} {d : DataW H} {p : List MemPlace} (hv : Value.okWide Tryz.prog W r b0 27 v) (h : DataW.Trod enc Tryz.prog W 0 (fun _ => true) true 27 v d p) :
    ∃ vr vl t, v = tv vr vl t ∧ TabV W vr vl t := by
  obtain ⟨c, rfl, _⟩ := okWide_struct Tryz.underlying27 hv
  obtain ⟨fuel, hh⟩ := h
  obtain ⟨hl, n, hf⟩ := trod_fields Tryz.underlying27 hh
  rw [cells27] at hl
  obtain ⟨y0, t0⟩ : ∃ y, DataW.trod enc Tryz.prog W 0 (fun _ => true) true n 3 (((Value.agg c).cells.toList.drop 0).take (Tryz.prog.cellsOf 3)) = some y := hf 0 _ rfl
  obtain ⟨y1, t1⟩ : ∃ y, DataW.trod enc Tryz.prog W 0 (fun _ => true) true n 22 (((Value.agg c).cells.toList.drop 1).take (Tryz.prog.cellsOf 22)) = some y := hf 1 _ rfl
  obtain ⟨y2, t2⟩ : ∃ y, DataW.trod enc Tryz.prog W 0 (fun _ => true) true n 24 (((Value.agg c).cells.toList.drop 2).take (Tryz.prog.cellsOf 24)) = some y := hf 2 _ rfl
  obtain ⟨y3, t3⟩ : ∃ y, DataW.trod enc Tryz.prog W 0 (fun _ => true) true n 25 (((Value.agg c).cells.toList.drop 6).take (Tryz.prog.cellsOf 25)) = some y := hf 3 _ rfl
  try dsimp only at t0 t1 t2 t3
  rw [cells3] at t0
  rw [cells22] at t1
  rw [cells24] at t2
  rw [cells25] at t3
  obtain ⟨z0, e0, _, _⟩ := DataW.trod_int Tryz.underlying3 t0
  obtain ⟨vr, l, e1, hR⟩ := recs_of_trod t1
  obtain ⟨hl2, n2, hf2⟩ := trod_fields Tryz.underlying24 t2
  obtain ⟨x0, u0⟩ : ∃ y, DataW.trod enc Tryz.prog W 0 (fun _ => true) true n2 3 (((((Value.agg c).cells.toList.drop 2).take 4).drop 0).take (Tryz.prog.cellsOf 3)) = some y := hf2 0 _ rfl
  obtain ⟨x1, u1⟩ : ∃ y, DataW.trod enc Tryz.prog W 0 (fun _ => true) true n2 3 (((((Value.agg c).cells.toList.drop 2).take 4).drop 1).take (Tryz.prog.cellsOf 3)) = some y := hf2 1 _ rfl
  obtain ⟨x2, u2⟩ : ∃ y, DataW.trod enc Tryz.prog W 0 (fun _ => true) true n2 3 (((((Value.agg c).cells.toList.drop 2).take 4).drop 2).take (Tryz.prog.cellsOf 3)) = some y := hf2 2 _ rfl
  obtain ⟨x3, u3⟩ : ∃ y, DataW.trod enc Tryz.prog W 0 (fun _ => true) true n2 3 (((((Value.agg c).cells.toList.drop 2).take 4).drop 3).take (Tryz.prog.cellsOf 3)) = some y := hf2 3 _ rfl
  try dsimp only at u0 u1 u2 u3
  rw [cells3] at u0 u1 u2 u3
  obtain ⟨k0, g0, _, _⟩ := DataW.trod_int Tryz.underlying3 u0
  obtain ⟨k1, g1, _, _⟩ := DataW.trod_int Tryz.underlying3 u1
  obtain ⟨k2, g2, _, _⟩ := DataW.trod_int Tryz.underlying3 u2
  obtain ⟨k3, g3, _, _⟩ := DataW.trod_int Tryz.underlying3 u3
  obtain ⟨vl, m, sp, e3, hL⟩ := ints_of_trod t3
  refine ⟨vr, vl, ⟨z0, l, ⟨k0, k1, k2, k3⟩, m⟩, ?_, hR, sp, hL⟩
  have c0 := take_at e0
  have c1 := take_at e1
  have c6 := take_at e3
  have d0 := take_at g0
  have d1 := take_at g1
  have d2 := take_at g2
  have d3 := take_at g3
  have hv' : (Value.agg c).cells = c := rfl
  rw [hv'] at *
  obtain ⟨cl⟩ := c
  match cl, hl with
  | [a0, a1, a2, a3, a4, a5, a6], hl =>
    simp [Value.cells] at c0 c1 c6 d0 d1 d2 d3
    subst c0 c1 c6 d0 d1 d2 d3
    rfl
theorem open_bytes {H : Type} {enc : TypeId × Value → H} {W : World} {r : Reach} {b0 : Nat} {v : Value} {d : DataW H} {p : List MemPlace} (hv : Value.okWide Tryz.prog W r b0 31 v) (h : DataW.Trod enc Tryz.prog W 0 (fun _ => true) true 31 v d p) :
    ∃ l sp, SlB W v l sp := by
  obtain ⟨l, sp, hS⟩ := Pt.open_bytes hv h
  exact ⟨l, sp, hS⟩
end Go.Proofs.YtljhanhipmnioaaGreat.Rd

namespace Go.Proofs.YtljhanhipmnioaaGreat.Rd
open Go.RowKit
set_option linter.unusedVariables false
set_option linter.unusedSimpArgs false
set_option maxRecDepth 100000

open Pt (Pt may enc readPt readE zeroPt be4 be1 pc pv PtV SlA OwnA BT wpList_load_g heap_alloc_at lst_slB one_slB Ext Grew exec_slice_lh yieldsIf_ld)
open Kr (OwnE SlE Enco RowTys)

open Pt (PB)
section
variable {w : World} {g : Nat} {vr vl : Value} {t : Tab}
theorem TB.setRecs (h : TB w g vr vl t) (vr' : Value) (l : List Rec) : TB (w.setCell ⟨g, 1, none⟩ vr') g vr' vl ⟨t.next, l, t.cur, t.lives⟩ := by
  unfold TB at h ⊢; rw [heap_setCell_same vr' h, List.setIfInBounds_toArray]; rfl
theorem TB.setLives (h : TB w g vr vl t) (vl' : Value) (l : List Int) : TB (w.setCell ⟨g, 6, none⟩ vl') g vr vl' ⟨t.next, t.recs, t.cur, l⟩ := by
  unfold TB at h ⊢; rw [heap_setCell_same vl' h, List.setIfInBounds_toArray]; rfl
theorem TB.there (h : TB w g vr vl t) : w.there g 2 4 := Blk.there (T := 27) (cs := tc vr vl t) h 4 (by simp [tc])
theorem TB.fz (h : TB w g vr vl t) (i : Nat) : w.frozen? ⟨g, i, none⟩ = false := frozen_of_heap h i
end
theorem RV.mono {N M : Nat} {w : World} {v : Value} {l : List UInt8} (h : RV N w v l) (hm : N ≤ M) : RV M w v l := by
  obtain ⟨sp, h1, h2⟩ := h
  exact ⟨sp, h1, h2.imp (fun h k hk => Nat.lt_of_lt_of_le (h k hk) hm) id⟩
theorem wpList_finT {ops : Array Oper} {rest : List Oper} {o3 o4 : Oper} {a : Act} {V : World} {Q : Exit → Act → World → Prop} (g3 : o3.guard = none) (g4 : o4.guard = none)
    (p q x y : Operand) (h3 : o3.op = .store 27 p x) (h4 : o4.op = .store 44 q y) {g1 g2 : Nat} {vr vl vr0 vl0 : Value} {t t0 : Tab} {e0 f0 e f : Int} (k1 : vr.oneCell' = true) (k2 : vl.oneCell' = true)
    (B1 : TB V g1 vr0 vl0 t0) (B2 : V.heap[g2]? = some (.cells #[.int .i64 e0, .int .i64 f0] 44 (0, 0))) (hne : g1 ≠ g2)
    (e1 : a.eval p = .pointer (some ⟨g1, 0, none⟩)) (e2 : a.eval x = tv vr vl t)
    (e3 : (a.put o3.dst undef).eval q = .pointer (some ⟨g2, 0, none⟩)) (e4 : (a.put o3.dst undef).eval y = .agg #[.int .i64 e, .int .i64 f])
    (k : ∀ V', TB V' g1 vr vl t → V'.heap[g2]? = some (.cells #[.int .i64 e, .int .i64 f] 44 (0, 0)) → Frm [g1, g2] V V' → wpList Tryz.prog ops Q rest ((a.put o3.dst undef).put o4.dst undef) V') :
    wpList Tryz.prog ops Q (o3 :: o4 :: rest) a V := by
  refine wpList_store27 g3 p x h3 k1 k2 B1 e1 e2 ?_
  intro V1 h1 f1
  have B2' := f1.heap B2 (by simpa using hne.symm)
  refine wpList_store_row g4 44 q y h4 g2 #[.int .i64 e, .int .i64 f] e3 e4 44 #[.int .i64 e0, .int .i64 f0] B2' (by rw [Pt.d40]; rfl) (by simp) (by simp [Value.oneCell']) ?_
  have f2 : Frm [g2] V1 (V1.setRow g2 #[.int .i64 e, .int .i64 f]) := ⟨rfl, rfl, rfl, by simp [World.setRow], fun k hk hn => setRow_other _ _ k _ (by simpa using hn)⟩
  exact k _ (h1.keep f2 (by simpa using hne)) (setRow_heap V1 g2 _ #[.int .i64 e, .int .i64 f] 44 (0, 0) B2') ((f1.mono (by simp)).trans f2 (by simp))
theorem RowV.of {w : World} {xa : Option Addr} {xc : Nat} {x : Rec} (h : PtV w (pv (.slice xa x.root.ads.length xc) x.root.b x.root.l x.root.s) x.root) : ∃ hs : x.root.s.length = 32, RowV w (rowR (.slice xa x.root.ads.length xc) rfl x hs) x := by
  obtain ⟨pa, pcp, psp, hxv, hsl, h32⟩ := h
  simp [pv, pc] at hxv
  obtain ⟨rfl, rfl⟩ := hxv
  exact ⟨h32, _, _, psp, rfl, hsl, h32⟩
theorem step_store27 {ops : Array Oper} {o : Oper} {a : Act} {w : World} {K : Act → World → Prop} {Q : Exit → Act → World → Prop} {E : Prop} (hg : o.guard = none)
    (p x : Operand) (h3 : o.op = .store 27 p x) {vr vl vr0 vl0 : Value} {t t0 : Tab} {g : Nat} (h1 : vr.oneCell' = true) (h2 : vl.oneCell' = true) (h0 : TB w g vr0 vl0 t0)
    (e1 : a.eval p = .pointer (some ⟨g, 0, none⟩)) (e2 : a.eval x = tv vr vl t)
    (k : ∀ w', TB w' g vr vl t → Frm [g] w w' → K (a.put o.dst undef) w') :
    if Region.wanted o (yielded ops a.tmps) = true then Oper.wp Tryz.prog o a w K Q else E := by
  rw [if_pos (by simp [Region.wanted, hg])]
  refine wp_store_row 27 p x h3 g (tc vr vl t).toArray e1 e2 27 _ h0 (by rw [i27]; simp [tc]) (by simp [tc]) (tc_all h1 h2 t) ?_
  exact k _ (setRow_heap w g _ _ 27 (0, 0) h0) ⟨rfl, rfl, rfl, by simp [World.setRow], fun k hk hn => setRow_other _ _ k _ (by simpa using hn)⟩
theorem step_store44 {ops : Array Oper} {o : Oper} {a : Act} {w : World} {K : Act → World → Prop} {Q : Exit → Act → World → Prop} {E : Prop} (hg : o.guard = none)
    (p x : Operand) (h3 : o.op = .store 44 p x) {e f e0 f0 : Int} {g : Nat} (h0 : w.heap[g]? = some (.cells #[.int .i64 e0, .int .i64 f0] 44 (0, 0)))
    (e1 : a.eval p = .pointer (some ⟨g, 0, none⟩)) (e2 : a.eval x = .agg #[.int .i64 e, .int .i64 f])
    (k : ∀ w', w'.heap[g]? = some (.cells #[.int .i64 e, .int .i64 f] 44 (0, 0)) → Frm [g] w w' → K (a.put o.dst undef) w') :
    if Region.wanted o (yielded ops a.tmps) = true then Oper.wp Tryz.prog o a w K Q else E := by
  rw [if_pos (by simp [Region.wanted, hg])]
  refine wp_store_row 44 p x h3 g #[.int .i64 e, .int .i64 f] e1 e2 44 _ h0 (by rw [Pt.d40]; rfl) (by simp) (by simp [Value.oneCell']) ?_
  exact k _ (setRow_heap w g _ _ 44 (0, 0) h0) ⟨rfl, rfl, rfl, by simp [World.setRow], fun k hk hn => setRow_other _ _ k _ (by simpa using hn)⟩
theorem TabV.zero (w : World) : TabV w nilS nilS zeroT := ⟨Rs.nil w, [], SlE.nil _ _ _⟩
theorem readT_no {l : List UInt8} {x : Tab × Bool} {a : Nat} (h : Runs tabP l 0 false x a true) : readT l = (zeroT, 4, (l.length : Int)) := by
  unfold readT; rw [h.none']
theorem readT_more {l : List UInt8} {x : Tab × Bool} {a : Nat} (h : Runs tabP l 0 false x a false) (ha : a < l.length) : readT l = (zeroT, 4, (a : Int)) := by
  unfold readT; rw [h.some'.1]
  simp only [List.length_drop]
  rw [if_pos (by omega), show l.length - (l.length - a) = a by omega]
theorem readT_bad {l : List UInt8} {x : Tab × Bool} {a : Nat} (h : Runs tabP l 0 false x a false) (ha : ¬ a < l.length) (hb : x.2 = true ∨ mayT x.1 = false) : readT l = (zeroT, 2, 0) := by
  unfold readT; rw [h.some'.1]
  simp only [List.length_drop]
  rw [if_neg (by omega), if_pos hb]
theorem readT_ok {l : List UInt8} {x : Tab × Bool} {a : Nat} (h : Runs tabP l 0 false x a false) (ha : ¬ a < l.length) (hb : x.2 = false) (hc : mayT x.1 = true) : readT l = (x.1, 0, 0) := by
  unfold readT; rw [h.some'.1]
  simp only [List.length_drop]
  rw [if_neg (by omega), if_neg (by simp [hb, hc])]
end Go.Proofs.YtljhanhipmnioaaGreat.Rd

namespace Go.Proofs.YtljhanhipmnioaaGreat.Rd
open Go.RowKit
set_option linter.unusedVariables false
set_option linter.unusedSimpArgs false
set_option maxRecDepth 100000

open Pt (Pt may enc readPt readE zeroPt be4 be1 pc pv PtV SlA OwnA BT wpList_load_g heap_alloc_at lst_slB one_slB Ext Grew exec_slice_lh yieldsIf_ld)
open Kr (OwnE SlE Enco RowTys)

/-- A table of the call's own: its lists are new since a world, and apart. -/
def OwnTb (w0 w : World) (vr vl : Value) (t : Tab) : Prop := ∃ rs B sp, Tl w0 w vr t.recs rs B ∧ OwnE eI 1 3 w vl t.lives sp ∧ (∀ k ∈ blk vl, w0.heap.size ≤ k ∧ k ∉ B)
theorem OwnTb.v {w0 w : World} {vr vl : Value} {t : Tab} (h : OwnTb w0 w vr vl t) : TabV w vr vl t := by
  obtain ⟨rs, B, sp, h1, h2, _⟩ := h
  exact ⟨h1.us, sp, h2.sl⟩
theorem OwnTb.keep {w0 w w' : World} {vr vl : Value} {t : Tab} {L : List Nat} (h : OwnTb w0 w vr vl t) (f : Frm L w w') (hL : ∀ i ∈ L, i < w0.heap.size ∨ w.heap.size ≤ i) : OwnTb w0 w' vr vl t := by
  obtain ⟨rs, B, sp, h1, h2, h3⟩ := h
  exact ⟨rs, B, sp, h1.keep f (fun i hi hm => by have h4 := h1.lo i hm; rcases hL i hi with h | h <;> omega), h2.keep f (fun i hi hm => by have h4 := h3 i hi; have h5 := h2.lt i hi; rcases hL i hm with h | h <;> omega), h3⟩
theorem OwnTb.keep0 {w0 w w' : World} {vr vl : Value} {t : Tab} (h : OwnTb w0 w vr vl t) (f : Frm [] w w') : OwnTb w0 w' vr vl t := h.keep f (by simp)
theorem OwnTb.base {w0 w1 w : World} {vr vl : Value} {t : Tab} (h : OwnTb w1 w vr vl t) (hs : w0.heap.size ≤ w1.heap.size) : OwnTb w0 w vr vl t := by
  obtain ⟨rs, B, sp, h1, h2, h3⟩ := h
  exact ⟨rs, B, sp, h1.base hs, h2, fun k hk => ⟨Nat.le_trans hs (h3 k hk).1, (h3 k hk).2⟩⟩
/-- What a call tells that tells a table of its own. -/
def TellT (t : Tab) (w : World) (e : Ending) (w' : World) : Prop := ∃ vr vl, e = .returned (tv vr vl t) ∧ OwnTb w w' vr vl t ∧ Frm [] w w'
section
variable {ops : Array Oper} {o : Oper} {a : Act} {w : World} {K : Act → World → Prop} {Q : Exit → Act → World → Prop} {E : Prop}
end
end Go.Proofs.YtljhanhipmnioaaGreat.Rd

namespace Go.Proofs.YtljhanhipmnioaaGreat.Rd
open Go.RowKit
set_option linter.unusedVariables false
set_option linter.unusedSimpArgs false
set_option maxRecDepth 100000

open Pt (Pt may enc readPt readE zeroPt be4 be1 pc pv PtV SlA OwnA BT wpList_load_g heap_alloc_at lst_slB one_slB Ext Grew exec_slice_lh yieldsIf_ld)
open Kr (OwnE SlE Enco RowTys)

/-- Bytes that can be read, of blocks below a bound, or none, wherever. -/
def Rb (N : Nat) (w : World) (v : Value) (l : List UInt8) : Prop := ∃ sp, SlB w v l sp ∧ ((∀ k ∈ blk v, k < N) ∨ ∀ w', SlB w' v l sp)
theorem Rb.keep {N : Nat} {w w' : World} {v : Value} {l : List UInt8} {L : List Nat} (h : Rb N w v l) (f : Frm L w w') (hL : ∀ k ∈ L, N ≤ k) : Rb N w' v l := by
  obtain ⟨sp, hs, hb | hb⟩ := h
  · exact ⟨sp, hs.keep f (fun k hk hm => by have := hb k hk; have := hL k hm; omega), .inl hb⟩
  · exact ⟨sp, hb _, .inr hb⟩
theorem Rb.mono {N M : Nat} {w : World} {v : Value} {l : List UInt8} (h : Rb N w v l) (hm : N ≤ M) : Rb M w v l := by
  obtain ⟨sp, hs, hb⟩ := h
  exact ⟨sp, hs, hb.imp (fun hb k hk => Nat.lt_of_lt_of_le (hb k hk) hm) id⟩
theorem RV.rb {N : Nat} {w : World} {v : Value} {l : List UInt8} (h : RV N w v l) : Rb N w v l := by
  obtain ⟨sp, hs, hb | ⟨a, rfl, rfl⟩⟩ := h
  · exact ⟨sp, hs, .inl hb⟩
  · exact ⟨[], ⟨rfl, .inr (.inl ⟨a, rfl, rfl, rfl⟩)⟩, .inr fun w' => ⟨rfl, .inr (.inl ⟨a, rfl, rfl, rfl⟩)⟩⟩
theorem Rb.form {N : Nat} {w : World} {v : Value} {l : List UInt8} (h : Rb N w v l) : ∃ a cap, v = .slice a l.length cap ∧ l.length ≤ cap ∧ cap ≤ maxLen := by
  obtain ⟨sp, hs, _⟩ := h
  exact hs.form
theorem blk_cut {a : Option Addr} {n n' cap lo : Nat} : ∀ i ∈ blk (.slice (if cap = lo then a else a.map (·.add (lo * 1))) n' (cap - lo)), i ∈ blk (.slice a n cap) := by
  intro i hi3
  cases a with
  | none => split at hi3 <;> simp [blk] at hi3
  | some a =>
    have hb : ∀ k, (a.add k).block = a.block := fun k => by unfold Addr.add; split <;> rfl
    split at hi3
    · simpa [blk] using hi3
    · simpa [blk, hb] using hi3
theorem Rb.l {N : Nat} {w : World} {a : Option Addr} {n cap : Nat} {l : List UInt8} (h : Rb N w (.slice a n cap) l) (lo : Nat) (h1 : lo ≤ l.length) :
    ∃ a' c', (∀ (x : Int) (wx : World), x = lo → (Instr.slice 31 (.slice a n cap) (some (.int .i64 x)) none none).run Tryz.prog wx = .ok (.slice a' (l.length - lo) c') wx) ∧ Rb N w (.slice a' (l.length - lo) c') (l.drop lo) := by
  obtain ⟨sp, hs, hb⟩ := h
  obtain ⟨a2, c2, e, hle, hm⟩ := hs.form
  cases e
  have hc : ∀ w', SlB w' (.slice a l.length cap) l sp → SlB w' (.slice (if cap = lo then a else a.map (·.add (lo * 1))) (l.length - lo) (cap - lo)) (l.drop lo) sp := fun w' h => by
    have := h.cut lo l.length h1 (Nat.le_refl _)
    rwa [List.take_of_length_le (by simp), List.drop_length, List.nil_append] at this
  refine ⟨_, _, fun x wx hx => ?_, sp, hc _ hs, hb.imp (fun hb k hk => hb k (blk_cut k hk)) (fun hb w' => hc _ (hb w'))⟩
  subst hx
  obtain ⟨i, hi', hz, hs2, hby⟩ := info_parts BT.info
  have he : Tryz.prog.elem 31 = 5 := by simp [Program.elem, BT.sl]
  have hsz : (sizeOf (Tryz.prog.elem 31)).run Tryz.prog wx = .ok 1 wx := by rw [he]; simp [sizeOf, typeInfo, hi', hs2]
  rw [run_slice_l (P := Tryz.prog) wx 31 a l.length cap (by rw [he]; exact BT.sl) .i64 lo (by omega) (by omega), hsz]
  simp [Result.andThen, sliced]
theorem Rb.h {N : Nat} {w : World} {a : Option Addr} {n cap : Nat} {l : List UInt8} (h : Rb N w (.slice a n cap) l) (hi : Nat) (h2 : hi ≤ l.length) :
    ∃ a' c', (∀ (y : Int) (wx : World), y = hi → (Instr.slice 31 (.slice a n cap) none (some (.int .i64 y)) none).run Tryz.prog wx = .ok (.slice a' hi c') wx) ∧ Rb N w (.slice a' hi c') (l.take hi) := by
  obtain ⟨sp, hs, hb⟩ := h
  obtain ⟨a2, c2, e, hle, hm⟩ := hs.form
  cases e
  have hc : ∀ w', SlB w' (.slice a l.length cap) l sp → SlB w' (.slice (if cap = 0 then a else a.map (·.add (0 * 1))) hi (cap - 0)) (l.take hi) (l.drop hi ++ sp) := fun w' h => by
    have := h.cut 0 hi (Nat.zero_le _) h2
    simpa only [List.drop_zero, Nat.sub_zero] using this
  refine ⟨_, _, fun y wx hy => ?_, _, hc _ hs, hb.imp (fun hb k hk => hb k (blk_cut k hk)) (fun hb w' => hc _ (hb w'))⟩
  subst hy
  obtain ⟨i, hi', hz, hs2, hby⟩ := info_parts BT.info
  have he : Tryz.prog.elem 31 = 5 := by simp [Program.elem, BT.sl]
  have hsz : (sizeOf (Tryz.prog.elem 31)).run Tryz.prog wx = .ok 1 wx := by rw [he]; simp [sizeOf, typeInfo, hi', hs2]
  rw [run_slice_h (P := Tryz.prog) wx 31 a l.length cap (by rw [he]; exact BT.sl) .i64 hi (by omega) (by omega), hsz]
  simp [Result.andThen, sliced]
/-- The block of a reader, of the program. -/
def RgB (w : World) (g : Nat) (va vr : Value) (e a : Int) : Prop := Blk w g 112 [va, vr, .int .i64 e, .int .i64 a]
section
variable {w w' : World} {g : Nat} {va vr : Value} {e a : Int} {L : List Nat}
theorem RgB.keep (h : RgB w g va vr e a) (f : Frm L w w') (hn : g ∉ L) : RgB w' g va vr e a := Blk.keep h f hn
theorem RgB.c0 (h : RgB w g va vr e a) : w.cell? ⟨g, 0, none⟩ = some va := Blk.cell h 0 rfl
theorem RgB.c1 (h : RgB w g va vr e a) : w.cell? ⟨g, 1, none⟩ = some vr := Blk.cell h 1 rfl
theorem RgB.c2 (h : RgB w g va vr e a) : w.cell? ⟨g, 2, none⟩ = some (.int .i64 e) := Blk.cell h 2 rfl
theorem RgB.c3 (h : RgB w g va vr e a) : w.cell? ⟨g, 3, none⟩ = some (.int .i64 a) := Blk.cell h 3 rfl
theorem RgB.fault (h : RgB w g va vr e a) (e2 a2 : Int) : RgB (w.setCells g 2 [.int .i64 e2, .int .i64 a2]) g va vr e2 a2 := by
  have hb : Blk w g 112 ([va, vr] ++ ([.int .i64 e, .int .i64 a] ++ [])) := h
  exact hb.put (o := 2) rfl rfl
theorem RgB.rest (h : RgB w g va vr e a) (v2 : Value) : RgB (w.setCell ⟨g, 1, none⟩ v2) g va v2 e a := by
  have hb : Blk w g 112 ([va] ++ vr :: [.int .i64 e, .int .i64 a]) := h
  exact hb.put1 (o := 1) rfl
theorem RgB.there (h : RgB w g va vr e a) : w.there g 2 2 := Blk.there (T := 112) (cs := [va, vr, .int .i64 e, .int .i64 a]) h 2 (by simp)
end
set_option maxHeartbeats 2000000 in
theorem demand_any (g : Nat) (va vr : Value) (e a e2 a2 : Int) (b : Bool) (w : World) (h : RgB w g va vr e a) : Calls Tryz.prog 150 #[.pointer (some ⟨g, 0, none⟩), .bool b, .int .i64 e2, .int .i64 a2] w fun r w' => r = .returned (.pointer (some ⟨g, 0, none⟩)) ∧ Frm [g] w w' ∧ RgB w' g va vr (if b = true ∨ e ≠ 0 then e else e2) (if b = true ∨ e ≠ 0 then a else a2) := by
  have c2 := h.c2
  have H := Lib.hid h
  have HF := Lib.hid (h.fault e2 a2)
  clear h
  obtain ⟨E, hE⟩ : ∃ E, E = if b = true ∨ e ≠ 0 then e else e2 := ⟨_, rfl⟩
  obtain ⟨A, hA⟩ : ∃ A, A = if b = true ∨ e ≠ 0 then a else a2 := ⟨_, rfl⟩
  rw [← hE, ← hA]
  have HE := Lib.hid (And.intro hE hA)
  clear hE hA
  cases b with
  | true =>
    go_enter Tryz.func150, Tryz.ntmps150
    go_wp2_with (fail)
    go_ret
    exact ⟨rfl, Frm.refl _ _, by rw [HE.out.1, HE.out.2]; simpa using H.out⟩
  | false =>
    by_cases he : e = 0
    · subst he
      go_enter Tryz.func150, Tryz.ntmps150
      go_wp2_with ((with_reducible (show wpList _ _ _ (Oper.mk _ (Op.store 44 _ _) _ _ _ _ :: _) _ _)); refine wpList_store_mid rfl 44 (.tmp 24) (.tmp 22) rfl g 2 ([.int .i64 e2, .int .i64 a2] : List Value).toArray rfl rfl H.out.there (by rw [Pt.d40]; rfl) (by simp [Value.oneCell']) ?_)
      go_ret
      exact ⟨rfl, Frm.setCells _ _ _ (Frm.refl _ _) (.inl (by simp)), by rw [HE.out.1, HE.out.2]; simpa using HF.out⟩
    · have he' : decide (e = 0) = false := by simpa using he
      go_enter Tryz.func150, Tryz.ntmps150
      go_wp2_with (fail)
      go_ret
      exact ⟨rfl, Frm.refl _ _, by rw [HE.out.1, HE.out.2]; simpa [he] using H.out⟩
/-- A reader of the program: where it stands, and whether a field was not all there; its bytes lie below N. -/
structure RgS (w : World) (g N : Nat) (l : List UInt8) (at_ : Nat) (sh : Bool) : Prop where
  blkv : ∃ a1 c1 a2 c2, RgB w g (.slice a1 l.length c1) (.slice a2 (l.length - at_) c2) (if sh then 4 else 0) (if sh then l.length else 0) ∧ Rb N w (.slice a1 l.length c1) l ∧ Rb N w (.slice a2 (l.length - at_) c2) (l.drop at_)
  le : at_ ≤ l.length
  small : l.length ≤ 1000000
  ng : N ≤ g
theorem RgS.keep {w w' : World} {L : List Nat} {g N : Nat} {l : List UInt8} {a : Nat} {s : Bool} (h : RgS w g N l a s) (f : Frm L w w') (hL : ∀ k ∈ L, k ≠ g ∧ N ≤ k) : RgS w' g N l a s := by
  obtain ⟨a1, c1, a2, c2, h1, h2, h3⟩ := h.blkv
  exact ⟨⟨a1, c1, a2, c2, h1.keep f (fun hm => (hL g hm).1 rfl), h2.keep f (fun k hk => (hL k hk).2), h3.keep f (fun k hk => (hL k hk).2)⟩, h.le, h.small, h.ng⟩
theorem RgS.lt {w : World} {g N : Nat} {l : List UInt8} {a : Nat} {s : Bool} (h : RgS w g N l a s) : g < w.heap.size := by
  obtain ⟨_, _, _, _, h1, _⟩ := h.blkv
  exact Blk.lt h1
end Go.Proofs.YtljhanhipmnioaaGreat.Rd

namespace Go.Proofs.YtljhanhipmnioaaGreat.Rd
open Go.RowKit
set_option linter.unusedVariables false
set_option linter.unusedSimpArgs false
set_option maxRecDepth 100000

open Pt (Pt may enc readPt readE zeroPt be4 be1 pc pv PtV SlA OwnA BT wpList_load_g heap_alloc_at lst_slB one_slB Ext Grew exec_slice_lh yieldsIf_ld)
open Kr (OwnE SlE Enco RowTys)

/-- What the reader takes: the next bytes, or none. -/
def TakeP (g N : Nat) (l : List UInt8) (at_ n : Nat) (sh : Bool) (w : World) (r : Ending) (w' : World) : Prop := ∃ v, r = .returned v ∧ Rb N w' v (nxtP l at_ n sh) ∧ Frm [g] w w' ∧ RgS w' g N l (nAt l at_ n sh) (!okN l at_ n sh)
theorem okN_no {l : List UInt8} {at_ n : Nat} {sh : Bool} (h : okN l at_ n sh ≠ true) : okN l at_ n sh = false := by cases hb : okN l at_ n sh with | false => rfl | true => exact absurd hb h
set_option maxHeartbeats 4000000 in
theorem take_any (g N : Nat) (l : List UInt8) (at_ n : Nat) (sh : Bool) (w : World) (h : RgS w g N l at_ sh) (hn : n ≤ 1000) : Calls Tryz.prog 204 #[.pointer (some ⟨g, 0, none⟩), .int .i64 n] w (TakeP g N l at_ n sh w) := by
  obtain ⟨a1, c1, a2, c2, h1, h2, h3⟩ := h.blkv
  have hl9 : (l.length : Int) ≤ 1000000 := by have := h.small; omega
  have HLE := Lib.hid h.le
  have HSM := Lib.hid h.small
  have HNG := Lib.hid h.ng
  have H1 := Lib.hid h1
  have H2 := Lib.hid h2
  have H3 := Lib.hid h3
  clear h2
  by_cases hk : okN l at_ n sh = true
  · obtain ⟨rfl, hle⟩ := okN_iff.1 hk
    have HK := Lib.hid hk
    obtain ⟨b1, d1, hslh, Rh⟩ := h3.h n (by simp; omega)
    obtain ⟨b2, d2, hsll, Rl⟩ := h3.l n (by simp; omega)
    have HNL := Lib.hid (show n ≤ l.length - at_ by omega)
    have hd : decide ((n : Int) ≤ ((l.length - at_ : Nat) : Int)) = true := by simp; omega
    rw [List.drop_drop] at Rl
    rw [List.length_drop, Nat.sub_sub] at Rl hsll
    have RH := Lib.hid Rh
    have RL := Lib.hid Rl
    have k0 := h1.c0
    have k1 := h1.c1
    clear Rh Rl h3 h1 h hk hle
    go_enter Tryz.func204, Tryz.ntmps204
    go_upto_region 1 with (fail)
    go_still_tail 13, (by kernel_rfl)
    change wpList _ _ _ _ _ w.drew
    have fD : Frm [] w w.drew := (Frm.refl [] w).drew
    generalize w.drew = w1 at *
    go_upto_region 2 with (go_at_call 150; refine (demand_any g _ _ _ _ _ _ _ w1 (H1.out.keep fD (by simp))).mono ?_; rintro r w2 ⟨rfl, f2, h2⟩)
    have h2b : RgB w2 g (.slice a1 l.length c1) (.slice a2 (l.length - at_) c2) 0 0 := by
      have hq := HNL.out
      simpa [hq] using h2
    have F2 := Lib.hid ((fD.mono (by simp)).trans f2 (by simp) : Frm [g] w w2)
    have G2 := Lib.hid h2b
    have k0 := h2b.c0
    have k1 := h2b.c1
    have k2 := h2b.c2
    have z1 : w2.frozen? ⟨g, 1, none⟩ = false := h2b.frozen 1
    clear h2 h2b f2 fD hd
    go_wp2_with (first
      | ((with_reducible (show wpList _ _ _ (Oper.mk _ (Op.slice 31 _ none _ _) _ _ _ _ :: _) _ _)); refine wpList_val rfl (Pt.exec_slice_hA _ _ rfl rfl rfl Tryz.underlying31 (hslh _ _ rfl)) ?_)
      | ((with_reducible (show wpList _ _ _ (Oper.mk _ (Op.slice 31 _ (some _) none _) _ _ _ _ :: _) _ _)); refine wpList_val rfl (Pt.exec_slice_lA _ _ rfl rfl rfl Tryz.underlying31 (hsll _ _ rfl)) ?_))
    go_ret
    have f3 : Frm [g] w2 (w2.setCell ⟨g, 1, none⟩ (.slice b2 (l.length - (at_ + n)) d2)) := (Frm.refl [g] w2).setCell _ _ (.inl (by simp))
    have F3 : Frm [g] w (w2.setCell ⟨g, 1, none⟩ (.slice b2 (l.length - (at_ + n)) d2)) := F2.out.trans f3 (by simp)
    have hkk := HK.out
    refine ⟨_, rfl, ?_, F3, ?_⟩
    · rw [show nxtP l at_ n false = (l.drop at_).take n by unfold nxtP; rw [if_pos hkk]]
      exact RH.out.keep F3 (by simpa using HNG.out)
    · rw [hkk, show nAt l at_ n false = at_ + n by unfold nAt; rw [if_pos hkk]]
      exact ⟨⟨a1, c1, b2, d2, by simpa using G2.out.rest _, H2.out.keep F3 (by simpa using HNG.out), RL.out.keep F3 (by simpa using HNG.out)⟩, (okN_iff.1 hkk).2, HSM.out, HNG.out⟩
  · have HK := Lib.hid (okN_no hk)
    have hkk := HK.out
    have e1 : nAt l at_ n sh = at_ := by unfold nAt; rw [if_neg (by rw [hkk]; simp)]
    have e2 : nxtP l at_ n sh = [] := by unfold nxtP; rw [if_neg (by rw [hkk]; simp)]
    have hno : sh = true ∨ (sh = false ∧ ¬ (n : Int) ≤ ((l.length - at_ : Nat) : Int)) := by
      cases hs : sh with
      | true => exact .inl rfl
      | false => exact .inr ⟨rfl, fun hc => hk (okN_iff.2 ⟨hs, by have := HLE.out; omega⟩)⟩
    have HNO := Lib.hid hno
    unfold TakeP
    rw [e1, e2, hkk]
    have k0 := h1.c0
    have k1 := h1.c1
    clear h3 h1 h hk hkk e1 e2 hno
    generalize hdd : decide ((n : Int) ≤ ((l.length - at_ : Nat) : Int)) = bd at *
    have HD := Lib.hid hdd
    clear hdd
    go_enter Tryz.func204, Tryz.ntmps204
    go_upto_region 1 with (fail)
    go_still_tail 13, (by kernel_rfl)
    change wpList _ _ _ _ _ w.drew
    have fD : Frm [] w w.drew := (Frm.refl [] w).drew
    generalize w.drew = w1 at *
    go_upto_region 2 with (go_at_call 150; refine (demand_any g _ _ _ _ _ _ _ w1 (H1.out.keep fD (by simp))).mono ?_; rintro r w2 ⟨rfl, f2, h2⟩)
    have h2b : RgB w2 g (.slice a1 l.length c1) (.slice a2 (l.length - at_) c2) 4 l.length := by
      rcases HNO.out with hs | ⟨hs, hc⟩
      · subst hs; simpa using h2
      · subst hs
        have hq : ¬ n ≤ l.length - at_ := by omega
        simpa [hq] using h2
    have F2 := Lib.hid ((fD.mono (by simp)).trans f2 (by simp) : Frm [g] w w2)
    have G2 := Lib.hid h2b
    have k2 := h2b.c2
    clear h2 h2b f2 fD
    go_wp2_with (fail)
    go_ret
    exact ⟨_, rfl, ⟨[], ⟨rfl, .inl ⟨rfl, rfl, rfl⟩⟩, .inl (by simp [blk])⟩, F2.out, ⟨a1, c1, a2, c2, by simpa using G2.out, H2.out.keep F2.out (by simpa using HNG.out), H3.out.keep F2.out (by simpa using HNG.out)⟩, HLE.out, HSM.out, HNG.out⟩
end Go.Proofs.YtljhanhipmnioaaGreat.Rd

namespace Go.Proofs.YtljhanhipmnioaaGreat.Rd
open Go.RowKit
set_option linter.unusedVariables false
set_option linter.unusedSimpArgs false
set_option maxRecDepth 100000

open Pt (Pt may enc readPt readE zeroPt be4 be1 pc pv PtV SlA OwnA BT wpList_load_g heap_alloc_at lst_slB one_slB Ext Grew exec_slice_lh yieldsIf_ld)
open Kr (OwnE SlE Enco RowTys)

/-- What a reader's call leaves: one cell of a block set, and the reader ahead. -/
def SetP (g N b o : Nat) (C : Array Value) (T : TypeId) (l : List UInt8) (at_ n : Nat) (sh : Bool) (v : Value) (w : World) (r : Ending) (w' : World) : Prop :=
  r = .returned (.pointer (some ⟨g, 0, none⟩)) ∧ Frm [g, b] w w' ∧ w'.heap[b]? = some (.cells (C.setIfInBounds o v) T (0, 0)) ∧ RgS w' g N l (nAt l at_ n sh) (!okN l at_ n sh)
def NmRel (m : List UInt8) (b o : Nat) (C : Array Value) (T : TypeId) (g : Nat) (w0 : World) (c : Value) (wr : World) : Prop :=
  ∃ k : Nat, k ≤ m.length ∧ c = .int .i64 k ∧ wr.heap[b]? = some (.cells (C.setIfInBounds o (.int .i64 (bn (m.take k)))) T (0, 0)) ∧ Frm [b] w0 wr
theorem set_same {C : Array Value} {o : Nat} {v : Value} (h : C[o]? = some v) : C.setIfInBounds o v = C := by
  apply Array.ext'
  rw [Array.toList_setIfInBounds]
  obtain ⟨ho, e⟩ := Array.getElem?_eq_some_iff.1 h
  apply List.ext_getElem? 
  intro i
  rw [List.getElem?_set]
  split
  · next hi => subst hi; simp [ho, e]
  · rfl
set_option maxHeartbeats 2000000 in
theorem number_pr (g N b o : Nat) (C : Array Value) (T : TypeId) (l : List UInt8) (at_ n : Nat) (sh : Bool) (w : World) (h : RgS w g N l at_ sh) (hn : n ≤ 7) (hT : w.heap[b]? = some (.cells C T (0, 0))) (hC : C[o]? = some (.int .i64 0)) (hbg : b ≠ g) (hNb : N ≤ b) :
    Calls Tryz.prog 147 #[.pointer (some ⟨g, 0, none⟩), .pointer (some ⟨b, o, none⟩), .int .i64 n] w (SetP g N b o C T l at_ n sh (.int .i64 (bn (nxt l at_ n sh))) w) := by
  have HC := Lib.hid (take_any g N l at_ n sh w h (by omega))
  have hlen : (nxtP l at_ n sh).length ≤ 7 := Nat.le_trans nxtP_len hn
  have HB := Lib.hid (And.intro hbg hNb)
  have HT := Lib.hid hT
  unfold SetP
  unfold TakeP at HC
  rw [← bn_nxt]
  generalize nxtP l at_ n sh = m at *
  generalize nAt l at_ n sh = at2 at *
  generalize (!okN l at_ n sh) = sh2 at *
  have HO := Lib.hid (Array.getElem?_eq_some_iff.1 hC).1
  have HS0 := Lib.hid (set_same hC)
  clear h hn hC hT hNb hbg
  go_enter Tryz.func147, Tryz.ntmps147
  go_upto_region 2 with (go_at_call 204; refine HC.out.mono ?_; rintro e w1 ⟨v1, rfl, S, f, r⟩; obtain ⟨av, ac, rfl, hf1, hf2⟩ := S.form)
  have F := Lib.hid f
  have R := Lib.hid r
  have T1 := Lib.hid (f.heap HT.out (by have := HB.out; simp; omega))
  clear f r HC HT
  have HSK := Lib.hid (show ∀ z, Frm [b] w1 z → Rb N z (.slice av m.length ac) m from fun z f => S.keep f (by have := HB.out; simp; omega))
  obtain ⟨sp, S, _⟩ := S
  rcases S.cases with ⟨e1, rfl⟩ | ⟨a, e1, rfl⟩ | ⟨b1, off, cap, e1, hc1, hc2⟩
  iterate 2
    · cases e1
      go_loopw [13] (fun (c : Value) (wr : World) => c = .int .i64 0 ∧ wr = w1) (fun _ _ => 0)
      case atStart => exact ⟨rfl, rfl⟩
      case round =>
        obtain ⟨rfl, rfl⟩ := hrel
        go_wp2_with fail
        go_ret
        exact ⟨rfl, F.out.mono (by simp), by rw [show bn ([] : List UInt8) = 0 from rfl]; rw [show ((0 : Nat) : Int) = 0 from rfl, HS0.out]; exact T1.out, R.out⟩
  · cases e1
    have HCL := Lib.hid (show ∀ z (k : Nat) (hk : k < m.length), Frm [b] w1 z → z.cell? ⟨b1, off + k, none⟩ = some (.int .u8 m[k].toNat) from fun z k hk f => by
      obtain ⟨sp2, h2, _⟩ := HSK.out z f
      exact h2.cellAt k hk)
    clear S hc2
    go_loopw [13] (NmRel m b o C T g w1) (fun c _ => m.length - (intOf c).toNat)
    case atStart => exact ⟨0, Nat.zero_le _, rfl, by rw [List.take_zero, show bn ([] : List UInt8) = 0 from rfl, show ((0 : Nat) : Int) = 0 from rfl, HS0.out]; exact T1.out, Frm.refl _ _⟩
    case round =>
      obtain ⟨k, hk, rfl, hT, hF⟩ := hrel
      have HT2 := Lib.hid hT
      have HF := Lib.hid hF
      by_cases hkl : k < m.length
      · have hkl9 : (k : Int) < (m.length : Int) := by omega
        have hm9 : (m.length : Int) ≤ 7 := by omega
        have c1 := HCL.out wr k hkl hF
        have c2 : wr.cell? ⟨b, o, none⟩ = some (.int .i64 (bn (m.take k))) := by rw [cell_of_heap hT]; simp [HO.out]
        have z2 := frozen_of_heap hT o
        have hq : bn (m.take k) < 256 ^ 6 := by
          have h1 := bn_lt (m.take k)
          have h2 : 256 ^ (m.take k).length ≤ 256 ^ 6 := Nat.pow_le_pow_right (by omega) (by rw [List.length_take]; omega)
          omega
        have HE := Lib.hid (show bn (m.take (k + 1)) = bn (m.take k) * 256 + (m[k]).toNat by rw [List.take_succ_eq_append_getElem hkl, bn_snoc])
        have hu := m[k].toNat_lt
        generalize m[k] = x at *
        generalize bn (m.take k) = q at *
        have HQ := Lib.hid hq
        clear hT hF hq
        go_wp2_with fail
        go_roundw
        case rel =>
          refine ⟨k + 1, by omega, rfl, ?_, HF.out.trans ((Frm.refl [b] wr).setCell _ _ (.inl (by simp))) (by simp)⟩
          rw [heap_setCell_same _ HT2.out, HE.out]
          have hq := HQ.out
          rw [IntWalk.wrap64_in _ (by omega), show ((q : Int) * 256) = ((q * 256 : Nat) : Int) by omega, Pt.i64_or_nat _ _ (by omega) (by omega), Pt.or_low _ _ hu, Array.setIfInBounds_setIfInBounds]
        case measure => simp [intOf]; omega
      · obtain rfl : k = m.length := by omega
        clear hT hF
        go_wp2_with fail
        go_ret
        refine ⟨rfl, (F.out.mono (by simp)).trans HF.out (by simp), ?_, R.out.keep HF.out (by have := HB.out; simp; omega)⟩
        have := HT2.out
        rwa [List.take_length] at this
theorem one_pr (g N b o : Nat) (C : Array Value) (T : TypeId) (l : List UInt8) (at_ : Nat) (sh : Bool) (w : World) (h : RgS w g N l at_ sh) (hT : w.heap[b]? = some (.cells C T (0, 0))) (hC : C[o]? = some (.int .i64 0)) (hbg : b ≠ g) (hNb : N ≤ b) :
    Calls Tryz.prog 148 #[.pointer (some ⟨g, 0, none⟩), .pointer (some ⟨b, o, none⟩)] w (SetP g N b o C T l at_ 1 sh (.int .i64 (bn (nxt l at_ 1 sh))) w) := by
  have HN := Lib.hid (number_pr g N b o C T l at_ 1 sh w h (by omega) hT hC hbg hNb)
  clear h hT hC hbg hNb
  unfold SetP at HN ⊢
  go_enter Tryz.func148, Tryz.ntmps148
  go_wp2_with (go_at_call 147; refine HN.out.mono ?_; rintro e w1 ⟨rfl, hq⟩)
  go_ret
  exact ⟨rfl, hq⟩
theorem four_pr (g N b o : Nat) (C : Array Value) (T : TypeId) (l : List UInt8) (at_ : Nat) (sh : Bool) (w : World) (h : RgS w g N l at_ sh) (hT : w.heap[b]? = some (.cells C T (0, 0))) (hC : C[o]? = some (.int .i64 0)) (hbg : b ≠ g) (hNb : N ≤ b) :
    Calls Tryz.prog 78 #[.pointer (some ⟨g, 0, none⟩), .pointer (some ⟨b, o, none⟩)] w (SetP g N b o C T l at_ 4 sh (.int .i64 (bn (nxt l at_ 4 sh))) w) := by
  have HN := Lib.hid (number_pr g N b o C T l at_ 4 sh w h (by omega) hT hC hbg hNb)
  clear h hT hC hbg hNb
  unfold SetP at HN ⊢
  go_enter Tryz.func78, Tryz.ntmps78
  go_wp2_with (go_at_call 147; refine HN.out.mono ?_; rintro e w1 ⟨rfl, hq⟩)
  go_ret
  exact ⟨rfl, hq⟩
end Go.Proofs.YtljhanhipmnioaaGreat.Rd

namespace Go.Proofs.YtljhanhipmnioaaGreat.Rd
open Go.RowKit
set_option linter.unusedVariables false
set_option linter.unusedSimpArgs false
set_option maxRecDepth 100000

open Pt (Pt may enc readPt readE zeroPt be4 be1 pc pv PtV SlA OwnA BT wpList_load_g heap_alloc_at lst_slB one_slB Ext Grew exec_slice_lh yieldsIf_ld)
open Kr (OwnE SlE Enco RowTys)

/-- A text is read: how long, and its bytes. -/
def TextP (g N b o : Nat) (C : Array Value) (T : TypeId) (l : List UInt8) (at_ : Nat) (sh : Bool) (w : World) (r : Ending) (w' : World) : Prop :=
  r = .returned (.pointer (some ⟨g, 0, none⟩)) ∧ Frm [g, b] w w' ∧
  w'.heap[b]? = some (.cells (C.setIfInBounds o (.string ⟨(nxtP l (nAt l at_ 1 sh) (bn (nxt l at_ 1 sh)) (!okN l at_ 1 sh)).toArray⟩)) T (0, 0)) ∧
  RgS w' g N l (nAt l (nAt l at_ 1 sh) (bn (nxt l at_ 1 sh)) (!okN l at_ 1 sh)) (!okN l (nAt l at_ 1 sh) (bn (nxt l at_ 1 sh)) (!okN l at_ 1 sh))
set_option maxHeartbeats 2000000 in
theorem text_pr (g N b o : Nat) (C : Array Value) (T : TypeId) (l : List UInt8) (at_ : Nat) (sh : Bool) (w : World) (h : RgS w g N l at_ sh) (hT : w.heap[b]? = some (.cells C T (0, 0))) (hC : o < C.size) (hbg : b ≠ g) (hNb : N ≤ b) :
    Calls Tryz.prog 205 #[.pointer (some ⟨g, 0, none⟩), .pointer (some ⟨b, o, none⟩)] w (TextP g N b o C T l at_ sh w) := by
  have hq : bn (nxt l at_ 1 sh) < 256 := by have := bn_lt (nxt l at_ 1 sh); rw [nxt_len] at this; omega
  have hgl := h.lt
  have hbl := lt_heap hT
  have f0 : Frm [] w (w.alloc (.cells #[.int .i64 0] 3)) := (Frm.refl [] w).alloc _
  have HB := Lib.hid (show b ≠ g ∧ N ≤ b ∧ o < C.size ∧ N ≤ g from ⟨hbg, hNb, hC, h.ng⟩)
  have H1 := Lib.hid (one_pr g N w.heap.size 0 #[.int .i64 0] 3 l at_ sh _ (h.keep f0 (by simp)) (heap_alloc_new _ _) rfl (by omega) (by have := h.ng; omega))
  have HT := Lib.hid (f0.heap hT (by simp))
  have F0 := Lib.hid f0
  have HGL := Lib.hid (show g < w.heap.size ∧ b < w.heap.size from ⟨hgl, hbl⟩)
  unfold TextP
  unfold SetP at H1
  clear h hT hC hbg hNb f0 hgl hbl
  generalize bn (nxt l at_ 1 sh) = n at *
  generalize nAt l at_ 1 sh = at1 at *
  generalize (!okN l at_ 1 sh) = sh1 at *
  have hn9 : (n : Int) < 256 := by omega
  have HN := Lib.hid hq
  clear hq
  have HTK := Lib.hid (fun z (hz : RgS z g N l at1 sh1) => take_any g N l at1 n sh1 z hz (by have := HN.out; omega))
  unfold TakeP at HTK
  generalize nxtP l at1 n sh1 = m at *
  generalize nAt l at1 n sh1 = at2 at *
  generalize (!okN l at1 n sh1) = sh2 at *
  go_enter Tryz.func205, Tryz.ntmps205
  go_upto_region 3 with (go_at_call 148; refine H1.out.mono ?_; rintro e w1 ⟨rfl, f1, t1, r1⟩)
  have F1 := Lib.hid f1
  have R1 := Lib.hid r1
  have T1 := Lib.hid (f1.heap HT.out (by have := HB.out; have := HGL.out; simp; omega))
  have n1 : w1.cell? ⟨w.heap.size, 0, none⟩ = some (.int .i64 n) := by rw [cell_of_heap t1]; rfl
  clear f1 r1 t1 H1
  go_wp2_with (go_at_call 204; refine (HTK.out _ R1.out).mono ?_; rintro e w2 ⟨v2, rfl, S, f2, r2⟩; obtain ⟨sp, s2, _⟩ := S; have hcv := convert_bytes BT s2 Tryz.underlying9; have t2 := f2.heap T1.out (by have := HB.out; simp; omega); have z2 := frozen_of_heap t2 o; have c2 : ∃ u, w2.cell? ⟨b, o, none⟩ = some u := ⟨_, by rw [cell_of_heap t2]; exact Array.getElem?_eq_getElem HB.out.2.2.1⟩; obtain ⟨u2, c2⟩ := c2)
  go_ret
  have f3 : Frm [b] w2 (w2.setCell ⟨b, o, none⟩ (.string ⟨m.toArray⟩)) := (Frm.refl [b] w2).setCell _ _ (.inl (by simp))
  refine ⟨rfl, ?_, heap_setCell_same _ t2, r2.keep f3 (by have := HB.out; simp; omega)⟩
  exact ((((F0.out.mono (L' := [g, b]) (by simp)).trans F1.out (fun k hk => by simp at hk; rcases hk with rfl | rfl <;> simp)).trans f2 (by simp)).trans f3 (by simp))
theorem set_cells_heap {w : World} {g o : Nat} {C : Array Value} {T : TypeId} (vs : List Value) (h : w.heap[g]? = some (.cells C T (0, 0))) : (w.setCells g o vs).heap[g]? = some (.cells (setL C o vs) T (0, 0)) := heap_setCells (w := w) vs o w C h
/-- A root is read: its pointer, or a hole. -/
def RootP (g N b o : Nat) (C : Array Value) (T : TypeId) (l : List UInt8) (at_ : Nat) (sh : Bool) (w : World) (r : Ending) (w' : World) : Prop :=
  ∃ a cap sp, r = .returned (.pointer (some ⟨g, 0, none⟩)) ∧ Frm [g, b] w w' ∧
  w'.heap[b]? = some (.cells (setL C o (pc (.slice a (readPt (nxtP l at_ 47 sh)).ads.length cap) (readPt (nxtP l at_ 47 sh)).b (readPt (nxtP l at_ 47 sh)).l (readPt (nxtP l at_ 47 sh)).s)) T (0, 0)) ∧
  RgS w' g N l (nAt l at_ 47 sh) (!okN l at_ 47 sh) ∧ OwnA 148 w' (.slice a (readPt (nxtP l at_ 47 sh)).ads.length cap) (readPt (nxtP l at_ 47 sh)).ads sp ∧ (readPt (nxtP l at_ 47 sh)).s.length = 32 ∧ ∀ i ∈ blk (.slice a (readPt (nxtP l at_ 47 sh)).ads.length cap), w.heap.size ≤ i
set_option maxHeartbeats 2000000 in
theorem root_pr (g N b o : Nat) (C : Array Value) (T : TypeId) (l : List UInt8) (at_ : Nat) (sh : Bool) (w : World) (h : RgS w g N l at_ sh) (hT : w.heap[b]? = some (.cells C T (0, 0))) (hC : o + 35 ≤ C.size) (hbg : b ≠ g) (hNb : N ≤ b) :
    Calls Tryz.prog 206 #[.pointer (some ⟨g, 0, none⟩), .pointer (some ⟨b, o, none⟩)] w (RootP g N b o C T l at_ sh w) := by
  have HTK := Lib.hid (take_any g N l at_ 47 sh w h (by omega))
  unfold TakeP at HTK
  have HB := Lib.hid (show b ≠ g ∧ N ≤ b ∧ o + 35 ≤ C.size ∧ N ≤ g from ⟨hbg, hNb, hC, h.ng⟩)
  have HT := Lib.hid hT
  have HL := Lib.hid (show (nxtP l at_ 47 sh).length ≤ 1000000 by have := @nxtP_len l at_ 47 sh; omega)
  have HGL := Lib.hid (show g < w.heap.size ∧ b < w.heap.size from ⟨h.lt, lt_heap hT⟩)
  unfold RootP
  generalize nxtP l at_ 47 sh = m at *
  generalize nAt l at_ 47 sh = at2 at *
  generalize (!okN l at_ 47 sh) = sh2 at *
  have HRO := Lib.hid (fun v sp z (hS : SlB z v m sp) => Pt.ReadO_any v m sp z hS HL.out)
  unfold Pt.ReadO at HRO
  generalize readPt m = p at *
  generalize readE m = pe at *
  generalize Pt.readAt m = pa at *
  clear h hT hC hbg hNb HL
  go_enter Tryz.func206, Tryz.ntmps206
  go_wp2_with (first
    | (go_at_call 204; refine HTK.out.mono ?_; rintro e w2 ⟨v2, rfl, S, f2, r2⟩; obtain ⟨sp, s2, _⟩ := S)
    | (go_at_call 226; refine (HRO.out _ _ _ s2).mono ?_; rintro e w3 ⟨x, rfl, hx, f3, n3⟩; obtain ⟨xa, xc, xsp, rfl, ox, h32⟩ := hx; have H32 := Lib.hid h32; have t3 := f3.heap (f2.heap HT.out (by have := HB.out; simp; omega)) (by simp))
    | ((with_reducible (show wpList _ _ _ (Oper.mk _ (Op.store 54 _ _) _ _ _ _ :: _) _ _)); refine wpList_store_mid rfl 54 (.tmp 12) (.tmp 10) rfl b o (pc (.slice xa p.ads.length xc) p.b p.l p.s).toArray rfl rfl (by rw [Pt.pc_size, H32.out]; exact Blk.there (T := T) (cs := C.toList) t3 35 (by simpa using HB.out.2.2.1)) (by rw [Pt.i26, Pt.pc_size, H32.out]) (Pt.pc_one _ _ _) ?_))
  go_ret
  rw [Pt.ptBlk_pv] at n3
  have f4 : Frm [b] w3 (w3.setCells b o (pc (.slice xa p.ads.length xc) p.b p.l p.s)) := Frm.setCells _ _ _ (Frm.refl _ _) (.inl (by simp))
  refine ⟨xa, xc, xsp, rfl, ?_, set_cells_heap _ t3, ?_, ?_, h32, ?_⟩
  · exact (((f2.mono (L' := [g, b]) (by simp)).trans f3 (by simp)).trans f4 (by simp))
  · exact (r2.keep f3 (by simp)).keep f4 (by have := HB.out; simp; omega)
  · exact ox.keep f4 (fun k hk hm => by have := n3 k hk; have := f2.size; have := HGL.out; simp at hm; omega)
  · exact fun i hi => Nat.le_trans f2.size (n3 i hi)
end Go.Proofs.YtljhanhipmnioaaGreat.Rd

namespace Go.Proofs.YtljhanhipmnioaaGreat.Rd
open Go.RowKit
set_option linter.unusedVariables false
set_option linter.unusedSimpArgs false
set_option maxRecDepth 100000

open Pt (Pt may enc readPt readE zeroPt be4 be1 pc pv PtV SlA OwnA BT wpList_load_g heap_alloc_at lst_slB one_slB Ext Grew exec_slice_lh yieldsIf_ld)
open Kr (OwnE SlE Enco RowTys)

theorem RB.to {w w' : World} {b i : Nat} {v u : Value} {x x' : Rec} (h : RB w b v x) (hw : w'.heap[b]? = some (.cells ((rc v x).toArray.setIfInBounds i u) 56 (0, 0))) (hr : x'.root = x.root) (he : rc v x' = (rc v x).set i u) : RB w' b v x' :=
  ⟨by rw [hw, List.setIfInBounds_toArray, he], by rw [hr]; exact h.2⟩
theorem RB.toId {w w' : World} {b : Nat} {v : Value} {x : Rec} {n : Int} (h : RB w b v x) (hw : w'.heap[b]? = some (.cells ((rc v x).toArray.setIfInBounds 0 (.int .i64 n)) 56 (0, 0))) : RB w' b v (withId x n) := h.to hw rfl rfl
theorem RB.toKind {w w' : World} {b : Nat} {v : Value} {x : Rec} {n : Int} (h : RB w b v x) (hw : w'.heap[b]? = some (.cells ((rc v x).toArray.setIfInBounds 2 (.int .i64 n)) 56 (0, 0))) : RB w' b v (withKind x n) := h.to hw rfl rfl
theorem RB.toSize {w w' : World} {b : Nat} {v : Value} {x : Rec} {n : Int} (h : RB w b v x) (hw : w'.heap[b]? = some (.cells ((rc v x).toArray.setIfInBounds 3 (.int .i64 n)) 56 (0, 0))) : RB w' b v (withSize x n) := h.to hw rfl rfl
theorem RB.toName {w w' : World} {b : Nat} {v : Value} {x : Rec} {n : ByteArray} (h : RB w b v x) (hw : w'.heap[b]? = some (.cells ((rc v x).toArray.setIfInBounds 1 (.string n)) 56 (0, 0))) : RB w' b v (withName x n) := h.to hw rfl rfl
theorem RB.toMade {w w' : World} {b : Nat} {v : Value} {x : Rec} {n : Int} (h : RB w b v x) (hw : w'.heap[b]? = some (.cells ((rc v x).toArray.setIfInBounds 39 (.int .i64 n)) 56 (0, 0))) : RB w' b v (withMade x n) := h.to hw rfl (((rc_set h.2 0).trans rfl).symm)
theorem RB.toOf {w w' : World} {b : Nat} {v : Value} {x : Rec} {n : Int} (h : RB w b v x) (hw : w'.heap[b]? = some (.cells ((rc v x).toArray.setIfInBounds 40 (.int .i64 n)) 56 (0, 0))) : RB w' b v (withOf x n) := h.to hw rfl (((rc_set h.2 1).trans rfl).symm)
theorem RB.toOrigin {w w' : World} {b : Nat} {v : Value} {x : Rec} {n : Int} (h : RB w b v x) (hw : w'.heap[b]? = some (.cells ((rc v x).toArray.setIfInBounds 41 (.int .i64 n)) 56 (0, 0))) : RB w' b v (withOrigin x n) := h.to hw rfl (((rc_set h.2 2).trans rfl).symm)
theorem RB.toQuota {w w' : World} {b : Nat} {v : Value} {x : Rec} {n : Int} (h : RB w b v x) (hw : w'.heap[b]? = some (.cells ((rc v x).toArray.setIfInBounds 42 (.int .i64 n)) 56 (0, 0))) : RB w' b v (withQuota x n) := h.to hw rfl (((rc_set h.2 3).trans rfl).symm)
theorem RB.toReserve {w w' : World} {b : Nat} {v : Value} {x : Rec} {n : Int} (h : RB w b v x) (hw : w'.heap[b]? = some (.cells ((rc v x).toArray.setIfInBounds 43 (.int .i64 n)) 56 (0, 0))) : RB w' b v (withReserve x n) := h.to hw rfl (((rc_set h.2 4).trans rfl).symm)
theorem setL_mid {pre row post row' : List Value} {o : Nat} (hp : pre.length = o) (hl : row'.length = row.length) : setL (pre ++ (row ++ post)).toArray o row' = (pre ++ (row' ++ post)).toArray := by
  apply Array.ext'
  rw [setL_toList _ _ _ (by simp; omega)]
  subst hp
  simp [hl]
theorem RB.toRoot {w w' : World} {b : Nat} {v v' : Value} {x : Rec} {p : Pt} (h : RB w b v x) (hp : p.s.length = 32) (hw : w'.heap[b]? = some (.cells (setL (rc v x).toArray 4 (pc v' p.b p.l p.s)) 56 (0, 0))) : RB w' b v' (withRoot x p) := by
  refine ⟨?_, hp⟩
  rw [hw]
  have : setL (([.int .i64 x.id, .string x.name, .int .i64 x.kind, .int .i64 x.size] : List Value) ++ (pc v x.root.b x.root.l x.root.s ++ ([.int .i64 x.made, .int .i64 x.of, .int .i64 x.origin, .int .i64 x.quota, .int .i64 x.reserve] : List Value))).toArray 4 (pc v' p.b p.l p.s) = _ := setL_mid rfl (by simp [pc, bvs_length, hp, h.2])
  exact congrArg (fun c => some (Obj.cells c 56 (0, 0))) this
theorem rc39 {v u : Value} {x : Rec} (h : x.root.s.length = 32) (k : Nat) (hk : [Value.int .i64 x.made, .int .i64 x.of, .int .i64 x.origin, .int .i64 x.quota, .int .i64 x.reserve][k]? = some u) : (rc v x).toArray[39 + k]? = some u := by
  rw [List.getElem?_toArray, Nat.add_comm, rc_end h]; exact hk
/-- What the reading of a record tells, of the program. -/
def RecO (g N b : Nat) (l : List UInt8) (at_ : Nat) (sh : Bool) (w : World) (r : Ending) (w' : World) : Prop :=
  r = .returned (.pointer (some ⟨g, 0, none⟩)) ∧ ∃ a cap sp x o at2 sh2, Frm [g, b] w w' ∧ RB w' b (.slice a x.root.ads.length cap) x ∧ OwnA 148 w' (.slice a x.root.ads.length cap) x.root.ads sp ∧ (x.root.ads.length ≤ 3 ∧ x.name.size ≤ 255) ∧ (∀ i ∈ blk (.slice a x.root.ads.length cap), w.heap.size ≤ i) ∧ RgS w' g N l at2 sh2 ∧ Runs recP l at_ sh (x, o) at2 sh2
set_option maxHeartbeats 16000000 in
theorem record_pr (g N b : Nat) (l : List UInt8) (at0 : Nat) (sh0 : Bool) (w : World) (h : RgS w g N l at0 sh0) (hb : RB w b nilS zeroR) (hbg : b ≠ g) (hNb : N ≤ b) : Calls Tryz.prog 149 #[.pointer (some ⟨g, 0, none⟩), .pointer (some ⟨b, 0, none⟩)] w (RecO g N b l at0 sh0 w) := by
  have R0 := Lib.hid (h.keep (Frm.refl [] w).drew (by simp))
  have B0 := Lib.hid (hb.keep0 (Frm.refl [] w).drew)
  have F0 := Lib.hid (show Frm [g, b] w w.drew from ((Frm.refl [] w).drew).mono (by simp))
  have HB := Lib.hid (show b ≠ g ∧ N ≤ b from ⟨hbg, hNb⟩)
  have HBL := Lib.hid hb.lt
  have HGL := Lib.hid h.lt
  clear h hb hbg hNb
  go_enter Tryz.func149, Tryz.ntmps149
  go_upto_region 1 with (fail)
  refine wp_region_held_drew (S := fun _ => True) (by kernel_rfl) (trivial) (fun hHeld => ?_)
  refine wpAnyH_take (i := 0) (oi := ⟨some 5, .move (.tmp 0), _, _, _, none⟩) (v := ?_) rfl (by kernel_rfl) (by kernel_rfl) (by kernel_rfl) (fun _ _ _ h => h) (Or.inl ⟨by rfl, ?_⟩) hHeld ?_
  rotate_left
  focus (intro z hSw; clear hSw; go_simp; try with_reducible rfl)
  try simp only [Act.put, List.setIfInBounds_toArray, List.set_cons_zero, List.set_cons_succ]
  refine wpAnyH_take (i := 1) (oi := ⟨some 6, .move (.tmp 1), _, _, _, none⟩) (v := ?_) rfl (by kernel_rfl) (by kernel_rfl) (by kernel_rfl) (fun _ _ _ h => h) (Or.inl ⟨by rfl, ?_⟩) hHeld ?_
  rotate_left
  focus (intro z hSw; clear hSw; go_simp; try with_reducible rfl)
  try simp only [Act.put, List.setIfInBounds_toArray, List.set_cons_zero, List.set_cons_succ]
  refine wpAnyH_take (i := 2) (oi := ⟨some 7, .nilCheck (.tmp 6), _, _, _, none⟩) (v := ?_) rfl (by kernel_rfl) (by kernel_rfl) (by kernel_rfl) (fun _ _ _ h => h) (Or.inl ⟨by rfl, ?_⟩) hHeld ?_
  rotate_left
  focus (intro z hSw; clear hSw; go_simp; try with_reducible rfl)
  try simp only [Act.put, List.setIfInBounds_toArray, List.set_cons_zero, List.set_cons_succ]
  refine wpAnyH_take (i := 3) (oi := ⟨some 8, .fieldAddr 56 (.tmp 7) 0, _, _, _, none⟩) (v := ?_) rfl (by kernel_rfl) (by kernel_rfl) (by kernel_rfl) (fun _ _ _ h => h) (Or.inl ⟨by rfl, ?_⟩) hHeld ?_
  rotate_left
  focus (intro z hSw; clear hSw; go_simp; try with_reducible rfl)
  try simp only [Act.put, List.setIfInBounds_toArray, List.set_cons_zero, List.set_cons_succ]
  refine wpAnyH_take (i := 5) (oi := ⟨some 10, .move (.tmp 1), _, _, _, none⟩) (v := ?_) rfl (by kernel_rfl) (by kernel_rfl) (by kernel_rfl) (fun _ _ _ h => h) (Or.inl ⟨by rfl, ?_⟩) hHeld ?_
  rotate_left
  focus (intro z hSw; clear hSw; go_simp; try with_reducible rfl)
  try simp only [Act.put, List.setIfInBounds_toArray, List.set_cons_zero, List.set_cons_succ]
  refine wpAnyH_take (i := 6) (oi := ⟨some 11, .nilCheck (.tmp 10), _, _, _, none⟩) (v := ?_) rfl (by kernel_rfl) (by kernel_rfl) (by kernel_rfl) (fun _ _ _ h => h) (Or.inl ⟨by rfl, ?_⟩) hHeld ?_
  rotate_left
  focus (intro z hSw; clear hSw; go_simp; try with_reducible rfl)
  try simp only [Act.put, List.setIfInBounds_toArray, List.set_cons_zero, List.set_cons_succ]
  refine wpAnyH_take (i := 7) (oi := ⟨some 12, .fieldAddr 56 (.tmp 11) 1, _, _, _, none⟩) (v := ?_) rfl (by kernel_rfl) (by kernel_rfl) (by kernel_rfl) (fun _ _ _ h => h) (Or.inl ⟨by rfl, ?_⟩) hHeld ?_
  rotate_left
  focus (intro z hSw; clear hSw; go_simp; try with_reducible rfl)
  try simp only [Act.put, List.setIfInBounds_toArray, List.set_cons_zero, List.set_cons_succ]
  refine wpAnyH_take (i := 9) (oi := ⟨some 14, .move (.tmp 1), _, _, _, none⟩) (v := ?_) rfl (by kernel_rfl) (by kernel_rfl) (by kernel_rfl) (fun _ _ _ h => h) (Or.inl ⟨by rfl, ?_⟩) hHeld ?_
  rotate_left
  focus (intro z hSw; clear hSw; go_simp; try with_reducible rfl)
  try simp only [Act.put, List.setIfInBounds_toArray, List.set_cons_zero, List.set_cons_succ]
  refine wpAnyH_take (i := 10) (oi := ⟨some 15, .nilCheck (.tmp 14), _, _, _, none⟩) (v := ?_) rfl (by kernel_rfl) (by kernel_rfl) (by kernel_rfl) (fun _ _ _ h => h) (Or.inl ⟨by rfl, ?_⟩) hHeld ?_
  rotate_left
  focus (intro z hSw; clear hSw; go_simp; try with_reducible rfl)
  try simp only [Act.put, List.setIfInBounds_toArray, List.set_cons_zero, List.set_cons_succ]
  refine wpAnyH_take (i := 11) (oi := ⟨some 16, .fieldAddr 56 (.tmp 15) 2, _, _, _, none⟩) (v := ?_) rfl (by kernel_rfl) (by kernel_rfl) (by kernel_rfl) (fun _ _ _ h => h) (Or.inl ⟨by rfl, ?_⟩) hHeld ?_
  rotate_left
  focus (intro z hSw; clear hSw; go_simp; try with_reducible rfl)
  try simp only [Act.put, List.setIfInBounds_toArray, List.set_cons_zero, List.set_cons_succ]
  refine wpAnyH_take (i := 13) (oi := ⟨some 18, .move (.tmp 1), _, _, _, none⟩) (v := ?_) rfl (by kernel_rfl) (by kernel_rfl) (by kernel_rfl) (fun _ _ _ h => h) (Or.inl ⟨by rfl, ?_⟩) hHeld ?_
  rotate_left
  focus (intro z hSw; clear hSw; go_simp; try with_reducible rfl)
  try simp only [Act.put, List.setIfInBounds_toArray, List.set_cons_zero, List.set_cons_succ]
  refine wpAnyH_take (i := 14) (oi := ⟨some 19, .nilCheck (.tmp 18), _, _, _, none⟩) (v := ?_) rfl (by kernel_rfl) (by kernel_rfl) (by kernel_rfl) (fun _ _ _ h => h) (Or.inl ⟨by rfl, ?_⟩) hHeld ?_
  rotate_left
  focus (intro z hSw; clear hSw; go_simp; try with_reducible rfl)
  try simp only [Act.put, List.setIfInBounds_toArray, List.set_cons_zero, List.set_cons_succ]
  refine wpAnyH_take (i := 15) (oi := ⟨some 20, .fieldAddr 56 (.tmp 19) 3, _, _, _, none⟩) (v := ?_) rfl (by kernel_rfl) (by kernel_rfl) (by kernel_rfl) (fun _ _ _ h => h) (Or.inl ⟨by rfl, ?_⟩) hHeld ?_
  rotate_left
  focus (intro z hSw; clear hSw; go_simp; try with_reducible rfl)
  try simp only [Act.put, List.setIfInBounds_toArray, List.set_cons_zero, List.set_cons_succ]
  refine wpAnyH_take (i := 17) (oi := ⟨some 22, .move (.tmp 1), _, _, _, none⟩) (v := ?_) rfl (by kernel_rfl) (by kernel_rfl) (by kernel_rfl) (fun _ _ _ h => h) (Or.inl ⟨by rfl, ?_⟩) hHeld ?_
  rotate_left
  focus (intro z hSw; clear hSw; go_simp; try with_reducible rfl)
  try simp only [Act.put, List.setIfInBounds_toArray, List.set_cons_zero, List.set_cons_succ]
  refine wpAnyH_take (i := 18) (oi := ⟨some 23, .nilCheck (.tmp 22), _, _, _, none⟩) (v := ?_) rfl (by kernel_rfl) (by kernel_rfl) (by kernel_rfl) (fun _ _ _ h => h) (Or.inl ⟨by rfl, ?_⟩) hHeld ?_
  rotate_left
  focus (intro z hSw; clear hSw; go_simp; try with_reducible rfl)
  try simp only [Act.put, List.setIfInBounds_toArray, List.set_cons_zero, List.set_cons_succ]
  refine wpAnyH_take (i := 19) (oi := ⟨some 24, .fieldAddr 56 (.tmp 23) 4, _, _, _, none⟩) (v := ?_) rfl (by kernel_rfl) (by kernel_rfl) (by kernel_rfl) (fun _ _ _ h => h) (Or.inl ⟨by rfl, ?_⟩) hHeld ?_
  rotate_left
  focus (intro z hSw; clear hSw; go_simp; try with_reducible rfl)
  try simp only [Act.put, List.setIfInBounds_toArray, List.set_cons_zero, List.set_cons_succ]
  refine wpAnyH_take (i := 21) (oi := ⟨some 26, .move (.tmp 1), _, _, _, none⟩) (v := ?_) rfl (by kernel_rfl) (by kernel_rfl) (by kernel_rfl) (fun _ _ _ h => h) (Or.inl ⟨by rfl, ?_⟩) hHeld ?_
  rotate_left
  focus (intro z hSw; clear hSw; go_simp; try with_reducible rfl)
  try simp only [Act.put, List.setIfInBounds_toArray, List.set_cons_zero, List.set_cons_succ]
  refine wpAnyH_take (i := 22) (oi := ⟨some 27, .nilCheck (.tmp 26), _, _, _, none⟩) (v := ?_) rfl (by kernel_rfl) (by kernel_rfl) (by kernel_rfl) (fun _ _ _ h => h) (Or.inl ⟨by rfl, ?_⟩) hHeld ?_
  rotate_left
  focus (intro z hSw; clear hSw; go_simp; try with_reducible rfl)
  try simp only [Act.put, List.setIfInBounds_toArray, List.set_cons_zero, List.set_cons_succ]
  refine wpAnyH_take (i := 23) (oi := ⟨some 28, .fieldAddr 56 (.tmp 27) 5, _, _, _, none⟩) (v := ?_) rfl (by kernel_rfl) (by kernel_rfl) (by kernel_rfl) (fun _ _ _ h => h) (Or.inl ⟨by rfl, ?_⟩) hHeld ?_
  rotate_left
  focus (intro z hSw; clear hSw; go_simp; try with_reducible rfl)
  try simp only [Act.put, List.setIfInBounds_toArray, List.set_cons_zero, List.set_cons_succ]
  refine wpAnyH_take (i := 25) (oi := ⟨some 30, .move (.tmp 1), _, _, _, none⟩) (v := ?_) rfl (by kernel_rfl) (by kernel_rfl) (by kernel_rfl) (fun _ _ _ h => h) (Or.inl ⟨by rfl, ?_⟩) hHeld ?_
  rotate_left
  focus (intro z hSw; clear hSw; go_simp; try with_reducible rfl)
  try simp only [Act.put, List.setIfInBounds_toArray, List.set_cons_zero, List.set_cons_succ]
  refine wpAnyH_take (i := 26) (oi := ⟨some 31, .nilCheck (.tmp 30), _, _, _, none⟩) (v := ?_) rfl (by kernel_rfl) (by kernel_rfl) (by kernel_rfl) (fun _ _ _ h => h) (Or.inl ⟨by rfl, ?_⟩) hHeld ?_
  rotate_left
  focus (intro z hSw; clear hSw; go_simp; try with_reducible rfl)
  try simp only [Act.put, List.setIfInBounds_toArray, List.set_cons_zero, List.set_cons_succ]
  refine wpAnyH_take (i := 27) (oi := ⟨some 32, .fieldAddr 56 (.tmp 31) 6, _, _, _, none⟩) (v := ?_) rfl (by kernel_rfl) (by kernel_rfl) (by kernel_rfl) (fun _ _ _ h => h) (Or.inl ⟨by rfl, ?_⟩) hHeld ?_
  rotate_left
  focus (intro z hSw; clear hSw; go_simp; try with_reducible rfl)
  try simp only [Act.put, List.setIfInBounds_toArray, List.set_cons_zero, List.set_cons_succ]
  refine wpAnyH_take (i := 29) (oi := ⟨some 34, .move (.tmp 1), _, _, _, none⟩) (v := ?_) rfl (by kernel_rfl) (by kernel_rfl) (by kernel_rfl) (fun _ _ _ h => h) (Or.inl ⟨by rfl, ?_⟩) hHeld ?_
  rotate_left
  focus (intro z hSw; clear hSw; go_simp; try with_reducible rfl)
  try simp only [Act.put, List.setIfInBounds_toArray, List.set_cons_zero, List.set_cons_succ]
  refine wpAnyH_take (i := 30) (oi := ⟨some 35, .nilCheck (.tmp 34), _, _, _, none⟩) (v := ?_) rfl (by kernel_rfl) (by kernel_rfl) (by kernel_rfl) (fun _ _ _ h => h) (Or.inl ⟨by rfl, ?_⟩) hHeld ?_
  rotate_left
  focus (intro z hSw; clear hSw; go_simp; try with_reducible rfl)
  try simp only [Act.put, List.setIfInBounds_toArray, List.set_cons_zero, List.set_cons_succ]
  refine wpAnyH_take (i := 31) (oi := ⟨some 36, .fieldAddr 56 (.tmp 35) 7, _, _, _, none⟩) (v := ?_) rfl (by kernel_rfl) (by kernel_rfl) (by kernel_rfl) (fun _ _ _ h => h) (Or.inl ⟨by rfl, ?_⟩) hHeld ?_
  rotate_left
  focus (intro z hSw; clear hSw; go_simp; try with_reducible rfl)
  try simp only [Act.put, List.setIfInBounds_toArray, List.set_cons_zero, List.set_cons_succ]
  refine wpAnyH_take (i := 33) (oi := ⟨some 38, .move (.tmp 1), _, _, _, none⟩) (v := ?_) rfl (by kernel_rfl) (by kernel_rfl) (by kernel_rfl) (fun _ _ _ h => h) (Or.inl ⟨by rfl, ?_⟩) hHeld ?_
  rotate_left
  focus (intro z hSw; clear hSw; go_simp; try with_reducible rfl)
  try simp only [Act.put, List.setIfInBounds_toArray, List.set_cons_zero, List.set_cons_succ]
  refine wpAnyH_take (i := 34) (oi := ⟨some 39, .nilCheck (.tmp 38), _, _, _, none⟩) (v := ?_) rfl (by kernel_rfl) (by kernel_rfl) (by kernel_rfl) (fun _ _ _ h => h) (Or.inl ⟨by rfl, ?_⟩) hHeld ?_
  rotate_left
  focus (intro z hSw; clear hSw; go_simp; try with_reducible rfl)
  try simp only [Act.put, List.setIfInBounds_toArray, List.set_cons_zero, List.set_cons_succ]
  refine wpAnyH_take (i := 35) (oi := ⟨some 40, .fieldAddr 56 (.tmp 39) 8, _, _, _, none⟩) (v := ?_) rfl (by kernel_rfl) (by kernel_rfl) (by kernel_rfl) (fun _ _ _ h => h) (Or.inl ⟨by rfl, ?_⟩) hHeld ?_
  rotate_left
  focus (intro z hSw; clear hSw; go_simp; try with_reducible rfl)
  try simp only [Act.put, List.setIfInBounds_toArray, List.set_cons_zero, List.set_cons_succ]
  refine wpAnyH_take (i := 37) (oi := ⟨some 42, .move (.tmp 1), _, _, _, none⟩) (v := ?_) rfl (by kernel_rfl) (by kernel_rfl) (by kernel_rfl) (fun _ _ _ h => h) (Or.inl ⟨by rfl, ?_⟩) hHeld ?_
  rotate_left
  focus (intro z hSw; clear hSw; go_simp; try with_reducible rfl)
  try simp only [Act.put, List.setIfInBounds_toArray, List.set_cons_zero, List.set_cons_succ]
  refine wpAnyH_take (i := 38) (oi := ⟨some 43, .nilCheck (.tmp 42), _, _, _, none⟩) (v := ?_) rfl (by kernel_rfl) (by kernel_rfl) (by kernel_rfl) (fun _ _ _ h => h) (Or.inl ⟨by rfl, ?_⟩) hHeld ?_
  rotate_left
  focus (intro z hSw; clear hSw; go_simp; try with_reducible rfl)
  try simp only [Act.put, List.setIfInBounds_toArray, List.set_cons_zero, List.set_cons_succ]
  refine wpAnyH_take (i := 39) (oi := ⟨some 44, .fieldAddr 56 (.tmp 43) 9, _, _, _, none⟩) (v := ?_) rfl (by kernel_rfl) (by kernel_rfl) (by kernel_rfl) (fun _ _ _ h => h) (Or.inl ⟨by rfl, ?_⟩) hHeld ?_
  rotate_left
  focus (intro z hSw; clear hSw; go_simp; try with_reducible rfl)
  try simp only [Act.put, List.setIfInBounds_toArray, List.set_cons_zero, List.set_cons_succ]
  refine wpAnyH_ready (rs := [4]) (by kernel_rfl) (by simp) ?_
  refine AllReadyH.cons (o := ⟨some 9, .call { callee := .value (.func 78), args := #[.tmp 5, .tmp 8], argTypes := #[98, 101] }, _, _, _, none⟩) rfl (fun K hK => ?_) AllReadyH.nil
  go_simp
  refine (four_pr g N b 0 _ 56 l at0 sh0 _ R0.out B0.out.1 rfl HB.out.1 HB.out.2).mono ?_
  rintro r w1 ⟨rfl, f1, t1, r1⟩
  have u1 := Lib.hid (runs_num 4 l at0 sh0 R0.out.le)
  have R1 := Lib.hid r1
  have B1 := Lib.hid (B0.out.toId t1)
  have F1 := Lib.hid (F0.out.trans f1 (by simp))
  clear f1 t1 r1
  generalize bn (nxt l at0 4 sh0) = n1 at *
  generalize nAt l at0 4 sh0 = at1 at *
  generalize (!okN l at0 4 sh0) = sh1 at *
  refine hK.out _ _ ?_ (fun hNext => ?_)
  · trivial
  clear hK K hHeld
  have hHeld := hNext
  clear hNext
  try simp only [Act.put, List.setIfInBounds_toArray, List.set_cons_zero, List.set_cons_succ]
  refine wpAnyH_ready (rs := [8]) (by kernel_rfl) (by simp) ?_
  refine AllReadyH.cons (o := ⟨some 13, .call { callee := .value (.func 205), args := #[.tmp 9, .tmp 12], argTypes := #[98, 183] }, _, _, _, none⟩) rfl (fun K hK => ?_) AllReadyH.nil
  go_simp
  refine (text_pr g N b 1 _ 56 l at1 sh1 _ R1.out B1.out.1 (by simp [rc_length B1.out.2]) HB.out.1 HB.out.2).mono ?_
  rintro r w2 ⟨rfl, f2, t2, r2⟩
  have u2a := Lib.hid (runs_num 1 l at1 sh1 R1.out.le)
  have q2 := Lib.hid (show bn (nxt l at1 1 sh1) < 256 by have := bn_lt (nxt l at1 1 sh1); rw [nxt_len] at this; omega)
  have R2 := Lib.hid r2
  have F2 := Lib.hid (F1.out.trans f2 (by simp))
  have B2 := Lib.hid (B1.out.toName t2)
  clear f2 t2 r2
  have L2 := Lib.hid (nAt_le (n := 1) (sh := sh1) R1.out.le).1
  generalize bn (nxt l at1 1 sh1) = nn at *
  generalize nAt l at1 1 sh1 = at1b at *
  generalize (!okN l at1 1 sh1) = sh1b at *
  have u2b := Lib.hid (runs_tk nn l at1b sh1b (nxtP l at1b nn sh1b) (fun h => by unfold nxtP; rw [if_pos h]) L2.out)
  have QN := Lib.hid (show (nxtP l at1b nn sh1b).length ≤ 255 by have := @nxtP_len l at1b nn sh1b; have := q2.out; omega)
  generalize nxtP l at1b nn sh1b = nm at *
  generalize nAt l at1b nn sh1b = at2 at *
  generalize (!okN l at1b nn sh1b) = sh2 at *
  refine hK.out _ _ ?_ (fun hNext => ?_)
  · trivial
  clear hK K hHeld
  have hHeld := hNext
  clear hNext
  try simp only [Act.put, List.setIfInBounds_toArray, List.set_cons_zero, List.set_cons_succ]
  refine wpAnyH_ready (rs := [12]) (by kernel_rfl) (by simp) ?_
  refine AllReadyH.cons (o := ⟨some 17, .call { callee := .value (.func 148), args := #[.tmp 13, .tmp 16], argTypes := #[98, 101] }, _, _, _, none⟩) rfl (fun K hK => ?_) AllReadyH.nil
  go_simp
  refine (one_pr g N b 2 _ 56 l at2 sh2 _ R2.out B2.out.1 rfl HB.out.1 HB.out.2).mono ?_
  rintro r w3 ⟨rfl, f3, t3, r3⟩
  have u3 := Lib.hid (runs_num 1 l at2 sh2 R2.out.le)
  have R3 := Lib.hid r3
  have B3 := Lib.hid (B2.out.toKind t3)
  have F3 := Lib.hid (F2.out.trans f3 (by simp))
  clear f3 t3 r3
  generalize bn (nxt l at2 1 sh2) = n3 at *
  generalize nAt l at2 1 sh2 = at3 at *
  generalize (!okN l at2 1 sh2) = sh3 at *
  refine hK.out _ _ ?_ (fun hNext => ?_)
  · trivial
  clear hK K hHeld
  have hHeld := hNext
  clear hNext
  try simp only [Act.put, List.setIfInBounds_toArray, List.set_cons_zero, List.set_cons_succ]
  refine wpAnyH_ready (rs := [16]) (by kernel_rfl) (by simp) ?_
  refine AllReadyH.cons (o := ⟨some 21, .call { callee := .value (.func 148), args := #[.tmp 17, .tmp 20], argTypes := #[98, 101] }, _, _, _, none⟩) rfl (fun K hK => ?_) AllReadyH.nil
  go_simp
  refine (one_pr g N b 3 _ 56 l at3 sh3 _ R3.out B3.out.1 rfl HB.out.1 HB.out.2).mono ?_
  rintro r w4 ⟨rfl, f4, t4, r4⟩
  have u4 := Lib.hid (runs_num 1 l at3 sh3 R3.out.le)
  have R4 := Lib.hid r4
  have B4 := Lib.hid (B3.out.toSize t4)
  have F4 := Lib.hid (F3.out.trans f4 (by simp))
  clear f4 t4 r4
  generalize bn (nxt l at3 1 sh3) = n4 at *
  generalize nAt l at3 1 sh3 = at4 at *
  generalize (!okN l at3 1 sh3) = sh4 at *
  refine hK.out _ _ ?_ (fun hNext => ?_)
  · trivial
  clear hK K hHeld
  have hHeld := hNext
  clear hNext
  try simp only [Act.put, List.setIfInBounds_toArray, List.set_cons_zero, List.set_cons_succ]
  refine wpAnyH_ready (rs := [20]) (by kernel_rfl) (by simp) ?_
  refine AllReadyH.cons (o := ⟨some 25, .call { callee := .value (.func 206), args := #[.tmp 21, .tmp 24], argTypes := #[98, 185] }, _, _, _, none⟩) rfl (fun K hK => ?_) AllReadyH.nil
  go_simp
  refine (root_pr g N b 4 _ 56 l at4 sh4 _ R4.out B4.out.1 (by simp [rc_length B4.out.2]) HB.out.1 HB.out.2).mono ?_
  rintro r w5 ⟨pa, pcp, psp, rfl, f5, t5, r5, op, p32, nb⟩
  have u5 := Lib.hid (runs_tk 47 l at4 sh4 (nxtP l at4 47 sh4) (fun h => by unfold nxtP; rw [if_pos h]) R4.out.le)
  have R5 := Lib.hid r5
  have B5 := Lib.hid (B4.out.toRoot p32 t5)
  have GW := Lib.hid (F4.out.size)
  have F5 := Lib.hid (F4.out.trans f5 (by simp))
  have K5 := Lib.hid (Frm.refl [g, b] w5)
  have OP := Lib.hid op
  have NB := Lib.hid (fun i hi => Nat.le_trans GW.out (nb i hi))
  have HP3 := Lib.hid (Pt.read_len (nxtP l at4 47 sh4))
  clear f5 t5 r5 op p32 nb
  generalize nxtP l at4 47 sh4 = rt at *
  generalize hpe : readE rt = pe at *
  generalize nAt l at4 47 sh4 = at5 at *
  generalize (!okN l at4 47 sh4) = sh5 at *
  refine hK.out _ _ ?_ (fun hNext => ?_)
  · trivial
  clear hK K hHeld
  have hHeld := hNext
  clear hNext
  try simp only [Act.put, List.setIfInBounds_toArray, List.set_cons_zero, List.set_cons_succ]
  refine wpAnyH_ready (rs := [24]) (by kernel_rfl) (by simp) ?_
  refine AllReadyH.cons (o := ⟨some 29, .call { callee := .value (.func 78), args := #[.tmp 25, .tmp 28], argTypes := #[98, 101] }, _, _, _, none⟩) rfl (fun K hK => ?_) AllReadyH.nil
  go_simp
  refine (four_pr g N b 39 _ 56 l at5 sh5 _ R5.out B5.out.1 (rc39 B5.out.2 0 rfl) HB.out.1 HB.out.2).mono ?_
  rintro r w6 ⟨rfl, f6, t6, r6⟩
  have u6 := Lib.hid (runs_num 4 l at5 sh5 R5.out.le)
  have R6 := Lib.hid r6
  have B6 := Lib.hid (B5.out.toMade t6)
  have F6 := Lib.hid (F5.out.trans f6 (by simp))
  have K6 := Lib.hid (K5.out.trans f6 (by simp))
  clear f6 t6 r6
  generalize bn (nxt l at5 4 sh5) = n6 at *
  generalize nAt l at5 4 sh5 = at6 at *
  generalize (!okN l at5 4 sh5) = sh6 at *
  refine hK.out _ _ ?_ (fun hNext => ?_)
  · trivial
  clear hK K hHeld
  have hHeld := hNext
  clear hNext
  try simp only [Act.put, List.setIfInBounds_toArray, List.set_cons_zero, List.set_cons_succ]
  refine wpAnyH_ready (rs := [28]) (by kernel_rfl) (by simp) ?_
  refine AllReadyH.cons (o := ⟨some 33, .call { callee := .value (.func 78), args := #[.tmp 29, .tmp 32], argTypes := #[98, 101] }, _, _, _, none⟩) rfl (fun K hK => ?_) AllReadyH.nil
  go_simp
  refine (four_pr g N b 40 _ 56 l at6 sh6 _ R6.out B6.out.1 (rc39 B6.out.2 1 rfl) HB.out.1 HB.out.2).mono ?_
  rintro r w7 ⟨rfl, f7, t7, r7⟩
  have u7 := Lib.hid (runs_num 4 l at6 sh6 R6.out.le)
  have R7 := Lib.hid r7
  have B7 := Lib.hid (B6.out.toOf t7)
  have F7 := Lib.hid (F6.out.trans f7 (by simp))
  have K7 := Lib.hid (K6.out.trans f7 (by simp))
  clear f7 t7 r7
  generalize bn (nxt l at6 4 sh6) = n7 at *
  generalize nAt l at6 4 sh6 = at7 at *
  generalize (!okN l at6 4 sh6) = sh7 at *
  refine hK.out _ _ ?_ (fun hNext => ?_)
  · trivial
  clear hK K hHeld
  have hHeld := hNext
  clear hNext
  try simp only [Act.put, List.setIfInBounds_toArray, List.set_cons_zero, List.set_cons_succ]
  refine wpAnyH_ready (rs := [32]) (by kernel_rfl) (by simp) ?_
  refine AllReadyH.cons (o := ⟨some 37, .call { callee := .value (.func 78), args := #[.tmp 33, .tmp 36], argTypes := #[98, 101] }, _, _, _, none⟩) rfl (fun K hK => ?_) AllReadyH.nil
  go_simp
  refine (four_pr g N b 41 _ 56 l at7 sh7 _ R7.out B7.out.1 (rc39 B7.out.2 2 rfl) HB.out.1 HB.out.2).mono ?_
  rintro r w8 ⟨rfl, f8, t8, r8⟩
  have u8 := Lib.hid (runs_num 4 l at7 sh7 R7.out.le)
  have R8 := Lib.hid r8
  have B8 := Lib.hid (B7.out.toOrigin t8)
  have F8 := Lib.hid (F7.out.trans f8 (by simp))
  have K8 := Lib.hid (K7.out.trans f8 (by simp))
  clear f8 t8 r8
  generalize bn (nxt l at7 4 sh7) = n8 at *
  generalize nAt l at7 4 sh7 = at8 at *
  generalize (!okN l at7 4 sh7) = sh8 at *
  refine hK.out _ _ ?_ (fun hNext => ?_)
  · trivial
  clear hK K hHeld
  have hHeld := hNext
  clear hNext
  try simp only [Act.put, List.setIfInBounds_toArray, List.set_cons_zero, List.set_cons_succ]
  refine wpAnyH_ready (rs := [36]) (by kernel_rfl) (by simp) ?_
  refine AllReadyH.cons (o := ⟨some 41, .call { callee := .value (.func 148), args := #[.tmp 37, .tmp 40], argTypes := #[98, 101] }, _, _, _, none⟩) rfl (fun K hK => ?_) AllReadyH.nil
  go_simp
  refine (one_pr g N b 42 _ 56 l at8 sh8 _ R8.out B8.out.1 (rc39 B8.out.2 3 rfl) HB.out.1 HB.out.2).mono ?_
  rintro r w9 ⟨rfl, f9, t9, r9⟩
  have u9 := Lib.hid (runs_num 1 l at8 sh8 R8.out.le)
  have R9 := Lib.hid r9
  have B9 := Lib.hid (B8.out.toQuota t9)
  have F9 := Lib.hid (F8.out.trans f9 (by simp))
  have K9 := Lib.hid (K8.out.trans f9 (by simp))
  clear f9 t9 r9
  generalize bn (nxt l at8 1 sh8) = n9 at *
  generalize nAt l at8 1 sh8 = at9 at *
  generalize (!okN l at8 1 sh8) = sh9 at *
  refine hK.out _ _ ?_ (fun hNext => ?_)
  · trivial
  clear hK K hHeld
  have hHeld := hNext
  clear hNext
  try simp only [Act.put, List.setIfInBounds_toArray, List.set_cons_zero, List.set_cons_succ]
  refine wpAnyH_ready (rs := [40]) (by kernel_rfl) (by simp) ?_
  refine AllReadyH.cons (o := ⟨some 45, .call { callee := .value (.func 148), args := #[.tmp 41, .tmp 44], argTypes := #[98, 101] }, _, _, _, none⟩) rfl (fun K hK => ?_) AllReadyH.nil
  go_simp
  refine (one_pr g N b 43 _ 56 l at9 sh9 _ R9.out B9.out.1 (rc39 B9.out.2 4 rfl) HB.out.1 HB.out.2).mono ?_
  rintro r w10 ⟨rfl, f10, t10, r10⟩
  have u10 := Lib.hid (runs_num 1 l at9 sh9 R9.out.le)
  have R10 := Lib.hid r10
  have B10 := Lib.hid (B9.out.toReserve t10)
  have F10 := Lib.hid (F9.out.trans f10 (by simp))
  have K10 := Lib.hid (K9.out.trans f10 (by simp))
  clear f10 t10 r10
  generalize bn (nxt l at9 1 sh9) = n10 at *
  generalize nAt l at9 1 sh9 = at10 at *
  generalize (!okN l at9 1 sh9) = sh10 at *
  refine hK.out _ _ ?_ (fun hNext => ?_)
  · trivial
  clear hK K hHeld
  have hHeld := hNext
  clear hNext
  try simp only [Act.put, List.setIfInBounds_toArray, List.set_cons_zero, List.set_cons_succ]
  refine wpAnyH_take (i := 41) (oi := ⟨some 4, .assign (.tmp 45), _, _, _, none⟩) (v := ?_) rfl (by kernel_rfl) (by kernel_rfl) (by kernel_rfl) (fun _ _ _ h => h) (Or.inl ⟨by rfl, ?_⟩) hHeld ?_
  rotate_left
  focus (intro z hSw; clear hSw; go_simp; try with_reducible rfl)
  try simp only [Act.put, List.setIfInBounds_toArray, List.set_cons_zero, List.set_cons_succ]
  refine wpAnyH_done (by kernel_rfl) ?_ _
  go_wp2_with (fail)
  go_ret
  refine ⟨rfl, pa, pcp, psp, _, pe != 0, at10, sh10, F10.out, B10.out, OP.out.keep K10.out (fun k hk hm => by have h1 := NB.out k hk; have h2 := HGL.out; have h3 := HBL.out; have h4 := GW.out; simp at hm; omega), ⟨HP3.out, ?_⟩, NB.out, R10.out, ?_⟩
  · have := QN.out
    show (ByteArray.mk nm.toArray).size ≤ 255
    rw [Lib.size_eq]
    simpa using this
  · rw [← hpe]
    exact u1.out.bnd (u2a.out.bnd (u2b.out.bnd (u3.out.bnd (u4.out.bnd (u5.out.bnd (u6.out.bnd (u7.out.bnd (u8.out.bnd (u9.out.bnd (u10.out.bnd (Runs.ret _ _ _ _ R10.out.le)))))))))))
end Go.Proofs.YtljhanhipmnioaaGreat.Rd

namespace Go.Proofs.YtljhanhipmnioaaGreat.Rd
open Go.RowKit
set_option linter.unusedVariables false
set_option linter.unusedSimpArgs false
set_option maxRecDepth 100000

open Pt (Pt may enc readPt readE zeroPt be4 be1 pc pv PtV SlA OwnA BT wpList_load_g heap_alloc_at lst_slB one_slB Ext Grew exec_slice_lh yieldsIf_ld)
open Kr (OwnE SlE Enco RowTys)
theorem TB.toNext {w w' : World} {g : Nat} {vr vl : Value} {t : Tab} {n : Int} (h : TB w g vr vl t) (hw : w'.heap[g]? = some (.cells ((tc vr vl t).toArray.setIfInBounds 0 (.int .i64 n)) 27 (0, 0))) : TB w' g vr vl ⟨n, t.recs, t.cur, t.lives⟩ := by
  unfold TB; rw [hw, List.setIfInBounds_toArray]; rfl
theorem TB.toKind {w w' : World} {g : Nat} {vr vl : Value} {t : Tab} {n : Int} (h : TB w g vr vl t) (hw : w'.heap[g]? = some (.cells ((tc vr vl t).toArray.setIfInBounds 2 (.int .i64 n)) 27 (0, 0))) : TB w' g vr vl ⟨t.next, t.recs, ⟨n, t.cur.dev, t.cur.at_, t.cur.txg⟩, t.lives⟩ := by
  unfold TB; rw [hw, List.setIfInBounds_toArray]; rfl
theorem TB.toDev {w w' : World} {g : Nat} {vr vl : Value} {t : Tab} {n : Int} (h : TB w g vr vl t) (hw : w'.heap[g]? = some (.cells ((tc vr vl t).toArray.setIfInBounds 3 (.int .i64 n)) 27 (0, 0))) : TB w' g vr vl ⟨t.next, t.recs, ⟨t.cur.kind, n, t.cur.at_, t.cur.txg⟩, t.lives⟩ := by
  unfold TB; rw [hw, List.setIfInBounds_toArray]; rfl
theorem TB.toAt {w w' : World} {g : Nat} {vr vl : Value} {t : Tab} {n : Int} (h : TB w g vr vl t) (hw : w'.heap[g]? = some (.cells ((tc vr vl t).toArray.setIfInBounds 4 (.int .i64 n)) 27 (0, 0))) : TB w' g vr vl ⟨t.next, t.recs, ⟨t.cur.kind, t.cur.dev, n, t.cur.txg⟩, t.lives⟩ := by
  unfold TB; rw [hw, List.setIfInBounds_toArray]; rfl
theorem TB.toTxg {w w' : World} {g : Nat} {vr vl : Value} {t : Tab} {n : Int} (h : TB w g vr vl t) (hw : w'.heap[g]? = some (.cells ((tc vr vl t).toArray.setIfInBounds 5 (.int .i64 n)) 27 (0, 0))) : TB w' g vr vl ⟨t.next, t.recs, ⟨t.cur.kind, t.cur.dev, t.cur.at_, n⟩, t.lives⟩ := by
  unfold TB; rw [hw, List.setIfInBounds_toArray]; rfl

/-- What the reading of a cursor tells, of the program. -/
def CurO (g N gt : Nat) (vr vl : Value) (t : Tab) (l : List UInt8) (at_ : Nat) (sh : Bool) (w : World) (r : Ending) (w' : World) : Prop :=
  r = .returned (.pointer (some ⟨g, 0, none⟩)) ∧ ∃ (k d a x at2 : Nat) (sh2 : Bool), Frm [g, gt] w w' ∧ TB w' gt vr vl ⟨t.next, t.recs, ⟨k, d, a, x⟩, t.lives⟩ ∧ RgS w' g N l at2 sh2 ∧ ∃ a1 a2 a3 s1 s2 s3, Runs (num 1) l at_ sh k a1 s1 ∧ Runs (num 1) l a1 s1 d a2 s2 ∧ Runs (num 4) l a2 s2 a a3 s3 ∧ Runs (num 4) l a3 s3 x at2 sh2
set_option maxHeartbeats 16000000 in
theorem cursor_pr (g N gt : Nat) (vr vl : Value) (t : Tab) (l : List UInt8) (at0 : Nat) (sh0 : Bool) (w : World) (h : RgS w g N l at0 sh0) (hb : TB w gt vr vl t) (hc : t.cur = zeroC) (hbg : gt ≠ g) (hNb : N ≤ gt) : Calls Tryz.prog 80 #[.pointer (some ⟨g, 0, none⟩), .pointer (some ⟨gt, 2, none⟩)] w (CurO g N gt vr vl t l at0 sh0 w) := by
  have R0 := Lib.hid (h.keep (Frm.refl [] w).drew (by simp))
  have B0 := Lib.hid (hb.keep0 (Frm.refl [] w).drew)
  have F0 := Lib.hid (show Frm [g, gt] w w.drew from ((Frm.refl [] w).drew).mono (by simp))
  have HB := Lib.hid (show gt ≠ g ∧ N ≤ gt from ⟨hbg, hNb⟩)
  have HC := Lib.hid hc
  clear h hb hbg hNb hc
  go_enter Tryz.func80, Tryz.ntmps80
  go_upto_region 1 with (fail)
  refine wp_region_held_drew (S := fun _ => True) (by kernel_rfl) (trivial) (fun hHeld => ?_)
  refine wpAnyH_take (i := 0) (oi := ⟨some 5, .move (.tmp 0), _, _, _, none⟩) (v := ?_) rfl (by kernel_rfl) (by kernel_rfl) (by kernel_rfl) (fun _ _ _ h => h) (Or.inl ⟨by rfl, ?_⟩) hHeld ?_
  rotate_left
  focus (intro z hSw; clear hSw; go_simp; try with_reducible rfl)
  try simp only [Act.put, List.setIfInBounds_toArray, List.set_cons_zero, List.set_cons_succ]
  refine wpAnyH_take (i := 1) (oi := ⟨some 6, .move (.tmp 1), _, _, _, none⟩) (v := ?_) rfl (by kernel_rfl) (by kernel_rfl) (by kernel_rfl) (fun _ _ _ h => h) (Or.inl ⟨by rfl, ?_⟩) hHeld ?_
  rotate_left
  focus (intro z hSw; clear hSw; go_simp; try with_reducible rfl)
  try simp only [Act.put, List.setIfInBounds_toArray, List.set_cons_zero, List.set_cons_succ]
  refine wpAnyH_take (i := 2) (oi := ⟨some 7, .nilCheck (.tmp 6), _, _, _, none⟩) (v := ?_) rfl (by kernel_rfl) (by kernel_rfl) (by kernel_rfl) (fun _ _ _ h => h) (Or.inl ⟨by rfl, ?_⟩) hHeld ?_
  rotate_left
  focus (intro z hSw; clear hSw; go_simp; try with_reducible rfl)
  try simp only [Act.put, List.setIfInBounds_toArray, List.set_cons_zero, List.set_cons_succ]
  refine wpAnyH_take (i := 3) (oi := ⟨some 8, .fieldAddr 24 (.tmp 7) 0, _, _, _, none⟩) (v := ?_) rfl (by kernel_rfl) (by kernel_rfl) (by kernel_rfl) (fun _ _ _ h => h) (Or.inl ⟨by rfl, ?_⟩) hHeld ?_
  rotate_left
  focus (intro z hSw; clear hSw; go_simp; try with_reducible rfl)
  try simp only [Act.put, List.setIfInBounds_toArray, List.set_cons_zero, List.set_cons_succ]
  refine wpAnyH_take (i := 5) (oi := ⟨some 10, .move (.tmp 1), _, _, _, none⟩) (v := ?_) rfl (by kernel_rfl) (by kernel_rfl) (by kernel_rfl) (fun _ _ _ h => h) (Or.inl ⟨by rfl, ?_⟩) hHeld ?_
  rotate_left
  focus (intro z hSw; clear hSw; go_simp; try with_reducible rfl)
  try simp only [Act.put, List.setIfInBounds_toArray, List.set_cons_zero, List.set_cons_succ]
  refine wpAnyH_take (i := 6) (oi := ⟨some 11, .nilCheck (.tmp 10), _, _, _, none⟩) (v := ?_) rfl (by kernel_rfl) (by kernel_rfl) (by kernel_rfl) (fun _ _ _ h => h) (Or.inl ⟨by rfl, ?_⟩) hHeld ?_
  rotate_left
  focus (intro z hSw; clear hSw; go_simp; try with_reducible rfl)
  try simp only [Act.put, List.setIfInBounds_toArray, List.set_cons_zero, List.set_cons_succ]
  refine wpAnyH_take (i := 7) (oi := ⟨some 12, .fieldAddr 24 (.tmp 11) 1, _, _, _, none⟩) (v := ?_) rfl (by kernel_rfl) (by kernel_rfl) (by kernel_rfl) (fun _ _ _ h => h) (Or.inl ⟨by rfl, ?_⟩) hHeld ?_
  rotate_left
  focus (intro z hSw; clear hSw; go_simp; try with_reducible rfl)
  try simp only [Act.put, List.setIfInBounds_toArray, List.set_cons_zero, List.set_cons_succ]
  refine wpAnyH_take (i := 9) (oi := ⟨some 14, .move (.tmp 1), _, _, _, none⟩) (v := ?_) rfl (by kernel_rfl) (by kernel_rfl) (by kernel_rfl) (fun _ _ _ h => h) (Or.inl ⟨by rfl, ?_⟩) hHeld ?_
  rotate_left
  focus (intro z hSw; clear hSw; go_simp; try with_reducible rfl)
  try simp only [Act.put, List.setIfInBounds_toArray, List.set_cons_zero, List.set_cons_succ]
  refine wpAnyH_take (i := 10) (oi := ⟨some 15, .nilCheck (.tmp 14), _, _, _, none⟩) (v := ?_) rfl (by kernel_rfl) (by kernel_rfl) (by kernel_rfl) (fun _ _ _ h => h) (Or.inl ⟨by rfl, ?_⟩) hHeld ?_
  rotate_left
  focus (intro z hSw; clear hSw; go_simp; try with_reducible rfl)
  try simp only [Act.put, List.setIfInBounds_toArray, List.set_cons_zero, List.set_cons_succ]
  refine wpAnyH_take (i := 11) (oi := ⟨some 16, .fieldAddr 24 (.tmp 15) 2, _, _, _, none⟩) (v := ?_) rfl (by kernel_rfl) (by kernel_rfl) (by kernel_rfl) (fun _ _ _ h => h) (Or.inl ⟨by rfl, ?_⟩) hHeld ?_
  rotate_left
  focus (intro z hSw; clear hSw; go_simp; try with_reducible rfl)
  try simp only [Act.put, List.setIfInBounds_toArray, List.set_cons_zero, List.set_cons_succ]
  refine wpAnyH_take (i := 13) (oi := ⟨some 18, .move (.tmp 1), _, _, _, none⟩) (v := ?_) rfl (by kernel_rfl) (by kernel_rfl) (by kernel_rfl) (fun _ _ _ h => h) (Or.inl ⟨by rfl, ?_⟩) hHeld ?_
  rotate_left
  focus (intro z hSw; clear hSw; go_simp; try with_reducible rfl)
  try simp only [Act.put, List.setIfInBounds_toArray, List.set_cons_zero, List.set_cons_succ]
  refine wpAnyH_take (i := 14) (oi := ⟨some 19, .nilCheck (.tmp 18), _, _, _, none⟩) (v := ?_) rfl (by kernel_rfl) (by kernel_rfl) (by kernel_rfl) (fun _ _ _ h => h) (Or.inl ⟨by rfl, ?_⟩) hHeld ?_
  rotate_left
  focus (intro z hSw; clear hSw; go_simp; try with_reducible rfl)
  try simp only [Act.put, List.setIfInBounds_toArray, List.set_cons_zero, List.set_cons_succ]
  refine wpAnyH_take (i := 15) (oi := ⟨some 20, .fieldAddr 24 (.tmp 19) 3, _, _, _, none⟩) (v := ?_) rfl (by kernel_rfl) (by kernel_rfl) (by kernel_rfl) (fun _ _ _ h => h) (Or.inl ⟨by rfl, ?_⟩) hHeld ?_
  rotate_left
  focus (intro z hSw; clear hSw; go_simp; try with_reducible rfl)
  try simp only [Act.put, List.setIfInBounds_toArray, List.set_cons_zero, List.set_cons_succ]
  refine wpAnyH_ready (rs := [4]) (by kernel_rfl) (by simp) ?_
  refine AllReadyH.cons (o := ⟨some 9, .call { callee := .value (.func 148), args := #[.tmp 5, .tmp 8], argTypes := #[98, 101] }, _, _, _, none⟩) rfl (fun K hK => ?_) AllReadyH.nil
  go_simp
  refine (one_pr g N gt 2 _ 27 l at0 sh0 _ R0.out B0.out (by simp [tc, HC.out, zeroC]) HB.out.1 HB.out.2).mono ?_
  rintro r w1 ⟨rfl, f1, t1, r1⟩
  have u1 := Lib.hid (runs_num 1 l at0 sh0 R0.out.le)
  have R1 := Lib.hid r1
  have B1 := Lib.hid (B0.out.toKind t1)
  have F1 := Lib.hid (F0.out.trans f1 (by simp))
  clear f1 t1 r1
  generalize bn (nxt l at0 1 sh0) = n1 at *
  generalize nAt l at0 1 sh0 = at1 at *
  generalize (!okN l at0 1 sh0) = sh1 at *
  refine hK.out _ _ ?_ (fun hNext => ?_)
  · trivial
  clear hK K hHeld
  have hHeld := hNext
  clear hNext
  try simp only [Act.put, List.setIfInBounds_toArray, List.set_cons_zero, List.set_cons_succ]
  refine wpAnyH_ready (rs := [8]) (by kernel_rfl) (by simp) ?_
  refine AllReadyH.cons (o := ⟨some 13, .call { callee := .value (.func 148), args := #[.tmp 9, .tmp 12], argTypes := #[98, 101] }, _, _, _, none⟩) rfl (fun K hK => ?_) AllReadyH.nil
  go_simp
  refine (one_pr g N gt 3 _ 27 l at1 sh1 _ R1.out B1.out (by simp [tc, HC.out, zeroC]) HB.out.1 HB.out.2).mono ?_
  rintro r w2 ⟨rfl, f2, t2, r2⟩
  have u2 := Lib.hid (runs_num 1 l at1 sh1 R1.out.le)
  have R2 := Lib.hid r2
  have B2 := Lib.hid (B1.out.toDev t2)
  have F2 := Lib.hid (F1.out.trans f2 (by simp))
  clear f2 t2 r2
  generalize bn (nxt l at1 1 sh1) = n2 at *
  generalize nAt l at1 1 sh1 = at2 at *
  generalize (!okN l at1 1 sh1) = sh2 at *
  refine hK.out _ _ ?_ (fun hNext => ?_)
  · trivial
  clear hK K hHeld
  have hHeld := hNext
  clear hNext
  try simp only [Act.put, List.setIfInBounds_toArray, List.set_cons_zero, List.set_cons_succ]
  refine wpAnyH_ready (rs := [12]) (by kernel_rfl) (by simp) ?_
  refine AllReadyH.cons (o := ⟨some 17, .call { callee := .value (.func 78), args := #[.tmp 13, .tmp 16], argTypes := #[98, 101] }, _, _, _, none⟩) rfl (fun K hK => ?_) AllReadyH.nil
  go_simp
  refine (four_pr g N gt 4 _ 27 l at2 sh2 _ R2.out B2.out (by simp [tc, HC.out, zeroC]) HB.out.1 HB.out.2).mono ?_
  rintro r w3 ⟨rfl, f3, t3, r3⟩
  have u3 := Lib.hid (runs_num 4 l at2 sh2 R2.out.le)
  have R3 := Lib.hid r3
  have B3 := Lib.hid (B2.out.toAt t3)
  have F3 := Lib.hid (F2.out.trans f3 (by simp))
  clear f3 t3 r3
  generalize bn (nxt l at2 4 sh2) = n3 at *
  generalize nAt l at2 4 sh2 = at3 at *
  generalize (!okN l at2 4 sh2) = sh3 at *
  refine hK.out _ _ ?_ (fun hNext => ?_)
  · trivial
  clear hK K hHeld
  have hHeld := hNext
  clear hNext
  try simp only [Act.put, List.setIfInBounds_toArray, List.set_cons_zero, List.set_cons_succ]
  refine wpAnyH_ready (rs := [16]) (by kernel_rfl) (by simp) ?_
  refine AllReadyH.cons (o := ⟨some 21, .call { callee := .value (.func 78), args := #[.tmp 17, .tmp 20], argTypes := #[98, 101] }, _, _, _, none⟩) rfl (fun K hK => ?_) AllReadyH.nil
  go_simp
  refine (four_pr g N gt 5 _ 27 l at3 sh3 _ R3.out B3.out (by simp [tc, HC.out, zeroC]) HB.out.1 HB.out.2).mono ?_
  rintro r w4 ⟨rfl, f4, t4, r4⟩
  have u4 := Lib.hid (runs_num 4 l at3 sh3 R3.out.le)
  have R4 := Lib.hid r4
  have B4 := Lib.hid (B3.out.toTxg t4)
  have F4 := Lib.hid (F3.out.trans f4 (by simp))
  clear f4 t4 r4
  generalize bn (nxt l at3 4 sh3) = n4 at *
  generalize nAt l at3 4 sh3 = at4 at *
  generalize (!okN l at3 4 sh3) = sh4 at *
  refine hK.out _ _ ?_ (fun hNext => ?_)
  · trivial
  clear hK K hHeld
  have hHeld := hNext
  clear hNext
  try simp only [Act.put, List.setIfInBounds_toArray, List.set_cons_zero, List.set_cons_succ]
  refine wpAnyH_take (i := 17) (oi := ⟨some 4, .assign (.tmp 21), _, _, _, none⟩) (v := ?_) rfl (by kernel_rfl) (by kernel_rfl) (by kernel_rfl) (fun _ _ _ h => h) (Or.inl ⟨by rfl, ?_⟩) hHeld ?_
  rotate_left
  focus (intro z hSw; clear hSw; go_simp; try with_reducible rfl)
  try simp only [Act.put, List.setIfInBounds_toArray, List.set_cons_zero, List.set_cons_succ]
  refine wpAnyH_done (by kernel_rfl) ?_ _
  go_wp2_with (fail)
  go_ret
  exact ⟨rfl, n1, n2, n3, n4, at4, sh4, F4.out, B4.out, R4.out, at1, at2, at3, sh1, sh2, sh3, u1.out, u2.out, u3.out, u4.out⟩
end Go.Proofs.YtljhanhipmnioaaGreat.Rd
