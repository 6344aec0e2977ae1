/-
  Lists of uberblocks as slices: read, told; texts as bytes. No conditions but those that each theorem names.
-/
import Derived.Test.YtjdejhgfkjeeiaaGreatDoorUP
import Derived.Test.YtjdejhgfkjeeiaaGreatDoorMG
import Derived.Test.YtjdejhgfkjeeiaaGreatDoorVI
import Derived.Test.YtjdejhgfkjeeiaaGreatDoorUY
import Derived.Lib.ConvBytes
namespace Go.Proofs.YtjdejhgfkjeeiaaGreatDoor
open Go.RowKit
set_option linter.unusedVariables false
set_option linter.unusedSimpArgs false
set_option maxRecDepth 100000

def entU (u : Ub) : En := (u.txg, packU u)
theorem entU_inj {u v : Ub} (wu : WfU u) (hu : MayU u) (wv : WfU v) (hv : MayU v) (h : entU u = entU v) : u = v := by
  have h2 : packU u = packU v := congrArg Prod.snd h
  rw [← parse_pack wu hu, ← parse_pack wv hv, h2]
/-- An uberblock laid among those that are there, in their order. -/
def insU (u : Ub) : List Ub → List Ub
  | [] => [u]
  | b :: r => if ltE (entU b) (entU u) = true then b :: insU u r else if entU b = entU u then b :: r else u :: b :: r
/-- Those that may be, in their order, each once. -/
def bestU (l : List Ub) : List Ub := (l.filter mayUB).foldl (fun B u => insU u B) []
/-- What all of a list's are. -/
def AllU (l : List Ub) : Prop := ∀ u ∈ l, WfU u
/-- What is told: rising, and each may be. -/
structure Best (l B : List Ub) : Prop where
  ris : Ris (B.map entU)
  mem : ∀ x, x ∈ B ↔ x ∈ l ∧ MayU x
theorem insU_mem {u : Ub} (wu : WfU u) (hu : MayU u) : ∀ {B : List Ub}, (∀ b ∈ B, WfU b ∧ MayU b) → ∀ x, x ∈ insU u B ↔ x = u ∨ x ∈ B
  | [], _, x => by simp [insU]
  | b :: r, h, x => by
    have ih := insU_mem wu hu (fun c hc => h c (List.mem_cons_of_mem _ hc)) x
    unfold insU
    by_cases h1 : ltE (entU b) (entU u) = true
    · rw [if_pos h1]; simp only [List.mem_cons, ih]
      constructor
      · rintro (h | h | h) <;> simp [h]
      · rintro (h | h | h) <;> simp [h]
    · rw [if_neg h1]
      by_cases h2 : entU b = entU u
      · rw [if_pos h2]
        have := entU_inj (h b (by simp)).1 (h b (by simp)).2 wu hu h2
        subst this
        simp
      · rw [if_neg h2]; simp
theorem insU_ris {u : Ub} : ∀ {B : List Ub}, Ris (B.map entU) → Ris ((insU u B).map entU) ∧ ∀ e, e ∈ (insU u B).map entU → e = entU u ∨ e ∈ B.map entU
  | [], _ => ⟨List.pairwise_singleton _ _, fun e h => by simpa [insU] using h⟩
  | b :: r, h => by
    obtain ⟨a1, a2⟩ := List.pairwise_cons.1 h
    obtain ⟨i1, i2⟩ := insU_ris (u := u) a2
    unfold insU
    by_cases h1 : ltE (entU b) (entU u) = true
    · rw [if_pos h1]
      refine ⟨?_, fun e he => ?_⟩
      · rw [List.map_cons]
        refine List.pairwise_cons.2 ⟨fun e he => ?_, i1⟩
        rcases i2 e he with rfl | he
        · exact h1
        · exact a1 e he
      · rw [List.map_cons] at he ⊢
        rcases List.mem_cons.1 he with he | he
        · exact .inr (by rw [he]; exact List.mem_cons_self)
        · rcases i2 e he with he | he
          · exact .inl he
          · exact .inr (List.mem_cons_of_mem _ he)
    · rw [if_neg h1]
      by_cases h2 : entU b = entU u
      · rw [if_pos h2]; exact ⟨h, fun e he => .inr he⟩
      · rw [if_neg h2]
        have hub : ltE (entU u) (entU b) = true := by
          cases hb : ltE (entU u) (entU b) with
          | true => rfl
          | false => exact absurd (ltE_tri (by simpa using h1) hb) h2
        refine ⟨?_, fun e he => ?_⟩
        · rw [List.map_cons, List.map_cons]
          refine List.pairwise_cons.2 ⟨fun e he => ?_, h⟩
          rcases List.mem_cons.1 he with rfl | he
          · exact hub
          · exact ltE_trans hub (a1 e he)
        · rw [List.map_cons] at he
          rcases List.mem_cons.1 he with he | he
          · exact .inl he
          · exact .inr he
theorem bestU_best : ∀ (m : List Ub) (l B : List Ub), AllU m → (∀ b ∈ B, WfU b ∧ MayU b) → Best l B → Best (l ++ m) ((m.filter mayUB).foldl (fun B u => insU u B) B)
  | [], l, B, _, _, h => by simpa using h
  | u :: m, l, B, hw, hB, h => by
    have e : l ++ u :: m = (l ++ [u]) ++ m := by simp
    rw [e]
    cases hm : mayUB u with
    | false =>
      rw [List.filter_cons_of_neg (by simp [hm])]
      refine bestU_best m (l ++ [u]) B (fun x hx => hw x (List.mem_cons_of_mem _ hx)) hB ⟨h.ris, fun x => ?_⟩
      rw [h.mem]
      have := mayUB_no.1 hm
      constructor
      · rintro ⟨h1, h2⟩; exact ⟨List.mem_append_left _ h1, h2⟩
      · rintro ⟨h1, h2⟩
        rcases List.mem_append.1 h1 with h1 | h1
        · exact ⟨h1, h2⟩
        · simp at h1; subst h1; exact absurd h2 this
    | true =>
      rw [List.filter_cons_of_pos (by simp [hm]), List.foldl_cons]
      have hu := mayUB_iff.1 hm
      have wu := hw u (by simp)
      have hmem := insU_mem wu hu hB
      refine bestU_best m (l ++ [u]) (insU u B) (fun x hx => hw x (List.mem_cons_of_mem _ hx)) (fun b hb => ?_) ⟨(insU_ris h.ris).1, fun x => ?_⟩
      · rcases (hmem b).1 hb with rfl | hb
        · exact ⟨wu, hu⟩
        · exact hB b hb
      · rw [hmem, h.mem]
        constructor
        · rintro (rfl | ⟨h1, h2⟩)
          · exact ⟨by simp, hu⟩
          · exact ⟨List.mem_append_left _ h1, h2⟩
        · rintro ⟨h1, h2⟩
          rcases List.mem_append.1 h1 with h1 | h1
          · exact .inr ⟨h1, h2⟩
          · simp at h1; exact .inl h1
theorem best_bestU {l : List Ub} (h : AllU l) : Best l (bestU l) := by
  have := bestU_best l [] [] h (fun b hb => by cases hb) ⟨List.Pairwise.nil, fun x => by simp⟩
  simpa [bestU] using this
theorem map_back {B : List Ub} (h : ∀ u ∈ B, WfU u ∧ MayU u) : (B.map entU).map (fun e => parse e.2) = B := by
  rw [List.map_map]
  conv => rhs; rw [← List.map_id B]
  refine List.map_congr_left fun u hu => ?_
  exact parse_pack (h u hu).1 (h u hu).2
theorem Best.all {l B : List Ub} (hl : AllU l) (h : Best l B) : ∀ u ∈ B, WfU u ∧ MayU u := fun u hu => ⟨hl u ((h.mem u).1 hu).1, ((h.mem u).1 hu).2⟩
/-- There is one such answer. -/
theorem Best.eq {l B : List Ub} (hl : AllU l) (h : Best l B) : B = bestU l := by
  have h2 := best_bestU hl
  have e : B.map entU = (bestU l).map entU := by
    refine ris_eq h.ris h2.ris (fun x => ?_)
    simp only [List.mem_map]
    constructor
    · rintro ⟨u, hu, rfl⟩; exact ⟨u, (h2.mem u).2 ((h.mem u).1 hu), rfl⟩
    · rintro ⟨u, hu, rfl⟩; exact ⟨u, (h.mem u).2 ((h2.mem u).1 hu), rfl⟩
  rw [← map_back (h.all hl), ← map_back (h2.all hl), e]
/-- The slot of a commit. -/
def slotN (txg : Int) : Int := if txg < 1 ∨ 2147483648 < txg then 0 else 1 + txg % 4
def slotB (txg : Int) : Bool := !(decide (txg < 1) || decide (2147483648 < txg))
theorem slotN_may {u : Ub} (h : MayU u) : slotN u.txg = 1 + u.txg % 4 := by
  unfold slotN; rw [if_neg (by have := h.t1; have := h.t2; omega)]
/-- Does an uberblock of a pool stand in the i-th slot, and what is told of them all. -/
def stands (pool : List UInt8) (i : Nat) (b : List UInt8) : Bool := ((unp b).2 == 0) && (((unp b).1.pool == pool) && (((1 + i : Nat) : Int) == slotN (unp b).1.txg))
def rowAt (l : List (List UInt8)) (i : Nat) : List UInt8 := l.getD i []
theorem rowAt_eq {l : List (List UInt8)} {i : Nat} (h : i < l.length) : rowAt l i = l[i] := by simp [rowAt, List.getD, List.getElem?_eq_getElem h]
def fndAt (pool : List UInt8) (l : List (List UInt8)) (i : Nat) : Option Ub := if stands pool i (rowAt l i) = true then some (unp (rowAt l i)).1 else none
def fnd (pool : List UInt8) (l : List (List UInt8)) (k : Nat) : List Ub := (List.range k).filterMap (fndAt pool l)
theorem fnd_yes {pool : List UInt8} {l : List (List UInt8)} {k : Nat} (h : stands pool k (rowAt l k) = true) : fnd pool l (k + 1) = fnd pool l k ++ [(unp (rowAt l k)).1] := by
  simp [fnd, List.range_succ, fndAt, h]
theorem fnd_no {pool : List UInt8} {l : List (List UInt8)} {k : Nat} (h : stands pool k (rowAt l k) = false) : fnd pool l (k + 1) = fnd pool l k := by
  simp [fnd, List.range_succ, fndAt, h]
theorem fnd_len (pool : List UInt8) (l : List (List UInt8)) (k : Nat) : (fnd pool l k).length ≤ k := by
  have := List.length_filterMap_le (fndAt pool l) (List.range k)
  simpa [fnd] using this
def foundU (pool : List UInt8) (l : List (List UInt8)) : List Ub := if l.length = 4 then fnd pool l 4 else []
def foundE (l : List (List UInt8)) : Int := if l.length = 4 then 0 else 2
/-- How many of some rows of bytes are not all noughts. -/
def usedB (b : List UInt8) : Bool := b.any (· != 0)
def usd (l : List (List UInt8)) (k : Nat) : Nat := ((List.range k).filter (fun i => usedB (rowAt l i))).length
theorem usd_yes {l : List (List UInt8)} {k : Nat} (h : usedB (rowAt l k) = true) : usd l (k + 1) = usd l k + 1 := by simp [usd, List.range_succ, h]
theorem usd_no {l : List (List UInt8)} {k : Nat} (h : usedB (rowAt l k) = false) : usd l (k + 1) = usd l k := by simp [usd, List.range_succ, h]
theorem usd_le (l : List (List UInt8)) (k : Nat) : usd l k ≤ k := by
  have := List.length_filter_le (fun i => usedB (rowAt l i)) (List.range k)
  simpa [usd] using this
def usedN (l : List (List UInt8)) : Int := if l.length = 4 then (usd l 4 : Int) else 0
end Go.Proofs.YtjdejhgfkjeeiaaGreatDoor

namespace Go.Proofs.YtjdejhgfkjeeiaaGreatDoor
open Go.RowKit
set_option linter.unusedVariables false
set_option linter.unusedSimpArgs false
set_option maxRecDepth 100000

open Pt (Pt may enc readPt readE zeroPt pc pv PtV SlA OwnA)
open Kr (OwnE SlE Enco RowTys)
/-- A row that is an uberblock. -/
def RowV (w : World) (r : RowT) (u : Ub) : Prop := ∃ a cap sp, r.1 = uc (.slice a u.root.ads.length cap) u ∧ SlA w (.slice a u.root.ads.length cap) u.root.ads sp ∧ WfU u
/-- A slice that is a list of uberblocks. -/
def Us (w : World) (v : Value) (l : List Ub) : Prop := ∃ rs sp, SlE eR 69 w v rs sp ∧ rs.length = l.length ∧ ∀ (i : Nat) r u, rs[i]? = some r → l[i]? = some u → RowV w r u
theorem Us.keep0 {w w' : World} {v : Value} {l : List Ub} (h : Us w v l) (f : Frm [] w w') : Us w' v l := by
  obtain ⟨rs, sp, hs, hl, hr⟩ := h
  refine ⟨rs, sp, hs.keep0 f, hl, fun i r u h1 h2 => ?_⟩
  obtain ⟨a, cap, s, e, hA, hw⟩ := hr i r u h1 h2
  exact ⟨a, cap, s, e, hA.keep f (by simp), hw⟩
theorem Us.form {w : World} {v : Value} {l : List Ub} (h : Us w v l) : ∃ a cap, v = .slice a l.length cap := by
  obtain ⟨rs, sp, hs, hl, hr⟩ := h
  obtain ⟨a, cap, e, _, _⟩ := hs.form
  exact ⟨a, cap, by rw [← hl]; exact e⟩
theorem Us.at {w : World} {v : Value} {l : List Ub} (h : Us w v l) (hp : 0 < l.length) : ∃ b off cap, v = .slice (some ⟨b, off, none⟩) l.length cap := by
  obtain ⟨a, cap, rfl⟩ := h.form
  obtain ⟨rs, sp, hs, hl, hr⟩ := h
  obtain ⟨b, off, rfl⟩ := hs.at (by omega)
  exact ⟨b, off, cap, rfl⟩
theorem Us.wf {w : World} {v : Value} {l : List Ub} (h : Us w v l) : AllU l := fun u hu => by
  obtain ⟨rs, sp, hs, hl, hr⟩ := h
  obtain ⟨i, hi, rfl⟩ := List.getElem_of_mem hu
  obtain ⟨a, cap, s, e, hA, hw⟩ := hr i (rs[i]'(by omega)) l[i] (List.getElem?_eq_getElem _) (List.getElem?_eq_getElem _)
  exact hw
theorem Us.nil (w : World) : Us w (.slice none 0 0) [] := ⟨[], [], SlE.nil _ _ _, rfl, fun i r u h => by simp at h⟩
/-- An element, loaded whole. -/
theorem Us.load {w : World} {b off n cap : Nat} {l : List Ub} (h : Us w (.slice (some ⟨b, off, none⟩) n cap) l) (i : Nat) (hi : i < l.length) :
    ∃ a c, (Instr.loadAt 28 (.pointer (some ⟨b, off + i * 69, none⟩))).run Tryz.prog w = .ok (uv (.slice a (l[i]).root.ads.length c) l[i]) w ∧ UbV w (uv (.slice a (l[i]).root.ads.length c) l[i]) l[i] ∧
      w.cell? ⟨b, off + i * 69, none⟩ = some (.int .i64 (l[i]).txg) ∧ w.cell? ⟨b, off + i * 69 + 1, none⟩ = some (.slice a (l[i]).root.ads.length c) := by
  obtain ⟨rs, sp, hs, hl, hr⟩ := h
  have hi2 : i < rs.length := by omega
  obtain ⟨a, c, s, e, hA, hw⟩ := hr i rs[i] l[i] (List.getElem?_eq_getElem _) (List.getElem?_eq_getElem _)
  have hc : ∀ j u, (uc (.slice a (l[i]).root.ads.length c) l[i])[j]? = some u → w.cell? ⟨b, off + i * 69 + j, none⟩ = some u := fun j u hu => by
    have := SlE.cell encR hs i hi2 j (u := u) (by rw [show eR rs[i] = (rs[i]).1 from rfl, e]; exact hu)
    rw [Nat.add_assoc]; exact this
  refine ⟨a, c, ?_, ⟨a, c, s, rfl, hA, hw⟩, hc 0 _ rfl, hc 1 _ rfl⟩
  obtain ⟨d, h1, h2⟩ := Option.map_eq_some_iff.1 d28
  exact run_loadAt_mid w b (off + i * 69) 28 _ d (fun j u hu => hc j u hu) h1 h2 (by rw [i28, uc_length hw])
/-- The blocks of a row's addresses. -/
def rb (r : RowT) : List Nat := match r.1[1]? with
  | some v => blk v
  | none => []
theorem rb_uc {r : RowT} {v : Value} {u : Ub} (h : r.1 = uc v u) : rb r = blk v := by unfold rb; rw [h]; rfl
def RowO (w : World) (r : RowT) (u : Ub) : Prop := ∃ a cap sp, r.1 = uc (.slice a u.root.ads.length cap) u ∧ OwnA 47 w (.slice a u.root.ads.length cap) u.root.ads sp ∧ WfU u
theorem RowO.v {w : World} {r : RowT} {u : Ub} (h : RowO w r u) : RowV w r u := by
  obtain ⟨a, cap, sp, e, hA, hw⟩ := h
  exact ⟨a, cap, sp, e, hA.sl, hw⟩
theorem RowO.lt {w : World} {r : RowT} {u : Ub} (h : RowO w r u) : ∀ i ∈ rb r, i < w.heap.size := by
  obtain ⟨a, cap, sp, e, hA, hw⟩ := h
  rw [rb_uc e]; exact hA.lt
theorem RowO.keep {w w' : World} {r : RowT} {u : Ub} {L : List Nat} (h : RowO w r u) (f : Frm L w w') (hL : ∀ i ∈ rb r, i ∉ L) : RowO w' r u := by
  obtain ⟨a, cap, sp, e, hA, hw⟩ := h
  rw [rb_uc e] at hL
  exact ⟨a, cap, sp, e, hA.keep f hL, hw⟩
/-- A list of uberblocks that a call has told since a world; B: all its blocks. -/
structure Tl (w0 w : World) (v : Value) (l : List Ub) (rs : List RowT) (B : List Nat) : Prop where
  own : ∃ sp, OwnE eR 69 28 w v rs sp
  len : rs.length = l.length
  row : ∀ (i : Nat) r u, rs[i]? = some r → l[i]? = some u → RowO w r u
  sep : ∀ (i j : Nat) r s, i ≠ j → rs[i]? = some r → rs[j]? = some s → ∀ k ∈ rb r, k ∉ rb s
  vsep : ∀ (i : Nat) r, rs[i]? = some r → ∀ k ∈ rb r, k ∉ blk v
  inv : ∀ k ∈ blk v, k ∈ B
  inr : ∀ (i : Nat) r, rs[i]? = some r → ∀ k ∈ rb r, k ∈ B
  lo : ∀ k ∈ B, w0.heap.size ≤ k ∧ k < w.heap.size
theorem Tl.nil (w : World) : Tl w w (.slice none 0 0) [] [] [] := ⟨⟨[], OwnE.nil _ _ _ _⟩, rfl, fun i r u h => by simp at h, fun i j r s _ h => by simp at h, fun i r h => by simp at h, by simp [blk], fun i r h => by simp at h, fun k h => by cases h⟩
theorem Tl.us {w0 w : World} {v : Value} {l : List Ub} {rs : List RowT} {B : List Nat} (h : Tl w0 w v l rs B) : Us w v l := by
  obtain ⟨sp, ho⟩ := h.own
  exact ⟨rs, sp, ho.sl, h.len, fun i r u h1 h2 => (h.row i r u h1 h2).v⟩
theorem Tl.form {w0 w : World} {v : Value} {l : List Ub} {rs : List RowT} {B : List Nat} (h : Tl w0 w v l rs B) : ∃ a cap, v = .slice a l.length cap := h.us.form
theorem Tl.keep {w0 w w' : World} {v : Value} {l : List Ub} {rs : List RowT} {B L : List Nat} (h : Tl w0 w v l rs B) (f : Frm L w w') (hL : ∀ i ∈ L, i ∉ B) : Tl w0 w' v l rs B := by
  obtain ⟨sp, ho⟩ := h.own
  exact ⟨⟨sp, ho.keep f (fun k hk hm => hL k hm (h.inv k hk))⟩, h.len, fun i r u h1 h2 => (h.row i r u h1 h2).keep f (fun k hk hm => hL k hm (h.inr i r h1 k hk)), h.sep, h.vsep, h.inv, h.inr, fun k hk => ⟨(h.lo k hk).1, Nat.lt_of_lt_of_le (h.lo k hk).2 f.size⟩⟩
theorem Tl.keep0 {w0 w w' : World} {v : Value} {l : List Ub} {rs : List RowT} {B : List Nat} (h : Tl w0 w v l rs B) (f : Frm [] w w') : Tl w0 w' v l rs B := h.keep f (fun i hi => by cases hi)
/-- With an older base. -/
theorem Tl.base {w0 w1 w : World} {v : Value} {l : List Ub} {rs : List RowT} {B : List Nat} (h : Tl w1 w v l rs B) (hs : w0.heap.size ≤ w1.heap.size) : Tl w0 w v l rs B :=
  ⟨h.own, h.len, h.row, h.sep, h.vsep, h.inv, h.inr, fun k hk => ⟨Nat.le_trans hs (h.lo k hk).1, (h.lo k hk).2⟩⟩
/-- One more: a row whose addresses are newer than all that was there. -/
theorem Tl.more {w0 w w' : World} {v v' : Value} {l : List Ub} {rs : List RowT} {B : List Nat} {x : RowT} {u : Ub} {sp : List Value} (h : Tl w0 w v l rs B) (f : Frm (blk v) w w') (ho : OwnE eR 69 28 w' v' (rs ++ [x]) sp) (hn : ∀ i ∈ blk v', i ∈ blk v ∨ w.heap.size ≤ i)
    (hx : RowO w x u) (hxn : ∀ k ∈ rb x, k ∉ B) (hx0 : ∀ k ∈ rb x, w0.heap.size ≤ k) (h0 : w0.heap.size ≤ w.heap.size) : Tl w0 w' v' (l ++ [u]) (rs ++ [x]) (rb x ++ blk v' ++ B) := by
  have hrow : ∀ (i : Nat) r, (rs ++ [x])[i]? = some r → (rs[i]? = some r ∧ i < rs.length) ∨ (i = rs.length ∧ r = x) := fun i r hr => by
    rcases Nat.lt_or_ge i rs.length with hi | hi
    · rw [List.getElem?_append_left hi] at hr; exact .inl ⟨hr, hi⟩
    · rw [List.getElem?_append_right hi] at hr
      rcases Nat.eq_or_lt_of_le hi with e | e
      · subst e; simp at hr; exact .inr ⟨rfl, hr.symm⟩
      · rw [List.getElem?_eq_none (by simp; omega)] at hr; cases hr
  have hxv : ∀ k ∈ rb x, k ∉ blk v := fun k hk hm => hxn k hk (h.inv k hm)
  refine ⟨⟨sp, ho⟩, by simp [h.len], fun i r u2 h1 h2 => ?_, fun i j r s hij h1 h2 k hk hm => ?_, fun i r h1 k hk hm => ?_, fun k hk => by simp [hk], fun i r h1 k hk => ?_, fun k hk => ?_⟩
  · rcases hrow i r h1 with ⟨h3, hi⟩ | ⟨rfl, rfl⟩
    · rw [List.getElem?_append_left (by have := h.len; omega)] at h2
      exact (h.row i r u2 h3 h2).keep f (fun k hk => h.vsep i r h3 k hk)
    · rw [h.len] at h2
      simp at h2
      subst h2
      exact hx.keep f hxv
  · rcases hrow i r h1 with ⟨h3, hi⟩ | ⟨rfl, rfl⟩ <;> rcases hrow j s h2 with ⟨h4, hj⟩ | ⟨rfl, rfl⟩
    · exact h.sep i j r s hij h3 h4 k hk hm
    · exact hxn k hm (h.inr i r h3 k hk)
    · exact hxn k hk (h.inr j s h4 k hm)
    · exact hij rfl
  · rcases hrow i r h1 with ⟨h3, hi⟩ | ⟨rfl, rfl⟩
    · rcases hn k hm with q | q
      · exact h.vsep i r h3 k hk q
      · have := (h.lo k (h.inr i r h3 k hk)).2; omega
    · rcases hn k hm with q | q
      · exact hxv k hk q
      · have := hx.lt k hk; omega
  · rcases hrow i r h1 with ⟨h3, hi⟩ | ⟨rfl, rfl⟩
    · simp [h.inr i r h3 k hk]
    · simp [hk]
  · simp only [List.mem_append] at hk
    rcases hk with (hk | hk) | hk
    · exact ⟨hx0 k hk, Nat.lt_of_lt_of_le (hx.lt k hk) f.size⟩
    · have hlt := ho.lt k hk
      rcases hn k hk with q | q
      · exact ⟨(h.lo k (h.inv k q)).1, hlt⟩
      · exact ⟨Nat.le_trans h0 q, hlt⟩
    · exact ⟨(h.lo k hk).1, Nat.lt_of_lt_of_le (h.lo k hk).2 f.size⟩
/-- A text as bytes. -/
theorem conv_str (w : World) (l : List UInt8) (hl : l.length ≤ 1000000) : ∃ w' cap sp, (convert 9 32 (.string (sB l))).run Tryz.prog w = .ok (.slice (some ⟨w.heap.size, 0, none⟩) l.length cap) w' ∧ SlB w' (.slice (some ⟨w.heap.size, 0, none⟩) l.length cap) l sp ∧ Frm [] w w' := by
  have hr := Lib.run_convert_string_bytes (P := Tryz.prog) w 9 32 5 (sB l) Tryz.underlying9 Tryz.underlying32 Tryz.underlying5
  have hsz : (sB l).size = l.length := by simp [sB, ByteArray.size]
  rw [hsz] at hr
  have hge := grownCap_ge w l.length 0 5
  have hm := grownCap_le_maxLen w l.length 0 5 (by simp only [maxLen]; omega)
  have hnew := Lib.bytesWorld_at_new w 5 (sB l)
  refine ⟨_, _, List.replicate (grownCap w l.length 0 5 - l.length) 0, hr, ⟨by rw [bvs_length, Nat.mul_one], .inr (.inr ⟨w.heap.size, 0, _, rfl, hge, hm, ?_, fun i u hu => ?_⟩)⟩, ⟨rfl, rfl, rfl, by rw [Lib.bytesWorld_size]; omega, fun k hk _ => Lib.bytesWorld_at_old w 5 (sB l) k hk⟩⟩
  · rw [← bvs_append, bvs_length]; simp; omega
  · rw [cell_of_heap hnew, Nat.zero_add]
    have hcells : Lib.bytesCells w 5 (sB l) = (bvs l ++ bvs (List.replicate (grownCap w l.length 0 5 - l.length) 0)).toArray := by
      apply Array.ext'
      simp [Lib.bytesCells, sB, bvs, bv, ByteArray.size, Array.toList_replicate]
    rw [hcells, List.getElem?_toArray]
    exact hu
end Go.Proofs.YtjdejhgfkjeeiaaGreatDoor
