/-
  Lists of uberblocks as slices: read, told; texts as bytes. No conditions but those that each theorem names.
-/
import Derived.Test.YtjdejhgfkjeeiaaGreatDoorVI
import Derived.Test.YtjdejhgfkjeeiaaGreatDoorUY
import Derived.Test.YtjdejhgfkjeeiaaGreatDoorGQ
import Derived.Test.YtjdejhgfkjeeiaaGreatDoorGX
import Derived.Lib.ConvBytes
namespace Go.Proofs.YtjdejhgfkjeeiaaGreatDoor
open Go.RowKit
set_option linter.unusedVariables false
set_option linter.unusedSimpArgs false
set_option maxRecDepth 100000

open Pt (Pt may enc readPt readE zeroPt pc pv PtV SlA OwnA)
open Kr (OwnE SlE Enco RowTys)
/-- A row that is an uberblock. -/
def RowV (w : World) (r : RowT) (u : Ub) : Prop := ∃ a cap sp, r.1 = uc (.slice a u.root.ads.length cap) u ∧ SlA w (.slice a u.root.ads.length cap) u.root.ads sp ∧ WfU u
/-- A slice that is a list of uberblocks. -/
def Us (w : World) (v : Value) (l : List Ub) : Prop := ∃ rs sp, SlE eR 69 w v rs sp ∧ rs.length = l.length ∧ ∀ (i : Nat) r u, rs[i]? = some r → l[i]? = some u → RowV w r u
theorem Us.keep0 {w w' : World} {v : Value} {l : List Ub} (h : Us w v l) (f : Frm [] w w') : Us w' v l := by
  obtain ⟨rs, sp, hs, hl, hr⟩ := h
  refine ⟨rs, sp, hs.keep0 f, hl, fun i r u h1 h2 => ?_⟩
  obtain ⟨a, cap, s, e, hA, hw⟩ := hr i r u h1 h2
  exact ⟨a, cap, s, e, hA.keep f (by simp), hw⟩
theorem Us.form {w : World} {v : Value} {l : List Ub} (h : Us w v l) : ∃ a cap, v = .slice a l.length cap := by
  obtain ⟨rs, sp, hs, hl, hr⟩ := h
  obtain ⟨a, cap, e, _, _⟩ := hs.form
  exact ⟨a, cap, by rw [← hl]; exact e⟩
theorem Us.at {w : World} {v : Value} {l : List Ub} (h : Us w v l) (hp : 0 < l.length) : ∃ b off cap, v = .slice (some ⟨b, off, none⟩) l.length cap := by
  obtain ⟨a, cap, rfl⟩ := h.form
  obtain ⟨rs, sp, hs, hl, hr⟩ := h
  obtain ⟨b, off, rfl⟩ := hs.at (by omega)
  exact ⟨b, off, cap, rfl⟩
theorem Us.wf {w : World} {v : Value} {l : List Ub} (h : Us w v l) : AllU l := fun u hu => by
  obtain ⟨rs, sp, hs, hl, hr⟩ := h
  obtain ⟨i, hi, rfl⟩ := List.getElem_of_mem hu
  obtain ⟨a, cap, s, e, hA, hw⟩ := hr i (rs[i]'(by omega)) l[i] (List.getElem?_eq_getElem _) (List.getElem?_eq_getElem _)
  exact hw
theorem Us.nil (w : World) : Us w (.slice none 0 0) [] := ⟨[], [], SlE.nil _ _ _, rfl, fun i r u h => by simp at h⟩
/-- An element, loaded whole. -/
theorem Us.load {w : World} {b off n cap : Nat} {l : List Ub} (h : Us w (.slice (some ⟨b, off, none⟩) n cap) l) (i : Nat) (hi : i < l.length) :
    ∃ a c, (Instr.loadAt 28 (.pointer (some ⟨b, off + i * 69, none⟩))).run Tryz.prog w = .ok (uv (.slice a (l[i]).root.ads.length c) l[i]) w ∧ UbV w (uv (.slice a (l[i]).root.ads.length c) l[i]) l[i] ∧
      w.cell? ⟨b, off + i * 69, none⟩ = some (.int .i64 (l[i]).txg) ∧ w.cell? ⟨b, off + i * 69 + 1, none⟩ = some (.slice a (l[i]).root.ads.length c) := by
  obtain ⟨rs, sp, hs, hl, hr⟩ := h
  have hi2 : i < rs.length := by omega
  obtain ⟨a, c, s, e, hA, hw⟩ := hr i rs[i] l[i] (List.getElem?_eq_getElem _) (List.getElem?_eq_getElem _)
  have hc : ∀ j u, (uc (.slice a (l[i]).root.ads.length c) l[i])[j]? = some u → w.cell? ⟨b, off + i * 69 + j, none⟩ = some u := fun j u hu => by
    have := SlE.cell encR hs i hi2 j (u := u) (by rw [show eR rs[i] = (rs[i]).1 from rfl, e]; exact hu)
    rw [Nat.add_assoc]; exact this
  refine ⟨a, c, ?_, ⟨a, c, s, rfl, hA, hw⟩, hc 0 _ rfl, hc 1 _ rfl⟩
  obtain ⟨d, h1, h2⟩ := Option.map_eq_some_iff.1 d28
  exact run_loadAt_mid w b (off + i * 69) 28 _ d (fun j u hu => hc j u hu) h1 h2 (by rw [i28, uc_length hw])
/-- The blocks of a row's addresses. -/
def rb (r : RowT) : List Nat := match r.1[1]? with
  | some v => blk v
  | none => []
theorem rb_uc {r : RowT} {v : Value} {u : Ub} (h : r.1 = uc v u) : rb r = blk v := by unfold rb; rw [h]; rfl
def RowO (w : World) (r : RowT) (u : Ub) : Prop := ∃ a cap sp, r.1 = uc (.slice a u.root.ads.length cap) u ∧ OwnA 47 w (.slice a u.root.ads.length cap) u.root.ads sp ∧ WfU u
theorem RowO.v {w : World} {r : RowT} {u : Ub} (h : RowO w r u) : RowV w r u := by
  obtain ⟨a, cap, sp, e, hA, hw⟩ := h
  exact ⟨a, cap, sp, e, hA.sl, hw⟩
theorem RowO.lt {w : World} {r : RowT} {u : Ub} (h : RowO w r u) : ∀ i ∈ rb r, i < w.heap.size := by
  obtain ⟨a, cap, sp, e, hA, hw⟩ := h
  rw [rb_uc e]; exact hA.lt
theorem RowO.keep {w w' : World} {r : RowT} {u : Ub} {L : List Nat} (h : RowO w r u) (f : Frm L w w') (hL : ∀ i ∈ rb r, i ∉ L) : RowO w' r u := by
  obtain ⟨a, cap, sp, e, hA, hw⟩ := h
  rw [rb_uc e] at hL
  exact ⟨a, cap, sp, e, hA.keep f hL, hw⟩
/-- A list of uberblocks that a call has told since a world; B: all its blocks. -/
structure Tl (w0 w : World) (v : Value) (l : List Ub) (rs : List RowT) (B : List Nat) : Prop where
  own : ∃ sp, OwnE eR 69 28 w v rs sp
  len : rs.length = l.length
  row : ∀ (i : Nat) r u, rs[i]? = some r → l[i]? = some u → RowO w r u
  sep : ∀ (i j : Nat) r s, i ≠ j → rs[i]? = some r → rs[j]? = some s → ∀ k ∈ rb r, k ∉ rb s
  vsep : ∀ (i : Nat) r, rs[i]? = some r → ∀ k ∈ rb r, k ∉ blk v
  inv : ∀ k ∈ blk v, k ∈ B
  inr : ∀ (i : Nat) r, rs[i]? = some r → ∀ k ∈ rb r, k ∈ B
  lo : ∀ k ∈ B, w0.heap.size ≤ k ∧ k < w.heap.size
theorem Tl.nil (w : World) : Tl w w (.slice none 0 0) [] [] [] := ⟨⟨[], OwnE.nil _ _ _ _⟩, rfl, fun i r u h => by simp at h, fun i j r s _ h => by simp at h, fun i r h => by simp at h, by simp [blk], fun i r h => by simp at h, fun k h => by cases h⟩
theorem Tl.us {w0 w : World} {v : Value} {l : List Ub} {rs : List RowT} {B : List Nat} (h : Tl w0 w v l rs B) : Us w v l := by
  obtain ⟨sp, ho⟩ := h.own
  exact ⟨rs, sp, ho.sl, h.len, fun i r u h1 h2 => (h.row i r u h1 h2).v⟩
theorem Tl.form {w0 w : World} {v : Value} {l : List Ub} {rs : List RowT} {B : List Nat} (h : Tl w0 w v l rs B) : ∃ a cap, v = .slice a l.length cap := h.us.form
theorem Tl.keep {w0 w w' : World} {v : Value} {l : List Ub} {rs : List RowT} {B L : List Nat} (h : Tl w0 w v l rs B) (f : Frm L w w') (hL : ∀ i ∈ L, i ∉ B) : Tl w0 w' v l rs B := by
  obtain ⟨sp, ho⟩ := h.own
  exact ⟨⟨sp, ho.keep f (fun k hk hm => hL k hm (h.inv k hk))⟩, h.len, fun i r u h1 h2 => (h.row i r u h1 h2).keep f (fun k hk hm => hL k hm (h.inr i r h1 k hk)), h.sep, h.vsep, h.inv, h.inr, fun k hk => ⟨(h.lo k hk).1, Nat.lt_of_lt_of_le (h.lo k hk).2 f.size⟩⟩
theorem Tl.keep0 {w0 w w' : World} {v : Value} {l : List Ub} {rs : List RowT} {B : List Nat} (h : Tl w0 w v l rs B) (f : Frm [] w w') : Tl w0 w' v l rs B := h.keep f (fun i hi => by cases hi)
/-- With an older base. -/
theorem Tl.base {w0 w1 w : World} {v : Value} {l : List Ub} {rs : List RowT} {B : List Nat} (h : Tl w1 w v l rs B) (hs : w0.heap.size ≤ w1.heap.size) : Tl w0 w v l rs B :=
  ⟨h.own, h.len, h.row, h.sep, h.vsep, h.inv, h.inr, fun k hk => ⟨Nat.le_trans hs (h.lo k hk).1, (h.lo k hk).2⟩⟩
/-- One more: a row whose addresses are newer than all that was there. -/
theorem Tl.more {w0 w w' : World} {v v' : Value} {l : List Ub} {rs : List RowT} {B : List Nat} {x : RowT} {u : Ub} {sp : List Value} (h : Tl w0 w v l rs B) (f : Frm (blk v) w w') (ho : OwnE eR 69 28 w' v' (rs ++ [x]) sp) (hn : ∀ i ∈ blk v', i ∈ blk v ∨ w.heap.size ≤ i)
    (hx : RowO w x u) (hxn : ∀ k ∈ rb x, k ∉ B) (hx0 : ∀ k ∈ rb x, w0.heap.size ≤ k) (h0 : w0.heap.size ≤ w.heap.size) : Tl w0 w' v' (l ++ [u]) (rs ++ [x]) (rb x ++ blk v' ++ B) := by
  have hrow : ∀ (i : Nat) r, (rs ++ [x])[i]? = some r → (rs[i]? = some r ∧ i < rs.length) ∨ (i = rs.length ∧ r = x) := fun i r hr => by
    rcases Nat.lt_or_ge i rs.length with hi | hi
    · rw [List.getElem?_append_left hi] at hr; exact .inl ⟨hr, hi⟩
    · rw [List.getElem?_append_right hi] at hr
      rcases Nat.eq_or_lt_of_le hi with e | e
      · subst e; simp at hr; exact .inr ⟨rfl, hr.symm⟩
      · rw [List.getElem?_eq_none (by simp; omega)] at hr; cases hr
  have hxv : ∀ k ∈ rb x, k ∉ blk v := fun k hk hm => hxn k hk (h.inv k hm)
  refine ⟨⟨sp, ho⟩, by simp [h.len], fun i r u2 h1 h2 => ?_, fun i j r s hij h1 h2 k hk hm => ?_, fun i r h1 k hk hm => ?_, fun k hk => by simp [hk], fun i r h1 k hk => ?_, fun k hk => ?_⟩
  · rcases hrow i r h1 with ⟨h3, hi⟩ | ⟨rfl, rfl⟩
    · rw [List.getElem?_append_left (by have := h.len; omega)] at h2
      exact (h.row i r u2 h3 h2).keep f (fun k hk => h.vsep i r h3 k hk)
    · rw [h.len] at h2
      simp at h2
      subst h2
      exact hx.keep f hxv
  · rcases hrow i r h1 with ⟨h3, hi⟩ | ⟨rfl, rfl⟩ <;> rcases hrow j s h2 with ⟨h4, hj⟩ | ⟨rfl, rfl⟩
    · exact h.sep i j r s hij h3 h4 k hk hm
    · exact hxn k hm (h.inr i r h3 k hk)
    · exact hxn k hk (h.inr j s h4 k hm)
    · exact hij rfl
  · rcases hrow i r h1 with ⟨h3, hi⟩ | ⟨rfl, rfl⟩
    · rcases hn k hm with q | q
      · exact h.vsep i r h3 k hk q
      · have := (h.lo k (h.inr i r h3 k hk)).2; omega
    · rcases hn k hm with q | q
      · exact hxv k hk q
      · have := hx.lt k hk; omega
  · rcases hrow i r h1 with ⟨h3, hi⟩ | ⟨rfl, rfl⟩
    · simp [h.inr i r h3 k hk]
    · simp [hk]
  · simp only [List.mem_append] at hk
    rcases hk with (hk | hk) | hk
    · exact ⟨hx0 k hk, Nat.lt_of_lt_of_le (hx.lt k hk) f.size⟩
    · have hlt := ho.lt k hk
      rcases hn k hk with q | q
      · exact ⟨(h.lo k (h.inv k q)).1, hlt⟩
      · exact ⟨Nat.le_trans h0 q, hlt⟩
    · exact ⟨(h.lo k hk).1, Nat.lt_of_lt_of_le (h.lo k hk).2 f.size⟩
/-- A text as bytes. -/
theorem conv_str (w : World) (l : List UInt8) (hl : l.length ≤ 1000000) : ∃ w' cap sp, (convert 9 32 (.string (sB l))).run Tryz.prog w = .ok (.slice (some ⟨w.heap.size, 0, none⟩) l.length cap) w' ∧ SlB w' (.slice (some ⟨w.heap.size, 0, none⟩) l.length cap) l sp ∧ Frm [] w w' := by
  have hr := Lib.run_convert_string_bytes (P := Tryz.prog) w 9 32 5 (sB l) Tryz.underlying9 Tryz.underlying32 Tryz.underlying5
  have hsz : (sB l).size = l.length := by simp [sB, ByteArray.size]
  rw [hsz] at hr
  have hge := grownCap_ge w l.length 0 5
  have hm := grownCap_le_maxLen w l.length 0 5 (by simp only [maxLen]; omega)
  have hnew := Lib.bytesWorld_at_new w 5 (sB l)
  refine ⟨_, _, List.replicate (grownCap w l.length 0 5 - l.length) 0, hr, ⟨by rw [bvs_length, Nat.mul_one], .inr (.inr ⟨w.heap.size, 0, _, rfl, hge, hm, ?_, fun i u hu => ?_⟩)⟩, ⟨rfl, rfl, rfl, by rw [Lib.bytesWorld_size]; omega, fun k hk _ => Lib.bytesWorld_at_old w 5 (sB l) k hk⟩⟩
  · rw [← bvs_append, bvs_length]; simp; omega
  · rw [cell_of_heap hnew, Nat.zero_add]
    have hcells : Lib.bytesCells w 5 (sB l) = (bvs l ++ bvs (List.replicate (grownCap w l.length 0 5 - l.length) 0)).toArray := by
      apply Array.ext'
      simp [Lib.bytesCells, sB, bvs, bv, ByteArray.size, Array.toList_replicate]
    rw [hcells, List.getElem?_toArray]
    exact hu
end Go.Proofs.YtjdejhgfkjeeiaaGreatDoor
