/-
  Contract of long; Pick at large bounds. No conditions but those that each theorem names. Contract of OverAddrs. No conditions but those that each theorem names. Lists of uberblocks made by a call, their addresses read alone; the document's Found. No conditions but those that each theorem names. LentLists, KeptLists. No conditions but those that each theorem names. The document's Used; LentLists, KeptLists. No conditions but those that each theorem names. Contract of OverUbers at a list that is the caller's own. No conditions but those that each theorem names. The walk of RingFinds. No conditions but those that each theorem names.
-/
import Derived.Test.YtjdejhgfkjeeiaaGreatDoorMB4
import Derived.Test.YtjdejhgfkjeeiaaGreatDoorPX
import Derived.Lib.Hide
import Derived.Test.YtjdejhgfkjeeiaaGreatDoorMB3
namespace Go.Proofs.YtjdejhgfkjeeiaaGreatDoor
open Go.RowKit
set_option linter.unusedVariables false
set_option linter.unusedSimpArgs false
set_option maxRecDepth 100000

open Pt (Pt may enc readPt readE zeroPt pc pv PtV SlA OwnA)
open Kr (OwnE SlE Enco RowTys)
def SmallL (sl : List (List UInt8)) (l : List Ub) : Prop := (∀ b ∈ sl, b.length ≤ 600) ∧ (∀ u ∈ l, u.root.ads.length ≤ 20) ∧ sl.length ≤ 8 ∧ l.length ≤ 20
def LongP (sl : List (List UInt8)) (l : List Ub) (e : Ending) : Prop := e = .returned (.bool true) ∨ (e = .returned (.bool false) ∧ SmallL sl l)
theorem Us.max {w : World} {v : Value} {l : List Ub} (h : Us w v l) : (l.length : Int) ≤ 9223372036854775807 := by
  obtain ⟨rs, sp, hs, hl, _⟩ := h
  obtain ⟨a, cap, _, h1, h2⟩ := hs.form
  simp only [maxLen] at h2
  omega
theorem Ls.max {w : World} {v : Value} {l : List (List UInt8)} (h : Ls w v l) : (l.length : Int) ≤ 9223372036854775807 := by
  obtain ⟨rs, sp, hs, hl, _⟩ := h
  obtain ⟨a, cap, _, h1, h2⟩ := hs.form
  simp only [maxLen] at h2
  omega
set_option maxHeartbeats 4000000 in
theorem long_any (x v : Value) (sl : List (List UInt8)) (l : List Ub) (w : World) (hx : Ls w x sl) (hv : Us w v l) : Calls Tryz.prog 33 #[x, v] w fun e w' => LongP sl l e ∧ w' = w := by
  obtain ⟨a, cap, rfl⟩ := hx.form
  obtain ⟨a2, cap2, rfl⟩ := hv.form
  have HX := Lib.hid hx
  have HV := Lib.hid hv
  have hm1 := hx.max
  have hm2 := hv.max
  clear hx hv
  go_enter Tryz.func33, Tryz.ntmps33
  go_wp2_with fail
  go_loopw [5] (fun cv wr => wr = w ∧ ∃ k : Nat, k ≤ sl.length ∧ cv = .int .i64 k ∧ ∀ i (h : i < sl.length), i < k → (sl[i]).length ≤ 600) (fun cv _ => sl.length - (intOf cv).toNat)
  case atStart => exact ⟨rfl, 0, by omega, rfl, fun i h hi => by omega⟩
  case round =>
    obtain ⟨hwr, k, hk, rfl, hall⟩ := hrel
    subst hwr
    by_cases hlt : k < sl.length
    · have hlt' : (k : Int) < (sl.length : Int) := by omega
      obtain ⟨b, off, cp, e⟩ := HX.out.at (by omega)
      injection e with e1 e2 e3
      subst e1; subst e3
      obtain ⟨c, s, hc, hS⟩ := HX.out.cell k hlt
      obtain ⟨ca, cc, rfl, _, _⟩ := hS.form
      have hwk : IntKind.i64.wrap ((k : Int) + 1) = (k : Int) + 1 := IntWalk.i64_in _ (by omega)
      by_cases hbig : 600 < (sl[k]).length
      · have hbig' : (600 : Int) < ((sl[k]).length : Int) := by omega
        generalize (sl[k]).length = n at *
        clear hall hS
        go_wp2_with fail
        exact bodyPost_ret (v := .bool true) (by simp [results, Tryz.results33, go_sem]) rfl ⟨.inl rfl, rfl⟩
      · have hbig' : ¬ (600 : Int) < ((sl[k]).length : Int) := by omega
        have HN := Lib.hid (show ∀ i (h : i < sl.length), i < k + 1 → (sl[i]).length ≤ 600 from fun i h hi => by
          rcases Nat.lt_or_ge i k with h2 | h2
          · exact hall i h h2
          · obtain rfl : i = k := by omega
            omega)
        generalize (sl[k]).length = n at *
        clear hall hS hbig
        go_wp2_with fail
        go_roundw
        case rel => exact ⟨by first | trivial | rfl, k + 1, by omega, rfl, HN.out⟩
        case measure => simp [intOf]; omega
    · obtain rfl : k = sl.length := by omega
      have H1 := Lib.hid (show ∀ b ∈ sl, b.length ≤ 600 from fun b hb => by
        obtain ⟨i, hi, rfl⟩ := List.getElem_of_mem hb
        exact hall i hi hi)
      clear hall
      go_wp2_with fail
      go_loopw [6] (fun cv wr2 => wr2 = wr ∧ ∃ k : Nat, k ≤ l.length ∧ cv = .int .i64 k ∧ ∀ i (h : i < l.length), i < k → (l[i]).root.ads.length ≤ 20) (fun cv _ => l.length - (intOf cv).toNat)
      case atStart => exact ⟨rfl, 0, by omega, rfl, fun i h hi => by omega⟩
      case round =>
        obtain ⟨hwr, k, hk, rfl, hall⟩ := hrel
        subst hwr
        by_cases hlt : k < l.length
        · have hlt' : (k : Int) < (l.length : Int) := by omega
          obtain ⟨b2, off2, cp2, e⟩ := HV.out.at (by omega)
          injection e with e1 e2 e3
          subst e1; subst e3
          obtain ⟨xa, xc, _, _, _, hc⟩ := HV.out.load k hlt
          have hwk : IntKind.i64.wrap ((k : Int) + 1) = (k : Int) + 1 := IntWalk.i64_in _ (by omega)
          by_cases hbig : 20 < (l[k]).root.ads.length
          · have hbig' : (20 : Int) < ((l[k]).root.ads.length : Int) := by omega
            generalize (l[k]).root.ads.length = n at *
            clear hall
            go_wp2_with fail
            exact bodyPost_ret (v := .bool true) (by simp [results, Tryz.results33, go_sem]) rfl ⟨.inl rfl, rfl⟩
          · have hbig' : ¬ (20 : Int) < ((l[k]).root.ads.length : Int) := by omega
            have HN := Lib.hid (show ∀ i (h : i < l.length), i < k + 1 → (l[i]).root.ads.length ≤ 20 from fun i h hi => by
              rcases Nat.lt_or_ge i k with h2 | h2
              · exact hall i h h2
              · obtain rfl : i = k := by omega
                omega)
            generalize (l[k]).root.ads.length = n at *
            clear hall hbig
            go_wp2_with fail
            go_roundw
            case rel => exact ⟨by first | trivial | rfl, k + 1, by omega, rfl, HN.out⟩
            case measure => simp [intOf]; omega
        · obtain rfl : k = l.length := by omega
          have H2 := Lib.hid (show ∀ u ∈ l, u.root.ads.length ≤ 20 from fun u hu => by
            obtain ⟨i, hi, rfl⟩ := List.getElem_of_mem hu
            exact hall i hi hi)
          clear hall
          by_cases h8 : 8 < sl.length
          · have h8' : (8 : Int) < (sl.length : Int) := by omega
            clear h8
            go_wp2_with fail
            exact bodyPost_ret (v := .bool true) (by simp [results, Tryz.results33, go_sem]) rfl ⟨.inl rfl, rfl⟩
          · have h8' : ¬ (8 : Int) < (sl.length : Int) := by omega
            by_cases h20 : 20 < l.length
            · have h20' : (20 : Int) < (l.length : Int) := by omega
              clear h8 h20
              go_wp2_with fail
              exact bodyPost_ret (v := .bool true) (by simp [results, Tryz.results33, go_sem]) rfl ⟨.inl rfl, rfl⟩
            · have h20' : ¬ (20 : Int) < (l.length : Int) := by omega
              have HH := Lib.hid (And.intro h8 h20)
              clear h8 h20
              go_wp2_with fail
              exact bodyPost_ret (v := .bool false) (by simp [results, Tryz.results33, go_sem]) rfl ⟨.inr ⟨rfl, H1.out, H2.out, by have := HH.out; omega, by have := HH.out; omega⟩, rfl⟩
end Go.Proofs.YtjdejhgfkjeeiaaGreatDoor

namespace Go.Proofs.YtjdejhgfkjeeiaaGreatDoor.Pt
open Go.RowKit
set_option linter.unusedVariables false
set_option linter.unusedSimpArgs false
set_option maxRecDepth 100000

theorem eas_set : ∀ (l : List Ad) (i : Nat) (x : Ad), eas (l.set i x) = ((eas l).set (i * 2) (.int .i64 x.1)).set (i * 2 + 1) (.int .i64 x.2)
  | [], i, x => by simp [eas]
  | y :: r, 0, x => by simp [eas_cons]
  | y :: r, i + 1, x => by
    rw [List.set_cons_succ, eas_cons, eas_set r i x, eas_cons, show (i + 1) * 2 = i * 2 + 1 + 1 by omega]
    simp [List.set_cons_succ]
theorem OwnA.store {T : TypeId} {w : World} {g n cap : Nat} {l sp : List Ad} (h : OwnA T w (.slice (some ⟨g, 0, none⟩) n cap) l sp) (i : Nat) (hi : i < l.length) (x : Ad) :
    OwnA T ((w.setCell ⟨g, i * 2, none⟩ (.int .i64 x.1)).setCell ⟨g, i * 2 + 1, none⟩ (.int .i64 x.2)) (.slice (some ⟨g, 0, none⟩) n cap) (l.set i x) sp := by
  obtain ⟨h1, h2, h3⟩ := h.caps
  refine OwnA.of_heap ?_ (by simpa using h1) (by simpa using h2) h3
  rw [heap_setCell_same _ (heap_setCell_same _ h.heap)]
  congr 2
  apply Array.ext'
  simp only [Array.toList_setIfInBounds, eas_append, eas_set]
  have hl := eas_length l
  rw [List.set_append_left _ _ (by omega), List.set_append_left _ _ (by simp; omega)]
def OverARel (g n cap : Nat) (sp : List Ad) (w0 : World) (cv : Value) (wr : World) : Prop := ∃ (k : Nat) (m : List Ad), k ≤ n ∧ m.length = n ∧ cv = .int .i64 k ∧ OwnA 47 wr (.slice (some ⟨g, 0, none⟩) n cap) m sp ∧ Frm [g] w0 wr
set_option maxHeartbeats 1000000 in
theorem OverA_any (v : Value) (l sp : List Ad) (w : World) (hO : OwnA 47 w v l sp) (hl : l.length ≤ 1000000) :
    Calls Tryz.prog 28 #[v] w fun e w' => e = .returned (.tuple #[]) ∧ Frm (blk v) w w' := by
  obtain ⟨h1, ⟨rfl, h2, h3⟩ | ⟨g, cap, rfl, h3, h4, h5, h6⟩⟩ := id hO
  · clear hO h1 h3 hl h2
    go_enter Tryz.func28, Tryz.ntmps28
    go_wp2_with fail
    refine wp_loop_rounds 1 ?_
    rw [rounds_succ]
    go_wp2
    go_end0
    exact ⟨rfl, Frm.refl _ _⟩
  · have hl9 : ((l.length : Nat) : Int) ≤ 1000000 := by omega
    have HO := Lib.hid hO
    clear hO h1 h6 h5 h3 h4 hl
    go_enter Tryz.func28, Tryz.ntmps28
    go_wp2_with fail
    go_loopw [2] (OverARel g l.length cap sp w) (fun cv _ => l.length - (intOf cv).toNat)
    case atStart => exact ⟨0, l, by omega, rfl, rfl, HO.out, Frm.refl _ _⟩
    case round =>
      obtain ⟨k, m, hk, hm, rfl, o, f⟩ := hrel
      by_cases hlt : k < l.length
      · obtain ⟨c0, c1⟩ := o.sl.cells k (by omega)
        have z0 := frozen_of_heap o.heap (0 + k * 2)
        have z1 := frozen_of_heap o.heap (0 + k * 2 + 1)
        have hst := o.store k (by omega) (-7, -7)
        rw [Nat.zero_add] at c0 c1 z0 z1
        generalize m[k]'(by omega) = y at *
        have ST := Lib.hid hst
        have F := Lib.hid f
        have HM := Lib.hid hm
        clear hst o f hm
        go_wp2_with fail
        exact ⟨⟨k + 1, _, by omega, by simpa using HM.out, by go_num, ST.out, (F.out.setCell _ _ (.inl (by simp))).setCell _ _ (.inl (by simp))⟩, by simp [intOf]; omega⟩
      · obtain rfl : k = l.length := by omega
        have F := Lib.hid f
        clear f o hm
        go_wp2_with fail
        go_end0
        exact ⟨rfl, by simpa [blk] using F.out⟩
end Go.Proofs.YtjdejhgfkjeeiaaGreatDoor.Pt

namespace Go.Proofs.YtjdejhgfkjeeiaaGreatDoor
open Go.RowKit
set_option linter.unusedVariables false
set_option linter.unusedSimpArgs false
set_option maxRecDepth 100000

open Pt (Pt may enc readPt readE zeroPt pc pv PtV SlA OwnA)
open Kr (OwnE SlE Enco RowTys)
theorem SlA.either {w : World} {v : Value} {l sp : List Pt.Ad} (h : SlA w v l sp) : (∀ w', SlA w' v l sp) ∨ ∀ i ∈ blk v, i < w.heap.size := by
  obtain ⟨h1, ⟨h2, h3, h4⟩ | ⟨a, h2, h3, h4⟩ | ⟨b, off, cap, h2, h3, h4, h5, h6⟩⟩ := id h
  · exact .inl fun w' => ⟨h1, .inl ⟨h2, h3, h4⟩⟩
  · exact .inl fun w' => ⟨h1, .inr (.inl ⟨a, h2, h3, h4⟩)⟩
  · by_cases hc : (Pt.eas l ++ Pt.eas sp) = []
    · exact .inl fun w' => ⟨h1, .inr (.inr ⟨b, off, cap, h2, h3, h4, h5, fun i u hu => by rw [hc] at hu; simp at hu⟩)⟩
    · refine .inr fun i hi => ?_
      rw [h2] at hi
      simp [blk] at hi
      subst hi
      have hp : 0 < (Pt.eas l ++ Pt.eas sp).length := List.length_pos_iff.2 hc
      exact World.block_lt_of_cell? _ _ (h6 0 _ (List.getElem?_eq_getElem hp))
theorem RowV.either {w : World} {r : RowT} {u : Ub} (h : RowV w r u) : (∀ w', RowV w' r u) ∨ ∀ i ∈ rb r, i < w.heap.size := by
  obtain ⟨a, cap, sp, e, hA, hw⟩ := h
  rcases SlA.either hA with h | h
  · exact .inl fun w' => ⟨a, cap, sp, e, h w', hw⟩
  · exact .inr (by rw [rb_uc e]; exact h)
theorem RowV.keep {w w' : World} {r : RowT} {u : Ub} {L : List Nat} (h : RowV w r u) (f : Frm L w w') (hL : ∀ i ∈ rb r, i ∉ L) : RowV w' r u := by
  obtain ⟨a, cap, sp, e, hA, hw⟩ := h
  rw [rb_uc e] at hL
  exact ⟨a, cap, sp, e, hA.keep f hL, hw⟩
theorem RowV.keepz {w w' : World} {r : RowT} {u : Ub} (h : RowV w r u) (f : Frm [] w w') : RowV w' r u := h.keep f (by simp)
/-- A list of uberblocks that a call has made since a world: its row its own, the addresses wherever. -/
structure Td (w0 w : World) (v : Value) (l : List Ub) (rs : List RowT) : Prop where
  own : ∃ sp, OwnE eR 69 28 w v rs sp
  len : rs.length = l.length
  row : ∀ (i : Nat) r u, rs[i]? = some r → l[i]? = some u → RowV w r u ∧ ((∀ w', RowV w' r u) ∨ ∀ k ∈ rb r, k ∉ blk v ∧ k < w.heap.size)
  base : ∀ k ∈ blk v, w0.heap.size ≤ k
  frm : Frm [] w0 w
theorem Td.nil (w : World) : Td w w (.slice none 0 0) [] [] := ⟨⟨[], OwnE.nil _ _ _ _⟩, rfl, fun i r u h => by simp at h, by simp [blk], Frm.refl _ _⟩
theorem Td.us {w0 w : World} {v : Value} {l : List Ub} {rs : List RowT} (h : Td w0 w v l rs) : Us w v l := by
  obtain ⟨sp, ho⟩ := h.own
  exact ⟨rs, sp, ho.sl, h.len, fun i r u h1 h2 => (h.row i r u h1 h2).1⟩
theorem Td.keep {w0 w w' : World} {v : Value} {l : List Ub} {rs : List RowT} {L : List Nat} (h : Td w0 w v l rs) (f : Frm L w w') (hL : ∀ k ∈ L, k ∉ blk v ∧ ∀ (i : Nat) r, rs[i]? = some r → k ∉ rb r) (f0 : Frm [] w0 w') : Td w0 w' v l rs := by
  obtain ⟨sp, ho⟩ := h.own
  refine ⟨⟨sp, ho.keep f (fun k hk hm => (hL k hm).1 hk)⟩, h.len, fun i r u h1 h2 => ?_, h.base, f0⟩
  obtain ⟨hv, hw⟩ := h.row i r u h1 h2
  refine ⟨hv.keep f (fun k hk hm => (hL k hm).2 i r h1 hk), hw.imp id (fun hk k hm => ⟨(hk k hm).1, Nat.lt_of_lt_of_le (hk k hm).2 f.size⟩)⟩
theorem Td.keep0 {w0 w w' : World} {v : Value} {l : List Ub} {rs : List RowT} (h : Td w0 w v l rs) (f : Frm [] w w') : Td w0 w' v l rs := h.keep f (fun k hk => by cases hk) (h.frm.trans f (by simp))
theorem Td.more {w0 w w' : World} {v v' : Value} {l : List Ub} {rs : List RowT} {x : RowT} {u : Ub} {sp : List Value} (h : Td w0 w v l rs) (f : Frm (blk v) w w') (ho : OwnE eR 69 28 w' v' (rs ++ [x]) sp) (hn : ∀ i ∈ blk v', i ∈ blk v ∨ w.heap.size ≤ i)
    (hx : RowV w x u) (hxn : (∀ w', RowV w' x u) ∨ ∀ k ∈ rb x, k ∉ blk v) : Td w0 w' v' (l ++ [u]) (rs ++ [x]) := by
  have hold : ∀ (r : RowT) (u : Ub), RowV w r u → ((∀ w', RowV w' r u) ∨ ∀ k ∈ rb r, k ∉ blk v ∧ k < w.heap.size) → RowV w' r u ∧ ((∀ w', RowV w' r u) ∨ ∀ k ∈ rb r, k ∉ blk v' ∧ k < w'.heap.size) := fun r u h1 h2 => by
    rcases h2 with h2 | h2
    · exact ⟨h2 w', .inl h2⟩
    · refine ⟨h1.keep f (fun k hk => (h2 k hk).1), .inr fun k hk => ⟨fun hm => ?_, Nat.lt_of_lt_of_le (h2 k hk).2 f.size⟩⟩
      rcases hn k hm with q | q
      · exact (h2 k hk).1 q
      · have := (h2 k hk).2; omega
  refine ⟨⟨sp, ho⟩, by simp [h.len], fun i r u2 h1 h2 => ?_, fun k hk => ?_, h.frm.trans f (fun i hi => .inr (h.base i hi))⟩
  · rcases Nat.lt_or_ge i rs.length with hi | hi
    · rw [List.getElem?_append_left hi] at h1
      rw [List.getElem?_append_left (by have := h.len; omega)] at h2
      exact hold r u2 (h.row i r u2 h1 h2).1 (h.row i r u2 h1 h2).2
    · rcases Nat.eq_or_lt_of_le hi with e | e
      · subst e
        rw [List.getElem?_append_right (Nat.le_refl _)] at h1
        rw [h.len, List.getElem?_append_right (Nat.le_refl _)] at h2
        simp at h1 h2
        subst h1; subst h2
        refine hold x u hx ?_
        rcases hxn with q | q
        · exact .inl q
        · rcases hx.either with q2 | q2
          · exact .inl q2
          · exact .inr fun k hk => ⟨q k hk, q2 k hk⟩
      · rw [List.getElem?_eq_none (by simp; omega)] at h1; cases h1
  · rcases hn k hk with q | q
    · exact h.base k q
    · have := h.frm.size; omega
def RFoundP (pool : List UInt8) (l : List (List UInt8)) (w : World) (r : Ending) (w' : World) : Prop := ∃ v rs, r = .returned (.tuple #[v, .int .i64 (foundE l)]) ∧ Td w w' v (foundU pool l) rs ∧ ∀ x ∈ rs, ∀ j ∈ rb x, w.heap.size ≤ j
def RFRel (pool : List UInt8) (l : List (List UInt8)) (w : World) (ov cv : Value) (wr : World) : Prop := ∃ (k : Nat) (rs : List RowT), cv = .int .i64 k ∧ k ≤ 4 ∧ Td w wr ov (fnd pool l k) rs ∧ ∀ x ∈ rs, ∀ j ∈ rb x, w.heap.size ≤ j
end Go.Proofs.YtjdejhgfkjeeiaaGreatDoor

namespace Go.Proofs.YtjdejhgfkjeeiaaGreatDoor
open Go.RowKit
set_option linter.unusedVariables false
set_option linter.unusedSimpArgs false
set_option maxRecDepth 100000

open Kr (OwnE SlE Enco RowTys)
def clT (a : Option Addr) (n c : Nat) : CelT := ⟨.slice a n c, rfl⟩
/-- A list of copies that a call has made since a world. -/
structure Lk (w0 w : World) (v : Value) (l : List (List UInt8)) (cs : List CelT) : Prop where
  own : ∃ sp, OwnE eC 1 32 w v cs sp
  len : cs.length = l.length
  row : ∀ (i : Nat) c b, cs[i]? = some c → l[i]? = some b → ∃ g, c.1 = .slice (some ⟨g, 0, none⟩) b.length (b.length + 3) ∧ OwnB 5 w (.slice (some ⟨g, 0, none⟩) b.length (b.length + 3)) b (marks b.length 3) ∧ g ∉ blk v
  base : ∀ k ∈ blk v, w0.heap.size ≤ k
theorem Lk.nil (w : World) : Lk w w (.slice none 0 0) [] [] := ⟨⟨[], OwnE.nil _ _ _ _⟩, rfl, fun i r u h => by simp at h, by simp [blk]⟩
theorem Lk.ls {w0 w : World} {v : Value} {l : List (List UInt8)} {cs : List CelT} (h : Lk w0 w v l cs) : Ls w v l := by
  obtain ⟨sp, ho⟩ := h.own
  refine ⟨cs, sp, ho.sl, h.len, fun i c b h1 h2 => ?_⟩
  obtain ⟨g, e, o, _⟩ := h.row i c b h1 h2
  exact ⟨_, by rw [e]; exact o.sl⟩
theorem Lk.keep0 {w0 w w' : World} {v : Value} {l : List (List UInt8)} {cs : List CelT} (h : Lk w0 w v l cs) (f : Frm [] w w') : Lk w0 w' v l cs := by
  obtain ⟨sp, ho⟩ := h.own
  refine ⟨⟨sp, ho.keep0 f⟩, h.len, fun i c b h1 h2 => ?_, h.base⟩
  obtain ⟨g, e, o, hg⟩ := h.row i c b h1 h2
  exact ⟨g, e, o.keep f (by simp), hg⟩
theorem Lk.more {w0 w w' : World} {v v' : Value} {l : List (List UInt8)} {cs : List CelT} {g : Nat} {b : List UInt8} {sp : List Value} (h : Lk w0 w v l cs) (f : Frm (blk v) w w') (h0 : w0.heap.size ≤ w.heap.size)
    (ho : OwnE eC 1 32 w' v' (cs ++ [clT (some ⟨g, 0, none⟩) b.length (b.length + 3)]) sp) (hn : ∀ i ∈ blk v', i ∈ blk v ∨ w.heap.size ≤ i)
    (hx : OwnB 5 w (.slice (some ⟨g, 0, none⟩) b.length (b.length + 3)) b (marks b.length 3)) (hg : g ∉ blk v) : Lk w0 w' v' (l ++ [b]) (cs ++ [clT (some ⟨g, 0, none⟩) b.length (b.length + 3)]) := by
  have hold : ∀ (g : Nat) (b : List UInt8), OwnB 5 w (.slice (some ⟨g, 0, none⟩) b.length (b.length + 3)) b (marks b.length 3) → g ∉ blk v → OwnB 5 w' (.slice (some ⟨g, 0, none⟩) b.length (b.length + 3)) b (marks b.length 3) ∧ g ∉ blk v' := fun g b h1 h2 => by
    refine ⟨h1.keep f (fun k hk => by simp [blk] at hk; subst hk; exact h2), fun hm => ?_⟩
    rcases hn g hm with q | q
    · exact h2 q
    · have := h1.lt g (by simp [blk]); omega
  refine ⟨⟨sp, ho⟩, by simp [h.len], fun i c d h1 h2 => ?_, fun k hk => ?_⟩
  · rcases Nat.lt_or_ge i cs.length with hi | hi
    · rw [List.getElem?_append_left hi] at h1
      rw [List.getElem?_append_left (by have := h.len; omega)] at h2
      obtain ⟨g', e, o, hg'⟩ := h.row i c d h1 h2
      exact ⟨g', e, hold g' d o hg'⟩
    · rcases Nat.eq_or_lt_of_le hi with e | e
      · subst e
        rw [List.getElem?_append_right (Nat.le_refl _)] at h1
        rw [h.len, List.getElem?_append_right (Nat.le_refl _)] at h2
        simp at h1 h2
        subst h1; subst h2
        exact ⟨g, rfl, hold g b hx hg⟩
      · rw [List.getElem?_eq_none (by simp; omega)] at h1; cases h1
  · rcases hn k hk with q | q
    · exact h.base k q
    · omega
def LentP (l : List (List UInt8)) (w : World) (r : Ending) (w' : World) : Prop := ∃ v cs, r = .returned v ∧ Lk w w' v l cs ∧ Frm [] w w'
def LLRel (l : List (List UInt8)) (w : World) (ov cv : Value) (wr : World) : Prop := ∃ (k : Nat) (cs : List CelT), cv = .int .i64 k ∧ k ≤ l.length ∧ Lk w wr ov (l.take k) cs ∧ Frm [] w wr
end Go.Proofs.YtjdejhgfkjeeiaaGreatDoor

namespace Go.Proofs.YtjdejhgfkjeeiaaGreatDoor
open Go.RowKit
set_option linter.unusedVariables false
set_option linter.unusedSimpArgs false
set_option maxRecDepth 100000

open Pt (Pt may enc readPt readE zeroPt pc pv PtV SlA OwnA)
open Kr (OwnE SlE Enco RowTys)
def anyT (b : List UInt8) (j : Nat) : Bool := (b.take j).any (· != 0)
end Go.Proofs.YtjdejhgfkjeeiaaGreatDoor

namespace Go.Proofs.YtjdejhgfkjeeiaaGreatDoor
open Go.RowKit
set_option linter.unusedVariables false
set_option linter.unusedSimpArgs false
set_option maxRecDepth 100000

open Pt (Pt may enc readPt readE zeroPt pc pv PtV SlA OwnA)
open Kr (OwnE SlE Enco RowTys)
theorem flt_split (rs : List RowT) (k : Nat) (hk : k < rs.length) : Kr.flt eR rs = Kr.flt eR (rs.take k) ++ (eR rs[k] ++ Kr.flt eR (rs.drop (k + 1))) := by
  conv => lhs; rw [← List.take_append_drop k rs, List.drop_eq_getElem_cons hk]
  rw [Kr.flt_append, Kr.flt_cons]
theorem flt_setrow (rs : List RowT) (k : Nat) (hk : k < rs.length) (x : RowT) : Kr.flt eR (rs.set k x) = Kr.flt eR (rs.take k) ++ (eR x ++ Kr.flt eR (rs.drop (k + 1))) := by
  rw [flt_split (rs.set k x) k (by simpa using hk)]
  have e1 : (rs.set k x).take k = rs.take k := by rw [List.take_set, List.set_eq_of_length_le (by simp; omega)]
  have e2 : (rs.set k x).drop (k + 1) = rs.drop (k + 1) := by rw [List.drop_set, if_pos (by omega)]
  rw [e1, e2]
  simp
theorem OwnR.put {w : World} {g n cap : Nat} {rs : List RowT} {sp : List Value} (h : OwnE eR 69 28 w (.slice (some ⟨g, 0, none⟩) n cap) rs sp) (k : Nat) (hk : k < rs.length) (x : RowT) :
    OwnE eR 69 28 (w.setCells g (k * 69) x.1) (.slice (some ⟨g, 0, none⟩) n cap) (rs.set k x) sp := by
  obtain ⟨h1, h2, h3, h4⟩ := OwnE.caps encR h
  have hb : Blk w g 28 (Kr.flt eR (rs.take k) ++ (eR rs[k] ++ (Kr.flt eR (rs.drop (k + 1)) ++ sp))) := by
    have := OwnE.heap h
    rw [flt_split rs k hk] at this
    show w.heap[g]? = _
    rw [this]
    simp
  have hp := hb.put (o := k * 69) (row' := x.1) (by rw [Kr.flt_length encR, List.length_take, Nat.min_eq_left (by omega)]) (by rw [show eR rs[k] = (rs[k]).1 from rfl, x.2.1, (rs[k]).2.1])
  refine OwnE.of_heap encR ?_ (by simpa using h1) (by omega) (by simpa using h3) h4
  rw [flt_setrow rs k hk]
  have e : Kr.flt eR (rs.take k) ++ (eR x ++ Kr.flt eR (rs.drop (k + 1))) ++ sp = Kr.flt eR (rs.take k) ++ (x.1 ++ (Kr.flt eR (rs.drop (k + 1)) ++ sp)) := by simp [eR]
  rw [e]
  exact hp
def OvRel (v : Value) (l : List Ub) (rs : List RowT) (B : List Nat) (sp : List Value) (w : World) (cv : Value) (wr : World) : Prop :=
  ∃ (k : Nat) (rs' : List RowT), cv = .int .i64 k ∧ k ≤ l.length ∧ OwnE eR 69 28 wr v rs' sp ∧ rs'.length = rs.length ∧ (∀ i, k ≤ i → rs'[i]? = rs[i]?) ∧ (∀ (i : Nat) r u, k ≤ i → rs[i]? = some r → l[i]? = some u → RowO wr r u) ∧ Frm B w wr
def rowOv : RowT := rowU nilS rfl (ofU (-7)) (ofU_wf (-7))
set_option maxHeartbeats 4000000 in
theorem OverUs_any {w0 : World} (v : Value) (l : List Ub) (rs : List RowT) (B : List Nat) (w : World) (h : Tl w0 w v l rs B) (hf : Fits l) : Calls Tryz.prog 39 #[v] w fun e w' => e = .returned (.tuple #[]) ∧ Frm B w w' := by
  obtain ⟨a, cap, rfl⟩ := h.form
  obtain ⟨sp, ho⟩ := h.own
  have H := Lib.hid h
  have HF := Lib.hid hf
  have HO := Lib.hid ho
  have hl9 : (l.length : Int) ≤ 1000 := by have := hf.1; omega
  clear h hf ho
  go_enter Tryz.func39, Tryz.ntmps39
  go_wp2_with fail
  go_loopw [2] (OvRel (.slice a l.length cap) l rs B sp w) (fun cv _ => l.length - (intOf cv).toNat)
  case atStart => exact ⟨0, rs, rfl, by omega, HO.out, rfl, fun i _ => rfl, fun i r u _ h1 h2 => H.out.row i r u h1 h2, Frm.refl _ _⟩
  case round =>
    obtain ⟨k, rs', rfl, hk, o, hrl, hsame, hrows, f⟩ := hrel
    by_cases hlt : k < l.length
    · have hlt' : (k : Int) < (l.length : Int) := by omega
      have hk9 : (k : Int) ≤ 1000 := by omega
      have hlen := H.out.len
      have hkr : k < rs'.length := by omega
      obtain ⟨b, off, e⟩ := o.sl.at (by omega)
      subst e
      have hoff : off = 0 := by
        obtain ⟨_, ⟨h2, _⟩ | ⟨g', c', h2, _⟩⟩ := o
        · cases h2
        · injection h2 with e1; injection e1 with e1; injection e1
      subst hoff
      have hr : rs[k]? = some rs'[k] := by rw [← hsame k (Nat.le_refl _)]; exact List.getElem?_eq_getElem hkr
      have hro := hrows k rs'[k] l[k] (Nat.le_refl _) hr (List.getElem?_eq_getElem hlt)
      obtain ⟨xa, xc, xsp, hxe, hxo, hxw⟩ := hro
      have hrb := rb_uc hxe
      have hc := SlE.cell encR o.sl k hkr 1 (u := .slice xa (l[k]).root.ads.length xc) (by rw [show eR rs'[k] = (rs'[k]).1 from rfl, hxe]; rfl)
      rw [Nat.zero_add] at hc
      have HOV := Lib.hid (Pt.OverA_any _ _ _ wr hxo (HF.out.2 _ (List.getElem_mem _)))
      have HRB := Lib.hid hrb
      have HR := Lib.hid hr
      have O := Lib.hid o
      have HRW := Lib.hid hrows
      have HSM := Lib.hid hsame
      have HRL := Lib.hid (And.intro hrl (And.intro hkr hlt))
      have F := Lib.hid f
      generalize hri : rs'[k] = rk at *
      clear hri o hrl hsame hrows f hr hxe hxo hxw hrb
      generalize (l[k]).root.ads.length = n at *
      clear hlt hkr
      go_upto_region 4 with (go_at_call 28; refine HOV.out.mono ?_; rintro r w1 ⟨rfl, f1⟩)
      have hvs := H.out.vsep k rk HR.out
      have o1 := O.out.keep f1 (fun i hi hm => hvs i (by rw [HRB.out]; exact hm) hi)
      have hb1 : Blk w1 b 28 (Kr.flt eR rs' ++ sp) := OwnE.heap o1
      have O1 := Lib.hid o1
      have F1 := Lib.hid (F.out.trans f1 (fun i hi => .inl (H.out.inr k rk HR.out i (by rw [HRB.out]; exact hi))))
      have RW1 := Lib.hid (show ∀ (i : Nat) r u, k + 1 ≤ i → rs[i]? = some r → l[i]? = some u → RowO w1 r u from fun i r u hi h1 h2 => (HRW.out i r u (by omega) h1 h2).keep f1 (fun j hj hm => H.out.sep i k r rk (by omega) h1 HR.out j hj (by rw [HRB.out]; exact hm)))
      clear o1 f1 hvs
      go_upto_region 2 with (first
        | ((with_reducible (show wpList _ _ _ (Oper.mk _ (Op.build 28 _) _ _ _ _ :: _) _ _)); refine wpList_val rfl (exec_bldOf (t := -7) _ rfl rfl _) ?_)
        | ((with_reducible (show wpList _ _ _ (Oper.mk _ (Op.store 28 _ _) _ _ _ _ :: _) _ _)); refine wpList_store_mid rfl 28 (.tmp 19) (.tmp 18) rfl b (k * 69) (uc nilS (ofU (-7))).toArray rfl rfl (by rw [List.size_toArray, uc_length (ofU_wf _)]; exact hb1.there 69 (by have := HRL.out; rw [List.length_append, Kr.flt_length encR]; omega)) (by rw [i28, List.size_toArray, uc_length (ofU_wf _)]) (uc_one _ rfl _) ?_))
      have o2 := OwnR.put O1.out k HRL.out.2.1 rowOv
      have f2 : Frm [b] w1 (w1.setCells b (k * 69) rowOv.1) := Frm.setCells _ _ _ (Frm.refl _ _) (.inl (by simp))
      have hbB : b ∈ B := H.out.inv b (by simp [blk])
      rw [show uc nilS (ofU (-7)) = rowOv.1 from rfl]
      have hnew : OvRel (.slice (some ⟨b, 0, none⟩) l.length cap) l rs B sp w (.int .i64 ((k : Int) + 1)) (w1.setCells b (k * 69) rowOv.1) := by
        refine ⟨k + 1, rs'.set k rowOv, by go_num, HRL.out.2.2, o2, by simpa using HRL.out.1, fun i hi => ?_, fun i r u hi h1 h2 => (RW1.out i r u hi h1 h2).keep f2 (fun j hj hm => ?_), F1.out.trans f2 (fun i hi => .inl (by simp at hi; rw [hi]; exact hbB))⟩
        · rw [List.getElem?_set_ne (by omega)]; exact HSM.out i (by omega)
        · simp at hm; subst hm; exact H.out.vsep i r h1 j hj (by simp [blk])
      have HN := Lib.hid hnew
      clear hnew o2 f2 hb1
      generalize w1.setCells b (k * 69) rowOv.1 = w2 at *
      go_wp2_with fail
      go_roundw
      case rel => exact HN.out
      case measure => simp [intOf]; have := HRL.out.2.2; omega
    · obtain rfl : k = l.length := by omega
      have F := Lib.hid f
      clear o hrl hsame hrows f
      go_wp2_with fail
      go_end0
      exact ⟨rfl, F.out⟩
end Go.Proofs.YtjdejhgfkjeeiaaGreatDoor

namespace Go.Proofs.YtjdejhgfkjeeiaaGreatDoor
open Go.RowKit
set_option linter.unusedVariables false
set_option linter.unusedSimpArgs false
set_option maxRecDepth 100000

open Kr (OwnE SlE Enco RowTys)
/-- Behind writes to other blocks. -/
theorem Td.apart {w0 w w' : World} {v : Value} {l : List Ub} {rs : List RowT} {L : List Nat} (h : Td w0 w v l rs) (hlo : ∀ x ∈ rs, ∀ j ∈ rb x, w0.heap.size ≤ j) (f : Frm L w w') (hL : ∀ k ∈ L, k < w0.heap.size) : Us w' v l := by
  obtain ⟨sp, ho⟩ := h.own
  refine ⟨rs, sp, (ho.keep f (fun k hk hm => by have := h.base k hk; have := hL k hm; omega)).sl, h.len, fun i r u h1 h2 => (h.row i r u h1 h2).1.keep f (fun k hk hm => ?_)⟩
  have := hlo r (List.mem_of_getElem? h1) k hk
  have := hL k hm
  omega
end Go.Proofs.YtjdejhgfkjeeiaaGreatDoor
