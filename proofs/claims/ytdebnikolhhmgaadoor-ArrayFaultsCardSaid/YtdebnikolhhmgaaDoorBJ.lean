/-
  The loose writes of a device are taken. No conditions but those that each theorem names.
-/
import Derived.Test.YtdebnikolhhmgaaDoorBI
namespace Go.Proofs.YtdebnikolhhmgaaDoor
open Go.RowKit
set_option linter.unusedVariables false
set_option linter.unusedSimpArgs false
set_option maxRecDepth 100000

open Kr (OwnE SlE Enco RowTys)
def RowL (w : World) (v : Value) (l : List Wt) : Prop := ∃ rcs sp, OwnE eC 1 90 w v rcs sp ∧ rcs.length = l.length ∧ ∀ (i : Nat) (c : CelT) (x : Wt), rcs[i]? = some c → l[i]? = some x → ∃ gw, c.1 = .pointer (some ⟨gw, 0, none⟩) ∧ WtB w gw x
theorem RowL.nil (w : World) : RowL w (.slice none 0 0) [] := ⟨[], [], OwnE.nil _ _ _ _, rfl, fun i c x h => by simp at h⟩
theorem RowL.keepF {w w' : World} {v : Value} {l : List Wt} {L : List Nat} (h : RowL w v l) (f : Frm L w w') (hn : ∀ k ∈ blk v, k ∉ L) (hL : ∀ k ∈ L, ∃ cs T fr, w.heap[k]? = some (.cells cs T fr) ∧ T ≠ 105) : RowL w' v l := by
  obtain ⟨rcs, sp, h1, h2, h3⟩ := h
  exact ⟨rcs, sp, h1.keep f hn, h2, fun i c x hc hx => by obtain ⟨gw, e1, e2⟩ := h3 i c x hc hx; exact ⟨gw, e1, e2.keepF f hL⟩⟩
theorem RowL.keep0 {w w' : World} {v : Value} {l : List Wt} (h : RowL w v l) (f : Frm [] w w') : RowL w' v l := h.keepF f (by simp) (by simp)
theorem RowL.at {w : World} {v : Value} {l : List Wt} (h : RowL w v l) (k : Nat) (hk : k < l.length) : ∃ b cap gw, v = .slice (some ⟨b, 0, none⟩) l.length cap ∧ w.cell? ⟨b, k, none⟩ = some (.pointer (some ⟨gw, 0, none⟩)) ∧ WtB w gw l[k] := by
  obtain ⟨rcs, sp, h1, h2, h3⟩ := h
  have hk2 : k < rcs.length := by omega
  obtain ⟨gw, e1, e2⟩ := h3 k rcs[k] l[k] (List.getElem?_eq_getElem hk2) (List.getElem?_eq_getElem hk)
  obtain ⟨q1, ⟨_, q2, _⟩ | ⟨b, cap, q2, q3, q4, q5, q6⟩⟩ := id h1
  · omega
  · have hs := h1.sl
    rw [q2] at hs
    have := SlE.cell encC hs k hk2 0 (u := rcs[k].1) rfl
    rw [Nat.zero_add, Nat.mul_one, Nat.add_zero, e1] at this
    exact ⟨b, cap, gw, by rw [q2, h2], this, e2⟩
theorem RowL.form {w : World} {v : Value} {l : List Wt} (h : RowL w v l) : ∃ ad cap, v = .slice ad l.length cap := by
  obtain ⟨rcs, sp, h1, h2, h3⟩ := h
  obtain ⟨ad, cap, e, _⟩ := h1.sl.form
  exact ⟨ad, cap, by rw [e, h2]⟩
theorem RowL.lt {w : World} {v : Value} {l : List Wt} (h : RowL w v l) : ∀ k ∈ blk v, k < w.heap.size := by
  obtain ⟨rcs, sp, h1, h2, h3⟩ := h
  exact h1.lt
theorem RowL.typ {w : World} {v : Value} {l : List Wt} (h : RowL w v l) : ∀ k ∈ blk v, ∃ cs T fr, w.heap[k]? = some (.cells cs T fr) ∧ T ≠ 105 := by
  obtain ⟨rcs, sp, h1, h2, h3⟩ := h
  intro k hk
  obtain ⟨cs, hc⟩ := own_blk h1 k hk
  exact ⟨cs, 90, _, hc, by decide⟩
/-- A write more. -/
theorem wpList_append_w {w : World} {ops : Array Oper} {rest : List Oper} {o : Oper} {a : Act} {Q : Exit → Act → World → Prop} {v : Value} {l : List Wt} {x : Wt} {gw : Nat} {W0 : World} (h : RowL W0 v l) (hw : WtB W0 gw x) (hw0 : w = W0.alloc (.cells #[.pointer (some ⟨gw, 0, none⟩)] 90)) (hl : l.length ≤ 100000000)
    (hg : o.guard = none) (s y : Operand) (hop : o.op = Op.call { callee := Callee.builtin Builtin.append, args := #[s, y], argTypes := #[31, 31] }) (hs : a.eval s = v) (hx : a.eval y = .slice (some ⟨W0.heap.size, 0, none⟩) 1 1)
    (kk : ∀ v' w', RowL w' v' (l ++ [x]) → Frm (blk v) W0 w' → (∀ i ∈ blk v', i ∈ blk v ∨ W0.heap.size ≤ i) → wpList Tryd.prog ops Q rest (a.put o.dst v') w') :
    wpList Tryd.prog ops Q (o :: rest) a w := by
  subst hw0
  have hty := h.typ
  obtain ⟨rcs, sp, h1, h2, h3⟩ := h
  have f2 : Frm [] W0 (W0.alloc (.cells #[.pointer (some ⟨gw, 0, none⟩)] 90)) := (Frm.refl [] W0).alloc _
  have hsl : SlE eC 1 (W0.alloc (.cells #[.pointer (some ⟨gw, 0, none⟩)] 90)) (.slice (some ⟨W0.heap.size, 0, none⟩) 1 1) [⟨.pointer (some ⟨gw, 0, none⟩), rfl⟩] [] := SlE.of_block encC (T := 90) (heap_alloc_new _ _) rfl (by omega)
  refine Kr.wpList_append_e encC tysW (h1.keep0 f2) hsl (by simp; omega) (by omega) hg s y hop hs hx fun a' cap' w' sp' o3 f3 b3 => kk _ _ ⟨_, _, o3, by simp [h2], fun i c x' hc hx' => ?_⟩ ?_ ?_
  · have f : Frm (blk v) W0 w' := (f2.mono (L' := blk v) (by simp)).trans f3 (fun i hi => .inl hi)
    by_cases hi : i < rcs.length
    · rw [List.getElem?_append_left hi] at hc
      rw [List.getElem?_append_left (by omega)] at hx'
      obtain ⟨gw', e1, e2⟩ := h3 i c x' hc hx'
      exact ⟨gw', e1, e2.keepF f hty⟩
    · have hi3 : i = rcs.length := by
        have := (List.getElem?_eq_some_iff.1 hc).1
        simp at this
        omega
      subst hi3
      rw [List.getElem?_append_right (Nat.le_refl _), Nat.sub_self] at hc
      rw [h2, List.getElem?_append_right (Nat.le_refl _), Nat.sub_self] at hx'
      cases hc; cases hx'
      exact ⟨gw, rfl, hw.keepF f hty⟩
  · exact (f2.mono (L' := blk v) (by simp)).trans f3 (fun i hi => .inl hi)
  · exact fun i hi => (b3 i hi).imp id (fun h => by have := f2.size; omega)
theorem is71_any (gw b : Nat) (x : Wt) (d : Int) (w : World) (hb : w.cell? ⟨b, 0, none⟩ = some (.int .i64 d)) (hw : WtB w gw x) :
    Calls Tryd.prog 71 #[.pointer (some ⟨gw, 0, none⟩), .pointer (some ⟨b, 0, none⟩)] w fun e w' => e = .returned (.bool (x.dev == d)) ∧ Frm [] w w' := by
  have c0 : w.cell? ⟨gw, 0, none⟩ = some (.int .i64 x.dev) := by rw [cell_of_heap hw]; rfl
  clear hw
  have DN := Lib.hid (fun m => (Frm.refl [] w).drewN m)
  go_enter Tryd.func71, Tryd.ntmps71
  go_upto_region 1 with (fail)
  go_quiet (fail)
  go_wp2_with fail
  go_ret
  exact ⟨rfl, DN.out _⟩
def PtRel (l : List Wt) (d : Int) (w0 : World) (vt vo cv : Value) (wr : World) : Prop :=
  ∃ k, k ≤ l.length ∧ cv = .int .i64 k ∧ RowL wr vt ((l.take k).filter (·.dev == d)) ∧ RowL wr vo ((l.take k).filter fun x => !(x.dev == d)) ∧ (∀ j ∈ blk vt, w0.heap.size ≤ j ∧ j ∉ blk vo) ∧ (∀ j ∈ blk vo, w0.heap.size ≤ j) ∧ Frm [] w0 wr
def PartP (l : List Wt) (d : Int) (w : World) (e : Ending) (w' : World) : Prop := ∃ vt vo, e = .returned (.tuple #[vt, vo]) ∧ RowL w' vt (l.filter (·.dev == d)) ∧ RowL w' vo (l.filter fun x => !(x.dev == d)) ∧ (∀ j ∈ blk vt, w.heap.size ≤ j ∧ j ∉ blk vo) ∧ (∀ j ∈ blk vo, w.heap.size ≤ j) ∧ Frm [] w w'
set_option maxHeartbeats 8000000 in
theorem part_any (v : Value) (l : List Wt) (b : Nat) (d : Int) (w : World) (h : RowL w v l) (hl : l.length ≤ 100000000) (hb : w.cell? ⟨b, 0, none⟩ = some (.int .i64 d)) :
    Calls Tryd.prog 70 #[v, .func (.func 71) #[] #[.pointer (some ⟨b, 0, none⟩)]] w (PartP l d w) := by
  obtain ⟨ad, cap, rfl⟩ := h.form
  have H := Lib.hid h
  have HL := Lib.hid hl
  have HB := Lib.hid hb
  clear h hl hb
  go_enter Tryd.func70, Tryd.ntmps70
  go_upto_region 2 with (fail)
  go_loopw [4, 5, 10] (PtRel l d w) (fun _ _ c _ => l.length - (intOf c).toNat)
  case atStart => exact ⟨0, Nat.zero_le _, rfl, RowL.nil _, RowL.nil _, by simp [blk], by simp [blk], Frm.refl [] w⟩
  case round =>
    obtain ⟨k, hk, rfl, h1, h2, h3, h4, hF⟩ := hrel
    have H1 := Lib.hid h1
    have H2 := Lib.hid h2
    have H3 := Lib.hid h3
    have H4 := Lib.hid h4
    have HF := Lib.hid hF
    by_cases hlt : k < l.length
    · obtain ⟨b0, cap0, gw, e1, e2, e3⟩ := (H.out.keep0 hF).at k hlt
      have hlt9 : (k : Int) < (l.length : Int) := by omega
      have hk8 : (k : Int) < 100000000 := by have := HL.out; omega
      have HW := Lib.hid e3
      have is : ∀ q, (l[k].dev == d) = q → Calls Tryd.prog 71 #[.pointer (some ⟨gw, 0, none⟩), .pointer (some ⟨b, 0, none⟩)] wr fun e w' => e = .returned (.bool q) ∧ Frm [] wr w' := by
        rintro q rfl
        exact is71_any gw b l[k] d wr (hF.cell HB.out (by simp)) e3
      simp only [Value.slice.injEq] at e1
      obtain ⟨rfl, -, rfl⟩ := e1
      have HLT := Lib.hid hlt
      obtain ⟨q, hq⟩ : ∃ q, (l[k].dev == d) = q := ⟨_, rfl⟩
      have HQ := Lib.hid hq
      have IS := Lib.hid (is q hq)
      have TK := Lib.hid (show l.take (k + 1) = l.take k ++ [l[k]] from List.take_succ_eq_append_getElem hlt)
      clear h1 h2 h3 h4 hF e3 is hq
      cases q
      · go_wp2_with fail
        refine IS.out.mono ?_
        rintro e w2 ⟨rfl, f2⟩
        have R2 := Lib.hid (H2.out.keep0 f2)
        have W2 := Lib.hid (HW.out.keepF f2 (by simp))
        have F2 := Lib.hid f2
        have HLE := Lib.hid (show ∀ p : Wt → Bool, ((l.take k).filter p).length ≤ 100000000 from fun p => Nat.le_trans (List.length_filter_le _ _) (Nat.le_trans (by simp; omega) HL.out))
        clear f2
        obtain ⟨rad, rcap, hr⟩ := R2.out.form
        subst hr
        go_wp2_with (at_builtin; refine wpList_append_w R2.out W2.out rfl (HLE.out _) rfl (.tmp 21) (.tmp 23) rfl rfl rfl ?_; intro v3 w3 r3 f3 b3; have R3 := Lib.hid r3; have F3 := Lib.hid f3; have B3 := Lib.hid b3; clear r3 f3 b3)
        go_roundw
        case rel =>
          have f23 : Frm (blk (.slice rad ((l.take k).filter fun x => !(x.dev == d)).length rcap)) wr w3 := (F2.out.mono (by simp)).trans F3.out (fun i hi => .inl hi)
          have hty := R2.out.typ
          have hH1 := (H1.out.keep0 F2.out).keepF F3.out (fun j hj hm => (H3.out j hj).2 hm) hty
          refine ⟨k + 1, by omega, rfl, ?_, ?_, fun j hj => ⟨(H3.out j hj).1, fun hm => ?_⟩, fun j hj => ?_, HF.out.trans f23 (fun i hi => .inr (H4.out i hi))⟩
          · rw [TK.out, List.filter_append, List.filter_cons, HQ.out, if_neg (by simp), List.filter_nil, List.append_nil]
            exact hH1
          · rw [TK.out, List.filter_append, List.filter_cons, HQ.out, if_pos (by simp), List.filter_nil]
            exact R3.out
          · rcases B3.out j hm with h | h
            · exact (H3.out j hj).2 h
            · have := H1.out.lt j hj
              have := F2.out.size
              omega
          · rcases B3.out j hj with h | h
            · exact H4.out j h
            · have := F2.out.size
              have := HF.out.size
              omega
        case measure => simp [intOf]; omega
      · go_wp2_with fail
        refine IS.out.mono ?_
        rintro e w2 ⟨rfl, f2⟩
        have R2 := Lib.hid (H1.out.keep0 f2)
        have W2 := Lib.hid (HW.out.keepF f2 (by simp))
        have F2 := Lib.hid f2
        have HLE := Lib.hid (show ∀ p : Wt → Bool, ((l.take k).filter p).length ≤ 100000000 from fun p => Nat.le_trans (List.length_filter_le _ _) (Nat.le_trans (by simp; omega) HL.out))
        clear f2
        obtain ⟨rad, rcap, hr⟩ := R2.out.form
        subst hr
        go_wp2_with (at_builtin; refine wpList_append_w R2.out W2.out rfl (HLE.out _) rfl (.tmp 17) (.tmp 19) rfl rfl rfl ?_; intro v3 w3 r3 f3 b3; have R3 := Lib.hid r3; have F3 := Lib.hid f3; have B3 := Lib.hid b3; clear r3 f3 b3)
        go_roundw
        case rel =>
          have f23 : Frm (blk (.slice rad ((l.take k).filter (·.dev == d)).length rcap)) wr w3 := (F2.out.mono (by simp)).trans F3.out (fun i hi => .inl hi)
          have hty := R2.out.typ
          have hH2 := (H2.out.keep0 F2.out).keepF F3.out (fun j hj hm => (H3.out j hm).2 hj) hty
          refine ⟨k + 1, by omega, rfl, ?_, ?_, fun j hj => ?_, fun j hj => H4.out j hj, HF.out.trans f23 (fun i hi => .inr (H3.out i hi).1)⟩
          · rw [TK.out, List.filter_append, List.filter_cons, HQ.out, if_pos rfl, List.filter_nil]
            exact R3.out
          · rw [TK.out, List.filter_append, List.filter_cons, HQ.out, if_neg (by simp), List.filter_nil, List.append_nil]
            exact hH2
          · rcases B3.out j hj with h | h
            · exact H3.out j h
            · have h1 := F2.out.size
              have h2 := HF.out.size
              exact ⟨by omega, fun hm => by have := H2.out.lt j hm; omega⟩
        case measure => simp [intOf]; omega
    · obtain rfl : k = l.length := by omega
      clear h1 h2 h3 h4 hF
      go_wp2_with fail
      go_ret2
      have h1 := H1.out
      have h2 := H2.out
      rw [List.take_length] at h1 h2
      exact ⟨_, _, rfl, h1, h2, H3.out, H4.out, HF.out⟩
end Go.Proofs.YtdebnikolhhmgaaDoor

