/-
  Contract of OverUbers at a list that is the caller's own. No conditions but those that each theorem names.
-/
import Derived.Test.YtjdejhgfkjeeiaaGreatDoorPX
import Derived.Lib.Hide
import Derived.Test.YtjdejhgfkjeeiaaGreatDoorMM
namespace Go.Proofs.YtjdejhgfkjeeiaaGreatDoor.Pt
open Go.RowKit
set_option linter.unusedVariables false
set_option linter.unusedSimpArgs false
set_option maxRecDepth 100000

theorem eas_set : ∀ (l : List Ad) (i : Nat) (x : Ad), eas (l.set i x) = ((eas l).set (i * 2) (.int .i64 x.1)).set (i * 2 + 1) (.int .i64 x.2)
  | [], i, x => by simp [eas]
  | y :: r, 0, x => by simp [eas_cons]
  | y :: r, i + 1, x => by
    rw [List.set_cons_succ, eas_cons, eas_set r i x, eas_cons, show (i + 1) * 2 = i * 2 + 1 + 1 by omega]
    simp [List.set_cons_succ]
theorem OwnA.store {T : TypeId} {w : World} {g n cap : Nat} {l sp : List Ad} (h : OwnA T w (.slice (some ⟨g, 0, none⟩) n cap) l sp) (i : Nat) (hi : i < l.length) (x : Ad) :
    OwnA T ((w.setCell ⟨g, i * 2, none⟩ (.int .i64 x.1)).setCell ⟨g, i * 2 + 1, none⟩ (.int .i64 x.2)) (.slice (some ⟨g, 0, none⟩) n cap) (l.set i x) sp := by
  obtain ⟨h1, h2, h3⟩ := h.caps
  refine OwnA.of_heap ?_ (by simpa using h1) (by simpa using h2) h3
  rw [heap_setCell_same _ (heap_setCell_same _ h.heap)]
  congr 2
  apply Array.ext'
  simp only [Array.toList_setIfInBounds, eas_append, eas_set]
  have hl := eas_length l
  rw [List.set_append_left _ _ (by omega), List.set_append_left _ _ (by simp; omega)]
def OverARel (g n cap : Nat) (sp : List Ad) (w0 : World) (cv : Value) (wr : World) : Prop := ∃ (k : Nat) (m : List Ad), k ≤ n ∧ m.length = n ∧ cv = .int .i64 k ∧ OwnA 47 wr (.slice (some ⟨g, 0, none⟩) n cap) m sp ∧ Frm [g] w0 wr
set_option maxHeartbeats 1000000 in
theorem OverA_any (v : Value) (l sp : List Ad) (w : World) (hO : OwnA 47 w v l sp) (hl : l.length ≤ 1000000) :
    Calls Tryz.prog 28 #[v] w fun e w' => e = .returned (.tuple #[]) ∧ Frm (blk v) w w' := by
  obtain ⟨h1, ⟨rfl, h2, h3⟩ | ⟨g, cap, rfl, h3, h4, h5, h6⟩⟩ := id hO
  · clear hO h1 h3 hl h2
    go_enter Tryz.func28, Tryz.ntmps28
    go_wp2_with fail
    refine wp_loop_rounds 1 ?_
    rw [rounds_succ]
    go_wp2
    go_end0
    exact ⟨rfl, Frm.refl _ _⟩
  · have hl9 : ((l.length : Nat) : Int) ≤ 1000000 := by omega
    have HO := Lib.hid hO
    clear hO h1 h6 h5 h3 h4 hl
    go_enter Tryz.func28, Tryz.ntmps28
    go_wp2_with fail
    go_loopw [2] (OverARel g l.length cap sp w) (fun cv _ => l.length - (intOf cv).toNat)
    case atStart => exact ⟨0, l, by omega, rfl, rfl, HO.out, Frm.refl _ _⟩
    case round =>
      obtain ⟨k, m, hk, hm, rfl, o, f⟩ := hrel
      by_cases hlt : k < l.length
      · obtain ⟨c0, c1⟩ := o.sl.cells k (by omega)
        have z0 := frozen_of_heap o.heap (0 + k * 2)
        have z1 := frozen_of_heap o.heap (0 + k * 2 + 1)
        have hst := o.store k (by omega) (-7, -7)
        rw [Nat.zero_add] at c0 c1 z0 z1
        generalize m[k]'(by omega) = y at *
        have ST := Lib.hid hst
        have F := Lib.hid f
        have HM := Lib.hid hm
        clear hst o f hm
        go_wp2_with fail
        exact ⟨⟨k + 1, _, by omega, by simpa using HM.out, by go_num, ST.out, (F.out.setCell _ _ (.inl (by simp))).setCell _ _ (.inl (by simp))⟩, by simp [intOf]; omega⟩
      · obtain rfl : k = l.length := by omega
        have F := Lib.hid f
        clear f o hm
        go_wp2_with fail
        go_end0
        exact ⟨rfl, by simpa [blk] using F.out⟩
end Go.Proofs.YtjdejhgfkjeeiaaGreatDoor.Pt

namespace Go.Proofs.YtjdejhgfkjeeiaaGreatDoor
open Go.RowKit
set_option linter.unusedVariables false
set_option linter.unusedSimpArgs false
set_option maxRecDepth 100000

open Pt (Pt may enc readPt readE zeroPt pc pv PtV SlA OwnA)
open Kr (OwnE SlE Enco RowTys)
theorem flt_split (rs : List RowT) (k : Nat) (hk : k < rs.length) : Kr.flt eR rs = Kr.flt eR (rs.take k) ++ (eR rs[k] ++ Kr.flt eR (rs.drop (k + 1))) := by
  conv => lhs; rw [← List.take_append_drop k rs, List.drop_eq_getElem_cons hk]
  rw [Kr.flt_append, Kr.flt_cons]
theorem flt_setrow (rs : List RowT) (k : Nat) (hk : k < rs.length) (x : RowT) : Kr.flt eR (rs.set k x) = Kr.flt eR (rs.take k) ++ (eR x ++ Kr.flt eR (rs.drop (k + 1))) := by
  rw [flt_split (rs.set k x) k (by simpa using hk)]
  have e1 : (rs.set k x).take k = rs.take k := by rw [List.take_set, List.set_eq_of_length_le (by simp; omega)]
  have e2 : (rs.set k x).drop (k + 1) = rs.drop (k + 1) := by rw [List.drop_set, if_pos (by omega)]
  rw [e1, e2]
  simp
theorem OwnR.put {w : World} {g n cap : Nat} {rs : List RowT} {sp : List Value} (h : OwnE eR 69 28 w (.slice (some ⟨g, 0, none⟩) n cap) rs sp) (k : Nat) (hk : k < rs.length) (x : RowT) :
    OwnE eR 69 28 (w.setCells g (k * 69) x.1) (.slice (some ⟨g, 0, none⟩) n cap) (rs.set k x) sp := by
  obtain ⟨h1, h2, h3, h4⟩ := OwnE.caps encR h
  have hb : Blk w g 28 (Kr.flt eR (rs.take k) ++ (eR rs[k] ++ (Kr.flt eR (rs.drop (k + 1)) ++ sp))) := by
    have := OwnE.heap h
    rw [flt_split rs k hk] at this
    show w.heap[g]? = _
    rw [this]
    simp
  have hp := hb.put (o := k * 69) (row' := x.1) (by rw [Kr.flt_length encR, List.length_take, Nat.min_eq_left (by omega)]) (by rw [show eR rs[k] = (rs[k]).1 from rfl, x.2.1, (rs[k]).2.1])
  refine OwnE.of_heap encR ?_ (by simpa using h1) (by omega) (by simpa using h3) h4
  rw [flt_setrow rs k hk]
  have e : Kr.flt eR (rs.take k) ++ (eR x ++ Kr.flt eR (rs.drop (k + 1))) ++ sp = Kr.flt eR (rs.take k) ++ (x.1 ++ (Kr.flt eR (rs.drop (k + 1)) ++ sp)) := by simp [eR]
  rw [e]
  exact hp
def OvRel (v : Value) (l : List Ub) (rs : List RowT) (B : List Nat) (sp : List Value) (w : World) (cv : Value) (wr : World) : Prop :=
  ∃ (k : Nat) (rs' : List RowT), cv = .int .i64 k ∧ k ≤ l.length ∧ OwnE eR 69 28 wr v rs' sp ∧ rs'.length = rs.length ∧ (∀ i, k ≤ i → rs'[i]? = rs[i]?) ∧ (∀ (i : Nat) r u, k ≤ i → rs[i]? = some r → l[i]? = some u → RowO wr r u) ∧ Frm B w wr
def rowOv : RowT := rowU nilS rfl (ofU (-7)) (ofU_wf (-7))
set_option maxHeartbeats 4000000 in
theorem OverUs_any {w0 : World} (v : Value) (l : List Ub) (rs : List RowT) (B : List Nat) (w : World) (h : Tl w0 w v l rs B) (hf : Fits l) : Calls Tryz.prog 39 #[v] w fun e w' => e = .returned (.tuple #[]) ∧ Frm B w w' := by
  obtain ⟨a, cap, rfl⟩ := h.form
  obtain ⟨sp, ho⟩ := h.own
  have H := Lib.hid h
  have HF := Lib.hid hf
  have HO := Lib.hid ho
  have hl9 : (l.length : Int) ≤ 1000 := by have := hf.1; omega
  clear h hf ho
  go_enter Tryz.func39, Tryz.ntmps39
  go_wp2_with fail
  go_loopw [2] (OvRel (.slice a l.length cap) l rs B sp w) (fun cv _ => l.length - (intOf cv).toNat)
  case atStart => exact ⟨0, rs, rfl, by omega, HO.out, rfl, fun i _ => rfl, fun i r u _ h1 h2 => H.out.row i r u h1 h2, Frm.refl _ _⟩
  case round =>
    obtain ⟨k, rs', rfl, hk, o, hrl, hsame, hrows, f⟩ := hrel
    by_cases hlt : k < l.length
    · have hlt' : (k : Int) < (l.length : Int) := by omega
      have hk9 : (k : Int) ≤ 1000 := by omega
      have hlen := H.out.len
      have hkr : k < rs'.length := by omega
      obtain ⟨b, off, e⟩ := o.sl.at (by omega)
      subst e
      have hoff : off = 0 := by
        obtain ⟨_, ⟨h2, _⟩ | ⟨g', c', h2, _⟩⟩ := o
        · cases h2
        · injection h2 with e1; injection e1 with e1; injection e1
      subst hoff
      have hr : rs[k]? = some rs'[k] := by rw [← hsame k (Nat.le_refl _)]; exact List.getElem?_eq_getElem hkr
      have hro := hrows k rs'[k] l[k] (Nat.le_refl _) hr (List.getElem?_eq_getElem hlt)
      obtain ⟨xa, xc, xsp, hxe, hxo, hxw⟩ := hro
      have hrb := rb_uc hxe
      have hc := SlE.cell encR o.sl k hkr 1 (u := .slice xa (l[k]).root.ads.length xc) (by rw [show eR rs'[k] = (rs'[k]).1 from rfl, hxe]; rfl)
      rw [Nat.zero_add] at hc
      have HOV := Lib.hid (Pt.OverA_any _ _ _ wr hxo (HF.out.2 _ (List.getElem_mem _)))
      have HRB := Lib.hid hrb
      have HR := Lib.hid hr
      have O := Lib.hid o
      have HRW := Lib.hid hrows
      have HSM := Lib.hid hsame
      have HRL := Lib.hid (And.intro hrl (And.intro hkr hlt))
      have F := Lib.hid f
      generalize hri : rs'[k] = rk at *
      clear hri o hrl hsame hrows f hr hxe hxo hxw hrb
      generalize (l[k]).root.ads.length = n at *
      clear hlt hkr
      go_upto_region 4 with (go_at_call 28; refine HOV.out.mono ?_; rintro r w1 ⟨rfl, f1⟩)
      have hvs := H.out.vsep k rk HR.out
      have o1 := O.out.keep f1 (fun i hi hm => hvs i (by rw [HRB.out]; exact hm) hi)
      have hb1 : Blk w1 b 28 (Kr.flt eR rs' ++ sp) := OwnE.heap o1
      have O1 := Lib.hid o1
      have F1 := Lib.hid (F.out.trans f1 (fun i hi => .inl (H.out.inr k rk HR.out i (by rw [HRB.out]; exact hi))))
      have RW1 := Lib.hid (show ∀ (i : Nat) r u, k + 1 ≤ i → rs[i]? = some r → l[i]? = some u → RowO w1 r u from fun i r u hi h1 h2 => (HRW.out i r u (by omega) h1 h2).keep f1 (fun j hj hm => H.out.sep i k r rk (by omega) h1 HR.out j hj (by rw [HRB.out]; exact hm)))
      clear o1 f1 hvs
      go_upto_region 2 with (first
        | ((with_reducible (show wpList _ _ _ (Oper.mk _ (Op.build 28 _) _ _ _ _ :: _) _ _)); refine wpList_val rfl (exec_bldOf (t := -7) _ rfl rfl _) ?_)
        | ((with_reducible (show wpList _ _ _ (Oper.mk _ (Op.store 28 _ _) _ _ _ _ :: _) _ _)); refine wpList_store_mid rfl 28 (.tmp 19) (.tmp 18) rfl b (k * 69) (uc nilS (ofU (-7))).toArray rfl rfl (by rw [List.size_toArray, uc_length (ofU_wf _)]; exact hb1.there 69 (by have := HRL.out; rw [List.length_append, Kr.flt_length encR]; omega)) (by rw [i28, List.size_toArray, uc_length (ofU_wf _)]) (uc_one _ rfl _) ?_))
      have o2 := OwnR.put O1.out k HRL.out.2.1 rowOv
      have f2 : Frm [b] w1 (w1.setCells b (k * 69) rowOv.1) := Frm.setCells _ _ _ (Frm.refl _ _) (.inl (by simp))
      have hbB : b ∈ B := H.out.inv b (by simp [blk])
      rw [show uc nilS (ofU (-7)) = rowOv.1 from rfl]
      have hnew : OvRel (.slice (some ⟨b, 0, none⟩) l.length cap) l rs B sp w (.int .i64 ((k : Int) + 1)) (w1.setCells b (k * 69) rowOv.1) := by
        refine ⟨k + 1, rs'.set k rowOv, by go_num, HRL.out.2.2, o2, by simpa using HRL.out.1, fun i hi => ?_, fun i r u hi h1 h2 => (RW1.out i r u hi h1 h2).keep f2 (fun j hj hm => ?_), F1.out.trans f2 (fun i hi => .inl (by simp at hi; rw [hi]; exact hbB))⟩
        · rw [List.getElem?_set_ne (by omega)]; exact HSM.out i (by omega)
        · simp at hm; subst hm; exact H.out.vsep i r h1 j hj (by simp [blk])
      have HN := Lib.hid hnew
      clear hnew o2 f2 hb1
      generalize w1.setCells b (k * 69) rowOv.1 = w2 at *
      go_wp2_with fail
      go_roundw
      case rel => exact HN.out
      case measure => simp [intOf]; have := HRL.out.2.2; omega
    · obtain rfl : k = l.length := by omega
      have F := Lib.hid f
      clear o hrl hsame hrows f
      go_wp2_with fail
      go_end0
      exact ⟨rfl, F.out⟩
end Go.Proofs.YtjdejhgfkjeeiaaGreatDoor
