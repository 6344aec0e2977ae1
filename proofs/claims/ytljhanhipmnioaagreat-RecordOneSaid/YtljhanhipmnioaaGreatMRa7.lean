/-
  Which tables may be, in two ways. No conditions but those that each theorem names. Check, the program and the document. No conditions but those that each theorem names. Writing numbers. No conditions but those that each theorem names. Writing texts, pointers, records. No conditions but those that each theorem names. Writing records, lives, tables. No conditions but those that each theorem names. Bytes of a table. No conditions but those that each theorem names. Contract of the document's four; steps of its writing. No conditions but those that each theorem names. Bytes of a table, of the document. No conditions but those that each theorem names. Runs of parsers; bytes that can be read; a reader that finds no field. No conditions but those that each theorem names. The reader of the document: the next bytes, the next number. No conditions but those that each theorem names. Boxes of records, field by field. No conditions but those that each theorem names.
-/
import Derived.Test.YtljhanhipmnioaaGreatMRa1
import Derived.Test.YtljhanhipmnioaaGreatMRa2
import Derived.Test.YtljhanhipmnioaaGreatMRa3
import Derived.Test.YtljhanhipmnioaaGreatMRa4
import Derived.Test.YtljhanhipmnioaaGreatMRa5
import Derived.Test.YtljhanhipmnioaaGreatMRa6
import Derived.OrdersHeld
import Derived.StillTailTactics
import Derived.Lib.Hide
import Derived.WalkHide
import Derived.Deep.SlicePairs
import Derived.BigQuiet
import Derived.Deep.QuietTactic
import Derived.Deep.RegionWith
import Derived.LaidEqlPtr
import Derived.Deep.RegionHeld3
import Derived.IntWalk
import Derived.Deep.Cut
import Derived.WalkKit
import Derived.WalkSpells
import Derived.WalkLawsBesides
import Derived.Deep.AppendSrc
import Derived.Laws.CopyOwn
import Derived.Laws.BytesArg
import Derived.Carry
import Derived.Laws.BytesString
import Derived.Test.YtljhanhipmnioaaGreatChecked
import Derived.ChangeKeysEq
import Derived.Deep.MidRow
import Derived.OpenShut
import Derived.Deep.RegionLaw
import Derived.Deep.CutBlock
import Derived.Deep.DeepCutAuto
import Derived.Deep.Slices
import Derived.Defers
import Derived.Recover
import Derived.Deep.WholeRow
import Derived.Lib.Bytealg
import Derived.Lib.TrimUEq
import Derived.Lib.MinMaxS
import Derived.Lib.OthersKept
import Derived.Deep.Draws
import Derived.WalkMore
import Derived.Deep.LoopGhost
import Derived.Lib.BufferWrite
import Derived.Lib.UnsafeStr
import Derived.Laws.MakeOwn
import Derived.Laws.Strings3
import Derived.BigRegion
import Derived.Lib.Walk
import Derived.Great.Walk
namespace Go.Proofs.YtljhanhipmnioaaGreat.Rd
open Go.RowKit
set_option linter.unusedVariables false
set_option linter.unusedSimpArgs false
set_option maxRecDepth 100000

open Pt (Pt may enc readPt readE zeroPt be4 be1 pc pv PtV SlA OwnA BT wpList_load_g heap_alloc_at lst_slB one_slB Ext Grew exec_slice_lh yieldsIf_ld)
open Kr (OwnE SlE Enco RowTys)

theorem curEq_iff {a b : Cur} : curEq a b = true ↔ a = b := by
  unfold curEq
  simp only [Bool.and_eq_true, beq_iff_eq]
  exact ⟨fun ⟨h1, h2, h3, h4⟩ => Cur.ext' h1 h2 h3 h4, fun h => by subst h; simp⟩
theorem curP_eq (c : Cur) (n : Int) : curP c n = curB c n := by
  unfold curP curB
  by_cases h : c.kind = 0
  · rw [if_pos h, if_pos h, Bool.eq_iff_iff, curEq_iff, decide_eq_true_eq]
  · rw [if_neg h, if_neg h]
    by_cases h1 : c.kind = 1
    · rw [if_pos h1, Bool.eq_iff_iff]
      simp only [Bool.and_eq_true, Bool.or_eq_true, wi_iff, beq_iff_eq]
      omega
    · rw [if_neg h1]
      by_cases h2 : c.kind = 2
      · rw [if_pos h2, Bool.eq_iff_iff]
        simp only [Bool.and_eq_true, Bool.or_eq_true, wi_iff, beq_iff_eq]
        omega
      · rw [if_neg h2, Bool.eq_iff_iff]
        simp only [Bool.and_eq_true, Bool.or_eq_true, wi_iff, beq_iff_eq]
        simp [h1, h2]
theorem hole_b {p : Pt} (h : Pt.hole p = true) : p.b = 0 := by
  unfold Pt.hole Pt.same at h
  simp only [Bool.and_eq_true, beq_iff_eq] at h
  exact h.1.1.2
theorem chk_zero (p : Pt) : (Pt.chk p == 0) = Pt.mayB p := by unfold Pt.chk; cases Pt.mayB p <;> rfl
theorem rec_eq (x : Rec) : mayR x = (!(wrNum x) && (!(wrRoot x) && !(wrKind x))) := by
  unfold mayR wrNum wrRoot wrKind rootB
  rw [chk_zero]
  cases hn : (wi x.id 1 2147483647 && (wi x.size 1 64 && wi x.made 1 2147483648)) with
  | false => simp
  | true =>
    have hm : 1 ≤ x.made := by
      simp only [Bool.and_eq_true, wi_iff] at hn
      omega
    by_cases k1 : x.kind = 1
    · rw [if_pos k1, if_pos k1]
      have e2 : (x.kind == 2) = false := by rw [k1]; rfl
      rw [e2]
      cases hh : Pt.hole x.root with
      | true =>
        have : Pt.mayB x.root = true := by unfold Pt.mayB; rw [hh]; rfl
        rw [this]; simp
      | false => cases Pt.mayB x.root <;> cases (x.root.l == 3) <;> simp
    · rw [if_neg k1, if_neg k1]
      by_cases k2 : x.kind = 2
      · rw [if_pos k2, if_pos k2]
        have e2 : (x.kind == 2) = true := by rw [k2]; rfl
        rw [e2]
        unfold snpR snpK
        cases hh : Pt.hole x.root with
        | true =>
          have h1 : Pt.mayB x.root = true := by unfold Pt.mayB; rw [hh]; rfl
          have h2 : decide (x.root.b ≤ x.made) = true := by rw [hole_b hh]; simp; omega
          rw [h1, h2]; simp
        | false =>
          have h2 : decide (x.root.b ≤ x.made) = !(decide (x.made < x.root.b)) := by
            by_cases h : x.made < x.root.b <;> simp [h] <;> omega
          rw [h2]
          cases Pt.mayB x.root <;> cases (x.root.l == 3) <;> cases (decide (x.made < x.root.b)) <;> simp
      · rw [if_neg k2, if_neg k2]
        simp
theorem p3_iff (rs : List Rec) : p3 rs = true ↔ ∀ x ∈ rs, mayR x = true := by
  unfold p3 passB
  simp only [List.all_cons, List.all_nil, Bool.and_true, Bool.and_eq_true, Bool.not_eq_true', List.any_eq_false]
  constructor
  · rintro ⟨h1, h2, h3⟩ x hx
    rw [rec_eq]
    have a := h1 x hx
    have b := h2 x hx
    have c := h3 x hx
    simp at a b c
    simp [a, b, c]
  · intro h
    refine ⟨fun x hx => ?_, fun x hx => ?_, fun x hx => ?_⟩ <;> (have := h x hx; rw [rec_eq] at this; simp at this; simp [this])
theorem alikeB_iff {x o : Rec} : alikeB x o = true ↔ o.id = x.id ∨ o.name = x.name := by
  unfold alikeB
  rw [Bool.or_eq_true, beq_iff_eq, str_eq]
/-- No two are alike. -/
def Apart (rs : List Rec) : Prop := ∀ (i j : Nat) (x y : Rec), i ≠ j → rs[i]? = some x → rs[j]? = some y → alikeB x y = false
theorem tw_iff (rs : List Rec) : (∀ x ∈ rs, twB rs x = false) ↔ Apart rs := by
  constructor
  · intro h i j x y hij hx hy
    have hm : x ∈ rs := List.mem_of_getElem? hx
    have ht := h x hm
    unfold twB at ht
    have hself : alikeB x x = true := alikeB_iff.2 (.inl rfl)
    rcases idx_cases (alikeB x) rs with ⟨_, h2⟩ | ⟨k, z, h1, h2, h3, h4⟩
    · rw [h2 x hm] at hself; cases hself
    · rw [h1, show ((k : Int) + 1).toNat = k + 1 by omega, List.any_eq_false] at ht
      have hlater : ∀ (m : Nat) u, k < m → rs[m]? = some u → alikeB x u = false := fun m u hkm hu => by
        have : u ∈ rs.drop (k + 1) := by
          refine List.mem_of_getElem? (i := m - (k + 1)) ?_
          rw [List.getElem?_drop, show k + 1 + (m - (k + 1)) = m by omega]; exact hu
        simpa using ht u this
      have hik : i = k := by
        rcases Nat.lt_trichotomy i k with c | c | c
        · rw [h4 i x c hx] at hself; cases hself
        · exact c
        · rw [hlater i x c hx] at hself; cases hself
      subst hik
      rcases Nat.lt_or_ge j i with c | c
      · exact h4 j y c hy
      · exact hlater j y (by omega) hy
  · intro h x hm
    obtain ⟨i, hi, rfl⟩ := List.getElem_of_mem hm
    have hx : rs[i]? = some rs[i] := List.getElem?_eq_getElem hi
    have e : idx (alikeB rs[i]) rs = i := idx_hit hi (alikeB_iff.2 (.inl rfl)) fun j hj hji => h i j _ _ (by omega) hx (List.getElem?_eq_getElem hj)
    unfold twB
    rw [e, show ((i : Int) + 1).toNat = i + 1 by omega, List.any_eq_false]
    intro y hy
    obtain ⟨m, hmy⟩ := List.getElem?_of_mem hy
    rw [List.getElem?_drop] at hmy
    rw [h i _ _ _ (by omega) hx hmy]; simp
theorem sort_iff (rs : List Rec) : sortB rs = true ↔ ∀ (j : Nat) (x y : Rec), rs[j + 1]? = some x → rs[j]? = some y → lessS x.name y.name = false := by
  constructor
  · intro h j x y hx hy
    have hj : j + 1 < rs.length := (List.getElem?_eq_some_iff.1 hx).1
    cases hb : lessS x.name y.name with
    | false => rfl
    | true =>
      have e1 : rs[j + 1] = x := (List.getElem?_eq_some_iff.1 hx).2
      have e2 : rs[j] = y := (List.getElem?_eq_some_iff.1 hy).2
      have := sortB_no (l := rs) (j := j) hj (by rw [e1, e2]; exact hb)
      rw [this] at h; cases h
  · intro h
    exact sortB_yes fun j hj => h j _ _ (List.getElem?_eq_getElem _) (List.getElem?_eq_getElem _)
theorem kin_iff {rs : List Rec} {x : Rec} (h : mayR x = true) : (orB rs x = false ∧ stB rs x = false) ↔ kinB rs x = true := by
  unfold mayR at h
  simp only [Bool.and_eq_true] at h
  obtain ⟨_, _, h⟩ := h
  have ho : (rs.any (origB x)) = (rs.any fun y => y.id == x.origin && y.kind == 2) := by
    congr 1; funext y; unfold origB; exact Bool.and_comm _ _
  unfold orB stB kinB
  rw [ho]
  by_cases k1 : x.kind = 1
  · rw [if_pos k1] at h
    unfold volR at h
    simp only [Bool.and_eq_true] at h
    rw [if_neg (show ¬ x.kind = 2 by omega)]
    have hs : snapS x.name = false := by
      cases hb : snapS x.name with
      | false => rfl
      | true => have := snap_part hb; rw [this] at h; cases h.1
    rw [hs]
    cases (x.origin == 0) <;> cases (rs.any fun y => y.id == x.origin && y.kind == 2) <;> simp
  · rw [if_neg k1] at h
    by_cases k2 : x.kind = 2
    · rw [if_pos k2] at h
      unfold snpR at h
      simp only [Bool.and_eq_true] at h
      rw [if_pos k2, h.1, h.2.2.1]
      cases fnd (spl1 x.name) rs with
      | none => simp
      | some i => cases hq : rs[i]? <;> simp [hq]
    · rw [if_neg k2] at h; cases h
theorem mayP_eq (t : Tab) : mayP t = mayT t := by
  rw [Bool.eq_iff_iff, mayT_iff]
  unfold mayP
  rw [curP_eq]
  unfold livB okL p4 passB
  simp only [List.all_cons, List.all_nil, Bool.and_true, Bool.and_eq_true, Bool.not_eq_true', List.any_eq_false, wi_iff, List.all_eq_true, p3_iff, sort_iff, decide_eq_true_eq]
  constructor
  · rintro ⟨⟨n0, n1⟩, ⟨_, r1⟩, ⟨⟨l0, l1⟩, hl⟩, hc, h3, hs, htw, hby, hor, hst⟩
    have hap := (tw_iff t.recs).1 (fun x hx => by simpa using htw x hx)
    refine ⟨n0, n1, by omega, by omega, by omega, hl, allB_iff.2 fun i x hx => ?_, hc⟩
    have hm : x ∈ t.recs := List.mem_of_getElem? hx
    unfold stand
    have hk := (kin_iff (rs := t.recs) (h3 x hm)).1 ⟨by simpa using hor x hm, by simpa using hst x hm⟩
    have hid : x.id < t.next := by have := hby x hm; simp at this; omega
    rw [h3 x hm, hk]
    simp only [Bool.true_and, Bool.and_true, Bool.and_eq_true, decide_eq_true_eq, List.all_eq_true]
    refine ⟨hid, ?_, ?_⟩
    · cases i with
      | zero => rfl
      | succ k =>
        have hkl : k < t.recs.length := by have := (List.getElem?_eq_some_iff.1 hx).1; omega
        have hy : t.recs[k]? = some t.recs[k] := List.getElem?_eq_getElem hkl
        show (match t.recs[k]? with | some y => lessS y.name x.name | none => false) = true
        rw [hy]
        show lessS (t.recs[k]).name x.name = true
        cases hb : lessS (t.recs[k]).name x.name with
        | true => rfl
        | false =>
          have hne := hap (k + 1) k x _ (by omega) hx hy
          have := less_tri hb (hs k x _ hx hy)
          have := alikeB_iff (x := x) (o := t.recs[k]) |>.2 (.inr this)
          rw [hne] at this; cases this
    · intro y hy
      obtain ⟨j, hj⟩ := List.getElem?_of_mem hy
      have hji : j < i := by
        have := (List.getElem?_eq_some_iff.1 hj).1
        simp at this; omega
      rw [List.getElem?_take_of_lt hji] at hj
      have hne := hap i j x y (by omega) hx hj
      cases hb : (y.id != x.id) with
      | true => rfl
      | false =>
        have := alikeB_iff (x := x) (o := y) |>.2 (.inl (by simpa [bne] using hb))
        rw [hne] at this; cases this
  · intro h
    have h3 : ∀ x ∈ t.recs, mayR x = true := fun x hx => h.one hx
    have hst : ∀ (i : Nat) (x : Rec), t.recs[i]? = some x → stand t.next t.recs i x = true := fun i x hx => allB_rec h.recs hx
    have hk : ∀ x ∈ t.recs, x.id < t.next ∧ kinB t.recs x = true := fun x hx => by
      obtain ⟨i, hi⟩ := List.getElem?_of_mem hx
      have := hst i x hi
      unfold stand at this
      simp only [Bool.and_eq_true, decide_eq_true_eq] at this
      exact ⟨this.2.1, this.2.2.2.2⟩
    have hap : Apart t.recs := by
      have key : ∀ (i j : Nat) (x y : Rec), j < i → t.recs[i]? = some x → t.recs[j]? = some y → x.id ≠ y.id ∧ x.name ≠ y.name := by
        intro i j x y hji hx hy
        refine ⟨fun e => ?_, fun e => ?_⟩
        · have hs := hst i x hx
          unfold stand at hs
          simp only [Bool.and_eq_true, List.all_eq_true] at hs
          have := hs.2.2.2.1 y (List.mem_of_getElem? (i := j) (by rw [List.getElem?_take_of_lt hji]; exact hy))
          rw [e] at this; simp at this
        · have := names_rise h.recs hy hx hji
          rw [e, less_irrefl] at this; cases this
      intro i j x y hij hx hy
      cases hb : alikeB x y with
      | false => rfl
      | true =>
        have hor := alikeB_iff.1 hb
        rcases Nat.lt_or_ge j i with c | c
        · have := key i j x y c hx hy
          rcases hor with e | e
          · exact absurd e.symm this.1
          · exact absurd e.symm this.2
        · have := key j i y x (by omega) hy hx
          rcases hor with e | e
          · exact absurd e this.1
          · exact absurd e this.2
    refine ⟨⟨h.n0, h.n1⟩, ⟨by omega, by have := h.many; omega⟩, ⟨⟨by have := h.l0; omega, by have := h.l1; omega⟩, h.lives⟩, h.cur, h3, fun j x y hx hy => ?_, fun x hx => ?_, fun x hx => ?_, fun x hx => ?_, fun x hx => ?_⟩
    · exact less_asymm (names_rise h.recs hy hx (by omega))
    · rw [(tw_iff t.recs).2 hap x hx]; simp
    · have := (hk x hx).1; simp; omega
    · rw [((kin_iff (h3 x hx)).2 (hk x hx).2).1]; simp
    · rw [((kin_iff (h3 x hx)).2 (hk x hx).2).2]; simp
end Go.Proofs.YtljhanhipmnioaaGreat.Rd

namespace Go.Proofs.YtljhanhipmnioaaGreat.Rd
open Go.RowKit
set_option linter.unusedVariables false
set_option linter.unusedSimpArgs false
set_option maxRecDepth 100000

open Pt (Pt may enc readPt readE zeroPt be4 be1 pc pv PtV SlA OwnA BT wpList_load_g heap_alloc_at lst_slB one_slB Ext Grew exec_slice_lh yieldsIf_ld)
open Kr (OwnE SlE Enco RowTys)

set_option maxHeartbeats 1000000 in
theorem CheckT_any (vr vl : Value) (t : Tab) (w : World) (h : TabV w vr vl t) (hf : FitT t) : Calls Tryz.prog 22 #[tv vr vl t] w fun e w' => e = .returned (.int .i64 (mayTE t)) ∧ Frm [] w w' := by
  have HM := Lib.hid (fun z (f : Frm [] w z) => mayBe_any vr vl t z (h.keep0 f) hf)
  rw [mayP_eq] at HM
  unfold mayTE
  unfold tv
  have HTV := Lib.hid (show tv vr vl t = .agg (tc vr vl t).toArray from rfl)
  have f0 : Frm [] w (w.alloc (.cells (tc vr vl t).toArray 27)) := (Frm.refl [] w).alloc _
  have LT := Lib.hid (TB.new w vr vl t).gets.all
  generalize (tc vr vl t).toArray = A at *
  have F := Lib.hid f0
  generalize mayT t = mb at *
  clear f0 h hf
  cases mb
  all_goals
    go_enter Tryz.func22, Tryz.ntmps22
    go_upto_region 1 with (fail)
    generalize w.alloc (.cells A 27) = W at *
    go_wp2_with (first
      | ((with_reducible (show wpList _ _ _ (Oper.mk _ (Op.load 27 _) _ _ _ _ :: _) _ _)); refine wpList_load_g (by rfl) 27 _ rfl _ rfl LT.out ?_)
      | (go_at_call 68; refine (HM.out _ F.out).mono ?_; rintro e w1 ⟨rfl, f1⟩))
    go_ret
    exact ⟨rfl, F.out.trans f1 (by simp)⟩
end Go.Proofs.YtljhanhipmnioaaGreat.Rd

namespace Go.Proofs.YtljhanhipmnioaaGreat.Rd
open Go.RowKit
set_option linter.unusedVariables false
set_option linter.unusedSimpArgs false
set_option maxRecDepth 100000

open Pt (Pt may enc readPt readE zeroPt be4 be1 pc pv PtV SlA OwnA BT wpList_load_g heap_alloc_at lst_slB one_slB Ext Grew exec_slice_lh yieldsIf_ld)
open Kr (OwnE SlE Enco RowTys)

open Pt (number1)
theorem BW : ByteTys Tryz.prog 85 5 := ⟨by kernel_rfl, by kernel_rfl, by kernel_rfl⟩
/-- Bytes of a slice that has been made since a world; all that stood then is as it was. -/
structure Wr (w0 w : World) (v : Value) (l : List UInt8) : Prop where
  own : ∃ sp, OwnB 5 w v l sp
  frm : Frm [] w0 w
  new : ∀ i ∈ blk v, w0.heap.size ≤ i
def Put (w0 w : World) (v : Value) (l : List UInt8) (e : Ending) (w' : World) : Prop := ∃ v', e = .returned v' ∧ Wr w0 w' v' l ∧ Grew w v w' v'
theorem Wr.form {w0 w : World} {v : Value} {l : List UInt8} (h : Wr w0 w v l) : ∃ a cap, v = .slice a l.length cap := by
  obtain ⟨sp, h⟩ := h.own
  obtain ⟨a, cap, e, _, _⟩ := h.sl.form
  exact ⟨a, cap, e⟩
theorem Wr.grew {w0 w w' : World} {v v' : Value} {l l' : List UInt8} (h : Wr w0 w v l) (g : Grew w v w' v') (ho : ∃ sp, OwnB 5 w' v' l' sp) : Wr w0 w' v' l' :=
  ⟨ho, h.frm.trans g.1 (fun i hi => .inr (h.new i hi)), fun i hi => (g.2 i hi).elim (h.new i) (fun h2 => Nat.le_trans h.frm.size h2)⟩
theorem Wr.keep0 {w0 w w' : World} {v : Value} {l : List UInt8} (h : Wr w0 w v l) (f : Frm [] w w') : Wr w0 w' v l := by
  obtain ⟨sp, ho⟩ := h.own
  exact ⟨⟨sp, ho.keep f (by simp)⟩, h.frm.trans f (by simp), h.new⟩
theorem Put.of {w0 w : World} {v : Value} {l l' : List UInt8} (h : Wr w0 w v l) {e : Ending} {w' : World} (hx : Ext w v l' e w') : Put w0 w v l' e w' := by
  obtain ⟨a, cap, sp, rfl, ho, g⟩ := hx
  exact ⟨_, rfl, h.grew g ⟨sp, ho⟩, g⟩
/-- A block that a slice's growth leaves as it was. -/
theorem grew_heap {w w' : World} {v v' : Value} (g : Grew w v w' v') {k : Nat} {o : Obj} (h : w.heap[k]? = some o) (hk : k ∉ blk v) : w'.heap[k]? = some o ∧ k ∉ blk v' :=
  ⟨g.1.heap h hk, fun hm => (g.2 k hm).elim hk (fun h2 => by have := lt_heap h; omega)⟩
theorem of_div {m : Int} (h : 0 ≤ m) (k : Nat) : (m / k).toNat = m.toNat / k := by
  obtain ⟨n, rfl⟩ := Int.eq_ofNat_of_zero_le h
  rfl
set_option maxHeartbeats 1000000 in
theorem one_any (v : Value) (l sp : List UInt8) (n : Int) (w : World) (hO : OwnB 5 w v l sp) (hl : l.length ≤ 1000000) (hn : 0 ≤ n ∧ n < 1099511627776) : Calls Tryz.prog 126 #[v, .int .i64 n] w (Ext w v (l ++ be1 n.toNat)) := by
  obtain ⟨a0, cap0, rfl, _, _⟩ := hO.sl.form
  have hl9 : (l.length : Int) ≤ 1000000 := by omega
  have O0 := Lib.hid hO
  have G0 := Lib.hid (Grew.refl w (.slice a0 l.length cap0))
  have HB := Lib.hid (show n % 256 = ((UInt8.ofNat n.toNat).toNat : Int) by rw [UInt8.toNat_ofNat']; omega)
  clear hO hl
  go_enter Tryz.func126, Tryz.ntmps126
  go_wp2_with (at_builtin; refine wpList_append_bytes BW (O0.out.keep ((Frm.refl [] _).alloc _) (by simp)) (one_slB (b := UInt8.ofNat n.toNat) (heap_alloc_at rfl) HB.out) (by simp; omega) rfl (.tmp 5) (.tmp 8) rfl rfl rfl ?_; intro a1 cap1 w1 sp1 o1 f1 b1; simp only [List.length_append, List.length_cons, List.length_nil, Nat.zero_add] at o1 b1 ⊢; have O1 := Lib.hid o1; have G1 := Lib.hid (G0.out.trans (Grew.pre ((Frm.refl [] _).alloc _) ⟨f1, b1⟩)); clear o1 f1 b1)
  go_ret
  refine ⟨a1, cap1, sp1, ?_, ?_, ?_⟩
  · simp [be1]
  · simpa [be1] using O1.out
  · simpa [be1] using G1.out
theorem oneW (w0 : World) (v : Value) (l : List UInt8) (n : Int) (w : World) (h : Wr w0 w v l) (hl : l.length ≤ 1000000) (hn : 0 ≤ n ∧ n < 1099511627776) : Calls Tryz.prog 126 #[v, .int .i64 n] w (Put w0 w v (l ++ be1 n.toNat)) := by
  obtain ⟨sp, ho⟩ := h.own
  exact (one_any v l sp n w ho hl hn).mono fun e w' hx => Put.of h hx
set_option maxHeartbeats 1000000 in
theorem fourW (w0 : World) (v : Value) (l : List UInt8) (n : Int) (w : World) (h : Wr w0 w v l) (hl : l.length ≤ 900000) (hn : 0 ≤ n ∧ n < 1099511627776) : Calls Tryz.prog 60 #[v, .int .i64 n] w (Put w0 w v (l ++ be4 n.toNat)) := by
  have hbe : be4 n.toNat = be1 (n / 16777216).toNat ++ (be1 (n / 65536).toNat ++ (be1 (n / 256).toNat ++ be1 n.toNat)) := by
    have e1 : (n / 16777216).toNat = n.toNat / 16777216 := of_div hn.1 16777216
    have e2 : (n / 65536).toNat = n.toNat / 65536 := of_div hn.1 65536
    have e3 : (n / 256).toNat = n.toNat / 256 := of_div hn.1 256
    rw [e1, e2, e3]; rfl
  rw [hbe, ← List.append_assoc, ← List.append_assoc, ← List.append_assoc]
  clear hbe
  have c1 : 0 ≤ n / 16777216 ∧ n / 16777216 < 1099511627776 := by omega
  have c2 : 0 ≤ n / 65536 ∧ n / 65536 < 1099511627776 := by omega
  have c3 : 0 ≤ n / 256 ∧ n / 256 < 1099511627776 := by omega
  have H1 := Lib.hid (oneW w0 v l _ w h (by omega) c1)
  have H2 := Lib.hid (fun z v1 (h1 : Wr w0 z v1 (l ++ be1 (n / 16777216).toNat)) => oneW w0 v1 _ _ z h1 (by simp [be1]; omega) c2)
  have H3 := Lib.hid (fun z v1 (h1 : Wr w0 z v1 (l ++ be1 (n / 16777216).toNat ++ be1 (n / 65536).toNat)) => oneW w0 v1 _ _ z h1 (by simp [be1]; omega) c3)
  have H4 := Lib.hid (fun z v1 (h1 : Wr w0 z v1 (l ++ be1 (n / 16777216).toNat ++ be1 (n / 65536).toNat ++ be1 (n / 256).toNat)) => oneW w0 v1 _ _ z h1 (by simp [be1]; omega) hn)
  generalize (l ++ be1 (n / 16777216).toNat) = l1 at *
  generalize (l1 ++ be1 (n / 65536).toNat) = l2 at *
  generalize (l2 ++ be1 (n / 256).toNat) = l3 at *
  generalize (l3 ++ be1 n.toNat) = l4 at *
  clear h hl hn c1 c2 c3
  go_enter Tryz.func60, Tryz.ntmps60
  go_wp2_with (first
    | (go_at_call 126; (with_reducible refine H1.out.mono ?_); rintro e w1 ⟨v1, rfl, h1, g1⟩; have K2 := Lib.hid (H2.out _ _ h1); have G1 := Lib.hid g1; clear h1 g1)
    | (go_at_call 126; (with_reducible refine K2.out.mono ?_); rintro e w2 ⟨v2, rfl, h2, g2⟩; have K3 := Lib.hid (H3.out _ _ h2); have G2 := Lib.hid (G1.out.trans g2); clear h2 g2)
    | (go_at_call 126; (with_reducible refine K3.out.mono ?_); rintro e w3 ⟨v3, rfl, h3, g3⟩; have K4 := Lib.hid (H4.out _ _ h3); have G3 := Lib.hid (G2.out.trans g3); clear h3 g3)
    | (go_at_call 126; (with_reducible refine K4.out.mono ?_); rintro e w4 ⟨v4, rfl, h4, g4⟩; have G4 := Lib.hid (G3.out.trans g4); have HW4 := Lib.hid h4; clear h4 g4))
  go_ret
  exact ⟨v4, rfl, HW4.out, G4.out⟩
end Go.Proofs.YtljhanhipmnioaaGreat.Rd

namespace Go.Proofs.YtljhanhipmnioaaGreat.Rd
open Go.RowKit
set_option linter.unusedVariables false
set_option linter.unusedSimpArgs false
set_option maxRecDepth 100000

open Pt (Pt may enc readPt readE zeroPt be4 be1 pc pv PtV SlA OwnA BT wpList_load_g heap_alloc_at lst_slB one_slB Ext Grew exec_slice_lh yieldsIf_ld)
open Kr (OwnE SlE Enco RowTys)

theorem wpList_appS {P : Program} {tS tx : TypeId} (B : ByteTys P tS 5) {w0 w : World} {ops : Array Oper} {rest : List Oper} {o : Oper} {a : Act} {Q : Exit → Act → World → Prop}
    {v y : Value} {l m : List UInt8} (h : Wr w0 w v l) (hS : Src P 1 tx y m.length (bvs m) w) (hb : l.length + m.length ≤ 140737488355328)
    (hg : o.guard = none) (s x : Operand) (hop : o.op = Op.call { callee := Callee.builtin Builtin.append, args := #[s, x], argTypes := #[tS, tx] }) (hs : a.eval s = v) (hx : a.eval x = y)
    (k : ∀ v' w', Wr w0 w' v' (l ++ m) → Grew w v w' v' → wpList P ops Q rest (a.put o.dst v') w') :
    wpList P ops Q (o :: rest) a w := by
  obtain ⟨sp, ho⟩ := h.own
  refine wpList_append_src B ho hS hb hg s x hop hs hx fun a' c' w' sp' h1 h2 h3 => ?_
  exact k _ w' (h.grew ⟨h2, h3⟩ ⟨sp', h1⟩) ⟨h2, h3⟩
set_option maxHeartbeats 1000000 in
theorem textW (w0 : World) (v : Value) (l : List UInt8) (s : ByteArray) (w : World) (h : Wr w0 w v l) (hl : l.length ≤ 900000) (hs : s.size ≤ 1000) : Calls Tryz.prog 188 #[v, .string s] w (Put w0 w v (l ++ (be1 s.data.toList.length ++ s.data.toList))) := by
  have H1 := Lib.hid (oneW w0 v l (s.size : Int) w h (by omega) (by omega))
  have hz : (s.size : Int).toNat = s.data.toList.length := by rw [Lib.size_eq]; rfl
  rw [hz] at H1
  have HL := Lib.hid (show (l ++ be1 s.data.toList.length).length + s.data.toList.length ≤ 140737488355328 by rw [← Lib.size_eq]; simp [be1]; omega)
  rw [← List.append_assoc]
  generalize (l ++ be1 s.data.toList.length) = l1 at *
  clear hz h hl hs
  go_enter Tryz.func188, Tryz.ntmps188
  go_wp2_with (first
    | (go_at_call 126; (with_reducible refine H1.out.mono ?_); rintro e w1 ⟨v1, rfl, h1, g1⟩; have G1 := Lib.hid g1; have W1 := Lib.hid h1; clear h1 g1)
    | (at_builtin; refine wpList_appS BW W1.out (src_string Tryz.underlying9 s _) HL.out rfl (.tmp 8) (.tmp 9) rfl rfl rfl ?_; intro v2 w2 h2 g2; have G2 := Lib.hid (G1.out.trans g2); have W2 := Lib.hid h2; clear h2 g2))
  go_ret
  exact ⟨v2, rfl, W2.out, G2.out⟩
set_option maxHeartbeats 1000000 in
theorem rootW (w0 : World) (v x : Value) (l : List UInt8) (p : Pt) (w : World) (h : Wr w0 w v l) (hl : l.length ≤ 900000) (hp : PtV w x p) (ha : p.ads.length ≤ 1000000) (ho : (Pt.outB p).length ≤ 1000) : Calls Tryz.prog 189 #[v, x] w (Put w0 w v (l ++ Pt.outB p)) := by
  obtain ⟨A, rfl, hA, hbx⟩ := hp.box
  have HB := Lib.hid (hbx w)
  have f0 : Frm [] w (w.alloc (.cells A 54)) := (Frm.refl [] w).alloc _
  have HC := Lib.hid (Pt.Bytes_any (.agg A) p (w.alloc (.cells A 54)) (hp.keep0 f0) ha)
  have LX := Lib.hid HB.out.load
  have W0 := Lib.hid h
  have HL := Lib.hid (show l.length + (Pt.outB p).length ≤ 140737488355328 by omega)
  have F0 := Lib.hid f0
  unfold Pt.BytesP at HC
  generalize Pt.outB p = m at *
  generalize Pt.chk p = ck at *
  clear h hl hp ha ho f0 hA hbx HB
  go_enter Tryz.func189, Tryz.ntmps189
  go_upto_region 1 with (fail)
  generalize w.alloc (.cells A 54) = W at *
  go_upto_region 2 with (first
    | ((with_reducible (show wpList _ _ _ (Oper.mk _ (Op.load 54 _) _ _ _ _ :: _) _ _)); refine wpList_load_g (by rfl) 54 _ rfl _ rfl LX.out ?_)
    | (go_at_call 223; refine HC.out.mono ?_; rintro e w1 ⟨a1, c1, sp1, rfl, o1, f1, n1⟩))
  have W1 := Lib.hid ((W0.out.keep0 F0.out).keep0 f1)
  have O1 := Lib.hid o1.sl
  have F1 := Lib.hid (F0.out.trans f1 (by simp))
  clear o1 f1 n1 HC
  go_wp2_with (at_builtin; refine wpList_appS BW W1.out (Sl.src Tryz.underlying31 O1.out (bvs_one _)) HL.out rfl (.tmp 12) (.tmp 13) rfl rfl rfl ?_; intro v2 w2 h2 g2; have G2 := Lib.hid (Grew.pre F1.out g2); have W2 := Lib.hid h2; clear h2 g2)
  go_ret
  exact ⟨v2, rfl, W2.out, G2.out⟩
/-- A block beside the bytes, and the bytes. -/
structure Wb (w0 w : World) (g : Nat) (o : Obj) (v : Value) (l : List UInt8) : Prop where
  wr : Wr w0 w v l
  box : w.heap[g]? = some o
  out : g ∉ blk v
theorem Wb.next {w0 w w' : World} {g : Nat} {o : Obj} {v v' : Value} {l l' : List UInt8} (h : Wb w0 w g o v l) (k : Wr w0 w' v' l') (gr : Grew w v w' v') : Wb w0 w' g o v' l' :=
  ⟨k, (grew_heap gr h.box h.out).1, (grew_heap gr h.box h.out).2⟩
theorem Grew.post {w w1 w2 : World} {v v1 : Value} (g : Grew w v w1 v1) (f : Frm [] w1 w2) : Grew w v w2 v1 := ⟨g.1.trans f (by simp), g.2⟩
set_option maxHeartbeats 4000000 in
theorem cursorW (w0 : World) (v : Value) (l : List UInt8) (c : Cur) (w : World) (h : Wr w0 w v l) (hl : l.length ≤ 800000) (hk : 0 ≤ c.kind ∧ c.kind < 256) (hd : 0 ≤ c.dev ∧ c.dev < 256) (ha : 0 ≤ c.at_ ∧ c.at_ < 4294967296) (ht : 0 ≤ c.txg ∧ c.txg < 4294967296) : Calls Tryz.prog 62 #[v, cv c] w (Put w0 w v (l ++ encC c)) := by
  unfold encC
  rw [← List.append_assoc, ← List.append_assoc, ← List.append_assoc]
  have f0 : Frm [] w (w.alloc (.cells #[.int .i64 c.kind, .int .i64 c.dev, .int .i64 c.at_, .int .i64 c.txg] 24)) := (Frm.refl [] w).alloc _
  have hb : (w.alloc (.cells #[.int .i64 c.kind, .int .i64 c.dev, .int .i64 c.at_, .int .i64 c.txg] 24)).heap[w.heap.size]? = some (.cells #[.int .i64 c.kind, .int .i64 c.dev, .int .i64 c.at_, .int .i64 c.txg] 24 (0, 0)) := heap_alloc_new _ _
  have WB0 := Lib.hid (show Wb w0 (w.alloc (.cells #[.int .i64 c.kind, .int .i64 c.dev, .int .i64 c.at_, .int .i64 c.txg] 24)) w.heap.size (.cells #[.int .i64 c.kind, .int .i64 c.dev, .int .i64 c.at_, .int .i64 c.txg] 24 (0, 0)) v l from ⟨h.keep0 f0, hb, fun hm => by obtain ⟨sp, ho⟩ := h.own; have := ho.lt _ hm; omega⟩)
  have H1 := Lib.hid (fun z v1 (h1 : Wr w0 z v1 l) => oneW w0 v1 _ c.kind z h1 (by omega) (by omega))
  have H2 := Lib.hid (fun z v1 (h1 : Wr w0 z v1 (l ++ be1 c.kind.toNat)) => oneW w0 v1 _ c.dev z h1 (by simp [be1]; omega) (by omega))
  have H3 := Lib.hid (fun z v1 (h1 : Wr w0 z v1 (l ++ be1 c.kind.toNat ++ be1 c.dev.toNat)) => fourW w0 v1 _ c.at_ z h1 (by simp [be1]; omega) (by omega))
  have H4 := Lib.hid (fun z v1 (h1 : Wr w0 z v1 (l ++ be1 c.kind.toNat ++ be1 c.dev.toNat ++ be4 c.at_.toNat)) => fourW w0 v1 _ c.txg z h1 (by simp [be1, be4]; omega) (by omega))
  show Calls Tryz.prog 62 #[v, .agg #[.int .i64 c.kind, .int .i64 c.dev, .int .i64 c.at_, .int .i64 c.txg]] w _
  have GT := Lib.hid (show ∀ z : World, z.heap[w.heap.size]? = some (.cells #[.int .i64 c.kind, .int .i64 c.dev, .int .i64 c.at_, .int .i64 c.txg] 24 (0, 0)) → z.cell? ⟨w.heap.size, 0, none⟩ = some (.int .i64 c.kind) ∧ z.cell? ⟨w.heap.size, 1, none⟩ = some (.int .i64 c.dev) ∧ z.cell? ⟨w.heap.size, 2, none⟩ = some (.int .i64 c.at_) ∧ z.cell? ⟨w.heap.size, 3, none⟩ = some (.int .i64 c.txg) from fun z hz => ⟨cell_of_heap hz 0, cell_of_heap hz 1, cell_of_heap hz 2, cell_of_heap hz 3⟩)
  generalize (#[.int .i64 c.kind, .int .i64 c.dev, .int .i64 c.at_, .int .i64 c.txg] : Array Value) = A at *
  generalize (l ++ be1 c.kind.toNat) = l1 at *
  generalize (l1 ++ be1 c.dev.toNat) = l2 at *
  generalize (l2 ++ be4 c.at_.toNat) = l3 at *
  generalize (l3 ++ be4 c.txg.toNat) = l4 at *
  have F0 := Lib.hid f0
  generalize hgz : w.heap.size = g at *
  clear h hl hk hd ha ht hb f0
  go_enter Tryz.func62, Tryz.ntmps62
  go_upto_region 1 with (fail)
  generalize w.alloc (.cells A 24) = W at *
  have WBd := Lib.hid (show Wb w0 W.drew g (.cells A 24 (0, 0)) v l from ⟨WB0.out.wr.keep0 ((Frm.refl [] W).drew), WB0.out.box, WB0.out.out⟩)
  have F0d := Lib.hid F0.out.drew
  refine wp_region_held_drew (S := fun z => z.heap[g]? = some (.cells A 24 (0, 0))) (by kernel_rfl) (WB0.out.box) (fun hHeld => ?_)
  refine wpAnyH_take (i := 0) (oi := ⟨some 5, .move (.tmp 0), _, _, _, none⟩) (v := ?_) rfl (by kernel_rfl) (by kernel_rfl) (by kernel_rfl) (fun _ _ _ h => h) (Or.inl ⟨by rfl, ?_⟩) hHeld ?_
  rotate_left
  focus (intro z hSw; clear hSw; go_simp; try with_reducible rfl)
  try simp only [Act.put, List.setIfInBounds_toArray, List.set_cons_zero, List.set_cons_succ]
  refine wpAnyH_take (i := 1) (oi := ⟨some 6, .fieldAddr 24 (.tmp 3) 0, _, _, _, none⟩) (v := ?_) rfl (by kernel_rfl) (by kernel_rfl) (by kernel_rfl) (fun _ _ _ h => h) (Or.inl ⟨by rfl, ?_⟩) hHeld ?_
  rotate_left
  focus (intro z hSw; clear hSw; go_simp; try with_reducible rfl)
  try simp only [Act.put, List.setIfInBounds_toArray, List.set_cons_zero, List.set_cons_succ]
  refine wpAnyH_take (i := 2) (oi := ⟨some 7, .load 3 (.tmp 6), _, _, _, none⟩) (v := ?_) rfl (by kernel_rfl) (by kernel_rfl) (by kernel_rfl) (fun _ _ _ h => h) (Or.inl ⟨by rfl, ?_⟩) hHeld ?_
  rotate_left
  focus (intro z hSw; obtain ⟨q0, q1, q2, q3⟩ := GT.out z hSw; clear hSw; go_simp; try with_reducible rfl)
  try simp only [Act.put, List.setIfInBounds_toArray, List.set_cons_zero, List.set_cons_succ]
  refine wpAnyH_take (i := 4) (oi := ⟨some 9, .fieldAddr 24 (.tmp 3) 1, _, _, _, none⟩) (v := ?_) rfl (by kernel_rfl) (by kernel_rfl) (by kernel_rfl) (fun _ _ _ h => h) (Or.inl ⟨by rfl, ?_⟩) hHeld ?_
  rotate_left
  focus (intro z hSw; clear hSw; go_simp; try with_reducible rfl)
  try simp only [Act.put, List.setIfInBounds_toArray, List.set_cons_zero, List.set_cons_succ]
  refine wpAnyH_take (i := 5) (oi := ⟨some 10, .load 3 (.tmp 9), _, _, _, none⟩) (v := ?_) rfl (by kernel_rfl) (by kernel_rfl) (by kernel_rfl) (fun _ _ _ h => h) (Or.inl ⟨by rfl, ?_⟩) hHeld ?_
  rotate_left
  focus (intro z hSw; obtain ⟨q0, q1, q2, q3⟩ := GT.out z hSw; clear hSw; go_simp; try with_reducible rfl)
  try simp only [Act.put, List.setIfInBounds_toArray, List.set_cons_zero, List.set_cons_succ]
  refine wpAnyH_take (i := 7) (oi := ⟨some 12, .fieldAddr 24 (.tmp 3) 2, _, _, _, none⟩) (v := ?_) rfl (by kernel_rfl) (by kernel_rfl) (by kernel_rfl) (fun _ _ _ h => h) (Or.inl ⟨by rfl, ?_⟩) hHeld ?_
  rotate_left
  focus (intro z hSw; clear hSw; go_simp; try with_reducible rfl)
  try simp only [Act.put, List.setIfInBounds_toArray, List.set_cons_zero, List.set_cons_succ]
  refine wpAnyH_take (i := 8) (oi := ⟨some 13, .load 3 (.tmp 12), _, _, _, none⟩) (v := ?_) rfl (by kernel_rfl) (by kernel_rfl) (by kernel_rfl) (fun _ _ _ h => h) (Or.inl ⟨by rfl, ?_⟩) hHeld ?_
  rotate_left
  focus (intro z hSw; obtain ⟨q0, q1, q2, q3⟩ := GT.out z hSw; clear hSw; go_simp; try with_reducible rfl)
  try simp only [Act.put, List.setIfInBounds_toArray, List.set_cons_zero, List.set_cons_succ]
  refine wpAnyH_take (i := 10) (oi := ⟨some 15, .fieldAddr 24 (.tmp 3) 3, _, _, _, none⟩) (v := ?_) rfl (by kernel_rfl) (by kernel_rfl) (by kernel_rfl) (fun _ _ _ h => h) (Or.inl ⟨by rfl, ?_⟩) hHeld ?_
  rotate_left
  focus (intro z hSw; clear hSw; go_simp; try with_reducible rfl)
  try simp only [Act.put, List.setIfInBounds_toArray, List.set_cons_zero, List.set_cons_succ]
  refine wpAnyH_take (i := 11) (oi := ⟨some 16, .load 3 (.tmp 15), _, _, _, none⟩) (v := ?_) rfl (by kernel_rfl) (by kernel_rfl) (by kernel_rfl) (fun _ _ _ h => h) (Or.inl ⟨by rfl, ?_⟩) hHeld ?_
  rotate_left
  focus (intro z hSw; obtain ⟨q0, q1, q2, q3⟩ := GT.out z hSw; clear hSw; go_simp; try with_reducible rfl)
  try simp only [Act.put, List.setIfInBounds_toArray, List.set_cons_zero, List.set_cons_succ]
  refine wpAnyH_ready (rs := [3]) (by kernel_rfl) (by simp) ?_
  refine AllReadyH.cons (o := ⟨some 8, .call { callee := .value (.func 126), args := #[.tmp 5, .tmp 7], argTypes := #[85, 3] }, _, _, _, none⟩) rfl (fun K hK => ?_) AllReadyH.nil
  go_simp
  refine (H1.out _ _ WBd.out.wr).mono ?_
  rintro r w1 ⟨v1, rfl, h1, g1⟩
  have WC1 := Lib.hid (WBd.out.next h1 g1)
  have GG := Lib.hid g1
  clear h1 g1
  refine hK.out _ _ ?_ (fun hNext => ?_)
  · exact WC1.out.box
  clear hK K hHeld
  have hHeld := hNext
  clear hNext
  try simp only [Act.put, List.setIfInBounds_toArray, List.set_cons_zero, List.set_cons_succ]
  refine wpAnyH_ready (rs := [6]) (by kernel_rfl) (by simp) ?_
  refine AllReadyH.cons (o := ⟨some 11, .call { callee := .value (.func 126), args := #[.tmp 8, .tmp 10], argTypes := #[85, 3] }, _, _, _, none⟩) rfl (fun K hK => ?_) AllReadyH.nil
  go_simp
  refine (H2.out _ _ WC1.out.wr).mono ?_
  rintro r w2 ⟨v2, rfl, h2, g2⟩
  have WC2 := Lib.hid (WC1.out.next h2 g2)
  have GG := Lib.hid (GG.out.trans g2)
  clear h2 g2
  refine hK.out _ _ ?_ (fun hNext => ?_)
  · exact WC2.out.box
  clear hK K hHeld
  have hHeld := hNext
  clear hNext
  try simp only [Act.put, List.setIfInBounds_toArray, List.set_cons_zero, List.set_cons_succ]
  refine wpAnyH_ready (rs := [9]) (by kernel_rfl) (by simp) ?_
  refine AllReadyH.cons (o := ⟨some 14, .call { callee := .value (.func 60), args := #[.tmp 11, .tmp 13], argTypes := #[85, 3] }, _, _, _, none⟩) rfl (fun K hK => ?_) AllReadyH.nil
  go_simp
  refine (H3.out _ _ WC2.out.wr).mono ?_
  rintro r w3 ⟨v3, rfl, h3, g3⟩
  have WC3 := Lib.hid (WC2.out.next h3 g3)
  have GG := Lib.hid (GG.out.trans g3)
  clear h3 g3
  refine hK.out _ _ ?_ (fun hNext => ?_)
  · exact WC3.out.box
  clear hK K hHeld
  have hHeld := hNext
  clear hNext
  try simp only [Act.put, List.setIfInBounds_toArray, List.set_cons_zero, List.set_cons_succ]
  refine wpAnyH_ready (rs := [12]) (by kernel_rfl) (by simp) ?_
  refine AllReadyH.cons (o := ⟨some 17, .call { callee := .value (.func 60), args := #[.tmp 14, .tmp 16], argTypes := #[85, 3] }, _, _, _, none⟩) rfl (fun K hK => ?_) AllReadyH.nil
  go_simp
  refine (H4.out _ _ WC3.out.wr).mono ?_
  rintro r w4 ⟨v4, rfl, h4, g4⟩
  have WC4 := Lib.hid (WC3.out.next h4 g4)
  have GG := Lib.hid (GG.out.trans g4)
  clear h4 g4
  have WD := WC4
  refine hK.out _ _ ?_ (fun hNext => ?_)
  · exact WC4.out.box
  clear hK K hHeld
  have hHeld := hNext
  clear hNext
  try simp only [Act.put, List.setIfInBounds_toArray, List.set_cons_zero, List.set_cons_succ]
  refine wpAnyH_take (i := 13) (oi := ⟨some 4, .assign (.tmp 17), _, _, _, none⟩) (v := ?_) rfl (by kernel_rfl) (by kernel_rfl) (by kernel_rfl) (fun _ _ _ h => h) (Or.inl ⟨by rfl, ?_⟩) hHeld ?_
  rotate_left
  focus (intro z hSw; clear hSw; go_simp; try with_reducible rfl)
  try simp only [Act.put, List.setIfInBounds_toArray, List.set_cons_zero, List.set_cons_succ]
  refine wpAnyH_done (by kernel_rfl) ?_ _
  go_wp2_with fail
  go_ret
  exact ⟨v4, rfl, WD.out.wr, Grew.pre F0d.out GG.out⟩
theorem outB_len {p : Pt} (h : may p) (hs : p.s.length = 32) : (Pt.outB p).length = 47 ∧ Pt.outB p = enc p := by
  rcases Pt.chk_cases p with ⟨_, _, h2⟩ | ⟨h1, _⟩
  · rw [h2]; exact ⟨Pt.enc_len h hs, rfl⟩
  · exact absurd h h1
set_option maxHeartbeats 8000000 in
theorem recordW (w0 : World) (v u : Value) (l : List UInt8) (x : Rec) (w : World) (h : Wr w0 w v l) (hl : l.length ≤ 700000) (hu : RecV w0 u x) (hx : WfR x) (ha : x.root.ads.length ≤ 1000000) : Calls Tryz.prog 127 #[v, u] w (Put w0 w v (l ++ encR x)) := by
  obtain ⟨xv, rfl, hs, hp, _⟩ := hu.box
  have hob := outB_len hx.r hs
  have hnm := hx.nm
  have hnm2 : x.name.size < 256 := by rw [Lib.size_eq]; exact hnm
  have hnm3 : x.name.data.size < 256 := by simpa using hnm
  have hE : l ++ encR x = ((((((((((l ++ be4 x.id.toNat) ++ (be1 x.name.data.toList.length ++ x.name.data.toList)) ++ be1 x.kind.toNat) ++ be1 x.size.toNat) ++ Pt.outB x.root) ++ be4 x.made.toNat) ++ be4 x.of.toNat) ++ be4 x.origin.toNat) ++ be1 x.quota.toNat) ++ be1 x.reserve.toNat) := by rw [hob.2]; simp [encR, List.append_assoc]
  rw [hE]
  clear hE
  have f0 : Frm [] w (w.alloc (.cells (rc xv x).toArray 56)) := (Frm.refl [] w).alloc _
  have B0 := RB.new (w := w) (v := xv) hs
  have hnb : w.heap.size ∉ blk v := fun hm => by obtain ⟨sp, ho⟩ := h.own; have := ho.lt _ hm; omega
  have H1 := Lib.hid (fun z v1 (h1 : Wr w0 z v1 (l)) => fourW w0 v1 _ x.id z h1 (by first | omega | (simp [be1, be4, hob.1]; omega)) ⟨hx.id0, by have := hx.id1; omega⟩)
  have H2 := Lib.hid (fun z v1 (h1 : Wr w0 z v1 ((l ++ be4 x.id.toNat))) => textW w0 v1 _ x.name z h1 (by first | omega | (simp [be1, be4, hob.1]; omega)) (by rw [Lib.size_eq]; omega))
  have H3 := Lib.hid (fun z v1 (h1 : Wr w0 z v1 (((l ++ be4 x.id.toNat) ++ (be1 x.name.data.toList.length ++ x.name.data.toList)))) => oneW w0 v1 _ x.kind z h1 (by first | omega | (simp [be1, be4, hob.1]; omega)) ⟨hx.k0, by have := hx.k1; omega⟩)
  have H4 := Lib.hid (fun z v1 (h1 : Wr w0 z v1 ((((l ++ be4 x.id.toNat) ++ (be1 x.name.data.toList.length ++ x.name.data.toList)) ++ be1 x.kind.toNat))) => oneW w0 v1 _ x.size z h1 (by first | omega | (simp [be1, be4, hob.1]; omega)) ⟨hx.s0, by have := hx.s1; omega⟩)
  have H5 := Lib.hid (fun z v1 (h1 : Wr w0 z v1 (((((l ++ be4 x.id.toNat) ++ (be1 x.name.data.toList.length ++ x.name.data.toList)) ++ be1 x.kind.toNat) ++ be1 x.size.toNat))) => rootW w0 v1 _ _ x.root z h1 (by first | omega | (simp [be1, be4, hob.1]; omega)) (hp.keep0 h1.frm) ha (by omega))
  have H6 := Lib.hid (fun z v1 (h1 : Wr w0 z v1 ((((((l ++ be4 x.id.toNat) ++ (be1 x.name.data.toList.length ++ x.name.data.toList)) ++ be1 x.kind.toNat) ++ be1 x.size.toNat) ++ Pt.outB x.root))) => fourW w0 v1 _ x.made z h1 (by first | omega | (simp [be1, be4, hob.1]; omega)) ⟨hx.m0, by have := hx.m1; omega⟩)
  have H7 := Lib.hid (fun z v1 (h1 : Wr w0 z v1 (((((((l ++ be4 x.id.toNat) ++ (be1 x.name.data.toList.length ++ x.name.data.toList)) ++ be1 x.kind.toNat) ++ be1 x.size.toNat) ++ Pt.outB x.root) ++ be4 x.made.toNat))) => fourW w0 v1 _ x.of z h1 (by first | omega | (simp [be1, be4, hob.1]; omega)) ⟨hx.o0, by have := hx.o1; omega⟩)
  have H8 := Lib.hid (fun z v1 (h1 : Wr w0 z v1 ((((((((l ++ be4 x.id.toNat) ++ (be1 x.name.data.toList.length ++ x.name.data.toList)) ++ be1 x.kind.toNat) ++ be1 x.size.toNat) ++ Pt.outB x.root) ++ be4 x.made.toNat) ++ be4 x.of.toNat))) => fourW w0 v1 _ x.origin z h1 (by first | omega | (simp [be1, be4, hob.1]; omega)) ⟨hx.g0, by have := hx.g1; omega⟩)
  have H9 := Lib.hid (fun z v1 (h1 : Wr w0 z v1 (((((((((l ++ be4 x.id.toNat) ++ (be1 x.name.data.toList.length ++ x.name.data.toList)) ++ be1 x.kind.toNat) ++ be1 x.size.toNat) ++ Pt.outB x.root) ++ be4 x.made.toNat) ++ be4 x.of.toNat) ++ be4 x.origin.toNat))) => oneW w0 v1 _ x.quota z h1 (by first | omega | (simp [be1, be4, hob.1]; omega)) ⟨hx.q0, by have := hx.q1; omega⟩)
  have H10 := Lib.hid (fun z v1 (h1 : Wr w0 z v1 ((((((((((l ++ be4 x.id.toNat) ++ (be1 x.name.data.toList.length ++ x.name.data.toList)) ++ be1 x.kind.toNat) ++ be1 x.size.toNat) ++ Pt.outB x.root) ++ be4 x.made.toNat) ++ be4 x.of.toNat) ++ be4 x.origin.toNat) ++ be1 x.quota.toNat))) => oneW w0 v1 _ x.reserve z h1 (by first | omega | (simp [be1, be4, hob.1]; omega)) ⟨hx.v0, by have := hx.v1; omega⟩)
  generalize (l ++ be4 x.id.toNat) = l1 at *
  generalize (l1 ++ (be1 x.name.data.toList.length ++ x.name.data.toList)) = l2 at *
  generalize (l2 ++ be1 x.kind.toNat) = l3 at *
  generalize (l3 ++ be1 x.size.toNat) = l4 at *
  generalize (l4 ++ Pt.outB x.root) = l5 at *
  generalize (l5 ++ be4 x.made.toNat) = l6 at *
  generalize (l6 ++ be4 x.of.toNat) = l7 at *
  generalize (l7 ++ be4 x.origin.toNat) = l8 at *
  generalize (l8 ++ be1 x.quota.toNat) = l9 at *
  generalize (l9 ++ be1 x.reserve.toNat) = l10 at *
  have WBd := Lib.hid (show Wb w0 (w.alloc (.cells (rc xv x).toArray 56)).drew w.heap.size (.cells (rc xv x).toArray 56 (0, 0)) v l from ⟨h.keep0 (f0.drew), B0.1, hnb⟩)
  have HG := Lib.hid (show ∀ z : World, z.heap[w.heap.size]? = some (.cells (rc xv x).toArray 56 (0, 0)) → BxR z w.heap.size xv x from fun z hz => RB.gets ⟨hz, hs⟩)
  have F0d := Lib.hid f0.drew
  generalize (rc xv x).toArray = A at *
  generalize hgz : w.heap.size = g at *
  clear h hl hu hx ha hp hob hnm hnm2 hnm3 f0 B0 hnb hs
  go_enter Tryz.func127, Tryz.ntmps127
  go_upto_region 1 with (fail)
  generalize w.alloc (.cells A 56) = W at *
  refine wp_region_held_drew (S := fun z => z.heap[g]? = some (.cells A 56 (0, 0))) (by kernel_rfl) (WBd.out.box) (fun hHeld => ?_)
  refine wpAnyH_take (i := 0) (oi := ⟨some 5, .move (.tmp 0), _, _, _, none⟩) (v := ?_) rfl (by kernel_rfl) (by kernel_rfl) (by kernel_rfl) (fun _ _ _ h => h) (Or.inl ⟨by rfl, ?_⟩) hHeld ?_
  rotate_left
  focus (intro z hSw; clear hSw; go_simp; try with_reducible rfl)
  try simp only [Act.put, List.setIfInBounds_toArray, List.set_cons_zero, List.set_cons_succ]
  refine wpAnyH_take (i := 1) (oi := ⟨some 6, .fieldAddr 56 (.tmp 3) 0, _, _, _, none⟩) (v := ?_) rfl (by kernel_rfl) (by kernel_rfl) (by kernel_rfl) (fun _ _ _ h => h) (Or.inl ⟨by rfl, ?_⟩) hHeld ?_
  rotate_left
  focus (intro z hSw; clear hSw; go_simp; try with_reducible rfl)
  try simp only [Act.put, List.setIfInBounds_toArray, List.set_cons_zero, List.set_cons_succ]
  refine wpAnyH_take (i := 2) (oi := ⟨some 7, .load 3 (.tmp 6), _, _, _, none⟩) (v := ?_) rfl (by kernel_rfl) (by kernel_rfl) (by kernel_rfl) (fun _ _ _ h => h) (Or.inl ⟨by rfl, ?_⟩) hHeld ?_
  rotate_left
  focus (intro z hSw; have q0 := (HG.out z hSw).id; have q1 := (HG.out z hSw).name; have q2 := (HG.out z hSw).kind; have q3 := (HG.out z hSw).size; have q4 := (HG.out z hSw).made; have q5 := (HG.out z hSw).of; have q6 := (HG.out z hSw).origin; have q7 := (HG.out z hSw).quota; have q8 := (HG.out z hSw).reserve; clear hSw; go_simp; try with_reducible rfl)
  try simp only [Act.put, List.setIfInBounds_toArray, List.set_cons_zero, List.set_cons_succ]
  refine wpAnyH_take (i := 4) (oi := ⟨some 9, .fieldAddr 56 (.tmp 3) 1, _, _, _, none⟩) (v := ?_) rfl (by kernel_rfl) (by kernel_rfl) (by kernel_rfl) (fun _ _ _ h => h) (Or.inl ⟨by rfl, ?_⟩) hHeld ?_
  rotate_left
  focus (intro z hSw; clear hSw; go_simp; try with_reducible rfl)
  try simp only [Act.put, List.setIfInBounds_toArray, List.set_cons_zero, List.set_cons_succ]
  refine wpAnyH_take (i := 5) (oi := ⟨some 10, .load 9 (.tmp 9), _, _, _, none⟩) (v := ?_) rfl (by kernel_rfl) (by kernel_rfl) (by kernel_rfl) (fun _ _ _ h => h) (Or.inl ⟨by rfl, ?_⟩) hHeld ?_
  rotate_left
  focus (intro z hSw; have q0 := (HG.out z hSw).id; have q1 := (HG.out z hSw).name; have q2 := (HG.out z hSw).kind; have q3 := (HG.out z hSw).size; have q4 := (HG.out z hSw).made; have q5 := (HG.out z hSw).of; have q6 := (HG.out z hSw).origin; have q7 := (HG.out z hSw).quota; have q8 := (HG.out z hSw).reserve; clear hSw; go_simp; try with_reducible rfl)
  try simp only [Act.put, List.setIfInBounds_toArray, List.set_cons_zero, List.set_cons_succ]
  refine wpAnyH_take (i := 7) (oi := ⟨some 12, .fieldAddr 56 (.tmp 3) 2, _, _, _, none⟩) (v := ?_) rfl (by kernel_rfl) (by kernel_rfl) (by kernel_rfl) (fun _ _ _ h => h) (Or.inl ⟨by rfl, ?_⟩) hHeld ?_
  rotate_left
  focus (intro z hSw; clear hSw; go_simp; try with_reducible rfl)
  try simp only [Act.put, List.setIfInBounds_toArray, List.set_cons_zero, List.set_cons_succ]
  refine wpAnyH_take (i := 8) (oi := ⟨some 13, .load 3 (.tmp 12), _, _, _, none⟩) (v := ?_) rfl (by kernel_rfl) (by kernel_rfl) (by kernel_rfl) (fun _ _ _ h => h) (Or.inl ⟨by rfl, ?_⟩) hHeld ?_
  rotate_left
  focus (intro z hSw; have q0 := (HG.out z hSw).id; have q1 := (HG.out z hSw).name; have q2 := (HG.out z hSw).kind; have q3 := (HG.out z hSw).size; have q4 := (HG.out z hSw).made; have q5 := (HG.out z hSw).of; have q6 := (HG.out z hSw).origin; have q7 := (HG.out z hSw).quota; have q8 := (HG.out z hSw).reserve; clear hSw; go_simp; try with_reducible rfl)
  try simp only [Act.put, List.setIfInBounds_toArray, List.set_cons_zero, List.set_cons_succ]
  refine wpAnyH_take (i := 10) (oi := ⟨some 15, .fieldAddr 56 (.tmp 3) 3, _, _, _, none⟩) (v := ?_) rfl (by kernel_rfl) (by kernel_rfl) (by kernel_rfl) (fun _ _ _ h => h) (Or.inl ⟨by rfl, ?_⟩) hHeld ?_
  rotate_left
  focus (intro z hSw; clear hSw; go_simp; try with_reducible rfl)
  try simp only [Act.put, List.setIfInBounds_toArray, List.set_cons_zero, List.set_cons_succ]
  refine wpAnyH_take (i := 11) (oi := ⟨some 16, .load 3 (.tmp 15), _, _, _, none⟩) (v := ?_) rfl (by kernel_rfl) (by kernel_rfl) (by kernel_rfl) (fun _ _ _ h => h) (Or.inl ⟨by rfl, ?_⟩) hHeld ?_
  rotate_left
  focus (intro z hSw; have q0 := (HG.out z hSw).id; have q1 := (HG.out z hSw).name; have q2 := (HG.out z hSw).kind; have q3 := (HG.out z hSw).size; have q4 := (HG.out z hSw).made; have q5 := (HG.out z hSw).of; have q6 := (HG.out z hSw).origin; have q7 := (HG.out z hSw).quota; have q8 := (HG.out z hSw).reserve; clear hSw; go_simp; try with_reducible rfl)
  try simp only [Act.put, List.setIfInBounds_toArray, List.set_cons_zero, List.set_cons_succ]
  refine wpAnyH_take (i := 13) (oi := ⟨some 18, .fieldAddr 56 (.tmp 3) 4, _, _, _, none⟩) (v := ?_) rfl (by kernel_rfl) (by kernel_rfl) (by kernel_rfl) (fun _ _ _ h => h) (Or.inl ⟨by rfl, ?_⟩) hHeld ?_
  rotate_left
  focus (intro z hSw; clear hSw; go_simp; try with_reducible rfl)
  try simp only [Act.put, List.setIfInBounds_toArray, List.set_cons_zero, List.set_cons_succ]
  refine wpAnyH_take (i := 14) (oi := ⟨some 19, .load 54 (.tmp 18), _, _, _, none⟩) rfl (by kernel_rfl) (by kernel_rfl) (by kernel_rfl) (fun _ _ _ h => h) (yieldsIf_ld (by rfl) 54 _ rfl _ rfl (fun z hSw => (HG.out z hSw).root)) hHeld ?_
  try simp only [Act.put, List.setIfInBounds_toArray, List.set_cons_zero, List.set_cons_succ]
  refine wpAnyH_take (i := 16) (oi := ⟨some 21, .fieldAddr 56 (.tmp 3) 5, _, _, _, none⟩) (v := ?_) rfl (by kernel_rfl) (by kernel_rfl) (by kernel_rfl) (fun _ _ _ h => h) (Or.inl ⟨by rfl, ?_⟩) hHeld ?_
  rotate_left
  focus (intro z hSw; clear hSw; go_simp; try with_reducible rfl)
  try simp only [Act.put, List.setIfInBounds_toArray, List.set_cons_zero, List.set_cons_succ]
  refine wpAnyH_take (i := 17) (oi := ⟨some 22, .load 3 (.tmp 21), _, _, _, none⟩) (v := ?_) rfl (by kernel_rfl) (by kernel_rfl) (by kernel_rfl) (fun _ _ _ h => h) (Or.inl ⟨by rfl, ?_⟩) hHeld ?_
  rotate_left
  focus (intro z hSw; have q0 := (HG.out z hSw).id; have q1 := (HG.out z hSw).name; have q2 := (HG.out z hSw).kind; have q3 := (HG.out z hSw).size; have q4 := (HG.out z hSw).made; have q5 := (HG.out z hSw).of; have q6 := (HG.out z hSw).origin; have q7 := (HG.out z hSw).quota; have q8 := (HG.out z hSw).reserve; clear hSw; go_simp; try with_reducible rfl)
  try simp only [Act.put, List.setIfInBounds_toArray, List.set_cons_zero, List.set_cons_succ]
  refine wpAnyH_take (i := 19) (oi := ⟨some 24, .fieldAddr 56 (.tmp 3) 6, _, _, _, none⟩) (v := ?_) rfl (by kernel_rfl) (by kernel_rfl) (by kernel_rfl) (fun _ _ _ h => h) (Or.inl ⟨by rfl, ?_⟩) hHeld ?_
  rotate_left
  focus (intro z hSw; clear hSw; go_simp; try with_reducible rfl)
  try simp only [Act.put, List.setIfInBounds_toArray, List.set_cons_zero, List.set_cons_succ]
  refine wpAnyH_take (i := 20) (oi := ⟨some 25, .load 3 (.tmp 24), _, _, _, none⟩) (v := ?_) rfl (by kernel_rfl) (by kernel_rfl) (by kernel_rfl) (fun _ _ _ h => h) (Or.inl ⟨by rfl, ?_⟩) hHeld ?_
  rotate_left
  focus (intro z hSw; have q0 := (HG.out z hSw).id; have q1 := (HG.out z hSw).name; have q2 := (HG.out z hSw).kind; have q3 := (HG.out z hSw).size; have q4 := (HG.out z hSw).made; have q5 := (HG.out z hSw).of; have q6 := (HG.out z hSw).origin; have q7 := (HG.out z hSw).quota; have q8 := (HG.out z hSw).reserve; clear hSw; go_simp; try with_reducible rfl)
  try simp only [Act.put, List.setIfInBounds_toArray, List.set_cons_zero, List.set_cons_succ]
  refine wpAnyH_take (i := 22) (oi := ⟨some 27, .fieldAddr 56 (.tmp 3) 7, _, _, _, none⟩) (v := ?_) rfl (by kernel_rfl) (by kernel_rfl) (by kernel_rfl) (fun _ _ _ h => h) (Or.inl ⟨by rfl, ?_⟩) hHeld ?_
  rotate_left
  focus (intro z hSw; clear hSw; go_simp; try with_reducible rfl)
  try simp only [Act.put, List.setIfInBounds_toArray, List.set_cons_zero, List.set_cons_succ]
  refine wpAnyH_take (i := 23) (oi := ⟨some 28, .load 3 (.tmp 27), _, _, _, none⟩) (v := ?_) rfl (by kernel_rfl) (by kernel_rfl) (by kernel_rfl) (fun _ _ _ h => h) (Or.inl ⟨by rfl, ?_⟩) hHeld ?_
  rotate_left
  focus (intro z hSw; have q0 := (HG.out z hSw).id; have q1 := (HG.out z hSw).name; have q2 := (HG.out z hSw).kind; have q3 := (HG.out z hSw).size; have q4 := (HG.out z hSw).made; have q5 := (HG.out z hSw).of; have q6 := (HG.out z hSw).origin; have q7 := (HG.out z hSw).quota; have q8 := (HG.out z hSw).reserve; clear hSw; go_simp; try with_reducible rfl)
  try simp only [Act.put, List.setIfInBounds_toArray, List.set_cons_zero, List.set_cons_succ]
  refine wpAnyH_take (i := 25) (oi := ⟨some 30, .fieldAddr 56 (.tmp 3) 8, _, _, _, none⟩) (v := ?_) rfl (by kernel_rfl) (by kernel_rfl) (by kernel_rfl) (fun _ _ _ h => h) (Or.inl ⟨by rfl, ?_⟩) hHeld ?_
  rotate_left
  focus (intro z hSw; clear hSw; go_simp; try with_reducible rfl)
  try simp only [Act.put, List.setIfInBounds_toArray, List.set_cons_zero, List.set_cons_succ]
  refine wpAnyH_take (i := 26) (oi := ⟨some 31, .load 3 (.tmp 30), _, _, _, none⟩) (v := ?_) rfl (by kernel_rfl) (by kernel_rfl) (by kernel_rfl) (fun _ _ _ h => h) (Or.inl ⟨by rfl, ?_⟩) hHeld ?_
  rotate_left
  focus (intro z hSw; have q0 := (HG.out z hSw).id; have q1 := (HG.out z hSw).name; have q2 := (HG.out z hSw).kind; have q3 := (HG.out z hSw).size; have q4 := (HG.out z hSw).made; have q5 := (HG.out z hSw).of; have q6 := (HG.out z hSw).origin; have q7 := (HG.out z hSw).quota; have q8 := (HG.out z hSw).reserve; clear hSw; go_simp; try with_reducible rfl)
  try simp only [Act.put, List.setIfInBounds_toArray, List.set_cons_zero, List.set_cons_succ]
  refine wpAnyH_take (i := 28) (oi := ⟨some 33, .fieldAddr 56 (.tmp 3) 9, _, _, _, none⟩) (v := ?_) rfl (by kernel_rfl) (by kernel_rfl) (by kernel_rfl) (fun _ _ _ h => h) (Or.inl ⟨by rfl, ?_⟩) hHeld ?_
  rotate_left
  focus (intro z hSw; clear hSw; go_simp; try with_reducible rfl)
  try simp only [Act.put, List.setIfInBounds_toArray, List.set_cons_zero, List.set_cons_succ]
  refine wpAnyH_take (i := 29) (oi := ⟨some 34, .load 3 (.tmp 33), _, _, _, none⟩) (v := ?_) rfl (by kernel_rfl) (by kernel_rfl) (by kernel_rfl) (fun _ _ _ h => h) (Or.inl ⟨by rfl, ?_⟩) hHeld ?_
  rotate_left
  focus (intro z hSw; have q0 := (HG.out z hSw).id; have q1 := (HG.out z hSw).name; have q2 := (HG.out z hSw).kind; have q3 := (HG.out z hSw).size; have q4 := (HG.out z hSw).made; have q5 := (HG.out z hSw).of; have q6 := (HG.out z hSw).origin; have q7 := (HG.out z hSw).quota; have q8 := (HG.out z hSw).reserve; clear hSw; go_simp; try with_reducible rfl)
  try simp only [Act.put, List.setIfInBounds_toArray, List.set_cons_zero, List.set_cons_succ]
  refine wpAnyH_ready (rs := [3]) (by kernel_rfl) (by simp) ?_
  refine AllReadyH.cons (o := ⟨some 8, .call { callee := .value (.func 60), args := #[.tmp 5, .tmp 7], argTypes := #[85, 3] }, _, _, _, none⟩) rfl (fun K hK => ?_) AllReadyH.nil
  go_simp
  refine (H1.out _ _ WBd.out.wr).mono ?_
  rintro r w1 ⟨v1, rfl, h1, g1⟩
  have WC1 := Lib.hid (WBd.out.next h1 g1)
  have GG := Lib.hid g1
  clear h1 g1
  refine hK.out _ _ ?_ (fun hNext => ?_)
  · exact WC1.out.box
  clear hK K hHeld
  have hHeld := hNext
  clear hNext
  try simp only [Act.put, List.setIfInBounds_toArray, List.set_cons_zero, List.set_cons_succ]
  refine wpAnyH_ready (rs := [6]) (by kernel_rfl) (by simp) ?_
  refine AllReadyH.cons (o := ⟨some 11, .call { callee := .value (.func 188), args := #[.tmp 8, .tmp 10], argTypes := #[85, 9] }, _, _, _, none⟩) rfl (fun K hK => ?_) AllReadyH.nil
  go_simp
  refine (H2.out _ _ WC1.out.wr).mono ?_
  rintro r w2 ⟨v2, rfl, h2, g2⟩
  have WC2 := Lib.hid (WC1.out.next h2 g2)
  have GG := Lib.hid (GG.out.trans g2)
  clear h2 g2
  refine hK.out _ _ ?_ (fun hNext => ?_)
  · exact WC2.out.box
  clear hK K hHeld
  have hHeld := hNext
  clear hNext
  try simp only [Act.put, List.setIfInBounds_toArray, List.set_cons_zero, List.set_cons_succ]
  refine wpAnyH_ready (rs := [9]) (by kernel_rfl) (by simp) ?_
  refine AllReadyH.cons (o := ⟨some 14, .call { callee := .value (.func 126), args := #[.tmp 11, .tmp 13], argTypes := #[85, 3] }, _, _, _, none⟩) rfl (fun K hK => ?_) AllReadyH.nil
  go_simp
  refine (H3.out _ _ WC2.out.wr).mono ?_
  rintro r w3 ⟨v3, rfl, h3, g3⟩
  have WC3 := Lib.hid (WC2.out.next h3 g3)
  have GG := Lib.hid (GG.out.trans g3)
  clear h3 g3
  refine hK.out _ _ ?_ (fun hNext => ?_)
  · exact WC3.out.box
  clear hK K hHeld
  have hHeld := hNext
  clear hNext
  try simp only [Act.put, List.setIfInBounds_toArray, List.set_cons_zero, List.set_cons_succ]
  refine wpAnyH_ready (rs := [12]) (by kernel_rfl) (by simp) ?_
  refine AllReadyH.cons (o := ⟨some 17, .call { callee := .value (.func 126), args := #[.tmp 14, .tmp 16], argTypes := #[85, 3] }, _, _, _, none⟩) rfl (fun K hK => ?_) AllReadyH.nil
  go_simp
  refine (H4.out _ _ WC3.out.wr).mono ?_
  rintro r w4 ⟨v4, rfl, h4, g4⟩
  have WC4 := Lib.hid (WC3.out.next h4 g4)
  have GG := Lib.hid (GG.out.trans g4)
  clear h4 g4
  refine hK.out _ _ ?_ (fun hNext => ?_)
  · exact WC4.out.box
  clear hK K hHeld
  have hHeld := hNext
  clear hNext
  try simp only [Act.put, List.setIfInBounds_toArray, List.set_cons_zero, List.set_cons_succ]
  refine wpAnyH_ready (rs := [15]) (by kernel_rfl) (by simp) ?_
  refine AllReadyH.cons (o := ⟨some 20, .call { callee := .value (.func 189), args := #[.tmp 17, .tmp 19], argTypes := #[85, 54] }, _, _, _, none⟩) rfl (fun K hK => ?_) AllReadyH.nil
  go_simp
  refine (H5.out _ _ WC4.out.wr).mono ?_
  rintro r w5 ⟨v5, rfl, h5, g5⟩
  have WC5 := Lib.hid (WC4.out.next h5 g5)
  have GG := Lib.hid (GG.out.trans g5)
  clear h5 g5
  refine hK.out _ _ ?_ (fun hNext => ?_)
  · exact WC5.out.box
  clear hK K hHeld
  have hHeld := hNext
  clear hNext
  try simp only [Act.put, List.setIfInBounds_toArray, List.set_cons_zero, List.set_cons_succ]
  refine wpAnyH_ready (rs := [18]) (by kernel_rfl) (by simp) ?_
  refine AllReadyH.cons (o := ⟨some 23, .call { callee := .value (.func 60), args := #[.tmp 20, .tmp 22], argTypes := #[85, 3] }, _, _, _, none⟩) rfl (fun K hK => ?_) AllReadyH.nil
  go_simp
  refine (H6.out _ _ WC5.out.wr).mono ?_
  rintro r w6 ⟨v6, rfl, h6, g6⟩
  have WC6 := Lib.hid (WC5.out.next h6 g6)
  have GG := Lib.hid (GG.out.trans g6)
  clear h6 g6
  refine hK.out _ _ ?_ (fun hNext => ?_)
  · exact WC6.out.box
  clear hK K hHeld
  have hHeld := hNext
  clear hNext
  try simp only [Act.put, List.setIfInBounds_toArray, List.set_cons_zero, List.set_cons_succ]
  refine wpAnyH_ready (rs := [21]) (by kernel_rfl) (by simp) ?_
  refine AllReadyH.cons (o := ⟨some 26, .call { callee := .value (.func 60), args := #[.tmp 23, .tmp 25], argTypes := #[85, 3] }, _, _, _, none⟩) rfl (fun K hK => ?_) AllReadyH.nil
  go_simp
  refine (H7.out _ _ WC6.out.wr).mono ?_
  rintro r w7 ⟨v7, rfl, h7, g7⟩
  have WC7 := Lib.hid (WC6.out.next h7 g7)
  have GG := Lib.hid (GG.out.trans g7)
  clear h7 g7
  refine hK.out _ _ ?_ (fun hNext => ?_)
  · exact WC7.out.box
  clear hK K hHeld
  have hHeld := hNext
  clear hNext
  try simp only [Act.put, List.setIfInBounds_toArray, List.set_cons_zero, List.set_cons_succ]
  refine wpAnyH_ready (rs := [24]) (by kernel_rfl) (by simp) ?_
  refine AllReadyH.cons (o := ⟨some 29, .call { callee := .value (.func 60), args := #[.tmp 26, .tmp 28], argTypes := #[85, 3] }, _, _, _, none⟩) rfl (fun K hK => ?_) AllReadyH.nil
  go_simp
  refine (H8.out _ _ WC7.out.wr).mono ?_
  rintro r w8 ⟨v8, rfl, h8, g8⟩
  have WC8 := Lib.hid (WC7.out.next h8 g8)
  have GG := Lib.hid (GG.out.trans g8)
  clear h8 g8
  refine hK.out _ _ ?_ (fun hNext => ?_)
  · exact WC8.out.box
  clear hK K hHeld
  have hHeld := hNext
  clear hNext
  try simp only [Act.put, List.setIfInBounds_toArray, List.set_cons_zero, List.set_cons_succ]
  refine wpAnyH_ready (rs := [27]) (by kernel_rfl) (by simp) ?_
  refine AllReadyH.cons (o := ⟨some 32, .call { callee := .value (.func 126), args := #[.tmp 29, .tmp 31], argTypes := #[85, 3] }, _, _, _, none⟩) rfl (fun K hK => ?_) AllReadyH.nil
  go_simp
  refine (H9.out _ _ WC8.out.wr).mono ?_
  rintro r w9 ⟨v9, rfl, h9, g9⟩
  have WC9 := Lib.hid (WC8.out.next h9 g9)
  have GG := Lib.hid (GG.out.trans g9)
  clear h9 g9
  refine hK.out _ _ ?_ (fun hNext => ?_)
  · exact WC9.out.box
  clear hK K hHeld
  have hHeld := hNext
  clear hNext
  try simp only [Act.put, List.setIfInBounds_toArray, List.set_cons_zero, List.set_cons_succ]
  refine wpAnyH_ready (rs := [30]) (by kernel_rfl) (by simp) ?_
  refine AllReadyH.cons (o := ⟨some 35, .call { callee := .value (.func 126), args := #[.tmp 32, .tmp 34], argTypes := #[85, 3] }, _, _, _, none⟩) rfl (fun K hK => ?_) AllReadyH.nil
  go_simp
  refine (H10.out _ _ WC9.out.wr).mono ?_
  rintro r w10 ⟨v10, rfl, h10, g10⟩
  have WC10 := Lib.hid (WC9.out.next h10 g10)
  have GG := Lib.hid (GG.out.trans g10)
  clear h10 g10
  have WD := WC10
  refine hK.out _ _ ?_ (fun hNext => ?_)
  · exact WC10.out.box
  clear hK K hHeld
  have hHeld := hNext
  clear hNext
  try simp only [Act.put, List.setIfInBounds_toArray, List.set_cons_zero, List.set_cons_succ]
  refine wpAnyH_take (i := 31) (oi := ⟨some 4, .assign (.tmp 35), _, _, _, none⟩) (v := ?_) rfl (by kernel_rfl) (by kernel_rfl) (by kernel_rfl) (fun _ _ _ h => h) (Or.inl ⟨by rfl, ?_⟩) hHeld ?_
  rotate_left
  focus (intro z hSw; clear hSw; go_simp; try with_reducible rfl)
  try simp only [Act.put, List.setIfInBounds_toArray, List.set_cons_zero, List.set_cons_succ]
  refine wpAnyH_done (by kernel_rfl) ?_ _
  go_wp2_with fail
  go_ret
  exact ⟨v10, rfl, WD.out.wr, Grew.pre F0d.out GG.out⟩
end Go.Proofs.YtljhanhipmnioaaGreat.Rd

namespace Go.Proofs.YtljhanhipmnioaaGreat.Rd
open Go.RowKit
set_option linter.unusedVariables false
set_option linter.unusedSimpArgs false
set_option maxRecDepth 100000

open Pt (Pt may enc readPt readE zeroPt be4 be1 pc pv PtV SlA OwnA BT wpList_load_g heap_alloc_at lst_slB one_slB Ext Grew exec_slice_lh yieldsIf_ld)
open Kr (OwnE SlE Enco RowTys)

def RecW (w0 w : World) (v : Value) (l : List UInt8) (rs : List Rec) (vv cv : Value) (wr : World) : Prop := ∃ k : Nat, k ≤ rs.length ∧ cv = .int .i64 k ∧ Wr w0 wr vv (l ++ (rs.take k).flatMap encR) ∧ Grew w v wr vv
theorem encR_len {x : Rec} (h : WfR x) (hs : x.root.s.length = 32) : (encR x).length ≤ 400 := by
  have he := Pt.enc_len h.r hs
  have hn := h.nm
  have hn2 : x.name.data.size < 256 := by simpa using hn
  have hn3 : x.name.size < 256 := by rw [Lib.size_eq]; exact hn
  simp [encR, be1, be4, he]
  omega
theorem flat_len {rs : List Rec} (h : ∀ x ∈ rs, WfR x ∧ x.root.s.length = 32) : (rs.flatMap encR).length ≤ rs.length * 400 := by
  induction rs with
  | nil => simp
  | cons x r ih =>
    have h1 := h x (by simp)
    have h2 := ih (fun y hy => h y (by simp [hy]))
    have h3 := encR_len h1.1 h1.2
    rw [List.flatMap_cons, List.length_append, List.length_cons]
    omega
theorem flat_snoc {rs : List Rec} {k : Nat} (h : k < rs.length) : (rs.take (k + 1)).flatMap encR = (rs.take k).flatMap encR ++ encR rs[k] := by
  rw [List.take_succ_eq_append_getElem h, List.flatMap_append]
  simp [List.flatMap_cons]
theorem Rs.sums {w : World} {v : Value} {l : List Rec} (h : Rs w v l) : ∀ x ∈ l, x.root.s.length = 32 := fun x hx => by
  obtain ⟨rs, sp, hs, hl, hr⟩ := h
  obtain ⟨i, hi, rfl⟩ := List.getElem_of_mem hx
  obtain ⟨_, _, _, _, _, hw⟩ := hr i (rs[i]'(by omega)) l[i] (List.getElem?_eq_getElem _) (List.getElem?_eq_getElem _)
  exact hw
set_option maxHeartbeats 8000000 in
theorem recordsW (w0 : World) (v vr : Value) (l : List UInt8) (rs : List Rec) (w : World) (h : Wr w0 w v l) (hl : l.length ≤ 100000) (hR : Rs w0 vr rs) (hn : rs.length ≤ 100) (hx : ∀ x ∈ rs, WfR x ∧ x.root.ads.length ≤ 1000000) : Calls Tryz.prog 61 #[v, vr] w (Put w0 w v (l ++ (be1 rs.length ++ rs.flatMap encR))) := by
  have H1 := Lib.hid (oneW w0 v l (rs.length : Int) w h (by omega) (by omega))
  rw [show ((rs.length : Nat) : Int).toNat = rs.length from rfl] at H1
  have HS := Lib.hid hR.sums
  have HX := Lib.hid hx
  have HR := Lib.hid hR
  have HL := Lib.hid hl
  have hn9 : (rs.length : Int) ≤ 100 := by omega
  rw [← List.append_assoc]
  have HL1 := Lib.hid (show (l ++ be1 rs.length).length ≤ 200000 by simp [be1]; omega)
  generalize hl1 : (l ++ be1 rs.length) = l1 at *
  clear hl1
  obtain ⟨av, ac, rfl⟩ := hR.form
  clear h hl hR hx
  go_enter Tryz.func61, Tryz.ntmps61
  go_upto_region 2 with (go_at_call 126; (with_reducible refine H1.out.mono ?_); rintro e w1 ⟨v1, rfl, h1, g1⟩)
  have W1 := Lib.hid h1
  have G1 := Lib.hid g1
  clear h1 g1 H1
  go_upto_region 3 with (fail)
  go_loopw [0, 13] (RecW w0 w v l1 rs) (fun _ c _ => rs.length - (intOf c).toNat)
  case atStart => exact ⟨0, Nat.zero_le _, rfl, by simpa using W1.out, G1.out⟩
  case round =>
    obtain ⟨k, hk, rfl, hW, hG⟩ := hrel
    by_cases hkl : k < rs.length
    · have hkl9 : (k : Int) < (rs.length : Int) := by omega
      obtain ⟨b, off, cp, e⟩ := HR.out.at (by omega)
      cases e
      obtain ⟨xa, xc, GV⟩ := HR.out.getsF k hkl
      have L1 := Lib.hid (GV _ hW.frm).1.all
      have V1 := Lib.hid (GV _ (Frm.refl _ _)).2
      have O1 := Lib.hid (show (Value.slice xa (rs[k]).root.ads.length xc).oneCell' = true from rfl)
      have S1 := Lib.hid (HS.out _ (List.getElem_mem hkl))
      have HXK := Lib.hid (HX.out _ (List.getElem_mem hkl))
      have HFL := Lib.hid (flat_snoc hkl)
      have hlen : (l1 ++ (rs.take k).flatMap encR).length ≤ 700000 := by
        have h1 := flat_len (rs := rs.take k) (fun x hx => ⟨(HX.out x (List.mem_of_mem_take hx)).1, HS.out x (List.mem_of_mem_take hx)⟩)
        have h2 := HL1.out
        rw [List.length_append]
        rw [List.length_take] at h1
        have : min k rs.length ≤ 100 := by omega
        omega
      have HRC := Lib.hid (fun z vv (h : Wr w0 z vv (l1 ++ (rs.take k).flatMap encR)) => recordW w0 vv _ _ rs[k] z h hlen V1.out HXK.out.1 HXK.out.2)
      have hfin : l1 ++ (rs.take k).flatMap encR ++ encR rs[k] = l1 ++ (rs.take (k + 1)).flatMap encR := by rw [HFL.out, List.append_assoc]
      rw [hfin] at HRC
      have HN := Lib.hid (show ∀ z v', Wr w0 z v' (l1 ++ (rs.take (k + 1)).flatMap encR) → Grew w v z v' → RecW w0 w v l1 rs v' (.int .i64 ((k : Int) + 1)) z from fun z v' h g => ⟨k + 1, by omega, by go_num, h, g⟩)
      have W2 := Lib.hid hW
      have G2 := Lib.hid hG
      clear GV hlen hfin HFL hW hG HXK
      generalize (l1 ++ (rs.take (k + 1)).flatMap encR) = l3 at *
      generalize (l1 ++ (rs.take k).flatMap encR) = l2 at *
      generalize rs[k] = x at *
      generalize (Value.slice xa x.root.ads.length xc) = vx at *
      go_upto_region 5 with (first
        | ((with_reducible (show wpList _ _ _ (Oper.mk _ (Op.load 56 _) _ _ _ _ :: _) _ _)); refine wpList_load_g (by rfl) 56 _ rfl _ rfl L1.out ?_)
        | ((with_reducible (show wpList _ _ _ (Oper.mk _ (Op.alloc 56) _ _ _ _ :: _) _ _)); refine wpList_lay56 rfl rfl rfl (.tmp 6) (.tmp 16) rfl O1.out S1.out rfl rfl ?_))
      have f1 : Frm [] wr (wr.alloc (.cells (rc vx x).toArray 56)) := (Frm.refl [] wr).alloc _
      have LA := Lib.hid (RB.new (w := wr) (v := vx) S1.out).gets.all
      have HR2 := Lib.hid (HRC.out _ _ (W2.out.keep0 f1))
      have G3 := Lib.hid (Grew.post G2.out f1)
      clear f1 HRC W2 G2 L1 V1
      go_wp2_with (first
        | ((with_reducible (show wpList _ _ _ (Oper.mk _ (Op.load 56 _) _ _ _ _ :: _) _ _)); refine wpList_load_g (by rfl) 56 _ rfl _ rfl LA.out ?_)
        | (go_at_call 127; refine HR2.out.mono ?_; rintro e w5 ⟨v5, rfl, h5, g5⟩; have N5 := Lib.hid (HN.out _ _ h5 (G3.out.trans g5)); clear h5 g5))
      go_roundw
      case rel => exact N5.out
      case measure => simp [intOf]; omega
    · obtain rfl : k = rs.length := by omega
      rw [List.take_length] at hW
      have W2 := Lib.hid hW
      have G2 := Lib.hid hG
      clear hW hG
      go_wp2_with fail
      go_ret
      exact ⟨_, rfl, W2.out, G2.out⟩

def LivW (w0 w : World) (v : Value) (l : List UInt8) (ls : List Int) (vv cv : Value) (wr : World) : Prop := ∃ k : Nat, k ≤ ls.length ∧ cv = .int .i64 k ∧ Wr w0 wr vv (l ++ (ls.take k).flatMap fun n => be4 n.toNat) ∧ Grew w v wr vv
theorem liv_len (ls : List Int) : (ls.flatMap fun n => be4 n.toNat).length = 4 * ls.length := by
  induction ls with
  | nil => rfl
  | cons x r ih => rw [List.flatMap_cons, List.length_append, ih, List.length_cons]; simp [be4]; omega
set_option maxHeartbeats 8000000 in
theorem livesW (w0 : World) (v vr : Value) (l : List UInt8) (ls : List Int) (sp : List Value) (w : World) (h : Wr w0 w v l) (hl : l.length ≤ 100000) (hR : SlE eI 1 w0 vr ls sp) (hn : ls.length ≤ 100) (hx : ∀ n ∈ ls, 0 ≤ n ∧ n < 4294967296) : Calls Tryz.prog 63 #[v, vr] w (Put w0 w v (l ++ encL ls)) := by
  have H1 := Lib.hid (oneW w0 v l (ls.length : Int) w h (by omega) (by omega))
  rw [show ((ls.length : Nat) : Int).toNat = ls.length from rfl] at H1
  have HX := Lib.hid hx
  have HR := Lib.hid hR
  have hn9 : (ls.length : Int) ≤ 100 := by omega
  unfold encL
  rw [← List.append_assoc]
  have HL1 := Lib.hid (show (l ++ be1 ls.length).length ≤ 200000 by simp [be1]; omega)
  generalize hl1 : (l ++ be1 ls.length) = l1 at *
  clear hl1
  obtain ⟨av, ac, rfl, _, _⟩ := hR.form
  clear h hl hR hx
  go_enter Tryz.func63, Tryz.ntmps63
  go_upto_region 2 with (go_at_call 126; (with_reducible refine H1.out.mono ?_); rintro e w1 ⟨v1, rfl, h1, g1⟩)
  have W1 := Lib.hid h1
  have G1 := Lib.hid g1
  clear h1 g1 H1
  go_upto_region 3 with (fail)
  go_loopw [0, 13] (LivW w0 w v l1 ls) (fun _ c _ => ls.length - (intOf c).toNat)
  case atStart => exact ⟨0, Nat.zero_le _, rfl, by simpa using W1.out, G1.out⟩
  case round =>
    obtain ⟨k, hk, rfl, hW, hG⟩ := hrel
    by_cases hkl : k < ls.length
    · have hkl9 : (k : Int) < (ls.length : Int) := by omega
      obtain ⟨b, off, rfl⟩ := HR.out.at (by omega)
      have c0 := cellI (HR.out.keep0 hW.frm) k hkl
      have hlen : (l1 ++ (ls.take k).flatMap fun n => be4 n.toNat).length ≤ 900000 := by
        have h2 := HL1.out
        rw [List.length_append, liv_len, List.length_take]
        omega
      have hfin : (l1 ++ (ls.take k).flatMap fun n => be4 n.toNat) ++ be4 (ls[k]).toNat = l1 ++ (ls.take (k + 1)).flatMap fun n => be4 n.toNat := by
        rw [List.take_succ_eq_append_getElem hkl, List.flatMap_append, List.append_assoc]
        simp [List.flatMap_cons]
      have hb := HX.out _ (List.getElem_mem hkl)
      have HRC := Lib.hid (fourW w0 _ _ ls[k] wr hW hlen (by omega))
      rw [hfin] at HRC
      have HN := Lib.hid (show ∀ z v', Wr w0 z v' (l1 ++ (ls.take (k + 1)).flatMap fun n => be4 n.toNat) → Grew w v z v' → LivW w0 w v l1 ls v' (.int .i64 ((k : Int) + 1)) z from fun z v' h g => ⟨k + 1, by omega, by go_num, h, g⟩)
      have G2 := Lib.hid hG
      clear hlen hfin hW hG hb
      generalize (l1 ++ (ls.take (k + 1)).flatMap fun n => be4 n.toNat) = l3 at *
      generalize (l1 ++ (ls.take k).flatMap fun n => be4 n.toNat) = l2 at *
      generalize ls[k] = x at *
      go_wp2_with (go_at_call 60; refine HRC.out.mono ?_; rintro e w5 ⟨v5, rfl, h5, g5⟩; have N5 := Lib.hid (HN.out _ _ h5 (G2.out.trans g5)); clear h5 g5)
      go_roundw
      case rel => exact N5.out
      case measure => simp [intOf]; omega
    · obtain rfl : k = ls.length := by omega
      rw [List.take_length] at hW
      have W2 := Lib.hid hW
      have G2 := Lib.hid hG
      clear hW hG
      go_wp2_with fail
      go_ret
      exact ⟨_, rfl, W2.out, G2.out⟩
end Go.Proofs.YtljhanhipmnioaaGreat.Rd

namespace Go.Proofs.YtljhanhipmnioaaGreat.Rd
open Go.RowKit
set_option linter.unusedVariables false
set_option linter.unusedSimpArgs false
set_option maxRecDepth 100000

open Pt (Pt may enc readPt readE zeroPt be4 be1 pc pv PtV SlA OwnA BT wpList_load_g heap_alloc_at lst_slB one_slB Ext Grew exec_slice_lh yieldsIf_ld)
open Kr (OwnE SlE Enco RowTys)

theorem own_empty5 (w : World) : OwnB 5 (w.alloc (.cells #[] 5)) (.slice (some ⟨w.heap.size, 0, none⟩) 0 0) [] [] :=
  OwnB.of_heap (heap_alloc_new _ _) rfl rfl (by simp [maxLen])
section
variable {ops : Array Oper} {o : Oper} {a : Act} {w : World} {K : Act → World → Prop} {Q : Exit → Act → World → Prop} {E : Prop}
theorem step_empty61 (hg : o.guard = none) (ho : o.op = .buildSlice 85 0 #[]) (h : ∀ v' w', OwnB 5 w' v' [] [] → Frm [] w w' → (∀ i ∈ blk v', w.heap.size ≤ i) → K (a.put o.dst v') w') :
    if Region.wanted o (yielded ops a.tmps) = true then Oper.wp Tryz.prog o a w K Q else E := by
  refine step_val (v := .slice (some ⟨w.heap.size, 0, none⟩) 0 0) (w' := w.alloc (.cells #[] 5)) hg ?_ (h _ _ (own_empty5 w) ((Frm.refl [] w).alloc _) (fun i hi => by simp [blk] at hi; omega))
  have he : (Instr.buildSlice 85 0 #[]).run Tryz.prog w = .ok (.slice (some ⟨w.heap.size, 0, none⟩) 0 0) (w.alloc (.cells #[] 5)) := by
    go_simp
  simp [execOp, ho, he, Result.andThen]
end
/-- What Bytes tells. -/
def BytesT (t : Tab) (w : World) (e : Ending) (w' : World) : Prop := ∃ a cap sp, e = .returned (.tuple #[.slice a (packT t).length cap, .int .i64 (mayTE t)]) ∧ OwnB 5 w' (.slice a (packT t).length cap) (packT t) sp ∧ Frm [] w w' ∧ ∀ i ∈ blk (.slice a (packT t).length cap), w.heap.size ≤ i
theorem packT_no {t : Tab} (h : mayT t = false) : packT t = [] ∧ mayTE t = 2 := by unfold packT mayTE; rw [h]; exact ⟨rfl, rfl⟩
theorem packT_yes {t : Tab} (h : mayT t = true) : packT t = encT t ∧ mayTE t = 0 := by unfold packT mayTE; rw [h]; exact ⟨rfl, rfl⟩
set_option maxHeartbeats 8000000 in
theorem BytesT_any (vr vl : Value) (t : Tab) (w : World) (h : TabV w vr vl t) (hf : FitT t) : Calls Tryz.prog 17 #[tv vr vl t] w (BytesT t w) := by
  have HK := Lib.hid (fun z (f : Frm [] w z) => CheckT_any vr vl t z (h.keep0 f) hf)
  have f0 : Frm [] w (w.alloc (.cells (tc vr vl t).toArray 27)) := (Frm.refl [] w).alloc _
  have B := Lib.hid (TB.new w vr vl t)
  have LT := Lib.hid B.out.gets.all
  have F0 := Lib.hid f0
  cases hm : mayT t with
  | false =>
    obtain ⟨e1, e2⟩ := packT_no hm
    rw [e2] at HK
    have HP := Lib.hid (And.intro e1 e2)
    have HTV := Lib.hid (show tv vr vl t = .agg (tc vr vl t).toArray from rfl)
    rw [HTV.out]
    generalize (tc vr vl t).toArray = A at *
    clear e1 e2 hm h hf B f0
    go_enter Tryz.func17, Tryz.ntmps17
    go_upto_region 1 with (fail)
    generalize w.alloc (.cells A 27) = W at *
    go_wp2_with (first
      | ((with_reducible (show wpList _ _ _ (Oper.mk _ (Op.load 27 _) _ _ _ _ :: _) _ _)); refine wpList_load_g (by rfl) 27 _ rfl _ rfl LT.out ?_)
      | (go_at_call 22; refine (HK.out _ F0.out).mono ?_; rintro e w1 ⟨rfl, f1⟩))
    go_ret2
    exact ⟨none, 0, [], by rw [HP.out.1, HP.out.2]; rfl, by rw [HP.out.1]; exact OwnB.nil _ _, F0.out.trans f1 (by simp), by simp [blk]⟩
  | true =>
    obtain ⟨e1, e2⟩ := packT_yes hm
    rw [e2] at HK
    have HP := Lib.hid (And.intro e1 e2)
    have M := mayT_iff.1 hm
    obtain ⟨hr, sp, hli⟩ := h
    obtain ⟨⟨k0, k1⟩, ⟨d0, d1⟩, ⟨a0, a1⟩, ⟨x0, x1⟩⟩ := cur_wf (by have := M.l1; omega) M.cur
    have n0 := M.n0
    have n1 := M.n1
    have hmany := M.many
    have hl1 := M.l1
    have hwx : ∀ x ∈ t.recs, WfR x ∧ x.root.ads.length ≤ 1000000 := fun x hx => ⟨mayR_wf (M.one hx) (hr.sums x hx), (hf.all x hx).ads⟩
    have hfl := flat_len (fun x hx => ⟨(hwx x hx).1, hr.sums x hx⟩)
    have hll : ∀ n ∈ t.lives, 0 ≤ n ∧ n < 4294967296 := fun n hn => by have := M.lives n hn; omega
    have hE : encT t = [] ++ be4 t.next.toNat ++ (be1 t.recs.length ++ t.recs.flatMap encR) ++ encC t.cur ++ encL t.lives := by simp [encT, List.append_assoc]
    have HPE := Lib.hid hE
    have H1 := Lib.hid (fun z v1 (h1 : Wr w z v1 []) => fourW w v1 [] t.next z h1 (by simp) (by omega))
    have H2 := Lib.hid (fun z v1 (h1 : Wr w z v1 ([] ++ be4 t.next.toNat)) => recordsW w v1 vr _ t.recs z h1 (by simp [be4]) hr (by omega) hwx)
    have H3 := Lib.hid (fun z v1 (h1 : Wr w z v1 ([] ++ be4 t.next.toNat ++ (be1 t.recs.length ++ t.recs.flatMap encR))) => cursorW w v1 _ t.cur z h1 (by simp only [List.length_append, List.length_nil, be4_len, be1_len]; omega) ⟨k0, k1⟩ ⟨d0, d1⟩ ⟨a0, a1⟩ ⟨x0, x1⟩)
    have H4 := Lib.hid (fun z v1 (h1 : Wr w z v1 ([] ++ be4 t.next.toNat ++ (be1 t.recs.length ++ t.recs.flatMap encR) ++ encC t.cur)) => livesW w v1 vl _ t.lives sp z h1 (by simp only [List.length_append, List.length_nil, be4_len, be1_len, encC_length]; omega) hli (by omega) hll)
    generalize ([] ++ be4 t.next.toNat) = l1 at *
    generalize (l1 ++ (be1 t.recs.length ++ t.recs.flatMap encR)) = l2 at *
    generalize (l2 ++ encC t.cur) = l3 at *
    generalize (l3 ++ encL t.lives) = l4 at *
    have HTV := Lib.hid (show tv vr vl t = .agg (tc vr vl t).toArray from rfl)
    have HG := Lib.hid (show ∀ z : World, z.heap[w.heap.size]? = some (.cells (tc vr vl t).toArray 27 (0, 0)) → BxT z w.heap.size vr vl t from fun z hz => TB.gets hz)
    have HB := Lib.hid (show ∀ z, Frm [] (w.alloc (.cells (tc vr vl t).toArray 27)) z → z.heap[w.heap.size]? = some (.cells (tc vr vl t).toArray 27 (0, 0)) from fun z f => B.out.keep0 f)
    rw [HTV.out]
    generalize (tc vr vl t).toArray = A at *
    have hsz : (w.alloc (.cells A 27)).heap.size = w.heap.size + 1 := by simp
    have HSZ := Lib.hid hsz
    generalize hgz : w.heap.size = g at *
    have HGZ := Lib.hid hgz
    clear e1 e2 hm hf B f0 M hr hli k0 k1 d0 d1 a0 a1 x0 x1 n0 n1 hmany hl1 hwx hfl hll hE hsz
    obtain ⟨vr0, hvr⟩ : ∃ vr0, vr0 = vr := ⟨_, rfl⟩
    go_enter Tryz.func17, Tryz.ntmps17
    go_upto_region 1 with (fail)
    generalize w.alloc (.cells A 27) = W at *
    go_upto_region 4 with (first
      | ((with_reducible (show wpList _ _ _ (Oper.mk _ (Op.load 27 _) _ _ _ _ :: _) _ _)); refine wpList_load_g (by rfl) 27 _ rfl _ rfl LT.out ?_)
      | (go_at_call 22; refine (HK.out _ F0.out).mono ?_; rintro e w1 ⟨rfl, f1⟩))
    have F1 := Lib.hid f1
    have F1w := Lib.hid (F0.out.trans f1 (by simp))
    clear f1
    refine wp_region_held_drew (S := fun z => z.heap[g]? = some (.cells A 27 (0, 0))) (by kernel_rfl) (HB.out _ F1.out.drew) (fun hHeld => ?_)
    refine wpAnyH_take (i := 1) (oi := ⟨some 11, .fieldAddr 27 (.tmp 1) 0, _, _, _, none⟩) (v := ?_) rfl (by kernel_rfl) (by kernel_rfl) (by kernel_rfl) (fun _ _ _ h => h) (Or.inl ⟨by rfl, ?_⟩) hHeld ?_
    rotate_left
    focus (intro z hSw; clear hSw; go_simp; try with_reducible rfl)
    try simp only [Act.put, List.setIfInBounds_toArray, List.set_cons_zero, List.set_cons_succ]
    refine wpAnyH_take (i := 2) (oi := ⟨some 12, .load 3 (.tmp 11), _, _, _, none⟩) (v := ?_) rfl (by kernel_rfl) (by kernel_rfl) (by kernel_rfl) (fun _ _ _ h => h) (Or.inl ⟨by rfl, ?_⟩) hHeld ?_
    rotate_left
    focus (intro z hSw; have q0 := (HG.out z hSw).next; have q1 := (HG.out z hSw).recs; have q2 := (HG.out z hSw).lives; clear hSw; go_simp; try with_reducible rfl)
    try simp only [Act.put, List.setIfInBounds_toArray, List.set_cons_zero, List.set_cons_succ]
    refine wpAnyH_take (i := 4) (oi := ⟨some 14, .fieldAddr 27 (.tmp 1) 1, _, _, _, none⟩) (v := ?_) rfl (by kernel_rfl) (by kernel_rfl) (by kernel_rfl) (fun _ _ _ h => h) (Or.inl ⟨by rfl, ?_⟩) hHeld ?_
    rotate_left
    focus (intro z hSw; clear hSw; go_simp; try with_reducible rfl)
    try simp only [Act.put, List.setIfInBounds_toArray, List.set_cons_zero, List.set_cons_succ]
    refine wpAnyH_take (i := 5) (oi := ⟨some 15, .load 22 (.tmp 14), _, _, _, none⟩) (v := ?_) rfl (by kernel_rfl) (by kernel_rfl) (by kernel_rfl) (fun _ _ _ h => h) (Or.inl ⟨by rfl, ?_⟩) hHeld ?_
    rotate_left
    focus (intro z hSw; have q0 := (HG.out z hSw).next; have q1 := (HG.out z hSw).recs; have q2 := (HG.out z hSw).lives; clear hSw; go_simp; try with_reducible rfl)
    try simp only [Act.put, List.setIfInBounds_toArray, List.set_cons_zero, List.set_cons_succ]
    refine wpAnyH_take (i := 7) (oi := ⟨some 17, .fieldAddr 27 (.tmp 1) 2, _, _, _, none⟩) (v := ?_) rfl (by kernel_rfl) (by kernel_rfl) (by kernel_rfl) (fun _ _ _ h => h) (Or.inl ⟨by rfl, ?_⟩) hHeld ?_
    rotate_left
    focus (intro z hSw; clear hSw; go_simp; try with_reducible rfl)
    try simp only [Act.put, List.setIfInBounds_toArray, List.set_cons_zero, List.set_cons_succ]
    refine wpAnyH_take (i := 8) (oi := ⟨some 18, .load 24 (.tmp 17), _, _, _, none⟩) rfl (by kernel_rfl) (by kernel_rfl) (by kernel_rfl) (fun _ _ _ h => h) (yieldsIf_ld (by rfl) 24 _ rfl _ rfl (fun z hSw => (HG.out z hSw).cur)) hHeld ?_
    try simp only [Act.put, List.setIfInBounds_toArray, List.set_cons_zero, List.set_cons_succ]
    refine wpAnyH_take (i := 10) (oi := ⟨some 20, .fieldAddr 27 (.tmp 1) 3, _, _, _, none⟩) (v := ?_) rfl (by kernel_rfl) (by kernel_rfl) (by kernel_rfl) (fun _ _ _ h => h) (Or.inl ⟨by rfl, ?_⟩) hHeld ?_
    rotate_left
    focus (intro z hSw; clear hSw; go_simp; try with_reducible rfl)
    try simp only [Act.put, List.setIfInBounds_toArray, List.set_cons_zero, List.set_cons_succ]
    refine wpAnyH_take (i := 11) (oi := ⟨some 21, .load 25 (.tmp 20), _, _, _, none⟩) (v := ?_) rfl (by kernel_rfl) (by kernel_rfl) (by kernel_rfl) (fun _ _ _ h => h) (Or.inl ⟨by rfl, ?_⟩) hHeld ?_
    rotate_left
    focus (intro z hSw; have q0 := (HG.out z hSw).next; have q1 := (HG.out z hSw).recs; have q2 := (HG.out z hSw).lives; clear hSw; go_simp; try with_reducible rfl)
    try simp only [Act.put, List.setIfInBounds_toArray, List.set_cons_zero, List.set_cons_succ]
    refine wpAnyH_ready (rs := [0]) (by kernel_rfl) (by simp) ?_
    refine AllReadyH.cons (o := ⟨some 10, .buildSlice 85 0 #[], _, _, _, none⟩) rfl (fun K hK => ?_) AllReadyH.nil
    refine step_empty61 rfl rfl (fun v0 we o0 f0 n0 => ?_)
    have WC0 := Lib.hid (show Wb w we g (.cells A 27 (0, 0)) v0 [] from ⟨⟨⟨[], o0⟩, F1w.out.drew.trans f0 (by simp), fun i hi => Nat.le_trans F1w.out.drew.size (n0 i hi)⟩, f0.heap (HB.out _ F1.out.drew) (by simp), fun hm => by have h1 := n0 _ hm; have h2 := F1.out.drew.size; have h3 := HSZ.out; omega⟩)
    clear o0 f0 n0
    refine hK.out _ _ ?_ (fun hNext => ?_)
    · exact WC0.out.box
    clear hK K hHeld
    have hHeld := hNext
    clear hNext
    try simp only [Act.put, List.setIfInBounds_toArray, List.set_cons_zero, List.set_cons_succ]
    refine wpAnyH_ready (rs := [3]) (by kernel_rfl) (by simp) ?_
    refine AllReadyH.cons (o := ⟨some 13, .call { callee := .value (.func 60), args := #[.tmp 10, .tmp 12], argTypes := #[85, 3] }, _, _, _, none⟩) rfl (fun K hK => ?_) AllReadyH.nil
    go_simp
    refine (H1.out _ _ WC0.out.wr).mono ?_
    rintro r w2 ⟨v1, rfl, h1, g1⟩
    have WC1 := Lib.hid (WC0.out.next h1 g1)
    clear h1 g1
    refine hK.out _ _ ?_ (fun hNext => ?_)
    · exact WC1.out.box
    clear hK K hHeld
    have hHeld := hNext
    clear hNext
    try simp only [Act.put, List.setIfInBounds_toArray, List.set_cons_zero, List.set_cons_succ]
    refine wpAnyH_ready (rs := [6]) (by kernel_rfl) (by simp) ?_
    refine AllReadyH.cons (o := ⟨some 16, .call { callee := .value (.func 61), args := #[.tmp 13, .tmp 15], argTypes := #[85, 22] }, _, _, _, none⟩) rfl (fun K hK => ?_) AllReadyH.nil
    go_simp
    refine (H2.out _ _ WC1.out.wr).mono ?_
    rintro r w3 ⟨v2, rfl, h2, g2⟩
    have WC2 := Lib.hid (WC1.out.next h2 g2)
    clear h2 g2
    refine hK.out _ _ ?_ (fun hNext => ?_)
    · exact WC2.out.box
    clear hK K hHeld
    have hHeld := hNext
    clear hNext
    try simp only [Act.put, List.setIfInBounds_toArray, List.set_cons_zero, List.set_cons_succ]
    refine wpAnyH_ready (rs := [9]) (by kernel_rfl) (by simp) ?_
    refine AllReadyH.cons (o := ⟨some 19, .call { callee := .value (.func 62), args := #[.tmp 16, .tmp 18], argTypes := #[85, 24] }, _, _, _, none⟩) rfl (fun K hK => ?_) AllReadyH.nil
    go_simp
    refine (H3.out _ _ WC2.out.wr).mono ?_
    rintro r w4 ⟨v3, rfl, h3, g3⟩
    have WC3 := Lib.hid (WC2.out.next h3 g3)
    clear h3 g3
    refine hK.out _ _ ?_ (fun hNext => ?_)
    · exact WC3.out.box
    clear hK K hHeld
    have hHeld := hNext
    clear hNext
    try simp only [Act.put, List.setIfInBounds_toArray, List.set_cons_zero, List.set_cons_succ]
    refine wpAnyH_ready (rs := [12]) (by kernel_rfl) (by simp) ?_
    refine AllReadyH.cons (o := ⟨some 22, .call { callee := .value (.func 63), args := #[.tmp 19, .tmp 21], argTypes := #[85, 25] }, _, _, _, none⟩) rfl (fun K hK => ?_) AllReadyH.nil
    go_simp
    refine (H4.out _ _ WC3.out.wr).mono ?_
    rintro r w5 ⟨v4, rfl, h4, g4⟩
    have WC4 := Lib.hid (WC3.out.next h4 g4)
    clear h4 g4
    refine hK.out _ _ ?_ (fun hNext => ?_)
    · exact WC4.out.box
    clear hK K hHeld
    have hHeld := hNext
    clear hNext
    try simp only [Act.put, List.setIfInBounds_toArray, List.set_cons_zero, List.set_cons_succ]
    refine wpAnyH_take (i := 13) (oi := ⟨some 2, .assign (.tmp 22), _, _, _, none⟩) (v := ?_) rfl (by kernel_rfl) (by kernel_rfl) (by kernel_rfl) (fun _ _ _ h => h) (Or.inl ⟨by rfl, ?_⟩) hHeld ?_
    rotate_left
    focus (intro z hSw; clear hSw; go_simp; try with_reducible rfl)
    try simp only [Act.put, List.setIfInBounds_toArray, List.set_cons_zero, List.set_cons_succ]
    refine wpAnyH_take (i := 14) (oi := ⟨some 3, .assign (.const (.int .i64 0)), _, _, _, none⟩) (v := ?_) rfl (by kernel_rfl) (by kernel_rfl) (by kernel_rfl) (fun _ _ _ h => h) (Or.inl ⟨by rfl, ?_⟩) hHeld ?_
    rotate_left
    focus (intro z hSw; clear hSw; go_simp; try with_reducible rfl)
    try simp only [Act.put, List.setIfInBounds_toArray, List.set_cons_zero, List.set_cons_succ]
    refine wpAnyH_done (by kernel_rfl) ?_ _
    go_wp2_with fail
    go_ret2
    obtain ⟨a5, c5, e5⟩ := WC4.out.wr.form
    obtain ⟨sp5, o5⟩ := WC4.out.wr.own
    subst e5
    exact ⟨a5, c5, sp5, by rw [HP.out.1, HP.out.2, HPE.out]; rfl, by rw [HP.out.1, HPE.out]; exact o5, WC4.out.wr.frm, by rw [HP.out.1, HPE.out]; exact fun i hi => WC4.out.wr.new i hi⟩
end Go.Proofs.YtljhanhipmnioaaGreat.Rd

namespace Go.Proofs.YtljhanhipmnioaaGreat.Rd
open Go.RowKit
set_option linter.unusedVariables false
set_option linter.unusedSimpArgs false
set_option maxRecDepth 100000

open Pt (Pt may enc readPt readE zeroPt be4 be1 pc pv PtV SlA OwnA BT wpList_load_g heap_alloc_at lst_slB one_slB Ext Grew exec_slice_lh yieldsIf_ld)
open Kr (OwnE SlE Enco RowTys)

section
variable {ops : Array Oper} {o : Oper} {a : Act} {w : World} {K : Act → World → Prop} {Q : Exit → Act → World → Prop} {E : Prop}
end
theorem Wb.keep0 {w0 w w' : World} {g : Nat} {o : Obj} {v : Value} {l : List UInt8} (h : Wb w0 w g o v l) (f : Frm [] w w') : Wb w0 w' g o v l := ⟨h.wr.keep0 f, f.heap h.box (by simp), h.out⟩
/-- Bytes that can be read beside those that grow. -/
structure Sd (w : World) (v y : Value) (m : List UInt8) : Prop where
  sl : ∃ sp, SlB w y m sp
  sep : ∀ k ∈ blk y, k ∉ blk v
  lt : ∀ k ∈ blk y, k < w.heap.size
theorem Sd.next {w w' : World} {v v' y : Value} {m : List UInt8} (h : Sd w v y m) (g : Grew w v w' v') : Sd w' v' y m := by
  obtain ⟨sp, hs⟩ := h.sl
  exact ⟨⟨sp, hs.keep g.1 h.sep⟩, fun k hk hm => (g.2 k hm).elim (h.sep k hk) (fun h2 => by have := h.lt k hk; omega), fun k hk => Nat.lt_of_lt_of_le (h.lt k hk) g.1.size⟩
theorem Sd.keep0 {w w' : World} {v y : Value} {m : List UInt8} (h : Sd w v y m) (f : Frm [] w w') : Sd w' v y m := by
  obtain ⟨sp, hs⟩ := h.sl
  exact ⟨⟨sp, hs.keep f (by simp)⟩, h.sep, fun k hk => Nat.lt_of_lt_of_le (h.lt k hk) f.size⟩
end Go.Proofs.YtljhanhipmnioaaGreat.Rd

namespace Go.Proofs.YtljhanhipmnioaaGreat.Rd
open Go.RowKit
set_option linter.unusedVariables false
set_option linter.unusedSimpArgs false
set_option maxRecDepth 100000

open Pt (Pt may enc readPt readE zeroPt be4 be1 pc pv PtV SlA OwnA BT wpList_load_g heap_alloc_at lst_slB one_slB Ext Grew exec_slice_lh yieldsIf_ld)
open Kr (OwnE SlE Enco RowTys)

theorem Wr.base {w0 w1 w : World} {v : Value} {l : List UInt8} (h : Wr w1 w v l) (f : Frm [] w0 w1) : Wr w0 w v l := ⟨h.own, f.trans h.frm (by simp), fun i hi => Nat.le_trans f.size (h.new i hi)⟩
end Go.Proofs.YtljhanhipmnioaaGreat.Rd

namespace Go.Proofs.YtljhanhipmnioaaGreat.Rd
open Go.RowKit
set_option linter.unusedVariables false
set_option linter.unusedSimpArgs false
set_option maxRecDepth 100000

open Pt (Pt may enc readPt readE zeroPt be4 be1 pc pv PtV SlA OwnA BT wpList_load_g heap_alloc_at lst_slB one_slB Ext Grew exec_slice_lh yieldsIf_ld)
open Kr (OwnE SlE Enco RowTys)

/-- From a state (where it stands, whether a field was not all there) a parser's run tells x and the next state. -/
def Runs {α : Type} (p : P α) (l : List UInt8) (at_ : Nat) (sh : Bool) (x : α) (at2 : Nat) (sh2 : Bool) : Prop :=
  (sh = true → sh2 = true) ∧ (sh = false → (∃ y r, p (l.drop at_) = some (y, r) ∧ sh2 = false ∧ x = y ∧ r = l.drop at2 ∧ at2 ≤ l.length ∧ at_ ≤ at2) ∨ (p (l.drop at_) = none ∧ sh2 = true))
theorem Runs.bnd {α β : Type} {p : P α} {f : α → P β} {l : List UInt8} {a1 a2 a3 : Nat} {s1 s2 s3 : Bool} {x : α} {y : β} (h : Runs p l a1 s1 x a2 s2) (k : Runs (f x) l a2 s2 y a3 s3) : Runs (bnd p f) l a1 s1 y a3 s3 := by
  refine ⟨fun hs => k.1 (h.1 hs), fun hs => ?_⟩
  rcases h.2 hs with ⟨u, r, h1, h2, rfl, rfl, h3, h4⟩ | ⟨h1, h2⟩
  · rw [bnd_eq h1]
    rcases k.2 h2 with ⟨z, q, k1, k2, k3, k4, k5, k6⟩ | k1
    · exact .inl ⟨z, q, k1, k2, k3, k4, k5, by omega⟩
    · exact .inr k1
  · exact .inr ⟨bnd_none h1, k.1 h2⟩
theorem Runs.ret {α : Type} (x : α) (l : List UInt8) (a : Nat) (s : Bool) (ha : a ≤ l.length) : Runs (ret x) l a s x a s :=
  ⟨id, fun hs => .inl ⟨x, _, rfl, hs, rfl, rfl, ha, Nat.le_refl _⟩⟩
/-- Is the next field all there? -/
def okN (l : List UInt8) (at_ n : Nat) (sh : Bool) : Bool := !sh && decide (at_ + n ≤ l.length)
def nxt (l : List UInt8) (at_ n : Nat) (sh : Bool) : List UInt8 := if okN l at_ n sh = true then (l.drop at_).take n else List.replicate n 0
def nxtP (l : List UInt8) (at_ n : Nat) (sh : Bool) : List UInt8 := if okN l at_ n sh = true then (l.drop at_).take n else []
def nAt (l : List UInt8) (at_ n : Nat) (sh : Bool) : Nat := if okN l at_ n sh = true then at_ + n else at_
theorem okN_iff {l : List UInt8} {at_ n : Nat} {sh : Bool} : okN l at_ n sh = true ↔ sh = false ∧ at_ + n ≤ l.length := by unfold okN; simp
theorem nxt_len {l : List UInt8} {at_ n : Nat} {sh : Bool} : (nxt l at_ n sh).length = n := by
  unfold nxt
  by_cases h : okN l at_ n sh = true
  · rw [if_pos h]; rw [okN_iff] at h; simp; omega
  · rw [if_neg h]; simp
theorem nxtP_len {l : List UInt8} {at_ n : Nat} {sh : Bool} : (nxtP l at_ n sh).length ≤ n := by
  unfold nxtP
  split
  · simp; omega
  · simp
theorem nAt_le {l : List UInt8} {at_ n : Nat} {sh : Bool} (h : at_ ≤ l.length) : nAt l at_ n sh ≤ l.length ∧ at_ ≤ nAt l at_ n sh := by
  unfold nAt
  split
  · next hk => rw [okN_iff] at hk; omega
  · omega
/-- What a field's bytes tell, where a parser takes n of them. -/
theorem runs_field {α : Type} (p : P α) (f : List UInt8 → α) (n : Nat) (hp : ∀ l : List UInt8, p l = if l.length < n then none else some (f (l.take n), l.drop n)) (l : List UInt8) (at_ : Nat) (sh : Bool) (x : α) (hx : okN l at_ n sh = true → x = f ((l.drop at_).take n)) (ha : at_ ≤ l.length) : Runs p l at_ sh x (nAt l at_ n sh) (!okN l at_ n sh) := by
  refine ⟨fun hs => by unfold okN; rw [hs]; rfl, fun hs => ?_⟩
  rw [hp]
  by_cases h : at_ + n ≤ l.length
  · have hk : okN l at_ n sh = true := okN_iff.2 ⟨hs, h⟩
    left
    rw [if_neg (by simp; omega)]
    exact ⟨_, _, rfl, by rw [hk]; rfl, hx hk, by unfold nAt; rw [if_pos hk, List.drop_drop], by unfold nAt; rw [if_pos hk]; omega, by unfold nAt; rw [if_pos hk]; omega⟩
  · have hk : okN l at_ n sh = false := by cases hb : okN l at_ n sh with | false => rfl | true => exact absurd (okN_iff.1 hb).2 h
    right
    rw [if_pos (by simp; omega), hk]
    exact ⟨rfl, rfl⟩
theorem num_if (k : Nat) (l : List UInt8) : num k l = if l.length < k then none else some (bn (l.take k), l.drop k) := by
  by_cases h : l.length < k
  · rw [if_pos h, num_none h]
  · rw [if_neg h, num_some h]
theorem runs_num (k : Nat) (l : List UInt8) (at_ : Nat) (sh : Bool) (ha : at_ ≤ l.length) : Runs (num k) l at_ sh (bn (nxt l at_ k sh)) (nAt l at_ k sh) (!okN l at_ k sh) :=
  runs_field (num k) bn k (num_if k) l at_ sh _ (fun h => by unfold nxt; rw [if_pos h]) ha
theorem bn_snoc (l : List UInt8) (b : UInt8) : bn (l ++ [b]) = bn l * 256 + b.toNat := by simp [bn]
theorem bn_zeros (n : Nat) : bn (List.replicate n 0) = 0 := by
  induction n with
  | zero => rfl
  | succ n ih => rw [List.replicate_succ', bn_snoc, ih]; rfl
theorem bn_nxt (l : List UInt8) (at_ k : Nat) (sh : Bool) : bn (nxtP l at_ k sh) = bn (nxt l at_ k sh) := by
  unfold nxtP nxt
  split
  · rfl
  · rw [bn_zeros]; rfl
theorem runs_tk (n : Nat) (l : List UInt8) (at_ : Nat) (sh : Bool) (x : List UInt8) (hx : okN l at_ n sh = true → x = (l.drop at_).take n) (ha : at_ ≤ l.length) : Runs (tk n) l at_ sh x (nAt l at_ n sh) (!okN l at_ n sh) :=
  runs_field (tk n) id n (fun l => rfl) l at_ sh x hx ha
/-- Bytes that can be read, of blocks below a bound (or an empty slice with whatever address). -/
def RV (N : Nat) (w : World) (v : Value) (l : List UInt8) : Prop := ∃ sp, SlB w v l sp ∧ ((∀ k ∈ blk v, k < N) ∨ ∃ a, v = .slice (some a) 0 0 ∧ l = [])
theorem RV.keep {N : Nat} {w w' : World} {v : Value} {l : List UInt8} {L : List Nat} (h : RV N w v l) (f : Frm L w w') (hL : ∀ k ∈ L, N ≤ k) : RV N w' v l := by
  obtain ⟨sp, hs, hb | ⟨a, rfl, rfl⟩⟩ := h
  · exact ⟨sp, hs.keep f (fun k hk hm => by have := hb k hk; have := hL k hm; omega), .inl hb⟩
  · exact ⟨[], ⟨rfl, .inr (.inl ⟨a, rfl, rfl, rfl⟩)⟩, .inr ⟨a, rfl, rfl⟩⟩
theorem RV.form {N : Nat} {w : World} {v : Value} {l : List UInt8} (h : RV N w v l) : ∃ a cap, v = .slice a l.length cap ∧ l.length ≤ cap ∧ cap ≤ maxLen := by
  obtain ⟨sp, hs, _⟩ := h
  exact hs.form
theorem RV.of {w : World} {v : Value} {l sp : List UInt8} (h : SlB w v l sp) : RV w.heap.size w v l := by
  refine ⟨sp, h, ?_⟩
  obtain ⟨h1, ⟨h2, h3, h4⟩ | ⟨a, h2, h3, h4⟩ | ⟨b', off', cap', h2, h3, h4, h5, h6⟩⟩ := id h
  · left; subst h2; simp [blk]
  · right; exact ⟨a, h2, List.eq_nil_of_length_eq_zero h3⟩
  · subst h2
    rcases Nat.eq_zero_or_pos cap' with hc | hc
    · right
      have : l.length = 0 := by omega
      rw [this, hc]
      exact ⟨_, rfl, List.eq_nil_of_length_eq_zero this⟩
    · left
      intro k hk
      simp only [blk, List.mem_singleton] at hk
      subst hk
      obtain ⟨u, hu⟩ : ∃ u, (bvs l ++ bvs sp)[0]? = some u := ⟨_, List.getElem?_eq_getElem (by omega)⟩
      exact World.block_lt_of_cell? _ _ (h6 0 u hu)
/-- A reader's block. -/
def RdB (w : World) (g : Nat) (v : Value) (at_ : Int) (sh od : Bool) : Prop := w.heap[g]? = some (.cells #[v, .int .i64 at_, .bool sh, .bool od] 115 (0, 0))
theorem RdB.c0 {w : World} {g : Nat} {v : Value} {at_ : Int} {sh od : Bool} (h : RdB w g v at_ sh od) : w.cell? ⟨g, 0, none⟩ = some v := by rw [cell_of_heap h]; rfl
theorem RdB.c1 {w : World} {g : Nat} {v : Value} {at_ : Int} {sh od : Bool} (h : RdB w g v at_ sh od) : w.cell? ⟨g, 1, none⟩ = some (.int .i64 at_) := by rw [cell_of_heap h]; rfl
theorem RdB.c2 {w : World} {g : Nat} {v : Value} {at_ : Int} {sh od : Bool} (h : RdB w g v at_ sh od) : w.cell? ⟨g, 2, none⟩ = some (.bool sh) := by rw [cell_of_heap h]; rfl
theorem RdB.c3 {w : World} {g : Nat} {v : Value} {at_ : Int} {sh od : Bool} (h : RdB w g v at_ sh od) : w.cell? ⟨g, 3, none⟩ = some (.bool od) := by rw [cell_of_heap h]; rfl
theorem RdB.fz {w : World} {g : Nat} {v : Value} {at_ : Int} {sh od : Bool} (h : RdB w g v at_ sh od) (i : Nat) : w.frozen? ⟨g, i, none⟩ = false := frozen_of_heap h i
theorem RdB.keep {w w' : World} {L : List Nat} {g : Nat} {v : Value} {at_ : Int} {sh od : Bool} (h : RdB w g v at_ sh od) (f : Frm L w w') (hn : g ∉ L) : RdB w' g v at_ sh od := f.heap h hn

end Go.Proofs.YtljhanhipmnioaaGreat.Rd

namespace Go.Proofs.YtljhanhipmnioaaGreat.Rd
open Go.RowKit
set_option linter.unusedVariables false
set_option linter.unusedSimpArgs false
set_option maxRecDepth 100000

open Pt (Pt may enc readPt readE zeroPt be4 be1 pc pv PtV SlA OwnA BT wpList_load_g heap_alloc_at lst_slB one_slB Ext Grew exec_slice_lh yieldsIf_ld)
open Kr (OwnE SlE Enco RowTys)

/-- A reader of some bytes, where it stands. -/
structure RdS (w : World) (g : Nat) (l : List UInt8) (at_ : Nat) (sh od : Bool) : Prop where
  blkv : ∃ a cap, RdB w g (.slice a l.length cap) at_ sh od ∧ RV g w (.slice a l.length cap) l
  le : at_ ≤ l.length
  small : l.length ≤ 1000000
def BanRel (l : List UInt8) (n c : Value) : Prop := ∃ k m : Nat, k ≤ l.length ∧ c = .int .i64 k ∧ n = .int .i64 m ∧ m = bn (l.take k) ∧ m < 256 ^ k
end Go.Proofs.YtljhanhipmnioaaGreat.Rd

namespace Go.Proofs.YtljhanhipmnioaaGreat.Rd
open Go.RowKit
set_option linter.unusedVariables false
set_option linter.unusedSimpArgs false
set_option maxRecDepth 100000

open Pt (Pt may enc readPt readE zeroPt be4 be1 pc pv PtV SlA OwnA BT wpList_load_g heap_alloc_at lst_slB one_slB Ext Grew exec_slice_lh yieldsIf_ld)
open Kr (OwnE SlE Enco RowTys)
/-- A block and its cells. -/
def Blk (w : World) (g : Nat) (T : TypeId) (cs : List Value) : Prop := w.heap[g]? = some (.cells cs.toArray T (0, 0))
/-- Cells written one behind the other. -/
def setL (C : Array Value) : Nat → List Value → Array Value
  | _, [] => C
  | o, v :: r => setL (C.setIfInBounds o v) (o + 1) r
theorem setL_toList : ∀ (vs : List Value) (C : Array Value) (o : Nat), o + vs.length ≤ C.size → (setL C o vs).toList = C.toList.take o ++ vs ++ C.toList.drop (o + vs.length)
  | [], C, o, h => by simp [setL]
  | v :: r, C, o, h => by
    have h1 : o < C.size := by simp at h; omega
    simp only [setL]
    rw [setL_toList r (C.setIfInBounds o v) (o + 1) (by simp at h ⊢; omega)]
    simp only [Array.toList_setIfInBounds]
    have hl : o < C.toList.length := by simpa using h1
    rw [List.take_set, List.take_succ_eq_append_getElem hl, List.set_append_right _ _ (by simp; omega)]
    have : o - (C.toList.take o).length = 0 := by simp; omega
    rw [this, List.set_cons_zero, List.drop_set_of_lt (by omega), List.length_cons, show o + 1 + r.length = o + (r.length + 1) by omega]
    simp
theorem heap_setCells {w : World} {g : Nat} {t : TypeId} : ∀ (vs : List Value) (o : Nat) (w : World) (C : Array Value), w.heap[g]? = some (.cells C t (0, 0)) → (w.setCells g o vs).heap[g]? = some (.cells (setL C o vs) t (0, 0))
  | [], o, w, C, h => h
  | v :: r, o, w, C, h => heap_setCells (w := w) r (o + 1) (w.setCell ⟨g, o, none⟩ v) (C.setIfInBounds o v) (by rw [heap_setCell_same _ h])
theorem Frm.setCells {L : List Nat} {w : World} {g : Nat} : ∀ (vs : List Value) (o : Nat) (w' : World), Frm L w w' → (g ∈ L ∨ w.heap.size ≤ g) → Frm L w (w'.setCells g o vs)
  | [], o, w', f, h => f
  | v :: r, o, w', f, h => Frm.setCells r (o + 1) _ (f.setCell _ _ h) h
section
variable {w w' : World} {g : Nat} {T : TypeId} {cs pre row post : List Value} {o : Nat} {L : List Nat}
theorem Blk.keep (h : Blk w g T cs) (f : Frm L w w') (hn : g ∉ L) : Blk w' g T cs := f.heap h hn
theorem Blk.keep0 (h : Blk w g T cs) (f : Frm [] w w') : Blk w' g T cs := f.heap h (by simp)
theorem Blk.lt (h : Blk w g T cs) : g < w.heap.size := lt_heap h
theorem Blk.new (w : World) (T : TypeId) (cs : List Value) : Blk (w.alloc (.cells cs.toArray T)) w.heap.size T cs := heap_alloc_new _ _
theorem Blk.cell (h : Blk w g T cs) (i : Nat) {u : Value} (hu : cs[i]? = some u) : w.cell? ⟨g, i, none⟩ = some u := by
  rw [cell_of_heap h]; simpa using hu
theorem Blk.range (h : Blk w g T (pre ++ (row ++ post))) (hp : pre.length = o) : w.rangeAt g o row := fun j u hu => by
  refine h.cell _ ?_
  rw [List.getElem?_append_right (by omega), show o + j - pre.length = j by omega, List.getElem?_append_left (List.getElem?_eq_some_iff.1 hu).1]
  exact hu
theorem Blk.load (h : Blk w g T (pre ++ (row ++ post))) (hp : pre.length = o) {t : TypeId} (hd : (Tryz.prog.underlying t).map (·.isRow) = some true) (hi : (Tryz.prog.info? t).map (·.size) = some row.length) : (Instr.loadAt t (.pointer (some ⟨g, o, none⟩))).run Tryz.prog w = .ok (.agg row.toArray) w := by
  obtain ⟨d, h1, h2⟩ := Option.map_eq_some_iff.1 hd
  exact run_loadAt_mid w g o t row d (h.range hp) h1 h2 hi
theorem Blk.there (h : Blk w g T cs) (n : Nat) (hn : o + n ≤ cs.length) : w.there g o n := fun j hj => by
  refine ⟨?_, frozen_of_heap h _⟩
  rw [cell_of_heap h, Array.getElem?_eq_getElem (by simp; omega)]
  rfl
theorem Blk.frozen (h : Blk w g T cs) (i : Nat) : w.frozen? ⟨g, i, none⟩ = false := frozen_of_heap h _
theorem Blk.put {row' : List Value} (h : Blk w g T (pre ++ (row ++ post))) (hp : pre.length = o) (hl : row'.length = row.length) : Blk (w.setCells g o row') g T (pre ++ (row' ++ post)) := by
  unfold Blk
  rw [heap_setCells (w := w) _ _ _ _ h]
  congr 2
  apply Array.ext'
  rw [setL_toList _ _ _ (by simp; omega)]
  subst hp
  simp [hl]
theorem Blk.put1 {u u' : Value} (h : Blk w g T (pre ++ u :: post)) (hp : pre.length = o) : Blk (w.setCell ⟨g, o, none⟩ u') g T (pre ++ u' :: post) := by
  unfold Blk
  rw [heap_setCell_same _ h, List.setIfInBounds_toArray]
  subst hp
  simp
end

theorem rc_app (v : Value) (x : Rec) : rc v x = (.int .i64 x.id :: .string x.name :: .int .i64 x.kind :: .int .i64 x.size :: pc v x.root.b x.root.l x.root.s) ++ [.int .i64 x.made, .int .i64 x.of, .int .i64 x.origin, .int .i64 x.quota, .int .i64 x.reserve] := rfl
theorem rc_set {v u : Value} {x : Rec} (h : x.root.s.length = 32) (k : Nat) : (rc v x).set (39 + k) u = (.int .i64 x.id :: .string x.name :: .int .i64 x.kind :: .int .i64 x.size :: pc v x.root.b x.root.l x.root.s) ++ ([.int .i64 x.made, .int .i64 x.of, .int .i64 x.origin, .int .i64 x.quota, .int .i64 x.reserve] : List Value).set k u := by
  rw [rc_app, List.set_append_right _ _ (by simp [pc, bvs_length, h])]
  congr 2
  simp [pc, bvs_length, h]
def withId (x : Rec) (n : Int) : Rec := { x with id := n }
def withKind (x : Rec) (n : Int) : Rec := { x with kind := n }
def withSize (x : Rec) (n : Int) : Rec := { x with size := n }
def withMade (x : Rec) (n : Int) : Rec := { x with made := n }
def withOf (x : Rec) (n : Int) : Rec := { x with of := n }
def withOrigin (x : Rec) (n : Int) : Rec := { x with origin := n }
def withQuota (x : Rec) (n : Int) : Rec := { x with quota := n }
def withReserve (x : Rec) (n : Int) : Rec := { x with reserve := n }
def withName (x : Rec) (s : ByteArray) : Rec := { x with name := s }
def withRoot (x : Rec) (p : Pt) : Rec := { x with root := p }
theorem RB.there {w : World} {g : Nat} {v : Value} {x : Rec} (h : RB w g v x) : w.there g 4 35 := Blk.there (T := 56) (cs := rc v x) h.1 35 (by rw [rc_length h.2]; omega)
theorem RB.fz {w : World} {g : Nat} {v : Value} {x : Rec} (h : RB w g v x) (i : Nat) : w.frozen? ⟨g, i, none⟩ = false := frozen_of_heap h.1 i
theorem RdS.keep {w w' : World} {L : List Nat} {g : Nat} {l : List UInt8} {a : Nat} {s o : Bool} (h : RdS w g l a s o) (f : Frm L w w') (hL : ∀ k ∈ L, g < k) : RdS w' g l a s o := by
  obtain ⟨va, c, h1, h2⟩ := h.blkv
  exact ⟨⟨va, c, h1.keep f (fun hm => by have := hL g hm; omega), h2.keep f (fun k hk => by have := hL k hk; omega)⟩, h.le, h.small⟩
theorem RdS.lt {w : World} {g : Nat} {l : List UInt8} {a : Nat} {s o : Bool} (h : RdS w g l a s o) : g < w.heap.size := by
  obtain ⟨_, _, h1, _⟩ := h.blkv
  exact lt_heap h1
end Go.Proofs.YtljhanhipmnioaaGreat.Rd
