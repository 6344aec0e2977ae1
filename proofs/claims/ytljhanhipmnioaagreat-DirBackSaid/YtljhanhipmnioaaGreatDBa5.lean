/-
  Which tables may be, in two ways. No conditions but those that each theorem names. Check, the program and the document. No conditions but those that each theorem names. Writing numbers. No conditions but those that each theorem names. Writing texts, pointers, records. No conditions but those that each theorem names. Contract of the document's four; steps of its writing. No conditions but those that each theorem names. Bytes of a table, of the document. No conditions but those that each theorem names. Runs of parsers; bytes that can be read; a reader that finds no field. No conditions but those that each theorem names. The reader of the document: the next bytes, the next number. No conditions but those that each theorem names. Boxes of records, field by field. No conditions but those that each theorem names. Runs of many; lists of records that are told. No conditions but those that each theorem names. What a row's own reading gives the walks: tables, bytes. No conditions but those that each theorem names. The document reads a table. No conditions but those that each theorem names. Contract of CopyPointer. No conditions but those that each theorem names. A table is copied. No conditions but those that each theorem names. Contract of OverAddrs. No conditions but those that each theorem names. A table is written over. No conditions but those that each theorem names. Dir: small ones. No conditions but those that each theorem names. Dir: finding. No conditions but those that each theorem names. Dir: errors. No conditions but those that each theorem names.
-/
import Derived.Test.YtljhanhipmnioaaGreatDBa1
import Derived.Test.YtljhanhipmnioaaGreatDBa2
import Derived.Test.YtljhanhipmnioaaGreatDBa3
import Derived.Test.YtljhanhipmnioaaGreatDBa4
import Derived.OrdersHeld
import Derived.StillTailTactics
import Derived.Lib.Hide
import Derived.WalkHide
import Derived.Deep.SlicePairs
import Derived.BigQuiet
import Derived.Deep.QuietTactic
import Derived.Deep.RegionWith
import Derived.LaidEqlPtr
import Derived.Deep.RegionHeld3
import Derived.IntWalk
import Derived.Deep.Cut
import Derived.Great.Walk
import Derived.Deep.Slices
import Derived.ChangeSame
import Derived.ChangeMaps5
import Derived.WalkKit
import Derived.WalkSpells
import Derived.WalkLawsBesides
import Derived.Deep.AppendSrc
import Derived.Laws.CopyOwn
import Derived.Laws.BytesArg
import Derived.Carry
import Derived.Laws.BytesString
import Derived.Test.YtljhanhipmnioaaGreatChecked
import Derived.ChangeKeysEq
import Derived.Deep.MidRow
import Derived.OpenShut
import Derived.Deep.RegionLaw
import Derived.Deep.CutBlock
import Derived.Deep.DeepCutAuto
import Derived.Defers
import Derived.Recover
import Derived.Deep.WholeRow
import Derived.Deep.Strs
import Derived.Lib.Bytealg
import Derived.Lib.TrimUEq
import Derived.Lib.MinMaxS
import Derived.Lib.OthersKept
import Derived.Deep.Draws
import Derived.WalkMore
import Derived.Deep.LoopGhost
import Derived.Lib.BufferWrite
import Derived.Lib.UnsafeStr
import Derived.Laws.MakeOwn
import Derived.Laws.Strings3
import Derived.BigRegion
import Derived.Lib.Walk
namespace Go.Proofs.YtljhanhipmnioaaGreat.Rd
open Go.RowKit
set_option linter.unusedVariables false
set_option linter.unusedSimpArgs false
set_option maxRecDepth 100000

open Pt (Pt may enc zeroPt be4 be1 pc pv PtV SlA OwnA BT wpList_load_g heap_alloc_at Ext Grew yieldsIf_ld)
open Kr (OwnE SlE Enco RowTys)

theorem curEq_iff {a b : Cur} : curEq a b = true ↔ a = b := by
  unfold curEq
  simp only [Bool.and_eq_true, beq_iff_eq]
  exact ⟨fun ⟨h1, h2, h3, h4⟩ => Cur.ext' h1 h2 h3 h4, fun h => by subst h; simp⟩
theorem curP_eq (c : Cur) (n : Int) : curP c n = curB c n := by
  unfold curP curB
  by_cases h : c.kind = 0
  · rw [if_pos h, if_pos h, Bool.eq_iff_iff, curEq_iff, decide_eq_true_eq]
  · rw [if_neg h, if_neg h]
    by_cases h1 : c.kind = 1
    · rw [if_pos h1, Bool.eq_iff_iff]
      simp only [Bool.and_eq_true, Bool.or_eq_true, wi_iff, beq_iff_eq]
      omega
    · rw [if_neg h1]
      by_cases h2 : c.kind = 2
      · rw [if_pos h2, Bool.eq_iff_iff]
        simp only [Bool.and_eq_true, Bool.or_eq_true, wi_iff, beq_iff_eq]
        omega
      · rw [if_neg h2, Bool.eq_iff_iff]
        simp only [Bool.and_eq_true, Bool.or_eq_true, wi_iff, beq_iff_eq]
        simp [h1, h2]
theorem hole_b {p : Pt} (h : Pt.hole p = true) : p.b = 0 := by
  unfold Pt.hole Pt.same at h
  simp only [Bool.and_eq_true, beq_iff_eq] at h
  exact h.1.1.2
theorem chk_zero (p : Pt) : (Pt.chk p == 0) = Pt.mayB p := by unfold Pt.chk; cases Pt.mayB p <;> rfl
theorem rec_eq (x : Rec) : mayR x = (!(wrNum x) && (!(wrRoot x) && !(wrKind x))) := by
  unfold mayR wrNum wrRoot wrKind rootB
  rw [chk_zero]
  cases hn : (wi x.id 1 2147483647 && (wi x.size 1 64 && wi x.made 1 2147483648)) with
  | false => simp
  | true =>
    have hm : 1 ≤ x.made := by
      simp only [Bool.and_eq_true, wi_iff] at hn
      omega
    by_cases k1 : x.kind = 1
    · rw [if_pos k1, if_pos k1]
      have e2 : (x.kind == 2) = false := by rw [k1]; rfl
      rw [e2]
      cases hh : Pt.hole x.root with
      | true =>
        have : Pt.mayB x.root = true := by unfold Pt.mayB; rw [hh]; rfl
        rw [this]; simp
      | false => cases Pt.mayB x.root <;> cases (x.root.l == 3) <;> simp
    · rw [if_neg k1, if_neg k1]
      by_cases k2 : x.kind = 2
      · rw [if_pos k2, if_pos k2]
        have e2 : (x.kind == 2) = true := by rw [k2]; rfl
        rw [e2]
        unfold snpR snpK
        cases hh : Pt.hole x.root with
        | true =>
          have h1 : Pt.mayB x.root = true := by unfold Pt.mayB; rw [hh]; rfl
          have h2 : decide (x.root.b ≤ x.made) = true := by rw [hole_b hh]; simp; omega
          rw [h1, h2]; simp
        | false =>
          have h2 : decide (x.root.b ≤ x.made) = !(decide (x.made < x.root.b)) := by
            by_cases h : x.made < x.root.b <;> simp [h] <;> omega
          rw [h2]
          cases Pt.mayB x.root <;> cases (x.root.l == 3) <;> cases (decide (x.made < x.root.b)) <;> simp
      · rw [if_neg k2, if_neg k2]
        simp
theorem p3_iff (rs : List Rec) : p3 rs = true ↔ ∀ x ∈ rs, mayR x = true := by
  unfold p3 passB
  simp only [List.all_cons, List.all_nil, Bool.and_true, Bool.and_eq_true, Bool.not_eq_true', List.any_eq_false]
  constructor
  · rintro ⟨h1, h2, h3⟩ x hx
    rw [rec_eq]
    have a := h1 x hx
    have b := h2 x hx
    have c := h3 x hx
    simp at a b c
    simp [a, b, c]
  · intro h
    refine ⟨fun x hx => ?_, fun x hx => ?_, fun x hx => ?_⟩ <;> (have := h x hx; rw [rec_eq] at this; simp at this; simp [this])
theorem alikeB_iff {x o : Rec} : alikeB x o = true ↔ o.id = x.id ∨ o.name = x.name := by
  unfold alikeB
  rw [Bool.or_eq_true, beq_iff_eq, str_eq]
/-- No two are alike. -/
def Apart (rs : List Rec) : Prop := ∀ (i j : Nat) (x y : Rec), i ≠ j → rs[i]? = some x → rs[j]? = some y → alikeB x y = false
theorem tw_iff (rs : List Rec) : (∀ x ∈ rs, twB rs x = false) ↔ Apart rs := by
  constructor
  · intro h i j x y hij hx hy
    have hm : x ∈ rs := List.mem_of_getElem? hx
    have ht := h x hm
    unfold twB at ht
    have hself : alikeB x x = true := alikeB_iff.2 (.inl rfl)
    rcases idx_cases (alikeB x) rs with ⟨_, h2⟩ | ⟨k, z, h1, h2, h3, h4⟩
    · rw [h2 x hm] at hself; cases hself
    · rw [h1, show ((k : Int) + 1).toNat = k + 1 by omega, List.any_eq_false] at ht
      have hlater : ∀ (m : Nat) u, k < m → rs[m]? = some u → alikeB x u = false := fun m u hkm hu => by
        have : u ∈ rs.drop (k + 1) := by
          refine List.mem_of_getElem? (i := m - (k + 1)) ?_
          rw [List.getElem?_drop, show k + 1 + (m - (k + 1)) = m by omega]; exact hu
        simpa using ht u this
      have hik : i = k := by
        rcases Nat.lt_trichotomy i k with c | c | c
        · rw [h4 i x c hx] at hself; cases hself
        · exact c
        · rw [hlater i x c hx] at hself; cases hself
      subst hik
      rcases Nat.lt_or_ge j i with c | c
      · exact h4 j y c hy
      · exact hlater j y (by omega) hy
  · intro h x hm
    obtain ⟨i, hi, rfl⟩ := List.getElem_of_mem hm
    have hx : rs[i]? = some rs[i] := List.getElem?_eq_getElem hi
    have e : idx (alikeB rs[i]) rs = i := idx_hit hi (alikeB_iff.2 (.inl rfl)) fun j hj hji => h i j _ _ (by omega) hx (List.getElem?_eq_getElem hj)
    unfold twB
    rw [e, show ((i : Int) + 1).toNat = i + 1 by omega, List.any_eq_false]
    intro y hy
    obtain ⟨m, hmy⟩ := List.getElem?_of_mem hy
    rw [List.getElem?_drop] at hmy
    rw [h i _ _ _ (by omega) hx hmy]; simp
theorem sort_iff (rs : List Rec) : sortB rs = true ↔ ∀ (j : Nat) (x y : Rec), rs[j + 1]? = some x → rs[j]? = some y → lessS x.name y.name = false := by
  constructor
  · intro h j x y hx hy
    have hj : j + 1 < rs.length := (List.getElem?_eq_some_iff.1 hx).1
    cases hb : lessS x.name y.name with
    | false => rfl
    | true =>
      have e1 : rs[j + 1] = x := (List.getElem?_eq_some_iff.1 hx).2
      have e2 : rs[j] = y := (List.getElem?_eq_some_iff.1 hy).2
      have := sortB_no (l := rs) (j := j) hj (by rw [e1, e2]; exact hb)
      rw [this] at h; cases h
  · intro h
    exact sortB_yes fun j hj => h j _ _ (List.getElem?_eq_getElem _) (List.getElem?_eq_getElem _)
theorem kin_iff {rs : List Rec} {x : Rec} (h : mayR x = true) : (orB rs x = false ∧ stB rs x = false) ↔ kinB rs x = true := by
  unfold mayR at h
  simp only [Bool.and_eq_true] at h
  obtain ⟨_, _, h⟩ := h
  have ho : (rs.any (origB x)) = (rs.any fun y => y.id == x.origin && y.kind == 2) := by
    congr 1; funext y; unfold origB; exact Bool.and_comm _ _
  unfold orB stB kinB
  rw [ho]
  by_cases k1 : x.kind = 1
  · rw [if_pos k1] at h
    unfold volR at h
    simp only [Bool.and_eq_true] at h
    rw [if_neg (show ¬ x.kind = 2 by omega)]
    have hs : snapS x.name = false := by
      cases hb : snapS x.name with
      | false => rfl
      | true => have := snap_part hb; rw [this] at h; cases h.1
    rw [hs]
    cases (x.origin == 0) <;> cases (rs.any fun y => y.id == x.origin && y.kind == 2) <;> simp
  · rw [if_neg k1] at h
    by_cases k2 : x.kind = 2
    · rw [if_pos k2] at h
      unfold snpR at h
      simp only [Bool.and_eq_true] at h
      rw [if_pos k2, h.1, h.2.2.1]
      cases fnd (spl1 x.name) rs with
      | none => simp
      | some i => cases hq : rs[i]? <;> simp [hq]
    · rw [if_neg k2] at h; cases h
theorem mayP_eq (t : Tab) : mayP t = mayT t := by
  rw [Bool.eq_iff_iff, mayT_iff]
  unfold mayP
  rw [curP_eq]
  unfold livB okL p4 passB
  simp only [List.all_cons, List.all_nil, Bool.and_true, Bool.and_eq_true, Bool.not_eq_true', List.any_eq_false, wi_iff, List.all_eq_true, p3_iff, sort_iff, decide_eq_true_eq]
  constructor
  · rintro ⟨⟨n0, n1⟩, ⟨_, r1⟩, ⟨⟨l0, l1⟩, hl⟩, hc, h3, hs, htw, hby, hor, hst⟩
    have hap := (tw_iff t.recs).1 (fun x hx => by simpa using htw x hx)
    refine ⟨n0, n1, by omega, by omega, by omega, hl, allB_iff.2 fun i x hx => ?_, hc⟩
    have hm : x ∈ t.recs := List.mem_of_getElem? hx
    unfold stand
    have hk := (kin_iff (rs := t.recs) (h3 x hm)).1 ⟨by simpa using hor x hm, by simpa using hst x hm⟩
    have hid : x.id < t.next := by have := hby x hm; simp at this; omega
    rw [h3 x hm, hk]
    simp only [Bool.true_and, Bool.and_true, Bool.and_eq_true, decide_eq_true_eq, List.all_eq_true]
    refine ⟨hid, ?_, ?_⟩
    · cases i with
      | zero => rfl
      | succ k =>
        have hkl : k < t.recs.length := by have := (List.getElem?_eq_some_iff.1 hx).1; omega
        have hy : t.recs[k]? = some t.recs[k] := List.getElem?_eq_getElem hkl
        show (match t.recs[k]? with | some y => lessS y.name x.name | none => false) = true
        rw [hy]
        show lessS (t.recs[k]).name x.name = true
        cases hb : lessS (t.recs[k]).name x.name with
        | true => rfl
        | false =>
          have hne := hap (k + 1) k x _ (by omega) hx hy
          have := less_tri hb (hs k x _ hx hy)
          have := alikeB_iff (x := x) (o := t.recs[k]) |>.2 (.inr this)
          rw [hne] at this; cases this
    · intro y hy
      obtain ⟨j, hj⟩ := List.getElem?_of_mem hy
      have hji : j < i := by
        have := (List.getElem?_eq_some_iff.1 hj).1
        simp at this; omega
      rw [List.getElem?_take_of_lt hji] at hj
      have hne := hap i j x y (by omega) hx hj
      cases hb : (y.id != x.id) with
      | true => rfl
      | false =>
        have := alikeB_iff (x := x) (o := y) |>.2 (.inl (by simpa [bne] using hb))
        rw [hne] at this; cases this
  · intro h
    have h3 : ∀ x ∈ t.recs, mayR x = true := fun x hx => h.one hx
    have hst : ∀ (i : Nat) (x : Rec), t.recs[i]? = some x → stand t.next t.recs i x = true := fun i x hx => allB_rec h.recs hx
    have hk : ∀ x ∈ t.recs, x.id < t.next ∧ kinB t.recs x = true := fun x hx => by
      obtain ⟨i, hi⟩ := List.getElem?_of_mem hx
      have := hst i x hi
      unfold stand at this
      simp only [Bool.and_eq_true, decide_eq_true_eq] at this
      exact ⟨this.2.1, this.2.2.2.2⟩
    have hap : Apart t.recs := by
      have key : ∀ (i j : Nat) (x y : Rec), j < i → t.recs[i]? = some x → t.recs[j]? = some y → x.id ≠ y.id ∧ x.name ≠ y.name := by
        intro i j x y hji hx hy
        refine ⟨fun e => ?_, fun e => ?_⟩
        · have hs := hst i x hx
          unfold stand at hs
          simp only [Bool.and_eq_true, List.all_eq_true] at hs
          have := hs.2.2.2.1 y (List.mem_of_getElem? (i := j) (by rw [List.getElem?_take_of_lt hji]; exact hy))
          rw [e] at this; simp at this
        · have := names_rise h.recs hy hx hji
          rw [e, less_irrefl] at this; cases this
      intro i j x y hij hx hy
      cases hb : alikeB x y with
      | false => rfl
      | true =>
        have hor := alikeB_iff.1 hb
        rcases Nat.lt_or_ge j i with c | c
        · have := key i j x y c hx hy
          rcases hor with e | e
          · exact absurd e.symm this.1
          · exact absurd e.symm this.2
        · have := key j i y x (by omega) hy hx
          rcases hor with e | e
          · exact absurd e this.1
          · exact absurd e this.2
    refine ⟨⟨h.n0, h.n1⟩, ⟨by omega, by have := h.many; omega⟩, ⟨⟨by have := h.l0; omega, by have := h.l1; omega⟩, h.lives⟩, h.cur, h3, fun j x y hx hy => ?_, fun x hx => ?_, fun x hx => ?_, fun x hx => ?_, fun x hx => ?_⟩
    · exact less_asymm (names_rise h.recs hy hx (by omega))
    · rw [(tw_iff t.recs).2 hap x hx]; simp
    · have := (hk x hx).1; simp; omega
    · rw [((kin_iff (h3 x hx)).2 (hk x hx).2).1]; simp
    · rw [((kin_iff (h3 x hx)).2 (hk x hx).2).2]; simp
end Go.Proofs.YtljhanhipmnioaaGreat.Rd

namespace Go.Proofs.YtljhanhipmnioaaGreat.Rd
open Go.RowKit
set_option linter.unusedVariables false
set_option linter.unusedSimpArgs false
set_option maxRecDepth 100000

open Pt (Pt may enc zeroPt be4 be1 pc pv PtV SlA OwnA BT wpList_load_g heap_alloc_at Ext Grew yieldsIf_ld)
open Kr (OwnE SlE Enco RowTys)

set_option maxHeartbeats 1000000 in
theorem CheckT_any (vr vl : Value) (t : Tab) (w : World) (h : TabV w vr vl t) (hf : FitT t) : Calls Tryz.prog 22 #[tv vr vl t] w fun e w' => e = .returned (.int .i64 (mayTE t)) ∧ Frm [] w w' := by
  have HM := Lib.hid (fun z (f : Frm [] w z) => mayBe_any vr vl t z (h.keep0 f) hf)
  rw [mayP_eq] at HM
  unfold mayTE
  unfold tv
  have HTV := Lib.hid (show tv vr vl t = .agg (tc vr vl t).toArray from rfl)
  have f0 : Frm [] w (w.alloc (.cells (tc vr vl t).toArray 27)) := (Frm.refl [] w).alloc _
  have LT := Lib.hid (TB.new w vr vl t).gets.all
  generalize (tc vr vl t).toArray = A at *
  have F := Lib.hid f0
  generalize mayT t = mb at *
  clear f0 h hf
  cases mb
  all_goals
    go_enter Tryz.func22, Tryz.ntmps22
    go_upto_region 1 with (fail)
    generalize w.alloc (.cells A 27) = W at *
    go_wp2_with (first
      | ((with_reducible (show wpList _ _ _ (Oper.mk _ (Op.load 27 _) _ _ _ _ :: _) _ _)); refine wpList_load_g (by rfl) 27 _ rfl _ rfl LT.out ?_)
      | (go_at_call 68; refine (HM.out _ F.out).mono ?_; rintro e w1 ⟨rfl, f1⟩))
    go_ret
    exact ⟨rfl, F.out.trans f1 (by simp)⟩
end Go.Proofs.YtljhanhipmnioaaGreat.Rd

namespace Go.Proofs.YtljhanhipmnioaaGreat.Rd
open Go.RowKit
set_option linter.unusedVariables false
set_option linter.unusedSimpArgs false
set_option maxRecDepth 100000

open Pt (Pt may enc zeroPt be4 be1 pc pv PtV SlA OwnA BT wpList_load_g heap_alloc_at Ext Grew yieldsIf_ld)
open Kr (OwnE SlE Enco RowTys)

theorem BW : ByteTys Tryz.prog 85 5 := ⟨by kernel_rfl, by kernel_rfl, by kernel_rfl⟩
/-- Bytes of a slice that has been made since a world; all that stood then is as it was. -/
structure Wr (w0 w : World) (v : Value) (l : List UInt8) : Prop where
  own : ∃ sp, OwnB 5 w v l sp
  frm : Frm [] w0 w
  new : ∀ i ∈ blk v, w0.heap.size ≤ i
def Put (w0 w : World) (v : Value) (l : List UInt8) (e : Ending) (w' : World) : Prop := ∃ v', e = .returned v' ∧ Wr w0 w' v' l ∧ Grew w v w' v'
theorem Wr.form {w0 w : World} {v : Value} {l : List UInt8} (h : Wr w0 w v l) : ∃ a cap, v = .slice a l.length cap := by
  obtain ⟨sp, h⟩ := h.own
  obtain ⟨a, cap, e, _, _⟩ := h.sl.form
  exact ⟨a, cap, e⟩
theorem Wr.grew {w0 w w' : World} {v v' : Value} {l l' : List UInt8} (h : Wr w0 w v l) (g : Grew w v w' v') (ho : ∃ sp, OwnB 5 w' v' l' sp) : Wr w0 w' v' l' :=
  ⟨ho, h.frm.trans g.1 (fun i hi => .inr (h.new i hi)), fun i hi => (g.2 i hi).elim (h.new i) (fun h2 => Nat.le_trans h.frm.size h2)⟩
theorem Wr.keep0 {w0 w w' : World} {v : Value} {l : List UInt8} (h : Wr w0 w v l) (f : Frm [] w w') : Wr w0 w' v l := by
  obtain ⟨sp, ho⟩ := h.own
  exact ⟨⟨sp, ho.keep f (by simp)⟩, h.frm.trans f (by simp), h.new⟩
theorem Put.of {w0 w : World} {v : Value} {l l' : List UInt8} (h : Wr w0 w v l) {e : Ending} {w' : World} (hx : Ext w v l' e w') : Put w0 w v l' e w' := by
  obtain ⟨a, cap, sp, rfl, ho, g⟩ := hx
  exact ⟨_, rfl, h.grew g ⟨sp, ho⟩, g⟩
/-- A block that a slice's growth leaves as it was. -/
theorem grew_heap {w w' : World} {v v' : Value} (g : Grew w v w' v') {k : Nat} {o : Obj} (h : w.heap[k]? = some o) (hk : k ∉ blk v) : w'.heap[k]? = some o ∧ k ∉ blk v' :=
  ⟨g.1.heap h hk, fun hm => (g.2 k hm).elim hk (fun h2 => by have := lt_heap h; omega)⟩
end Go.Proofs.YtljhanhipmnioaaGreat.Rd

namespace Go.Proofs.YtljhanhipmnioaaGreat.Rd
open Go.RowKit
set_option linter.unusedVariables false
set_option linter.unusedSimpArgs false
set_option maxRecDepth 100000

open Pt (Pt may enc zeroPt be4 be1 pc pv PtV SlA OwnA BT wpList_load_g heap_alloc_at Ext Grew yieldsIf_ld)
open Kr (OwnE SlE Enco RowTys)

/-- A block beside the bytes, and the bytes. -/
structure Wb (w0 w : World) (g : Nat) (o : Obj) (v : Value) (l : List UInt8) : Prop where
  wr : Wr w0 w v l
  box : w.heap[g]? = some o
  out : g ∉ blk v
theorem Wb.next {w0 w w' : World} {g : Nat} {o : Obj} {v v' : Value} {l l' : List UInt8} (h : Wb w0 w g o v l) (k : Wr w0 w' v' l') (gr : Grew w v w' v') : Wb w0 w' g o v' l' :=
  ⟨k, (grew_heap gr h.box h.out).1, (grew_heap gr h.box h.out).2⟩
theorem Grew.post {w w1 w2 : World} {v v1 : Value} (g : Grew w v w1 v1) (f : Frm [] w1 w2) : Grew w v w2 v1 := ⟨g.1.trans f (by simp), g.2⟩
end Go.Proofs.YtljhanhipmnioaaGreat.Rd

namespace Go.Proofs.YtljhanhipmnioaaGreat.Rd
open Go.RowKit
set_option linter.unusedVariables false
set_option linter.unusedSimpArgs false
set_option maxRecDepth 100000

open Pt (Pt may enc zeroPt be4 be1 pc pv PtV SlA OwnA BT wpList_load_g heap_alloc_at Ext Grew yieldsIf_ld)
open Kr (OwnE SlE Enco RowTys)

section
variable {ops : Array Oper} {o : Oper} {a : Act} {w : World} {K : Act → World → Prop} {Q : Exit → Act → World → Prop} {E : Prop}
end
theorem Wb.keep0 {w0 w w' : World} {g : Nat} {o : Obj} {v : Value} {l : List UInt8} (h : Wb w0 w g o v l) (f : Frm [] w w') : Wb w0 w' g o v l := ⟨h.wr.keep0 f, f.heap h.box (by simp), h.out⟩
/-- Bytes that can be read beside those that grow. -/
structure Sd (w : World) (v y : Value) (m : List UInt8) : Prop where
  sl : ∃ sp, SlB w y m sp
  sep : ∀ k ∈ blk y, k ∉ blk v
  lt : ∀ k ∈ blk y, k < w.heap.size
theorem Sd.next {w w' : World} {v v' y : Value} {m : List UInt8} (h : Sd w v y m) (g : Grew w v w' v') : Sd w' v' y m := by
  obtain ⟨sp, hs⟩ := h.sl
  exact ⟨⟨sp, hs.keep g.1 h.sep⟩, fun k hk hm => (g.2 k hm).elim (h.sep k hk) (fun h2 => by have := h.lt k hk; omega), fun k hk => Nat.lt_of_lt_of_le (h.lt k hk) g.1.size⟩
theorem Sd.keep0 {w w' : World} {v y : Value} {m : List UInt8} (h : Sd w v y m) (f : Frm [] w w') : Sd w' v y m := by
  obtain ⟨sp, hs⟩ := h.sl
  exact ⟨⟨sp, hs.keep f (by simp)⟩, h.sep, fun k hk => Nat.lt_of_lt_of_le (h.lt k hk) f.size⟩
end Go.Proofs.YtljhanhipmnioaaGreat.Rd

namespace Go.Proofs.YtljhanhipmnioaaGreat.Rd
open Go.RowKit
set_option linter.unusedVariables false
set_option linter.unusedSimpArgs false
set_option maxRecDepth 100000

open Pt (Pt may enc zeroPt be4 be1 pc pv PtV SlA OwnA BT wpList_load_g heap_alloc_at Ext Grew yieldsIf_ld)
open Kr (OwnE SlE Enco RowTys)

theorem Wr.base {w0 w1 w : World} {v : Value} {l : List UInt8} (h : Wr w1 w v l) (f : Frm [] w0 w1) : Wr w0 w v l := ⟨h.own, f.trans h.frm (by simp), fun i hi => Nat.le_trans f.size (h.new i hi)⟩
end Go.Proofs.YtljhanhipmnioaaGreat.Rd

namespace Go.Proofs.YtljhanhipmnioaaGreat.Rd
open Go.RowKit
set_option linter.unusedVariables false
set_option linter.unusedSimpArgs false
set_option maxRecDepth 100000

open Pt (Pt may enc zeroPt be4 be1 pc pv PtV SlA OwnA BT wpList_load_g heap_alloc_at Ext Grew yieldsIf_ld)
open Kr (OwnE SlE Enco RowTys)

/-- From a state (where it stands, whether a field was not all there) a parser's run tells x and the next state. -/
def Runs {α : Type} (p : P α) (l : List UInt8) (at_ : Nat) (sh : Bool) (x : α) (at2 : Nat) (sh2 : Bool) : Prop :=
  (sh = true → sh2 = true) ∧ (sh = false → (∃ y r, p (l.drop at_) = some (y, r) ∧ sh2 = false ∧ x = y ∧ r = l.drop at2 ∧ at2 ≤ l.length ∧ at_ ≤ at2) ∨ (p (l.drop at_) = none ∧ sh2 = true))
theorem Runs.bnd {α β : Type} {p : P α} {f : α → P β} {l : List UInt8} {a1 a2 a3 : Nat} {s1 s2 s3 : Bool} {x : α} {y : β} (h : Runs p l a1 s1 x a2 s2) (k : Runs (f x) l a2 s2 y a3 s3) : Runs (bnd p f) l a1 s1 y a3 s3 := by
  refine ⟨fun hs => k.1 (h.1 hs), fun hs => ?_⟩
  rcases h.2 hs with ⟨u, r, h1, h2, rfl, rfl, h3, h4⟩ | ⟨h1, h2⟩
  · rw [bnd_eq h1]
    rcases k.2 h2 with ⟨z, q, k1, k2, k3, k4, k5, k6⟩ | k1
    · exact .inl ⟨z, q, k1, k2, k3, k4, k5, by omega⟩
    · exact .inr k1
  · exact .inr ⟨bnd_none h1, k.1 h2⟩
theorem Runs.ret {α : Type} (x : α) (l : List UInt8) (a : Nat) (s : Bool) (ha : a ≤ l.length) : Runs (ret x) l a s x a s :=
  ⟨id, fun hs => .inl ⟨x, _, rfl, hs, rfl, rfl, ha, Nat.le_refl _⟩⟩
/-- Bytes that can be read, of blocks below a bound (or an empty slice with whatever address). -/
def RV (N : Nat) (w : World) (v : Value) (l : List UInt8) : Prop := ∃ sp, SlB w v l sp ∧ ((∀ k ∈ blk v, k < N) ∨ ∃ a, v = .slice (some a) 0 0 ∧ l = [])
theorem RV.keep {N : Nat} {w w' : World} {v : Value} {l : List UInt8} {L : List Nat} (h : RV N w v l) (f : Frm L w w') (hL : ∀ k ∈ L, N ≤ k) : RV N w' v l := by
  obtain ⟨sp, hs, hb | ⟨a, rfl, rfl⟩⟩ := h
  · exact ⟨sp, hs.keep f (fun k hk hm => by have := hb k hk; have := hL k hm; omega), .inl hb⟩
  · exact ⟨[], ⟨rfl, .inr (.inl ⟨a, rfl, rfl, rfl⟩)⟩, .inr ⟨a, rfl, rfl⟩⟩
theorem RV.form {N : Nat} {w : World} {v : Value} {l : List UInt8} (h : RV N w v l) : ∃ a cap, v = .slice a l.length cap ∧ l.length ≤ cap ∧ cap ≤ maxLen := by
  obtain ⟨sp, hs, _⟩ := h
  exact hs.form
theorem RV.of {w : World} {v : Value} {l sp : List UInt8} (h : SlB w v l sp) : RV w.heap.size w v l := by
  refine ⟨sp, h, ?_⟩
  obtain ⟨h1, ⟨h2, h3, h4⟩ | ⟨a, h2, h3, h4⟩ | ⟨b', off', cap', h2, h3, h4, h5, h6⟩⟩ := id h
  · left; subst h2; simp [blk]
  · right; exact ⟨a, h2, List.eq_nil_of_length_eq_zero h3⟩
  · subst h2
    rcases Nat.eq_zero_or_pos cap' with hc | hc
    · right
      have : l.length = 0 := by omega
      rw [this, hc]
      exact ⟨_, rfl, List.eq_nil_of_length_eq_zero this⟩
    · left
      intro k hk
      simp only [blk, List.mem_singleton] at hk
      subst hk
      obtain ⟨u, hu⟩ : ∃ u, (bvs l ++ bvs sp)[0]? = some u := ⟨_, List.getElem?_eq_getElem (by omega)⟩
      exact World.block_lt_of_cell? _ _ (h6 0 u hu)
/-- A reader's block. -/
def RdB (w : World) (g : Nat) (v : Value) (at_ : Int) (sh od : Bool) : Prop := w.heap[g]? = some (.cells #[v, .int .i64 at_, .bool sh, .bool od] 115 (0, 0))
theorem RdB.c0 {w : World} {g : Nat} {v : Value} {at_ : Int} {sh od : Bool} (h : RdB w g v at_ sh od) : w.cell? ⟨g, 0, none⟩ = some v := by rw [cell_of_heap h]; rfl
theorem RdB.c1 {w : World} {g : Nat} {v : Value} {at_ : Int} {sh od : Bool} (h : RdB w g v at_ sh od) : w.cell? ⟨g, 1, none⟩ = some (.int .i64 at_) := by rw [cell_of_heap h]; rfl
theorem RdB.c2 {w : World} {g : Nat} {v : Value} {at_ : Int} {sh od : Bool} (h : RdB w g v at_ sh od) : w.cell? ⟨g, 2, none⟩ = some (.bool sh) := by rw [cell_of_heap h]; rfl
theorem RdB.c3 {w : World} {g : Nat} {v : Value} {at_ : Int} {sh od : Bool} (h : RdB w g v at_ sh od) : w.cell? ⟨g, 3, none⟩ = some (.bool od) := by rw [cell_of_heap h]; rfl
theorem RdB.fz {w : World} {g : Nat} {v : Value} {at_ : Int} {sh od : Bool} (h : RdB w g v at_ sh od) (i : Nat) : w.frozen? ⟨g, i, none⟩ = false := frozen_of_heap h i
theorem RdB.keep {w w' : World} {L : List Nat} {g : Nat} {v : Value} {at_ : Int} {sh od : Bool} (h : RdB w g v at_ sh od) (f : Frm L w w') (hn : g ∉ L) : RdB w' g v at_ sh od := f.heap h hn

end Go.Proofs.YtljhanhipmnioaaGreat.Rd

namespace Go.Proofs.YtljhanhipmnioaaGreat.Rd
open Go.RowKit
set_option linter.unusedVariables false
set_option linter.unusedSimpArgs false
set_option maxRecDepth 100000

open Pt (Pt may enc zeroPt be4 be1 pc pv PtV SlA OwnA BT wpList_load_g heap_alloc_at Ext Grew yieldsIf_ld)
open Kr (OwnE SlE Enco RowTys)

/-- A reader of some bytes, where it stands. -/
structure RdS (w : World) (g : Nat) (l : List UInt8) (at_ : Nat) (sh od : Bool) : Prop where
  blkv : ∃ a cap, RdB w g (.slice a l.length cap) at_ sh od ∧ RV g w (.slice a l.length cap) l
  le : at_ ≤ l.length
  small : l.length ≤ 1000000
end Go.Proofs.YtljhanhipmnioaaGreat.Rd

namespace Go.Proofs.YtljhanhipmnioaaGreat.Rd
open Go.RowKit
set_option linter.unusedVariables false
set_option linter.unusedSimpArgs false
set_option maxRecDepth 100000

open Pt (Pt may enc zeroPt be4 be1 pc pv PtV SlA OwnA BT wpList_load_g heap_alloc_at Ext Grew yieldsIf_ld)
open Kr (OwnE SlE Enco RowTys)
/-- A block and its cells. -/
def Blk (w : World) (g : Nat) (T : TypeId) (cs : List Value) : Prop := w.heap[g]? = some (.cells cs.toArray T (0, 0))
/-- Cells written one behind the other. -/
def setL (C : Array Value) : Nat → List Value → Array Value
  | _, [] => C
  | o, v :: r => setL (C.setIfInBounds o v) (o + 1) r
theorem setL_toList : ∀ (vs : List Value) (C : Array Value) (o : Nat), o + vs.length ≤ C.size → (setL C o vs).toList = C.toList.take o ++ vs ++ C.toList.drop (o + vs.length)
  | [], C, o, h => by simp [setL]
  | v :: r, C, o, h => by
    have h1 : o < C.size := by simp at h; omega
    simp only [setL]
    rw [setL_toList r (C.setIfInBounds o v) (o + 1) (by simp at h ⊢; omega)]
    simp only [Array.toList_setIfInBounds]
    have hl : o < C.toList.length := by simpa using h1
    rw [List.take_set, List.take_succ_eq_append_getElem hl, List.set_append_right _ _ (by simp; omega)]
    have : o - (C.toList.take o).length = 0 := by simp; omega
    rw [this, List.set_cons_zero, List.drop_set_of_lt (by omega), List.length_cons, show o + 1 + r.length = o + (r.length + 1) by omega]
    simp
theorem heap_setCells {w : World} {g : Nat} {t : TypeId} : ∀ (vs : List Value) (o : Nat) (w : World) (C : Array Value), w.heap[g]? = some (.cells C t (0, 0)) → (w.setCells g o vs).heap[g]? = some (.cells (setL C o vs) t (0, 0))
  | [], o, w, C, h => h
  | v :: r, o, w, C, h => heap_setCells (w := w) r (o + 1) (w.setCell ⟨g, o, none⟩ v) (C.setIfInBounds o v) (by rw [heap_setCell_same _ h])
theorem Frm.setCells {L : List Nat} {w : World} {g : Nat} : ∀ (vs : List Value) (o : Nat) (w' : World), Frm L w w' → (g ∈ L ∨ w.heap.size ≤ g) → Frm L w (w'.setCells g o vs)
  | [], o, w', f, h => f
  | v :: r, o, w', f, h => Frm.setCells r (o + 1) _ (f.setCell _ _ h) h
section
variable {w w' : World} {g : Nat} {T : TypeId} {cs pre row post : List Value} {o : Nat} {L : List Nat}
theorem Blk.keep (h : Blk w g T cs) (f : Frm L w w') (hn : g ∉ L) : Blk w' g T cs := f.heap h hn
theorem Blk.keep0 (h : Blk w g T cs) (f : Frm [] w w') : Blk w' g T cs := f.heap h (by simp)
theorem Blk.lt (h : Blk w g T cs) : g < w.heap.size := lt_heap h
theorem Blk.new (w : World) (T : TypeId) (cs : List Value) : Blk (w.alloc (.cells cs.toArray T)) w.heap.size T cs := heap_alloc_new _ _
theorem Blk.cell (h : Blk w g T cs) (i : Nat) {u : Value} (hu : cs[i]? = some u) : w.cell? ⟨g, i, none⟩ = some u := by
  rw [cell_of_heap h]; simpa using hu
theorem Blk.range (h : Blk w g T (pre ++ (row ++ post))) (hp : pre.length = o) : w.rangeAt g o row := fun j u hu => by
  refine h.cell _ ?_
  rw [List.getElem?_append_right (by omega), show o + j - pre.length = j by omega, List.getElem?_append_left (List.getElem?_eq_some_iff.1 hu).1]
  exact hu
theorem Blk.load (h : Blk w g T (pre ++ (row ++ post))) (hp : pre.length = o) {t : TypeId} (hd : (Tryz.prog.underlying t).map (·.isRow) = some true) (hi : (Tryz.prog.info? t).map (·.size) = some row.length) : (Instr.loadAt t (.pointer (some ⟨g, o, none⟩))).run Tryz.prog w = .ok (.agg row.toArray) w := by
  obtain ⟨d, h1, h2⟩ := Option.map_eq_some_iff.1 hd
  exact run_loadAt_mid w g o t row d (h.range hp) h1 h2 hi
theorem Blk.there (h : Blk w g T cs) (n : Nat) (hn : o + n ≤ cs.length) : w.there g o n := fun j hj => by
  refine ⟨?_, frozen_of_heap h _⟩
  rw [cell_of_heap h, Array.getElem?_eq_getElem (by simp; omega)]
  rfl
theorem Blk.frozen (h : Blk w g T cs) (i : Nat) : w.frozen? ⟨g, i, none⟩ = false := frozen_of_heap h _
theorem Blk.put {row' : List Value} (h : Blk w g T (pre ++ (row ++ post))) (hp : pre.length = o) (hl : row'.length = row.length) : Blk (w.setCells g o row') g T (pre ++ (row' ++ post)) := by
  unfold Blk
  rw [heap_setCells (w := w) _ _ _ _ h]
  congr 2
  apply Array.ext'
  rw [setL_toList _ _ _ (by simp; omega)]
  subst hp
  simp [hl]
theorem Blk.put1 {u u' : Value} (h : Blk w g T (pre ++ u :: post)) (hp : pre.length = o) : Blk (w.setCell ⟨g, o, none⟩ u') g T (pre ++ u' :: post) := by
  unfold Blk
  rw [heap_setCell_same _ h, List.setIfInBounds_toArray]
  subst hp
  simp
end

theorem RB.setc {w : World} {g i : Nat} {v u : Value} {x x' : Rec} (h : RB w g v x) (hr : x'.root = x.root) (he : rc v x' = (rc v x).set i u) : RB (w.setCell ⟨g, i, none⟩ u) g v x' := by
  refine ⟨?_, by rw [hr]; exact h.2⟩
  rw [heap_setCell_same u h.1, List.setIfInBounds_toArray, he]
def withId (x : Rec) (n : Int) : Rec := { x with id := n }
def withSize (x : Rec) (n : Int) : Rec := { x with size := n }
def withName (x : Rec) (s : ByteArray) : Rec := { x with name := s }
theorem RB.setName {w : World} {g : Nat} {v : Value} {x : Rec} (h : RB w g v x) (s : ByteArray) : RB (w.setCell ⟨g, 1, none⟩ (.string s)) g v (withName x s) := h.setc rfl rfl
def withRoot (x : Rec) (p : Pt) : Rec := { x with root := p }
theorem RB.setRoot {w : World} {g : Nat} {v v' : Value} {x : Rec} (h : RB w g v x) (p : Pt) (hp : p.s.length = 32) : RB (w.setCells g 4 (pc v' p.b p.l p.s)) g v' (withRoot x p) := by
  have hb : Blk w g 56 ([.int .i64 x.id, .string x.name, .int .i64 x.kind, .int .i64 x.size] ++ (pc v x.root.b x.root.l x.root.s ++ [.int .i64 x.made, .int .i64 x.of, .int .i64 x.origin, .int .i64 x.quota, .int .i64 x.reserve])) := h.1
  exact ⟨hb.put (o := 4) rfl (by simp [pc, bvs_length, hp, h.2]), hp⟩
theorem RB.there {w : World} {g : Nat} {v : Value} {x : Rec} (h : RB w g v x) : w.there g 4 35 := Blk.there (T := 56) (cs := rc v x) h.1 35 (by rw [rc_length h.2]; omega)
theorem RB.fz {w : World} {g : Nat} {v : Value} {x : Rec} (h : RB w g v x) (i : Nat) : w.frozen? ⟨g, i, none⟩ = false := frozen_of_heap h.1 i
theorem RdS.keep {w w' : World} {L : List Nat} {g : Nat} {l : List UInt8} {a : Nat} {s o : Bool} (h : RdS w g l a s o) (f : Frm L w w') (hL : ∀ k ∈ L, g < k) : RdS w' g l a s o := by
  obtain ⟨va, c, h1, h2⟩ := h.blkv
  exact ⟨⟨va, c, h1.keep f (fun hm => by have := hL g hm; omega), h2.keep f (fun k hk => by have := hL k hk; omega)⟩, h.le, h.small⟩
theorem RdS.lt {w : World} {g : Nat} {l : List UInt8} {a : Nat} {s o : Bool} (h : RdS w g l a s o) : g < w.heap.size := by
  obtain ⟨_, _, h1, _⟩ := h.blkv
  exact lt_heap h1
end Go.Proofs.YtljhanhipmnioaaGreat.Rd

namespace Go.Proofs.YtljhanhipmnioaaGreat.Rd
open Go.RowKit
set_option linter.unusedVariables false
set_option linter.unusedSimpArgs false
set_option maxRecDepth 100000

open Pt (Pt may enc zeroPt be4 be1 pc pv PtV SlA OwnA BT wpList_load_g heap_alloc_at Ext Grew yieldsIf_ld)
open Kr (OwnE SlE Enco RowTys)
theorem Runs.start {α : Type} {p : P α} {l : List UInt8} {a : Nat} {s : Bool} (ha : a ≤ l.length) : Runs (many p 0) l a s [] a s := Runs.ret _ _ _ _ ha
/-- The blocks of a row's addresses. -/
def rb (r : RowT) : List Nat := match r.1[4]? with
  | some v => blk v
  | none => []
theorem rb_rc {r : RowT} {v : Value} {u : Rec} (h : r.1 = rc v u) : rb r = blk v := by unfold rb; rw [h]; rfl
theorem tysRec : RowTys Tryz.prog 22 56 44 152 := ⟨Tryz.underlying22, .agg (rc nilS zeroR).toArray, by kernel_rfl, by kernel_rfl⟩
theorem fold_set2 (off : Nat) (post : List Value) : ∀ (vs : List Value) (k : Nat) (pre mid : List Value), mid.length = vs.length → pre.length = off + k → (vs.zipIdx k).foldl (fun (cs : Array Value) (x : Value × Nat) => cs.setIfInBounds (off + x.2) x.1) (pre ++ (mid ++ post)).toArray = (pre ++ (vs ++ post)).toArray
  | [], k, pre, mid, h, _ => by
    obtain rfl : mid = [] := List.eq_nil_of_length_eq_zero (by simpa using h)
    rfl
  | v :: vs, k, pre, [], h, _ => by simp at h
  | v :: vs, k, pre, s :: mid, h, hp => by
    have ih := fold_set2 off post vs (k + 1) (pre ++ [v]) mid (by simpa using h) (by simp; omega)
    simp only [List.zipIdx_cons, List.foldl_cons]
    have e : (pre ++ (s :: mid ++ post)).toArray.setIfInBounds (off + k) v = (pre ++ [v] ++ (mid ++ post)).toArray := by
      apply Array.ext'
      rw [Array.toList_setIfInBounds, ← hp]
      simp
    rw [e]
    simpa using ih
theorem info56 : ∃ i, Tryz.prog.info? 56 = some i ∧ i.zero = some (.agg (rc nilS zeroR).toArray) ∧ i.size = 44 := by
  obtain ⟨i, hi, hz, hs, _⟩ := info_parts (show (Tryz.prog.info? 56).map (fun i => (i.zero, i.size, i.bytes)) = some (some (.agg (rc nilS zeroR).toArray), 44, 152) by kernel_rfl)
  exact ⟨i, hi, hz, hs⟩
theorem fill_cons {place : Nat → Option (Nat × Nat)} {cells : Array Value} {i : Nat} {v : Value} {rest : List (Nat × Value)} {off size : Nat} (hp : place i = some (off, size)) (h1 : v.cells.size = size) (h2 : off + size ≤ cells.size) :
    Instr.fill place cells ((i, v) :: rest) = Instr.fill place (v.cells.zipIdx.foldl (fun (cs : Array Value) (x : Value × Nat) => cs.setIfInBounds (off + x.2) x.1) cells) rest := by
  subst h1
  rw [Instr.fill, hp]
  simp only
  rw [if_neg (by simp; omega)]
theorem built56 {c : List Value} (hl : c.length = 44) : Tryz.prog.builtSlice 56 1 [(0, .agg c.toArray)] = some c.toArray := by
  obtain ⟨i, hi, hz, hsz⟩ := info56
  unfold Program.builtSlice
  simp only [hi, hz, hsz]
  have h0 : (Array.range (1 * 44)).map ((Value.agg (rc nilS zeroR).toArray).cells[· % (Value.agg (rc nilS zeroR).toArray).cells.size]!) = (rc nilS zeroR).toArray := by kernel_rfl
  rw [if_neg (by decide), h0]
  rw [fill_cons (off := 0) (size := 44) rfl (by rw [show (Value.agg c.toArray).cells = c.toArray from rfl]; simp [hl]) (by simp [rc_length zeroR_s]), Instr.fill, show (Value.agg c.toArray).cells = c.toArray from rfl]
  have := fold_set2 0 [] (c) 0 [] (rc nilS zeroR) (by rw [hl, rc_length zeroR_s]) rfl
  simp only [List.nil_append, List.append_nil] at this
  simpa [← Array.foldl_toList] using this
theorem tysI : RowTys Tryz.prog 25 3 1 8 := ⟨Tryz.underlying25, .int .i64 0, by kernel_rfl, by kernel_rfl⟩
theorem SlA.either {w : World} {v : Value} {l sp : List Pt.Ad} (h : SlA w v l sp) : (∀ w', SlA w' v l sp) ∨ ∀ i ∈ blk v, i < w.heap.size := by
  obtain ⟨h1, ⟨h2, h3, h4⟩ | ⟨a, h2, h3, h4⟩ | ⟨b, off, cap, h2, h3, h4, h5, h6⟩⟩ := id h
  · exact .inl fun w' => ⟨h1, .inl ⟨h2, h3, h4⟩⟩
  · exact .inl fun w' => ⟨h1, .inr (.inl ⟨a, h2, h3, h4⟩)⟩
  · by_cases hc : (Pt.eas l ++ Pt.eas sp) = []
    · exact .inl fun w' => ⟨h1, .inr (.inr ⟨b, off, cap, h2, h3, h4, h5, fun i u hu => by rw [hc] at hu; simp at hu⟩)⟩
    · refine .inr fun i hi => ?_
      rw [h2] at hi
      simp [blk] at hi
      subst hi
      have hp : 0 < (Pt.eas l ++ Pt.eas sp).length := List.length_pos_iff.2 hc
      exact World.block_lt_of_cell? _ _ (h6 0 _ (List.getElem?_eq_getElem hp))
theorem RowV.either {w : World} {r : RowT} {u : Rec} (h : RowV w r u) : (∀ w', RowV w' r u) ∨ ∀ i ∈ rb r, i < w.heap.size := by
  obtain ⟨a, cap, sp, e, hA, hw⟩ := h
  rcases SlA.either hA with h | h
  · exact .inl fun w' => ⟨a, cap, sp, e, h w', hw⟩
  · exact .inr (by rw [rb_rc e]; exact h)
theorem RowV.keep {w w' : World} {r : RowT} {u : Rec} {L : List Nat} (h : RowV w r u) (f : Frm L w w') (hL : ∀ i ∈ rb r, i ∉ L) : RowV w' r u := by
  obtain ⟨a, cap, sp, e, hA, hw⟩ := h
  rw [rb_rc e] at hL
  exact ⟨a, cap, sp, e, hA.keep f hL, hw⟩
/-- A list of records that a call has made since a world: its row its own, the addresses wherever. -/
structure Td (w0 w : World) (v : Value) (l : List Rec) (rs : List RowT) : Prop where
  own : ∃ sp, OwnE eR 44 56 w v rs sp
  len : rs.length = l.length
  row : ∀ (i : Nat) r u, rs[i]? = some r → l[i]? = some u → RowV w r u ∧ ((∀ w', RowV w' r u) ∨ ∀ k ∈ rb r, k ∉ blk v ∧ k < w.heap.size)
  base : ∀ k ∈ blk v, w0.heap.size ≤ k
  frm : Frm [] w0 w
theorem Td.nil (w : World) : Td w w (.slice none 0 0) [] [] := ⟨⟨[], OwnE.nil _ _ _ _⟩, rfl, fun i r u h => by simp at h, by simp [blk], Frm.refl _ _⟩
theorem Td.us {w0 w : World} {v : Value} {l : List Rec} {rs : List RowT} (h : Td w0 w v l rs) : Rs w v l := by
  obtain ⟨sp, ho⟩ := h.own
  exact ⟨rs, sp, ho.sl, h.len, fun i r u h1 h2 => (h.row i r u h1 h2).1⟩
theorem Td.keep {w0 w w' : World} {v : Value} {l : List Rec} {rs : List RowT} {L : List Nat} (h : Td w0 w v l rs) (f : Frm L w w') (hL : ∀ k ∈ L, k ∉ blk v ∧ ∀ (i : Nat) r, rs[i]? = some r → k ∉ rb r) (f0 : Frm [] w0 w') : Td w0 w' v l rs := by
  obtain ⟨sp, ho⟩ := h.own
  refine ⟨⟨sp, ho.keep f (fun k hk hm => (hL k hm).1 hk)⟩, h.len, fun i r u h1 h2 => ?_, h.base, f0⟩
  obtain ⟨hv, hw⟩ := h.row i r u h1 h2
  refine ⟨hv.keep f (fun k hk hm => (hL k hm).2 i r h1 hk), hw.imp id (fun hk k hm => ⟨(hk k hm).1, Nat.lt_of_lt_of_le (hk k hm).2 f.size⟩)⟩
theorem Td.keep0 {w0 w w' : World} {v : Value} {l : List Rec} {rs : List RowT} (h : Td w0 w v l rs) (f : Frm [] w w') : Td w0 w' v l rs := h.keep f (fun k hk => by cases hk) (h.frm.trans f (by simp))
theorem Td.more {w0 w w' : World} {v v' : Value} {l : List Rec} {rs : List RowT} {x : RowT} {u : Rec} {sp : List Value} (h : Td w0 w v l rs) (f : Frm (blk v) w w') (ho : OwnE eR 44 56 w' v' (rs ++ [x]) sp) (hn : ∀ i ∈ blk v', i ∈ blk v ∨ w.heap.size ≤ i)
    (hx : RowV w x u) (hxn : (∀ w', RowV w' x u) ∨ ∀ k ∈ rb x, k ∉ blk v) : Td w0 w' v' (l ++ [u]) (rs ++ [x]) := by
  have hold : ∀ (r : RowT) (u : Rec), RowV w r u → ((∀ w', RowV w' r u) ∨ ∀ k ∈ rb r, k ∉ blk v ∧ k < w.heap.size) → RowV w' r u ∧ ((∀ w', RowV w' r u) ∨ ∀ k ∈ rb r, k ∉ blk v' ∧ k < w'.heap.size) := fun r u h1 h2 => by
    rcases h2 with h2 | h2
    · exact ⟨h2 w', .inl h2⟩
    · refine ⟨h1.keep f (fun k hk => (h2 k hk).1), .inr fun k hk => ⟨fun hm => ?_, Nat.lt_of_lt_of_le (h2 k hk).2 f.size⟩⟩
      rcases hn k hm with q | q
      · exact (h2 k hk).1 q
      · have := (h2 k hk).2; omega
  refine ⟨⟨sp, ho⟩, by simp [h.len], fun i r u2 h1 h2 => ?_, fun k hk => ?_, h.frm.trans f (fun i hi => .inr (h.base i hi))⟩
  · rcases Nat.lt_or_ge i rs.length with hi | hi
    · rw [List.getElem?_append_left hi] at h1
      rw [List.getElem?_append_left (by have := h.len; omega)] at h2
      exact hold r u2 (h.row i r u2 h1 h2).1 (h.row i r u2 h1 h2).2
    · rcases Nat.eq_or_lt_of_le hi with e | e
      · subst e
        rw [List.getElem?_append_right (Nat.le_refl _)] at h1
        rw [h.len, List.getElem?_append_right (Nat.le_refl _)] at h2
        simp at h1 h2
        subst h1; subst h2
        refine hold x u hx ?_
        rcases hxn with q | q
        · exact .inl q
        · rcases hx.either with q2 | q2
          · exact .inl q2
          · exact .inr fun k hk => ⟨q k hk, q2 k hk⟩
      · rw [List.getElem?_eq_none (by simp; omega)] at h1; cases h1
  · rcases hn k hk with q | q
    · exact h.base k q
    · have := h.frm.size; omega
def RowO (w : World) (r : RowT) (u : Rec) : Prop := ∃ a cap sp, r.1 = rc (.slice a u.root.ads.length cap) u ∧ OwnA 148 w (.slice a u.root.ads.length cap) u.root.ads sp ∧ u.root.s.length = 32
theorem RowO.v {w : World} {r : RowT} {u : Rec} (h : RowO w r u) : RowV w r u := by
  obtain ⟨a, cap, sp, e, hA, hw⟩ := h
  exact ⟨a, cap, sp, e, hA.sl, hw⟩
theorem RowO.lt {w : World} {r : RowT} {u : Rec} (h : RowO w r u) : ∀ i ∈ rb r, i < w.heap.size := by
  obtain ⟨a, cap, sp, e, hA, hw⟩ := h
  rw [rb_rc e]; exact hA.lt
theorem RowO.keep {w w' : World} {r : RowT} {u : Rec} {L : List Nat} (h : RowO w r u) (f : Frm L w w') (hL : ∀ i ∈ rb r, i ∉ L) : RowO w' r u := by
  obtain ⟨a, cap, sp, e, hA, hw⟩ := h
  rw [rb_rc e] at hL
  exact ⟨a, cap, sp, e, hA.keep f hL, hw⟩
/-- A list of records that a call has told since a world; B: all its blocks. -/
structure Tl (w0 w : World) (v : Value) (l : List Rec) (rs : List RowT) (B : List Nat) : Prop where
  own : ∃ sp, OwnE eR 44 56 w v rs sp
  len : rs.length = l.length
  row : ∀ (i : Nat) r u, rs[i]? = some r → l[i]? = some u → RowO w r u
  sep : ∀ (i j : Nat) r s, i ≠ j → rs[i]? = some r → rs[j]? = some s → ∀ k ∈ rb r, k ∉ rb s
  vsep : ∀ (i : Nat) r, rs[i]? = some r → ∀ k ∈ rb r, k ∉ blk v
  inv : ∀ k ∈ blk v, k ∈ B
  inr : ∀ (i : Nat) r, rs[i]? = some r → ∀ k ∈ rb r, k ∈ B
  lo : ∀ k ∈ B, w0.heap.size ≤ k ∧ k < w.heap.size
theorem Tl.nil (w : World) : Tl w w (.slice none 0 0) [] [] [] := ⟨⟨[], OwnE.nil _ _ _ _⟩, rfl, fun i r u h => by simp at h, fun i j r s _ h => by simp at h, fun i r h => by simp at h, by simp [blk], fun i r h => by simp at h, fun k h => by cases h⟩
theorem Tl.us {w0 w : World} {v : Value} {l : List Rec} {rs : List RowT} {B : List Nat} (h : Tl w0 w v l rs B) : Rs w v l := by
  obtain ⟨sp, ho⟩ := h.own
  exact ⟨rs, sp, ho.sl, h.len, fun i r u h1 h2 => (h.row i r u h1 h2).v⟩
theorem Tl.form {w0 w : World} {v : Value} {l : List Rec} {rs : List RowT} {B : List Nat} (h : Tl w0 w v l rs B) : ∃ a cap, v = .slice a l.length cap := h.us.form
theorem Tl.keep {w0 w w' : World} {v : Value} {l : List Rec} {rs : List RowT} {B L : List Nat} (h : Tl w0 w v l rs B) (f : Frm L w w') (hL : ∀ i ∈ L, i ∉ B) : Tl w0 w' v l rs B := by
  obtain ⟨sp, ho⟩ := h.own
  exact ⟨⟨sp, ho.keep f (fun k hk hm => hL k hm (h.inv k hk))⟩, h.len, fun i r u h1 h2 => (h.row i r u h1 h2).keep f (fun k hk hm => hL k hm (h.inr i r h1 k hk)), h.sep, h.vsep, h.inv, h.inr, fun k hk => ⟨(h.lo k hk).1, Nat.lt_of_lt_of_le (h.lo k hk).2 f.size⟩⟩
theorem Tl.keep0 {w0 w w' : World} {v : Value} {l : List Rec} {rs : List RowT} {B : List Nat} (h : Tl w0 w v l rs B) (f : Frm [] w w') : Tl w0 w' v l rs B := h.keep f (fun i hi => by cases hi)
/-- With an older base. -/
theorem Tl.base {w0 w1 w : World} {v : Value} {l : List Rec} {rs : List RowT} {B : List Nat} (h : Tl w1 w v l rs B) (hs : w0.heap.size ≤ w1.heap.size) : Tl w0 w v l rs B :=
  ⟨h.own, h.len, h.row, h.sep, h.vsep, h.inv, h.inr, fun k hk => ⟨Nat.le_trans hs (h.lo k hk).1, (h.lo k hk).2⟩⟩
/-- One more: a row whose addresses are newer than all that was there. -/
theorem Tl.more {w0 w w' : World} {v v' : Value} {l : List Rec} {rs : List RowT} {B : List Nat} {x : RowT} {u : Rec} {sp : List Value} (h : Tl w0 w v l rs B) (f : Frm (blk v) w w') (ho : OwnE eR 44 56 w' v' (rs ++ [x]) sp) (hn : ∀ i ∈ blk v', i ∈ blk v ∨ w.heap.size ≤ i)
    (hx : RowO w x u) (hxn : ∀ k ∈ rb x, k ∉ B) (hx0 : ∀ k ∈ rb x, w0.heap.size ≤ k) (h0 : w0.heap.size ≤ w.heap.size) : Tl w0 w' v' (l ++ [u]) (rs ++ [x]) (rb x ++ blk v' ++ B) := by
  have hrow : ∀ (i : Nat) r, (rs ++ [x])[i]? = some r → (rs[i]? = some r ∧ i < rs.length) ∨ (i = rs.length ∧ r = x) := fun i r hr => by
    rcases Nat.lt_or_ge i rs.length with hi | hi
    · rw [List.getElem?_append_left hi] at hr; exact .inl ⟨hr, hi⟩
    · rw [List.getElem?_append_right hi] at hr
      rcases Nat.eq_or_lt_of_le hi with e | e
      · subst e; simp at hr; exact .inr ⟨rfl, hr.symm⟩
      · rw [List.getElem?_eq_none (by simp; omega)] at hr; cases hr
  have hxv : ∀ k ∈ rb x, k ∉ blk v := fun k hk hm => hxn k hk (h.inv k hm)
  refine ⟨⟨sp, ho⟩, by simp [h.len], fun i r u2 h1 h2 => ?_, fun i j r s hij h1 h2 k hk hm => ?_, fun i r h1 k hk hm => ?_, fun k hk => by simp [hk], fun i r h1 k hk => ?_, fun k hk => ?_⟩
  · rcases hrow i r h1 with ⟨h3, hi⟩ | ⟨rfl, rfl⟩
    · rw [List.getElem?_append_left (by have := h.len; omega)] at h2
      exact (h.row i r u2 h3 h2).keep f (fun k hk => h.vsep i r h3 k hk)
    · rw [h.len] at h2
      simp at h2
      subst h2
      exact hx.keep f hxv
  · rcases hrow i r h1 with ⟨h3, hi⟩ | ⟨rfl, rfl⟩ <;> rcases hrow j s h2 with ⟨h4, hj⟩ | ⟨rfl, rfl⟩
    · exact h.sep i j r s hij h3 h4 k hk hm
    · exact hxn k hm (h.inr i r h3 k hk)
    · exact hxn k hk (h.inr j s h4 k hm)
    · exact hij rfl
  · rcases hrow i r h1 with ⟨h3, hi⟩ | ⟨rfl, rfl⟩
    · rcases hn k hm with q | q
      · exact h.vsep i r h3 k hk q
      · have := (h.lo k (h.inr i r h3 k hk)).2; omega
    · rcases hn k hm with q | q
      · exact hxv k hk q
      · have := hx.lt k hk; omega
  · rcases hrow i r h1 with ⟨h3, hi⟩ | ⟨rfl, rfl⟩
    · simp [h.inr i r h3 k hk]
    · simp [hk]
  · simp only [List.mem_append] at hk
    rcases hk with (hk | hk) | hk
    · exact ⟨hx0 k hk, Nat.lt_of_lt_of_le (hx.lt k hk) f.size⟩
    · have hlt := ho.lt k hk
      rcases hn k hk with q | q
      · exact ⟨(h.lo k (h.inv k q)).1, hlt⟩
      · exact ⟨Nat.le_trans h0 q, hlt⟩
    · exact ⟨(h.lo k hk).1, Nat.lt_of_lt_of_le (h.lo k hk).2 f.size⟩
end Go.Proofs.YtljhanhipmnioaaGreat.Rd

namespace Go.Proofs.YtljhanhipmnioaaGreat.Rd
open Go.RowKit
set_option linter.unusedVariables false
set_option linter.unusedSimpArgs false
set_option maxRecDepth 100000

open Pt (Pt may enc zeroPt be4 be1 pc pv PtV SlA OwnA BT wpList_load_g heap_alloc_at Ext Grew yieldsIf_ld)
open Kr (OwnE SlE Enco RowTys)

open Kr (flt_length flt_append flt_get)
open Go.ChangeShapes Go.WideShapes Go.Deep
theorem own : ownKnob Tryz.prog.godebug = none := by kernel_rfl
theorem laidOut : laidOutB Tryz.prog = true := by kernel_rfl
theorem sle_of_trod {α H : Type} {en : α → List Value} {k : Nat} {Wf : α → Prop} (E : Enco en k) {t e : TypeId} (y0 : α)
    {enc : TypeId × Value → H} {W : World} {fuel : Nat} {cs : List Value} {x : DataW H × List MemPlace}
    (ht : Tryz.prog.underlying t = some (.slice e)) (hk : Tryz.prog.cellsOf e = k)
    (hd : ∀ (fuel : Nat) cs x, DataW.trod enc Tryz.prog W 0 (fun _ => true) true fuel e cs = some x → ∃ y : α, cs = en y ∧ Wf y)
    (h : DataW.trod enc Tryz.prog W 0 (fun _ => true) true fuel t cs = some x) :
    ∃ a cap l sp, cs = [.slice a (l : List α).length cap] ∧ SlE en k W (.slice a l.length cap) l sp ∧ ∀ x ∈ l, Wf x := by
  rcases open_slice ht h with ⟨rfl, _⟩ | ⟨a, len, cap, m, n, D, Pl, rfl, _, hl, hm, hmm, _, hi⟩
  · exact ⟨none, 0, [], [], rfl, SlE.nil _ _ _, by simp⟩
  · simp at hmm
    subst hmm
    rw [hk] at hi
    have hex : ∀ i, ∃ y : α, i < m → (∀ j, j < k → W.cell? ((a.add (i * k)).add j) = (en y)[j]?) ∧ Wf y := fun i => by
      by_cases hlt : i < m
      · obtain ⟨cs', h1, h2⟩ := hi i hlt
        obtain ⟨y, rfl, hw⟩ := hd _ _ _ h2
        exact ⟨y, fun _ => ⟨(World.cells?_some h1).2.2, hw⟩⟩
      · exact ⟨y0, fun h => absurd h hlt⟩
    obtain ⟨f, hf⟩ := Classical.axiomOfChoice hex
    obtain ⟨L, hL⟩ : ∃ L, L = (List.range m).map f := ⟨_, rfl⟩
    have hLl : L.length = m := by rw [hL]; simp
    have hget : ∀ i (h : i < L.length), L[i] = f i := fun i h => by subst hL; simp
    have htl : (L.take len).length = len := by simp; omega
    have hw : ∀ x ∈ L.take len, Wf x := fun x hx => by
      obtain ⟨i, hi', rfl⟩ := List.getElem_of_mem (List.mem_of_mem_take hx)
      rw [hget]
      exact (hf i (by omega)).2
    by_cases hc : m = 0
    · subst hc
      obtain rfl : len = 0 := by omega
      exact ⟨some a, 0, [], [], rfl, ⟨by rw [flt_length E], .inr (.inl ⟨a, rfl, rfl, rfl⟩)⟩, by simp⟩
    · obtain ⟨b, off, spot⟩ := a
      have h0 := (hf 0 (by omega)).1 0 E.pos
      have hl0 : 0 < (en (f 0)).length := by rw [E.len]; exact E.pos
      rw [List.getElem?_eq_getElem hl0] at h0
      have hspot : spot = none := by simpa [Addr.add] using World.cell?_spot h0
      subst hspot
      have hfl := flt_length E L
      refine ⟨some ⟨b, off, none⟩, m, L.take len, Kr.flt en (L.drop len), by rw [htl], ?_, hw⟩
      rw [htl]
      refine ⟨by rw [flt_length E, htl], .inr (.inr ⟨b, off, m, by rw [htl], by omega, hm, ?_, fun i u hu => ?_⟩)⟩
      · rw [← flt_append, List.take_append_drop, hfl, hLl]
      · rw [← flt_append, List.take_append_drop] at hu
        have hi2 : i < L.length * k := by
          rcases Nat.lt_or_ge i (L.length * k) with h | h
          · exact h
          · rw [List.getElem?_eq_none (by rw [hfl]; exact h)] at hu; cases hu
        have hq : i / k < L.length := Nat.div_lt_of_lt_mul (by rw [Nat.mul_comm]; exact hi2)
        have hr : i % k < k := Nat.mod_lt _ E.pos
        have e : i / k * k + i % k = i := Nat.div_add_mod' i k
        have g := flt_get E L (i / k) hq (i % k) hr
        rw [e] at g
        rw [g, hget] at hu
        have c := (hf (i / k) (by omega)).1 (i % k) hr
        rw [add_plain, add_plain, Nat.add_assoc, e] at c
        rw [c, hu]

theorem cells9 : Tryz.prog.cellsOf 9 = 1 := by kernel_rfl
theorem cells56 : Tryz.prog.cellsOf 56 = 44 := by kernel_rfl
theorem cells54 : Tryz.prog.cellsOf 54 = 35 := by kernel_rfl
theorem cells27 : Tryz.prog.cellsOf 27 = 7 := by kernel_rfl
theorem cells24 : Tryz.prog.cellsOf 24 = 4 := by kernel_rfl
theorem cells22 : Tryz.prog.cellsOf 22 = 1 := by kernel_rfl
theorem cells25 : Tryz.prog.cellsOf 25 = 1 := by kernel_rfl
theorem cells3 : Tryz.prog.cellsOf 3 = 1 := by kernel_rfl
theorem take_at {cs : List Value} {i : Nat} {u : Value} (h : (cs.drop i).take 1 = [u]) : cs[i]? = some u := by
  have := congrArg (·[0]?) h
  simpa [List.getElem?_take, List.getElem?_drop] using this
theorem trod_fields {H : Type} {enc : TypeId × Value → H} {P : Program} {w : World} {base : Nat} {spare : Nat → Bool} {held : Bool} {t : TypeId} {fs : Array Field} {fuel : Nat} {cs : List Value} {x : DataW H × List MemPlace} (ht : P.underlying t = some (.struct fs)) (h : DataW.trod enc P w base spare held fuel t cs = some x) :
    cs.length = P.cellsOf t ∧ ∃ n, ∀ (i : Nat) (f : Field), fs[i]? = some f → ∃ y, DataW.trod enc P w base spare held n f.type ((cs.drop f.offset).take (P.cellsOf f.type)) = some y := by
  obtain ⟨xs, n, _, rfl, hl, hlen, hf⟩ := DataW.trod_struct ht h
  refine ⟨hl, n, fun i f hi => ?_⟩
  have hlt : i < xs.length := by rw [hlen]; exact (Array.getElem?_eq_some_iff.1 hi).1
  exact ⟨xs[i], by rw [hf i f hi]; exact List.getElem?_eq_getElem hlt⟩
theorem rec_of_trod {H : Type} {enc : TypeId × Value → H} {W : World} {fuel : Nat} {cs : List Value} {x : DataW H × List MemPlace} (h : DataW.trod enc Tryz.prog W 0 (fun _ => true) true fuel 56 cs = some x) :
    ∃ a cap, ∃ u : Rec, ∃ sp, cs = rc (.slice a u.root.ads.length cap) u ∧ SlA W (.slice a u.root.ads.length cap) u.root.ads sp ∧ u.root.s.length = 32 := by
  obtain ⟨hl, n, hf⟩ := trod_fields Tryz.underlying56 h
  rw [cells56] at hl
  obtain ⟨y0, t0⟩ : ∃ y, DataW.trod enc Tryz.prog W 0 (fun _ => true) true n 3 ((cs.drop 0).take (Tryz.prog.cellsOf 3)) = some y := hf 0 _ rfl
  obtain ⟨y1, t1⟩ : ∃ y, DataW.trod enc Tryz.prog W 0 (fun _ => true) true n 9 ((cs.drop 1).take (Tryz.prog.cellsOf 9)) = some y := hf 1 _ rfl
  obtain ⟨y2, t2⟩ : ∃ y, DataW.trod enc Tryz.prog W 0 (fun _ => true) true n 3 ((cs.drop 2).take (Tryz.prog.cellsOf 3)) = some y := hf 2 _ rfl
  obtain ⟨y3, t3⟩ : ∃ y, DataW.trod enc Tryz.prog W 0 (fun _ => true) true n 3 ((cs.drop 3).take (Tryz.prog.cellsOf 3)) = some y := hf 3 _ rfl
  obtain ⟨y4, t4⟩ : ∃ y, DataW.trod enc Tryz.prog W 0 (fun _ => true) true n 54 ((cs.drop 4).take (Tryz.prog.cellsOf 54)) = some y := hf 4 _ rfl
  obtain ⟨y5, t5⟩ : ∃ y, DataW.trod enc Tryz.prog W 0 (fun _ => true) true n 3 ((cs.drop 39).take (Tryz.prog.cellsOf 3)) = some y := hf 5 _ rfl
  obtain ⟨y6, t6⟩ : ∃ y, DataW.trod enc Tryz.prog W 0 (fun _ => true) true n 3 ((cs.drop 40).take (Tryz.prog.cellsOf 3)) = some y := hf 6 _ rfl
  obtain ⟨y7, t7⟩ : ∃ y, DataW.trod enc Tryz.prog W 0 (fun _ => true) true n 3 ((cs.drop 41).take (Tryz.prog.cellsOf 3)) = some y := hf 7 _ rfl
  obtain ⟨y8, t8⟩ : ∃ y, DataW.trod enc Tryz.prog W 0 (fun _ => true) true n 3 ((cs.drop 42).take (Tryz.prog.cellsOf 3)) = some y := hf 8 _ rfl
  obtain ⟨y9, t9⟩ : ∃ y, DataW.trod enc Tryz.prog W 0 (fun _ => true) true n 3 ((cs.drop 43).take (Tryz.prog.cellsOf 3)) = some y := hf 9 _ rfl
  try dsimp only at t0 t1 t2 t3 t4 t5 t6 t7 t8 t9
  rw [cells3] at t0 t2 t3 t5 t6 t7 t8 t9
  rw [cells9] at t1
  rw [cells54] at t4
  obtain ⟨z0, e0, _, _⟩ := DataW.trod_int Tryz.underlying3 t0
  obtain ⟨s1, e1, _, _⟩ := DataW.trod_string Tryz.underlying9 t1
  obtain ⟨z2, e2, _, _⟩ := DataW.trod_int Tryz.underlying3 t2
  obtain ⟨z3, e3, _, _⟩ := DataW.trod_int Tryz.underlying3 t3
  obtain ⟨a, cap, p, sp, e4, hS, hs⟩ := Pt.pt_of_trod t4
  obtain ⟨z5, e5, _, _⟩ := DataW.trod_int Tryz.underlying3 t5
  obtain ⟨z6, e6, _, _⟩ := DataW.trod_int Tryz.underlying3 t6
  obtain ⟨z7, e7, _, _⟩ := DataW.trod_int Tryz.underlying3 t7
  obtain ⟨z8, e8, _, _⟩ := DataW.trod_int Tryz.underlying3 t8
  obtain ⟨z9, e9, _, _⟩ := DataW.trod_int Tryz.underlying3 t9
  refine ⟨a, cap, ⟨z0, s1, z2, z3, p, z5, z6, z7, z8, z9⟩, sp, ?_, hS, hs⟩
  have h0 := take_at e0
  have h1 := take_at e1
  have h2 := take_at e2
  have h3 := take_at e3
  have h5 := take_at e5
  have h6 := take_at e6
  have h7 := take_at e7
  have h8 := take_at e8
  have h9 := take_at e9
  match cs, hl with
  | c0 :: c1 :: c2 :: c3 :: r, hl =>
    have hr : r.length = 40 := by simpa using hl
    have e4' : r.take 35 = pc (.slice a p.ads.length cap) p.b p.l p.s := by simpa using e4
    have q5 : r[35]? = some (.int .i64 z5) := by simpa using h5
    have q6 : r[36]? = some (.int .i64 z6) := by simpa using h6
    have q7 : r[37]? = some (.int .i64 z7) := by simpa using h7
    have q8 : r[38]? = some (.int .i64 z8) := by simpa using h8
    have q9 : r[39]? = some (.int .i64 z9) := by simpa using h9
    have hd : r.drop 35 = [.int .i64 z5, .int .i64 z6, .int .i64 z7, .int .i64 z8, .int .i64 z9] := by
      apply List.ext_getElem?
      intro j
      rw [List.getElem?_drop]
      match j with
      | 0 => exact q5
      | 1 => exact q6
      | 2 => exact q7
      | 3 => exact q8
      | 4 => exact q9
      | j + 5 => rw [List.getElem?_eq_none (by omega), List.getElem?_eq_none (by simp)]
    simp at h0 h1 h2 h3
    subst h0 h1 h2 h3
    show _ :: _ :: _ :: _ :: r = _ :: _ :: _ :: _ :: (pc (.slice a p.ads.length cap) p.b p.l p.s ++ _)
    rw [← e4', ← hd, List.take_append_drop]
noncomputable def recOf (W : World) (r : RowT) : Rec := Classical.epsilon (h := ⟨zeroR⟩) fun u => RowV W r u
theorem recOf_v {W : World} {r : RowT} (h : ∃ u, RowV W r u) : RowV W r (recOf W r) := Classical.epsilon_spec h
theorem recs_of_trod {H : Type} {enc : TypeId × Value → H} {W : World} {fuel : Nat} {cs : List Value} {x : DataW H × List MemPlace} (h : DataW.trod enc Tryz.prog W 0 (fun _ => true) true fuel 22 cs = some x) :
    ∃ v l, cs = [v] ∧ Rs W v l := by
  obtain ⟨a', c', l, sp, e, hS, hw⟩ := sle_of_trod (α := RowT) (en := eR) (k := 44) (Wf := fun x => ∃ u, RowV W x u) encRow (rowR nilS rfl zeroR zeroR_s) Tryz.underlying22 cells56 (fun fuel cs x h => by
    obtain ⟨a, cap, u, sp, e, hA, hw⟩ := rec_of_trod h
    exact ⟨rowR (.slice a u.root.ads.length cap) rfl u hw, e, u, a, cap, sp, rfl, hA, hw⟩) h
  refine ⟨_, l.map (recOf W), e, l, sp, hS, by simp, fun i r u h1 h2 => ?_⟩
  rw [List.getElem?_map, h1] at h2
  simp at h2
  subst h2
  exact recOf_v (hw r (List.mem_of_getElem? h1))
theorem ints_of_trod {H : Type} {enc : TypeId × Value → H} {W : World} {fuel : Nat} {cs : List Value} {x : DataW H × List MemPlace} (h : DataW.trod enc Tryz.prog W 0 (fun _ => true) true fuel 25 cs = some x) :
    ∃ v l sp, cs = [v] ∧ SlE eI 1 W v l sp := by
  obtain ⟨a', c', l, sp, e, hS, hw⟩ := sle_of_trod (α := Int) (en := eI) (k := 1) (Wf := fun _ => True) encI 0 Tryz.underlying25 cells3 (fun fuel cs x h => by
    obtain ⟨z, e, _⟩ := DataW.trod_int Tryz.underlying3 h
    exact ⟨z, by rw [e]; rfl, trivial⟩) h
  exact ⟨_, l, sp, e, hS⟩
theorem open_table {H : Type} {enc : TypeId × Value → H} {W : World} {r : Reach} {b0 : Nat} {v : Value} {d : DataW H} {p : List MemPlace} (hv : Value.okWide Tryz.prog W r b0 27 v) (h : DataW.Trod enc Tryz.prog W 0 (fun _ => true) true 27 v d p) :
    ∃ vr vl t, v = tv vr vl t ∧ TabV W vr vl t := by
  obtain ⟨c, rfl, _⟩ := okWide_struct Tryz.underlying27 hv
  obtain ⟨fuel, hh⟩ := h
  obtain ⟨hl, n, hf⟩ := trod_fields Tryz.underlying27 hh
  rw [cells27] at hl
  obtain ⟨y0, t0⟩ : ∃ y, DataW.trod enc Tryz.prog W 0 (fun _ => true) true n 3 (((Value.agg c).cells.toList.drop 0).take (Tryz.prog.cellsOf 3)) = some y := hf 0 _ rfl
  obtain ⟨y1, t1⟩ : ∃ y, DataW.trod enc Tryz.prog W 0 (fun _ => true) true n 22 (((Value.agg c).cells.toList.drop 1).take (Tryz.prog.cellsOf 22)) = some y := hf 1 _ rfl
  obtain ⟨y2, t2⟩ : ∃ y, DataW.trod enc Tryz.prog W 0 (fun _ => true) true n 24 (((Value.agg c).cells.toList.drop 2).take (Tryz.prog.cellsOf 24)) = some y := hf 2 _ rfl
  obtain ⟨y3, t3⟩ : ∃ y, DataW.trod enc Tryz.prog W 0 (fun _ => true) true n 25 (((Value.agg c).cells.toList.drop 6).take (Tryz.prog.cellsOf 25)) = some y := hf 3 _ rfl
  try dsimp only at t0 t1 t2 t3
  rw [cells3] at t0
  rw [cells22] at t1
  rw [cells24] at t2
  rw [cells25] at t3
  obtain ⟨z0, e0, _, _⟩ := DataW.trod_int Tryz.underlying3 t0
  obtain ⟨vr, l, e1, hR⟩ := recs_of_trod t1
  obtain ⟨hl2, n2, hf2⟩ := trod_fields Tryz.underlying24 t2
  obtain ⟨x0, u0⟩ : ∃ y, DataW.trod enc Tryz.prog W 0 (fun _ => true) true n2 3 (((((Value.agg c).cells.toList.drop 2).take 4).drop 0).take (Tryz.prog.cellsOf 3)) = some y := hf2 0 _ rfl
  obtain ⟨x1, u1⟩ : ∃ y, DataW.trod enc Tryz.prog W 0 (fun _ => true) true n2 3 (((((Value.agg c).cells.toList.drop 2).take 4).drop 1).take (Tryz.prog.cellsOf 3)) = some y := hf2 1 _ rfl
  obtain ⟨x2, u2⟩ : ∃ y, DataW.trod enc Tryz.prog W 0 (fun _ => true) true n2 3 (((((Value.agg c).cells.toList.drop 2).take 4).drop 2).take (Tryz.prog.cellsOf 3)) = some y := hf2 2 _ rfl
  obtain ⟨x3, u3⟩ : ∃ y, DataW.trod enc Tryz.prog W 0 (fun _ => true) true n2 3 (((((Value.agg c).cells.toList.drop 2).take 4).drop 3).take (Tryz.prog.cellsOf 3)) = some y := hf2 3 _ rfl
  try dsimp only at u0 u1 u2 u3
  rw [cells3] at u0 u1 u2 u3
  obtain ⟨k0, g0, _, _⟩ := DataW.trod_int Tryz.underlying3 u0
  obtain ⟨k1, g1, _, _⟩ := DataW.trod_int Tryz.underlying3 u1
  obtain ⟨k2, g2, _, _⟩ := DataW.trod_int Tryz.underlying3 u2
  obtain ⟨k3, g3, _, _⟩ := DataW.trod_int Tryz.underlying3 u3
  obtain ⟨vl, m, sp, e3, hL⟩ := ints_of_trod t3
  refine ⟨vr, vl, ⟨z0, l, ⟨k0, k1, k2, k3⟩, m⟩, ?_, hR, sp, hL⟩
  have c0 := take_at e0
  have c1 := take_at e1
  have c6 := take_at e3
  have d0 := take_at g0
  have d1 := take_at g1
  have d2 := take_at g2
  have d3 := take_at g3
  have hv' : (Value.agg c).cells = c := rfl
  rw [hv'] at *
  obtain ⟨cl⟩ := c
  match cl, hl with
  | [a0, a1, a2, a3, a4, a5, a6], hl =>
    simp [Value.cells] at c0 c1 c6 d0 d1 d2 d3
    subst c0 c1 c6 d0 d1 d2 d3
    rfl
theorem open_bytes {H : Type} {enc : TypeId × Value → H} {W : World} {r : Reach} {b0 : Nat} {v : Value} {d : DataW H} {p : List MemPlace} (hv : Value.okWide Tryz.prog W r b0 31 v) (h : DataW.Trod enc Tryz.prog W 0 (fun _ => true) true 31 v d p) :
    ∃ l sp, SlB W v l sp := by
  obtain ⟨l, sp, hS⟩ := Pt.open_bytes hv h
  exact ⟨l, sp, hS⟩
end Go.Proofs.YtljhanhipmnioaaGreat.Rd

namespace Go.Proofs.YtljhanhipmnioaaGreat.Rd
open Go.RowKit
set_option linter.unusedVariables false
set_option linter.unusedSimpArgs false
set_option maxRecDepth 100000

open Pt (Pt may enc zeroPt be4 be1 pc pv PtV SlA OwnA BT wpList_load_g heap_alloc_at Ext Grew yieldsIf_ld)
open Kr (OwnE SlE Enco RowTys)

open Pt (PB)
section
variable {w : World} {g : Nat} {vr vl : Value} {t : Tab}
theorem TB.setRecs (h : TB w g vr vl t) (vr' : Value) (l : List Rec) : TB (w.setCell ⟨g, 1, none⟩ vr') g vr' vl ⟨t.next, l, t.cur, t.lives⟩ := by
  unfold TB at h ⊢; rw [heap_setCell_same vr' h, List.setIfInBounds_toArray]; rfl
theorem TB.setLives (h : TB w g vr vl t) (vl' : Value) (l : List Int) : TB (w.setCell ⟨g, 6, none⟩ vl') g vr vl' ⟨t.next, t.recs, t.cur, l⟩ := by
  unfold TB at h ⊢; rw [heap_setCell_same vl' h, List.setIfInBounds_toArray]; rfl
theorem TB.there (h : TB w g vr vl t) : w.there g 2 4 := Blk.there (T := 27) (cs := tc vr vl t) h 4 (by simp [tc])
theorem TB.fz (h : TB w g vr vl t) (i : Nat) : w.frozen? ⟨g, i, none⟩ = false := frozen_of_heap h i
end
theorem RV.mono {N M : Nat} {w : World} {v : Value} {l : List UInt8} (h : RV N w v l) (hm : N ≤ M) : RV M w v l := by
  obtain ⟨sp, h1, h2⟩ := h
  exact ⟨sp, h1, h2.imp (fun h k hk => Nat.lt_of_lt_of_le (h k hk) hm) id⟩
theorem RowV.of {w : World} {xa : Option Addr} {xc : Nat} {x : Rec} (h : PtV w (pv (.slice xa x.root.ads.length xc) x.root.b x.root.l x.root.s) x.root) : ∃ hs : x.root.s.length = 32, RowV w (rowR (.slice xa x.root.ads.length xc) rfl x hs) x := by
  obtain ⟨pa, pcp, psp, hxv, hsl, h32⟩ := h
  simp [pv, pc] at hxv
  obtain ⟨rfl, rfl⟩ := hxv
  exact ⟨h32, _, _, psp, rfl, hsl, h32⟩
theorem step_store27 {ops : Array Oper} {o : Oper} {a : Act} {w : World} {K : Act → World → Prop} {Q : Exit → Act → World → Prop} {E : Prop} (hg : o.guard = none)
    (p x : Operand) (h3 : o.op = .store 27 p x) {vr vl vr0 vl0 : Value} {t t0 : Tab} {g : Nat} (h1 : vr.oneCell' = true) (h2 : vl.oneCell' = true) (h0 : TB w g vr0 vl0 t0)
    (e1 : a.eval p = .pointer (some ⟨g, 0, none⟩)) (e2 : a.eval x = tv vr vl t)
    (k : ∀ w', TB w' g vr vl t → Frm [g] w w' → K (a.put o.dst undef) w') :
    if Region.wanted o (yielded ops a.tmps) = true then Oper.wp Tryz.prog o a w K Q else E := by
  rw [if_pos (by simp [Region.wanted, hg])]
  refine wp_store_row 27 p x h3 g (tc vr vl t).toArray e1 e2 27 _ h0 (by rw [i27]; simp [tc]) (by simp [tc]) (tc_all h1 h2 t) ?_
  exact k _ (setRow_heap w g _ _ 27 (0, 0) h0) ⟨rfl, rfl, rfl, by simp [World.setRow], fun k hk hn => setRow_other _ _ k _ (by simpa using hn)⟩
theorem TabV.zero (w : World) : TabV w nilS nilS zeroT := ⟨Rs.nil w, [], SlE.nil _ _ _⟩
end Go.Proofs.YtljhanhipmnioaaGreat.Rd

namespace Go.Proofs.YtljhanhipmnioaaGreat.Pt
open Go.RowKit
set_option linter.unusedVariables false
set_option linter.unusedSimpArgs false
set_option maxRecDepth 100000

/-- A pointer with a list of its own. -/
def OwnP (p : Pt) (w : World) (e : Ending) (w' : World) : Prop := ∃ a cap sp, e = .returned (pv (.slice a p.ads.length cap) p.b p.l p.s) ∧ OwnA 148 w' (.slice a p.ads.length cap) p.ads sp ∧ Frm [] w w' ∧ ∀ i ∈ blk (.slice a p.ads.length cap), w.heap.size ≤ i
end Go.Proofs.YtljhanhipmnioaaGreat.Pt

namespace Go.Proofs.YtljhanhipmnioaaGreat.Rd
open Go.RowKit
set_option linter.unusedVariables false
set_option linter.unusedSimpArgs false
set_option maxRecDepth 100000

open Pt (Pt may enc zeroPt be4 be1 pc pv PtV SlA OwnA BT wpList_load_g heap_alloc_at Ext Grew yieldsIf_ld)
open Kr (OwnE SlE Enco RowTys)

/-- A table of the call's own: its lists are new since a world, and apart. -/
def OwnTb (w0 w : World) (vr vl : Value) (t : Tab) : Prop := ∃ rs B sp, Tl w0 w vr t.recs rs B ∧ OwnE eI 1 3 w vl t.lives sp ∧ (∀ k ∈ blk vl, w0.heap.size ≤ k ∧ k ∉ B)
theorem OwnTb.v {w0 w : World} {vr vl : Value} {t : Tab} (h : OwnTb w0 w vr vl t) : TabV w vr vl t := by
  obtain ⟨rs, B, sp, h1, h2, _⟩ := h
  exact ⟨h1.us, sp, h2.sl⟩
theorem OwnTb.keep {w0 w w' : World} {vr vl : Value} {t : Tab} {L : List Nat} (h : OwnTb w0 w vr vl t) (f : Frm L w w') (hL : ∀ i ∈ L, i < w0.heap.size ∨ w.heap.size ≤ i) : OwnTb w0 w' vr vl t := by
  obtain ⟨rs, B, sp, h1, h2, h3⟩ := h
  exact ⟨rs, B, sp, h1.keep f (fun i hi hm => by have h4 := h1.lo i hm; rcases hL i hi with h | h <;> omega), h2.keep f (fun i hi hm => by have h4 := h3 i hi; have h5 := h2.lt i hi; rcases hL i hm with h | h <;> omega), h3⟩
theorem OwnTb.keep0 {w0 w w' : World} {vr vl : Value} {t : Tab} (h : OwnTb w0 w vr vl t) (f : Frm [] w w') : OwnTb w0 w' vr vl t := h.keep f (by simp)
theorem OwnTb.base {w0 w1 w : World} {vr vl : Value} {t : Tab} (h : OwnTb w1 w vr vl t) (hs : w0.heap.size ≤ w1.heap.size) : OwnTb w0 w vr vl t := by
  obtain ⟨rs, B, sp, h1, h2, h3⟩ := h
  exact ⟨rs, B, sp, h1.base hs, h2, fun k hk => ⟨Nat.le_trans hs (h3 k hk).1, (h3 k hk).2⟩⟩
theorem OwnTb.ones {w0 w : World} {vr vl : Value} {t : Tab} (h : OwnTb w0 w vr vl t) : vr.oneCell' = true ∧ vl.oneCell' = true := by
  obtain ⟨rs, B, sp, h1, h2, h3⟩ := h
  exact ⟨by obtain ⟨_, _, e⟩ := h1.form; rw [e]; rfl, by obtain ⟨_, _, e, _⟩ := h2.sl.form; rw [e]; rfl⟩
/-- What a call tells that tells a table of its own. -/
def TellT (t : Tab) (w : World) (e : Ending) (w' : World) : Prop := ∃ vr vl, e = .returned (tv vr vl t) ∧ OwnTb w w' vr vl t ∧ Frm [] w w'
section
variable {ops : Array Oper} {o : Oper} {a : Act} {w : World} {K : Act → World → Prop} {Q : Exit → Act → World → Prop} {E : Prop}
end
theorem tcA (vr vl : Value) (t : Tab) : tv vr vl t = .agg (tc vr vl t).toArray := rfl
end Go.Proofs.YtljhanhipmnioaaGreat.Rd

namespace Go.Proofs.YtljhanhipmnioaaGreat.Pt
open Go.RowKit
set_option linter.unusedVariables false
set_option linter.unusedSimpArgs false
set_option maxRecDepth 100000

theorem eas_set : ∀ (l : List Ad) (i : Nat) (x : Ad), eas (l.set i x) = ((eas l).set (i * 2) (.int .i64 x.1)).set (i * 2 + 1) (.int .i64 x.2)
  | [], i, x => by simp [eas]
  | y :: r, 0, x => by simp [eas_cons]
  | y :: r, i + 1, x => by
    rw [List.set_cons_succ, eas_cons, eas_set r i x, eas_cons, show (i + 1) * 2 = i * 2 + 1 + 1 by omega]
    simp [List.set_cons_succ]
theorem OwnA.store {T : TypeId} {w : World} {g n cap : Nat} {l sp : List Ad} (h : OwnA T w (.slice (some ⟨g, 0, none⟩) n cap) l sp) (i : Nat) (hi : i < l.length) (x : Ad) :
    OwnA T ((w.setCell ⟨g, i * 2, none⟩ (.int .i64 x.1)).setCell ⟨g, i * 2 + 1, none⟩ (.int .i64 x.2)) (.slice (some ⟨g, 0, none⟩) n cap) (l.set i x) sp := by
  obtain ⟨h1, h2, h3⟩ := h.caps
  refine OwnA.of_heap ?_ (by simpa using h1) (by simpa using h2) h3
  rw [heap_setCell_same _ (heap_setCell_same _ h.heap)]
  congr 2
  apply Array.ext'
  simp only [Array.toList_setIfInBounds, eas_append, eas_set]
  have hl := eas_length l
  rw [List.set_append_left _ _ (by omega), List.set_append_left _ _ (by simp; omega)]
end Go.Proofs.YtljhanhipmnioaaGreat.Pt

namespace Go.Proofs.YtljhanhipmnioaaGreat.Rd
open Go.RowKit
set_option linter.unusedVariables false
set_option linter.unusedSimpArgs false
set_option maxRecDepth 100000

open Pt (Pt may enc zeroPt be4 be1 pc pv PtV SlA OwnA BT wpList_load_g heap_alloc_at Ext Grew yieldsIf_ld)
open Kr (OwnE SlE Enco RowTys)

theorem flt_split (rs : List RowT) (k : Nat) (hk : k < rs.length) : Kr.flt eR rs = Kr.flt eR (rs.take k) ++ (eR rs[k] ++ Kr.flt eR (rs.drop (k + 1))) := by
  conv => lhs; rw [← List.take_append_drop k rs, List.drop_eq_getElem_cons hk]
  rw [Kr.flt_append, Kr.flt_cons]
theorem flt_setrow (rs : List RowT) (k : Nat) (hk : k < rs.length) (x : RowT) : Kr.flt eR (rs.set k x) = Kr.flt eR (rs.take k) ++ (eR x ++ Kr.flt eR (rs.drop (k + 1))) := by
  rw [flt_split (rs.set k x) k (by simpa using hk)]
  have e1 : (rs.set k x).take k = rs.take k := by rw [List.take_set, List.set_eq_of_length_le (by simp; omega)]
  have e2 : (rs.set k x).drop (k + 1) = rs.drop (k + 1) := by rw [List.drop_set, if_pos (by omega)]
  rw [e1, e2]
  simp
theorem OwnR.put {w : World} {g n cap : Nat} {rs : List RowT} {sp : List Value} (h : OwnE eR 44 56 w (.slice (some ⟨g, 0, none⟩) n cap) rs sp) (k : Nat) (hk : k < rs.length) (x : RowT) :
    OwnE eR 44 56 (w.setCells g (k * 44) x.1) (.slice (some ⟨g, 0, none⟩) n cap) (rs.set k x) sp := by
  obtain ⟨h1, h2, h3, h4⟩ := OwnE.caps encRow h
  have hb : Blk w g 56 (Kr.flt eR (rs.take k) ++ (eR rs[k] ++ (Kr.flt eR (rs.drop (k + 1)) ++ sp))) := by
    have := OwnE.heap h
    rw [flt_split rs k hk] at this
    show w.heap[g]? = _
    rw [this]
    simp
  have hp := hb.put (o := k * 44) (row' := x.1) (by rw [Kr.flt_length encRow, List.length_take, Nat.min_eq_left (by omega)]) (by rw [show eR rs[k] = (rs[k]).1 from rfl, x.2.1, (rs[k]).2.1])
  refine OwnE.of_heap encRow ?_ (by simpa using h1) (by omega) (by simpa using h3) h4
  rw [flt_setrow rs k hk]
  have e : Kr.flt eR (rs.take k) ++ (eR x ++ Kr.flt eR (rs.drop (k + 1))) ++ sp = Kr.flt eR (rs.take k) ++ (x.1 ++ (Kr.flt eR (rs.drop (k + 1)) ++ sp)) := by simp [eR]
  rw [e]
  exact hp
end Go.Proofs.YtljhanhipmnioaaGreat.Rd

namespace Go.Proofs.YtljhanhipmnioaaGreat.Rd
open Go.RowKit
set_option linter.unusedVariables false
set_option linter.unusedSimpArgs false
set_option maxRecDepth 100000

open Pt (Pt may enc zeroPt be4 be1 pc pv PtV SlA OwnA BT wpList_load_g heap_alloc_at Ext Grew yieldsIf_ld)
open Kr (OwnE SlE Enco RowTys)

theorem within_dir (n low high : Int) (w : World) : Calls Tryz.prog 96 #[.int .i64 n, .int .i64 low, .int .i64 high] w fun e w' => e = .returned (.bool (wi n low high)) ∧ w' = w := by
  unfold wi
  go_enter Tryz.func96, Tryz.ntmps96
  go_wp2_with fail
  all_goals go_ret
  · rename_i h
    exact ⟨by simp [h], rfl⟩
  · rename_i h
    exact ⟨by have : ¬ low ≤ n := by omega
              simp [this], rfl⟩
theorem maySize_any (n : Int) (w : World) : Calls Tryz.prog 107 #[.int .i64 n] w fun e w' => e = .returned (.bool (wi n 1 64)) ∧ w' = w := by
  have H := Lib.hid (within_dir n 1 64 w)
  generalize wi n 1 64 = b at *
  go_enter Tryz.func107, Tryz.ntmps107
  go_wp2_with (go_at_call 96; refine H.out.mono ?_; rintro e w' ⟨rfl, rfl⟩)
  go_ret
  exact ⟨rfl, rfl⟩
theorem mayTxg_any (n : Int) (w : World) : Calls Tryz.prog 113 #[.int .i64 n] w fun e w' => e = .returned (.bool (wi n 1 2147483648)) ∧ w' = w := by
  have H := Lib.hid (within_dir n 1 2147483648 w)
  generalize wi n 1 2147483648 = b at *
  go_enter Tryz.func113, Tryz.ntmps113
  go_wp2_with (go_at_call 96; refine H.out.mono ?_; rintro e w' ⟨rfl, rfl⟩)
  go_ret
  exact ⟨rfl, rfl⟩
/-- An error where something does not hold. -/
def unl (b : Bool) (e : Int) : Int := if b = true then 0 else e
theorem unless_any (b : Bool) (e : Int) (w : World) : Calls Tryz.prog 103 #[.bool b, .int .i64 e] w fun r w' => r = .returned (.int .i64 (unl b e)) ∧ w' = w := by
  cases b with
  | true =>
    go_enter Tryz.func103, Tryz.ntmps103
    go_wp2_with fail
    go_ret
    exact ⟨rfl, rfl⟩
  | false =>
    go_enter Tryz.func103, Tryz.ntmps103
    go_wp2_with fail
    go_ret
    exact ⟨rfl, rfl⟩
/-- The first that is not nought. -/
def orL : List Int → Int
  | [] => 0
  | x :: l => if x = 0 then orL l else x
theorem orL_take {l : List Int} {k : Nat} (hk : k < l.length) (h : ∀ j (hj : j < l.length), j < k → l[j] = 0) : orL l = if l[k] = 0 then orL (l.drop (k + 1)) else l[k] := by
  induction l generalizing k with
  | nil => simp at hk
  | cons x l ih =>
    cases k with
    | zero => simp [orL]
    | succ k =>
      have h0 : x = 0 := h 0 (by simp) (by omega)
      have := ih (k := k) (by simpa using hk) (fun j hj hjk => by have := h (j + 1) (by simpa using hj) (by omega); simpa using this)
      simpa [orL, h0] using this
theorem orL_zero : ∀ {l : List Int}, (∀ j (hj : j < l.length), l[j] = 0) → orL l = 0
  | [], _ => rfl
  | x :: l, h => by
    have h0 : x = 0 := h 0 (by simp)
    have := orL_zero (l := l) (fun j hj => by have := h (j + 1) (by simpa using hj); simpa using this)
    simpa [orL, h0] using this
set_option maxHeartbeats 2000000 in
theorem OrE_any (v : Value) (l : List Int) (sp : List Value) (w : World) (h : SlE eI 1 w v l sp) (hl : l.length ≤ 1000) : Calls Tryz.prog 100 #[v] w fun r w' => r = .returned (.int .i64 (orL l)) ∧ w' = w := by
  obtain ⟨a, cap, rfl, _, _⟩ := h.form
  have hl9 : (l.length : Int) ≤ 1000 := by omega
  have H := Lib.hid h
  clear h hl
  go_enter Tryz.func100, Tryz.ntmps100
  go_wp2_with fail
  go_loopw [8] (fun c wr => wr = w ∧ ∃ k : Nat, k ≤ l.length ∧ c = .int .i64 k ∧ ∀ j (hj : j < l.length), j < k → l[j] = 0) (fun c _ => l.length - (intOf c).toNat)
  case atStart => exact ⟨rfl, 0, Nat.zero_le _, rfl, fun j _ hj => by omega⟩
  case round =>
    obtain ⟨hwr, k, hk, rfl, hz⟩ := hrel
    subst hwr
    by_cases hlt : k < l.length
    · have hlt9 : (k : Int) < (l.length : Int) := by omega
      obtain ⟨b, off, e⟩ := H.out.at (by omega)
      subst e
      have hc := SlE.cell encI H.out k hlt 0 (u := .int .i64 l[k]) rfl
      rw [Nat.mul_one, Nat.add_zero] at hc
      by_cases h0 : l[k] = 0
      · have HZ := Lib.hid (show ∀ j (hj : j < l.length), j < k + 1 → l[j] = 0 from fun j hj hjk => by
          rcases Nat.lt_or_ge j k with h1 | h1
          · exact hz j hj h1
          · obtain rfl : j = k := by omega
            exact h0)
        rw [h0] at hc
        clear hz h0
        go_wp2_with fail
        go_roundw
        case rel => exact ⟨by first | trivial | rfl, k + 1, by omega, by go_num, HZ.out⟩
        case measure => simp [intOf]; omega
      · have hor : orL l = l[k] := by rw [orL_take hlt hz, if_neg h0]
        have HO := Lib.hid hor
        have hne : (l[k] != 0) = true := by simpa using h0
        clear hz h0 hor
        generalize l[k] = x at *
        go_wp2_with fail
        go_ret
        exact ⟨by rw [HO.out]; rfl, rfl⟩
    · obtain rfl : k = l.length := by omega
      have HO := Lib.hid (orL_zero (fun j hj => hz j hj hj))
      clear hz
      go_wp2_with fail
      go_ret
      exact ⟨by rw [HO.out]; rfl, rfl⟩
set_option maxHeartbeats 2000000 in
theorem OrI_any (v : Value) (l : List Int) (sp : List Value) (w : World) (h : SlE eI 1 w v l sp) (hl : l.length ≤ 1000) : Calls Tryz.prog 181 #[v] w fun r w' => r = .returned (.int .i64 (orL l)) ∧ w' = w := by
  obtain ⟨a, cap, rfl, _, _⟩ := h.form
  have hl9 : (l.length : Int) ≤ 1000 := by omega
  have H := Lib.hid h
  clear h hl
  go_enter Tryz.func181, Tryz.ntmps181
  go_wp2_with fail
  go_loopw [8] (fun c wr => wr = w ∧ ∃ k : Nat, k ≤ l.length ∧ c = .int .i64 k ∧ ∀ j (hj : j < l.length), j < k → l[j] = 0) (fun c _ => l.length - (intOf c).toNat)
  case atStart => exact ⟨rfl, 0, Nat.zero_le _, rfl, fun j _ hj => by omega⟩
  case round =>
    obtain ⟨hwr, k, hk, rfl, hz⟩ := hrel
    subst hwr
    by_cases hlt : k < l.length
    · have hlt9 : (k : Int) < (l.length : Int) := by omega
      obtain ⟨b, off, e⟩ := H.out.at (by omega)
      subst e
      have hc := SlE.cell encI H.out k hlt 0 (u := .int .i64 l[k]) rfl
      rw [Nat.mul_one, Nat.add_zero] at hc
      by_cases h0 : l[k] = 0
      · have HZ := Lib.hid (show ∀ j (hj : j < l.length), j < k + 1 → l[j] = 0 from fun j hj hjk => by
          rcases Nat.lt_or_ge j k with h1 | h1
          · exact hz j hj h1
          · obtain rfl : j = k := by omega
            exact h0)
        rw [h0] at hc
        clear hz h0
        go_wp2_with fail
        go_roundw
        case rel => exact ⟨by first | trivial | rfl, k + 1, by omega, by go_num, HZ.out⟩
        case measure => simp [intOf]; omega
      · have hor : orL l = l[k] := by rw [orL_take hlt hz, if_neg h0]
        have HO := Lib.hid hor
        have hne : (l[k] != 0) = true := by simpa using h0
        clear hz h0 hor
        generalize l[k] = x at *
        go_wp2_with fail
        go_ret
        exact ⟨by rw [HO.out]; rfl, rfl⟩
    · obtain rfl : k = l.length := by omega
      have HO := Lib.hid (orL_zero (fun j hj => hz j hj hj))
      clear hz
      go_wp2_with fail
      go_ret
      exact ⟨by rw [HO.out]; rfl, rfl⟩
end Go.Proofs.YtljhanhipmnioaaGreat.Rd

namespace Go.Proofs.YtljhanhipmnioaaGreat.Rd
open Go.RowKit
set_option linter.unusedVariables false
set_option linter.unusedSimpArgs false
set_option maxRecDepth 100000

open Pt (Pt may enc zeroPt be4 be1 pc pv PtV SlA OwnA BT wpList_load_g heap_alloc_at Ext Grew yieldsIf_ld)
open Kr (OwnE SlE Enco RowTys)

theorem results_cell_slot {P : Program} {fn : Func} {p q : Tmp} {t1 : TypeId} (h : fn.results = #[.cell p t1, .tmp q]) (tmps : Array Value) (w : World) {a1 : Addr} {v1 v2 : Value} (h1 : tmps.getD p undef = .pointer (some a1)) (h2 : tmps.getD q undef = v2)
    (k1 : (loadVar t1 a1).run P w = .ok v1 w) : (results fn tmps).run P w = .ok (.tuple #[v1, v2]) w := by
  have h1' : tmps[p]?.getD undef = .pointer (some a1) := by simpa using h1
  have h2' : tmps[q]?.getD undef = v2 := by simpa using h2
  simp [results, h, h1', h2', asAddr, k1, Result.andThen]
/-- The record of a name, or one of noughts. -/
def fndR (n : ByteArray) (rs : List Rec) : Rec := match fnd n rs with
  | some i => (rs[i]?).getD zeroR
  | none => zeroR
def isF (n : ByteArray) (rs : List Rec) : Bool := (fnd n rs).isSome
theorem RecV.zero (w : World) : RecV w (rv nilS zeroR) zeroR := ⟨none, 0, [], rfl, Pt.SlA.nil w, zeroR_s⟩
/-- What the finding of a record tells. -/
def FindO (n : ByteArray) (rs : List Rec) (w : World) (e : Ending) (w' : World) : Prop := ∃ u, e = .returned (.tuple #[u, .bool (isF n rs)]) ∧ RecV w' u (fndR n rs) ∧ Frm [] w w'
set_option maxHeartbeats 4000000 in
theorem find_any (vr vl : Value) (t : Tab) (n : ByteArray) (w : World) (hT : TabV w vr vl t) (hl : t.recs.length ≤ 1000) : Calls Tryz.prog 99 #[tv vr vl t, .string n] w (FindO n t.recs w) := by
  obtain ⟨av, ac, rfl⟩ := hT.1.form
  have HT := Lib.hid (fun z (f : Frm [] w z) => hT.keep0 f)
  have f0 : Frm [] w (w.alloc (.cells (tc (.slice av t.recs.length ac) vl t).toArray 27)) := (Frm.refl [] w).alloc _
  have f1 : Frm [] (w.alloc (.cells (tc (.slice av t.recs.length ac) vl t).toArray 27)) ((w.alloc (.cells (tc (.slice av t.recs.length ac) vl t).toArray 27)).alloc (.cells (rc nilS zeroR).toArray 56)) := (Frm.refl [] _).alloc _
  have BT := Lib.hid ((TB.new w (.slice av t.recs.length ac) vl t).keep0 f1)
  have BR := Lib.hid (show RB ((w.alloc (.cells (tc (.slice av t.recs.length ac) vl t).toArray 27)).alloc (.cells (rc nilS zeroR).toArray 56)) (w.heap.size + 1) nilS zeroR from ⟨heap_alloc_at (by simp), zeroR_s⟩)
  have F0 := Lib.hid (f0.trans f1 (by simp))
  have HFI := Lib.hid (fun z (f : Frm [] w z) => FindP_any _ vl t n z (hT.keep0 f).1 hl)
  rw [tcA]
  clear f0 f1 hT
  generalize (tc (.slice av t.recs.length ac) vl t).toArray = A at *
  go_enter Tryz.func99, Tryz.ntmps99
  go_upto_region 1 with ((with_reducible (show wpList _ _ _ (Oper.mk _ (Op.alloc 56) _ _ _ _ :: _) _ _)); refine wpList_val rfl (exec_alloc56 rfl _) ?_)
  try simp only [World.size_alloc]
  generalize (w.alloc (.cells A 27)).alloc (.cells (rc nilS zeroR).toArray 56) = W at *
  have LAt := Lib.hid (fun z (f : Frm [] W z) => (BT.out.keep0 f).gets.all)
  unfold fndV at HFI
  cases hf : fnd n t.recs with
  | none =>
    rw [hf] at HFI
    have HRB := Lib.hid (show isF n t.recs = false ∧ fndR n t.recs = zeroR by unfold isF fndR; rw [hf]; exact ⟨rfl, rfl⟩)
    clear hf
    go_wp2_with (first
      | ((with_reducible (show wpList _ _ _ (Oper.mk _ (Op.load 27 _) _ _ _ _ :: _) _ _)); refine wpList_load_g (by rfl) 27 _ rfl _ rfl (LAt.out _ (Frm.refl [] _)) ?_)
      | (go_at_call 19; refine (HFI.out _ F0.out).mono ?_; rintro r w1 ⟨rfl, g1⟩)
      | ((with_reducible (show wpList _ _ _ (Oper.mk _ (Op.build 56 _) _ _ _ _ :: _) _ _)); refine wpList_val rfl (exec_bld56z rfl _) ?_)
      | ((with_reducible (show wpList _ _ _ (Oper.mk _ (Op.store 56 _ _) _ _ _ _ :: _) _ _)); refine wpList_store56 rfl (.tmp 4) (.tmp 16) rfl (v := nilS) (u := zeroR) rfl (BR.out.keep0 g1) zeroR_s rfl rfl ?_; intro V m f))
    refine bodyPost_ret (results_cell_slot (p := 4) (q := 5) rfl _ _ rfl rfl (run_loadVar_row V (w.heap.size + 1) 56 56 _ (0, 0) _ m.1 Tryz.underlying56 rfl (by rw [i56]; simp [rc_length zeroR_s]))) rfl ?_
    exact ⟨_, by rw [HRB.out.1]; rfl, by rw [HRB.out.2]; exact RecV.zero _, (F0.out.trans g1 (by simp)).trans f (fun i hi => by simp at hi; omega)⟩
  | some i =>
    rw [hf] at HFI
    obtain ⟨x, hx, _⟩ := fnd_some hf
    have hlt : i < t.recs.length := (List.getElem?_eq_some_iff.1 hx).1
    have hlt9 : (i : Int) < (t.recs.length : Int) := by omega
    have hxe : t.recs[i] = x := by rw [List.getElem?_eq_getElem hlt] at hx; exact Option.some.inj hx
    have HRB := Lib.hid (show isF n t.recs = true ∧ fndR n t.recs = x by unfold isF fndR; rw [hf]; exact ⟨rfl, by simp only [hx]; rfl⟩)
    clear hf hl
    go_upto_region 4 with (first
      | ((with_reducible (show wpList _ _ _ (Oper.mk _ (Op.load 27 _) _ _ _ _ :: _) _ _)); refine wpList_load_g (by rfl) 27 _ rfl _ rfl (LAt.out _ (Frm.refl [] _)) ?_)
      | (go_at_call 19; refine (HFI.out _ F0.out).mono ?_; rintro r w1 ⟨rfl, g1⟩))
    have RW := (HT.out w (Frm.refl [] _)).1
    have FW1 := Lib.hid (F0.out.trans g1 (by simp))
    obtain ⟨b, off, cp, e⟩ := RW.at (by omega)
    injection e with e1 e2 e3
    subst e1; subst e3
    obtain ⟨xa, xc, HG0⟩ := RW.getsF i hlt
    rw [hxe] at HG0
    have d1 := (BT.out.keep0 g1).gets.recs
    have LX := Lib.hid (HG0 w1 FW1.out).1.all
    have HG := Lib.hid (fun z f => (HG0 z f).2)
    have G1 := Lib.hid g1
    obtain ⟨_, _, _, _, _, hxs⟩ := (HG0 w1 FW1.out).2
    have HXS := Lib.hid hxs
    clear RW HG0 g1 hx hxe hxs
    go_wp2_with (first
      | ((with_reducible (show wpList _ _ _ (Oper.mk _ (Op.load 56 _) _ _ _ _ :: _) _ _)); refine wpList_load_g (by rfl) 56 _ rfl _ rfl LX.out ?_)
      | ((with_reducible (show wpList _ _ _ (Oper.mk _ (Op.store 56 _ _) _ _ _ _ :: _) _ _)); refine wpList_store56 rfl (.tmp 4) (.tmp 21) rfl (v := .slice xa x.root.ads.length xc) (u := x) rfl (BR.out.keep0 G1.out) HXS.out rfl rfl ?_; intro V m f))
    refine bodyPost_ret (results_cell_slot (p := 4) (q := 5) rfl _ _ rfl rfl (run_loadVar_row V (w.heap.size + 1) 56 56 _ (0, 0) _ m.1 Tryz.underlying56 rfl (by rw [i56]; simp [rc_length HXS.out]))) rfl ?_
    have gV : Frm [] w V := FW1.out.trans f (fun i hi => by simp at hi; omega)
    exact ⟨_, by rw [HRB.out.1]; rfl, by rw [HRB.out.2]; exact HG.out V gV, gV⟩
end Go.Proofs.YtljhanhipmnioaaGreat.Rd

namespace Go.Proofs.YtljhanhipmnioaaGreat.Rd
open Go.RowKit
set_option linter.unusedVariables false
set_option linter.unusedSimpArgs false
set_option maxRecDepth 100000

open Pt (Pt may enc zeroPt be4 be1 pc pv PtV SlA OwnA BT wpList_load_g heap_alloc_at Ext Grew yieldsIf_ld)
open Kr (OwnE SlE Enco RowTys)

theorem b32_2 (x y : Int) : Tryz.prog.builtSlice 32 2 [(0, .int .i64 x), (1, .int .i64 y)] = some #[.int .i64 x, .int .i64 y] := by kernel_rfl
theorem b32_3 (x y z : Int) : Tryz.prog.builtSlice 32 3 [(0, .int .i64 x), (1, .int .i64 y), (2, .int .i64 z)] = some #[.int .i64 x, .int .i64 y, .int .i64 z] := by kernel_rfl
theorem b32_4 (x y z u : Int) : Tryz.prog.builtSlice 32 4 [(0, .int .i64 x), (1, .int .i64 y), (2, .int .i64 z), (3, .int .i64 u)] = some #[.int .i64 x, .int .i64 y, .int .i64 z, .int .i64 u] := by kernel_rfl
section
variable {ops : Array Oper} {o : Oper} {a : Act} {w : World} {K : Act → World → Prop} {Q : Exit → Act → World → Prop} {E : Prop}
theorem step_bs166 (hw : Region.wanted o (yielded ops a.tmps) = true) (len : Nat) (parts : Array (Nat × Operand)) (ho : o.op = .buildSlice 166 len parts) (cells : Array Value)
    (hf : Tryz.prog.builtSlice 32 len (parts.map fun (i, x) => (i, a.eval x)).toList = some cells) (h : K (a.put o.dst (.slice (some ⟨w.heap.size, 0, none⟩) len len)) (w.alloc (.cells cells 32))) :
    if Region.wanted o (yielded ops a.tmps) = true then Oper.wp Tryz.prog o a w K Q else E := by
  rw [if_pos hw]
  unfold Program.builtSlice at hf
  cases hie : Tryz.prog.info? 32 with
  | none => simp [hie] at hf
  | some ie =>
    simp only [hie] at hf
    cases hz : ie.zero with
    | none => simp [hz] at hf
    | some z =>
      simp only [hz] at hf
      by_cases hc : len * ie.size > 2 ^ 24 ∨ len * ie.size = 0
      · simp [hc] at hf
      · rw [if_neg hc] at hf
        exact wp_buildSlice 166 32 len parts ho cells ie z Tryz.underlying166 hie hz (fun h' => hc (Or.inl h')) (fun h' => hc (Or.inr h')) hf h
theorem sle_new (w : World) (l : List Int) (cs : Array Value) (T : TypeId) (hc : cs = (Kr.flt eI l).toArray) (hl : l.length ≤ 1000) : SlE eI 1 (w.alloc (.cells cs T)) (.slice (some ⟨w.heap.size, 0, none⟩) l.length l.length) l [] :=
  Kr.SlE.of_block (T := T) encI (by rw [← hc]; exact heap_alloc_new _ _) rfl (by omega)
theorem step_err2 (hg : o.guard = none) (p q : Operand) (ho : o.op = .buildSlice 166 2 #[(0, p), (1, q)]) {x y : Int} (hp : a.eval p = .int .i64 x) (hq : a.eval q = .int .i64 y)
    (k : ∀ v' w', SlE eI 1 w' v' [x, y] [] → Frm [] w w' → K (a.put o.dst v') w') : if Region.wanted o (yielded ops a.tmps) = true then Oper.wp Tryz.prog o a w K Q else E :=
  step_bs166 (by simp [Region.wanted, hg]) 2 _ ho _ (by simp only [List.map_toArray, List.map_cons, List.map_nil, hp, hq]; exact b32_2 x y) (k _ _ (sle_new w [x, y] _ 32 rfl (by simp)) ((Frm.refl [] w).alloc _))
theorem step_err3 (hg : o.guard = none) (p q r : Operand) (ho : o.op = .buildSlice 166 3 #[(0, p), (1, q), (2, r)]) {x y z : Int} (hp : a.eval p = .int .i64 x) (hq : a.eval q = .int .i64 y) (hr : a.eval r = .int .i64 z)
    (k : ∀ v' w', SlE eI 1 w' v' [x, y, z] [] → Frm [] w w' → K (a.put o.dst v') w') : if Region.wanted o (yielded ops a.tmps) = true then Oper.wp Tryz.prog o a w K Q else E :=
  step_bs166 (by simp [Region.wanted, hg]) 3 _ ho _ (by simp only [List.map_toArray, List.map_cons, List.map_nil, hp, hq, hr]; exact b32_3 x y z) (k _ _ (sle_new w [x, y, z] _ 32 rfl (by simp)) ((Frm.refl [] w).alloc _))
theorem step_err4 (hg : o.guard = none) (p q r s : Operand) (ho : o.op = .buildSlice 166 4 #[(0, p), (1, q), (2, r), (3, s)]) {x y z u : Int} (hp : a.eval p = .int .i64 x) (hq : a.eval q = .int .i64 y) (hr : a.eval r = .int .i64 z) (hs : a.eval s = .int .i64 u)
    (k : ∀ v' w', SlE eI 1 w' v' [x, y, z, u] [] → Frm [] w w' → K (a.put o.dst v') w') : if Region.wanted o (yielded ops a.tmps) = true then Oper.wp Tryz.prog o a w K Q else E :=
  step_bs166 (by simp [Region.wanted, hg]) 4 _ ho _ (by simp only [List.map_toArray, List.map_cons, List.map_nil, hp, hq, hr, hs]; exact b32_4 x y z u) (k _ _ (sle_new w [x, y, z, u] _ 32 rfl (by simp)) ((Frm.refl [] w).alloc _))
end
/-- The first error of all calls. -/
def mayC (t : Tab) (b : Bool) : Int := orL [mayTE t, unl b 2]
set_option maxHeartbeats 4000000 in
theorem may_any (vr vl : Value) (t : Tab) (b : Bool) (w : World) (hT : TabV w vr vl t) (hf : FitT t) : Calls Tryz.prog 101 #[tv vr vl t, .bool b] w fun e w' => e = .returned (.int .i64 (mayC t b)) ∧ Frm [] w w' := by
  have HCK := Lib.hid (fun z (f : Frm [] w z) => CheckT_any vr vl t z (hT.keep0 f) hf)
  have HUN := Lib.hid (fun z => unless_any b 2 z)
  have f0 : Frm [] w (w.alloc (.cells (tc vr vl t).toArray 27)) := (Frm.refl [] w).alloc _
  have LA := Lib.hid (TB.new w vr vl t).gets.all
  have F0 := Lib.hid f0
  have HM := Lib.hid (show mayC t b = orL [mayTE t, unl b 2] from rfl)
  rw [tcA]
  generalize mayC t b = mc at *
  generalize mayTE t = me at *
  generalize unl b 2 = ub at *
  clear f0 hT hf
  generalize (tc vr vl t).toArray = A at *
  go_enter Tryz.func101, Tryz.ntmps101
  go_wp2_with (first
    | ((with_reducible (show wpList _ _ _ (Oper.mk _ (Op.load 27 _) _ _ _ _ :: _) _ _)); refine wpList_load_g (by rfl) 27 _ rfl _ rfl LA.out ?_)
    | (go_at_call 22; refine (HCK.out _ F0.out).mono ?_; rintro r w1 ⟨rfl, f1⟩)
    | (go_at_call 103; refine (HUN.out _).mono ?_; rintro r w2 ⟨rfl, rfl⟩)
    | (go_at_call 100; refine (OrE_any _ [me, ub] [] _ (sle_new _ [me, ub] _ 32 rfl (by simp)) (by simp)).mono ?_; rintro r w3 ⟨rfl, rfl⟩))
  go_ret
  exact ⟨by rw [HM.out]; rfl, (F0.out.trans f1 (by simp)).trans ((Frm.refl [] _).alloc _) (by simp)⟩
def nameB (s : ByteArray) : Bool := partS s || snapS s
theorem mayName_any (s : ByteArray) (hs : s.size ≤ 1000) (w : World) : Calls Tryz.prog 123 #[.string s] w fun e w' => e = .returned (.bool (nameB s)) ∧ Frm [] w w' := by
  have HV := Lib.hid (Volume_any s w)
  have HS := Lib.hid (fun z => Snapshot_any s hs z)
  unfold nameB
  generalize snapS s = sb at *
  cases hp : partS s with
  | true =>
    rw [hp] at HV
    clear hp
    go_enter Tryz.func123, Tryz.ntmps123
    go_wp2_with (first | (go_at_call 112; refine HV.out.mono ?_; rintro r w1 ⟨rfl, f1⟩) | (go_at_call 122; refine (HS.out _).mono ?_; rintro r w2 ⟨rfl, f2⟩))
    go_ret
    exact ⟨rfl, f1⟩
  | false =>
    rw [hp] at HV
    clear hp
    go_enter Tryz.func123, Tryz.ntmps123
    go_wp2_with (first | (go_at_call 112; refine HV.out.mono ?_; rintro r w1 ⟨rfl, f1⟩) | (go_at_call 122; refine (HS.out _).mono ?_; rintro r w2 ⟨rfl, f2⟩))
    go_ret
    exact ⟨by cases sb <;> rfl, f1.trans f2 (by simp)⟩
end Go.Proofs.YtljhanhipmnioaaGreat.Rd
