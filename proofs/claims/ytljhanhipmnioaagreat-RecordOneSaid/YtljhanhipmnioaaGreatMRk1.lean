/-
  Contracts of pointer: Read, Same, and plain facts. No conditions but those that each theorem names. Plain facts of tables: bytes there and back, cut short; places of names. No conditions but those that each theorem names. One. No conditions but those that each theorem names.
-/
import Derived.Test.YtljhanhipmnioaaGreatMRa1
import Derived.Test.YtljhanhipmnioaaGreatMRa2
import Derived.Test.YtljhanhipmnioaaGreatMRa3
import Derived.Test.YtljhanhipmnioaaGreatMRa4
import Derived.Test.YtljhanhipmnioaaGreatMRa5
import Derived.Test.YtljhanhipmnioaaGreatMRa6
import Derived.Test.YtljhanhipmnioaaGreatMRa7
import Derived.Test.YtljhanhipmnioaaGreatMRa8
import Derived.Test.YtljhanhipmnioaaGreatMRa9
import Derived.Test.YtljhanhipmnioaaGreatMRa10
import Derived.Test.YtljhanhipmnioaaGreatMRb1
import Derived.Test.YtljhanhipmnioaaGreatMRd1
import Derived.Test.YtljhanhipmnioaaGreatMRe1
import Derived.Test.YtljhanhipmnioaaGreatMRg1
import Derived.Deep.WholeRow
import Derived.OrdersHeld
import Derived.WalkKit
import Derived.WalkSpells
import Derived.WalkLawsBesides
import Derived.Deep.AppendSrc
import Derived.Laws.CopyOwn
import Derived.Laws.BytesArg
import Derived.Carry
import Derived.Laws.BytesString
import Derived.Deep.SlicePairs
import Derived.Deep.Cut
import Derived.Lib.Hide
import Derived.Test.YtljhanhipmnioaaGreatChecked
import Derived.ChangeKeysEq
import Derived.Deep.MidRow
import Derived.Deep.RegionHeld3
import Derived.OpenShut
import Derived.WalkHide
import Derived.IntWalk
import Derived.StillTailTactics
import Derived.Deep.RegionLaw
import Derived.Deep.RegionWith
import Derived.Deep.QuietTactic
import Derived.BigQuiet
import Derived.Deep.CutBlock
import Derived.Deep.DeepCutAuto
import Derived.Deep.Slices
import Derived.Defers
import Derived.Recover
import Derived.Lib.Bytealg
import Derived.Lib.TrimUEq
import Derived.Lib.MinMaxS
import Derived.LaidEqlPtr
import Derived.Lib.OthersKept
import Derived.Deep.Draws
import Derived.WalkMore
import Derived.Deep.LoopGhost
import Derived.Lib.BufferWrite
import Derived.Lib.UnsafeStr
import Derived.Laws.MakeOwn
import Derived.Laws.Strings3
import Derived.BigRegion
import Derived.Lib.Walk
import Derived.Great.Walk
namespace Go.Proofs.YtljhanhipmnioaaGreat.Pt
open Go.RowKit
set_option linter.unusedVariables false
set_option linter.unusedSimpArgs false
set_option maxRecDepth 100000

end Go.Proofs.YtljhanhipmnioaaGreat.Pt

namespace Go.Proofs.YtljhanhipmnioaaGreat.Pt
open Go.RowKit
set_option linter.unusedVariables false
set_option linter.unusedSimpArgs false
set_option maxRecDepth 100000

end Go.Proofs.YtljhanhipmnioaaGreat.Pt

namespace Go.Proofs.YtljhanhipmnioaaGreat.Pt
set_option linter.unusedVariables false
set_option linter.unusedSimpArgs false
set_option maxRecDepth 100000

theorem enc_inj {p q : Pt} (hp : may p) (hq : may q) (h1 : p.s.length = 32) (h2 : q.s.length = 32) (h : enc p = enc q) : p = q := by
  rw [← (enc_good hp h1).2, h, (enc_good hq h2).2]
end Go.Proofs.YtljhanhipmnioaaGreat.Pt

namespace Go.Proofs.YtljhanhipmnioaaGreat.Pt
open Go.RowKit
set_option linter.unusedVariables false
set_option linter.unusedSimpArgs false
set_option maxRecDepth 100000

end Go.Proofs.YtljhanhipmnioaaGreat.Pt

namespace Go.Proofs.YtljhanhipmnioaaGreat.Pt
open Go.RowKit
set_option linter.unusedVariables false
set_option linter.unusedSimpArgs false
set_option maxRecDepth 100000

end Go.Proofs.YtljhanhipmnioaaGreat.Pt

namespace Go.Proofs.YtljhanhipmnioaaGreat.Pt
open Go.RowKit
set_option linter.unusedVariables false
set_option linter.unusedSimpArgs false
set_option maxRecDepth 100000

end Go.Proofs.YtljhanhipmnioaaGreat.Pt

namespace Go.Proofs.YtljhanhipmnioaaGreat.Rd
open Go.RowKit
set_option linter.unusedVariables false
set_option linter.unusedSimpArgs false
set_option maxRecDepth 100000

open Pt (Pt may enc readPt readE zeroPt be4 be1)

theorem mayT_no {t : Tab} : mayT t = false ↔ ¬ MayT t := by rw [← mayT_iff]; simp
theorem enc_inj {t u : Tab} (ht : MayT t) (hu : MayT u) (st : Sums t) (su : Sums u) (h : encT t = encT u) : t = u := by
  have e := read_enc ht st
  rw [h, read_enc hu su] at e
  exact (congrArg (·.1) e).symm
theorem fnd_at : ∀ {n : ByteArray} {rs : List Rec} {i : Nat} {x : Rec}, rs[i]? = some x → x.name = n → (∀ k y, k < i → rs[k]? = some y → y.name ≠ n) → fnd n rs = some i
  | n, [], i, x, h, _, _ => by cases h
  | n, z :: r, 0, x, h, hx, _ => by
    cases h
    unfold fnd
    rw [if_pos hx]
  | n, z :: r, i + 1, x, h, hx, hn => by
    unfold fnd
    rw [if_neg (hn 0 z (by omega) rfl), fnd_at (by simpa using h) hx (fun k y hk hy => hn (k + 1) y (by omega) (by simpa using hy))]
    rfl
theorem fnd_own {t : Tab} (h : MayT t) {i : Nat} {x : Rec} (hx : t.recs[i]? = some x) : fnd x.name t.recs = some i := by
  refine fnd_at hx rfl fun k y hk hy e => ?_
  have := names_rise h.recs hy hx hk
  rw [e, less_irrefl] at this
  cases this
/-- The greatest ID, or nought. -/
def great (rs : List Rec) : Int := rs.foldl (fun n x => max n x.id) 0
theorem great_le (rs : List Rec) : ∀ n : Int, n ≤ rs.foldl (fun n x => max n x.id) n ∧ ∀ x ∈ rs, x.id ≤ rs.foldl (fun n x => max n x.id) n := by
  induction rs with
  | nil => intro n; exact ⟨Int.le_refl _, by simp⟩
  | cons y r ih =>
    intro n
    obtain ⟨h1, h2⟩ := ih (max n y.id)
    simp only [List.foldl_cons]
    refine ⟨by omega, fun x hx => ?_⟩
    rcases List.mem_cons.1 hx with rfl | hx
    · omega
    · exact h2 x hx
theorem great_mem (rs : List Rec) : ∀ n : Int, rs.foldl (fun n x => max n x.id) n = n ∨ ∃ x ∈ rs, x.id = rs.foldl (fun n x => max n x.id) n := by
  induction rs with
  | nil => intro n; exact .inl rfl
  | cons y r ih =>
    intro n
    simp only [List.foldl_cons]
    rcases ih (max n y.id) with h | ⟨x, hx, h⟩
    · by_cases hm : n ≤ y.id
      · right; exact ⟨y, by simp, by rw [h]; omega⟩
      · left; rw [h]; omega
    · right; exact ⟨x, by simp [hx], h⟩
def withNext (t : Tab) (n : Int) : Tab := ⟨n, t.recs, t.cur, t.lives⟩
/-- With a lesser Next it may not be. -/
theorem less_no {t : Tab} (h : MayT t) : ¬ MayT (withNext t (great t.recs)) := by
  intro hn
  have h0 : (1 : Int) ≤ great t.recs := hn.n0
  rcases great_mem t.recs 0 with h1 | ⟨x, hx, h1⟩
  · unfold great at h0; omega
  · obtain ⟨i, hi⟩ := List.getElem?_of_mem hx
    have hs := allB_rec hn.recs (show (withNext t (great t.recs)).recs[i]? = some x from hi)
    unfold stand at hs
    simp only [Bool.and_eq_true, decide_eq_true_eq] at hs
    have h2 : x.id < great t.recs := hs.2.1
    unfold great at h2
    omega
/-- With one more than the greatest ID it may. -/
theorem more_yes {t : Tab} (h : MayT t) : MayT (withNext t (great t.recs + 1)) := by
  have hid : ∀ x ∈ t.recs, 1 ≤ x.id ∧ x.id ≤ 2147483647 := fun x hx => by
    have := h.one hx
    unfold mayR at this
    simp only [Bool.and_eq_true, wi_iff] at this
    exact this.1.1
  have g0 : 0 ≤ great t.recs := (great_le t.recs 0).1
  refine ⟨show 1 ≤ great t.recs + 1 by omega, ?_, h.many, h.l0, h.l1, h.lives, ?_, h.cur⟩
  · show great t.recs + 1 ≤ 2147483648
    rcases great_mem t.recs 0 with h1 | ⟨x, hx, h1⟩
    · unfold great; omega
    · have := hid x hx; unfold great; omega
  · rw [allB_iff]
    intro i x hx
    have hs := allB_rec h.recs hx
    have hx' : x ∈ t.recs := List.mem_of_getElem? hx
    have hle := (great_le t.recs 0).2 x hx'
    unfold stand at hs ⊢
    simp only [Bool.and_eq_true, decide_eq_true_eq] at hs ⊢
    refine ⟨hs.1, ?_, hs.2.2⟩
    show x.id < great t.recs + 1
    unfold great
    omega
end Go.Proofs.YtljhanhipmnioaaGreat.Rd

namespace Go.Proofs.YtljhanhipmnioaaGreat.Rd
open Go.RowKit
set_option linter.unusedVariables false
set_option linter.unusedSimpArgs false
set_option maxRecDepth 100000

open Pt (Pt may enc readPt readE zeroPt be4 be1 pc pv PtV SlA OwnA BT wpList_load_g heap_alloc_at lst_slB one_slB Ext Grew exec_slice_lh yieldsIf_ld)
open Kr (OwnE SlE Enco RowTys)

theorem great_snoc (l : List Rec) (x : Rec) : great (l ++ [x]) = max (great l) x.id := by unfold great; rw [List.foldl_append]; rfl
theorem sameT_comm (t u : Tab) : sameT u t = sameT t u := by
  rw [Bool.eq_iff_iff, sameT_iff, sameT_iff]
  exact ⟨Eq.symm, Eq.symm⟩
theorem pack_same {t u : Tab} (ht : mayT t = true) (hu : mayT u = true) (st : Sums t) (su : Sums u) : (packT t == packT u) = sameT t u := by
  rw [(packT_yes ht).1, (packT_yes hu).1, Bool.eq_iff_iff, sameT_iff, beq_iff_eq]
  exact ⟨fun h => enc_inj (mayT_iff.1 ht) (mayT_iff.1 hu) st su h, fun h => by rw [h]⟩
def OneRel (rs : List Rec) (w0 : World) (c g : Value) (wr : World) : Prop := ∃ k : Nat, k ≤ rs.length ∧ c = .int .i64 k ∧ g = .int .i64 (great (rs.take k)) ∧ Frm [] w0 wr
set_option maxHeartbeats 16000000 in
theorem one_law (vr vl : Value) (t : Tab) (xr xl : Value) (u : Tab) (w : World) (hT : TabV w vr vl t) (hU : TabV w xr xl u) : Calls Tryz.prog 7 #[tv vr vl t, tv xr xl u] w (Yes w) := by
  obtain ⟨av, ac, rfl⟩ := hT.1.form
  have HT := Lib.hid (fun z (f : Frm [] w z) => hT.keep0 f)
  have HU := Lib.hid (fun z (f : Frm [] w z) => hU.keep0 f)
  have SMT := Lib.hid (show Sums t from hT.1.sums)
  have SMU := Lib.hid (show Sums u from hU.1.sums)
  have f0 : Frm [] w (w.alloc (.cells (tc (.slice av t.recs.length ac) vl t).toArray 27)) := (Frm.refl [] w).alloc _
  have b0 := TB.new w (.slice av t.recs.length ac) vl t
  have f1 : Frm [] (w.alloc (.cells (tc (.slice av t.recs.length ac) vl t).toArray 27)) ((w.alloc (.cells (tc (.slice av t.recs.length ac) vl t).toArray 27)).alloc (.cells (tc xr xl u).toArray 27)) := (Frm.refl [] _).alloc _
  have b1 : TB ((w.alloc (.cells (tc (.slice av t.recs.length ac) vl t).toArray 27)).alloc (.cells (tc xr xl u).toArray 27)) (w.heap.size + 1) xr xl u := heap_alloc_at (by simp)
  have BT := Lib.hid (b0.keep0 f1)
  have BU := Lib.hid b1
  have F0 := Lib.hid (f0.trans f1 (by simp))
  rw [tcA, tcA]
  clear f0 f1 b0 b1 hT hU
  generalize (tc (.slice av t.recs.length ac) vl t).toArray = A at *
  generalize (tc xr xl u).toArray = A2 at *
  go_enter Tryz.func7, Tryz.ntmps7
  go_upto_region 1 with (fail)
  try simp only [World.size_alloc]
  generalize (w.alloc (.cells A 27)).alloc (.cells A2 27) = W at *
  have LAt := Lib.hid (fun z (f : Frm [] W z) => (BT.out.keep0 f).gets.all)
  have LAu := Lib.hid (fun z (f : Frm [] W z) => (BU.out.keep0 f).gets.all)
  have HLt := Lib.hid (fun z (f : Frm [] W z) => LongT_any _ vl t z (HT.out z (F0.out.trans f (by simp))))
  have HLu := Lib.hid (fun z (f : Frm [] W z) => LongT_any xr xl u z (HU.out z (F0.out.trans f (by simp))))
  unfold LongT at HLt HLu
  go_upto_region 2 with (go_at_call 15; refine (awake_any _).mono ?_; rintro r w1 ⟨rfl, f1⟩)
  have F1 := Lib.hid f1
  clear f1 BU
  cases hbt : longB t with
  | true =>
    rw [hbt] at HLt
    clear hbt
    go_wp2_with (first
      | ((with_reducible (show wpList _ _ _ (Oper.mk _ (Op.load 27 (Operand.tmp 2)) _ _ _ _ :: _) _ _)); refine wpList_load_g (by rfl) 27 _ rfl _ rfl (LAt.out _ F1.out) ?_)
      | (go_at_call 14; refine (HLt.out _ F1.out).mono ?_; rintro r w2 ⟨rfl, f2⟩))
    go_ret
    exact ⟨rfl, (F0.out.trans F1.out (by simp)).trans f2 (by simp)⟩
  | false =>
    rw [hbt] at HLt
    have ST := Lib.hid (longB_small hbt)
    clear hbt
    cases hbu : longB u with
    | true =>
      rw [hbu] at HLu
      clear hbu
      go_wp2_with (first
        | ((with_reducible (show wpList _ _ _ (Oper.mk _ (Op.load 27 (Operand.tmp 2)) _ _ _ _ :: _) _ _)); refine wpList_load_g (by rfl) 27 _ rfl _ rfl (LAt.out _ F1.out) ?_)
        | ((with_reducible (show wpList _ _ _ (Oper.mk _ (Op.load 27 (Operand.tmp 3)) _ _ _ _ :: _) _ _)); refine wpList_load_g (by rfl) 27 _ rfl _ rfl (LAu.out _ F2) ?_)
        | (go_at_call 14; first | ((with_reducible refine (HLt.out _ F1.out).mono ?_); rintro r w2 ⟨rfl, f2⟩; have F2 := F1.out.trans f2 (by simp)) | ((with_reducible refine (HLu.out _ F2).mono ?_); rintro r w3 ⟨rfl, f3⟩)))
      go_ret
      exact ⟨rfl, (F0.out.trans F2 (by simp)).trans f3 (by simp)⟩
    | false =>
      rw [hbu] at HLu
      have SU := Lib.hid (longB_small hbu)
      clear hbu
      have FT := Lib.hid ST.out.fit
      have FU := Lib.hid SU.out.fit
      have HBt := Lib.hid (fun z (f : Frm [] W z) => BytesT_any _ vl t z (HT.out z (F0.out.trans f (by simp))) FT.out)
      have HBu := Lib.hid (fun z (f : Frm [] W z) => BytesT_any xr xl u z (HU.out z (F0.out.trans f (by simp))) FU.out)
      unfold BytesT at HBt HBu
      have Htu := Lib.hid (fun z (f : Frm [] W z) => Same_any _ vl xr xl t u z (HT.out z (F0.out.trans f (by simp))) (HU.out z (F0.out.trans f (by simp))) FT.out)
      have Hut := Lib.hid (fun z (f : Frm [] W z) => by have q := Same_any xr xl _ vl u t z (HU.out z (F0.out.trans f (by simp))) (HT.out z (F0.out.trans f (by simp))) FU.out; rw [sameT_comm] at q; exact q)
      have Htt := Lib.hid (fun z (f : Frm [] W z) => by have q := Same_any _ vl _ vl t t z (HT.out z (F0.out.trans f (by simp))) (HT.out z (F0.out.trans f (by simp))) FT.out; rw [sameT_refl] at q; exact q)
      have HKtu := Lib.hid (fun z (f : Frm [] W z) => SameTable_any _ vl xr xl t u z (HT.out z (F0.out.trans f (by simp))) (HU.out z (F0.out.trans f (by simp))) FT.out)
      have HPS := Lib.hid (fun (h1 : mayT t = true) (h2 : mayT u = true) => pack_same h1 h2 SMT.out SMU.out)
      go_upto_region 4 with (first
        | ((with_reducible (show wpList _ _ _ (Oper.mk _ (Op.load 27 (Operand.tmp 2)) _ _ _ _ :: _) _ _)); refine wpList_load_g (by rfl) 27 _ rfl _ rfl (LAt.out _ F1.out) ?_)
        | ((with_reducible (show wpList _ _ _ (Oper.mk _ (Op.load 27 (Operand.tmp 3)) _ _ _ _ :: _) _ _)); refine wpList_load_g (by rfl) 27 _ rfl _ rfl (LAu.out _ F2) ?_)
        | (go_at_call 14; first | ((with_reducible refine (HLt.out _ F1.out).mono ?_); rintro r w2 ⟨rfl, f2⟩; have F2 := F1.out.trans f2 (by simp)) | ((with_reducible refine (HLu.out _ F2).mono ?_); rintro r w3 ⟨rfl, f3⟩)))
      have F3 := Lib.hid (F2.trans f3 (by simp))
      clear F2 f2 f3
      go_upto_region 5 with (first
        | ((with_reducible (show wpList _ _ _ (Oper.mk _ (Op.load 27 (Operand.tmp 2)) _ _ _ _ :: _) _ _)); refine wpList_load_g (by rfl) 27 _ rfl _ rfl (LAt.out _ F3.out) ?_)
        | (go_at_call 17; refine (HBt.out _ F3.out).mono ?_; rintro r w4 ⟨a4, c4, sp4, rfl, o4, f4, n4⟩))
      have O4 := Lib.hid o4
      have F4 := Lib.hid (F3.out.trans f4 (by simp))
      clear o4 f4 n4
      go_upto_region 6 with (first
        | ((with_reducible (show wpList _ _ _ (Oper.mk _ (Op.load 27 (Operand.tmp 3)) _ _ _ _ :: _) _ _)); refine wpList_load_g (by rfl) 27 _ rfl _ rfl (LAu.out _ F4.out) ?_)
        | (go_at_call 17; refine (HBu.out _ F4.out).mono ?_; rintro r w5 ⟨a5, c5, sp5, rfl, o5, f5, n5⟩))
      have O5 := Lib.hid o5
      have O45 := Lib.hid (O4.out.keep f5 (by simp))
      have F5 := Lib.hid (F4.out.trans f5 (by simp))
      clear o5 f5 n5 O4
      go_upto_region 7 with (first
        | ((with_reducible (show wpList _ _ _ (Oper.mk _ (Op.load 27 (Operand.tmp 2)) _ _ _ _ :: _) _ _)); refine wpList_load_g (by rfl) 27 _ rfl _ rfl (LAt.out _ F5.out) ?_)
        | ((with_reducible (show wpList _ _ _ (Oper.mk _ (Op.load 27 (Operand.tmp 3)) _ _ _ _ :: _) _ _)); refine wpList_load_g (by rfl) 27 _ rfl _ rfl (LAu.out _ F5.out) ?_)
        | (go_at_call 24; refine (Htu.out _ F5.out).mono ?_; rintro r w6 ⟨rfl, f6⟩))
      have F6 := Lib.hid (F5.out.trans f6 (by simp))
      have HSB := Lib.hid (fun z (f : Frm [] w6 z) => Pt.SameBytes_any _ _ _ _ _ _ z ((O45.out.sl.keep f6 (by simp)).keep f (by simp)) ((O5.out.sl.keep f6 (by simp)).keep f (by simp)))
      clear f6 O45 O5
      generalize hsb : sameT t u = sb at *
      have HSBV := Lib.hid hsb
      cases hm : mayT t with
      | false =>
        have hme : mayTE t = 2 := (packT_no hm).2
        rw [hme]
        clear hm hme hsb
        go_wp2_with (first
          | ((with_reducible (show wpList _ _ _ (Oper.mk (some 39) (Op.load 27 _) _ _ _ _ :: _) _ _)); refine wpList_load_g (by rfl) 27 _ rfl _ rfl (LAt.out _ F6.out) ?_)
          | ((with_reducible (show wpList _ _ _ (Oper.mk (some 40) (Op.load 27 _) _ _ _ _ :: _) _ _)); refine wpList_load_g (by rfl) 27 _ rfl _ rfl (LAu.out _ F6.out) ?_)
          | ((with_reducible (show wpList _ _ _ (Oper.mk (some 45) (Op.load 27 _) _ _ _ _ :: _) _ _)); refine wpList_load_g (by rfl) 27 _ rfl _ rfl (LAu.out _ F7) ?_)
          | ((with_reducible (show wpList _ _ _ (Oper.mk (some 46) (Op.load 27 _) _ _ _ _ :: _) _ _)); refine wpList_load_g (by rfl) 27 _ rfl _ rfl (LAt.out _ F7) ?_)
          | ((with_reducible (show wpList _ _ _ (Oper.mk (some 51) (Op.load 27 _) _ _ _ _ :: _) _ _)); refine wpList_load_g (by rfl) 27 _ rfl _ rfl (LAt.out _ F8) ?_)
          | ((with_reducible (show wpList _ _ _ (Oper.mk (some 52) (Op.load 27 _) _ _ _ _ :: _) _ _)); refine wpList_load_g (by rfl) 27 _ rfl _ rfl (LAt.out _ F8) ?_)
          | (go_at_call 27; refine (HKtu.out _ F6.out).mono ?_; rintro r w7 ⟨rfl, f7⟩; have F7 := F6.out.trans f7 (by simp))
          | (go_at_call 24; first | ((with_reducible refine (Hut.out _ F7).mono ?_); rintro r w8 ⟨rfl, f8⟩; have F8 := F7.trans f8 (by simp)) | ((with_reducible refine (Htt.out _ F8).mono ?_); rintro r w9 ⟨rfl, f9⟩; have F9 := F8.trans f9 (by simp)))
          | (go_at_call 21; refine (HSB.out _ ((f7.trans f8 (by simp)).trans f9 (by simp))).mono ?_; rintro r w10 ⟨rfl, rfl⟩))
        go_ret
        exact ⟨rfl, F0.out.trans F9 (by simp)⟩
      | true =>
        have hme : mayTE t = 0 := (packT_yes hm).2
        have hM := mayT_iff.1 hm
        rw [hme]
        cases hu : mayT u with
        | false =>
          have hmu : mayTE u = 2 := (packT_no hu).2
          rw [hmu]
          clear hm hme hu hmu hsb
          go_upto_region 12 with (first
            | ((with_reducible (show wpList _ _ _ (Oper.mk (some 39) (Op.load 27 _) _ _ _ _ :: _) _ _)); refine wpList_load_g (by rfl) 27 _ rfl _ rfl (LAt.out _ F6.out) ?_)
            | ((with_reducible (show wpList _ _ _ (Oper.mk (some 40) (Op.load 27 _) _ _ _ _ :: _) _ _)); refine wpList_load_g (by rfl) 27 _ rfl _ rfl (LAu.out _ F6.out) ?_)
            | ((with_reducible (show wpList _ _ _ (Oper.mk (some 45) (Op.load 27 _) _ _ _ _ :: _) _ _)); refine wpList_load_g (by rfl) 27 _ rfl _ rfl (LAu.out _ F7) ?_)
            | ((with_reducible (show wpList _ _ _ (Oper.mk (some 46) (Op.load 27 _) _ _ _ _ :: _) _ _)); refine wpList_load_g (by rfl) 27 _ rfl _ rfl (LAt.out _ F7) ?_)
            | ((with_reducible (show wpList _ _ _ (Oper.mk (some 51) (Op.load 27 _) _ _ _ _ :: _) _ _)); refine wpList_load_g (by rfl) 27 _ rfl _ rfl (LAt.out _ F8) ?_)
            | ((with_reducible (show wpList _ _ _ (Oper.mk (some 52) (Op.load 27 _) _ _ _ _ :: _) _ _)); refine wpList_load_g (by rfl) 27 _ rfl _ rfl (LAt.out _ F8) ?_)
            | (go_at_call 27; refine (HKtu.out _ F6.out).mono ?_; rintro r w7 ⟨rfl, f7⟩; have F7 := F6.out.trans f7 (by simp))
            | (go_at_call 24; first | ((with_reducible refine (Hut.out _ F7).mono ?_); rintro r w8 ⟨rfl, f8⟩; have F8 := F7.trans f8 (by simp)) | ((with_reducible refine (Htt.out _ F8).mono ?_); rintro r w9 ⟨rfl, f9⟩; have F9 := F8.trans f9 (by simp)))
            | (go_at_call 21; refine (HSB.out _ ((f7.trans f8 (by simp)).trans f9 (by simp))).mono ?_; rintro r w10 ⟨rfl, rfl⟩))
          have F10 := Lib.hid F9
          clear F7 F8 F9 f7 f8 f9
          go_upto_region 13 with (fail)
          go_loopw [12, 11] (OneRel t.recs W) (fun c _ _ => t.recs.length - (intOf c).toNat)
          case atStart => exact ⟨0, Nat.zero_le _, rfl, rfl, F10.out⟩
          case round =>
            obtain ⟨k, hk, rfl, rfl, hF⟩ := hrel
            have F := Lib.hid hF
            have d1 := (BT.out.keep0 hF).gets.recs
            have hl9 : (t.recs.length : Int) ≤ 20 := by have := ST.out.1; omega
            clear hF
            by_cases hlt : k < t.recs.length
            · have hlt9 : (k : Int) < (t.recs.length : Int) := by omega
              have RW := HT.out wr (F0.out.trans F.out (by simp))
              obtain ⟨b, off, cp, e⟩ := RW.1.at (by omega)
              injection e with e1 e2 e3
              subst e1; subst e3
              obtain ⟨xa, xc, HG0⟩ := RW.1.getsF k hlt
              have HG := Lib.hid (fun z f => (HG0 z f).1)
              have hfn : fndV (t.recs[k]).name t.recs = .tuple #[.int .i64 k, .bool true] := by unfold fndV; rw [fnd_own hM (List.getElem?_eq_getElem hlt)]
              have TK := Lib.hid (show great (t.recs.take (k + 1)) = max (great (t.recs.take k)) (t.recs[k]).id from by rw [List.take_succ_eq_append_getElem hlt, great_snoc])
              have HFD := Lib.hid (fun z (f : Frm [] W z) => by have q := FindP_any _ vl t (t.recs[k]).name z (HT.out z (F0.out.trans f (by simp))).1 FT.out.recs; rw [hfn] at q; exact q)
              have HBX := Lib.hid (fun z (f : Frm [] wr z) => (BT.out.keep0 (F.out.trans f (by simp))).gets)
              have LAw := Lib.hid (fun z (f : Frm [] wr z) => LAt.out z (F.out.trans f (by simp)))
              clear RW HG0 hfn
              generalize t.recs[k] = x at *
              generalize great (t.recs.take k) = gr at *
              go_upto_region 15 with (fail)
              refine wp_region_held_drew (S := fun z => Frm [] wr z) (by kernel_rfl) ((Frm.refl [] wr).drew) (fun hHeld => ?_)
              refine wpAnyH_take (i := 0) (oi := ⟨some 82, .load 27 (.tmp 2), _, _, _, none⟩) rfl (by kernel_rfl) (by kernel_rfl) (by kernel_rfl) (fun _ _ _ h => h) (yieldsIf_ld (by rfl) 27 _ rfl _ rfl (fun z hSw => LAw.out z hSw)) hHeld ?_
              try simp only [Act.put, List.setIfInBounds_toArray, List.set_cons_zero, List.set_cons_succ]
              refine wpAnyH_take (i := 1) (oi := ⟨some 83, .fieldAddr 27 (.tmp 2) 1, _, _, _, none⟩) (v := ?_) rfl (by kernel_rfl) (by kernel_rfl) (by kernel_rfl) (fun _ _ _ h => h) (Or.inl ⟨by rfl, ?_⟩) hHeld ?_
              rotate_left
              focus (intro z hSw; clear hSw; go_simp; try with_reducible rfl)
              try simp only [Act.put, List.setIfInBounds_toArray, List.set_cons_zero, List.set_cons_succ]
              refine wpAnyH_take (i := 2) (oi := ⟨some 84, .load 22 (.tmp 83), _, _, _, none⟩) (v := ?_) rfl (by kernel_rfl) (by kernel_rfl) (by kernel_rfl) (fun _ _ _ h => h) (Or.inl ⟨by rfl, ?_⟩) hHeld ?_
              rotate_left
              focus (intro z hSw; have q1 := (HBX.out z hSw).recs; have q2 := (HG.out z hSw).name; clear hSw; go_simp; try with_reducible rfl)
              try simp only [Act.put, List.setIfInBounds_toArray, List.set_cons_zero, List.set_cons_succ]
              refine wpAnyH_take (i := 3) (oi := ⟨some 85, .move (.tmp 12), _, _, _, none⟩) (v := ?_) rfl (by kernel_rfl) (by kernel_rfl) (by kernel_rfl) (fun _ _ _ h => h) (Or.inl ⟨by rfl, ?_⟩) hHeld ?_
              rotate_left
              focus (intro z hSw; clear hSw; go_simp; try with_reducible rfl)
              try simp only [Act.put, List.setIfInBounds_toArray, List.set_cons_zero, List.set_cons_succ]
              refine wpAnyH_take (i := 4) (oi := ⟨some 86, .indexAddr 22 (.tmp 84) (.tmp 85), _, _, _, none⟩) (v := ?_) rfl (by kernel_rfl) (by kernel_rfl) (by kernel_rfl) (fun _ _ _ h => h) (Or.inl ⟨by rfl, ?_⟩) hHeld ?_
              rotate_left
              focus (intro z hSw; clear hSw; go_simp; try with_reducible rfl)
              try simp only [Act.put, List.setIfInBounds_toArray, List.set_cons_zero, List.set_cons_succ]
              refine wpAnyH_take (i := 5) (oi := ⟨some 87, .fieldAddr 56 (.tmp 86) 1, _, _, _, none⟩) (v := ?_) rfl (by kernel_rfl) (by kernel_rfl) (by kernel_rfl) (fun _ _ _ h => h) (Or.inl ⟨by rfl, ?_⟩) hHeld ?_
              rotate_left
              focus (intro z hSw; clear hSw; go_simp; try with_reducible rfl)
              try simp only [Act.put, List.setIfInBounds_toArray, List.set_cons_zero, List.set_cons_succ]
              refine wpAnyH_take (i := 6) (oi := ⟨some 88, .load 9 (.tmp 87), _, _, _, none⟩) (v := ?_) rfl (by kernel_rfl) (by kernel_rfl) (by kernel_rfl) (fun _ _ _ h => h) (Or.inl ⟨by rfl, ?_⟩) hHeld ?_
              rotate_left
              focus (intro z hSw; have q1 := (HBX.out z hSw).recs; have q2 := (HG.out z hSw).name; clear hSw; go_simp; try with_reducible rfl)
              try simp only [Act.put, List.setIfInBounds_toArray, List.set_cons_zero, List.set_cons_succ]
              refine wpAnyH_ready (rs := [7]) (by kernel_rfl) (by simp) ?_
              refine AllReadyH.cons (o := ⟨some 89, .call { callee := .value (.func 19), args := #[.tmp 82, .tmp 88], argTypes := #[27, 9] }, _, _, _, none⟩) rfl (fun K hK => ?_) AllReadyH.nil
              go_simp
              refine (HFD.out _ (F.out.trans hHeld (by simp))).mono ?_
              rintro r wn ⟨rfl, fn⟩
              refine hK.out _ _ ?_ (fun hNext => ?_)
              · exact hHeld.trans fn (by simp)
              clear hK K hHeld
              have hHeld := hNext
              clear hNext
              try simp only [Act.put, List.setIfInBounds_toArray, List.set_cons_zero, List.set_cons_succ]
              refine wpAnyH_take (i := 8) (oi := ⟨some 81, .move (.tmp 89), _, _, _, none⟩) (v := ?_) rfl (by kernel_rfl) (by kernel_rfl) (by kernel_rfl) (fun _ _ _ h => h) (Or.inl ⟨by rfl, ?_⟩) hHeld ?_
              rotate_left
              focus (intro z hSw; clear hSw; go_simp; try with_reducible rfl)
              try simp only [Act.put, List.setIfInBounds_toArray, List.set_cons_zero, List.set_cons_succ]
              refine wpAnyH_take (i := 9) (oi := ⟨some 90, .extract (.tmp 81) 0, _, _, _, none⟩) (v := ?_) rfl (by kernel_rfl) (by kernel_rfl) (by kernel_rfl) (fun _ _ _ h => h) (Or.inl ⟨by rfl, ?_⟩) hHeld ?_
              rotate_left
              focus (intro z hSw; clear hSw; go_simp; try with_reducible rfl)
              try simp only [Act.put, List.setIfInBounds_toArray, List.set_cons_zero, List.set_cons_succ]
              refine wpAnyH_take (i := 10) (oi := ⟨some 91, .extract (.tmp 81) 1, _, _, _, none⟩) (v := ?_) rfl (by kernel_rfl) (by kernel_rfl) (by kernel_rfl) (fun _ _ _ h => h) (Or.inl ⟨by rfl, ?_⟩) hHeld ?_
              rotate_left
              focus (intro z hSw; clear hSw; go_simp; try with_reducible rfl)
              try simp only [Act.put, List.setIfInBounds_toArray, List.set_cons_zero, List.set_cons_succ]
              refine wpAnyH_take (i := 11) (oi := ⟨some 13, .assign (.tmp 90), _, _, _, none⟩) (v := ?_) rfl (by kernel_rfl) (by kernel_rfl) (by kernel_rfl) (fun _ _ _ h => h) (Or.inl ⟨by rfl, ?_⟩) hHeld ?_
              rotate_left
              focus (intro z hSw; clear hSw; go_simp; try with_reducible rfl)
              try simp only [Act.put, List.setIfInBounds_toArray, List.set_cons_zero, List.set_cons_succ]
              refine wpAnyH_take (i := 12) (oi := ⟨some 14, .assign (.tmp 91), _, _, _, none⟩) (v := ?_) rfl (by kernel_rfl) (by kernel_rfl) (by kernel_rfl) (fun _ _ _ h => h) (Or.inl ⟨by rfl, ?_⟩) hHeld ?_
              rotate_left
              focus (intro z hSw; clear hSw; go_simp; try with_reducible rfl)
              try simp only [Act.put, List.setIfInBounds_toArray, List.set_cons_zero, List.set_cons_succ]
              refine wpAnyH_done (by kernel_rfl) ?_ _
              have q1 := (HBX.out _ hHeld).recs
              have q2 := (HG.out _ hHeld).id
              have FH := Lib.hid hHeld
              clear hHeld d1
              go_wp2_with (fail)
              go_roundw
              case rel => exact ⟨k + 1, by omega, by go_num, by rw [TK.out], F.out.trans FH.out (by simp)⟩
              case measure => simp [intOf]; omega
            · obtain rfl : k = t.recs.length := by omega
              rw [List.take_length]
              have hgb : 0 ≤ great t.recs ∧ great t.recs ≤ 2147483647 := by
                refine ⟨(great_le t.recs 0).1, ?_⟩
                rcases great_mem t.recs 0 with h | ⟨x, hx, h⟩
                · unfold great; rw [h]; decide
                · have := hM.one hx
                  unfold mayR at this
                  simp only [Bool.and_eq_true, wi_iff] at this
                  unfold great; rw [← h]; exact this.1.1.2
              have hno : mayTE (withNext t (great t.recs)) = 2 := by unfold mayTE; rw [mayT_no.2 (less_no hM)]; rfl
              have hye : mayTE (withNext t (great t.recs + 1)) = 0 := by unfold mayTE; rw [mayT_iff.2 (more_yes hM)]; rfl
              have hg0 := hgb.1
              have hg1 := hgb.2
              have TW := Lib.hid (fun z n (f : Frm [] W z) => (show TabV z (.slice av t.recs.length ac) vl (withNext t n) from HT.out z (F0.out.trans f (by simp))))
              have FW := Lib.hid (fun n => (⟨FT.out.recs, FT.out.lives, FT.out.all⟩ : FitT (withNext t n)))
              have HC1 := Lib.hid (fun z (f : Frm [] W z) => by have q := CheckT_any _ vl (withNext t (great t.recs)) z (TW.out z _ f) (FW.out _); rw [hno] at q; exact q)
              have HC2 := Lib.hid (fun z (f : Frm [] W z) => by have q := CheckT_any _ vl (withNext t (great t.recs + 1)) z (TW.out z _ f) (FW.out _); rw [hye] at q; exact q)
              have HV := Lib.hid (HT.out w (Frm.refl [] w)).ones
              clear hno hye hgb
              generalize great t.recs = gr at *
              go_upto_region 20 with (first
                | ((with_reducible (show wpList _ _ _ (Oper.mk _ (Op.load 27 (Operand.tmp 2)) _ _ _ _ :: _) _ _)); refine wpList_load_g (by rfl) 27 _ rfl _ rfl (LAt.out _ F.out) ?_)
                | (refine wpList_lay27 rfl rfl rfl (.tmp 15) (.tmp 107) rfl (vr := .slice av t.recs.length ac) (vl := vl) (t := t) HV.out.1 HV.out.2 rfl rfl ?_; intro V1 b1 g1))
              have c1 := b1.gets.next
              have z1 := b1.fz 0
              have SZ1 := Lib.hid b1.lt
              have B1 := Lib.hid (show TB (V1.setCell ⟨wr.heap.size, 0, none⟩ (.int .i64 gr)) wr.heap.size (.slice av t.recs.length ac) vl (withNext t gr) from b1.setNext gr)
              have G1 := Lib.hid (show Frm [] wr (V1.setCell ⟨wr.heap.size, 0, none⟩ (.int .i64 gr)) from g1.setCell _ _ (.inr (Nat.le_refl _)))
              clear b1
              go_upto_region 21 with (fail)
              clear c1 z1 g1
              generalize V1.setCell ⟨wr.heap.size, 0, none⟩ (.int .i64 gr) = V2 at *
              have F2 := Lib.hid (F.out.trans G1.out (by simp))
              go_upto_region 22 with (first
                | ((with_reducible (show wpList _ _ _ (Oper.mk _ (Op.load 27 (Operand.tmp 2)) _ _ _ _ :: _) _ _)); refine wpList_load_g (by rfl) 27 _ rfl _ rfl (LAt.out _ F2.out) ?_)
                | (refine wpList_lay27 rfl rfl rfl (.tmp 16) (.tmp 110) rfl (vr := .slice av t.recs.length ac) (vl := vl) (t := t) HV.out.1 HV.out.2 rfl rfl ?_; intro V3 b3 g3))
              have c3 := b3.gets.next
              have z3 := b3.fz 0
              have B1b := Lib.hid (B1.out.keep0 g3)
              have B3 := Lib.hid (show TB (V3.setCell ⟨V2.heap.size, 0, none⟩ (.int .i64 (gr + 1))) V2.heap.size (.slice av t.recs.length ac) vl (withNext t (gr + 1)) from b3.setNext (gr + 1))
              have G3 := Lib.hid (show Frm [] V2 (V3.setCell ⟨V2.heap.size, 0, none⟩ (.int .i64 (gr + 1))) from g3.setCell _ _ (.inr (Nat.le_refl _)))
              have hne : wr.heap.size < V2.heap.size := B1.out.lt
              have B1c := Lib.hid (B1b.out.keep ((Frm.refl [V2.heap.size] V3).setCell ⟨V2.heap.size, 0, none⟩ (.int .i64 (gr + 1)) (.inl (by simp))) (by simp; omega))
              clear b3 hne
              go_upto_region 23 with (fail)
              clear c3 z3 g3
              generalize V3.setCell ⟨V2.heap.size, 0, none⟩ (.int .i64 (gr + 1)) = V4 at *
              have F4 := Lib.hid (F2.out.trans G3.out (by simp))
              have L1 := Lib.hid (fun z (f : Frm [] V4 z) => (B1c.out.keep0 f).gets.all)
              have L3 := Lib.hid (fun z (f : Frm [] V4 z) => (B3.out.keep0 f).gets.all)
              clear B1 B1b B1c B3
              go_wp2_with (first
                | ((with_reducible (show wpList _ _ _ (Oper.mk _ (Op.load 27 (Operand.tmp 15)) _ _ _ _ :: _) _ _)); refine wpList_load_g (by rfl) 27 _ rfl _ rfl (L1.out _ (Frm.refl [] _)) ?_)
                | ((with_reducible (show wpList _ _ _ (Oper.mk _ (Op.load 27 (Operand.tmp 16)) _ _ _ _ :: _) _ _)); refine wpList_load_g (by rfl) 27 _ rfl _ rfl (L3.out _ h5) ?_)
                | (go_at_call 22; first | ((with_reducible refine (HC1.out _ F4.out).mono ?_); rintro r z5 ⟨rfl, h5⟩) | ((with_reducible refine (HC2.out _ (F4.out.trans h5 (by simp))).mono ?_); rintro r z6 ⟨rfl, h6⟩)))
              go_ret
              exact ⟨rfl, (F0.out.trans (F4.out.trans h5 (by simp)) (by simp)).trans h6 (by simp)⟩
        | true =>
          have hmu : mayTE u = 0 := (packT_yes hu).2
          have hps := HPS.out hm hu
          rw [hmu]
          rw [hps] at HSB
          clear hm hme hu hmu hsb hps
          go_upto_region 12 with (first
            | ((with_reducible (show wpList _ _ _ (Oper.mk (some 39) (Op.load 27 _) _ _ _ _ :: _) _ _)); refine wpList_load_g (by rfl) 27 _ rfl _ rfl (LAt.out _ F6.out) ?_)
            | ((with_reducible (show wpList _ _ _ (Oper.mk (some 40) (Op.load 27 _) _ _ _ _ :: _) _ _)); refine wpList_load_g (by rfl) 27 _ rfl _ rfl (LAu.out _ F6.out) ?_)
            | ((with_reducible (show wpList _ _ _ (Oper.mk (some 45) (Op.load 27 _) _ _ _ _ :: _) _ _)); refine wpList_load_g (by rfl) 27 _ rfl _ rfl (LAu.out _ F7) ?_)
            | ((with_reducible (show wpList _ _ _ (Oper.mk (some 46) (Op.load 27 _) _ _ _ _ :: _) _ _)); refine wpList_load_g (by rfl) 27 _ rfl _ rfl (LAt.out _ F7) ?_)
            | ((with_reducible (show wpList _ _ _ (Oper.mk (some 51) (Op.load 27 _) _ _ _ _ :: _) _ _)); refine wpList_load_g (by rfl) 27 _ rfl _ rfl (LAt.out _ F8) ?_)
            | ((with_reducible (show wpList _ _ _ (Oper.mk (some 52) (Op.load 27 _) _ _ _ _ :: _) _ _)); refine wpList_load_g (by rfl) 27 _ rfl _ rfl (LAt.out _ F8) ?_)
            | (go_at_call 27; refine (HKtu.out _ F6.out).mono ?_; rintro r w7 ⟨rfl, f7⟩; have F7 := F6.out.trans f7 (by simp))
            | (go_at_call 24; first | ((with_reducible refine (Hut.out _ F7).mono ?_); rintro r w8 ⟨rfl, f8⟩; have F8 := F7.trans f8 (by simp)) | ((with_reducible refine (Htt.out _ F8).mono ?_); rintro r w9 ⟨rfl, f9⟩; have F9 := F8.trans f9 (by simp)))
            | (go_at_call 21; refine (HSB.out _ ((f7.trans f8 (by simp)).trans f9 (by simp))).mono ?_; rintro r w10 ⟨rfl, rfl⟩))
          have F10 := Lib.hid F9
          clear F7 F8 F9 f7 f8 f9
          go_upto_region 13 with (fail)
          go_loopw [12, 11] (OneRel t.recs W) (fun c _ _ => t.recs.length - (intOf c).toNat)
          case atStart => exact ⟨0, Nat.zero_le _, rfl, rfl, F10.out⟩
          case round =>
            obtain ⟨k, hk, rfl, rfl, hF⟩ := hrel
            have F := Lib.hid hF
            have d1 := (BT.out.keep0 hF).gets.recs
            have hl9 : (t.recs.length : Int) ≤ 20 := by have := ST.out.1; omega
            clear hF
            by_cases hlt : k < t.recs.length
            · have hlt9 : (k : Int) < (t.recs.length : Int) := by omega
              have RW := HT.out wr (F0.out.trans F.out (by simp))
              obtain ⟨b, off, cp, e⟩ := RW.1.at (by omega)
              injection e with e1 e2 e3
              subst e1; subst e3
              obtain ⟨xa, xc, HG0⟩ := RW.1.getsF k hlt
              have HG := Lib.hid (fun z f => (HG0 z f).1)
              have hfn : fndV (t.recs[k]).name t.recs = .tuple #[.int .i64 k, .bool true] := by unfold fndV; rw [fnd_own hM (List.getElem?_eq_getElem hlt)]
              have TK := Lib.hid (show great (t.recs.take (k + 1)) = max (great (t.recs.take k)) (t.recs[k]).id from by rw [List.take_succ_eq_append_getElem hlt, great_snoc])
              have HFD := Lib.hid (fun z (f : Frm [] W z) => by have q := FindP_any _ vl t (t.recs[k]).name z (HT.out z (F0.out.trans f (by simp))).1 FT.out.recs; rw [hfn] at q; exact q)
              have HBX := Lib.hid (fun z (f : Frm [] wr z) => (BT.out.keep0 (F.out.trans f (by simp))).gets)
              have LAw := Lib.hid (fun z (f : Frm [] wr z) => LAt.out z (F.out.trans f (by simp)))
              clear RW HG0 hfn
              generalize t.recs[k] = x at *
              generalize great (t.recs.take k) = gr at *
              go_upto_region 15 with (fail)
              refine wp_region_held_drew (S := fun z => Frm [] wr z) (by kernel_rfl) ((Frm.refl [] wr).drew) (fun hHeld => ?_)
              refine wpAnyH_take (i := 0) (oi := ⟨some 82, .load 27 (.tmp 2), _, _, _, none⟩) rfl (by kernel_rfl) (by kernel_rfl) (by kernel_rfl) (fun _ _ _ h => h) (yieldsIf_ld (by rfl) 27 _ rfl _ rfl (fun z hSw => LAw.out z hSw)) hHeld ?_
              try simp only [Act.put, List.setIfInBounds_toArray, List.set_cons_zero, List.set_cons_succ]
              refine wpAnyH_take (i := 1) (oi := ⟨some 83, .fieldAddr 27 (.tmp 2) 1, _, _, _, none⟩) (v := ?_) rfl (by kernel_rfl) (by kernel_rfl) (by kernel_rfl) (fun _ _ _ h => h) (Or.inl ⟨by rfl, ?_⟩) hHeld ?_
              rotate_left
              focus (intro z hSw; clear hSw; go_simp; try with_reducible rfl)
              try simp only [Act.put, List.setIfInBounds_toArray, List.set_cons_zero, List.set_cons_succ]
              refine wpAnyH_take (i := 2) (oi := ⟨some 84, .load 22 (.tmp 83), _, _, _, none⟩) (v := ?_) rfl (by kernel_rfl) (by kernel_rfl) (by kernel_rfl) (fun _ _ _ h => h) (Or.inl ⟨by rfl, ?_⟩) hHeld ?_
              rotate_left
              focus (intro z hSw; have q1 := (HBX.out z hSw).recs; have q2 := (HG.out z hSw).name; clear hSw; go_simp; try with_reducible rfl)
              try simp only [Act.put, List.setIfInBounds_toArray, List.set_cons_zero, List.set_cons_succ]
              refine wpAnyH_take (i := 3) (oi := ⟨some 85, .move (.tmp 12), _, _, _, none⟩) (v := ?_) rfl (by kernel_rfl) (by kernel_rfl) (by kernel_rfl) (fun _ _ _ h => h) (Or.inl ⟨by rfl, ?_⟩) hHeld ?_
              rotate_left
              focus (intro z hSw; clear hSw; go_simp; try with_reducible rfl)
              try simp only [Act.put, List.setIfInBounds_toArray, List.set_cons_zero, List.set_cons_succ]
              refine wpAnyH_take (i := 4) (oi := ⟨some 86, .indexAddr 22 (.tmp 84) (.tmp 85), _, _, _, none⟩) (v := ?_) rfl (by kernel_rfl) (by kernel_rfl) (by kernel_rfl) (fun _ _ _ h => h) (Or.inl ⟨by rfl, ?_⟩) hHeld ?_
              rotate_left
              focus (intro z hSw; clear hSw; go_simp; try with_reducible rfl)
              try simp only [Act.put, List.setIfInBounds_toArray, List.set_cons_zero, List.set_cons_succ]
              refine wpAnyH_take (i := 5) (oi := ⟨some 87, .fieldAddr 56 (.tmp 86) 1, _, _, _, none⟩) (v := ?_) rfl (by kernel_rfl) (by kernel_rfl) (by kernel_rfl) (fun _ _ _ h => h) (Or.inl ⟨by rfl, ?_⟩) hHeld ?_
              rotate_left
              focus (intro z hSw; clear hSw; go_simp; try with_reducible rfl)
              try simp only [Act.put, List.setIfInBounds_toArray, List.set_cons_zero, List.set_cons_succ]
              refine wpAnyH_take (i := 6) (oi := ⟨some 88, .load 9 (.tmp 87), _, _, _, none⟩) (v := ?_) rfl (by kernel_rfl) (by kernel_rfl) (by kernel_rfl) (fun _ _ _ h => h) (Or.inl ⟨by rfl, ?_⟩) hHeld ?_
              rotate_left
              focus (intro z hSw; have q1 := (HBX.out z hSw).recs; have q2 := (HG.out z hSw).name; clear hSw; go_simp; try with_reducible rfl)
              try simp only [Act.put, List.setIfInBounds_toArray, List.set_cons_zero, List.set_cons_succ]
              refine wpAnyH_ready (rs := [7]) (by kernel_rfl) (by simp) ?_
              refine AllReadyH.cons (o := ⟨some 89, .call { callee := .value (.func 19), args := #[.tmp 82, .tmp 88], argTypes := #[27, 9] }, _, _, _, none⟩) rfl (fun K hK => ?_) AllReadyH.nil
              go_simp
              refine (HFD.out _ (F.out.trans hHeld (by simp))).mono ?_
              rintro r wn ⟨rfl, fn⟩
              refine hK.out _ _ ?_ (fun hNext => ?_)
              · exact hHeld.trans fn (by simp)
              clear hK K hHeld
              have hHeld := hNext
              clear hNext
              try simp only [Act.put, List.setIfInBounds_toArray, List.set_cons_zero, List.set_cons_succ]
              refine wpAnyH_take (i := 8) (oi := ⟨some 81, .move (.tmp 89), _, _, _, none⟩) (v := ?_) rfl (by kernel_rfl) (by kernel_rfl) (by kernel_rfl) (fun _ _ _ h => h) (Or.inl ⟨by rfl, ?_⟩) hHeld ?_
              rotate_left
              focus (intro z hSw; clear hSw; go_simp; try with_reducible rfl)
              try simp only [Act.put, List.setIfInBounds_toArray, List.set_cons_zero, List.set_cons_succ]
              refine wpAnyH_take (i := 9) (oi := ⟨some 90, .extract (.tmp 81) 0, _, _, _, none⟩) (v := ?_) rfl (by kernel_rfl) (by kernel_rfl) (by kernel_rfl) (fun _ _ _ h => h) (Or.inl ⟨by rfl, ?_⟩) hHeld ?_
              rotate_left
              focus (intro z hSw; clear hSw; go_simp; try with_reducible rfl)
              try simp only [Act.put, List.setIfInBounds_toArray, List.set_cons_zero, List.set_cons_succ]
              refine wpAnyH_take (i := 10) (oi := ⟨some 91, .extract (.tmp 81) 1, _, _, _, none⟩) (v := ?_) rfl (by kernel_rfl) (by kernel_rfl) (by kernel_rfl) (fun _ _ _ h => h) (Or.inl ⟨by rfl, ?_⟩) hHeld ?_
              rotate_left
              focus (intro z hSw; clear hSw; go_simp; try with_reducible rfl)
              try simp only [Act.put, List.setIfInBounds_toArray, List.set_cons_zero, List.set_cons_succ]
              refine wpAnyH_take (i := 11) (oi := ⟨some 13, .assign (.tmp 90), _, _, _, none⟩) (v := ?_) rfl (by kernel_rfl) (by kernel_rfl) (by kernel_rfl) (fun _ _ _ h => h) (Or.inl ⟨by rfl, ?_⟩) hHeld ?_
              rotate_left
              focus (intro z hSw; clear hSw; go_simp; try with_reducible rfl)
              try simp only [Act.put, List.setIfInBounds_toArray, List.set_cons_zero, List.set_cons_succ]
              refine wpAnyH_take (i := 12) (oi := ⟨some 14, .assign (.tmp 91), _, _, _, none⟩) (v := ?_) rfl (by kernel_rfl) (by kernel_rfl) (by kernel_rfl) (fun _ _ _ h => h) (Or.inl ⟨by rfl, ?_⟩) hHeld ?_
              rotate_left
              focus (intro z hSw; clear hSw; go_simp; try with_reducible rfl)
              try simp only [Act.put, List.setIfInBounds_toArray, List.set_cons_zero, List.set_cons_succ]
              refine wpAnyH_done (by kernel_rfl) ?_ _
              have q1 := (HBX.out _ hHeld).recs
              have q2 := (HG.out _ hHeld).id
              have FH := Lib.hid hHeld
              clear hHeld d1
              go_wp2_with (fail)
              go_roundw
              case rel => exact ⟨k + 1, by omega, by go_num, by rw [TK.out], F.out.trans FH.out (by simp)⟩
              case measure => simp [intOf]; omega
            · obtain rfl : k = t.recs.length := by omega
              rw [List.take_length]
              have hgb : 0 ≤ great t.recs ∧ great t.recs ≤ 2147483647 := by
                refine ⟨(great_le t.recs 0).1, ?_⟩
                rcases great_mem t.recs 0 with h | ⟨x, hx, h⟩
                · unfold great; rw [h]; decide
                · have := hM.one hx
                  unfold mayR at this
                  simp only [Bool.and_eq_true, wi_iff] at this
                  unfold great; rw [← h]; exact this.1.1.2
              have hno : mayTE (withNext t (great t.recs)) = 2 := by unfold mayTE; rw [mayT_no.2 (less_no hM)]; rfl
              have hye : mayTE (withNext t (great t.recs + 1)) = 0 := by unfold mayTE; rw [mayT_iff.2 (more_yes hM)]; rfl
              have hg0 := hgb.1
              have hg1 := hgb.2
              have TW := Lib.hid (fun z n (f : Frm [] W z) => (show TabV z (.slice av t.recs.length ac) vl (withNext t n) from HT.out z (F0.out.trans f (by simp))))
              have FW := Lib.hid (fun n => (⟨FT.out.recs, FT.out.lives, FT.out.all⟩ : FitT (withNext t n)))
              have HC1 := Lib.hid (fun z (f : Frm [] W z) => by have q := CheckT_any _ vl (withNext t (great t.recs)) z (TW.out z _ f) (FW.out _); rw [hno] at q; exact q)
              have HC2 := Lib.hid (fun z (f : Frm [] W z) => by have q := CheckT_any _ vl (withNext t (great t.recs + 1)) z (TW.out z _ f) (FW.out _); rw [hye] at q; exact q)
              have HV := Lib.hid (HT.out w (Frm.refl [] w)).ones
              clear hno hye hgb
              generalize great t.recs = gr at *
              go_upto_region 20 with (first
                | ((with_reducible (show wpList _ _ _ (Oper.mk _ (Op.load 27 (Operand.tmp 2)) _ _ _ _ :: _) _ _)); refine wpList_load_g (by rfl) 27 _ rfl _ rfl (LAt.out _ F.out) ?_)
                | (refine wpList_lay27 rfl rfl rfl (.tmp 15) (.tmp 107) rfl (vr := .slice av t.recs.length ac) (vl := vl) (t := t) HV.out.1 HV.out.2 rfl rfl ?_; intro V1 b1 g1))
              have c1 := b1.gets.next
              have z1 := b1.fz 0
              have SZ1 := Lib.hid b1.lt
              have B1 := Lib.hid (show TB (V1.setCell ⟨wr.heap.size, 0, none⟩ (.int .i64 gr)) wr.heap.size (.slice av t.recs.length ac) vl (withNext t gr) from b1.setNext gr)
              have G1 := Lib.hid (show Frm [] wr (V1.setCell ⟨wr.heap.size, 0, none⟩ (.int .i64 gr)) from g1.setCell _ _ (.inr (Nat.le_refl _)))
              clear b1
              go_upto_region 21 with (fail)
              clear c1 z1 g1
              generalize V1.setCell ⟨wr.heap.size, 0, none⟩ (.int .i64 gr) = V2 at *
              have F2 := Lib.hid (F.out.trans G1.out (by simp))
              go_upto_region 22 with (first
                | ((with_reducible (show wpList _ _ _ (Oper.mk _ (Op.load 27 (Operand.tmp 2)) _ _ _ _ :: _) _ _)); refine wpList_load_g (by rfl) 27 _ rfl _ rfl (LAt.out _ F2.out) ?_)
                | (refine wpList_lay27 rfl rfl rfl (.tmp 16) (.tmp 110) rfl (vr := .slice av t.recs.length ac) (vl := vl) (t := t) HV.out.1 HV.out.2 rfl rfl ?_; intro V3 b3 g3))
              have c3 := b3.gets.next
              have z3 := b3.fz 0
              have B1b := Lib.hid (B1.out.keep0 g3)
              have B3 := Lib.hid (show TB (V3.setCell ⟨V2.heap.size, 0, none⟩ (.int .i64 (gr + 1))) V2.heap.size (.slice av t.recs.length ac) vl (withNext t (gr + 1)) from b3.setNext (gr + 1))
              have G3 := Lib.hid (show Frm [] V2 (V3.setCell ⟨V2.heap.size, 0, none⟩ (.int .i64 (gr + 1))) from g3.setCell _ _ (.inr (Nat.le_refl _)))
              have hne : wr.heap.size < V2.heap.size := B1.out.lt
              have B1c := Lib.hid (B1b.out.keep ((Frm.refl [V2.heap.size] V3).setCell ⟨V2.heap.size, 0, none⟩ (.int .i64 (gr + 1)) (.inl (by simp))) (by simp; omega))
              clear b3 hne
              go_upto_region 23 with (fail)
              clear c3 z3 g3
              generalize V3.setCell ⟨V2.heap.size, 0, none⟩ (.int .i64 (gr + 1)) = V4 at *
              have F4 := Lib.hid (F2.out.trans G3.out (by simp))
              have L1 := Lib.hid (fun z (f : Frm [] V4 z) => (B1c.out.keep0 f).gets.all)
              have L3 := Lib.hid (fun z (f : Frm [] V4 z) => (B3.out.keep0 f).gets.all)
              clear B1 B1b B1c B3
              go_wp2_with (first
                | ((with_reducible (show wpList _ _ _ (Oper.mk _ (Op.load 27 (Operand.tmp 15)) _ _ _ _ :: _) _ _)); refine wpList_load_g (by rfl) 27 _ rfl _ rfl (L1.out _ (Frm.refl [] _)) ?_)
                | ((with_reducible (show wpList _ _ _ (Oper.mk _ (Op.load 27 (Operand.tmp 16)) _ _ _ _ :: _) _ _)); refine wpList_load_g (by rfl) 27 _ rfl _ rfl (L3.out _ h5) ?_)
                | (go_at_call 22; first | ((with_reducible refine (HC1.out _ F4.out).mono ?_); rintro r z5 ⟨rfl, h5⟩) | ((with_reducible refine (HC2.out _ (F4.out.trans h5 (by simp))).mono ?_); rintro r z6 ⟨rfl, h6⟩)))
              go_ret
              exact ⟨rfl, (F0.out.trans (F4.out.trans h5 (by simp)) (by simp)).trans h6 (by simp)⟩
end Go.Proofs.YtljhanhipmnioaaGreat.Rd
