/-
  Same of tables. No conditions but those that each theorem names. Dir, the laws: DirBack. No conditions but those that each theorem names.
-/
import Derived.Test.YtljhanhipmnioaaGreatDBa1
import Derived.Test.YtljhanhipmnioaaGreatDBa2
import Derived.Test.YtljhanhipmnioaaGreatDBa3
import Derived.Test.YtljhanhipmnioaaGreatDBa4
import Derived.Test.YtljhanhipmnioaaGreatDBa5
import Derived.Test.YtljhanhipmnioaaGreatDBa6
import Derived.Test.YtljhanhipmnioaaGreatDBa7
import Derived.Test.YtljhanhipmnioaaGreatDBa8
import Derived.Test.YtljhanhipmnioaaGreatDBa9
import Derived.Test.YtljhanhipmnioaaGreatDBa10
import Derived.Test.YtljhanhipmnioaaGreatDBa11
import Derived.OrdersHeld
import Derived.WalkKit
import Derived.WalkSpells
import Derived.WalkLawsBesides
import Derived.Deep.AppendSrc
import Derived.Laws.CopyOwn
import Derived.Laws.BytesArg
import Derived.Carry
import Derived.Laws.BytesString
import Derived.Deep.SlicePairs
import Derived.Deep.Cut
import Derived.Lib.Hide
import Derived.Test.YtljhanhipmnioaaGreatChecked
import Derived.ChangeKeysEq
import Derived.Deep.MidRow
import Derived.Deep.RegionHeld3
import Derived.OpenShut
import Derived.WalkHide
import Derived.IntWalk
import Derived.StillTailTactics
import Derived.Deep.RegionLaw
import Derived.Deep.RegionWith
import Derived.Deep.QuietTactic
import Derived.BigQuiet
import Derived.Deep.CutBlock
import Derived.Deep.DeepCutAuto
import Derived.Deep.Slices
import Derived.Defers
import Derived.Recover
import Derived.Deep.WholeRow
import Derived.Deep.Strs
import Derived.ChangeSame
import Derived.Lib.Bytealg
import Derived.Lib.TrimUEq
import Derived.Lib.MinMaxS
import Derived.LaidEqlPtr
import Derived.Lib.OthersKept
import Derived.Deep.Draws
import Derived.WalkMore
import Derived.Deep.LoopGhost
import Derived.Lib.BufferWrite
import Derived.Lib.UnsafeStr
import Derived.Laws.MakeOwn
import Derived.Laws.Strings3
import Derived.BigRegion
import Derived.Lib.Walk
import Derived.Great.Walk
import Derived.Lib.SliceRun
import Derived.Deep.RegionHeld
import Derived.Laws.OwnMore
import Derived.Lib.AppendZerosOnto
import Derived.Lib.Overlaps
namespace Go.Proofs.YtljhanhipmnioaaGreat.Rd
open Go.RowKit
set_option linter.unusedVariables false
set_option linter.unusedSimpArgs false
set_option maxRecDepth 100000

open Pt (Pt may enc zeroPt be4 be1 pc pv PtV SlA OwnA BT wpList_load_g heap_alloc_at Ext Grew yieldsIf_ld)
open Kr (OwnE SlE Enco RowTys)

set_option maxHeartbeats 4000000 in
theorem Same_any (vr vl xr xl : Value) (t u : Tab) (w : World) (h : TabV w vr vl t) (k : TabV w xr xl u) (hf : FitT t) :
    Calls Tryz.prog 24 #[tv vr vl t, tv xr xl u] w fun e w' => e = .returned (.bool (sameT t u)) ∧ Frm [] w w' := by
  obtain ⟨h1, sp, h2⟩ := h
  obtain ⟨k1, sp2, k2⟩ := k
  have HE := Lib.hid (fun z (f : Frm [] w z) => EqualFunc_any vr xr t.recs u.recs z (h1.keep0 f) (k1.keep0 f) hf.recs hf.all)
  have HI := Lib.hid (fun z (f : Frm [] w z) => EqualI_any vl xl t.lives u.lives sp sp2 z (h2.keep0 f) (k2.keep0 f) (by have := hf.lives; omega))
  unfold sameT
  generalize all2 sameR t.recs u.recs = sr at *
  generalize (t.lives == u.lives) = si at *
  have hq := cur_eql t.cur u.cur
  have hg := cur_guard .eql
  clear h1 h2 k1 k2 hf

  unfold tv
  have f0 : Frm [] w (w.alloc (.cells (tc vr vl t).toArray 27)) := (Frm.refl [] w).alloc _
  have B := Lib.hid (TB.new w vr vl t)
  generalize (tc vr vl t).toArray = A at *
  have f1 : Frm [] w ((w.alloc (.cells A 27)).alloc (.cells (tc xr xl u).toArray 27)) := f0.alloc _
  have B1 := Lib.hid (B.out.keep0 ((Frm.refl [] _).alloc (.cells (tc xr xl u).toArray 27)))
  have B2 := Lib.hid (TB.new (w.alloc (.cells A 27)) xr xl u)
  rw [show (w.alloc (.cells A 27)).heap.size = w.heap.size + 1 by simp] at B2
  generalize (tc xr xl u).toArray = A2 at *
  have HB1 := Lib.hid (fun z (f : Frm [] ((w.alloc (.cells A 27)).alloc (.cells A2 27)) z) => (B1.out.keep0 f).gets)
  have HB2 := Lib.hid (fun z (f : Frm [] ((w.alloc (.cells A 27)).alloc (.cells A2 27)) z) => (B2.out.keep0 f).gets)
  have F := Lib.hid f1
  clear f0 f1 B
  have G1 := HB1.out _ (Frm.refl _ _)
  have G2 := HB2.out _ (Frm.refl _ _)
  have a0 := G1.next
  have b0 := G2.next
  have a1 := G1.recs
  have b1 := G2.recs

  clear G1 G2 B1 B2
  generalize curEq t.cur u.cur = sc at *
  go_enter Tryz.func24, Tryz.ntmps24
  go_upto_region 1 with (fail)
  generalize w.heap.size = g at *
  generalize (w.alloc (.cells A 27)).alloc (.cells A2 27) = W at *
  go_wp2_with (first
    | ((with_reducible (show wpList _ _ _ (Oper.mk (some 19) (Op.load 24 _) _ _ _ _ :: _) _ _)); refine wpList_load_g (by rfl) 24 _ rfl _ rfl (HB1.out _ f1).cur ?_)
    | ((with_reducible (show wpList _ _ _ (Oper.mk (some 21) (Op.load 24 _) _ _ _ _ :: _) _ _)); refine wpList_load_g (by rfl) 24 _ rfl _ rfl (HB2.out _ f1).cur ?_)
    | (go_at_call 72; refine (HE.out _ F.out).mono ?_; rintro e w1 ⟨rfl, f1⟩; have c6 := (HB1.out _ f1).lives; have d6 := (HB2.out _ f1).lives)
    | (go_at_call 74; refine (HI.out _ (F.out.trans f1 (by simp))).mono ?_; rintro e w2 ⟨rfl, f2⟩))
  all_goals go_ret
  all_goals first
    | exact ⟨by simp_all, (F.out.trans f1 (by simp)).trans f2 (by simp)⟩
    | exact ⟨by simp_all, F.out.trans f1 (by simp)⟩
    | exact ⟨by simp_all, F.out⟩

set_option maxHeartbeats 4000000 in
theorem SameTable_any (vr vl xr xl : Value) (t u : Tab) (w : World) (h : TabV w vr vl t) (k : TabV w xr xl u) (hf : FitT t) :
    Calls Tryz.prog 27 #[tv vr vl t, tv xr xl u] w fun e w' => e = .returned (.bool (sameT t u)) ∧ Frm [] w w' := by
  obtain ⟨h1, sp, h2⟩ := h
  obtain ⟨k1, sp2, k2⟩ := k
  have HI := Lib.hid (fun z (f : Frm [] w z) => SameInts_any vl xl t.lives u.lives sp sp2 z (h2.keep0 f) (k2.keep0 f) (by have := hf.lives; omega))
  have HF := Lib.hid hf
  have H1 := Lib.hid h1
  have K1 := Lib.hid k1
  have H2 := Lib.hid h2
  have K2 := Lib.hid k2
  have hl9 : (t.recs.length : Int) ≤ 1000 := by have := hf.recs; omega
  have hm9 : (t.lives.length : Int) ≤ 1000 := by have := hf.lives; omega
  obtain ⟨av, ac, rfl⟩ := h1.form
  obtain ⟨bv, bc, rfl⟩ := k1.form
  obtain ⟨lv, lc, rfl, _, _⟩ := h2.form
  obtain ⟨mv, mc, rfl, _, _⟩ := k2.form
  have hq := cur_neq t.cur u.cur
  have hg := cur_guard .neq
  clear h1 h2 k1 k2 hf

  unfold tv
  have f0 : Frm [] w (w.alloc (.cells (tc (.slice av t.recs.length ac) (.slice lv t.lives.length lc) t).toArray 27)) := (Frm.refl [] w).alloc _
  have B := Lib.hid (TB.new w (.slice av t.recs.length ac) (.slice lv t.lives.length lc) t)
  generalize (tc (.slice av t.recs.length ac) (.slice lv t.lives.length lc) t).toArray = A at *
  have f1 : Frm [] w ((w.alloc (.cells A 27)).alloc (.cells (tc (.slice bv u.recs.length bc) (.slice mv u.lives.length mc) u).toArray 27)) := f0.alloc _
  have B1 := Lib.hid (B.out.keep0 ((Frm.refl [] _).alloc (.cells (tc (.slice bv u.recs.length bc) (.slice mv u.lives.length mc) u).toArray 27)))
  have B2 := Lib.hid (TB.new (w.alloc (.cells A 27)) (.slice bv u.recs.length bc) (.slice mv u.lives.length mc) u)
  rw [show (w.alloc (.cells A 27)).heap.size = w.heap.size + 1 by simp] at B2
  generalize (tc (.slice bv u.recs.length bc) (.slice mv u.lives.length mc) u).toArray = A2 at *
  have HB1 := Lib.hid (fun z (f : Frm [] ((w.alloc (.cells A 27)).alloc (.cells A2 27)) z) => (B1.out.keep0 f).gets)
  have HB2 := Lib.hid (fun z (f : Frm [] ((w.alloc (.cells A 27)).alloc (.cells A2 27)) z) => (B2.out.keep0 f).gets)
  have F := Lib.hid f1
  clear f0 f1 B
  have G1 := HB1.out _ (Frm.refl _ _)
  have G2 := HB2.out _ (Frm.refl _ _)
  have a0 := G1.next
  have b0 := G2.next
  have a1 := G1.recs
  have b1 := G2.recs

  have a6 := G1.lives
  have b6 := G2.lives
  have CA := Lib.hid G1.cur
  have CB := Lib.hid G2.cur
  clear G1 G2 B1 B2
  unfold sameT
  by_cases q0 : t.next = u.next
  rotate_left
  · have e0 : (t.next == u.next) = false := by simpa using q0
    have e1 : (t.next != u.next) = true := by simpa [bne] using q0
    rw [e0]
    clear q0 e0
    go_enter Tryz.func27, Tryz.ntmps27
    go_upto_region 1 with (fail)
    generalize w.heap.size = g at *
    generalize (w.alloc (.cells A 27)).alloc (.cells A2 27) = W at *
    go_wp2_with (first
          | ((with_reducible (show wpList _ _ _ (Oper.mk (some 13) (Op.load 24 _) _ _ _ _ :: _) _ _)); refine wpList_load_g (by rfl) 24 _ rfl _ rfl CA.out ?_)
          | ((with_reducible (show wpList _ _ _ (Oper.mk (some 15) (Op.load 24 _) _ _ _ _ :: _) _ _)); refine wpList_load_g (by rfl) 24 _ rfl _ rfl CB.out ?_)
          | (go_at_call 76; refine (HI.out _ F.out).mono ?_; rintro e w1 ⟨rfl, f1⟩))
    go_ret
    exact ⟨by simp_all, F.out⟩
  have e0 : (t.next == u.next) = true := by simpa using q0
  have e0' : (t.next != u.next) = false := by simpa [bne] using q0
  clear q0
  cases q1 : curEq t.cur u.cur with
  | false =>
    rw [q1] at hq
    rw [e0]
    clear e0
    go_enter Tryz.func27, Tryz.ntmps27
    go_upto_region 1 with (fail)
    generalize w.heap.size = g at *
    generalize (w.alloc (.cells A 27)).alloc (.cells A2 27) = W at *
    go_wp2_with (first
          | ((with_reducible (show wpList _ _ _ (Oper.mk (some 13) (Op.load 24 _) _ _ _ _ :: _) _ _)); refine wpList_load_g (by rfl) 24 _ rfl _ rfl CA.out ?_)
          | ((with_reducible (show wpList _ _ _ (Oper.mk (some 15) (Op.load 24 _) _ _ _ _ :: _) _ _)); refine wpList_load_g (by rfl) 24 _ rfl _ rfl CB.out ?_)
          | (go_at_call 76; refine (HI.out _ F.out).mono ?_; rintro e w1 ⟨rfl, f1⟩))
    go_ret
    exact ⟨by simp_all, F.out⟩
  | true =>
    rw [q1] at hq
    by_cases q2 : t.recs.length = u.recs.length
    rotate_left
    · have e2 : (((t.recs.length : Nat) : Int) != ((u.recs.length : Nat) : Int)) = true := by simp [bne]; omega
      rw [e0, all2_len q2]
      clear q2 e0
      go_enter Tryz.func27, Tryz.ntmps27
      go_upto_region 1 with (fail)
      generalize w.heap.size = g at *
      generalize (w.alloc (.cells A 27)).alloc (.cells A2 27) = W at *
      go_wp2_with (first
            | ((with_reducible (show wpList _ _ _ (Oper.mk (some 13) (Op.load 24 _) _ _ _ _ :: _) _ _)); refine wpList_load_g (by rfl) 24 _ rfl _ rfl CA.out ?_)
            | ((with_reducible (show wpList _ _ _ (Oper.mk (some 15) (Op.load 24 _) _ _ _ _ :: _) _ _)); refine wpList_load_g (by rfl) 24 _ rfl _ rfl CB.out ?_)
            | (go_at_call 76; refine (HI.out _ F.out).mono ?_; rintro e w1 ⟨rfl, f1⟩))
      go_ret
      exact ⟨by simp_all, F.out⟩
    have e2 : (((t.recs.length : Nat) : Int) != ((u.recs.length : Nat) : Int)) = false := by simp [bne]; omega
    have QL := Lib.hid q2
    clear q2
    cases q3 : (t.lives == u.lives) with
    | false =>
      rw [q3] at HI
      clear q3 e0
      go_enter Tryz.func27, Tryz.ntmps27
      go_upto_region 1 with (fail)
      generalize w.heap.size = g at *
      generalize (w.alloc (.cells A 27)).alloc (.cells A2 27) = W at *
      go_wp2_with (first
            | ((with_reducible (show wpList _ _ _ (Oper.mk (some 13) (Op.load 24 _) _ _ _ _ :: _) _ _)); refine wpList_load_g (by rfl) 24 _ rfl _ rfl CA.out ?_)
            | ((with_reducible (show wpList _ _ _ (Oper.mk (some 15) (Op.load 24 _) _ _ _ _ :: _) _ _)); refine wpList_load_g (by rfl) 24 _ rfl _ rfl CB.out ?_)
            | (go_at_call 76; refine (HI.out _ F.out).mono ?_; rintro e w1 ⟨rfl, f1⟩))
      go_ret
      exact ⟨by simp, F.out.trans f1 (by simp)⟩
    | true =>
      rw [q3] at HI
      rw [e0]
      clear q3 e0
      simp only [Bool.true_and, Bool.and_true]
      go_enter Tryz.func27, Tryz.ntmps27
      go_upto_region 1 with (fail)
      generalize w.heap.size = g at *
      generalize (w.alloc (.cells A 27)).alloc (.cells A2 27) = W at *
      go_upto_region 4 with (first
            | ((with_reducible (show wpList _ _ _ (Oper.mk (some 13) (Op.load 24 _) _ _ _ _ :: _) _ _)); refine wpList_load_g (by rfl) 24 _ rfl _ rfl CA.out ?_)
            | ((with_reducible (show wpList _ _ _ (Oper.mk (some 15) (Op.load 24 _) _ _ _ _ :: _) _ _)); refine wpList_load_g (by rfl) 24 _ rfl _ rfl CB.out ?_)
            | (go_at_call 76; refine (HI.out _ F.out).mono ?_; rintro e w1 ⟨rfl, f1⟩))
      have FB := Lib.hid f1
      clear f1
      go_loopw [5] (A2Rel sameR t.recs u.recs W) (fun c _ => t.recs.length - (intOf c).toNat)
      case atStart => exact ⟨0, Nat.zero_le _, rfl, fun j _ _ hj => by omega, FB.out⟩
      case round =>
        obtain ⟨k, hk, rfl, hz, f⟩ := hrel
        have HZ := Lib.hid hz
        have FW := Lib.hid f
        have c1 := (HB1.out _ f).recs
        have d1 := (HB2.out _ f).recs
        have XA := Lib.hid (fun z (fz : Frm [] wr z) => (HB1.out _ (f.trans fz (by simp))).recs)
        have XB := Lib.hid (fun z (fz : Frm [] wr z) => (HB2.out _ (f.trans fz (by simp))).recs)
        clear hz f a0 b0 a1 b1 a6 b6
        by_cases hkl : k < t.recs.length
        · have hkm : k < u.recs.length := by have := QL.out; omega
          have hkl9 : (k : Int) < (t.recs.length : Int) := by omega
          have hkm9 : (k : Int) < (u.recs.length : Int) := by omega
          obtain ⟨pb, po, pc', e1⟩ := H1.out.at (by omega)
          obtain ⟨rb, ro, rc', e2⟩ := K1.out.at (by omega)
          injection e1 with e1 e1' e1''
          injection e2 with e2 e2' e2''
          subst e1 e2
          have fw : Frm [] w wr := F.out.trans FW.out (by simp)
          obtain ⟨xa, xc, GV1⟩ := (H1.out.keep0 fw).getsF k hkl
          obtain ⟨ya, yc, GV2⟩ := (K1.out.keep0 fw).getsF k hkm
          have L1 := Lib.hid (fun z (f : Frm [] wr z) => (GV1 z f).1.all)
          have L2 := Lib.hid (fun z (f : Frm [] wr z) => (GV2 z f).1.all)
          have HC := Lib.hid (fun z (f : Frm [] wr z) => SameRecord_any _ _ _ _ z (GV1 z f).2 (GV2 z f).2 (HF.out.all _ (List.getElem_mem hkl)))
          have HM := Lib.hid (fun (hb : sameR t.recs[k] u.recs[k] = true) => a2_more HZ.out hkl hkm hb)
          have HNO := Lib.hid (fun (hb : sameR t.recs[k] u.recs[k] = false) => all2_no (f := sameR) hkl hkm hb)
          generalize sameR t.recs[k] u.recs[k] = sb at *
          clear GV1 GV2 fw e1' e1'' e2' e2''
          generalize t.recs[k] = x at *
          generalize u.recs[k] = y at *
          generalize rv (.slice xa x.root.ads.length xc) x = ux at *
          generalize rv (.slice ya y.root.ads.length yc) y = uy at *
          go_wp2_with fail
          refine wp_region_held_drew (S := fun z => Frm [] wr z) (by kernel_rfl) ((Frm.refl [] wr).drew) (fun hHeld => ?_)
          refine wpAnyH_take (i := 0) (oi := ⟨some 42, .fieldAddr 27 (.tmp 2) 1, _, _, _, none⟩) (v := ?_) rfl (by kernel_rfl) (by kernel_rfl) (by kernel_rfl) (fun _ _ _ h => h) (Or.inl ⟨by rfl, ?_⟩) hHeld ?_
          rotate_left
          focus (intro z hSw; clear hSw; go_simp; try with_reducible rfl)
          try simp only [Act.put, List.setIfInBounds_toArray, List.set_cons_zero, List.set_cons_succ]
          refine wpAnyH_take (i := 1) (oi := ⟨some 43, .load 22 (.tmp 42), _, _, _, none⟩) (v := ?_) rfl (by kernel_rfl) (by kernel_rfl) (by kernel_rfl) (fun _ _ _ h => h) (Or.inl ⟨by rfl, ?_⟩) hHeld ?_
          rotate_left
          focus (intro z hSw; have ct := XA.out z hSw; have cq := XB.out z hSw; clear hSw; go_simp; try with_reducible rfl)
          try simp only [Act.put, List.setIfInBounds_toArray, List.set_cons_zero, List.set_cons_succ]
          refine wpAnyH_take (i := 2) (oi := ⟨some 44, .move (.tmp 5), _, _, _, none⟩) (v := ?_) rfl (by kernel_rfl) (by kernel_rfl) (by kernel_rfl) (fun _ _ _ h => h) (Or.inl ⟨by rfl, ?_⟩) hHeld ?_
          rotate_left
          focus (intro z hSw; clear hSw; go_simp; try with_reducible rfl)
          try simp only [Act.put, List.setIfInBounds_toArray, List.set_cons_zero, List.set_cons_succ]
          refine wpAnyH_take (i := 3) (oi := ⟨some 45, .indexAddr 22 (.tmp 43) (.tmp 44), _, _, _, none⟩) (v := ?_) rfl (by kernel_rfl) (by kernel_rfl) (by kernel_rfl) (fun _ _ _ h => h) (Or.inl ⟨by rfl, ?_⟩) hHeld ?_
          rotate_left
          focus (intro z hSw; clear hSw; go_simp; try with_reducible rfl)
          try simp only [Act.put, List.setIfInBounds_toArray, List.set_cons_zero, List.set_cons_succ]
          refine wpAnyH_take (i := 4) (oi := ⟨some 46, .load 56 (.tmp 45), _, _, _, none⟩) rfl (by kernel_rfl) (by kernel_rfl) (by kernel_rfl) (fun _ _ _ h => h) (yieldsIf_ld (by rfl) 56 _ rfl _ rfl (fun z hSw => L1.out z hSw)) hHeld ?_
          try simp only [Act.put, List.setIfInBounds_toArray, List.set_cons_zero, List.set_cons_succ]
          refine wpAnyH_take (i := 5) (oi := ⟨some 47, .fieldAddr 27 (.tmp 3) 1, _, _, _, none⟩) (v := ?_) rfl (by kernel_rfl) (by kernel_rfl) (by kernel_rfl) (fun _ _ _ h => h) (Or.inl ⟨by rfl, ?_⟩) hHeld ?_
          rotate_left
          focus (intro z hSw; clear hSw; go_simp; try with_reducible rfl)
          try simp only [Act.put, List.setIfInBounds_toArray, List.set_cons_zero, List.set_cons_succ]
          refine wpAnyH_take (i := 6) (oi := ⟨some 48, .load 22 (.tmp 47), _, _, _, none⟩) (v := ?_) rfl (by kernel_rfl) (by kernel_rfl) (by kernel_rfl) (fun _ _ _ h => h) (Or.inl ⟨by rfl, ?_⟩) hHeld ?_
          rotate_left
          focus (intro z hSw; have ct := XA.out z hSw; have cq := XB.out z hSw; clear hSw; go_simp; try with_reducible rfl)
          try simp only [Act.put, List.setIfInBounds_toArray, List.set_cons_zero, List.set_cons_succ]
          refine wpAnyH_take (i := 7) (oi := ⟨some 49, .move (.tmp 5), _, _, _, none⟩) (v := ?_) rfl (by kernel_rfl) (by kernel_rfl) (by kernel_rfl) (fun _ _ _ h => h) (Or.inl ⟨by rfl, ?_⟩) hHeld ?_
          rotate_left
          focus (intro z hSw; clear hSw; go_simp; try with_reducible rfl)
          try simp only [Act.put, List.setIfInBounds_toArray, List.set_cons_zero, List.set_cons_succ]
          refine wpAnyH_take (i := 8) (oi := ⟨some 50, .indexAddr 22 (.tmp 48) (.tmp 49), _, _, _, none⟩) (v := ?_) rfl (by kernel_rfl) (by kernel_rfl) (by kernel_rfl) (fun _ _ _ h => h) (Or.inl ⟨by rfl, ?_⟩) hHeld ?_
          rotate_left
          focus (intro z hSw; clear hSw; go_simp; try with_reducible rfl)
          try simp only [Act.put, List.setIfInBounds_toArray, List.set_cons_zero, List.set_cons_succ]
          refine wpAnyH_take (i := 9) (oi := ⟨some 51, .load 56 (.tmp 50), _, _, _, none⟩) rfl (by kernel_rfl) (by kernel_rfl) (by kernel_rfl) (fun _ _ _ h => h) (yieldsIf_ld (by rfl) 56 _ rfl _ rfl (fun z hSw => L2.out z hSw)) hHeld ?_
          try simp only [Act.put, List.setIfInBounds_toArray, List.set_cons_zero, List.set_cons_succ]
          refine wpAnyH_ready (rs := [10]) (by kernel_rfl) (by simp) ?_
          refine AllReadyH.cons (o := ⟨some 52, .call { callee := .value (.func 57), args := #[.tmp 46, .tmp 51], argTypes := #[56, 56] }, _, _, _, none⟩) rfl (fun K hK => ?_) AllReadyH.nil
          go_simp
          refine (HC.out _ hHeld).mono ?_
          rintro r wn ⟨rfl, fn⟩
          refine hK.out _ _ ?_ (fun hNext => ?_)
          · exact hHeld.trans fn (by simp)
          clear hK K hHeld
          have hHeld := hNext
          clear hNext
          try simp only [Act.put, List.setIfInBounds_toArray, List.set_cons_zero, List.set_cons_succ]
          refine wpAnyH_take (i := 11) (oi := ⟨some 53, .unOp .not 4 (.tmp 52), _, _, _, none⟩) (v := ?_) rfl (by kernel_rfl) (by kernel_rfl) (by kernel_rfl) (fun _ _ _ h => h) (Or.inl ⟨by rfl, ?_⟩) hHeld ?_
          rotate_left
          focus (intro z hSw; clear hSw; go_simp; try with_reducible rfl)
          try simp only [Act.put, List.setIfInBounds_toArray, List.set_cons_zero, List.set_cons_succ]
          refine wpAnyH_done (by kernel_rfl) ?_ _
          cases sb with
          | true =>
            go_wp2_with fail
            go_roundw
            case rel => exact ⟨k + 1, by omega, by go_num, HM.out (by simp), FW.out.trans hHeld (by simp)⟩
            case measure => simp [intOf]; omega
          | false =>
            have en := HNO.out (by simp)
            go_wp2_with fail
            go_ret
            exact ⟨by first | rfl | (rw [en]; rfl) | (simp [en]), F.out.trans (FW.out.trans hHeld (by simp)) (by simp)⟩
        · obtain rfl : k = t.recs.length := by omega
          have e := all2_yes QL.out (fun j hj h2 => HZ.out j hj h2 hj)
          go_wp2_with fail
          go_ret
          exact ⟨by first | rfl | (rw [e]; rfl), F.out.trans FW.out (by simp)⟩
end Go.Proofs.YtljhanhipmnioaaGreat.Rd

namespace Go.Proofs.YtljhanhipmnioaaGreat.Rd
open Go.RowKit
set_option linter.unusedVariables false
set_option linter.unusedSimpArgs false
set_option maxRecDepth 100000

open Pt (Pt may enc zeroPt be4 be1 pc pv PtV SlA OwnA BT wpList_load_g heap_alloc_at Ext Grew yieldsIf_ld)
open Kr (OwnE SlE Enco RowTys)

theorem all2_iff {f : Rec → Rec → Bool} (hf : ∀ x y, f x y = true ↔ x = y) : ∀ (l m : List Rec), all2 f l m = true ↔ l = m
  | [], [] => by simp [all2]
  | [], y :: m => by simp [all2]
  | x :: l, [] => by simp [all2]
  | x :: l, y :: m => by simp [all2, hf, all2_iff hf l m]
theorem sameR_iff (x y : Rec) : sameR x y = true ↔ x = y := by
  unfold sameR
  simp only [Bool.and_eq_true, beq_iff_eq, Pt.same_iff]
  constructor
  · rintro ⟨h0, h1, h2, h3, h4, h5, h6, h7, h8, h9⟩
    exact Rec.ext' h0 (ba_ext (by rw [← Go.ByteArray.toList_eq, ← Go.ByteArray.toList_eq]; exact h1)) h2 h3 h4 h5 h6 h7 h8 h9
  · rintro rfl
    simp
theorem sameT_iff (t u : Tab) : sameT t u = true ↔ t = u := by
  unfold sameT curEq
  simp only [Bool.and_eq_true, beq_iff_eq, all2_iff sameR_iff]
  constructor
  · rintro ⟨h0, h1, ⟨k0, k1, k2, k3⟩, h3⟩
    exact Tab.ext' h0 h1 (Cur.ext' k0 k1 k2 k3) h3
  · rintro rfl
    simp
theorem sameT_refl (t : Tab) : sameT t t = true := (sameT_iff t t).2 rfl
theorem rootD_B {p : Pt} (h : rootD p = true) : rootB p = true ∧ p.b ≤ 2147483648 := by
  unfold rootD at h
  rw [Bool.or_eq_true, Bool.and_eq_true, chk_zero] at h
  rcases h with h | ⟨h1, h2⟩
  · refine ⟨?_, by rw [hole_b h]; decide⟩
    unfold rootB Pt.mayB
    rw [h]; rfl
  · refine ⟨by unfold rootB; rw [h1, h2]; simp, ?_⟩
    rcases (Pt.mayB_iff p).1 h1 with h | h
    · rw [hole_b h]; decide
    · exact h.2.2.1.2
theorem Pick64 (n : Int) (w : World) : Calls Tryz.prog 37 #[.int .i64 n, .int .i64 64] w fun r w' => ∃ j : Nat, j < 64 ∧ r = .returned (.int .i64 (j : Int)) ∧ w' = w := by
  have := PickD_any n 64 (by decide) (by decide) w
  simpa using this
theorem rootZ : rootB Pt.zeroPt = true := by kernel_rfl
set_option maxHeartbeats 16000000 in
theorem backD_any (x y : Value) (p q : Pt) (n0 n1 : Int) (w : World) (hp : PtV w x p) (hq : PtV w y q) : Calls Tryz.prog 12 #[x, y, .int .i64 n0, .int .i64 n1] w (YesD w) := by
  obtain ⟨pa, pcp, psp, rfl, hP, hPs⟩ := hp
  obtain ⟨qa, qcp, qsp, rfl, hQ, hQs⟩ := hq
  have hA0 : pv (.slice pa p.ads.length pcp) p.b p.l p.s = .agg (pc (.slice pa p.ads.length pcp) p.b p.l p.s).toArray := rfl
  have hB0 : pv (.slice qa q.ads.length qcp) q.b q.l q.s = .agg (pc (.slice qa q.ads.length qcp) q.b q.l q.s).toArray := rfl
  have f0 : Frm [] w ((w.alloc (.cells (pc (.slice pa p.ads.length pcp) p.b p.l p.s).toArray 54)).alloc (.cells (pc (.slice qa q.ads.length qcp) q.b q.l q.s).toArray 54)) := ((Frm.refl [] w).alloc _).alloc _
  have b1 := (Pt.PB.new w (.slice pa p.ads.length pcp) p.b p.l p.s).alloc (.cells (pc (.slice qa q.ads.length qcp) q.b q.l q.s).toArray 54)
  have b2 := Pt.PB.new1 w (.cells (pc (.slice pa p.ads.length pcp) p.b p.l p.s).toArray 54) (.slice qa q.ads.length qcp) q.b q.l q.s
  have HP := Lib.hid (fun z (f : Frm [] w z) => hP.keep f (by simp))
  have HQ := Lib.hid (fun z (f : Frm [] w z) => hQ.keep f (by simp))
  have PS := Lib.hid hPs
  have QS := Lib.hid hQs
  have GP := Lib.hid (fun z (f : Frm [] ((w.alloc (.cells (pc (.slice pa p.ads.length pcp) p.b p.l p.s).toArray 54)).alloc (.cells (pc (.slice qa q.ads.length qcp) q.b q.l q.s).toArray 54)) z) => (Pt.PB.keep b1 f (by simp)).gets hPs)
  have GQ := Lib.hid (fun z (f : Frm [] ((w.alloc (.cells (pc (.slice pa p.ads.length pcp) p.b p.l p.s).toArray 54)).alloc (.cells (pc (.slice qa q.ads.length qcp) q.b q.l q.s).toArray 54)) z) => (Pt.PB.keep b2 f (by simp)).gets hQs)
  have F0 := Lib.hid f0
  rw [hA0, hB0]
  clear f0 b1 b2 hP hQ hPs hQs hA0 hB0
  generalize (pc (.slice pa p.ads.length pcp) p.b p.l p.s).toArray = A at *
  generalize (pc (.slice qa q.ads.length qcp) q.b q.l q.s).toArray = B at *
  go_enter Tryz.func12, Tryz.ntmps12
  go_upto_region 1 with (fail)
  try simp only [World.size_alloc]
  generalize (w.alloc (.cells A 54)).alloc (.cells B 54) = W at *
  go_upto_region 2 with (go_at_call 39; refine (awakeD_any W).mono ?_; rintro r w0 ⟨rfl, f1⟩)
  have FA := Lib.hid f1
  clear f1
  have MK := Lib.hid trivial
  go_upto_region 3 with (first
    | (go_at_call 37; clear MK; refine (Pick64 _ _).mono ?_; rintro r w0 ⟨j, hj, rfl, rfl⟩; have hwj : IntKind.i64.wrap (1 + (j : Int)) = 1 + (j : Int) := IntWalk.i64_in _ (by omega))
    | (go_at_call 37; refine (Pick64 _ _).mono ?_; rintro r w0 ⟨i, hi, rfl, rfl⟩; have hwi : IntKind.i64.wrap (1 + (i : Int)) = 1 + (i : Int) := IntWalk.i64_in _ (by omega)))
  have HS := Lib.hid (show wi (1 + (j : Int)) 1 64 = true from wi_iff.2 (by omega))
  have HL := Lib.hid (show wi (1 + (i : Int)) 1 64 = true from wi_iff.2 (by omega))
  clear hwj hwi hj hi
  generalize 1 + (j : Int) = S at *
  generalize 1 + (i : Int) = L at *
  go_upto_region 4 with (first
    | (go_at_call 43; refine (New_any 3 w0).mono ?_; intro r w1 hr; obtain ⟨vr1, vl1, rfl, o1, f1⟩ := hr.is (show newC 3 = (newT 3, 0) by kernel_rfl))
    | ((with_reducible (show wpList _ _ _ (Oper.mk _ (Op.alloc 27) _ _ _ _ :: _) _ _)); refine wpList_val rfl (exec_alloc27 rfl _) ?_)
    | ((with_reducible (show wpList _ _ _ (Oper.mk _ (Op.store 27 _ _) _ _ _ _ :: _) _ _)); refine wpList_store27 rfl (.tmp 10) (.tmp 37) rfl o1.ones.1 o1.ones.2 (TB.new w1 nilS nilS zeroT) rfl rfl ?_; intro w2 b2 f2))
  have f12 : Frm [] w1 w2 := ((Frm.refl [] w1).alloc _).trans f2 (fun i hi => .inr (by simp at hi; omega))
  have B2 := Lib.hid b2
  have F2 := Lib.hid (show Frm [] W w2 from (FA.out.trans f1 (by simp)).trans f12 (by simp))
  have O2 := Lib.hid (o1.keep0 f12)
  have GZ := Lib.hid (show W.heap.size ≤ w1.heap.size from Nat.le_trans FA.out.size f1.size)
  clear b2 f2 o1 f1 f12
  generalize w1.heap.size = g at *
  have LT := Lib.hid (show g < w2.heap.size from B2.out.lt)
  go_upto_region 5 with (first
    | ((with_reducible (show wpList _ _ _ (Oper.mk _ (Op.load 27 _) _ _ _ _ :: _) _ _)); refine wpList_load_g (by rfl) 27 _ rfl _ rfl B2.out.gets.all ?_)
    | (go_at_call 51; refine (Make_any _ _ (newT 3) nV S 2147483648 w2 O2.out.v (fit_of (by kernel_rfl)) (by decide)).mono ?_; intro r w3 hr; obtain ⟨vr3, vl3, rfl, o1, f1⟩ := hr.is (qMake HS.out))
    | ((with_reducible (show wpList _ _ _ (Oper.mk _ (Op.store 27 _ _) _ _ _ _ :: _) _ _)); refine wpList_store27 rfl (.tmp 10) (.tmp 43) rfl o1.ones.1 o1.ones.2 (B2.out.keep0 f1) rfl rfl ?_; intro w4 b2 f2))
  have B4 := Lib.hid b2
  have F4 := Lib.hid (show Frm [] W w4 from (F2.out.trans f1 (by simp)).trans f2 (fun i hi => .inr (by simp at hi; have := GZ.out; omega)))
  have O4 := Lib.hid (o1.keep f2 (fun i hi => .inl (by simp at hi; have := LT.out; omega)))
  have LT4 := Lib.hid (show g < w4.heap.size from B4.out.lt)
  clear b2 f2 o1 f1 B2 O2
  have c1 := (GP.out _ F4.out).c0
  have c2 := (GQ.out _ F4.out).c0
  by_cases hlp : p.ads.length ≤ 20
  · by_cases hlq : q.ads.length ≤ 20
    · have hlp9 : ¬ (20 : Int) < (p.ads.length : Int) := by omega
      have hlq9 : ¬ (20 : Int) < (q.ads.length : Int) := by omega
      go_upto_region 7 with (fail)
      clear c1 c2
      have M1 := Lib.hid (mT1 HS.out rootZ)
      cases hrp : rootD p with
      | false =>
        go_upto_region 8 with (first
          | ((with_reducible (show wpList _ _ _ (Oper.mk _ (Op.load 27 _) _ _ _ _ :: _) _ _)); refine wpList_load_g (by rfl) 27 _ rfl _ rfl B4.out.gets.all ?_)
          | ((with_reducible (show wpList _ _ _ (Oper.mk _ (Op.load 54 _) _ _ _ _ :: _) _ _)); refine wpList_load_g (by rfl) 54 _ rfl _ rfl (GP.out _ F4.out).all ?_)
          | (go_at_call 55; refine (Root_any _ _ _ (bT1 S Pt.zeroPt) nV p psp w4 O4.out.v (fit_of M1.out) (by decide) (HP.out _ (F0.out.trans F4.out (by simp))) PS.out (by omega)).mono ?_; intro r w5 hr; obtain ⟨vr5, vl5, rfl, o1, f1⟩ := hr.is (qRoot1n M1.out hrp))
          | ((with_reducible (show wpList _ _ _ (Oper.mk _ (Op.store 27 _ _) _ _ _ _ :: _) _ _)); refine wpList_store27 rfl (.tmp 10) (.tmp 76) rfl o1.ones.1 o1.ones.2 (B4.out.keep0 f1) rfl rfl ?_; intro w6 b2 f2))
        have F6 := Lib.hid (show Frm [] W w6 from (F4.out.trans f1 (by simp)).trans f2 (fun i hi => .inr (by simp at hi; have := GZ.out; omega)))
        clear b2 f2 o1 f1
        go_wp2_with (fail)
        go_ret
        exact ⟨rfl, F0.out.trans F6.out (by simp)⟩
      | true =>
        have RPB := Lib.hid (rootD_B hrp)
        go_upto_region 8 with (first
          | ((with_reducible (show wpList _ _ _ (Oper.mk _ (Op.load 27 _) _ _ _ _ :: _) _ _)); refine wpList_load_g (by rfl) 27 _ rfl _ rfl B4.out.gets.all ?_)
          | ((with_reducible (show wpList _ _ _ (Oper.mk _ (Op.load 54 _) _ _ _ _ :: _) _ _)); refine wpList_load_g (by rfl) 54 _ rfl _ rfl (GP.out _ F4.out).all ?_)
          | (go_at_call 55; refine (Root_any _ _ _ (bT1 S Pt.zeroPt) nV p psp w4 O4.out.v (fit_of M1.out) (by decide) (HP.out _ (F0.out.trans F4.out (by simp))) PS.out (by omega)).mono ?_; intro r w5 hr; obtain ⟨vr5, vl5, rfl, o1, f1⟩ := hr.is (qRoot1 M1.out hrp))
          | ((with_reducible (show wpList _ _ _ (Oper.mk _ (Op.store 27 _ _) _ _ _ _ :: _) _ _)); refine wpList_store27 rfl (.tmp 10) (.tmp 76) rfl o1.ones.1 o1.ones.2 (B4.out.keep0 f1) rfl rfl ?_; intro w6 b2 f2))
        have B6 := Lib.hid b2
        have FW := Lib.hid (show Frm [] W w6 from (F4.out.trans f1 (by simp)).trans f2 (fun i hi => .inr (by simp at hi; have := GZ.out; omega)))
        have O6 := Lib.hid (o1.keep f2 (fun i hi => .inl (by simp at hi; have := LT4.out; omega)))
        clear b2 f2 o1 f1 O4 B4 M1 hrp
        have M1 := Lib.hid (mT1 HS.out RPB.out.1)
        have M2 := Lib.hid (mT2 HS.out RPB.out.1 HS.out RPB.out.1 RPB.out.2)
        have B0 := B6
        have F0' := Lib.hid (Frm.refl [] w6)
        go_upto_region 10 with (fail)
        go_upto_region 11 with (first
          | ((with_reducible (show wpList _ _ _ (Oper.mk _ (Op.load 27 _) _ _ _ _ :: _) _ _)); refine wpList_load_g (by rfl) 27 _ rfl _ rfl B6.out.gets.all ?_)
          | (go_at_call 52; refine (Snap_any _ _ (bT1 S p) nVS 2147483648 w6 O6.out.v (fit_of M1.out) (by decide)).mono ?_; intro r x1 hr; obtain ⟨vr7, vl7, rfl, o1, f1⟩ := hr.is (qSnap M1.out RPB.out.2))
          | ((with_reducible (show wpList _ _ _ (Oper.mk _ (Op.alloc 27) _ _ _ _ :: _) _ _)); refine wpList_val rfl (exec_alloc27 rfl _) ?_)
          | ((with_reducible (show wpList _ _ _ (Oper.mk _ (Op.store 27 _ _) _ _ _ _ :: _) _ _)); refine wpList_store27 rfl (.tmp 14) (.tmp 88) rfl o1.ones.1 o1.ones.2 (TB.new x1 nilS nilS zeroT) rfl rfl ?_; intro w7 b2 f2))
        have f12 : Frm [] x1 w7 := ((Frm.refl [] x1).alloc _).trans f2 (fun i hi => .inr (by simp at hi; omega))
        have B7 := Lib.hid b2
        have O7 := Lib.hid (o1.keep0 f12)
        have F7 := Lib.hid (show Frm [] W w7 from (FW.out.trans f1 (by simp)).trans f12 (by simp))
        clear b2 f2 o1 f1 f12 hr B6 O6
        generalize x1.heap.size = gs at *
        have LS := Lib.hid (show gs < w7.heap.size from B7.out.lt)
        cases hrq : rootD q with
        | false =>
          go_upto_region 12 with (first
            | ((with_reducible (show wpList _ _ _ (Oper.mk _ (Op.load 27 _) _ _ _ _ :: _) _ _)); refine wpList_load_g (by rfl) 27 _ rfl _ rfl B7.out.gets.all ?_)
            | ((with_reducible (show wpList _ _ _ (Oper.mk _ (Op.load 54 _) _ _ _ _ :: _) _ _)); refine wpList_load_g (by rfl) 54 _ rfl _ rfl (GQ.out _ F7.out).all ?_)
            | (go_at_call 55; refine (Root_any _ _ _ (bT2 S p S p) nV q qsp w7 O7.out.v (fit_of M2.out) (by decide) (HQ.out _ (F0.out.trans F7.out (by simp))) QS.out (by omega)).mono ?_; intro r x2 hr; obtain ⟨vr8, vl8, rfl, o1, f1⟩ := hr.is (qRoot2n M2.out hrq))
            | ((with_reducible (show wpList _ _ _ (Oper.mk _ (Op.alloc 27) _ _ _ _ :: _) _ _)); refine wpList_val rfl (exec_alloc27 rfl _) ?_)
            | ((with_reducible (show wpList _ _ _ (Oper.mk _ (Op.store 27 _ _) _ _ _ _ :: _) _ _)); refine wpList_store27 rfl (.tmp 16) (.tmp 94) rfl o1.ones.1 o1.ones.2 (TB.new x2 nilS nilS zeroT) rfl rfl ?_; intro w8 b2 f2))
          have f12 : Frm [] x2 w8 := ((Frm.refl [] x2).alloc _).trans f2 (fun i hi => .inr (by simp at hi; omega))
          have F8 := Lib.hid (show Frm [] W w8 from (F7.out.trans f1 (by simp)).trans f12 (by simp))
          clear b2 f2 o1 f1 f12 hr
          go_wp2_with (fail)
          go_ret
          exact ⟨rfl, F0.out.trans F8.out (by simp)⟩
        | true =>
          have RQ := Lib.hid (rootD_B hrq)
          go_upto_region 12 with (first
            | ((with_reducible (show wpList _ _ _ (Oper.mk _ (Op.load 27 _) _ _ _ _ :: _) _ _)); refine wpList_load_g (by rfl) 27 _ rfl _ rfl B7.out.gets.all ?_)
            | ((with_reducible (show wpList _ _ _ (Oper.mk _ (Op.load 54 _) _ _ _ _ :: _) _ _)); refine wpList_load_g (by rfl) 54 _ rfl _ rfl (GQ.out _ F7.out).all ?_)
            | (go_at_call 55; refine (Root_any _ _ _ (bT2 S p S p) nV q qsp w7 O7.out.v (fit_of M2.out) (by decide) (HQ.out _ (F0.out.trans F7.out (by simp))) QS.out (by omega)).mono ?_; intro r x2 hr; obtain ⟨vr8, vl8, rfl, o1, f1⟩ := hr.is (qRoot2 M2.out hrq))
            | ((with_reducible (show wpList _ _ _ (Oper.mk _ (Op.alloc 27) _ _ _ _ :: _) _ _)); refine wpList_val rfl (exec_alloc27 rfl _) ?_)
            | ((with_reducible (show wpList _ _ _ (Oper.mk _ (Op.store 27 _ _) _ _ _ _ :: _) _ _)); refine wpList_store27 rfl (.tmp 16) (.tmp 94) rfl o1.ones.1 o1.ones.2 (TB.new x2 nilS nilS zeroT) rfl rfl ?_; intro w8 b2 f2))
          have f12 : Frm [] x2 w8 := ((Frm.refl [] x2).alloc _).trans f2 (fun i hi => .inr (by simp at hi; omega))
          have B8 := Lib.hid b2
          have O8 := Lib.hid (o1.keep0 f12)
          have F8 := Lib.hid (show Frm [] W w8 from (F7.out.trans f1 (by simp)).trans f12 (by simp))
          have G8 := Lib.hid (show Frm [] w7 w8 from f1.trans f12 (by simp))
          have GU := Lib.hid (show w7.heap.size ≤ x2.heap.size from f1.size)
          clear b2 f2 o1 f1 f12 hr
          generalize x2.heap.size = gu at *
          have LU := Lib.hid (show gu < w8.heap.size from B8.out.lt)
          have M3 := Lib.hid (mT2 HS.out RPB.out.1 HS.out RQ.out.1 RPB.out.2)
          go_upto_region 14 with (fail)
          go_upto_region 15 with (first
            | ((with_reducible (show wpList _ _ _ (Oper.mk _ (Op.load 27 _) _ _ _ _ :: _) _ _)); refine wpList_load_g (by rfl) 27 _ rfl _ rfl B8.out.gets.all ?_)
            | (go_at_call 49; refine (Resize_any _ _ (bT2 S p S q) nV L w8 O8.out.v (fit_of M3.out) (by decide)).mono ?_; intro r w9 hr; obtain ⟨vr9, vl9, rfl, o1, f1⟩ := hr.is (qSize M3.out HL.out))
            | ((with_reducible (show wpList _ _ _ (Oper.mk _ (Op.store 27 _ _) _ _ _ _ :: _) _ _)); refine wpList_store27 rfl (.tmp 16) (.tmp 115) rfl o1.ones.1 o1.ones.2 (B8.out.keep0 f1) rfl rfl ?_; intro wX b2 f2))
          have BU := Lib.hid b2
          have BSn := Lib.hid ((B7.out.keep0 (G8.out.trans f1 (by simp))).keep f2 (by have := LS.out; have := GU.out; simp; omega))
          have OS := Lib.hid ((O7.out.keep ((G8.out.trans f1 (by simp)).mono (L' := [gu]) (by simp) |>.trans f2 (fun i hi => .inl hi)) (fun i hi => .inr (by simp at hi; have := GU.out; omega))).v)
          have OU := Lib.hid ((o1.keep f2 (fun i hi => .inl (by simp at hi; have := LU.out; omega))).v)
          have FX := Lib.hid (show Frm [] W wX from (F8.out.trans f1 (by simp)).trans f2 (fun i hi => .inr (by simp at hi; have := GU.out; have := F7.out.size; omega)))
          clear b2 f2 o1 f1 B8 O8 B7 O7 M1 M2 M3 hrq
          have M4 := Lib.hid (mT2 HS.out RPB.out.1 HL.out RQ.out.1 RPB.out.2)
          have M5 := Lib.hid (mT3 HS.out RPB.out.1 HL.out RQ.out.1 RPB.out.2)
          have M6 := Lib.hid (mT4 HS.out RPB.out.1 HL.out RQ.out.1 RPB.out.2)
          have FE := Lib.hid (F0.out.trans FX.out (by simp))
          clear F0
          have F0 := Lib.hid (Frm.refl [] wX)
          go_upto_region 16 with (first
            | ((with_reducible (show wpList _ _ _ (Oper.mk _ (Op.load 27 _) _ _ _ _ :: _) _ _)); refine wpList_load_g (by rfl) 27 _ rfl _ rfl (BU.out).gets.all ?_)
            | (go_at_call 53; refine (Rollback_any _ _ (bT2 S p L q) nVS wX OU.out (fit_of M4.out) (by decide)).mono ?_; intro r x1 hr; obtain ⟨vr1, vl1, rfl, o1, f1⟩ := hr.is (qRoll M4.out))
            | ((with_reducible (show wpList _ _ _ (Oper.mk _ (Op.alloc 27) _ _ _ _ :: _) _ _)); refine wpList_val rfl (exec_alloc27 rfl _) ?_)
            | ((with_reducible (show wpList _ _ _ (Oper.mk _ (Op.store 27 _ _) _ _ _ _ :: _) _ _)); refine wpList_store27 rfl (.tmp 19) (.tmp 120) rfl o1.ones.1 o1.ones.2 (TB.new x1 nilS nilS zeroT) rfl rfl ?_; intro w1 b2 f2))
          have f12 : Frm [] x1 w1 := ((Frm.refl [] x1).alloc _).trans f2 (fun i hi => .inr (by simp at hi; omega))
          have B1 := Lib.hid b2
          have O1 := Lib.hid (o1.keep0 f12)
          have F1 := Lib.hid (show Frm [] wX w1 from (F0.out.trans f1 (by simp)).trans f12 (by simp))
          have G1 := Lib.hid (show Frm [] wX w1 from f1.trans f12 (by simp))
          clear b2 f2 o1 f1 f12 hr
          generalize x1.heap.size = g1 at *
          go_upto_region 17 with (first
            | ((with_reducible (show wpList _ _ _ (Oper.mk _ (Op.load 27 _) _ _ _ _ :: _) _ _)); refine wpList_load_g (by rfl) 27 _ rfl _ rfl (BU.out.keep0 F1.out).gets.all ?_)
            | (go_at_call 56; refine (CloneD_any _ _ (bT2 S p L q) nVS nC 1 w1 (OU.out.keep0 F1.out) (fit_of M4.out) (by decide) (by decide)).mono ?_; intro r x2 hr; obtain ⟨vr2, vl2, rfl, o1, f1⟩ := hr.is (qClone M4.out))
            | ((with_reducible (show wpList _ _ _ (Oper.mk _ (Op.alloc 27) _ _ _ _ :: _) _ _)); refine wpList_val rfl (exec_alloc27 rfl _) ?_)
            | ((with_reducible (show wpList _ _ _ (Oper.mk _ (Op.store 27 _ _) _ _ _ _ :: _) _ _)); refine wpList_store27 rfl (.tmp 21) (.tmp 125) rfl o1.ones.1 o1.ones.2 (TB.new x2 nilS nilS zeroT) rfl rfl ?_; intro w2 b2 f2))
          have f12 : Frm [] x2 w2 := ((Frm.refl [] x2).alloc _).trans f2 (fun i hi => .inr (by simp at hi; omega))
          have B2 := Lib.hid b2
          have O2 := Lib.hid (o1.keep0 f12)
          have F2 := Lib.hid (show Frm [] wX w2 from (F1.out.trans f1 (by simp)).trans f12 (by simp))
          have G2 := Lib.hid (show Frm [] w1 w2 from f1.trans f12 (by simp))
          clear b2 f2 o1 f1 f12 hr
          generalize x2.heap.size = g2 at *
          have HL1 := Lib.hid (fun z (f : Frm [] w2 z) => ((B1.out.keep0 G2.out).keep0 f).gets.all)
          have HL2 := Lib.hid (fun z (f : Frm [] w2 z) => ((BSn.out.keep0 F2.out).keep0 f).gets.all)
          have HL3 := Lib.hid (fun z (f : Frm [] w2 z) => (B2.out.keep0 f).gets.all)
          have ST := Lib.hid (show Calls Tryz.prog 27 #[tv vr1 vl1 (bT2 S p S p), tv vr7 vl7 (bT2 S p S p)] w2 fun e w' => e = .returned (.bool true) ∧ Frm [] w2 w' from by
            have := SameTable_any vr1 vl1 vr7 vl7 (bT2 S p S p) (bT2 S p S p) w2 (O1.out.v.keep0 G2.out) (OS.out.keep0 F2.out) (fit_of (mT2 HS.out RPB.out.1 HS.out RPB.out.1 RPB.out.2))
            rw [sameT_refl] at this
            exact this)
          go_upto_region 19 with (first
            | ((with_reducible (show wpList _ _ _ (Oper.mk _ (Op.load 27 _) _ _ _ _ :: _) _ _)); refine wpList_load_g (by rfl) 27 _ rfl _ rfl (HL3.out _ fy) ?_)
            | ((with_reducible (show wpList _ _ _ (Oper.mk _ (Op.load 27 _) _ _ _ _ :: _) _ _)); refine wpList_load_g (by rfl) 27 _ rfl _ rfl (HL1.out _ (Frm.refl [] _)) ?_)
            | ((with_reducible (show wpList _ _ _ (Oper.mk _ (Op.load 27 _) _ _ _ _ :: _) _ _)); refine wpList_load_g (by rfl) 27 _ rfl _ rfl (HL2.out _ (Frm.refl [] _)) ?_)
            | (go_at_call 27; refine ST.out.mono ?_; rintro r wy ⟨rfl, fy⟩)
            | (go_at_call 48; refine (names_any _ _ _ (bT3 S p L q) [nC, nV, nVS] [] _ (O2.out.v.keep0 (fy.trans ((Frm.refl [] wy).alloc _) (by simp))) (sle_newS wy [nC, nV, nVS] #[.string nC, .string nV, .string nVS] 9 rfl (by decide)) (by simp [bT3]) (by simp)).mono ?_; rw [qN3]; rintro r wz ⟨rfl, fz⟩))
          have FZ := Lib.hid (show Frm [] w2 wz from (fy.trans ((Frm.refl [] wy).alloc _) (by simp)).trans fz (by simp))
          have R3 := Lib.hid (fun z (f : Frm [] w2 z) => (O2.out.v.keep0 f).1)
          have R2 := Lib.hid (fun z (f : Frm [] w2 z) => (OS.out.keep0 (F2.out.trans f (by simp))).1)
          clear fy fz HL1 HL2 HL3 ST
          obtain ⟨cb, coff, ccp, ec⟩ := (R3.out _ (Frm.refl [] _)).at (by simp [bT3])
          obtain ⟨sb, soff, scp, es⟩ := (R2.out _ (Frm.refl [] _)).at (by simp [bT2])
          subst ec
          subst es
          have d0 := (B2.out.keep0 FZ.out).gets.recs
          rw [show (bT3 S p L q).recs.length = 3 from rfl] at d0
          obtain ⟨xa, xc, GX⟩ := Rs.getsF (R3.out _ FZ.out) 0 (by simp [bT3])
          obtain ⟨ca, cc, GC⟩ := Rs.getsF (R3.out _ FZ.out) 2 (by simp [bT3])
          obtain ⟨ta, tcp, GT⟩ := Rs.getsF (R2.out _ FZ.out) 1 (by simp [bT2])
          have GX := Lib.hid (fun z (f : Frm [] wz z) => show GetsR z cb (coff + 0 * 44) (.slice xa p.ads.length xc) (bC S p) ∧ RecV z (rv (.slice xa p.ads.length xc) (bC S p)) (bC S p) from GX z f)
          have GC := Lib.hid (fun z (f : Frm [] wz z) => show GetsR z cb (coff + 2 * 44) (.slice ca p.ads.length cc) (bS nVS S p) ∧ RecV z (rv (.slice ca p.ads.length cc) (bS nVS S p)) (bS nVS S p) from GC z f)
          have GT := Lib.hid (fun z (f : Frm [] wz z) => show GetsR z sb (soff + 1 * 44) (.slice ta p.ads.length tcp) (bS nVS S p) ∧ RecV z (rv (.slice ta p.ads.length tcp) (bS nVS S p)) (bS nVS S p) from GT z f)
          have GA := Lib.hid (GX.out _ (Frm.refl [] _)).1.all
          go_upto_region 20 with (first
            | ((with_reducible (show wpList _ _ _ (Oper.mk _ (Op.load 56 _) _ _ _ _ :: _) _ _)); refine wpList_load_g (by rfl) 56 _ rfl _ rfl GA.out ?_)
            | ((with_reducible (show wpList _ _ _ (Oper.mk _ (Op.alloc 56) _ _ _ _ :: _) _ _)); refine wpList_lay56 rfl rfl rfl (.tmp 23) (.tmp 152) rfl (v := .slice xa p.ads.length xc) rfl PS.out rfl rfl ?_))
          have XB := Lib.hid (RB.new (w := wz) (v := .slice xa p.ads.length xc) (x := bC S p) PS.out)
          have FU := Lib.hid (show Frm [] wz (wz.alloc (.cells (rc (.slice xa p.ads.length xc) (bC S p)).toArray 56)) from (Frm.refl [] wz).alloc _)
          generalize wz.alloc (.cells (rc (.slice xa p.ads.length xc) (bC S p)).toArray 56) = U at *
          have HX := Lib.hid (fun z (f : Frm [] U z) => (XB.out.keep0 f).gets)
          have HC1 := Lib.hid (fun z (f : Frm [] U z) => show z.cell? ⟨g2, 1, none⟩ = some (.slice (some ⟨cb, coff, none⟩) 3 ccp) from (B2.out.keep0 ((FZ.out.trans FU.out (by simp)).trans f (by simp))).gets.recs)
          have HS1 := Lib.hid (fun z (f : Frm [] U z) => show z.cell? ⟨gs, 1, none⟩ = some (.slice (some ⟨sb, soff, none⟩) 2 scp) from (BSn.out.keep0 (((F2.out.trans FZ.out (by simp)).trans FU.out (by simp)).trans f (by simp))).gets.recs)
          have HID := Lib.hid (fun z (f : Frm [] U z) => show z.cell? ⟨sb, soff + 44, none⟩ = some (.int .i64 2) from by have h := (GT.out _ (FU.out.trans f (by simp))).1.id; rw [show soff + 1 * 44 = soff + 44 by omega] at h; exact h)
          have SPT := Lib.hid (fun z (f : Frm [] U z) => show Calls Tryz.prog 45 #[pv (.slice xa p.ads.length xc) p.b p.l p.s, pv (.slice pa p.ads.length pcp) p.b p.l p.s] z fun e w' => e = .returned (.bool true) ∧ Frm [] z w' from by
            obtain ⟨a, cap, sp, e, hA, hs⟩ := (GX.out _ (FU.out.trans f (by simp))).2
            have hE : Value.slice xa p.ads.length xc = .slice a p.ads.length cap := by
              simp only [rv, Value.agg.injEq, List.toArray_inj, rc, List.cons.injEq, true_and] at e
              simp [pc, bC] at e
              simpa using e
            rw [hE]
            have := Pt.SamePointer_any (pv (.slice a p.ads.length cap) p.b p.l p.s) (pv (.slice pa p.ads.length pcp) p.b p.l p.s) p p z ⟨a, cap, sp, rfl, hA, hs⟩ ⟨pa, pcp, psp, rfl, HP.out _ ((FE.out.trans ((F2.out.trans FZ.out (by simp)).trans FU.out (by simp)) (by simp)).trans f (by simp)), PS.out⟩ (by omega)
            rw [show Pt.same p p = true from (Pt.same_iff).2 rfl] at this
            exact this)
          have SRC := Lib.hid (fun z (f : Frm [] U z) => show Calls Tryz.prog 57 #[rv (.slice ca p.ads.length cc) (bS nVS S p), rv (.slice ta p.ads.length tcp) (bS nVS S p)] z fun e w' => e = .returned (.bool true) ∧ Frm [] z w' from by
            have := SameRecord_any _ _ _ _ z (GC.out _ (FU.out.trans f (by simp))).2 (GT.out _ (FU.out.trans f (by simp))).2 ((fit_of (mT3 HS.out RPB.out.1 HL.out RQ.out.1 RPB.out.2)).all _ (by simp [bT3]))
            rw [(sameR_iff _ _).2 rfl] at this
            exact this)
          refine wp_region_held_drew (S := fun z => Frm [] U z) (by kernel_rfl) ((Frm.refl [] U).drew) (fun hHeld => ?_)
          refine wpAnyH_take (i := 0) (oi := ⟨some 153, .fieldAddr 56 (.tmp 23) 3, _, _, _, none⟩) (v := ?_) rfl (by kernel_rfl) (by kernel_rfl) (by kernel_rfl) (fun _ _ _ h => h) (Or.inl ⟨by rfl, ?_⟩) hHeld ?_
          rotate_left
          focus (intro z hSw; clear hSw; go_simp; try with_reducible rfl)
          try simp only [Act.put, List.setIfInBounds_toArray, List.set_cons_zero, List.set_cons_succ]
          refine wpAnyH_take (i := 1) (oi := ⟨some 154, .load 3 (.tmp 153), _, _, _, none⟩) (v := ?_) rfl (by kernel_rfl) (by kernel_rfl) (by kernel_rfl) (fun _ _ _ h => h) (Or.inl ⟨by rfl, ?_⟩) hHeld ?_
          rotate_left
          focus (intro z hSw; have q1 := HC1.out z hSw; have q2 := HS1.out z hSw; have q3 : z.cell? ⟨wz.heap.size, 3, none⟩ = some (.int .i64 S) := (HX.out z hSw).size; have q4 : z.cell? ⟨wz.heap.size, 41, none⟩ = some (.int .i64 2) := by {have h := (HX.out z hSw).origin; exact h}; have q5 := HID.out z hSw; clear hSw; go_simp; try with_reducible rfl)
          try simp only [Act.put, List.setIfInBounds_toArray, List.set_cons_zero, List.set_cons_succ]
          refine wpAnyH_take (i := 2) (oi := ⟨some 155, .move (.tmp 2), _, _, _, none⟩) (v := ?_) rfl (by kernel_rfl) (by kernel_rfl) (by kernel_rfl) (fun _ _ _ h => h) (Or.inl ⟨by rfl, ?_⟩) hHeld ?_
          rotate_left
          focus (intro z hSw; clear hSw; go_simp; try with_reducible rfl)
          try simp only [Act.put, List.setIfInBounds_toArray, List.set_cons_zero, List.set_cons_succ]
          refine wpAnyH_take (i := 3) (oi := ⟨some 156, .binOp .neq 3 (.tmp 154) (.tmp 155) 3, _, _, _, none⟩) (v := ?_) rfl (by kernel_rfl) (by kernel_rfl) (by kernel_rfl) (fun _ _ _ h => h) (Or.inl ⟨by rfl, ?_⟩) hHeld ?_
          rotate_left
          focus (intro z hSw; clear hSw; go_simp; try with_reducible rfl)
          try simp only [Act.put, List.setIfInBounds_toArray, List.set_cons_zero, List.set_cons_succ]
          refine wpAnyH_take (i := 4) (oi := ⟨some 157, .move (.tmp 156), _, _, _, none⟩) (v := ?_) rfl (by kernel_rfl) (by kernel_rfl) (by kernel_rfl) (fun _ _ _ h => h) (Or.inl ⟨by rfl, ?_⟩) hHeld ?_
          rotate_left
          focus (intro z hSw; clear hSw; go_simp; try with_reducible rfl)
          try simp only [Act.put, List.setIfInBounds_toArray, List.set_cons_zero, List.set_cons_succ]
          refine wpAnyH_take (i := 5) (oi := ⟨some 158, .fieldAddr 56 (.tmp 23) 4, _, _, _, some (4, false)⟩) (v := ?_) rfl (by kernel_rfl) (by kernel_rfl) (by kernel_rfl) (fun _ _ _ h => h) (Or.inl ⟨by rfl, ?_⟩) hHeld ?_
          rotate_left
          focus (intro z hSw; clear hSw; go_simp; try with_reducible rfl)
          try simp only [Act.put, List.setIfInBounds_toArray, List.set_cons_zero, List.set_cons_succ]
          refine wpAnyH_take (i := 6) (oi := ⟨some 159, .load 54 (.tmp 158), _, _, _, some (4, false)⟩) rfl (by kernel_rfl) (by kernel_rfl) (by kernel_rfl) (fun _ _ _ h => h) (yieldsIf_ld (by rfl) 54 _ rfl _ rfl (fun z hSw => (HX.out z hSw).root)) hHeld ?_
          try simp only [Act.put, List.setIfInBounds_toArray, List.set_cons_zero, List.set_cons_succ]
          refine wpAnyH_take (i := 7) (oi := ⟨some 160, .load 54 (.tmp 4), _, _, _, some (4, false)⟩) rfl (by kernel_rfl) (by kernel_rfl) (by kernel_rfl) (fun _ _ _ h => h) (yieldsIf_ld (by rfl) 54 _ rfl _ rfl (fun z hSw => (GP.out z ((FX.out.trans ((F2.out.trans FZ.out (by simp)).trans FU.out (by simp)) (by simp)).trans hSw (by simp))).all)) hHeld ?_
          try simp only [Act.put, List.setIfInBounds_toArray, List.set_cons_zero, List.set_cons_succ]
          refine wpAnyH_ready (rs := [8]) (by kernel_rfl) (by simp) ?_
          refine AllReadyH.cons (o := ⟨some 161, .call { callee := .value (.func 45), args := #[.tmp 159, .tmp 160], argTypes := #[54, 54] }, _, _, _, some (4, false)⟩) rfl (fun K hK => ?_) AllReadyH.nil
          go_simp
          refine (SPT.out _ hHeld).mono ?_
          rintro r u1 ⟨rfl, f1⟩
          refine hK.out _ _ ?_ (fun hNext => ?_)
          · exact hHeld.trans f1 (by simp)
          clear hK K hHeld
          have hHeld := hNext
          clear hNext
          try simp only [Act.put, List.setIfInBounds_toArray, List.set_cons_zero, List.set_cons_succ]
          refine wpAnyH_take (i := 9) (oi := ⟨some 162, .unOp .not 4 (.tmp 161), _, _, _, some (4, false)⟩) (v := ?_) rfl (by kernel_rfl) (by kernel_rfl) (by kernel_rfl) (fun _ _ _ h => h) (Or.inl ⟨by rfl, ?_⟩) hHeld ?_
          rotate_left
          focus (intro z hSw; clear hSw; go_simp; try with_reducible rfl)
          try simp only [Act.put, List.setIfInBounds_toArray, List.set_cons_zero, List.set_cons_succ]
          refine wpAnyH_take (i := 10) (oi := ⟨some 163, .pick (.tmp 157) (.const (.bool true)) (.tmp 162), _, _, _, none⟩) (v := ?_) rfl (by kernel_rfl) (by kernel_rfl) (by kernel_rfl) (fun _ _ _ h => h) (Or.inl ⟨by rfl, ?_⟩) hHeld ?_
          rotate_left
          focus (intro z hSw; clear hSw; go_simp; try with_reducible rfl)
          try simp only [Act.put, List.setIfInBounds_toArray, List.set_cons_zero, List.set_cons_succ]
          refine wpAnyH_take (i := 11) (oi := ⟨some 164, .move (.tmp 163), _, _, _, none⟩) (v := ?_) rfl (by kernel_rfl) (by kernel_rfl) (by kernel_rfl) (fun _ _ _ h => h) (Or.inl ⟨by rfl, ?_⟩) hHeld ?_
          rotate_left
          focus (intro z hSw; clear hSw; go_simp; try with_reducible rfl)
          try simp only [Act.put, List.setIfInBounds_toArray, List.set_cons_zero, List.set_cons_succ]
          refine wpAnyH_take (i := 12) (oi := ⟨some 165, .fieldAddr 27 (.tmp 21) 1, _, _, _, some (11, false)⟩) (v := ?_) rfl (by kernel_rfl) (by kernel_rfl) (by kernel_rfl) (fun _ _ _ h => h) (Or.inl ⟨by rfl, ?_⟩) hHeld ?_
          rotate_left
          focus (intro z hSw; clear hSw; go_simp; try with_reducible rfl)
          try simp only [Act.put, List.setIfInBounds_toArray, List.set_cons_zero, List.set_cons_succ]
          refine wpAnyH_take (i := 13) (oi := ⟨some 166, .load 22 (.tmp 165), _, _, _, some (11, false)⟩) (v := ?_) rfl (by kernel_rfl) (by kernel_rfl) (by kernel_rfl) (fun _ _ _ h => h) (Or.inl ⟨by rfl, ?_⟩) hHeld ?_
          rotate_left
          focus (intro z hSw; have q1 := HC1.out z hSw; have q2 := HS1.out z hSw; have q3 : z.cell? ⟨wz.heap.size, 3, none⟩ = some (.int .i64 S) := (HX.out z hSw).size; have q4 : z.cell? ⟨wz.heap.size, 41, none⟩ = some (.int .i64 2) := by {have h := (HX.out z hSw).origin; exact h}; have q5 := HID.out z hSw; clear hSw; go_simp; try with_reducible rfl)
          try simp only [Act.put, List.setIfInBounds_toArray, List.set_cons_zero, List.set_cons_succ]
          refine wpAnyH_take (i := 14) (oi := ⟨some 167, .indexAddr 22 (.tmp 166) (.const (.int .i64 2)), _, _, _, some (11, false)⟩) (v := ?_) rfl (by kernel_rfl) (by kernel_rfl) (by kernel_rfl) (fun _ _ _ h => h) (Or.inl ⟨by rfl, ?_⟩) hHeld ?_
          rotate_left
          focus (intro z hSw; clear hSw; go_simp; try with_reducible rfl)
          try simp only [Act.put, List.setIfInBounds_toArray, List.set_cons_zero, List.set_cons_succ]
          refine wpAnyH_take (i := 15) (oi := ⟨some 168, .load 56 (.tmp 167), _, _, _, some (11, false)⟩) rfl (by kernel_rfl) (by kernel_rfl) (by kernel_rfl) (fun _ _ _ h => h) (yieldsIf_ld (by rfl) 56 _ rfl _ rfl (fun z hSw => (GC.out z (FU.out.trans hSw (by simp))).1.all)) hHeld ?_
          try simp only [Act.put, List.setIfInBounds_toArray, List.set_cons_zero, List.set_cons_succ]
          refine wpAnyH_take (i := 16) (oi := ⟨some 169, .fieldAddr 27 (.tmp 14) 1, _, _, _, some (11, false)⟩) (v := ?_) rfl (by kernel_rfl) (by kernel_rfl) (by kernel_rfl) (fun _ _ _ h => h) (Or.inl ⟨by rfl, ?_⟩) hHeld ?_
          rotate_left
          focus (intro z hSw; clear hSw; go_simp; try with_reducible rfl)
          try simp only [Act.put, List.setIfInBounds_toArray, List.set_cons_zero, List.set_cons_succ]
          refine wpAnyH_take (i := 17) (oi := ⟨some 170, .load 22 (.tmp 169), _, _, _, some (11, false)⟩) (v := ?_) rfl (by kernel_rfl) (by kernel_rfl) (by kernel_rfl) (fun _ _ _ h => h) (Or.inl ⟨by rfl, ?_⟩) hHeld ?_
          rotate_left
          focus (intro z hSw; have q1 := HC1.out z hSw; have q2 := HS1.out z hSw; have q3 : z.cell? ⟨wz.heap.size, 3, none⟩ = some (.int .i64 S) := (HX.out z hSw).size; have q4 : z.cell? ⟨wz.heap.size, 41, none⟩ = some (.int .i64 2) := by {have h := (HX.out z hSw).origin; exact h}; have q5 := HID.out z hSw; clear hSw; go_simp; try with_reducible rfl)
          try simp only [Act.put, List.setIfInBounds_toArray, List.set_cons_zero, List.set_cons_succ]
          refine wpAnyH_take (i := 18) (oi := ⟨some 171, .indexAddr 22 (.tmp 170) (.const (.int .i64 1)), _, _, _, some (11, false)⟩) (v := ?_) rfl (by kernel_rfl) (by kernel_rfl) (by kernel_rfl) (fun _ _ _ h => h) (Or.inl ⟨by rfl, ?_⟩) hHeld ?_
          rotate_left
          focus (intro z hSw; clear hSw; go_simp; try with_reducible rfl)
          try simp only [Act.put, List.setIfInBounds_toArray, List.set_cons_zero, List.set_cons_succ]
          refine wpAnyH_take (i := 19) (oi := ⟨some 172, .load 56 (.tmp 171), _, _, _, some (11, false)⟩) rfl (by kernel_rfl) (by kernel_rfl) (by kernel_rfl) (fun _ _ _ h => h) (yieldsIf_ld (by rfl) 56 _ rfl _ rfl (fun z hSw => (GT.out z (FU.out.trans hSw (by simp))).1.all)) hHeld ?_
          try simp only [Act.put, List.setIfInBounds_toArray, List.set_cons_zero, List.set_cons_succ]
          refine wpAnyH_ready (rs := [20]) (by kernel_rfl) (by simp) ?_
          refine AllReadyH.cons (o := ⟨some 173, .call { callee := .value (.func 57), args := #[.tmp 168, .tmp 172], argTypes := #[56, 56] }, _, _, _, some (11, false)⟩) rfl (fun K hK => ?_) AllReadyH.nil
          go_simp
          refine (SRC.out _ hHeld).mono ?_
          rintro r u2 ⟨rfl, f1⟩
          refine hK.out _ _ ?_ (fun hNext => ?_)
          · exact hHeld.trans f1 (by simp)
          clear hK K hHeld
          have hHeld := hNext
          clear hNext
          try simp only [Act.put, List.setIfInBounds_toArray, List.set_cons_zero, List.set_cons_succ]
          refine wpAnyH_take (i := 21) (oi := ⟨some 174, .unOp .not 4 (.tmp 173), _, _, _, some (11, false)⟩) (v := ?_) rfl (by kernel_rfl) (by kernel_rfl) (by kernel_rfl) (fun _ _ _ h => h) (Or.inl ⟨by rfl, ?_⟩) hHeld ?_
          rotate_left
          focus (intro z hSw; clear hSw; go_simp; try with_reducible rfl)
          try simp only [Act.put, List.setIfInBounds_toArray, List.set_cons_zero, List.set_cons_succ]
          refine wpAnyH_take (i := 22) (oi := ⟨some 175, .pick (.tmp 164) (.const (.bool true)) (.tmp 174), _, _, _, none⟩) (v := ?_) rfl (by kernel_rfl) (by kernel_rfl) (by kernel_rfl) (fun _ _ _ h => h) (Or.inl ⟨by rfl, ?_⟩) hHeld ?_
          rotate_left
          focus (intro z hSw; clear hSw; go_simp; try with_reducible rfl)
          try simp only [Act.put, List.setIfInBounds_toArray, List.set_cons_zero, List.set_cons_succ]
          refine wpAnyH_take (i := 23) (oi := ⟨some 176, .move (.tmp 175), _, _, _, none⟩) (v := ?_) rfl (by kernel_rfl) (by kernel_rfl) (by kernel_rfl) (fun _ _ _ h => h) (Or.inl ⟨by rfl, ?_⟩) hHeld ?_
          rotate_left
          focus (intro z hSw; clear hSw; go_simp; try with_reducible rfl)
          try simp only [Act.put, List.setIfInBounds_toArray, List.set_cons_zero, List.set_cons_succ]
          refine wpAnyH_take (i := 24) (oi := ⟨some 177, .fieldAddr 56 (.tmp 23) 7, _, _, _, some (23, false)⟩) (v := ?_) rfl (by kernel_rfl) (by kernel_rfl) (by kernel_rfl) (fun _ _ _ h => h) (Or.inl ⟨by rfl, ?_⟩) hHeld ?_
          rotate_left
          focus (intro z hSw; clear hSw; go_simp; try with_reducible rfl)
          try simp only [Act.put, List.setIfInBounds_toArray, List.set_cons_zero, List.set_cons_succ]
          refine wpAnyH_take (i := 25) (oi := ⟨some 178, .load 3 (.tmp 177), _, _, _, some (23, false)⟩) (v := ?_) rfl (by kernel_rfl) (by kernel_rfl) (by kernel_rfl) (fun _ _ _ h => h) (Or.inl ⟨by rfl, ?_⟩) hHeld ?_
          rotate_left
          focus (intro z hSw; have q1 := HC1.out z hSw; have q2 := HS1.out z hSw; have q3 : z.cell? ⟨wz.heap.size, 3, none⟩ = some (.int .i64 S) := (HX.out z hSw).size; have q4 : z.cell? ⟨wz.heap.size, 41, none⟩ = some (.int .i64 2) := by {have h := (HX.out z hSw).origin; exact h}; have q5 := HID.out z hSw; clear hSw; go_simp; try with_reducible rfl)
          try simp only [Act.put, List.setIfInBounds_toArray, List.set_cons_zero, List.set_cons_succ]
          refine wpAnyH_take (i := 26) (oi := ⟨some 179, .fieldAddr 27 (.tmp 14) 1, _, _, _, some (23, false)⟩) (v := ?_) rfl (by kernel_rfl) (by kernel_rfl) (by kernel_rfl) (fun _ _ _ h => h) (Or.inl ⟨by rfl, ?_⟩) hHeld ?_
          rotate_left
          focus (intro z hSw; clear hSw; go_simp; try with_reducible rfl)
          try simp only [Act.put, List.setIfInBounds_toArray, List.set_cons_zero, List.set_cons_succ]
          refine wpAnyH_take (i := 27) (oi := ⟨some 180, .load 22 (.tmp 179), _, _, _, some (23, false)⟩) (v := ?_) rfl (by kernel_rfl) (by kernel_rfl) (by kernel_rfl) (fun _ _ _ h => h) (Or.inl ⟨by rfl, ?_⟩) hHeld ?_
          rotate_left
          focus (intro z hSw; have q1 := HC1.out z hSw; have q2 := HS1.out z hSw; have q3 : z.cell? ⟨wz.heap.size, 3, none⟩ = some (.int .i64 S) := (HX.out z hSw).size; have q4 : z.cell? ⟨wz.heap.size, 41, none⟩ = some (.int .i64 2) := by {have h := (HX.out z hSw).origin; exact h}; have q5 := HID.out z hSw; clear hSw; go_simp; try with_reducible rfl)
          try simp only [Act.put, List.setIfInBounds_toArray, List.set_cons_zero, List.set_cons_succ]
          refine wpAnyH_take (i := 28) (oi := ⟨some 181, .indexAddr 22 (.tmp 180) (.const (.int .i64 1)), _, _, _, some (23, false)⟩) (v := ?_) rfl (by kernel_rfl) (by kernel_rfl) (by kernel_rfl) (fun _ _ _ h => h) (Or.inl ⟨by rfl, ?_⟩) hHeld ?_
          rotate_left
          focus (intro z hSw; clear hSw; go_simp; try with_reducible rfl)
          try simp only [Act.put, List.setIfInBounds_toArray, List.set_cons_zero, List.set_cons_succ]
          refine wpAnyH_take (i := 29) (oi := ⟨some 182, .fieldAddr 56 (.tmp 181) 0, _, _, _, some (23, false)⟩) (v := ?_) rfl (by kernel_rfl) (by kernel_rfl) (by kernel_rfl) (fun _ _ _ h => h) (Or.inl ⟨by rfl, ?_⟩) hHeld ?_
          rotate_left
          focus (intro z hSw; clear hSw; go_simp; try with_reducible rfl)
          try simp only [Act.put, List.setIfInBounds_toArray, List.set_cons_zero, List.set_cons_succ]
          refine wpAnyH_take (i := 30) (oi := ⟨some 183, .load 3 (.tmp 182), _, _, _, some (23, false)⟩) (v := ?_) rfl (by kernel_rfl) (by kernel_rfl) (by kernel_rfl) (fun _ _ _ h => h) (Or.inl ⟨by rfl, ?_⟩) hHeld ?_
          rotate_left
          focus (intro z hSw; have q1 := HC1.out z hSw; have q2 := HS1.out z hSw; have q3 : z.cell? ⟨wz.heap.size, 3, none⟩ = some (.int .i64 S) := (HX.out z hSw).size; have q4 : z.cell? ⟨wz.heap.size, 41, none⟩ = some (.int .i64 2) := by {have h := (HX.out z hSw).origin; exact h}; have q5 := HID.out z hSw; clear hSw; go_simp; try with_reducible rfl)
          try simp only [Act.put, List.setIfInBounds_toArray, List.set_cons_zero, List.set_cons_succ]
          refine wpAnyH_take (i := 31) (oi := ⟨some 184, .binOp .neq 3 (.tmp 178) (.tmp 183) 3, _, _, _, some (23, false)⟩) (v := ?_) rfl (by kernel_rfl) (by kernel_rfl) (by kernel_rfl) (fun _ _ _ h => h) (Or.inl ⟨by rfl, ?_⟩) hHeld ?_
          rotate_left
          focus (intro z hSw; clear hSw; go_simp; try with_reducible rfl)
          try simp only [Act.put, List.setIfInBounds_toArray, List.set_cons_zero, List.set_cons_succ]
          refine wpAnyH_take (i := 32) (oi := ⟨some 185, .pick (.tmp 176) (.const (.bool true)) (.tmp 184), _, _, _, none⟩) (v := ?_) rfl (by kernel_rfl) (by kernel_rfl) (by kernel_rfl) (fun _ _ _ h => h) (Or.inl ⟨by rfl, ?_⟩) hHeld ?_
          rotate_left
          focus (intro z hSw; clear hSw; go_simp; try with_reducible rfl)
          try simp only [Act.put, List.setIfInBounds_toArray, List.set_cons_zero, List.set_cons_succ]
          refine wpAnyH_done (by kernel_rfl) ?_ _
          go_upto_region 22 with (fail)
          have FV := Lib.hid (show Frm [] w2 u2 from (FZ.out.trans FU.out (by simp)).trans hHeld (by simp))
          have BC := Lib.hid (B2.out.keep0 FV.out)
          have OC := Lib.hid (O2.out.v.keep0 FV.out)
          have FE2 := Lib.hid (show Frm [] w u2 from (FE.out.trans F2.out (by simp)).trans FV.out (by simp))
          clear hHeld SPT SRC HID HS1 HC1 HX XB GX GC GT GA d0 F2
          have F2 := Lib.hid (Frm.refl [] u2)
          go_upto_region 23 with (first
            | ((with_reducible (show wpList _ _ _ (Oper.mk _ (Op.load 27 _) _ _ _ _ :: _) _ _)); refine wpList_load_g (by rfl) 27 _ rfl _ rfl (BC.out).gets.all ?_)
            | (go_at_call 47; refine (Rename_any _ _ (bT3 S p L q) nV nA u2 OC.out (fit_of M5.out) (by decide) (by decide)).mono ?_; intro r x3 hr; obtain ⟨vr3, vl3, rfl, o1, f1⟩ := hr.is (qRen1 M5.out))
            | ((with_reducible (show wpList _ _ _ (Oper.mk _ (Op.alloc 27) _ _ _ _ :: _) _ _)); refine wpList_val rfl (exec_alloc27 rfl _) ?_)
            | ((with_reducible (show wpList _ _ _ (Oper.mk _ (Op.store 27 _ _) _ _ _ _ :: _) _ _)); refine wpList_store27 rfl (.tmp 24) (.tmp 189) rfl o1.ones.1 o1.ones.2 (TB.new x3 nilS nilS zeroT) rfl rfl ?_; intro w3 b2 f2))
          have f12 : Frm [] x3 w3 := ((Frm.refl [] x3).alloc _).trans f2 (fun i hi => .inr (by simp at hi; omega))
          have B3 := Lib.hid b2
          have O3 := Lib.hid (o1.keep0 f12)
          have F3 := Lib.hid (show Frm [] u2 w3 from (F2.out.trans f1 (by simp)).trans f12 (by simp))
          have G3 := Lib.hid (show Frm [] u2 w3 from f1.trans f12 (by simp))
          clear b2 f2 o1 f1 f12 hr
          generalize x3.heap.size = g3 at *
          go_upto_region 24 with (first
            | ((with_reducible (show wpList _ _ _ (Oper.mk _ (Op.load 27 _) _ _ _ _ :: _) _ _)); refine wpList_load_g (by rfl) 27 _ rfl _ rfl (B3.out).gets.all ?_)
            | (go_at_call 47; refine (Rename_any _ _ (bT4 S p L q) nA nV w3 O3.out.v (fit_of M6.out) (by decide) (by decide)).mono ?_; intro r x4 hr; obtain ⟨vr4, vl4, rfl, o1, f1⟩ := hr.is (qRen2 M6.out))
            | ((with_reducible (show wpList _ _ _ (Oper.mk _ (Op.alloc 27) _ _ _ _ :: _) _ _)); refine wpList_val rfl (exec_alloc27 rfl _) ?_)
            | ((with_reducible (show wpList _ _ _ (Oper.mk _ (Op.store 27 _ _) _ _ _ _ :: _) _ _)); refine wpList_store27 rfl (.tmp 26) (.tmp 194) rfl o1.ones.1 o1.ones.2 (TB.new x4 nilS nilS zeroT) rfl rfl ?_; intro w4 b2 f2))
          have f12 : Frm [] x4 w4 := ((Frm.refl [] x4).alloc _).trans f2 (fun i hi => .inr (by simp at hi; omega))
          have B4 := Lib.hid b2
          have O4 := Lib.hid (o1.keep0 f12)
          have F4 := Lib.hid (show Frm [] u2 w4 from (F3.out.trans f1 (by simp)).trans f12 (by simp))
          have G4 := Lib.hid (show Frm [] w3 w4 from f1.trans f12 (by simp))
          clear b2 f2 o1 f1 f12 hr
          generalize x4.heap.size = g4 at *
          have HL4 := Lib.hid (fun z (f : Frm [] w4 z) => ((B3.out.keep0 G4.out).keep0 f).gets.all)
          have HL5 := Lib.hid (fun z (f : Frm [] w4 z) => (B4.out.keep0 f).gets.all)
          have HL6 := Lib.hid (fun z (f : Frm [] w4 z) => ((BC.out.keep0 F4.out).keep0 f).gets.all)
          have ST := Lib.hid (fun z (f : Frm [] w4 z) => show Calls Tryz.prog 27 #[tv vr4 vl4 (bT3 S p L q), tv (.slice (some ⟨cb, coff, none⟩) (bT3 S p L q).recs.length ccp) vl2 (bT3 S p L q)] z fun e w' => e = .returned (.bool true) ∧ Frm [] z w' from by
            have := SameTable_any vr4 vl4 _ vl2 (bT3 S p L q) (bT3 S p L q) z (O4.out.v.keep0 f) (OC.out.keep0 (F4.out.trans f (by simp))) (fit_of M5.out)
            rw [sameT_refl] at this
            exact this)
          go_wp2_with (first
            | ((with_reducible (show wpList _ _ _ (Oper.mk _ (Op.load 27 _) _ _ _ _ :: _) _ _)); refine wpList_load_g (by rfl) 27 _ rfl _ rfl (HL5.out _ fy) ?_)
            | ((with_reducible (show wpList _ _ _ (Oper.mk _ (Op.load 27 _) _ _ _ _ :: _) _ _)); refine wpList_load_g (by rfl) 27 _ rfl _ rfl (HL6.out _ fy) ?_)
            | ((with_reducible (show wpList _ _ _ (Oper.mk _ (Op.load 27 _) _ _ _ _ :: _) _ _)); refine wpList_load_g (by rfl) 27 _ rfl _ rfl (HL4.out _ (Frm.refl [] _)) ?_)
            | (go_at_call 48; refine (names_any _ _ _ (bT4 S p L q) [nA, nAS, nC] [] _ (O3.out.v.keep0 (G4.out.trans ((Frm.refl [] w4).alloc _) (by simp))) (sle_newS w4 [nA, nAS, nC] #[.string nA, .string nAS, .string nC] 9 rfl (by decide)) (by simp [bT4]) (by simp)).mono ?_; rw [qN4]; rintro r wy ⟨rfl, fy0⟩; have fy : Frm [] w4 wy := ((Frm.refl [] w4).alloc _).trans fy0 (by simp))
            | (go_at_call 27; refine (ST.out _ fy).mono ?_; rintro r wz ⟨rfl, fz⟩))
          go_ret
          exact ⟨rfl, ((FE2.out.trans F4.out (by simp)).trans fy (by simp)).trans fz (by simp)⟩
    · have hlp9 : ¬ (20 : Int) < (p.ads.length : Int) := by omega
      have hlq9 : (20 : Int) < (q.ads.length : Int) := by omega
      go_wp2_with (fail)
      go_ret
      exact ⟨rfl, F0.out.trans F4.out (by simp)⟩
  · have hlp9 : (20 : Int) < (p.ads.length : Int) := by omega
    go_wp2_with (fail)
    go_ret
    exact ⟨rfl, F0.out.trans F4.out (by simp)⟩
end Go.Proofs.YtljhanhipmnioaaGreat.Rd
