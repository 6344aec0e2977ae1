/-
  The examples of the chapter. No conditions but those that each theorem names.
-/
import Derived.Test.YtljhanhipmnioaaGreatMRa1
import Derived.Test.YtljhanhipmnioaaGreatMRa2
import Derived.Test.YtljhanhipmnioaaGreatMRa3
import Derived.Test.YtljhanhipmnioaaGreatMRa4
import Derived.Test.YtljhanhipmnioaaGreatMRa5
import Derived.Test.YtljhanhipmnioaaGreatMRa6
import Derived.Test.YtljhanhipmnioaaGreatMRa7
import Derived.Test.YtljhanhipmnioaaGreatMRa8
import Derived.Test.YtljhanhipmnioaaGreatMRa9
import Derived.Test.YtljhanhipmnioaaGreatMRa10
import Derived.Test.YtljhanhipmnioaaGreatMRc1
import Derived.Test.YtljhanhipmnioaaGreatMRe1
import Derived.OrdersHeld
import Derived.WalkKit
import Derived.WalkSpells
import Derived.WalkLawsBesides
import Derived.Deep.AppendSrc
import Derived.Laws.CopyOwn
import Derived.Laws.BytesArg
import Derived.Carry
import Derived.Laws.BytesString
import Derived.Deep.SlicePairs
import Derived.Deep.Cut
import Derived.Lib.Hide
import Derived.Test.YtljhanhipmnioaaGreatChecked
import Derived.ChangeKeysEq
import Derived.Deep.MidRow
import Derived.Deep.RegionHeld3
import Derived.OpenShut
import Derived.WalkHide
import Derived.IntWalk
import Derived.StillTailTactics
import Derived.Deep.RegionLaw
import Derived.Deep.RegionWith
import Derived.Deep.QuietTactic
import Derived.BigQuiet
import Derived.Deep.CutBlock
import Derived.Deep.DeepCutAuto
import Derived.Deep.Slices
import Derived.Defers
import Derived.Recover
import Derived.Deep.WholeRow
import Derived.Lib.Bytealg
import Derived.Lib.TrimUEq
import Derived.Lib.MinMaxS
import Derived.LaidEqlPtr
import Derived.Lib.OthersKept
import Derived.Deep.Draws
import Derived.WalkMore
import Derived.Deep.LoopGhost
import Derived.Lib.BufferWrite
import Derived.Lib.UnsafeStr
import Derived.Laws.MakeOwn
import Derived.Laws.Strings3
import Derived.BigRegion
import Derived.Lib.Walk
import Derived.Great.Walk
namespace Go.Proofs.YtljhanhipmnioaaGreat.Rd
open Go.RowKit
set_option linter.unusedVariables false
set_option linter.unusedSimpArgs false
set_option maxRecDepth 100000

open Pt (Pt may enc readPt readE zeroPt be4 be1 pc pv PtV SlA OwnA BT wpList_load_g heap_alloc_at lst_slB one_slB Ext Grew exec_slice_lh yieldsIf_ld)
open Kr (OwnE SlE Enco RowTys)

/-- A copy of bytes. -/
def CpB (l : List UInt8) (w : World) (e : Ending) (w' : World) : Prop := ∃ a cap sp, e = .returned (.slice a l.length cap) ∧ OwnB 5 w' (.slice a l.length cap) l sp ∧ Frm [] w w' ∧ ∀ i ∈ blk (.slice a l.length cap), w.heap.size ≤ i
set_option maxHeartbeats 1000000 in
theorem CopyB_any (v : Value) (l sp : List UInt8) (w : World) (hS : SlB w v l sp) (hl : l.length ≤ 1000000) : Calls Tryz.prog 35 #[v] w (CpB l w) := by
  obtain ⟨a, cap, rfl, _, _⟩ := hS.form
  have f0 : Frm [] w (w.alloc (.cells #[] 5)) := (Frm.refl [] w).alloc _
  have O0 := Lib.hid (own_empty5 w)
  have S0 := Lib.hid (hS.keep f0 (by simp))
  have F0 := Lib.hid f0
  have HL := Lib.hid hl
  clear hS hl f0
  go_enter Tryz.func35, Tryz.ntmps35
  go_wp2_with (at_builtin; refine wpList_append_bytes BT O0.out S0.out (by have := HL.out; simp; omega) rfl (.tmp 3) (.tmp 4) rfl rfl rfl ?_; intro a1 c1 w1 sp1 o1 f1 b1; simp only [List.length_nil, Nat.zero_add, List.nil_append] at o1 b1 ⊢)
  go_ret
  exact ⟨_, _, _, rfl, o1, F0.out.trans f1 (fun i hi => .inr (by simp [blk] at hi; omega)), fun i hi => by rcases b1 i hi with h | h; (simp [blk] at h; omega); (have := F0.out.size; omega)⟩
theorem wpList_alloc27 {ops : Array Oper} {rest : List Oper} {o : Oper} {a : Act} {W : World} {Q : Exit → Act → World → Prop} (g1 : o.guard = none) (h1 : o.op = .alloc 27)
    (k : ∀ g V, TB V g nilS nilS zeroT → Frm [] W V → W.heap.size ≤ g → g < V.heap.size → wpList Tryz.prog ops Q rest (a.put o.dst (.pointer (some ⟨g, 0, none⟩))) V) : wpList Tryz.prog ops Q (o :: rest) a W := by
  refine wpList_val g1 (exec_alloc27 h1 _) ?_
  exact k _ _ (TB.new W nilS nilS zeroT) ((Frm.refl [] W).alloc _) (Nat.le_refl _) (by simp)
def fewT : Tab := ⟨2, [], zeroC, [0]⟩
def lowT : Tab := ⟨1, [oneR], zeroC, [0, 0]⟩
def greatT : Tab := ⟨2, [withName oneR { data := #[65] }], zeroC, [0, 0]⟩
def largeT : Tab := ⟨2, [withSize oneR 65], zeroC, [0, 0]⟩
theorem few_no : mayTE fewT = 2 := by kernel_rfl
theorem low_no : mayTE lowT = 2 := by kernel_rfl
theorem great_no : mayTE greatT = 2 := by kernel_rfl
theorem large_no : mayTE largeT = 2 := by kernel_rfl
theorem fit_few : FitT fewT := ⟨by decide, by decide, by simp [fewT]⟩
theorem fit_low : FitT lowT := ⟨by decide, by decide, by intro x hx; simp [lowT] at hx; subst hx; exact ⟨by decide, by decide⟩⟩
theorem fit_great : FitT greatT := ⟨by decide, by decide, by intro x hx; simp [greatT] at hx; subst hx; exact ⟨by decide, by decide⟩⟩
theorem fit_large : FitT largeT := ⟨by decide, by decide, by intro x hx; simp [largeT] at hx; subst hx; exact ⟨by decide, by decide⟩⟩
theorem read_more : readT (encT bareT ++ [0]) = (zeroT, 4, 24) := by kernel_rfl
theorem read_big : readT ((encT bareT).set 0 255) = (zeroT, 2, 0) := by kernel_rfl
theorem rs_one {w : World} {gb : Nat} {x : Rec} (hx : x.root.ads = []) (hb : RB w gb nilS x) : Rs w (.slice (some ⟨gb, 0, none⟩) 1 1) [x] :=
  ⟨[rowR nilS rfl x hb.2], [], Kr.SlE.of_block (T := 56) encRow (by rw [Kr.flt_one]; exact hb.1) rfl (by decide), rfl, fun i r u h1 h2 => by
    match i with
    | 0 =>
      simp at h1 h2
      subst h1; subst h2
      exact ⟨none, 0, [], by rw [hx]; rfl, by rw [hx]; exact Pt.SlA.nil w, hb.2⟩
    | i + 1 => simp at h1⟩
theorem ints_two {w : World} {gl : Nat} (hl : w.heap[gl]? = some (.cells #[.int .i64 0, .int .i64 0] 3 (0, 0))) : ∃ sp, SlE eI 1 w (.slice (some ⟨gl, 0, none⟩) 2 2) ([0, 0] : List Int) sp := ⟨[], (OwnE.of_heap encI (T := 3) (l := [0, 0]) (sp := []) hl rfl (Nat.le_refl _) rfl (by simp [maxLen])).sl⟩
theorem ints_one {w : World} {gl : Nat} (hl : w.heap[gl]? = some (.cells #[.int .i64 0, .int .i64 0] 3 (0, 0))) : ∃ sp, SlE eI 1 w (.slice (some ⟨gl, 0, none⟩) 1 2) ([0] : List Int) sp := ⟨[.int .i64 0], (OwnE.of_heap encI (T := 3) (l := [0]) (sp := [.int .i64 0]) hl rfl (by decide) rfl (by simp [maxLen])).sl⟩
set_option maxHeartbeats 16000000 in
theorem known_law (w : World) : Calls Tryz.prog 5 #[] w (Yes w) := by
  go_enter Tryz.func5, Tryz.ntmps5
  go_upto_region 2 with (first
    | (go_at_call 33; refine (bareX_any _).mono ?_; rintro r w1 ⟨l1, rfl, hl1, q1, f1⟩)
    | (go_at_call 34; (with_reducible refine (oneX_any w1).mono ?_); rintro r w2 ⟨b2, l2, rfl, hb2, hl2, q2, p2, f2⟩)
    | (go_at_call 34; (with_reducible refine (oneX_any w2).mono ?_); rintro r w3 ⟨b3, l3, rfl, hb3, hl3, q3, p3, f3⟩)
    | (go_at_call 34; (with_reducible refine (oneX_any w3).mono ?_); rintro r w4 ⟨b4, l4, rfl, hb4, hl4, q4, p4, f4⟩)
    | ((with_reducible (show wpList _ _ _ (Oper.mk (some 1) (Op.alloc 27) _ _ _ _ :: _) _ _)); refine wpList_alloc27 rfl rfl ?_; intro g1 V1 m1 k1 s1 u1)
    | ((with_reducible (show wpList _ _ _ (Oper.mk (some 2) (Op.alloc 27) _ _ _ _ :: _) _ _)); refine wpList_alloc27 rfl rfl ?_; intro g2 V2 m2 k2 s2 u2)
    | ((with_reducible (show wpList _ _ _ (Oper.mk (some 3) (Op.alloc 27) _ _ _ _ :: _) _ _)); refine wpList_alloc27 rfl rfl ?_; intro g3 V3 m3 k3 s3 u3)
    | ((with_reducible (show wpList _ _ _ (Oper.mk (some 4) (Op.alloc 27) _ _ _ _ :: _) _ _)); refine wpList_alloc27 rfl rfl ?_; intro g4 V4 m4 k4 s4 u4)
    | ((with_reducible (show wpList _ _ _ (Oper.mk _ (Op.store 27 (Operand.tmp 1) _) _ _ _ _ :: _) _ _)); refine wpList_store27 (vr := nilS) (vl := .slice (some ⟨l1, 0, none⟩) 2 2) (t := bareT) rfl (.tmp 1) (.tmp 8) rfl rfl rfl (((m1.keep0 k2).keep0 k3).keep0 k4) rfl rfl ?_; intro X1 n1 j1)
    | ((with_reducible (show wpList _ _ _ (Oper.mk _ (Op.store 27 (Operand.tmp 2) _) _ _ _ _ :: _) _ _)); refine wpList_store27 (vr := .slice (some ⟨b2, 0, none⟩) 1 1) (vl := .slice (some ⟨l2, 0, none⟩) 2 2) (t := oneT) rfl (.tmp 2) (.tmp 9) rfl rfl rfl (((m2.keep0 k3).keep0 k4).keep j1 (by simp; omega)) rfl rfl ?_; intro X2 n2 j2)
    | ((with_reducible (show wpList _ _ _ (Oper.mk _ (Op.store 27 (Operand.tmp 3) _) _ _ _ _ :: _) _ _)); refine wpList_store27 (vr := .slice (some ⟨b3, 0, none⟩) 1 1) (vl := .slice (some ⟨l3, 0, none⟩) 2 2) (t := oneT) rfl (.tmp 3) (.tmp 10) rfl rfl rfl (((m3.keep0 k4).keep j1 (by simp; omega)).keep j2 (by simp; omega)) rfl rfl ?_; intro X3 n3 j3)
    | ((with_reducible (show wpList _ _ _ (Oper.mk _ (Op.store 27 (Operand.tmp 4) _) _ _ _ _ :: _) _ _)); refine wpList_store27 (vr := .slice (some ⟨b4, 0, none⟩) 1 1) (vl := .slice (some ⟨l4, 0, none⟩) 2 2) (t := oneT) rfl (.tmp 4) (.tmp 11) rfl rfl rfl (((m4.keep j1 (by simp; omega)).keep j2 (by simp; omega)).keep j3 (by simp; omega)) rfl rfl ?_; intro X4 n4 j4))
  have O := Lib.hid (show l1 < w1.heap.size ∧ w1.heap.size ≤ l2 ∧ l2 < b2 ∧ b2 < w2.heap.size ∧ w2.heap.size ≤ l3 ∧ l3 < b3 ∧ b3 < w3.heap.size ∧ w3.heap.size ≤ l4 ∧ l4 < b4 ∧ b4 < w4.heap.size ∧ w4.heap.size ≤ g1 ∧ g1 < g2 ∧ g2 < g3 ∧ g3 < g4 from
    ⟨lt_heap hl1, q2, p2, hb2.lt, q3, p3, hb3.lt, q4, p4, hb4.lt, s1, by omega, by omega, by omega⟩)
  have FX := Lib.hid (show Frm [] w4 X4 from (((((((k1.trans k2 (by simp)).trans k3 (by simp)).trans k4 (by simp)).trans j1 (fun i hi => by have := O.out; simp at hi; omega)).trans j2 (fun i hi => by have := O.out; simp at hi; omega)).trans j3 (fun i hi => by have := O.out; simp at hi; omega)).trans j4 (fun i hi => by have := O.out; simp at hi; omega)))
  have N1 := Lib.hid (((n1.keep j2 (by have := O.out; simp; omega)).keep j3 (by have := O.out; simp; omega)).keep j4 (by have := O.out; simp; omega))
  have N2 := Lib.hid ((n2.keep j3 (by have := O.out; simp; omega)).keep j4 (by have := O.out; simp; omega))
  have N3 := Lib.hid (n3.keep j4 (by have := O.out; simp; omega))
  have N4 := Lib.hid n4
  have HL1 := Lib.hid (FX.out.heap (f4.heap (f3.heap (f2.heap hl1 (by simp)) (by simp)) (by simp)) (by simp))
  have HL2 := Lib.hid (FX.out.heap (f4.heap (f3.heap hl2 (by simp)) (by simp)) (by simp))
  have HL3 := Lib.hid (FX.out.heap (f4.heap hl3 (by simp)) (by simp))
  have HL4 := Lib.hid (FX.out.heap hl4 (by simp))
  have HB2 := Lib.hid (((hb2.keep0 f3).keep0 f4).keep0 FX.out)
  have HB3 := Lib.hid ((hb3.keep0 f4).keep0 FX.out)
  have HB4 := Lib.hid (hb4.keep0 FX.out)
  have F4 := Lib.hid ((((f1.trans f2 (by simp)).trans f3 (by simp)).trans f4 (by simp)).trans FX.out (by simp))
  have SZ := Lib.hid (show w.heap.size ≤ w1.heap.size from f1.size)
  have d1 := N1.out.gets.lives
  have z1 := N1.out.fz 6
  have c2 := N2.out.gets.next
  have z2 := N2.out.fz 0
  clear m1 m2 m3 m4 k1 k2 k3 k4 j1 j2 j3 j4 n1 n2 n3 n4 s1 s2 s3 s4 u1 u2 u3 u4 hl1 hl2 hl3 hl4 hb2 hb3 hb4 f1 f2 f3 f4 q1 q2 q3 q4 p2 p3 p4
  go_upto_region 3 with (fail)
  have M1 := Lib.hid (show TB (X4.setCell ⟨g1, 6, none⟩ (.slice (some ⟨l1, 0, none⟩) 1 2)) g1 nilS (.slice (some ⟨l1, 0, none⟩) 1 2) fewT from TB.setLives N1.out _ [0])
  have J5 := Lib.hid (show Frm [g1] X4 (X4.setCell ⟨g1, 6, none⟩ (.slice (some ⟨l1, 0, none⟩) 1 2)) from (Frm.refl [g1] X4).setCell _ _ (.inl (by simp)))
  clear d1 z1 c2 z2
  generalize X4.setCell ⟨g1, 6, none⟩ (.slice (some ⟨l1, 0, none⟩) 1 2) = X5 at *
  have N2b := Lib.hid (N2.out.keep J5.out (by have := O.out; simp; omega))
  have c2 := N2b.out.gets.next
  have z2 := N2b.out.fz 0
  go_upto_region 4 with (fail)
  have M2 := Lib.hid (show TB (X5.setCell ⟨g2, 0, none⟩ (.int .i64 1)) g2 (.slice (some ⟨b2, 0, none⟩) 1 1) (.slice (some ⟨l2, 0, none⟩) 2 2) lowT from TB.setNext N2b.out 1)
  have J6 := Lib.hid (show Frm [g1, g2] X4 (X5.setCell ⟨g2, 0, none⟩ (.int .i64 1)) from (J5.out.mono (by simp)).setCell _ _ (.inl (by simp)))
  have M1b := Lib.hid (M1.out.keep ((Frm.refl [g2] X5).setCell ⟨g2, 0, none⟩ (.int .i64 1) (.inl (by simp))) (by have := O.out; simp; omega))
  clear c2 z2
  generalize X5.setCell ⟨g2, 0, none⟩ (.int .i64 1) = X6 at *
  have N3b := Lib.hid (N3.out.keep J6.out (by have := O.out; simp; omega))
  have R3 := Lib.hid (HB3.out.keep J6.out (by have := O.out; simp; omega))
  have c3 := N3b.out.gets.recs
  have c4 := R3.out.gets.name
  have z3 := R3.out.fz 1
  go_upto_region 5 with (fail)
  have R3b := Lib.hid (R3.out.setName { data := #[65] })
  have J7 := Lib.hid (show Frm [g1, g2, b3] X4 (X6.setCell ⟨b3, 1, none⟩ (.string { data := #[65] })) from (J6.out.mono (by simp)).setCell _ _ (.inl (by simp)))
  have j67 : Frm [b3] X6 (X6.setCell ⟨b3, 1, none⟩ (.string { data := #[65] })) := (Frm.refl [b3] X6).setCell _ _ (.inl (by simp))
  have M1c := Lib.hid (M1b.out.keep j67 (by have := O.out; simp; omega))
  have M2c := Lib.hid (M2.out.keep j67 (by have := O.out; simp; omega))
  have M3 := Lib.hid (N3b.out.keep j67 (by have := O.out; simp; omega))
  clear c3 c4 z3 j67
  generalize X6.setCell ⟨b3, 1, none⟩ (.string { data := #[65] }) = X7 at *
  have N4b := Lib.hid (N4.out.keep J7.out (by have := O.out; simp; omega))
  have R4 := Lib.hid (HB4.out.keep J7.out (by have := O.out; simp; omega))
  have c3 := N4b.out.gets.recs
  have c4 := R4.out.gets.size
  have z3 := R4.out.fz 3
  go_upto_region 6 with (fail)
  have R4b := Lib.hid (R4.out.setSize 65)
  have J8 := Lib.hid (show Frm [g1, g2, b3, b4] X4 (X7.setCell ⟨b4, 3, none⟩ (.int .i64 65)) from (J7.out.mono (by simp)).setCell _ _ (.inl (by simp)))
  have j78 : Frm [b4] X7 (X7.setCell ⟨b4, 3, none⟩ (.int .i64 65)) := (Frm.refl [b4] X7).setCell _ _ (.inl (by simp))
  have A1 := Lib.hid (M1c.out.keep j78 (by have := O.out; simp; omega))
  have A2 := Lib.hid (M2c.out.keep j78 (by have := O.out; simp; omega))
  have A3 := Lib.hid (M3.out.keep j78 (by have := O.out; simp; omega))
  have A4 := Lib.hid (N4b.out.keep j78 (by have := O.out; simp; omega))
  have R3c := Lib.hid (R3b.out.keep j78 (by have := O.out; simp; omega))
  clear c3 c4 z3 j78
  generalize X7.setCell ⟨b4, 3, none⟩ (.int .i64 65) = Y at *
  have R2c := Lib.hid (HB2.out.keep J8.out (by have := O.out; simp; omega))
  have T1 := Lib.hid (fun z (f : Frm [] Y z) => (show TabV z nilS (.slice (some ⟨l1, 0, none⟩) 1 2) fewT from ⟨Rs.nil z, ints_one (f.heap (J8.out.heap HL1.out (by have := O.out; simp; omega)) (by simp))⟩))
  have T2 := Lib.hid (fun z (f : Frm [] Y z) => (show TabV z (.slice (some ⟨b2, 0, none⟩) 1 1) (.slice (some ⟨l2, 0, none⟩) 2 2) lowT from ⟨rs_one rfl (R2c.out.keep0 f), ints_two (f.heap (J8.out.heap HL2.out (by have := O.out; simp; omega)) (by simp))⟩))
  have T3 := Lib.hid (fun z (f : Frm [] Y z) => (show TabV z (.slice (some ⟨b3, 0, none⟩) 1 1) (.slice (some ⟨l3, 0, none⟩) 2 2) greatT from ⟨rs_one rfl (R3c.out.keep0 f), ints_two (f.heap (J8.out.heap HL3.out (by have := O.out; simp; omega)) (by simp))⟩))
  have T4 := Lib.hid (fun z (f : Frm [] Y z) => (show TabV z (.slice (some ⟨b4, 0, none⟩) 1 1) (.slice (some ⟨l4, 0, none⟩) 2 2) largeT from ⟨rs_one rfl (R4b.out.keep0 f), ints_two (f.heap (J8.out.heap HL4.out (by have := O.out; simp; omega)) (by simp))⟩))
  have FY := Lib.hid (show Frm [] w Y from F4.out.trans J8.out (fun i hi => by have := O.out; have := SZ.out; simp at hi; omega))
  have LA1 := Lib.hid (fun z (f : Frm [] Y z) => (A1.out.keep0 f).gets.all)
  have LA2 := Lib.hid (fun z (f : Frm [] Y z) => (A2.out.keep0 f).gets.all)
  have LA3 := Lib.hid (fun z (f : Frm [] Y z) => (show (Instr.loadAt 27 (.pointer (some ⟨g3, 0, none⟩))).run Tryz.prog z = .ok (tv (.slice (some ⟨b3, 0, none⟩) 1 1) (.slice (some ⟨l3, 0, none⟩) 2 2) greatT) z from (A3.out.keep0 f).gets.all))
  have LA4 := Lib.hid (fun z (f : Frm [] Y z) => (show (Instr.loadAt 27 (.pointer (some ⟨g4, 0, none⟩))).run Tryz.prog z = .ok (tv (.slice (some ⟨b4, 0, none⟩) 1 1) (.slice (some ⟨l4, 0, none⟩) 2 2) largeT) z from (A4.out.keep0 f).gets.all))
  have C1 := Lib.hid (fun z (f : Frm [] Y z) => by have q := CheckT_any _ _ fewT z (T1.out z f) fit_few; rw [few_no] at q; exact q)
  have C2 := Lib.hid (fun z (f : Frm [] Y z) => by have q := CheckT_any _ _ lowT z (T2.out z f) fit_low; rw [low_no] at q; exact q)
  have C3 := Lib.hid (fun z (f : Frm [] Y z) => by have q := CheckT_any _ _ greatT z (T3.out z f) fit_great; rw [great_no] at q; exact q)
  have C4 := Lib.hid (fun z (f : Frm [] Y z) => by have q := CheckT_any _ _ largeT z (T4.out z f) fit_large; rw [large_no] at q; exact q)
  have hB := Lib.hid (fun W vr vl (h : TabV W vr vl bareT) => BytesT_any vr vl bareT W h fit_bare)
  unfold BytesT at hB
  rw [(packT_yes bare_may).1, (packT_yes bare_may).2] at hB
  have hlen : (encT bareT).length = 24 := by rw [enc_bare]; rfl
  rw [hlen] at hB
  have RM := Lib.hid read_more
  have RG := Lib.hid read_big
  have HLE := Lib.hid hlen
  clear hlen N1 N2 N2b N3 N3b N4 N4b HL1 HL2 HL3 HL4 HB2 HB3 HB4 M1 M1b M1c M2 M2c M3 R3 R3b R3c R4 R4b R2c J5 J6 J7 J8 A1 A2 A3 A4 FX F4 T1 T2 T3 T4 O SZ
  generalize encT bareT = le at *
  go_upto_region 7 with (first | (go_at_call 33; refine (bareX_any _).mono ?_; rintro r y1 hb; obtain ⟨ar, al, rfl, o1, e1⟩ := hb.tell) | (go_at_call 17; refine (hB.out _ _ _ o1.v).mono ?_; rintro r y2 ⟨a2, c2, sp2, rfl, o2, e2, n2⟩))
  have E2 := Lib.hid (e1.trans e2 (by simp))
  obtain ⟨gq, rfl⟩ : ∃ gq, a2 = some ⟨gq, 0, none⟩ := by
    obtain ⟨_, ⟨h2, _⟩ | ⟨g', c', h2, _⟩⟩ := id o2
    · cases h2
    · injection h2 with e1; exact ⟨g', e1⟩
  have O2 := Lib.hid o2
  have HCB := Lib.hid (CopyB_any _ le sp2 y2 o2.sl (by rw [HLE.out]; omega))
  unfold CpB at HCB
  rw [HLE.out] at HCB
  have NQ := Lib.hid (show Y.heap.size ≤ gq from Nat.le_trans e1.size (n2 gq (by simp [blk])))
  clear o1 o2 e1 e2 n2 hb
  go_upto_region 9 with (fail)
  go_upto_region 10 with (first
    | (go_at_call 35; refine HCB.out.mono ?_; rintro r y3 ⟨a3, c3, sp3, rfl, o3, e3, n3⟩)
    | (at_builtin; refine wpList_append_bytes BT (o3.keep ((Frm.refl [] y3).alloc _) (by simp)) (Pt.one_slB (b := 0) (heap_alloc_at rfl) rfl) (by rw [HLE.out]; simp) rfl (.tmp 38) (.tmp 39) rfl rfl rfl ?_; intro a4 c4 y4 sp4 o4 e4 n4))
  rw [HLE.out] at o4 n4 ⊢
  have e34 : Frm [] y2 y4 := (e3.trans ((Frm.refl [] y3).alloc _) (by simp)).trans e4 (fun i hi => .inr (n3 i hi))
  have o24 := O2.out.keep e34 (by simp)
  have c0 := o24.cell 0 (by rw [HLE.out]; omega)
  have z0 := o24.frozen 0
  have OB := Lib.hid (o24.store 0 (by rw [HLE.out]; omega) 255 (u := .int .u8 255) rfl)
  have G24 := Lib.hid (show Frm [] Y (y4.setCell ⟨gq, 0, none⟩ (.int .u8 255)) from (E2.out.trans e34 (by simp)).setCell _ _ (.inr NQ.out))
  have OM := Lib.hid (show OwnB 5 (y4.setCell ⟨gq, 0, none⟩ (.int .u8 255)) (.slice a4 25 c4) (le ++ [0]) sp4 from o4.keep ((Frm.refl [gq] y4).setCell ⟨gq, 0, none⟩ (.int .u8 255) (.inl (by simp))) (fun i hi hm => by
    have h2 := O2.out.lt gq (by simp [blk])
    have h3 := e3.size
    rcases n4 i hi with h | h
    · have := n3 i h; simp at hm; omega
    · simp at hm h; omega))
  generalize (le ++ [(0 : UInt8)])[0]! = c00 at *
  clear e34 o24 o3 o4 e3 n3 e4 n4 HCB
  go_upto_region 11 with (fail)
  clear c0 z0
  generalize y4.setCell ⟨gq, 0, none⟩ (.int .u8 255) = Z at *
  go_wp2_with (first
    | (go_at_call 15; refine (awake_any _).mono ?_; rintro r z0 ⟨rfl, e5⟩; have K0 := G24.out.trans e5 (by simp); have k0 := e5)
    | ((with_reducible (show wpList _ _ _ (Oper.mk _ (Op.load 27 (Operand.tmp 1)) _ _ _ _ :: _) _ _)); refine wpList_load_g (by rfl) 27 _ rfl _ rfl (LA1.out _ K0) ?_)
    | ((with_reducible (show wpList _ _ _ (Oper.mk _ (Op.load 27 (Operand.tmp 2)) _ _ _ _ :: _) _ _)); refine wpList_load_g (by rfl) 27 _ rfl _ rfl (LA2.out _ K1) ?_)
    | ((with_reducible (show wpList _ _ _ (Oper.mk _ (Op.load 27 (Operand.tmp 3)) _ _ _ _ :: _) _ _)); refine wpList_load_g (by rfl) 27 _ rfl _ rfl (LA3.out _ K2) ?_)
    | ((with_reducible (show wpList _ _ _ (Oper.mk _ (Op.load 27 (Operand.tmp 4)) _ _ _ _ :: _) _ _)); refine wpList_load_g (by rfl) 27 _ rfl _ rfl (LA4.out _ K3) ?_)
    | (go_at_call 22; (with_reducible refine (C1.out _ K0).mono ?_); rintro r z1 ⟨rfl, e6⟩; have K1 := K0.trans e6 (by simp); have k1 := k0.trans e6 (by simp))
    | (go_at_call 22; (with_reducible refine (C2.out _ K1).mono ?_); rintro r z2 ⟨rfl, e7⟩; have K2 := K1.trans e7 (by simp); have k2 := k1.trans e7 (by simp))
    | (go_at_call 22; (with_reducible refine (C3.out _ K2).mono ?_); rintro r z3 ⟨rfl, e8⟩; have K3 := K2.trans e8 (by simp); have k3 := k2.trans e8 (by simp))
    | (go_at_call 22; (with_reducible refine (C4.out _ K3).mono ?_); rintro r z4 ⟨rfl, e9⟩; have K4 := K3.trans e9 (by simp); have k4 := k3.trans e9 (by simp))
    | (go_at_call 36; (with_reducible refine (fails_yes (.slice a4 25 c4) (le ++ [0]) sp4 4 24 z4 (OM.out.sl.keep k4 (by simp)) (by simp [HLE.out]) RM.out).mono ?_); rintro r z5 ⟨rfl, e10⟩; have K5 := K4.trans e10 (by simp); have k5 := k4.trans e10 (by simp))
    | (go_at_call 36; (with_reducible refine (fails_yes (.slice (some ⟨gq, 0, none⟩) 24 c2) (le.set 0 255) sp2 2 0 z5 (OB.out.sl.keep k5 (by simp)) (by simp [HLE.out]) RG.out).mono ?_); rintro r z6 ⟨rfl, e11⟩))
  go_ret
  exact ⟨rfl, (FY.out.trans K5 (by simp)).trans e11 (by simp)⟩
end Go.Proofs.YtljhanhipmnioaaGreat.Rd
