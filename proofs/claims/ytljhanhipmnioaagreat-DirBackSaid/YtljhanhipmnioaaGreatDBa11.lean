/-
  Dir: Clone. No conditions but those that each theorem names. Dir, the laws: sample. No conditions but those that each theorem names. Dir, the laws: awake. No conditions but those that each theorem names. Dir: Root. No conditions but those that each theorem names. Dir, the laws: the tables of DirBack. No conditions but those that each theorem names. Dir, the laws: DirFull. No conditions but those that each theorem names.
-/
import Derived.Test.YtljhanhipmnioaaGreatDBa1
import Derived.Test.YtljhanhipmnioaaGreatDBa2
import Derived.Test.YtljhanhipmnioaaGreatDBa3
import Derived.Test.YtljhanhipmnioaaGreatDBa4
import Derived.Test.YtljhanhipmnioaaGreatDBa5
import Derived.Test.YtljhanhipmnioaaGreatDBa6
import Derived.Test.YtljhanhipmnioaaGreatDBa7
import Derived.Test.YtljhanhipmnioaaGreatDBa8
import Derived.Test.YtljhanhipmnioaaGreatDBa9
import Derived.Test.YtljhanhipmnioaaGreatDBa10
import Derived.OrdersHeld
import Derived.Deep.RegionHeld
import Derived.WalkKit
import Derived.WalkSpells
import Derived.WalkLawsBesides
import Derived.Deep.AppendSrc
import Derived.Laws.CopyOwn
import Derived.Laws.BytesArg
import Derived.Carry
import Derived.Laws.BytesString
import Derived.Deep.SlicePairs
import Derived.Deep.Cut
import Derived.Lib.Hide
import Derived.Test.YtljhanhipmnioaaGreatChecked
import Derived.ChangeKeysEq
import Derived.Deep.MidRow
import Derived.Deep.RegionHeld3
import Derived.OpenShut
import Derived.WalkHide
import Derived.IntWalk
import Derived.StillTailTactics
import Derived.Deep.RegionLaw
import Derived.Deep.RegionWith
import Derived.Deep.QuietTactic
import Derived.BigQuiet
import Derived.Deep.CutBlock
import Derived.Deep.DeepCutAuto
import Derived.Deep.Slices
import Derived.Defers
import Derived.Recover
import Derived.Deep.WholeRow
import Derived.Deep.Strs
import Derived.ChangeSame
import Derived.Lib.Bytealg
import Derived.Lib.TrimUEq
import Derived.Lib.MinMaxS
import Derived.LaidEqlPtr
import Derived.Lib.OthersKept
import Derived.Deep.Draws
import Derived.WalkMore
import Derived.Deep.LoopGhost
import Derived.Lib.BufferWrite
import Derived.Lib.UnsafeStr
import Derived.Laws.MakeOwn
import Derived.Laws.Strings3
import Derived.BigRegion
import Derived.Lib.Walk
import Derived.Great.Walk
import Derived.Lib.SliceRun
import Derived.Laws.OwnMore
import Derived.Lib.AppendZerosOnto
import Derived.Lib.Overlaps
namespace Go.Proofs.YtljhanhipmnioaaGreat.Rd
open Go.RowKit
set_option linter.unusedVariables false
set_option linter.unusedSimpArgs false
set_option maxRecDepth 100000

open Pt (Pt may enc zeroPt be4 be1 pc pv PtV SlA OwnA BT wpList_load_g heap_alloc_at Ext Grew yieldsIf_ld)
open Kr (OwnE SlE Enco RowTys)

/-- The record that Clone puts in. -/
def clR (n : ByteArray) (s : Rec) (g : Int) : Rec := ⟨0, n, 1, s.size, s.root, g, 0, s.id, 0, 0⟩
theorem bldCl (n : ByteArray) (m g i b l : Int) (x : Option Addr) (y z : Nat) (s : List UInt8) (h : s.length = 32) (W : World) : (Instr.build 56 #[(1, .string n), (2, .int .i64 1), (3, .int .i64 m), (4, pv (.slice x y z) b l s), (5, .int .i64 g), (7, .int .i64 i)]).run Tryz.prog W = .ok (rv (.slice x y z) ⟨0, n, 1, m, ⟨[], b, l, s⟩, g, 0, i, 0, 0⟩) W := by
  iterate 32 (rcases s with _ | ⟨a, s⟩; · simp at h)
  rcases s with _ | ⟨a, s⟩
  · kernel_rfl
  · simp at h
theorem exec_bldCl {o : Oper} {a : Act} {n : ByteArray} {g : Int} {v : Rec} {x : Option Addr} {y z : Nat} (p q r s u k : Operand) (hs : v.root.s.length = 32) (hop : o.op = Op.build 56 #[(1, p), (2, q), (3, r), (4, s), (5, u), (7, k)]) (h1 : a.eval p = .string n) (h2 : a.eval q = .int .i64 1) (h3 : a.eval r = .int .i64 v.size) (h4 : a.eval s = pv (.slice x y z) v.root.b v.root.l v.root.s) (h5 : a.eval u = .int .i64 g) (h6 : a.eval k = .int .i64 v.id) (W : World) : (execOp a.eval o).run Tryz.prog W = .ok (.value (rv (.slice x y z) (clR n v g))) W := by
  have hb := bldCl n v.size g v.id v.root.b v.root.l x y z v.root.s hs W
  have hm : (#[(1, p), (2, q), (3, r), (4, s), (5, u), (7, k)].map fun ((i, x) : Nat × Operand) => (i, a.eval x)) = #[(1, .string n), (2, .int .i64 1), (3, .int .i64 v.size), (4, pv (.slice x y z) v.root.b v.root.l v.root.s), (5, .int .i64 g), (7, .int .i64 v.id)] := by simp [h1, h2, h3, h4, h5, h6]
  simp only [execOp, hop, hm, Sem.run_bind, Sem.run_pure, hb, Result.andThen_ok]
  rfl
def cloneC (t : Tab) (k n : ByteArray) (g : Int) : Int := orL [mayC t ((snapS k && partS n) && wi g 1 2147483648), unl (isF k t.recs) 6, roomC t n]
def cloneT (t : Tab) (k n : ByteArray) (g : Int) : Tab × Int := if cloneC t k n g = 0 then (putT t (clR n (fndR k t.recs) g), 0) else (zeroT, cloneC t k n g)
set_option maxHeartbeats 8000000 in
theorem CloneD_any (vr vl : Value) (t : Tab) (k n : ByteArray) (g : Int) (w : World) (h : TabV w vr vl t) (hf : FitT t) (hk : k.size ≤ 1000) (hn : n.size ≤ 1000) : Calls Tryz.prog 56 #[tv vr vl t, .string k, .string n, .int .i64 g] w (TellE (cloneT t k n g) w) := by
  have F0 := Lib.hid (show Frm [] w ((w.alloc (.cells (tc vr vl t).toArray 27)).alloc (.cells (tc nilS nilS zeroT).toArray 27)) from ((Frm.refl [] w).alloc _).alloc _)
  have BT := Lib.hid ((TB.new w vr vl t).keep0 ((Frm.refl [] _).alloc (.cells (tc nilS nilS zeroT).toArray 27)))
  have R6 := Lib.hid (show TB ((w.alloc (.cells (tc vr vl t).toArray 27)).alloc (.cells (tc nilS nilS zeroT).toArray 27)) (w.heap.size + 1) nilS nilS zeroT from heap_alloc_at (by simp))
  have HFI := Lib.hid (fun z (f : Frm [] w z) => find_any vr vl t k z (h.keep0 f) hf.recs)
  have HT := Lib.hid h
  have HF := Lib.hid hf
  have HNS := Lib.hid hn
  have HV := Lib.hid (fun z => Volume_any n z)
  have HSN := Lib.hid (fun z => Snapshot_any k hk z)
  have HE := Lib.hid (show cloneT t k n g = if cloneC t k n g = 0 then (putT t (clR n (fndR k t.recs) g), 0) else (zeroT, cloneC t k n g) from rfl)
  have HW := Lib.hid (fun (e : cloneC t k n g = 0) => (mayC_may (orL_all0 e _ (by simp : mayC t ((snapS k && partS n) && wi g 1 2147483648) ∈ _))).1)
  have HR := Lib.hid (show cloneC t k n g = orL [mayC t ((snapS k && partS n) && wi g 1 2147483648), unl (isF k t.recs) 6, roomC t n] from rfl)
  have HFF := Lib.hid (fndR_fit hf k)
  rw [tcA]
  generalize (tc vr vl t).toArray = A at *
  generalize cloneT t k n g = res at *
  generalize cloneC t k n g = ec at *
  clear h hf hn
  go_enter Tryz.func56, Tryz.ntmps56
  go_upto_region 1 with ((with_reducible (show wpList _ _ _ (Oper.mk _ (Op.alloc 27) _ _ _ _ :: _) _ _)); refine wpList_val rfl (exec_alloc27 rfl _) ?_)
  try simp only [World.size_alloc]
  generalize (w.alloc (.cells A 27)).alloc (.cells (tc nilS nilS zeroT).toArray 27) = W at *
  have LA := Lib.hid BT.out.gets.all
  go_upto_region 2 with (first
    | ((with_reducible (show wpList _ _ _ (Oper.mk _ (Op.load 27 _) _ _ _ _ :: _) _ _)); refine wpList_load_g (by rfl) 27 _ rfl _ rfl LA.out ?_)
    | (go_at_call 99; refine (HFI.out _ F0.out).mono ?_; rintro r w1 hr; obtain ⟨ua, uc, us, rfl, uS, uh, g1⟩ := hr.own)
    | ((with_reducible (show wpList _ _ _ (Oper.mk _ (Op.alloc 56) _ _ _ _ :: _) _ _)); refine wpList_lay56 rfl rfl rfl (.tmp 10) (.tmp 17) rfl (v := .slice ua (fndR k t.recs).root.ads.length uc) rfl uh rfl rfl ?_))
  have G1 := Lib.hid (show Frm [] W (w1.alloc (.cells (rc (.slice ua (fndR k t.recs).root.ads.length uc) (fndR k t.recs)).toArray 56)) from g1.trans ((Frm.refl [] w1).alloc _) (by simp))
  have XB := Lib.hid (RB.new (w := w1) (v := .slice ua (fndR k t.recs).root.ads.length uc) uh)
  have US := Lib.hid (uS.keep (w' := w1.alloc (.cells (rc (.slice ua (fndR k t.recs).root.ads.length uc) (fndR k t.recs)).toArray 56)) ((Frm.refl [] w1).alloc _) (by simp))
  have UH := Lib.hid uh
  clear g1 uS uh hr
  generalize w1.alloc (.cells (rc (.slice ua (fndR k t.recs).root.ads.length uc) (fndR k t.recs)).toArray 56) = V at *
  have HX := Lib.hid (fun z (f : Frm [] V z) => (XB.out.keep0 f).gets)
  have LV := Lib.hid (fun z (f : Frm [] V z) => ((BT.out.keep0 G1.out).keep0 f).gets.all)
  have FV := Lib.hid (F0.out.trans G1.out (by simp))
  generalize isF k t.recs = fb at *
  generalize fndR k t.recs = x at *
  cases hb1 : snapS k with
  | false =>
    rw [hb1, Bool.false_and, Bool.false_and] at HR
    refine wp_region_held_drew (S := fun z => Frm [] V z) (by kernel_rfl) ((Frm.refl [] V).drew) (fun hHeld => ?_)
    refine wpAnyH_take (i := 0) (oi := ⟨some 19, .load 27 (.tmp 4), _, _, _, none⟩) rfl (by kernel_rfl) (by kernel_rfl) (by kernel_rfl) (fun _ _ _ h => h) (yieldsIf_ld (by rfl) 27 _ rfl _ rfl (fun z hSw => LV.out z hSw)) hHeld ?_
    try simp only [Act.put, List.setIfInBounds_toArray, List.set_cons_zero, List.set_cons_succ]
    refine wpAnyH_take (i := 1) (oi := ⟨some 20, .move (.tmp 1), _, _, _, none⟩) (v := ?_) rfl (by kernel_rfl) (by kernel_rfl) (by kernel_rfl) (fun _ _ _ h => h) (Or.inl ⟨by rfl, ?_⟩) hHeld ?_
    rotate_left
    focus (intro z hSw; clear hSw; go_simp; try with_reducible rfl)
    try simp only [Act.put, List.setIfInBounds_toArray, List.set_cons_zero, List.set_cons_succ]
    refine wpAnyH_take (i := 12) (oi := ⟨some 31, .move (.tmp 11), _, _, _, none⟩) (v := ?_) rfl (by kernel_rfl) (by kernel_rfl) (by kernel_rfl) (fun _ _ _ h => h) (Or.inl ⟨by rfl, ?_⟩) hHeld ?_
    rotate_left
    focus (intro z hSw; clear hSw; go_simp; try with_reducible rfl)
    try simp only [Act.put, List.setIfInBounds_toArray, List.set_cons_zero, List.set_cons_succ]
    refine wpAnyH_take (i := 14) (oi := ⟨some 33, .load 27 (.tmp 4), _, _, _, none⟩) rfl (by kernel_rfl) (by kernel_rfl) (by kernel_rfl) (fun _ _ _ h => h) (yieldsIf_ld (by rfl) 27 _ rfl _ rfl (fun z hSw => LV.out z hSw)) hHeld ?_
    try simp only [Act.put, List.setIfInBounds_toArray, List.set_cons_zero, List.set_cons_succ]
    refine wpAnyH_take (i := 15) (oi := ⟨some 34, .move (.tmp 2), _, _, _, none⟩) (v := ?_) rfl (by kernel_rfl) (by kernel_rfl) (by kernel_rfl) (fun _ _ _ h => h) (Or.inl ⟨by rfl, ?_⟩) hHeld ?_
    rotate_left
    focus (intro z hSw; clear hSw; go_simp; try with_reducible rfl)
    try simp only [Act.put, List.setIfInBounds_toArray, List.set_cons_zero, List.set_cons_succ]
    refine wpAnyH_ready (rs := [2]) (by kernel_rfl) (by simp) ?_
    refine AllReadyH.cons (o := ⟨some 21, .call { callee := .value (.func 122), args := #[.tmp 20], argTypes := #[9] }, _, _, _, none⟩) rfl (fun K hK => ?_) AllReadyH.nil
    go_simp
    refine (HSN.out _).mono ?_
    rintro r wv ⟨rfl, fv⟩
    try rw [hb1]
    refine hK.out _ _ ?_ (fun hNext => ?_)
    · exact hHeld.trans fv (by simp)
    clear hK K hHeld
    have hHeld := hNext
    clear hNext
    try simp only [Act.put, List.setIfInBounds_toArray, List.set_cons_zero, List.set_cons_succ]
    refine wpAnyH_take (i := 3) (oi := ⟨some 22, .move (.tmp 21), _, _, _, none⟩) (v := ?_) rfl (by kernel_rfl) (by kernel_rfl) (by kernel_rfl) (fun _ _ _ h => h) (Or.inl ⟨by rfl, ?_⟩) hHeld ?_
    rotate_left
    focus (intro z hSw; clear hSw; go_simp; try with_reducible rfl)
    try simp only [Act.put, List.setIfInBounds_toArray, List.set_cons_zero, List.set_cons_succ]
    refine wpAnyH_take (i := 4) (oi := ⟨some 23, .move (.tmp 2), _, _, _, some (3, true)⟩) (v := undef) rfl (by kernel_rfl) (by kernel_rfl) (by kernel_rfl) (fun _ _ _ h => h) (Or.inr ⟨by rfl, rfl⟩) hHeld ?_
    try simp only [Act.put, List.setIfInBounds_toArray, List.set_cons_zero, List.set_cons_succ]
    refine wpAnyH_take (i := 5) (oi := ⟨some 24, .call { callee := .value (.func 112), args := #[.tmp 23], argTypes := #[9] }, _, _, _, some (3, true)⟩) (v := undef) rfl (by kernel_rfl) (by kernel_rfl) (by kernel_rfl) (fun _ _ _ h => h) (Or.inr ⟨by rfl, rfl⟩) hHeld ?_
    try simp only [Act.put, List.setIfInBounds_toArray, List.set_cons_zero, List.set_cons_succ]
    refine wpAnyH_take (i := 6) (oi := ⟨some 25, .pick (.tmp 22) (.tmp 24) (.const (.bool false)), _, _, _, none⟩) (v := ?_) rfl (by kernel_rfl) (by kernel_rfl) (by kernel_rfl) (fun _ _ _ h => h) (Or.inl ⟨by rfl, ?_⟩) hHeld ?_
    rotate_left
    focus (intro z hSw; clear hSw; go_simp; try with_reducible rfl)
    try simp only [Act.put, List.setIfInBounds_toArray, List.set_cons_zero, List.set_cons_succ]
    refine wpAnyH_take (i := 7) (oi := ⟨some 26, .move (.tmp 25), _, _, _, none⟩) (v := ?_) rfl (by kernel_rfl) (by kernel_rfl) (by kernel_rfl) (fun _ _ _ h => h) (Or.inl ⟨by rfl, ?_⟩) hHeld ?_
    rotate_left
    focus (intro z hSw; clear hSw; go_simp; try with_reducible rfl)
    try simp only [Act.put, List.setIfInBounds_toArray, List.set_cons_zero, List.set_cons_succ]
    refine wpAnyH_take (i := 8) (oi := ⟨some 27, .move (.tmp 3), _, _, _, some (7, true)⟩) (v := undef) rfl (by kernel_rfl) (by kernel_rfl) (by kernel_rfl) (fun _ _ _ h => h) (Or.inr ⟨by rfl, rfl⟩) hHeld ?_
    try simp only [Act.put, List.setIfInBounds_toArray, List.set_cons_zero, List.set_cons_succ]
    refine wpAnyH_take (i := 9) (oi := ⟨some 28, .call { callee := .value (.func 113), args := #[.tmp 27], argTypes := #[3] }, _, _, _, some (7, true)⟩) (v := undef) rfl (by kernel_rfl) (by kernel_rfl) (by kernel_rfl) (fun _ _ _ h => h) (Or.inr ⟨by rfl, rfl⟩) hHeld ?_
    try simp only [Act.put, List.setIfInBounds_toArray, List.set_cons_zero, List.set_cons_succ]
    refine wpAnyH_take (i := 10) (oi := ⟨some 29, .pick (.tmp 26) (.tmp 28) (.const (.bool false)), _, _, _, none⟩) (v := ?_) rfl (by kernel_rfl) (by kernel_rfl) (by kernel_rfl) (fun _ _ _ h => h) (Or.inl ⟨by rfl, ?_⟩) hHeld ?_
    rotate_left
    focus (intro z hSw; clear hSw; go_simp; try with_reducible rfl)
    try simp only [Act.put, List.setIfInBounds_toArray, List.set_cons_zero, List.set_cons_succ]
    refine wpAnyH_ready (rs := [11]) (by kernel_rfl) (by simp) ?_
    refine AllReadyH.cons (o := ⟨some 30, .call { callee := .value (.func 101), args := #[.tmp 19, .tmp 29], argTypes := #[27, 4] }, _, _, _, none⟩) rfl (fun K hK => ?_) AllReadyH.nil
    go_simp
    refine (may_any vr vl t (false) _ (HT.out.keep0 (FV.out.trans hHeld (by simp))) HF.out).mono ?_
    rintro r wn ⟨rfl, fm⟩
    refine hK.out _ _ ?_ (fun hNext => ?_)
    · exact hHeld.trans fm (by simp)
    clear hK K hHeld
    have hHeld := hNext
    clear hNext
    try simp only [Act.put, List.setIfInBounds_toArray, List.set_cons_zero, List.set_cons_succ]
    refine wpAnyH_ready (rs := [13]) (by kernel_rfl) (by simp) ?_
    refine AllReadyH.cons (o := ⟨some 32, .call { callee := .value (.func 103), args := #[.tmp 31, .const (.int .i64 6)], argTypes := #[4, 32] }, _, _, _, none⟩) rfl (fun K hK => ?_) AllReadyH.nil
    go_simp
    refine (unless_any _ _ _).mono ?_
    rintro r wa ⟨rfl, rfl⟩
    refine hK.out _ _ ?_ (fun hNext => ?_)
    · exact hHeld
    clear hK K hHeld
    have hHeld := hNext
    clear hNext
    try simp only [Act.put, List.setIfInBounds_toArray, List.set_cons_zero, List.set_cons_succ]
    refine wpAnyH_ready (rs := [16]) (by kernel_rfl) (by simp) ?_
    refine AllReadyH.cons (o := ⟨some 35, .call { callee := .value (.func 114), args := #[.tmp 33, .tmp 34], argTypes := #[27, 9] }, _, _, _, none⟩) rfl (fun K hK => ?_) AllReadyH.nil
    go_simp
    refine (room_any vr vl t n _ (HT.out.keep0 (FV.out.trans hHeld (by simp))) HF.out.recs).mono ?_
    rintro r wr ⟨rfl, fr⟩
    refine hK.out _ _ ?_ (fun hNext => ?_)
    · exact hHeld.trans fr (by simp)
    clear hK K hHeld
    have hHeld := hNext
    clear hNext
    try simp only [Act.put, List.setIfInBounds_toArray, List.set_cons_zero, List.set_cons_succ]
    refine wpAnyH_ready (rs := [17]) (by kernel_rfl) (by simp) ?_
    refine AllReadyH.cons (o := ⟨some 36, .buildSlice 166 3 #[(0, .tmp 30), (1, .tmp 32), (2, .tmp 35)], _, _, _, none⟩) rfl (fun K hK => ?_) AllReadyH.nil
    refine step_err3 rfl (.tmp 30) (.tmp 32) (.tmp 35) rfl rfl rfl rfl ?_
    intro v17 w17 s17 f17
    refine hK.out _ _ ?_ (fun hNext => ?_)
    · exact hHeld.trans f17 (by simp)
    clear hK K hHeld
    have hHeld := hNext
    clear hNext
    try simp only [Act.put, List.setIfInBounds_toArray, List.set_cons_zero, List.set_cons_succ]
    refine wpAnyH_ready (rs := [18]) (by kernel_rfl) (by simp) ?_
    refine AllReadyH.cons (o := ⟨some 37, .call { callee := .value (.func 100), args := #[.tmp 36], argTypes := #[166] }, _, _, _, none⟩) rfl (fun K hK => ?_) AllReadyH.nil
    go_simp
    refine (OrE_any _ _ _ _ s17 (by simp)).mono ?_
    rintro r wo ⟨rfl, rfl⟩
    refine hK.out _ _ ?_ (fun hNext => ?_)
    · exact hHeld
    clear hK K hHeld
    have hHeld := hNext
    clear hNext
    try simp only [Act.put, List.setIfInBounds_toArray, List.set_cons_zero, List.set_cons_succ]
    refine wpAnyH_take (i := 19) (oi := ⟨some 12, .assign (.tmp 37), _, _, _, none⟩) (v := ?_) rfl (by kernel_rfl) (by kernel_rfl) (by kernel_rfl) (fun _ _ _ h => h) (Or.inl ⟨by rfl, ?_⟩) hHeld ?_
    rotate_left
    focus (intro z hSw; clear hSw; go_simp; try with_reducible rfl)
    try simp only [Act.put, List.setIfInBounds_toArray, List.set_cons_zero, List.set_cons_succ]
    refine wpAnyH_done (by kernel_rfl) ?_ _
    have FW := Lib.hid hHeld
    clear hHeld
    rw [← HR.out]
    go_upto_region 3 with (fail)
    refine wp_region_late 15 (S := fun z => Frm [] V z) (by kernel_rfl) (FW.out.drew) (fun hHeld => ?_)
    refine wpAnyL_take (i := 0) (oi := ⟨some 38, .load 27 (.tmp 4), _, _, _, none⟩) rfl (by kernel_rfl) (by kernel_rfl) (by kernel_rfl) (fun _ _ _ h => h) (yieldsIf_ld (by rfl) 27 _ rfl _ rfl (fun z hSw => LV.out z hSw)) hHeld ?_
    try simp only [Act.put, List.setIfInBounds_toArray, List.set_cons_zero, List.set_cons_succ]
    refine wpAnyL_takeP (i := 1) (oi := ⟨some 39, .move (.tmp 12), _, _, _, none⟩) (v := ?_) rfl (by kernel_rfl) (by kernel_rfl) (by kernel_rfl) (fun _ _ _ h => h) (Or.inl ⟨by rfl, ?_⟩) hHeld ?_
    rotate_left
    focus (intro z hSw; clear hSw; go_simp; try with_reducible rfl)
    try simp only [Act.put, List.setIfInBounds_toArray, List.set_cons_zero, List.set_cons_succ]
    refine wpAnyL_takeP (i := 2) (oi := ⟨some 40, .move (.tmp 2), _, _, _, none⟩) (v := ?_) rfl (by kernel_rfl) (by kernel_rfl) (by kernel_rfl) (fun _ _ _ h => h) (Or.inl ⟨by rfl, ?_⟩) hHeld ?_
    rotate_left
    focus (intro z hSw; clear hSw; go_simp; try with_reducible rfl)
    try simp only [Act.put, List.setIfInBounds_toArray, List.set_cons_zero, List.set_cons_succ]
    refine wpAnyL_takeP (i := 3) (oi := ⟨some 41, .fieldAddr 56 (.tmp 10) 3, _, _, _, none⟩) (v := ?_) rfl (by kernel_rfl) (by kernel_rfl) (by kernel_rfl) (fun _ _ _ h => h) (Or.inl ⟨by rfl, ?_⟩) hHeld ?_
    rotate_left
    focus (intro z hSw; clear hSw; go_simp; try with_reducible rfl)
    try simp only [Act.put, List.setIfInBounds_toArray, List.set_cons_zero, List.set_cons_succ]
    refine wpAnyL_take (i := 4) (oi := ⟨some 42, .load 3 (.tmp 41), _, _, _, none⟩) (v := ?_) rfl (by kernel_rfl) (by kernel_rfl) (by kernel_rfl) (fun _ _ _ h => h) (Or.inl ⟨by rfl, ?_⟩) hHeld ?_
    rotate_left
    focus (intro z hSw; have q1 := (HX.out z hSw).size; have q2 := (HX.out z hSw).id; clear hSw; go_simp; try with_reducible rfl)
    try simp only [Act.put, List.setIfInBounds_toArray, List.set_cons_zero, List.set_cons_succ]
    refine wpAnyL_takeP (i := 5) (oi := ⟨some 43, .fieldAddr 56 (.tmp 10) 4, _, _, _, none⟩) (v := ?_) rfl (by kernel_rfl) (by kernel_rfl) (by kernel_rfl) (fun _ _ _ h => h) (Or.inl ⟨by rfl, ?_⟩) hHeld ?_
    rotate_left
    focus (intro z hSw; clear hSw; go_simp; try with_reducible rfl)
    try simp only [Act.put, List.setIfInBounds_toArray, List.set_cons_zero, List.set_cons_succ]
    refine wpAnyL_take (i := 6) (oi := ⟨some 44, .load 54 (.tmp 43), _, _, _, none⟩) rfl (by kernel_rfl) (by kernel_rfl) (by kernel_rfl) (fun _ _ _ h => h) (yieldsIf_ld (by rfl) 54 _ rfl _ rfl (fun z hSw => (HX.out z hSw).root)) hHeld ?_
    try simp only [Act.put, List.setIfInBounds_toArray, List.set_cons_zero, List.set_cons_succ]
    refine wpAnyL_takeP (i := 7) (oi := ⟨some 45, .move (.tmp 3), _, _, _, none⟩) (v := ?_) rfl (by kernel_rfl) (by kernel_rfl) (by kernel_rfl) (fun _ _ _ h => h) (Or.inl ⟨by rfl, ?_⟩) hHeld ?_
    rotate_left
    focus (intro z hSw; clear hSw; go_simp; try with_reducible rfl)
    try simp only [Act.put, List.setIfInBounds_toArray, List.set_cons_zero, List.set_cons_succ]
    refine wpAnyL_takeP (i := 8) (oi := ⟨some 46, .fieldAddr 56 (.tmp 10) 0, _, _, _, none⟩) (v := ?_) rfl (by kernel_rfl) (by kernel_rfl) (by kernel_rfl) (fun _ _ _ h => h) (Or.inl ⟨by rfl, ?_⟩) hHeld ?_
    rotate_left
    focus (intro z hSw; clear hSw; go_simp; try with_reducible rfl)
    try simp only [Act.put, List.setIfInBounds_toArray, List.set_cons_zero, List.set_cons_succ]
    refine wpAnyL_take (i := 9) (oi := ⟨some 47, .load 3 (.tmp 46), _, _, _, none⟩) (v := ?_) rfl (by kernel_rfl) (by kernel_rfl) (by kernel_rfl) (fun _ _ _ h => h) (Or.inl ⟨by rfl, ?_⟩) hHeld ?_
    rotate_left
    focus (intro z hSw; have q1 := (HX.out z hSw).size; have q2 := (HX.out z hSw).id; clear hSw; go_simp; try with_reducible rfl)
    try simp only [Act.put, List.setIfInBounds_toArray, List.set_cons_zero, List.set_cons_succ]
    refine wpAnyL_takeP (i := 10) (oi := ⟨some 48, .build 56 #[(1, .tmp 40), (2, .const (.int .i64 1)), (3, .tmp 42), (4, .tmp 44), (5, .tmp 45), (7, .tmp 47)], _, _, _, none⟩) rfl (by kernel_rfl) (by kernel_rfl) (by kernel_rfl) (fun _ _ _ h => h) (Or.inl ⟨by rfl, fun z hSw => exec_bldCl (.tmp 40) _ (.tmp 42) (.tmp 44) (.tmp 45) (.tmp 47) UH.out rfl rfl rfl rfl rfl rfl rfl z⟩) hHeld ?_
    try simp only [Act.put, List.setIfInBounds_toArray, List.set_cons_zero, List.set_cons_succ]
    refine wpAnyL_one (i := 11) (o := ⟨some 49, .call { callee := .value (.func 115), args := #[.tmp 48], argTypes := #[56] }, _, _, _, none⟩) (by kernel_rfl) rfl (fun K hK => ?_)
    have hu := US.out.keep (w' := _) hHeld (by simp)
    go_simp
    refine (put_any (.slice ua x.root.ads.length uc) (clR n x g) us _ hu UH.out).mono ?_
    rintro r w3 ⟨gx, vx, rfl, bx, sx, f3⟩
    refine hK.out _ _ ?_ (fun hNext => ?_)
    · exact hHeld.trans f3 (by simp)
    clear hK K hHeld
    have hHeld := hNext
    clear hNext
    try simp only [Act.put, List.setIfInBounds_toArray, List.set_cons_zero, List.set_cons_succ]
    refine wpAnyL_one (i := 12) (o := ⟨some 50, .call { callee := .value (.func 104), args := #[.tmp 38, .tmp 39, .tmp 49], argTypes := #[27, 32, 128] }, _, _, _, none⟩) (by kernel_rfl) rfl (fun K hK => ?_)
    have F34 := Lib.hid hHeld
    have hch : ec = 0 → ∃ F cap, Value.func (.func 174) #[] #[.pointer (some ⟨gx, 0, none⟩)] = .func (.func F) #[] cap ∧ ChT w3 F cap t (putT t (clR n x g)) := fun e => ⟨174, _, rfl, put1_ch w3 gx vx (clR n x g) us t bx sx HNS.out HFF.out.1 (HW.out e)⟩
    have hd := done_any vr vl _ t _ ec w3 (HT.out.keep0 (FV.out.trans hHeld (by simp))) HF.out hch
    rw [← HE.out] at hd
    have HD := Lib.hid hd
    clear hd hch
    go_simp
    refine HD.out.mono ?_
    rintro r w4 ⟨vr4, vl4, rfl, o4, f4⟩
    refine hK.out _ _ ?_ (fun hNext => ?_)
    · exact hHeld.trans f4 (by simp)
    clear hK K hHeld
    have hHeld := hNext
    clear hNext
    try simp only [Act.put, List.setIfInBounds_toArray, List.set_cons_zero, List.set_cons_succ]
    refine wpAnyL_takeP (i := 13) (oi := ⟨some 51, .extract (.tmp 50) 0, _, _, _, none⟩) (v := ?_) rfl (by kernel_rfl) (by kernel_rfl) (by kernel_rfl) (fun _ _ _ h => h) (Or.inl ⟨by rfl, ?_⟩) hHeld ?_
    rotate_left
    focus (intro z hSw; clear hSw; go_simp; try with_reducible rfl)
    try simp only [Act.put, List.setIfInBounds_toArray, List.set_cons_zero, List.set_cons_succ]
    refine wpAnyL_takeP (i := 14) (oi := ⟨some 52, .extract (.tmp 50) 1, _, _, _, none⟩) (v := ?_) rfl (by kernel_rfl) (by kernel_rfl) (by kernel_rfl) (fun _ _ _ h => h) (Or.inl ⟨by rfl, ?_⟩) hHeld ?_
    rotate_left
    focus (intro z hSw; clear hSw; go_simp; try with_reducible rfl)
    try simp only [Act.put, List.setIfInBounds_toArray, List.set_cons_zero, List.set_cons_succ]
    refine wpAnyL_last (o := ⟨none, .store 27 (.tmp 8) (.tmp 51), _, _, _, none⟩) (by kernel_rfl) rfl (by simp) (fun K hK => ?_)
    refine step_store27 rfl (.tmp 8) (.tmp 51) rfl o4.ones.1 o4.ones.2 ((R6.out.keep0 G1.out).keep0 (F34.out.trans f4 (by simp))) rfl rfl (fun w8 B8 f8 => ?_)
    refine hK.out _ _ ?_
    clear hK K hHeld
    try simp only [Act.put, List.setIfInBounds_toArray, List.set_cons_zero, List.set_cons_succ]
    refine wpAny_take (i := 16) (oi := ⟨some 9, .assign (.tmp 52), _, _, _, none⟩) (v := ?_) rfl (by kernel_rfl) (by kernel_rfl) (by kernel_rfl) (fun _ _ _ h => h) (Or.inl ⟨by rfl, ?_⟩) ?_
    rotate_left
    focus (intro z; go_simp; try with_reducible rfl)
    try simp only [Act.put, List.setIfInBounds_toArray, List.set_cons_zero, List.set_cons_succ]
    refine wpAny_done (by kernel_rfl) ?_ _
    have b8 := B8
    have SZ := Lib.hid (show w.heap.size + 1 < W.heap.size from R6.out.lt)
    go_wp2_with fail
    refine bodyPost_ret (results_cell_slot (p := 8) (q := 9) rfl _ _ rfl rfl (run_loadVar_row w8 (w.heap.size + 1) 27 27 _ (0, 0) _ b8 Tryz.underlying27 rfl (by rw [i27]; simp [tc]))) rfl ?_
    exact ⟨_, _, rfl, (o4.keep f8 (fun i hi => .inl (by have := SZ.out; have := G1.out.size; have := F34.out.size; simp at hi; omega))).base (Nat.le_trans FV.out.size F34.out.size), ((FV.out.trans F34.out (by simp)).trans f4 (by simp)).trans f8 (fun i hi => .inr (by simp at hi; omega))⟩
  | true =>
    rw [hb1, Bool.true_and] at HR
    cases hb2 : partS n with
    | false =>
      rw [hb2, Bool.false_and] at HR
      refine wp_region_held_drew (S := fun z => Frm [] V z) (by kernel_rfl) ((Frm.refl [] V).drew) (fun hHeld => ?_)
      refine wpAnyH_take (i := 0) (oi := ⟨some 19, .load 27 (.tmp 4), _, _, _, none⟩) rfl (by kernel_rfl) (by kernel_rfl) (by kernel_rfl) (fun _ _ _ h => h) (yieldsIf_ld (by rfl) 27 _ rfl _ rfl (fun z hSw => LV.out z hSw)) hHeld ?_
      try simp only [Act.put, List.setIfInBounds_toArray, List.set_cons_zero, List.set_cons_succ]
      refine wpAnyH_take (i := 1) (oi := ⟨some 20, .move (.tmp 1), _, _, _, none⟩) (v := ?_) rfl (by kernel_rfl) (by kernel_rfl) (by kernel_rfl) (fun _ _ _ h => h) (Or.inl ⟨by rfl, ?_⟩) hHeld ?_
      rotate_left
      focus (intro z hSw; clear hSw; go_simp; try with_reducible rfl)
      try simp only [Act.put, List.setIfInBounds_toArray, List.set_cons_zero, List.set_cons_succ]
      refine wpAnyH_take (i := 12) (oi := ⟨some 31, .move (.tmp 11), _, _, _, none⟩) (v := ?_) rfl (by kernel_rfl) (by kernel_rfl) (by kernel_rfl) (fun _ _ _ h => h) (Or.inl ⟨by rfl, ?_⟩) hHeld ?_
      rotate_left
      focus (intro z hSw; clear hSw; go_simp; try with_reducible rfl)
      try simp only [Act.put, List.setIfInBounds_toArray, List.set_cons_zero, List.set_cons_succ]
      refine wpAnyH_take (i := 14) (oi := ⟨some 33, .load 27 (.tmp 4), _, _, _, none⟩) rfl (by kernel_rfl) (by kernel_rfl) (by kernel_rfl) (fun _ _ _ h => h) (yieldsIf_ld (by rfl) 27 _ rfl _ rfl (fun z hSw => LV.out z hSw)) hHeld ?_
      try simp only [Act.put, List.setIfInBounds_toArray, List.set_cons_zero, List.set_cons_succ]
      refine wpAnyH_take (i := 15) (oi := ⟨some 34, .move (.tmp 2), _, _, _, none⟩) (v := ?_) rfl (by kernel_rfl) (by kernel_rfl) (by kernel_rfl) (fun _ _ _ h => h) (Or.inl ⟨by rfl, ?_⟩) hHeld ?_
      rotate_left
      focus (intro z hSw; clear hSw; go_simp; try with_reducible rfl)
      try simp only [Act.put, List.setIfInBounds_toArray, List.set_cons_zero, List.set_cons_succ]
      refine wpAnyH_ready (rs := [2]) (by kernel_rfl) (by simp) ?_
      refine AllReadyH.cons (o := ⟨some 21, .call { callee := .value (.func 122), args := #[.tmp 20], argTypes := #[9] }, _, _, _, none⟩) rfl (fun K hK => ?_) AllReadyH.nil
      go_simp
      refine (HSN.out _).mono ?_
      rintro r wv ⟨rfl, fv⟩
      try rw [hb1]
      refine hK.out _ _ ?_ (fun hNext => ?_)
      · exact hHeld.trans fv (by simp)
      clear hK K hHeld
      have hHeld := hNext
      clear hNext
      try simp only [Act.put, List.setIfInBounds_toArray, List.set_cons_zero, List.set_cons_succ]
      refine wpAnyH_take (i := 3) (oi := ⟨some 22, .move (.tmp 21), _, _, _, none⟩) (v := ?_) rfl (by kernel_rfl) (by kernel_rfl) (by kernel_rfl) (fun _ _ _ h => h) (Or.inl ⟨by rfl, ?_⟩) hHeld ?_
      rotate_left
      focus (intro z hSw; clear hSw; go_simp; try with_reducible rfl)
      try simp only [Act.put, List.setIfInBounds_toArray, List.set_cons_zero, List.set_cons_succ]
      refine wpAnyH_take (i := 4) (oi := ⟨some 23, .move (.tmp 2), _, _, _, some (3, true)⟩) (v := ?_) rfl (by kernel_rfl) (by kernel_rfl) (by kernel_rfl) (fun _ _ _ h => h) (Or.inl ⟨by rfl, ?_⟩) hHeld ?_
      rotate_left
      focus (intro z hSw; clear hSw; go_simp; try with_reducible rfl)
      try simp only [Act.put, List.setIfInBounds_toArray, List.set_cons_zero, List.set_cons_succ]
      refine wpAnyH_ready (rs := [5]) (by kernel_rfl) (by simp) ?_
      refine AllReadyH.cons (o := ⟨some 24, .call { callee := .value (.func 112), args := #[.tmp 23], argTypes := #[9] }, _, _, _, some (3, true)⟩) rfl (fun K hK => ?_) AllReadyH.nil
      go_simp
      refine (HV.out _).mono ?_
      rintro r wu ⟨rfl, fu⟩
      try rw [hb2]
      refine hK.out _ _ ?_ (fun hNext => ?_)
      · exact hHeld.trans fu (by simp)
      clear hK K hHeld
      have hHeld := hNext
      clear hNext
      try simp only [Act.put, List.setIfInBounds_toArray, List.set_cons_zero, List.set_cons_succ]
      refine wpAnyH_take (i := 6) (oi := ⟨some 25, .pick (.tmp 22) (.tmp 24) (.const (.bool false)), _, _, _, none⟩) (v := ?_) rfl (by kernel_rfl) (by kernel_rfl) (by kernel_rfl) (fun _ _ _ h => h) (Or.inl ⟨by rfl, ?_⟩) hHeld ?_
      rotate_left
      focus (intro z hSw; clear hSw; go_simp; try with_reducible rfl)
      try simp only [Act.put, List.setIfInBounds_toArray, List.set_cons_zero, List.set_cons_succ]
      refine wpAnyH_take (i := 7) (oi := ⟨some 26, .move (.tmp 25), _, _, _, none⟩) (v := ?_) rfl (by kernel_rfl) (by kernel_rfl) (by kernel_rfl) (fun _ _ _ h => h) (Or.inl ⟨by rfl, ?_⟩) hHeld ?_
      rotate_left
      focus (intro z hSw; clear hSw; go_simp; try with_reducible rfl)
      try simp only [Act.put, List.setIfInBounds_toArray, List.set_cons_zero, List.set_cons_succ]
      refine wpAnyH_take (i := 8) (oi := ⟨some 27, .move (.tmp 3), _, _, _, some (7, true)⟩) (v := undef) rfl (by kernel_rfl) (by kernel_rfl) (by kernel_rfl) (fun _ _ _ h => h) (Or.inr ⟨by rfl, rfl⟩) hHeld ?_
      try simp only [Act.put, List.setIfInBounds_toArray, List.set_cons_zero, List.set_cons_succ]
      refine wpAnyH_take (i := 9) (oi := ⟨some 28, .call { callee := .value (.func 113), args := #[.tmp 27], argTypes := #[3] }, _, _, _, some (7, true)⟩) (v := undef) rfl (by kernel_rfl) (by kernel_rfl) (by kernel_rfl) (fun _ _ _ h => h) (Or.inr ⟨by rfl, rfl⟩) hHeld ?_
      try simp only [Act.put, List.setIfInBounds_toArray, List.set_cons_zero, List.set_cons_succ]
      refine wpAnyH_take (i := 10) (oi := ⟨some 29, .pick (.tmp 26) (.tmp 28) (.const (.bool false)), _, _, _, none⟩) (v := ?_) rfl (by kernel_rfl) (by kernel_rfl) (by kernel_rfl) (fun _ _ _ h => h) (Or.inl ⟨by rfl, ?_⟩) hHeld ?_
      rotate_left
      focus (intro z hSw; clear hSw; go_simp; try with_reducible rfl)
      try simp only [Act.put, List.setIfInBounds_toArray, List.set_cons_zero, List.set_cons_succ]
      refine wpAnyH_ready (rs := [11]) (by kernel_rfl) (by simp) ?_
      refine AllReadyH.cons (o := ⟨some 30, .call { callee := .value (.func 101), args := #[.tmp 19, .tmp 29], argTypes := #[27, 4] }, _, _, _, none⟩) rfl (fun K hK => ?_) AllReadyH.nil
      go_simp
      refine (may_any vr vl t (false) _ (HT.out.keep0 (FV.out.trans hHeld (by simp))) HF.out).mono ?_
      rintro r wn ⟨rfl, fm⟩
      refine hK.out _ _ ?_ (fun hNext => ?_)
      · exact hHeld.trans fm (by simp)
      clear hK K hHeld
      have hHeld := hNext
      clear hNext
      try simp only [Act.put, List.setIfInBounds_toArray, List.set_cons_zero, List.set_cons_succ]
      refine wpAnyH_ready (rs := [13]) (by kernel_rfl) (by simp) ?_
      refine AllReadyH.cons (o := ⟨some 32, .call { callee := .value (.func 103), args := #[.tmp 31, .const (.int .i64 6)], argTypes := #[4, 32] }, _, _, _, none⟩) rfl (fun K hK => ?_) AllReadyH.nil
      go_simp
      refine (unless_any _ _ _).mono ?_
      rintro r wa ⟨rfl, rfl⟩
      refine hK.out _ _ ?_ (fun hNext => ?_)
      · exact hHeld
      clear hK K hHeld
      have hHeld := hNext
      clear hNext
      try simp only [Act.put, List.setIfInBounds_toArray, List.set_cons_zero, List.set_cons_succ]
      refine wpAnyH_ready (rs := [16]) (by kernel_rfl) (by simp) ?_
      refine AllReadyH.cons (o := ⟨some 35, .call { callee := .value (.func 114), args := #[.tmp 33, .tmp 34], argTypes := #[27, 9] }, _, _, _, none⟩) rfl (fun K hK => ?_) AllReadyH.nil
      go_simp
      refine (room_any vr vl t n _ (HT.out.keep0 (FV.out.trans hHeld (by simp))) HF.out.recs).mono ?_
      rintro r wr ⟨rfl, fr⟩
      refine hK.out _ _ ?_ (fun hNext => ?_)
      · exact hHeld.trans fr (by simp)
      clear hK K hHeld
      have hHeld := hNext
      clear hNext
      try simp only [Act.put, List.setIfInBounds_toArray, List.set_cons_zero, List.set_cons_succ]
      refine wpAnyH_ready (rs := [17]) (by kernel_rfl) (by simp) ?_
      refine AllReadyH.cons (o := ⟨some 36, .buildSlice 166 3 #[(0, .tmp 30), (1, .tmp 32), (2, .tmp 35)], _, _, _, none⟩) rfl (fun K hK => ?_) AllReadyH.nil
      refine step_err3 rfl (.tmp 30) (.tmp 32) (.tmp 35) rfl rfl rfl rfl ?_
      intro v17 w17 s17 f17
      refine hK.out _ _ ?_ (fun hNext => ?_)
      · exact hHeld.trans f17 (by simp)
      clear hK K hHeld
      have hHeld := hNext
      clear hNext
      try simp only [Act.put, List.setIfInBounds_toArray, List.set_cons_zero, List.set_cons_succ]
      refine wpAnyH_ready (rs := [18]) (by kernel_rfl) (by simp) ?_
      refine AllReadyH.cons (o := ⟨some 37, .call { callee := .value (.func 100), args := #[.tmp 36], argTypes := #[166] }, _, _, _, none⟩) rfl (fun K hK => ?_) AllReadyH.nil
      go_simp
      refine (OrE_any _ _ _ _ s17 (by simp)).mono ?_
      rintro r wo ⟨rfl, rfl⟩
      refine hK.out _ _ ?_ (fun hNext => ?_)
      · exact hHeld
      clear hK K hHeld
      have hHeld := hNext
      clear hNext
      try simp only [Act.put, List.setIfInBounds_toArray, List.set_cons_zero, List.set_cons_succ]
      refine wpAnyH_take (i := 19) (oi := ⟨some 12, .assign (.tmp 37), _, _, _, none⟩) (v := ?_) rfl (by kernel_rfl) (by kernel_rfl) (by kernel_rfl) (fun _ _ _ h => h) (Or.inl ⟨by rfl, ?_⟩) hHeld ?_
      rotate_left
      focus (intro z hSw; clear hSw; go_simp; try with_reducible rfl)
      try simp only [Act.put, List.setIfInBounds_toArray, List.set_cons_zero, List.set_cons_succ]
      refine wpAnyH_done (by kernel_rfl) ?_ _
      have FW := Lib.hid hHeld
      clear hHeld
      rw [← HR.out]
      go_upto_region 3 with (fail)
      refine wp_region_late 15 (S := fun z => Frm [] V z) (by kernel_rfl) (FW.out.drew) (fun hHeld => ?_)
      refine wpAnyL_take (i := 0) (oi := ⟨some 38, .load 27 (.tmp 4), _, _, _, none⟩) rfl (by kernel_rfl) (by kernel_rfl) (by kernel_rfl) (fun _ _ _ h => h) (yieldsIf_ld (by rfl) 27 _ rfl _ rfl (fun z hSw => LV.out z hSw)) hHeld ?_
      try simp only [Act.put, List.setIfInBounds_toArray, List.set_cons_zero, List.set_cons_succ]
      refine wpAnyL_takeP (i := 1) (oi := ⟨some 39, .move (.tmp 12), _, _, _, none⟩) (v := ?_) rfl (by kernel_rfl) (by kernel_rfl) (by kernel_rfl) (fun _ _ _ h => h) (Or.inl ⟨by rfl, ?_⟩) hHeld ?_
      rotate_left
      focus (intro z hSw; clear hSw; go_simp; try with_reducible rfl)
      try simp only [Act.put, List.setIfInBounds_toArray, List.set_cons_zero, List.set_cons_succ]
      refine wpAnyL_takeP (i := 2) (oi := ⟨some 40, .move (.tmp 2), _, _, _, none⟩) (v := ?_) rfl (by kernel_rfl) (by kernel_rfl) (by kernel_rfl) (fun _ _ _ h => h) (Or.inl ⟨by rfl, ?_⟩) hHeld ?_
      rotate_left
      focus (intro z hSw; clear hSw; go_simp; try with_reducible rfl)
      try simp only [Act.put, List.setIfInBounds_toArray, List.set_cons_zero, List.set_cons_succ]
      refine wpAnyL_takeP (i := 3) (oi := ⟨some 41, .fieldAddr 56 (.tmp 10) 3, _, _, _, none⟩) (v := ?_) rfl (by kernel_rfl) (by kernel_rfl) (by kernel_rfl) (fun _ _ _ h => h) (Or.inl ⟨by rfl, ?_⟩) hHeld ?_
      rotate_left
      focus (intro z hSw; clear hSw; go_simp; try with_reducible rfl)
      try simp only [Act.put, List.setIfInBounds_toArray, List.set_cons_zero, List.set_cons_succ]
      refine wpAnyL_take (i := 4) (oi := ⟨some 42, .load 3 (.tmp 41), _, _, _, none⟩) (v := ?_) rfl (by kernel_rfl) (by kernel_rfl) (by kernel_rfl) (fun _ _ _ h => h) (Or.inl ⟨by rfl, ?_⟩) hHeld ?_
      rotate_left
      focus (intro z hSw; have q1 := (HX.out z hSw).size; have q2 := (HX.out z hSw).id; clear hSw; go_simp; try with_reducible rfl)
      try simp only [Act.put, List.setIfInBounds_toArray, List.set_cons_zero, List.set_cons_succ]
      refine wpAnyL_takeP (i := 5) (oi := ⟨some 43, .fieldAddr 56 (.tmp 10) 4, _, _, _, none⟩) (v := ?_) rfl (by kernel_rfl) (by kernel_rfl) (by kernel_rfl) (fun _ _ _ h => h) (Or.inl ⟨by rfl, ?_⟩) hHeld ?_
      rotate_left
      focus (intro z hSw; clear hSw; go_simp; try with_reducible rfl)
      try simp only [Act.put, List.setIfInBounds_toArray, List.set_cons_zero, List.set_cons_succ]
      refine wpAnyL_take (i := 6) (oi := ⟨some 44, .load 54 (.tmp 43), _, _, _, none⟩) rfl (by kernel_rfl) (by kernel_rfl) (by kernel_rfl) (fun _ _ _ h => h) (yieldsIf_ld (by rfl) 54 _ rfl _ rfl (fun z hSw => (HX.out z hSw).root)) hHeld ?_
      try simp only [Act.put, List.setIfInBounds_toArray, List.set_cons_zero, List.set_cons_succ]
      refine wpAnyL_takeP (i := 7) (oi := ⟨some 45, .move (.tmp 3), _, _, _, none⟩) (v := ?_) rfl (by kernel_rfl) (by kernel_rfl) (by kernel_rfl) (fun _ _ _ h => h) (Or.inl ⟨by rfl, ?_⟩) hHeld ?_
      rotate_left
      focus (intro z hSw; clear hSw; go_simp; try with_reducible rfl)
      try simp only [Act.put, List.setIfInBounds_toArray, List.set_cons_zero, List.set_cons_succ]
      refine wpAnyL_takeP (i := 8) (oi := ⟨some 46, .fieldAddr 56 (.tmp 10) 0, _, _, _, none⟩) (v := ?_) rfl (by kernel_rfl) (by kernel_rfl) (by kernel_rfl) (fun _ _ _ h => h) (Or.inl ⟨by rfl, ?_⟩) hHeld ?_
      rotate_left
      focus (intro z hSw; clear hSw; go_simp; try with_reducible rfl)
      try simp only [Act.put, List.setIfInBounds_toArray, List.set_cons_zero, List.set_cons_succ]
      refine wpAnyL_take (i := 9) (oi := ⟨some 47, .load 3 (.tmp 46), _, _, _, none⟩) (v := ?_) rfl (by kernel_rfl) (by kernel_rfl) (by kernel_rfl) (fun _ _ _ h => h) (Or.inl ⟨by rfl, ?_⟩) hHeld ?_
      rotate_left
      focus (intro z hSw; have q1 := (HX.out z hSw).size; have q2 := (HX.out z hSw).id; clear hSw; go_simp; try with_reducible rfl)
      try simp only [Act.put, List.setIfInBounds_toArray, List.set_cons_zero, List.set_cons_succ]
      refine wpAnyL_takeP (i := 10) (oi := ⟨some 48, .build 56 #[(1, .tmp 40), (2, .const (.int .i64 1)), (3, .tmp 42), (4, .tmp 44), (5, .tmp 45), (7, .tmp 47)], _, _, _, none⟩) rfl (by kernel_rfl) (by kernel_rfl) (by kernel_rfl) (fun _ _ _ h => h) (Or.inl ⟨by rfl, fun z hSw => exec_bldCl (.tmp 40) _ (.tmp 42) (.tmp 44) (.tmp 45) (.tmp 47) UH.out rfl rfl rfl rfl rfl rfl rfl z⟩) hHeld ?_
      try simp only [Act.put, List.setIfInBounds_toArray, List.set_cons_zero, List.set_cons_succ]
      refine wpAnyL_one (i := 11) (o := ⟨some 49, .call { callee := .value (.func 115), args := #[.tmp 48], argTypes := #[56] }, _, _, _, none⟩) (by kernel_rfl) rfl (fun K hK => ?_)
      have hu := US.out.keep (w' := _) hHeld (by simp)
      go_simp
      refine (put_any (.slice ua x.root.ads.length uc) (clR n x g) us _ hu UH.out).mono ?_
      rintro r w3 ⟨gx, vx, rfl, bx, sx, f3⟩
      refine hK.out _ _ ?_ (fun hNext => ?_)
      · exact hHeld.trans f3 (by simp)
      clear hK K hHeld
      have hHeld := hNext
      clear hNext
      try simp only [Act.put, List.setIfInBounds_toArray, List.set_cons_zero, List.set_cons_succ]
      refine wpAnyL_one (i := 12) (o := ⟨some 50, .call { callee := .value (.func 104), args := #[.tmp 38, .tmp 39, .tmp 49], argTypes := #[27, 32, 128] }, _, _, _, none⟩) (by kernel_rfl) rfl (fun K hK => ?_)
      have F34 := Lib.hid hHeld
      have hch : ec = 0 → ∃ F cap, Value.func (.func 174) #[] #[.pointer (some ⟨gx, 0, none⟩)] = .func (.func F) #[] cap ∧ ChT w3 F cap t (putT t (clR n x g)) := fun e => ⟨174, _, rfl, put1_ch w3 gx vx (clR n x g) us t bx sx HNS.out HFF.out.1 (HW.out e)⟩
      have hd := done_any vr vl _ t _ ec w3 (HT.out.keep0 (FV.out.trans hHeld (by simp))) HF.out hch
      rw [← HE.out] at hd
      have HD := Lib.hid hd
      clear hd hch
      go_simp
      refine HD.out.mono ?_
      rintro r w4 ⟨vr4, vl4, rfl, o4, f4⟩
      refine hK.out _ _ ?_ (fun hNext => ?_)
      · exact hHeld.trans f4 (by simp)
      clear hK K hHeld
      have hHeld := hNext
      clear hNext
      try simp only [Act.put, List.setIfInBounds_toArray, List.set_cons_zero, List.set_cons_succ]
      refine wpAnyL_takeP (i := 13) (oi := ⟨some 51, .extract (.tmp 50) 0, _, _, _, none⟩) (v := ?_) rfl (by kernel_rfl) (by kernel_rfl) (by kernel_rfl) (fun _ _ _ h => h) (Or.inl ⟨by rfl, ?_⟩) hHeld ?_
      rotate_left
      focus (intro z hSw; clear hSw; go_simp; try with_reducible rfl)
      try simp only [Act.put, List.setIfInBounds_toArray, List.set_cons_zero, List.set_cons_succ]
      refine wpAnyL_takeP (i := 14) (oi := ⟨some 52, .extract (.tmp 50) 1, _, _, _, none⟩) (v := ?_) rfl (by kernel_rfl) (by kernel_rfl) (by kernel_rfl) (fun _ _ _ h => h) (Or.inl ⟨by rfl, ?_⟩) hHeld ?_
      rotate_left
      focus (intro z hSw; clear hSw; go_simp; try with_reducible rfl)
      try simp only [Act.put, List.setIfInBounds_toArray, List.set_cons_zero, List.set_cons_succ]
      refine wpAnyL_last (o := ⟨none, .store 27 (.tmp 8) (.tmp 51), _, _, _, none⟩) (by kernel_rfl) rfl (by simp) (fun K hK => ?_)
      refine step_store27 rfl (.tmp 8) (.tmp 51) rfl o4.ones.1 o4.ones.2 ((R6.out.keep0 G1.out).keep0 (F34.out.trans f4 (by simp))) rfl rfl (fun w8 B8 f8 => ?_)
      refine hK.out _ _ ?_
      clear hK K hHeld
      try simp only [Act.put, List.setIfInBounds_toArray, List.set_cons_zero, List.set_cons_succ]
      refine wpAny_take (i := 16) (oi := ⟨some 9, .assign (.tmp 52), _, _, _, none⟩) (v := ?_) rfl (by kernel_rfl) (by kernel_rfl) (by kernel_rfl) (fun _ _ _ h => h) (Or.inl ⟨by rfl, ?_⟩) ?_
      rotate_left
      focus (intro z; go_simp; try with_reducible rfl)
      try simp only [Act.put, List.setIfInBounds_toArray, List.set_cons_zero, List.set_cons_succ]
      refine wpAny_done (by kernel_rfl) ?_ _
      have b8 := B8
      have SZ := Lib.hid (show w.heap.size + 1 < W.heap.size from R6.out.lt)
      go_wp2_with fail
      refine bodyPost_ret (results_cell_slot (p := 8) (q := 9) rfl _ _ rfl rfl (run_loadVar_row w8 (w.heap.size + 1) 27 27 _ (0, 0) _ b8 Tryz.underlying27 rfl (by rw [i27]; simp [tc]))) rfl ?_
      exact ⟨_, _, rfl, (o4.keep f8 (fun i hi => .inl (by have := SZ.out; have := G1.out.size; have := F34.out.size; simp at hi; omega))).base (Nat.le_trans FV.out.size F34.out.size), ((FV.out.trans F34.out (by simp)).trans f4 (by simp)).trans f8 (fun i hi => .inr (by simp at hi; omega))⟩
    | true =>
      rw [hb2, Bool.true_and] at HR
      refine wp_region_held_drew (S := fun z => Frm [] V z) (by kernel_rfl) ((Frm.refl [] V).drew) (fun hHeld => ?_)
      refine wpAnyH_take (i := 0) (oi := ⟨some 19, .load 27 (.tmp 4), _, _, _, none⟩) rfl (by kernel_rfl) (by kernel_rfl) (by kernel_rfl) (fun _ _ _ h => h) (yieldsIf_ld (by rfl) 27 _ rfl _ rfl (fun z hSw => LV.out z hSw)) hHeld ?_
      try simp only [Act.put, List.setIfInBounds_toArray, List.set_cons_zero, List.set_cons_succ]
      refine wpAnyH_take (i := 1) (oi := ⟨some 20, .move (.tmp 1), _, _, _, none⟩) (v := ?_) rfl (by kernel_rfl) (by kernel_rfl) (by kernel_rfl) (fun _ _ _ h => h) (Or.inl ⟨by rfl, ?_⟩) hHeld ?_
      rotate_left
      focus (intro z hSw; clear hSw; go_simp; try with_reducible rfl)
      try simp only [Act.put, List.setIfInBounds_toArray, List.set_cons_zero, List.set_cons_succ]
      refine wpAnyH_take (i := 12) (oi := ⟨some 31, .move (.tmp 11), _, _, _, none⟩) (v := ?_) rfl (by kernel_rfl) (by kernel_rfl) (by kernel_rfl) (fun _ _ _ h => h) (Or.inl ⟨by rfl, ?_⟩) hHeld ?_
      rotate_left
      focus (intro z hSw; clear hSw; go_simp; try with_reducible rfl)
      try simp only [Act.put, List.setIfInBounds_toArray, List.set_cons_zero, List.set_cons_succ]
      refine wpAnyH_take (i := 14) (oi := ⟨some 33, .load 27 (.tmp 4), _, _, _, none⟩) rfl (by kernel_rfl) (by kernel_rfl) (by kernel_rfl) (fun _ _ _ h => h) (yieldsIf_ld (by rfl) 27 _ rfl _ rfl (fun z hSw => LV.out z hSw)) hHeld ?_
      try simp only [Act.put, List.setIfInBounds_toArray, List.set_cons_zero, List.set_cons_succ]
      refine wpAnyH_take (i := 15) (oi := ⟨some 34, .move (.tmp 2), _, _, _, none⟩) (v := ?_) rfl (by kernel_rfl) (by kernel_rfl) (by kernel_rfl) (fun _ _ _ h => h) (Or.inl ⟨by rfl, ?_⟩) hHeld ?_
      rotate_left
      focus (intro z hSw; clear hSw; go_simp; try with_reducible rfl)
      try simp only [Act.put, List.setIfInBounds_toArray, List.set_cons_zero, List.set_cons_succ]
      refine wpAnyH_ready (rs := [2]) (by kernel_rfl) (by simp) ?_
      refine AllReadyH.cons (o := ⟨some 21, .call { callee := .value (.func 122), args := #[.tmp 20], argTypes := #[9] }, _, _, _, none⟩) rfl (fun K hK => ?_) AllReadyH.nil
      go_simp
      refine (HSN.out _).mono ?_
      rintro r wv ⟨rfl, fv⟩
      try rw [hb1]
      refine hK.out _ _ ?_ (fun hNext => ?_)
      · exact hHeld.trans fv (by simp)
      clear hK K hHeld
      have hHeld := hNext
      clear hNext
      try simp only [Act.put, List.setIfInBounds_toArray, List.set_cons_zero, List.set_cons_succ]
      refine wpAnyH_take (i := 3) (oi := ⟨some 22, .move (.tmp 21), _, _, _, none⟩) (v := ?_) rfl (by kernel_rfl) (by kernel_rfl) (by kernel_rfl) (fun _ _ _ h => h) (Or.inl ⟨by rfl, ?_⟩) hHeld ?_
      rotate_left
      focus (intro z hSw; clear hSw; go_simp; try with_reducible rfl)
      try simp only [Act.put, List.setIfInBounds_toArray, List.set_cons_zero, List.set_cons_succ]
      refine wpAnyH_take (i := 4) (oi := ⟨some 23, .move (.tmp 2), _, _, _, some (3, true)⟩) (v := ?_) rfl (by kernel_rfl) (by kernel_rfl) (by kernel_rfl) (fun _ _ _ h => h) (Or.inl ⟨by rfl, ?_⟩) hHeld ?_
      rotate_left
      focus (intro z hSw; clear hSw; go_simp; try with_reducible rfl)
      try simp only [Act.put, List.setIfInBounds_toArray, List.set_cons_zero, List.set_cons_succ]
      refine wpAnyH_ready (rs := [5]) (by kernel_rfl) (by simp) ?_
      refine AllReadyH.cons (o := ⟨some 24, .call { callee := .value (.func 112), args := #[.tmp 23], argTypes := #[9] }, _, _, _, some (3, true)⟩) rfl (fun K hK => ?_) AllReadyH.nil
      go_simp
      refine (HV.out _).mono ?_
      rintro r wu ⟨rfl, fu⟩
      try rw [hb2]
      refine hK.out _ _ ?_ (fun hNext => ?_)
      · exact hHeld.trans fu (by simp)
      clear hK K hHeld
      have hHeld := hNext
      clear hNext
      try simp only [Act.put, List.setIfInBounds_toArray, List.set_cons_zero, List.set_cons_succ]
      refine wpAnyH_take (i := 6) (oi := ⟨some 25, .pick (.tmp 22) (.tmp 24) (.const (.bool false)), _, _, _, none⟩) (v := ?_) rfl (by kernel_rfl) (by kernel_rfl) (by kernel_rfl) (fun _ _ _ h => h) (Or.inl ⟨by rfl, ?_⟩) hHeld ?_
      rotate_left
      focus (intro z hSw; clear hSw; go_simp; try with_reducible rfl)
      try simp only [Act.put, List.setIfInBounds_toArray, List.set_cons_zero, List.set_cons_succ]
      refine wpAnyH_take (i := 7) (oi := ⟨some 26, .move (.tmp 25), _, _, _, none⟩) (v := ?_) rfl (by kernel_rfl) (by kernel_rfl) (by kernel_rfl) (fun _ _ _ h => h) (Or.inl ⟨by rfl, ?_⟩) hHeld ?_
      rotate_left
      focus (intro z hSw; clear hSw; go_simp; try with_reducible rfl)
      try simp only [Act.put, List.setIfInBounds_toArray, List.set_cons_zero, List.set_cons_succ]
      refine wpAnyH_take (i := 8) (oi := ⟨some 27, .move (.tmp 3), _, _, _, some (7, true)⟩) (v := ?_) rfl (by kernel_rfl) (by kernel_rfl) (by kernel_rfl) (fun _ _ _ h => h) (Or.inl ⟨by rfl, ?_⟩) hHeld ?_
      rotate_left
      focus (intro z hSw; clear hSw; go_simp; try with_reducible rfl)
      try simp only [Act.put, List.setIfInBounds_toArray, List.set_cons_zero, List.set_cons_succ]
      refine wpAnyH_ready (rs := [9]) (by kernel_rfl) (by simp) ?_
      refine AllReadyH.cons (o := ⟨some 28, .call { callee := .value (.func 113), args := #[.tmp 27], argTypes := #[3] }, _, _, _, some (7, true)⟩) rfl (fun K hK => ?_) AllReadyH.nil
      go_simp
      refine (mayTxg_any _ _).mono ?_
      rintro r wt ⟨rfl, rfl⟩
      refine hK.out _ _ ?_ (fun hNext => ?_)
      · exact hHeld
      clear hK K hHeld
      have hHeld := hNext
      clear hNext
      try simp only [Act.put, List.setIfInBounds_toArray, List.set_cons_zero, List.set_cons_succ]
      refine wpAnyH_take (i := 10) (oi := ⟨some 29, .pick (.tmp 26) (.tmp 28) (.const (.bool false)), _, _, _, none⟩) (v := ?_) rfl (by kernel_rfl) (by kernel_rfl) (by kernel_rfl) (fun _ _ _ h => h) (Or.inl ⟨by rfl, ?_⟩) hHeld ?_
      rotate_left
      focus (intro z hSw; clear hSw; go_simp; try with_reducible rfl)
      try simp only [Act.put, List.setIfInBounds_toArray, List.set_cons_zero, List.set_cons_succ]
      refine wpAnyH_ready (rs := [11]) (by kernel_rfl) (by simp) ?_
      refine AllReadyH.cons (o := ⟨some 30, .call { callee := .value (.func 101), args := #[.tmp 19, .tmp 29], argTypes := #[27, 4] }, _, _, _, none⟩) rfl (fun K hK => ?_) AllReadyH.nil
      go_simp
      refine (may_any vr vl t (wi g 1 2147483648) _ (HT.out.keep0 (FV.out.trans hHeld (by simp))) HF.out).mono ?_
      rintro r wn ⟨rfl, fm⟩
      refine hK.out _ _ ?_ (fun hNext => ?_)
      · exact hHeld.trans fm (by simp)
      clear hK K hHeld
      have hHeld := hNext
      clear hNext
      try simp only [Act.put, List.setIfInBounds_toArray, List.set_cons_zero, List.set_cons_succ]
      refine wpAnyH_ready (rs := [13]) (by kernel_rfl) (by simp) ?_
      refine AllReadyH.cons (o := ⟨some 32, .call { callee := .value (.func 103), args := #[.tmp 31, .const (.int .i64 6)], argTypes := #[4, 32] }, _, _, _, none⟩) rfl (fun K hK => ?_) AllReadyH.nil
      go_simp
      refine (unless_any _ _ _).mono ?_
      rintro r wa ⟨rfl, rfl⟩
      refine hK.out _ _ ?_ (fun hNext => ?_)
      · exact hHeld
      clear hK K hHeld
      have hHeld := hNext
      clear hNext
      try simp only [Act.put, List.setIfInBounds_toArray, List.set_cons_zero, List.set_cons_succ]
      refine wpAnyH_ready (rs := [16]) (by kernel_rfl) (by simp) ?_
      refine AllReadyH.cons (o := ⟨some 35, .call { callee := .value (.func 114), args := #[.tmp 33, .tmp 34], argTypes := #[27, 9] }, _, _, _, none⟩) rfl (fun K hK => ?_) AllReadyH.nil
      go_simp
      refine (room_any vr vl t n _ (HT.out.keep0 (FV.out.trans hHeld (by simp))) HF.out.recs).mono ?_
      rintro r wr ⟨rfl, fr⟩
      refine hK.out _ _ ?_ (fun hNext => ?_)
      · exact hHeld.trans fr (by simp)
      clear hK K hHeld
      have hHeld := hNext
      clear hNext
      try simp only [Act.put, List.setIfInBounds_toArray, List.set_cons_zero, List.set_cons_succ]
      refine wpAnyH_ready (rs := [17]) (by kernel_rfl) (by simp) ?_
      refine AllReadyH.cons (o := ⟨some 36, .buildSlice 166 3 #[(0, .tmp 30), (1, .tmp 32), (2, .tmp 35)], _, _, _, none⟩) rfl (fun K hK => ?_) AllReadyH.nil
      refine step_err3 rfl (.tmp 30) (.tmp 32) (.tmp 35) rfl rfl rfl rfl ?_
      intro v17 w17 s17 f17
      refine hK.out _ _ ?_ (fun hNext => ?_)
      · exact hHeld.trans f17 (by simp)
      clear hK K hHeld
      have hHeld := hNext
      clear hNext
      try simp only [Act.put, List.setIfInBounds_toArray, List.set_cons_zero, List.set_cons_succ]
      refine wpAnyH_ready (rs := [18]) (by kernel_rfl) (by simp) ?_
      refine AllReadyH.cons (o := ⟨some 37, .call { callee := .value (.func 100), args := #[.tmp 36], argTypes := #[166] }, _, _, _, none⟩) rfl (fun K hK => ?_) AllReadyH.nil
      go_simp
      refine (OrE_any _ _ _ _ s17 (by simp)).mono ?_
      rintro r wo ⟨rfl, rfl⟩
      refine hK.out _ _ ?_ (fun hNext => ?_)
      · exact hHeld
      clear hK K hHeld
      have hHeld := hNext
      clear hNext
      try simp only [Act.put, List.setIfInBounds_toArray, List.set_cons_zero, List.set_cons_succ]
      refine wpAnyH_take (i := 19) (oi := ⟨some 12, .assign (.tmp 37), _, _, _, none⟩) (v := ?_) rfl (by kernel_rfl) (by kernel_rfl) (by kernel_rfl) (fun _ _ _ h => h) (Or.inl ⟨by rfl, ?_⟩) hHeld ?_
      rotate_left
      focus (intro z hSw; clear hSw; go_simp; try with_reducible rfl)
      try simp only [Act.put, List.setIfInBounds_toArray, List.set_cons_zero, List.set_cons_succ]
      refine wpAnyH_done (by kernel_rfl) ?_ _
      have FW := Lib.hid hHeld
      clear hHeld
      rw [← HR.out]
      go_upto_region 3 with (fail)
      refine wp_region_late 15 (S := fun z => Frm [] V z) (by kernel_rfl) (FW.out.drew) (fun hHeld => ?_)
      refine wpAnyL_take (i := 0) (oi := ⟨some 38, .load 27 (.tmp 4), _, _, _, none⟩) rfl (by kernel_rfl) (by kernel_rfl) (by kernel_rfl) (fun _ _ _ h => h) (yieldsIf_ld (by rfl) 27 _ rfl _ rfl (fun z hSw => LV.out z hSw)) hHeld ?_
      try simp only [Act.put, List.setIfInBounds_toArray, List.set_cons_zero, List.set_cons_succ]
      refine wpAnyL_takeP (i := 1) (oi := ⟨some 39, .move (.tmp 12), _, _, _, none⟩) (v := ?_) rfl (by kernel_rfl) (by kernel_rfl) (by kernel_rfl) (fun _ _ _ h => h) (Or.inl ⟨by rfl, ?_⟩) hHeld ?_
      rotate_left
      focus (intro z hSw; clear hSw; go_simp; try with_reducible rfl)
      try simp only [Act.put, List.setIfInBounds_toArray, List.set_cons_zero, List.set_cons_succ]
      refine wpAnyL_takeP (i := 2) (oi := ⟨some 40, .move (.tmp 2), _, _, _, none⟩) (v := ?_) rfl (by kernel_rfl) (by kernel_rfl) (by kernel_rfl) (fun _ _ _ h => h) (Or.inl ⟨by rfl, ?_⟩) hHeld ?_
      rotate_left
      focus (intro z hSw; clear hSw; go_simp; try with_reducible rfl)
      try simp only [Act.put, List.setIfInBounds_toArray, List.set_cons_zero, List.set_cons_succ]
      refine wpAnyL_takeP (i := 3) (oi := ⟨some 41, .fieldAddr 56 (.tmp 10) 3, _, _, _, none⟩) (v := ?_) rfl (by kernel_rfl) (by kernel_rfl) (by kernel_rfl) (fun _ _ _ h => h) (Or.inl ⟨by rfl, ?_⟩) hHeld ?_
      rotate_left
      focus (intro z hSw; clear hSw; go_simp; try with_reducible rfl)
      try simp only [Act.put, List.setIfInBounds_toArray, List.set_cons_zero, List.set_cons_succ]
      refine wpAnyL_take (i := 4) (oi := ⟨some 42, .load 3 (.tmp 41), _, _, _, none⟩) (v := ?_) rfl (by kernel_rfl) (by kernel_rfl) (by kernel_rfl) (fun _ _ _ h => h) (Or.inl ⟨by rfl, ?_⟩) hHeld ?_
      rotate_left
      focus (intro z hSw; have q1 := (HX.out z hSw).size; have q2 := (HX.out z hSw).id; clear hSw; go_simp; try with_reducible rfl)
      try simp only [Act.put, List.setIfInBounds_toArray, List.set_cons_zero, List.set_cons_succ]
      refine wpAnyL_takeP (i := 5) (oi := ⟨some 43, .fieldAddr 56 (.tmp 10) 4, _, _, _, none⟩) (v := ?_) rfl (by kernel_rfl) (by kernel_rfl) (by kernel_rfl) (fun _ _ _ h => h) (Or.inl ⟨by rfl, ?_⟩) hHeld ?_
      rotate_left
      focus (intro z hSw; clear hSw; go_simp; try with_reducible rfl)
      try simp only [Act.put, List.setIfInBounds_toArray, List.set_cons_zero, List.set_cons_succ]
      refine wpAnyL_take (i := 6) (oi := ⟨some 44, .load 54 (.tmp 43), _, _, _, none⟩) rfl (by kernel_rfl) (by kernel_rfl) (by kernel_rfl) (fun _ _ _ h => h) (yieldsIf_ld (by rfl) 54 _ rfl _ rfl (fun z hSw => (HX.out z hSw).root)) hHeld ?_
      try simp only [Act.put, List.setIfInBounds_toArray, List.set_cons_zero, List.set_cons_succ]
      refine wpAnyL_takeP (i := 7) (oi := ⟨some 45, .move (.tmp 3), _, _, _, none⟩) (v := ?_) rfl (by kernel_rfl) (by kernel_rfl) (by kernel_rfl) (fun _ _ _ h => h) (Or.inl ⟨by rfl, ?_⟩) hHeld ?_
      rotate_left
      focus (intro z hSw; clear hSw; go_simp; try with_reducible rfl)
      try simp only [Act.put, List.setIfInBounds_toArray, List.set_cons_zero, List.set_cons_succ]
      refine wpAnyL_takeP (i := 8) (oi := ⟨some 46, .fieldAddr 56 (.tmp 10) 0, _, _, _, none⟩) (v := ?_) rfl (by kernel_rfl) (by kernel_rfl) (by kernel_rfl) (fun _ _ _ h => h) (Or.inl ⟨by rfl, ?_⟩) hHeld ?_
      rotate_left
      focus (intro z hSw; clear hSw; go_simp; try with_reducible rfl)
      try simp only [Act.put, List.setIfInBounds_toArray, List.set_cons_zero, List.set_cons_succ]
      refine wpAnyL_take (i := 9) (oi := ⟨some 47, .load 3 (.tmp 46), _, _, _, none⟩) (v := ?_) rfl (by kernel_rfl) (by kernel_rfl) (by kernel_rfl) (fun _ _ _ h => h) (Or.inl ⟨by rfl, ?_⟩) hHeld ?_
      rotate_left
      focus (intro z hSw; have q1 := (HX.out z hSw).size; have q2 := (HX.out z hSw).id; clear hSw; go_simp; try with_reducible rfl)
      try simp only [Act.put, List.setIfInBounds_toArray, List.set_cons_zero, List.set_cons_succ]
      refine wpAnyL_takeP (i := 10) (oi := ⟨some 48, .build 56 #[(1, .tmp 40), (2, .const (.int .i64 1)), (3, .tmp 42), (4, .tmp 44), (5, .tmp 45), (7, .tmp 47)], _, _, _, none⟩) rfl (by kernel_rfl) (by kernel_rfl) (by kernel_rfl) (fun _ _ _ h => h) (Or.inl ⟨by rfl, fun z hSw => exec_bldCl (.tmp 40) _ (.tmp 42) (.tmp 44) (.tmp 45) (.tmp 47) UH.out rfl rfl rfl rfl rfl rfl rfl z⟩) hHeld ?_
      try simp only [Act.put, List.setIfInBounds_toArray, List.set_cons_zero, List.set_cons_succ]
      refine wpAnyL_one (i := 11) (o := ⟨some 49, .call { callee := .value (.func 115), args := #[.tmp 48], argTypes := #[56] }, _, _, _, none⟩) (by kernel_rfl) rfl (fun K hK => ?_)
      have hu := US.out.keep (w' := _) hHeld (by simp)
      go_simp
      refine (put_any (.slice ua x.root.ads.length uc) (clR n x g) us _ hu UH.out).mono ?_
      rintro r w3 ⟨gx, vx, rfl, bx, sx, f3⟩
      refine hK.out _ _ ?_ (fun hNext => ?_)
      · exact hHeld.trans f3 (by simp)
      clear hK K hHeld
      have hHeld := hNext
      clear hNext
      try simp only [Act.put, List.setIfInBounds_toArray, List.set_cons_zero, List.set_cons_succ]
      refine wpAnyL_one (i := 12) (o := ⟨some 50, .call { callee := .value (.func 104), args := #[.tmp 38, .tmp 39, .tmp 49], argTypes := #[27, 32, 128] }, _, _, _, none⟩) (by kernel_rfl) rfl (fun K hK => ?_)
      have F34 := Lib.hid hHeld
      have hch : ec = 0 → ∃ F cap, Value.func (.func 174) #[] #[.pointer (some ⟨gx, 0, none⟩)] = .func (.func F) #[] cap ∧ ChT w3 F cap t (putT t (clR n x g)) := fun e => ⟨174, _, rfl, put1_ch w3 gx vx (clR n x g) us t bx sx HNS.out HFF.out.1 (HW.out e)⟩
      have hd := done_any vr vl _ t _ ec w3 (HT.out.keep0 (FV.out.trans hHeld (by simp))) HF.out hch
      rw [← HE.out] at hd
      have HD := Lib.hid hd
      clear hd hch
      go_simp
      refine HD.out.mono ?_
      rintro r w4 ⟨vr4, vl4, rfl, o4, f4⟩
      refine hK.out _ _ ?_ (fun hNext => ?_)
      · exact hHeld.trans f4 (by simp)
      clear hK K hHeld
      have hHeld := hNext
      clear hNext
      try simp only [Act.put, List.setIfInBounds_toArray, List.set_cons_zero, List.set_cons_succ]
      refine wpAnyL_takeP (i := 13) (oi := ⟨some 51, .extract (.tmp 50) 0, _, _, _, none⟩) (v := ?_) rfl (by kernel_rfl) (by kernel_rfl) (by kernel_rfl) (fun _ _ _ h => h) (Or.inl ⟨by rfl, ?_⟩) hHeld ?_
      rotate_left
      focus (intro z hSw; clear hSw; go_simp; try with_reducible rfl)
      try simp only [Act.put, List.setIfInBounds_toArray, List.set_cons_zero, List.set_cons_succ]
      refine wpAnyL_takeP (i := 14) (oi := ⟨some 52, .extract (.tmp 50) 1, _, _, _, none⟩) (v := ?_) rfl (by kernel_rfl) (by kernel_rfl) (by kernel_rfl) (fun _ _ _ h => h) (Or.inl ⟨by rfl, ?_⟩) hHeld ?_
      rotate_left
      focus (intro z hSw; clear hSw; go_simp; try with_reducible rfl)
      try simp only [Act.put, List.setIfInBounds_toArray, List.set_cons_zero, List.set_cons_succ]
      refine wpAnyL_last (o := ⟨none, .store 27 (.tmp 8) (.tmp 51), _, _, _, none⟩) (by kernel_rfl) rfl (by simp) (fun K hK => ?_)
      refine step_store27 rfl (.tmp 8) (.tmp 51) rfl o4.ones.1 o4.ones.2 ((R6.out.keep0 G1.out).keep0 (F34.out.trans f4 (by simp))) rfl rfl (fun w8 B8 f8 => ?_)
      refine hK.out _ _ ?_
      clear hK K hHeld
      try simp only [Act.put, List.setIfInBounds_toArray, List.set_cons_zero, List.set_cons_succ]
      refine wpAny_take (i := 16) (oi := ⟨some 9, .assign (.tmp 52), _, _, _, none⟩) (v := ?_) rfl (by kernel_rfl) (by kernel_rfl) (by kernel_rfl) (fun _ _ _ h => h) (Or.inl ⟨by rfl, ?_⟩) ?_
      rotate_left
      focus (intro z; go_simp; try with_reducible rfl)
      try simp only [Act.put, List.setIfInBounds_toArray, List.set_cons_zero, List.set_cons_succ]
      refine wpAny_done (by kernel_rfl) ?_ _
      have b8 := B8
      have SZ := Lib.hid (show w.heap.size + 1 < W.heap.size from R6.out.lt)
      go_wp2_with fail
      refine bodyPost_ret (results_cell_slot (p := 8) (q := 9) rfl _ _ rfl rfl (run_loadVar_row w8 (w.heap.size + 1) 27 27 _ (0, 0) _ b8 Tryz.underlying27 rfl (by rw [i27]; simp [tc]))) rfl ?_
      exact ⟨_, _, rfl, (o4.keep f8 (fun i hi => .inl (by have := SZ.out; have := G1.out.size; have := F34.out.size; simp at hi; omega))).base (Nat.le_trans FV.out.size F34.out.size), ((FV.out.trans F34.out (by simp)).trans f4 (by simp)).trans f8 (fun i hi => .inr (by simp at hi; omega))⟩
end Go.Proofs.YtljhanhipmnioaaGreat.Rd

namespace Go.Proofs.YtljhanhipmnioaaGreat.Rd
open Go.RowKit
set_option linter.unusedVariables false
set_option linter.unusedSimpArgs false
set_option maxRecDepth 100000

open Pt (Pt may enc zeroPt be4 be1 pc pv PtV SlA OwnA BT wpList_load_g heap_alloc_at Ext Grew yieldsIf_ld)
open Kr (OwnE SlE Enco RowTys)

section
variable {ops : Array Oper} {o : Oper} {a : Act} {w : World} {K : Act → World → Prop} {Q : Exit → Act → World → Prop} {E : Prop}
theorem step_bs130 (hw : Region.wanted o (yielded ops a.tmps) = true) (len : Nat) (parts : Array (Nat × Operand)) (ho : o.op = .buildSlice 130 len parts) (cells : Array Value)
    (hf : Tryz.prog.builtSlice 9 len (parts.map fun (i, x) => (i, a.eval x)).toList = some cells) (h : K (a.put o.dst (.slice (some ⟨w.heap.size, 0, none⟩) len len)) (w.alloc (.cells cells 9))) :
    if Region.wanted o (yielded ops a.tmps) = true then Oper.wp Tryz.prog o a w K Q else E := by
  rw [if_pos hw]
  unfold Program.builtSlice at hf
  cases hie : Tryz.prog.info? 9 with
  | none => simp [hie] at hf
  | some ie =>
    simp only [hie] at hf
    cases hz : ie.zero with
    | none => simp [hz] at hf
    | some z =>
      simp only [hz] at hf
      by_cases hc : len * ie.size > 2 ^ 24 ∨ len * ie.size = 0
      · simp [hc] at hf
      · rw [if_neg hc] at hf
        exact wp_buildSlice 130 9 len parts ho cells ie z Tryz.underlying130 hie hz (fun h' => hc (Or.inl h')) (fun h' => hc (Or.inr h')) hf h
end
theorem sle_newS (w : World) (l : List ByteArray) (cs : Array Value) (T : TypeId) (hc : cs = (Kr.flt eS l).toArray) (hl : l.length ≤ 1000) : SlE eS 1 (w.alloc (.cells cs T)) (.slice (some ⟨w.heap.size, 0, none⟩) l.length l.length) l [] :=
  Kr.SlE.of_block (T := T) encS (by rw [← hc]; exact heap_alloc_new _ _) rfl (by omega)
def rA : Rec := ⟨1, { data := #[97] }, 1, 4, Pt.zeroPt, 1, 0, 0, 0, 0⟩
def rAX : Rec := ⟨2, { data := #[97, 64, 120] }, 2, 4, Pt.zeroPt, 2, 1, 0, 0, 0⟩
def rBb : Rec := ⟨3, { data := #[98] }, 1, 4, Pt.zeroPt, 3, 0, 2, 0, 0⟩
def ta1 : Tab := ⟨2, [rA], zeroC, [0, 0]⟩
def ta2 : Tab := ⟨3, [rA, rAX], zeroC, [0, 0]⟩
def ta3 : Tab := ⟨4, [rA, rAX, rBb], zeroC, [0, 0]⟩
theorem ka0 : newC 2 = (newT 2, 0) := by kernel_rfl
theorem ka1 : makeT (newT 2) { data := #[97] } 4 1 = (ta1, 0) := by kernel_rfl
theorem ka2 : snapT ta1 { data := #[97, 64, 120] } 2 = (ta2, 0) := by kernel_rfl
theorem ka3 : cloneT ta2 { data := #[97, 64, 120] } { data := #[98] } 3 = (ta3, 0) := by kernel_rfl
theorem ka4 : namesB ta3 [{ data := #[97] }, { data := #[97, 64, 120] }, { data := #[98] }] = true := by kernel_rfl
theorem fit_of {t : Tab} (h : mayT t = true) : FitT t := (mayT_iff.1 h).fit
theorem fa0 : FitT (newT 2) := fit_of (by kernel_rfl)
theorem fa1 : FitT ta1 := fit_of (by kernel_rfl)
theorem fa2 : FitT ta2 := fit_of (by kernel_rfl)
theorem fa3 : FitT ta3 := fit_of (by kernel_rfl)
/-- What is told, by a result that is known. -/
theorem TellE.is {r : Tab × Int} {t : Tab} {e : Int} {w w' : World} {x : Ending} (h : TellE r w x w') (hr : r = (t, e)) : ∃ vr vl, x = .returned (.tuple #[tv vr vl t, .int .i64 e]) ∧ OwnTb w w' vr vl t ∧ Frm [] w w' := by
  subst hr; exact h
def SampP (w : World) (e : Ending) (w' : World) : Prop := ∃ vr vl, e = .returned (.tuple #[tv vr vl ta3, .bool true]) ∧ OwnTb w w' vr vl ta3 ∧ Frm [] w w'
set_option maxHeartbeats 8000000 in
theorem sample_any (w : World) : Calls Tryz.prog 46 #[] w (SampP w) := by
  have R0 := Lib.hid (show TB (w.alloc (.cells (tc nilS nilS zeroT).toArray 27)) w.heap.size nilS nilS zeroT from heap_alloc_new _ _)
  have F0 := Lib.hid (show Frm [] w (w.alloc (.cells (tc nilS nilS zeroT).toArray 27)) from (Frm.refl _ _).alloc _)
  have SZ := Lib.hid (show w.heap.size < (w.alloc (.cells (tc nilS nilS zeroT).toArray 27)).heap.size by simp)
  go_enter Tryz.func46, Tryz.ntmps46
  go_upto_region 1 with ((with_reducible (show wpList _ _ _ (Oper.mk _ (Op.alloc 27) _ _ _ _ :: _) _ _)); refine wpList_val rfl (exec_alloc27 rfl _) ?_)
  generalize w.alloc (.cells (tc nilS nilS zeroT).toArray 27) = W at *
  go_upto_region 2 with (first
    | (go_at_call 43; refine (New_any 2 W).mono ?_; intro r w1 hr; obtain ⟨vr1, vl1, rfl, o1, f1⟩ := hr.is ka0)
    | ((with_reducible (show wpList _ _ _ (Oper.mk _ (Op.alloc 27) _ _ _ _ :: _) _ _)); refine wpList_val rfl (exec_alloc27 rfl _) ?_)
    | ((with_reducible (show wpList _ _ _ (Oper.mk _ (Op.store 27 _ _) _ _ _ _ :: _) _ _)); refine wpList_store27 rfl (.tmp 2) (.tmp 9) rfl o1.ones.1 o1.ones.2 (TB.new w1 nilS nilS zeroT) rfl rfl ?_; intro w2 b2 f2))
  have GZ := Lib.hid (show W.heap.size ≤ w1.heap.size from f1.size)
  have B2 := Lib.hid b2
  have f12 : Frm [] w1 w2 := ((Frm.refl [] w1).alloc _).trans f2 (fun i hi => .inr (by simp at hi; omega))
  have F2 := Lib.hid (show Frm [] W w2 from f1.trans f12 (by simp))
  have O2 := Lib.hid (o1.keep0 f12)
  have LT := Lib.hid (show w1.heap.size < w2.heap.size from B2.out.lt)
  clear b2 f2 o1 f1 hr f12
  generalize w1.heap.size = g at *
  have D2 := Lib.hid B2.out.gets.all
  go_upto_region 3 with (first
    | ((with_reducible (show wpList _ _ _ (Oper.mk _ (Op.load 27 _) _ _ _ _ :: _) _ _)); refine wpList_load_g (by rfl) 27 _ rfl _ rfl D2.out ?_)
    | (go_at_call 51; refine (Make_any _ _ (newT 2) { data := #[97] } 4 1 w2 O2.out.v fa0 (by decide)).mono ?_; intro r w3 hr; obtain ⟨vr3, vl3, rfl, o1, f1⟩ := hr.is ka1)
    | ((with_reducible (show wpList _ _ _ (Oper.mk _ (Op.store 27 _ _) _ _ _ _ :: _) _ _)); refine wpList_store27 rfl (.tmp 2) (.tmp 14) rfl o1.ones.1 o1.ones.2 (B2.out.keep0 f1) rfl rfl ?_; intro w4 b2 f2))
  have B4 := Lib.hid b2
  have F4 := Lib.hid (show Frm [] W w4 from (F2.out.trans f1 (by simp)).trans f2 (fun i hi => .inr (by simp at hi; have := GZ.out; omega)))
  have O4 := Lib.hid ((o1.keep f2 (fun i hi => .inl (by simp at hi; have := LT.out; omega))).base (w0 := W) F2.out.size)
  have LT4 := Lib.hid (show g < w4.heap.size from B4.out.lt)
  clear b2 f2 o1 f1 hr LT
  have LT := LT4
  have D4 := Lib.hid B4.out.gets.all
  go_upto_region 4 with (first
    | ((with_reducible (show wpList _ _ _ (Oper.mk _ (Op.load 27 _) _ _ _ _ :: _) _ _)); refine wpList_load_g (by rfl) 27 _ rfl _ rfl D4.out ?_)
    | (go_at_call 52; refine (Snap_any _ _ ta1 { data := #[97, 64, 120] } 2 w4 O4.out.v fa1 (by decide)).mono ?_; intro r w5 hr; obtain ⟨vr5, vl5, rfl, o1, f1⟩ := hr.is ka2)
    | ((with_reducible (show wpList _ _ _ (Oper.mk _ (Op.store 27 _ _) _ _ _ _ :: _) _ _)); refine wpList_store27 rfl (.tmp 2) (.tmp 19) rfl o1.ones.1 o1.ones.2 (B4.out.keep0 f1) rfl rfl ?_; intro w6 b2 f2))
  have B6 := Lib.hid b2
  have F6 := Lib.hid (show Frm [] W w6 from (F4.out.trans f1 (by simp)).trans f2 (fun i hi => .inr (by simp at hi; have := GZ.out; omega)))
  have O6 := Lib.hid ((o1.keep f2 (fun i hi => .inl (by simp at hi; have := LT.out; omega))).base (w0 := W) F4.out.size)
  have LT6 := Lib.hid (show g < w6.heap.size from B6.out.lt)
  clear b2 f2 o1 f1 hr LT
  have LT := LT6
  have D6 := Lib.hid B6.out.gets.all
  go_upto_region 5 with (first
    | ((with_reducible (show wpList _ _ _ (Oper.mk _ (Op.load 27 _) _ _ _ _ :: _) _ _)); refine wpList_load_g (by rfl) 27 _ rfl _ rfl D6.out ?_)
    | (go_at_call 56; refine (CloneD_any _ _ ta2 { data := #[97, 64, 120] } { data := #[98] } 3 w6 O6.out.v fa2 (by decide) (by decide)).mono ?_; intro r w7 hr; obtain ⟨vr7, vl7, rfl, o1, f1⟩ := hr.is ka3)
    | ((with_reducible (show wpList _ _ _ (Oper.mk _ (Op.store 27 _ _) _ _ _ _ :: _) _ _)); refine wpList_store27 rfl (.tmp 2) (.tmp 24) rfl o1.ones.1 o1.ones.2 (B6.out.keep0 f1) rfl rfl ?_; intro w8 b2 f2))
  have B8 := Lib.hid b2
  have F8 := Lib.hid (show Frm [] W w8 from (F6.out.trans f1 (by simp)).trans f2 (fun i hi => .inr (by simp at hi; have := GZ.out; omega)))
  have O8 := Lib.hid ((o1.keep f2 (fun i hi => .inl (by simp at hi; have := LT.out; omega))).base (w0 := W) F6.out.size)
  have LT8 := Lib.hid (show g < w8.heap.size from B8.out.lt)
  clear b2 f2 o1 f1 hr LT
  have LT := LT8
  refine wp_region_held_drew (S := fun z => TB z g vr7 vl7 ta3) (by kernel_rfl) (B8.out.keep0 ((Frm.refl [] w8).drew)) (fun hHeld => ?_)
  refine wpAnyH_take (i := 0) (oi := ⟨some 26, .load 27 (.tmp 2), _, _, _, none⟩) rfl (by kernel_rfl) (by kernel_rfl) (by kernel_rfl) (fun _ _ _ h => h) (yieldsIf_ld (by rfl) 27 _ rfl _ rfl (fun z hSw => hSw.gets.all)) hHeld ?_
  try simp only [Act.put, List.setIfInBounds_toArray, List.set_cons_zero, List.set_cons_succ]
  refine wpAnyH_take (i := 1) (oi := ⟨some 27, .move (.tmp 3), _, _, _, none⟩) (v := ?_) rfl (by kernel_rfl) (by kernel_rfl) (by kernel_rfl) (fun _ _ _ h => h) (Or.inl ⟨by rfl, ?_⟩) hHeld ?_
  rotate_left
  focus (intro z hSw; clear hSw; go_simp; try with_reducible rfl)
  try simp only [Act.put, List.setIfInBounds_toArray, List.set_cons_zero, List.set_cons_succ]
  refine wpAnyH_take (i := 2) (oi := ⟨some 28, .binOp .eql 32 (.tmp 27) (.const (.int .i64 0)) 32, _, _, _, none⟩) (v := ?_) rfl (by kernel_rfl) (by kernel_rfl) (by kernel_rfl) (fun _ _ _ h => h) (Or.inl ⟨by rfl, ?_⟩) hHeld ?_
  rotate_left
  focus (intro z hSw; clear hSw; go_simp; try with_reducible rfl)
  try simp only [Act.put, List.setIfInBounds_toArray, List.set_cons_zero, List.set_cons_succ]
  refine wpAnyH_take (i := 3) (oi := ⟨some 29, .move (.tmp 28), _, _, _, none⟩) (v := ?_) rfl (by kernel_rfl) (by kernel_rfl) (by kernel_rfl) (fun _ _ _ h => h) (Or.inl ⟨by rfl, ?_⟩) hHeld ?_
  rotate_left
  focus (intro z hSw; clear hSw; go_simp; try with_reducible rfl)
  try simp only [Act.put, List.setIfInBounds_toArray, List.set_cons_zero, List.set_cons_succ]
  refine wpAnyH_take (i := 4) (oi := ⟨some 30, .move (.tmp 4), _, _, _, some (3, true)⟩) (v := ?_) rfl (by kernel_rfl) (by kernel_rfl) (by kernel_rfl) (fun _ _ _ h => h) (Or.inl ⟨by rfl, ?_⟩) hHeld ?_
  rotate_left
  focus (intro z hSw; clear hSw; go_simp; try with_reducible rfl)
  try simp only [Act.put, List.setIfInBounds_toArray, List.set_cons_zero, List.set_cons_succ]
  refine wpAnyH_take (i := 5) (oi := ⟨some 31, .binOp .eql 32 (.tmp 30) (.const (.int .i64 0)) 32, _, _, _, some (3, true)⟩) (v := ?_) rfl (by kernel_rfl) (by kernel_rfl) (by kernel_rfl) (fun _ _ _ h => h) (Or.inl ⟨by rfl, ?_⟩) hHeld ?_
  rotate_left
  focus (intro z hSw; clear hSw; go_simp; try with_reducible rfl)
  try simp only [Act.put, List.setIfInBounds_toArray, List.set_cons_zero, List.set_cons_succ]
  refine wpAnyH_take (i := 6) (oi := ⟨some 32, .pick (.tmp 29) (.tmp 31) (.const (.bool false)), _, _, _, none⟩) (v := ?_) rfl (by kernel_rfl) (by kernel_rfl) (by kernel_rfl) (fun _ _ _ h => h) (Or.inl ⟨by rfl, ?_⟩) hHeld ?_
  rotate_left
  focus (intro z hSw; clear hSw; go_simp; try with_reducible rfl)
  try simp only [Act.put, List.setIfInBounds_toArray, List.set_cons_zero, List.set_cons_succ]
  refine wpAnyH_take (i := 7) (oi := ⟨some 33, .move (.tmp 32), _, _, _, none⟩) (v := ?_) rfl (by kernel_rfl) (by kernel_rfl) (by kernel_rfl) (fun _ _ _ h => h) (Or.inl ⟨by rfl, ?_⟩) hHeld ?_
  rotate_left
  focus (intro z hSw; clear hSw; go_simp; try with_reducible rfl)
  try simp only [Act.put, List.setIfInBounds_toArray, List.set_cons_zero, List.set_cons_succ]
  refine wpAnyH_take (i := 8) (oi := ⟨some 34, .move (.tmp 5), _, _, _, some (7, true)⟩) (v := ?_) rfl (by kernel_rfl) (by kernel_rfl) (by kernel_rfl) (fun _ _ _ h => h) (Or.inl ⟨by rfl, ?_⟩) hHeld ?_
  rotate_left
  focus (intro z hSw; clear hSw; go_simp; try with_reducible rfl)
  try simp only [Act.put, List.setIfInBounds_toArray, List.set_cons_zero, List.set_cons_succ]
  refine wpAnyH_take (i := 9) (oi := ⟨some 35, .binOp .eql 32 (.tmp 34) (.const (.int .i64 0)) 32, _, _, _, some (7, true)⟩) (v := ?_) rfl (by kernel_rfl) (by kernel_rfl) (by kernel_rfl) (fun _ _ _ h => h) (Or.inl ⟨by rfl, ?_⟩) hHeld ?_
  rotate_left
  focus (intro z hSw; clear hSw; go_simp; try with_reducible rfl)
  try simp only [Act.put, List.setIfInBounds_toArray, List.set_cons_zero, List.set_cons_succ]
  refine wpAnyH_take (i := 10) (oi := ⟨some 36, .pick (.tmp 33) (.tmp 35) (.const (.bool false)), _, _, _, none⟩) (v := ?_) rfl (by kernel_rfl) (by kernel_rfl) (by kernel_rfl) (fun _ _ _ h => h) (Or.inl ⟨by rfl, ?_⟩) hHeld ?_
  rotate_left
  focus (intro z hSw; clear hSw; go_simp; try with_reducible rfl)
  try simp only [Act.put, List.setIfInBounds_toArray, List.set_cons_zero, List.set_cons_succ]
  refine wpAnyH_take (i := 11) (oi := ⟨some 37, .move (.tmp 36), _, _, _, none⟩) (v := ?_) rfl (by kernel_rfl) (by kernel_rfl) (by kernel_rfl) (fun _ _ _ h => h) (Or.inl ⟨by rfl, ?_⟩) hHeld ?_
  rotate_left
  focus (intro z hSw; clear hSw; go_simp; try with_reducible rfl)
  try simp only [Act.put, List.setIfInBounds_toArray, List.set_cons_zero, List.set_cons_succ]
  refine wpAnyH_take (i := 12) (oi := ⟨some 38, .move (.tmp 6), _, _, _, some (11, true)⟩) (v := ?_) rfl (by kernel_rfl) (by kernel_rfl) (by kernel_rfl) (fun _ _ _ h => h) (Or.inl ⟨by rfl, ?_⟩) hHeld ?_
  rotate_left
  focus (intro z hSw; clear hSw; go_simp; try with_reducible rfl)
  try simp only [Act.put, List.setIfInBounds_toArray, List.set_cons_zero, List.set_cons_succ]
  refine wpAnyH_take (i := 13) (oi := ⟨some 39, .binOp .eql 32 (.tmp 38) (.const (.int .i64 0)) 32, _, _, _, some (11, true)⟩) (v := ?_) rfl (by kernel_rfl) (by kernel_rfl) (by kernel_rfl) (fun _ _ _ h => h) (Or.inl ⟨by rfl, ?_⟩) hHeld ?_
  rotate_left
  focus (intro z hSw; clear hSw; go_simp; try with_reducible rfl)
  try simp only [Act.put, List.setIfInBounds_toArray, List.set_cons_zero, List.set_cons_succ]
  refine wpAnyH_take (i := 14) (oi := ⟨some 40, .pick (.tmp 37) (.tmp 39) (.const (.bool false)), _, _, _, none⟩) (v := ?_) rfl (by kernel_rfl) (by kernel_rfl) (by kernel_rfl) (fun _ _ _ h => h) (Or.inl ⟨by rfl, ?_⟩) hHeld ?_
  rotate_left
  focus (intro z hSw; clear hSw; go_simp; try with_reducible rfl)
  try simp only [Act.put, List.setIfInBounds_toArray, List.set_cons_zero, List.set_cons_succ]
  refine wpAnyH_take (i := 15) (oi := ⟨some 41, .move (.tmp 40), _, _, _, none⟩) (v := ?_) rfl (by kernel_rfl) (by kernel_rfl) (by kernel_rfl) (fun _ _ _ h => h) (Or.inl ⟨by rfl, ?_⟩) hHeld ?_
  rotate_left
  focus (intro z hSw; clear hSw; go_simp; try with_reducible rfl)
  try simp only [Act.put, List.setIfInBounds_toArray, List.set_cons_zero, List.set_cons_succ]
  refine wpAnyH_take (i := 16) (oi := ⟨some 42, .load 27 (.tmp 2), _, _, _, some (15, true)⟩) rfl (by kernel_rfl) (by kernel_rfl) (by kernel_rfl) (fun _ _ _ h => h) (yieldsIf_ld (by rfl) 27 _ rfl _ rfl (fun z hSw => hSw.gets.all)) hHeld ?_
  try simp only [Act.put, List.setIfInBounds_toArray, List.set_cons_zero, List.set_cons_succ]
  refine wpAnyH_ready (rs := [17]) (by kernel_rfl) (by simp) ?_
  refine AllReadyH.cons (o := ⟨some 43, .buildSlice 130 3 #[(0, .const (.string { data := #[97] })), (1, .const (.string { data := #[97, 64, 120] })), (2, .const (.string { data := #[98] }))], _, _, _, some (15, true)⟩) rfl (fun K hK => ?_) AllReadyH.nil
  refine step_bs130 (by rfl) 3 _ rfl #[.string { data := #[97] }, .string { data := #[97, 64, 120] }, .string { data := #[98] }] (by kernel_rfl) ?_
  refine hK.out _ _ ?_ (fun hNext => ?_)
  · exact hHeld.keep0 ((Frm.refl [] _).alloc _)
  clear hK K hHeld
  have hHeld := hNext
  clear hNext
  have FA := Lib.hid (show Frm [] w8 (w8.drew.alloc (.cells #[.string { data := #[97] }, .string { data := #[97, 64, 120] }, .string { data := #[98] }] 9)) from ((Frm.refl [] w8).drew).alloc _)
  have SA := Lib.hid (sle_newS w8.drew [{ data := #[97] }, { data := #[97, 64, 120] }, { data := #[98] }] #[.string { data := #[97] }, .string { data := #[97, 64, 120] }, .string { data := #[98] }] 9 rfl (by decide))
  try simp only [Act.put, List.setIfInBounds_toArray, List.set_cons_zero, List.set_cons_succ]
  refine wpAnyH_ready (rs := [18]) (by kernel_rfl) (by simp) ?_
  refine AllReadyH.cons (o := ⟨some 44, .call { callee := .value (.func 48), args := #[.tmp 42, .tmp 43], argTypes := #[27, 130] }, _, _, _, some (15, true)⟩) rfl (fun K hK => ?_) AllReadyH.nil
  go_simp
  refine (names_any vr7 vl7 _ ta3 [{ data := #[97] }, { data := #[97, 64, 120] }, { data := #[98] }] [] _ (O8.out.v.keep0 FA.out) SA.out (by decide) (by decide)).mono ?_
  rintro r wn ⟨rfl, fn⟩
  rw [ka4]
  refine hK.out _ _ ?_ (fun hNext => ?_)
  · exact hHeld.keep0 fn
  clear hK K hHeld
  have hHeld := hNext
  clear hNext
  try simp only [Act.put, List.setIfInBounds_toArray, List.set_cons_zero, List.set_cons_succ]
  refine wpAnyH_take (i := 19) (oi := ⟨some 45, .pick (.tmp 41) (.tmp 44) (.const (.bool false)), _, _, _, none⟩) (v := ?_) rfl (by kernel_rfl) (by kernel_rfl) (by kernel_rfl) (fun _ _ _ h => h) (Or.inl ⟨by rfl, ?_⟩) hHeld ?_
  rotate_left
  focus (intro z hSw; clear hSw; go_simp; try with_reducible rfl)
  try simp only [Act.put, List.setIfInBounds_toArray, List.set_cons_zero, List.set_cons_succ]
  refine wpAnyH_ready (rs := [20]) (by kernel_rfl) (by simp) ?_
  refine AllReadyH.cons (o := ⟨none, .store 27 (.tmp 0) (.tmp 26), _, _, _, none⟩) rfl (fun K hK => ?_) AllReadyH.nil
  refine step_store27 rfl (.tmp 0) (.tmp 26) rfl O8.out.ones.1 O8.out.ones.2 ((R0.out.keep0 F8.out).keep0 (FA.out.trans fn (by simp))) rfl rfl (fun wz bz fz => ?_)
  refine hK.out _ _ ?_ (fun hNext => ?_)
  · exact hHeld.keep fz (by have := GZ.out; have := SZ.out; simp; omega)
  clear hK K hHeld
  have hHeld := hNext
  clear hNext
  try simp only [Act.put, List.setIfInBounds_toArray, List.set_cons_zero, List.set_cons_succ]
  refine wpAnyH_take (i := 21) (oi := ⟨some 1, .assign (.tmp 45), _, _, _, none⟩) (v := ?_) rfl (by kernel_rfl) (by kernel_rfl) (by kernel_rfl) (fun _ _ _ h => h) (Or.inl ⟨by rfl, ?_⟩) hHeld ?_
  rotate_left
  focus (intro z hSw; clear hSw; go_simp; try with_reducible rfl)
  try simp only [Act.put, List.setIfInBounds_toArray, List.set_cons_zero, List.set_cons_succ]
  refine wpAnyH_done (by kernel_rfl) ?_ _
  go_wp2_with (fail)
  refine bodyPost_ret (results_cell_slot (p := 0) (q := 1) rfl _ _ rfl rfl (run_loadVar_row wz w.heap.size 27 27 _ (0, 0) _ bz Tryz.underlying27 rfl (by rw [i27]; simp [tc]))) rfl ?_
  have fw : Frm [w.heap.size] w8 wz := ((FA.out.trans fn (by simp)).mono (by simp)).trans fz (fun i hi => .inl hi)
  exact ⟨vr7, vl7, rfl, (O8.out.keep fw (fun i hi => .inl (by simp at hi; have := SZ.out; omega))).base (w0 := w) F0.out.size, (F0.out.trans F8.out (by simp)).trans fw (fun i hi => .inr (by simp at hi; omega))⟩
end Go.Proofs.YtljhanhipmnioaaGreat.Rd

namespace Go.Proofs.YtljhanhipmnioaaGreat.Rd
open Go.RowKit
set_option linter.unusedVariables false
set_option linter.unusedSimpArgs false
set_option maxRecDepth 100000

open Pt (Pt may enc zeroPt be4 be1 pc pv PtV SlA OwnA BT wpList_load_g heap_alloc_at Ext Grew yieldsIf_ld)
open Kr (OwnE SlE Enco RowTys)

def YesD (w : World) (e : Ending) (w' : World) : Prop := e = .returned (.bool true) ∧ Frm [] w w'
def tb2 : Tab := ⟨4, [rA, rAX], zeroC, [0, 0]⟩
def tb1 : Tab := ⟨4, [rA], zeroC, [0, 0]⟩
theorem kb0 : dropT ta3 { data := #[97] } = (zeroT, 17) := by kernel_rfl
theorem kb1 : dropT ta3 { data := #[97, 64, 120] } = (zeroT, 17) := by kernel_rfl
theorem kb2 : dropT ta3 { data := #[98] } = (tb2, 0) := by kernel_rfl
theorem kb3 : dropT tb2 { data := #[97, 64, 120] } = (tb1, 0) := by kernel_rfl
theorem kb4 : namesB tb1 [{ data := #[97] }] = true := by kernel_rfl
theorem fb2 : FitT tb2 := fit_of (by kernel_rfl)
theorem OwnTb.cells {w0 w : World} {vr vl : Value} {t : Tab} (h : OwnTb w0 w vr vl t) (hp : 0 < t.recs.length) : ∃ b cap, vr = .slice (some ⟨b, 0, none⟩) t.recs.length cap ∧ ∀ k (hk : k < t.recs.length), ∃ xa xc, GetsR w b (k * 44) (.slice xa (t.recs[k]).root.ads.length xc) t.recs[k] := by
  obtain ⟨rs, B, spl, hTl, _, _⟩ := h
  obtain ⟨sp, ho⟩ := hTl.own
  obtain ⟨va, vc, rfl⟩ := hTl.form
  obtain ⟨b, off, e⟩ := ho.sl.at (by have := hTl.len; omega)
  subst e
  have hoff : off = 0 := by
    obtain ⟨_, ⟨h2, _⟩ | ⟨g', c', h2, _⟩⟩ := ho
    · cases h2
    · injection h2 with e1; injection e1 with e1; injection e1
  subst hoff
  refine ⟨b, vc, rfl, fun k hk => ?_⟩
  obtain ⟨xa, xc, G, _⟩ := hTl.us.gets k hk
  rw [Nat.zero_add] at G
  exact ⟨xa, xc, G⟩
set_option maxHeartbeats 8000000 in
theorem awakeD_any (w : World) : Calls Tryz.prog 39 #[] w (YesD w) := by
  go_enter Tryz.func39, Tryz.ntmps39
  go_upto_region 2 with (first
    | (go_at_call 46; refine (sample_any w).mono ?_; intro r w1 hr; obtain ⟨vr, vl, rfl, o1, f1⟩ := hr)
    | ((with_reducible (show wpList _ _ _ (Oper.mk _ (Op.alloc 27) _ _ _ _ :: _) _ _)); refine wpList_val rfl (exec_alloc27 rfl _) ?_)
    | ((with_reducible (show wpList _ _ _ (Oper.mk _ (Op.store 27 _ _) _ _ _ _ :: _) _ _)); refine wpList_store27 rfl (.tmp 1) (.tmp 13) rfl o1.ones.1 o1.ones.2 (TB.new w1 nilS nilS zeroT) rfl rfl ?_; intro W b2 f2))
  have f12 : Frm [] w1 W := ((Frm.refl [] w1).alloc _).trans f2 (fun i hi => .inr (by simp at hi; omega))
  have B := Lib.hid b2
  have F := Lib.hid (show Frm [] w W from f1.trans f12 (by simp))
  have O := Lib.hid (o1.keep0 f12)
  clear b2 f2 o1 f1 f12
  generalize w1.heap.size = g at *
  have u0 : W.cell? ⟨g, 0, none⟩ = some (.int .i64 4) := B.out.gets.next
  obtain ⟨b, cap, hvr, HG⟩ := O.out.cells (by decide)
  have u1 : W.cell? ⟨g, 1, none⟩ = some (.slice (some ⟨b, 0, none⟩) 3 cap) := by have := B.out.gets.recs; rw [hvr] at this; exact this
  have u2 : W.cell? ⟨b, 0, none⟩ = some (.int .i64 1) := by obtain ⟨_, _, G⟩ := HG 0 (by decide); exact G.id
  have u3 : W.cell? ⟨b, 84, none⟩ = some (.int .i64 1) := by obtain ⟨_, _, G⟩ := HG 1 (by decide); exact G.of
  have u4 : W.cell? ⟨b, 44, none⟩ = some (.int .i64 2) := by obtain ⟨_, _, G⟩ := HG 1 (by decide); exact G.id
  have u5 : W.cell? ⟨b, 129, none⟩ = some (.int .i64 2) := by obtain ⟨_, _, G⟩ := HG 2 (by decide); exact G.origin
  clear HG
  go_upto_region 4 with (fail)
  clear u0 u1 u2 u3 u4 u5 hvr
  have F0 := Lib.hid (Frm.refl [] W)
  go_upto_region 5 with (first
    | ((with_reducible (show wpList _ _ _ (Oper.mk _ (Op.load 27 _) _ _ _ _ :: _) _ _)); refine wpList_load_g (by rfl) 27 _ rfl _ rfl (B.out).gets.all ?_)
    | (go_at_call 59; refine (Drop_any _ _ ta3 { data := #[97] } W O.out.v fa3 (by decide)).mono ?_; intro r x1 hr; obtain ⟨vr1, vl1, rfl, o1, f1⟩ := hr.is kb0)
    | ((with_reducible (show wpList _ _ _ (Oper.mk _ (Op.alloc 27) _ _ _ _ :: _) _ _)); refine wpList_val rfl (exec_alloc27 rfl _) ?_)
    | ((with_reducible (show wpList _ _ _ (Oper.mk _ (Op.store 27 _ _) _ _ _ _ :: _) _ _)); refine wpList_store27 rfl (.tmp 3) (.tmp 57) rfl o1.ones.1 o1.ones.2 (TB.new x1 nilS nilS zeroT) rfl rfl ?_; intro w1 b2 f2))
  have f12 : Frm [] x1 w1 := ((Frm.refl [] x1).alloc _).trans f2 (fun i hi => .inr (by simp at hi; omega))
  have B1 := Lib.hid b2
  have O1 := Lib.hid (o1.keep0 f12)
  have F1 := Lib.hid (show Frm [] W w1 from (F0.out.trans f1 (by simp)).trans f12 (by simp))
  have G1 := Lib.hid (show Frm [] W w1 from f1.trans f12 (by simp))
  clear b2 f2 o1 f1 f12 hr
  generalize x1.heap.size = g1 at *
  go_upto_region 6 with (first
    | ((with_reducible (show wpList _ _ _ (Oper.mk _ (Op.load 27 _) _ _ _ _ :: _) _ _)); refine wpList_load_g (by rfl) 27 _ rfl _ rfl (B.out.keep0 F1.out).gets.all ?_)
    | (go_at_call 59; refine (Drop_any _ _ ta3 { data := #[97, 64, 120] } w1 (O.out.v.keep0 F1.out) fa3 (by decide)).mono ?_; intro r x2 hr; obtain ⟨vr2, vl2, rfl, o1, f1⟩ := hr.is kb1)
    | ((with_reducible (show wpList _ _ _ (Oper.mk _ (Op.alloc 27) _ _ _ _ :: _) _ _)); refine wpList_val rfl (exec_alloc27 rfl _) ?_)
    | ((with_reducible (show wpList _ _ _ (Oper.mk _ (Op.store 27 _ _) _ _ _ _ :: _) _ _)); refine wpList_store27 rfl (.tmp 5) (.tmp 62) rfl o1.ones.1 o1.ones.2 (TB.new x2 nilS nilS zeroT) rfl rfl ?_; intro w2 b2 f2))
  have f12 : Frm [] x2 w2 := ((Frm.refl [] x2).alloc _).trans f2 (fun i hi => .inr (by simp at hi; omega))
  have B2 := Lib.hid b2
  have O2 := Lib.hid (o1.keep0 f12)
  have F2 := Lib.hid (show Frm [] W w2 from (F1.out.trans f1 (by simp)).trans f12 (by simp))
  have G2 := Lib.hid (show Frm [] w1 w2 from f1.trans f12 (by simp))
  clear b2 f2 o1 f1 f12 hr
  generalize x2.heap.size = g2 at *
  go_upto_region 7 with (first
    | ((with_reducible (show wpList _ _ _ (Oper.mk _ (Op.load 27 _) _ _ _ _ :: _) _ _)); refine wpList_load_g (by rfl) 27 _ rfl _ rfl (B.out.keep0 F2.out).gets.all ?_)
    | (go_at_call 59; refine (Drop_any _ _ ta3 { data := #[98] } w2 (O.out.v.keep0 F2.out) fa3 (by decide)).mono ?_; intro r x3 hr; obtain ⟨vr3, vl3, rfl, o1, f1⟩ := hr.is kb2)
    | ((with_reducible (show wpList _ _ _ (Oper.mk _ (Op.alloc 27) _ _ _ _ :: _) _ _)); refine wpList_val rfl (exec_alloc27 rfl _) ?_)
    | ((with_reducible (show wpList _ _ _ (Oper.mk _ (Op.store 27 _ _) _ _ _ _ :: _) _ _)); refine wpList_store27 rfl (.tmp 7) (.tmp 67) rfl o1.ones.1 o1.ones.2 (TB.new x3 nilS nilS zeroT) rfl rfl ?_; intro w3 b2 f2))
  have f12 : Frm [] x3 w3 := ((Frm.refl [] x3).alloc _).trans f2 (fun i hi => .inr (by simp at hi; omega))
  have B3 := Lib.hid b2
  have O3 := Lib.hid (o1.keep0 f12)
  have F3 := Lib.hid (show Frm [] W w3 from (F2.out.trans f1 (by simp)).trans f12 (by simp))
  have G3 := Lib.hid (show Frm [] w2 w3 from f1.trans f12 (by simp))
  clear b2 f2 o1 f1 f12 hr
  generalize x3.heap.size = g3 at *
  go_upto_region 8 with (first
    | ((with_reducible (show wpList _ _ _ (Oper.mk _ (Op.load 27 _) _ _ _ _ :: _) _ _)); refine wpList_load_g (by rfl) 27 _ rfl _ rfl (B3.out).gets.all ?_)
    | (go_at_call 59; refine (Drop_any _ _ tb2 { data := #[97, 64, 120] } w3 O3.out.v fb2 (by decide)).mono ?_; intro r x4 hr; obtain ⟨vr4, vl4, rfl, o1, f1⟩ := hr.is kb3)
    | ((with_reducible (show wpList _ _ _ (Oper.mk _ (Op.alloc 27) _ _ _ _ :: _) _ _)); refine wpList_val rfl (exec_alloc27 rfl _) ?_)
    | ((with_reducible (show wpList _ _ _ (Oper.mk _ (Op.store 27 _ _) _ _ _ _ :: _) _ _)); refine wpList_store27 rfl (.tmp 9) (.tmp 72) rfl o1.ones.1 o1.ones.2 (TB.new x4 nilS nilS zeroT) rfl rfl ?_; intro w4 b2 f2))
  have f12 : Frm [] x4 w4 := ((Frm.refl [] x4).alloc _).trans f2 (fun i hi => .inr (by simp at hi; omega))
  have B4 := Lib.hid b2
  have O4 := Lib.hid (o1.keep0 f12)
  have F4 := Lib.hid (show Frm [] W w4 from (F3.out.trans f1 (by simp)).trans f12 (by simp))
  have G4 := Lib.hid (show Frm [] w3 w4 from f1.trans f12 (by simp))
  clear b2 f2 o1 f1 f12 hr
  generalize x4.heap.size = g4 at *
  have BL := Lib.hid B4.out.gets.all
  have SA := Lib.hid (sle_newS w4 [{ data := #[97] }] #[.string { data := #[97] }] 9 rfl (by decide))
  have NA := Lib.hid (names_any vr4 vl4 (.slice (some ⟨w4.heap.size, 0, none⟩) 1 1) tb1 [{ data := #[97] }] [] (w4.alloc (.cells #[.string { data := #[97] }] 9)) (O4.out.v.keep0 ((Frm.refl [] w4).alloc _)) SA.out (by decide) (by decide))
  rw [kb4] at NA
  go_wp2_with (first
    | ((with_reducible (show wpList _ _ _ (Oper.mk _ (Op.load 27 _) _ _ _ _ :: _) _ _)); refine wpList_load_g (by rfl) 27 _ rfl _ rfl BL.out ?_)
    | (go_at_call 48; refine NA.out.mono ?_; rintro r wn ⟨rfl, fn⟩))
  go_ret
  exact ⟨rfl, (F.out.trans F4.out (by simp)).trans (((Frm.refl [] w4).alloc _).trans fn (by simp)) (by simp)⟩
end Go.Proofs.YtljhanhipmnioaaGreat.Rd

namespace Go.Proofs.YtljhanhipmnioaaGreat.Rd
open Go.RowKit
set_option linter.unusedVariables false
set_option linter.unusedSimpArgs false
set_option maxRecDepth 100000

open Pt (Pt may enc zeroPt be4 be1 pc pv PtV SlA OwnA BT wpList_load_g heap_alloc_at Ext Grew yieldsIf_ld)
open Kr (OwnE SlE Enco RowTys)

theorem root1_ch (w : World) (g : Nat) (pvv : Value) (sp : List Pt.Ad) (x : Rec) (p : Pt) (hg : Pt.PB w g pvv p.b p.l p.s) (hA : SlA w pvv p.ads sp) (hq : p.s.length = 32) (hl : p.ads.length ≤ 1000000) : ChR w 121 #[.pointer (some ⟨g, 0, none⟩)] x (withRoot x p) :=
  ⟨fun u z => enter_of Tryz.func121 (by kernel_rfl) (by kernel_rfl) _ z, fun b o T pre post v W f hb h hp hs => root1_any b o g T pre post v pvv x p sp W h hp hs (hg.keep f (by simp)) (hA.keep f (by simp)) hq hl⟩
def rootT (t : Tab) (n : ByteArray) (p : Pt) : Tab × Int := if writeC t n (rootD p) = 0 then (updR t n (fun x => withRoot x p), 0) else (zeroT, writeC t n (rootD p))
set_option maxHeartbeats 4000000 in
theorem Root_any (vr vl pvv : Value) (t : Tab) (n : ByteArray) (p : Pt) (sp : List Pt.Ad) (w : World) (h : TabV w vr vl t) (hf : FitT t) (hn : n.size ≤ 1000) (hA : SlA w pvv p.ads sp) (hq : p.s.length = 32) (hl : p.ads.length ≤ 1000000) : Calls Tryz.prog 55 #[tv vr vl t, .string n, pv pvv p.b p.l p.s] w (TellE (rootT t n p) w) := by
  obtain ⟨pa, pcp, rfl, _, _⟩ := hA.form
  have F0 := Lib.hid (show Frm [] w (((w.alloc (.cells (tc vr vl t).toArray 27)).alloc (.cells (pc (.slice pa p.ads.length pcp) p.b p.l p.s).toArray 54)).alloc (.cells (tc nilS nilS zeroT).toArray 27)) from (((Frm.refl [] w).alloc _).alloc _).alloc _)
  have BT := Lib.hid (((TB.new w vr vl t).keep0 ((Frm.refl [] _).alloc (.cells (pc (.slice pa p.ads.length pcp) p.b p.l p.s).toArray 54))).keep0 ((Frm.refl [] _).alloc (.cells (tc nilS nilS zeroT).toArray 27)))
  have C5 := Lib.hid (show Pt.PB (((w.alloc (.cells (tc vr vl t).toArray 27)).alloc (.cells (pc (.slice pa p.ads.length pcp) p.b p.l p.s).toArray 54)).alloc (.cells (tc nilS nilS zeroT).toArray 27)) (w.heap.size + 1) (.slice pa p.ads.length pcp) p.b p.l p.s from Pt.PB.keep (L := []) (w := (w.alloc (.cells (tc vr vl t).toArray 27)).alloc (.cells (pc (.slice pa p.ads.length pcp) p.b p.l p.s).toArray 54)) (show Pt.PB _ _ _ _ _ _ from heap_alloc_at (by simp)) ((Frm.refl [] _).alloc _) (by simp))
  have HA := Lib.hid (fun z (f : Frm [] w z) => hA.keep (w' := z) f (by simp))
  have HQ := Lib.hid (And.intro hq hl)
  have R6 := Lib.hid (show TB (((w.alloc (.cells (tc vr vl t).toArray 27)).alloc (.cells (pc (.slice pa p.ads.length pcp) p.b p.l p.s).toArray 54)).alloc (.cells (tc nilS nilS zeroT).toArray 27)) (w.heap.size + 2) nilS nilS zeroT from heap_alloc_at (by simp))
  have HT := Lib.hid h
  have HF := Lib.hid hf
  have HNS := Lib.hid hn
  rw [tcA, show pv (.slice pa p.ads.length pcp) p.b p.l p.s = .agg (pc (.slice pa p.ads.length pcp) p.b p.l p.s).toArray from rfl]
  generalize (tc vr vl t).toArray = A at *
  generalize (pc (.slice pa p.ads.length pcp) p.b p.l p.s).toArray = A2 at *
  clear h hf hn hA hq hl
  go_enter Tryz.func55, Tryz.ntmps55
  go_upto_region 1 with ((with_reducible (show wpList _ _ _ (Oper.mk _ (Op.alloc 27) _ _ _ _ :: _) _ _)); refine wpList_val rfl (exec_alloc27 rfl _) ?_)
  try simp only [World.size_alloc]
  generalize ((w.alloc (.cells A 27)).alloc (.cells A2 54)).alloc (.cells (tc nilS nilS zeroT).toArray 27) = W at *
  refine wp_region_held_drew (S := fun z => Frm [] W z) (by kernel_rfl) ((Frm.refl [] W).drew) (fun hHeld => ?_)
  refine wpAnyH_take (i := 0) (oi := ⟨some 9, .load 27 (.tmp 3), _, _, _, none⟩) rfl (by kernel_rfl) (by kernel_rfl) (by kernel_rfl) (fun _ _ _ h => h) (yieldsIf_ld (by rfl) 27 _ rfl _ rfl (fun z hSw => (BT.out.keep0 hSw).gets.all)) hHeld ?_
  try simp only [Act.put, List.setIfInBounds_toArray, List.set_cons_zero, List.set_cons_succ]
  refine wpAnyH_take (i := 1) (oi := ⟨some 10, .move (.tmp 1), _, _, _, none⟩) (v := ?_) rfl (by kernel_rfl) (by kernel_rfl) (by kernel_rfl) (fun _ _ _ h => h) (Or.inl ⟨by rfl, ?_⟩) hHeld ?_
  rotate_left
  focus (intro z hSw; clear hSw; go_simp; try with_reducible rfl)
  try simp only [Act.put, List.setIfInBounds_toArray, List.set_cons_zero, List.set_cons_succ]
  refine wpAnyH_take (i := 2) (oi := ⟨some 11, .load 54 (.tmp 5), _, _, _, none⟩) rfl (by kernel_rfl) (by kernel_rfl) (by kernel_rfl) (fun _ _ _ h => h) (yieldsIf_ld (by rfl) 54 _ rfl _ rfl (fun z hSw => (Pt.PB.gets (C5.out.keep hSw (by simp)) HQ.out.1).all)) hHeld ?_
  try simp only [Act.put, List.setIfInBounds_toArray, List.set_cons_zero, List.set_cons_succ]
  refine wpAnyH_ready (rs := [3]) (by kernel_rfl) (by simp) ?_
  refine AllReadyH.cons (o := ⟨some 12, .call { callee := .value (.func 120), args := #[.tmp 11], argTypes := #[54] }, _, _, _, none⟩) rfl (fun K hK => ?_) AllReadyH.nil
  go_simp
  refine (mayRoot_any _ p _ ⟨pa, pcp, sp, rfl, HA.out _ (F0.out.trans hHeld (by simp)), HQ.out.1⟩ HQ.out.2).mono ?_
  rintro r w1 ⟨rfl, f1⟩
  refine hK.out _ _ ?_ (fun hNext => ?_)
  · exact hHeld.trans f1 (by simp)
  clear hK K hHeld
  have hHeld := hNext
  clear hNext
  try simp only [Act.put, List.setIfInBounds_toArray, List.set_cons_zero, List.set_cons_succ]
  refine wpAnyH_ready (rs := [4]) (by kernel_rfl) (by simp) ?_
  refine AllReadyH.cons (o := ⟨some 13, .call { callee := .value (.func 106), args := #[.tmp 9, .tmp 10, .tmp 12], argTypes := #[27, 9, 4] }, _, _, _, none⟩) rfl (fun K hK => ?_) AllReadyH.nil
  go_simp
  refine (mayWrite_any vr vl t n _ _ (HT.out.keep0 (F0.out.trans hHeld (by simp))) HF.out HNS.out).mono ?_
  rintro r w2 ⟨rfl, f2⟩
  refine hK.out _ _ ?_ (fun hNext => ?_)
  · exact hHeld.trans f2 (by simp)
  clear hK K hHeld
  have hHeld := hNext
  clear hNext
  try simp only [Act.put, List.setIfInBounds_toArray, List.set_cons_zero, List.set_cons_succ]
  refine wpAnyH_take (i := 5) (oi := ⟨some 8, .assign (.tmp 13), _, _, _, none⟩) (v := ?_) rfl (by kernel_rfl) (by kernel_rfl) (by kernel_rfl) (fun _ _ _ h => h) (Or.inl ⟨by rfl, ?_⟩) hHeld ?_
  rotate_left
  focus (intro z hSw; clear hSw; go_simp; try with_reducible rfl)
  try simp only [Act.put, List.setIfInBounds_toArray, List.set_cons_zero, List.set_cons_succ]
  refine wpAnyH_done (by kernel_rfl) ?_ _
  have FW := Lib.hid hHeld
  have HE := Lib.hid (show rootT t n p = if writeC t n (rootD p) = 0 then (updR t n (fun x => withRoot x p), 0) else (zeroT, writeC t n (rootD p)) from rfl)
  have HW := Lib.hid (fun (e : writeC t n (rootD p) = 0) => writeC_found e)
  generalize rootT t n p = res at *
  generalize writeC t n (rootD p) = ec at *
  clear hHeld
  try clear f2
  go_upto_region 2 with (fail)
  refine wp_region_late 8 (S := fun z => Frm [] W z) (by kernel_rfl) (FW.out.drew) (fun hHeld => ?_)
  refine wpAnyL_take (i := 0) (oi := ⟨some 14, .load 27 (.tmp 3), _, _, _, none⟩) rfl (by kernel_rfl) (by kernel_rfl) (by kernel_rfl) (fun _ _ _ h => h) (yieldsIf_ld (by rfl) 27 _ rfl _ rfl (fun z hSw => (BT.out.keep0 hSw).gets.all)) hHeld ?_
  try simp only [Act.put, List.setIfInBounds_toArray, List.set_cons_zero, List.set_cons_succ]
  refine wpAnyL_takeP (i := 1) (oi := ⟨some 15, .move (.tmp 8), _, _, _, none⟩) (v := ?_) rfl (by kernel_rfl) (by kernel_rfl) (by kernel_rfl) (fun _ _ _ h => h) (Or.inl ⟨by rfl, ?_⟩) hHeld ?_
  rotate_left
  focus (intro z hSw; clear hSw; go_simp; try with_reducible rfl)
  try simp only [Act.put, List.setIfInBounds_toArray, List.set_cons_zero, List.set_cons_succ]
  refine wpAnyL_takeP (i := 2) (oi := ⟨some 16, .move (.tmp 1), _, _, _, none⟩) (v := ?_) rfl (by kernel_rfl) (by kernel_rfl) (by kernel_rfl) (fun _ _ _ h => h) (Or.inl ⟨by rfl, ?_⟩) hHeld ?_
  rotate_left
  focus (intro z hSw; clear hSw; go_simp; try with_reducible rfl)
  try simp only [Act.put, List.setIfInBounds_toArray, List.set_cons_zero, List.set_cons_succ]
  refine wpAnyL_takeP (i := 3) (oi := ⟨some 17, .makeFunc (Fn.func 121) #[] #[.tmp 5], _, _, _, none⟩) (v := ?_) rfl (by kernel_rfl) (by kernel_rfl) (by kernel_rfl) (fun _ _ _ h => h) (Or.inl ⟨by rfl, ?_⟩) hHeld ?_
  rotate_left
  focus (intro z hSw; clear hSw; go_simp; try with_reducible rfl)
  try simp only [Act.put, List.setIfInBounds_toArray, List.set_cons_zero, List.set_cons_succ]
  refine wpAnyL_one (i := 4) (o := ⟨some 18, .call { callee := .value (.func 108), args := #[.tmp 16, .tmp 17], argTypes := #[9, 135] }, _, _, _, none⟩) (by kernel_rfl) rfl (fun K hK => ?_)
  go_simp
  refine (set_any n 121 _ _).mono ?_
  rintro r w3 ⟨g, h, rfl, cg, ch, f3⟩
  refine hK.out _ _ ?_ (fun hNext => ?_)
  · exact hHeld.trans f3 (by simp)
  clear hK K hHeld
  have hHeld := hNext
  clear hNext
  try simp only [Act.put, List.setIfInBounds_toArray, List.set_cons_zero, List.set_cons_succ]
  refine wpAnyL_one (i := 5) (o := ⟨some 19, .call { callee := .value (.func 104), args := #[.tmp 14, .tmp 15, .tmp 18], argTypes := #[27, 32, 128] }, _, _, _, none⟩) (by kernel_rfl) rfl (fun K hK => ?_)
  have F34 := Lib.hid hHeld
  have hch : ec = 0 → ∃ F cap, Value.func (.func 172) #[] #[.pointer (some ⟨g, 0, none⟩), .pointer (some ⟨h, 0, none⟩)] = .func (.func F) #[] cap ∧ ChT w3 F cap t (updR t n (fun x => withRoot x p)) := fun e => by
    obtain ⟨i, x, h1, h2, h3⟩ := HW.out e
    refine ⟨172, _, rfl, ?_⟩
    have := set1_any w3 g h i n 121 #[.pointer (some ⟨w.heap.size + 1, 0, none⟩)] t x (withRoot x p) cg ch h1 h2 (root1_ch w3 _ _ sp x p (C5.out.keep F34.out (by simp)) (HA.out _ (F0.out.trans F34.out (by simp))) HQ.out.1 HQ.out.2) HF.out.recs
    unfold updR
    rw [h1, h3]
    exact this
  have hd := done_any vr vl _ t _ ec w3 (HT.out.keep0 (F0.out.trans hHeld (by simp))) HF.out hch
  rw [← HE.out] at hd
  have HD := Lib.hid hd
  clear hd hch
  go_simp
  refine HD.out.mono ?_
  rintro r w4 ⟨vr4, vl4, rfl, o4, f4⟩
  refine hK.out _ _ ?_ (fun hNext => ?_)
  · exact hHeld.trans f4 (by simp)
  clear hK K hHeld
  have hHeld := hNext
  clear hNext
  try simp only [Act.put, List.setIfInBounds_toArray, List.set_cons_zero, List.set_cons_succ]
  refine wpAnyL_takeP (i := 6) (oi := ⟨some 20, .extract (.tmp 19) 0, _, _, _, none⟩) (v := ?_) rfl (by kernel_rfl) (by kernel_rfl) (by kernel_rfl) (fun _ _ _ h => h) (Or.inl ⟨by rfl, ?_⟩) hHeld ?_
  rotate_left
  focus (intro z hSw; clear hSw; go_simp; try with_reducible rfl)
  try simp only [Act.put, List.setIfInBounds_toArray, List.set_cons_zero, List.set_cons_succ]
  refine wpAnyL_takeP (i := 7) (oi := ⟨some 21, .extract (.tmp 19) 1, _, _, _, none⟩) (v := ?_) rfl (by kernel_rfl) (by kernel_rfl) (by kernel_rfl) (fun _ _ _ h => h) (Or.inl ⟨by rfl, ?_⟩) hHeld ?_
  rotate_left
  focus (intro z hSw; clear hSw; go_simp; try with_reducible rfl)
  try simp only [Act.put, List.setIfInBounds_toArray, List.set_cons_zero, List.set_cons_succ]
  refine wpAnyL_last (o := ⟨none, .store 27 (.tmp 6) (.tmp 20), _, _, _, none⟩) (by kernel_rfl) rfl (by simp) (fun K hK => ?_)
  refine step_store27 rfl (.tmp 6) (.tmp 20) rfl o4.ones.1 o4.ones.2 (R6.out.keep0 (F34.out.trans f4 (by simp))) rfl rfl (fun w8 B8 f8 => ?_)
  refine hK.out _ _ ?_
  clear hK K hHeld
  try simp only [Act.put, List.setIfInBounds_toArray, List.set_cons_zero, List.set_cons_succ]
  refine wpAny_take (i := 9) (oi := ⟨some 7, .assign (.tmp 21), _, _, _, none⟩) (v := ?_) rfl (by kernel_rfl) (by kernel_rfl) (by kernel_rfl) (fun _ _ _ h => h) (Or.inl ⟨by rfl, ?_⟩) ?_
  rotate_left
  focus (intro z; go_simp; try with_reducible rfl)
  try simp only [Act.put, List.setIfInBounds_toArray, List.set_cons_zero, List.set_cons_succ]
  refine wpAny_done (by kernel_rfl) ?_ _
  have b8 := B8
  have SZ := Lib.hid (show w.heap.size + 2 < W.heap.size from R6.out.lt)
  go_wp2_with fail
  refine bodyPost_ret (results_cell_slot (p := 6) (q := 7) rfl _ _ rfl rfl (run_loadVar_row w8 (w.heap.size + 2) 27 27 _ (0, 0) _ b8 Tryz.underlying27 rfl (by rw [i27]; simp [tc]))) rfl ?_
  exact ⟨_, _, rfl, (o4.keep f8 (fun i hi => .inl (by have := SZ.out; have := F34.out.size; simp at hi; omega))).base (Nat.le_trans F0.out.size F34.out.size), ((F0.out.trans F34.out (by simp)).trans f4 (by simp)).trans f8 (fun i hi => .inr (by simp at hi; omega))⟩
end Go.Proofs.YtljhanhipmnioaaGreat.Rd

namespace Go.Proofs.YtljhanhipmnioaaGreat.Rd
open Go.RowKit
set_option linter.unusedVariables false
set_option linter.unusedSimpArgs false
set_option maxRecDepth 100000

open Pt (Pt may enc zeroPt be4 be1 pc pv PtV SlA OwnA BT wpList_load_g heap_alloc_at Ext Grew yieldsIf_ld)
open Kr (OwnE SlE Enco RowTys)

def nV : ByteArray := { data := #[118, 111, 108] }
def nVS : ByteArray := { data := #[118, 111, 108, 64, 115] }
def nC : ByteArray := { data := #[99, 111, 112, 121] }
def nA : ByteArray := { data := #[97] }
def nAS : ByteArray := { data := #[97, 64, 115] }
/-- The volume under a name, its snapshot, the clone. -/
def bV (n : ByteArray) (S : Int) (P : Pt) : Rec := ⟨1, n, 1, S, P, 2147483648, 0, 0, 0, 0⟩
def bS (n : ByteArray) (S : Int) (P : Pt) : Rec := ⟨2, n, 2, S, P, 2147483648, 1, 0, 0, 0⟩
def bC (S : Int) (P : Pt) : Rec := ⟨3, nC, 1, S, P, 1, 0, 2, 0, 0⟩
def bT1 (S : Int) (P : Pt) : Tab := ⟨2, [bV nV S P], zeroC, [0, 0, 0]⟩
def bT2 (S : Int) (P : Pt) (L : Int) (Q : Pt) : Tab := ⟨3, [bV nV L Q, bS nVS S P], zeroC, [0, 0, 0]⟩
def bT3 (S : Int) (P : Pt) (L : Int) (Q : Pt) : Tab := ⟨4, [bC S P, bV nV L Q, bS nVS S P], zeroC, [0, 0, 0]⟩
def bT4 (S : Int) (P : Pt) (L : Int) (Q : Pt) : Tab := ⟨4, [bV nA L Q, bS nAS S P, bC S P], zeroC, [0, 0, 0]⟩
theorem bV_may {n : ByteArray} {S : Int} {P : Pt} (hn : partS n = true) (hS : wi S 1 64 = true) (hP : rootB P = true) : mayR (bV n S P) = true := by
  have e : mayR (bV n S P) = ((wi 1 1 2147483647 && (wi S 1 64 && wi 2147483648 1 2147483648)) && (rootB P && (partS n && ((0 : Int) == 0 && (wi 0 0 2147483647 && (wi 0 0 64 && wi 0 0 64)))))) := rfl
  rw [e, hS, hP, hn]
  refine Eq.trans ?_ rfl
  kernel_rfl
theorem bC_may {S : Int} {P : Pt} (hS : wi S 1 64 = true) (hP : rootB P = true) : mayR (bC S P) = true := by
  have e : mayR (bC S P) = ((wi 3 1 2147483647 && (wi S 1 64 && wi 1 1 2147483648)) && (rootB P && (partS nC && ((0 : Int) == 0 && (wi 2 0 2147483647 && (wi 0 0 64 && wi 0 0 64)))))) := rfl
  rw [e, hS, hP]
  refine Eq.trans ?_ rfl
  kernel_rfl
theorem bS_may {n : ByteArray} {S : Int} {P : Pt} (hn : snapS n = true) (hS : wi S 1 64 = true) (hP : rootB P = true) (hb : P.b ≤ 2147483648) : mayR (bS n S P) = true := by
  have e : mayR (bS n S P) = ((wi 2 1 2147483647 && (wi S 1 64 && wi 2147483648 1 2147483648)) && (rootB P && (snapS n && (wi 1 1 2147483647 && ((0 : Int) == 0 && ((0 : Int) == 0 && ((0 : Int) == 0 && decide (P.b ≤ 2147483648)))))))) := rfl
  rw [e, hS, hP, hn, decide_eq_true hb]
  refine Eq.trans ?_ rfl
  kernel_rfl
theorem mT1 {S : Int} {P : Pt} (hS : wi S 1 64 = true) (hP : rootB P = true) : mayT (bT1 S P) = true := by
  have h1 := bV_may (n := nV) (by kernel_rfl) hS hP
  have e : mayT (bT1 S P) = (headB (bT1 S P) && ([(0 : Int), 0, 0].all (fun n => wi n 0 2147483647) && ((stand 2 (bT1 S P).recs 0 (bV nV S P) && true) && curB zeroC (3 : Nat)))) := rfl
  rw [e]
  unfold stand
  rw [h1]
  refine Eq.trans ?_ rfl
  kernel_rfl
theorem mT2 {S L : Int} {P Q : Pt} (hS : wi S 1 64 = true) (hP : rootB P = true) (hL : wi L 1 64 = true) (hQ : rootB Q = true) (hb : P.b ≤ 2147483648) : mayT (bT2 S P L Q) = true := by
  have h1 := bV_may (n := nV) (by kernel_rfl) hL hQ
  have h2 := bS_may (n := nVS) (by kernel_rfl) hS hP hb
  have e : mayT (bT2 S P L Q) = (headB (bT2 S P L Q) && ([(0 : Int), 0, 0].all (fun n => wi n 0 2147483647) && ((stand 3 (bT2 S P L Q).recs 0 (bV nV L Q) && (stand 3 (bT2 S P L Q).recs 1 (bS nVS S P) && true)) && curB zeroC (3 : Nat)))) := rfl
  rw [e]
  unfold stand
  rw [h1, h2]
  refine Eq.trans ?_ rfl
  kernel_rfl
theorem mT3 {S L : Int} {P Q : Pt} (hS : wi S 1 64 = true) (hP : rootB P = true) (hL : wi L 1 64 = true) (hQ : rootB Q = true) (hb : P.b ≤ 2147483648) : mayT (bT3 S P L Q) = true := by
  have h1 := bV_may (n := nV) (by kernel_rfl) hL hQ
  have h2 := bS_may (n := nVS) (by kernel_rfl) hS hP hb
  have h3 := bC_may hS hP
  have e : mayT (bT3 S P L Q) = (headB (bT3 S P L Q) && ([(0 : Int), 0, 0].all (fun n => wi n 0 2147483647) && ((stand 4 (bT3 S P L Q).recs 0 (bC S P) && (stand 4 (bT3 S P L Q).recs 1 (bV nV L Q) && (stand 4 (bT3 S P L Q).recs 2 (bS nVS S P) && true))) && curB zeroC (3 : Nat)))) := rfl
  rw [e]
  unfold stand
  rw [h1, h2, h3]
  refine Eq.trans ?_ rfl
  kernel_rfl
theorem mT4 {S L : Int} {P Q : Pt} (hS : wi S 1 64 = true) (hP : rootB P = true) (hL : wi L 1 64 = true) (hQ : rootB Q = true) (hb : P.b ≤ 2147483648) : mayT (bT4 S P L Q) = true := by
  have h1 := bV_may (n := nA) (by kernel_rfl) hL hQ
  have h2 := bS_may (n := nAS) (by kernel_rfl) hS hP hb
  have h3 := bC_may hS hP
  have e : mayT (bT4 S P L Q) = (headB (bT4 S P L Q) && ([(0 : Int), 0, 0].all (fun n => wi n 0 2147483647) && ((stand 4 (bT4 S P L Q).recs 0 (bV nA L Q) && (stand 4 (bT4 S P L Q).recs 1 (bS nAS S P) && (stand 4 (bT4 S P L Q).recs 2 (bC S P) && true))) && curB zeroC (3 : Nat)))) := rfl
  rw [e]
  unfold stand
  rw [h1, h2, h3]
  refine Eq.trans ?_ rfl
  kernel_rfl
theorem qMake {S : Int} (hS : wi S 1 64 = true) : makeT (newT 3) nV S 2147483648 = (bT1 S Pt.zeroPt, 0) := by
  unfold makeT makeC
  rw [hS]
  refine Eq.trans ?_ rfl
  kernel_rfl
theorem qRoot1 {S : Int} {P Q : Pt} (hm : mayT (bT1 S P) = true) (hr : rootD Q = true) : rootT (bT1 S P) nV Q = (bT1 S Q, 0) := by
  unfold rootT writeC mayC mayTE
  rw [hm, hr]
  refine Eq.trans ?_ rfl
  kernel_rfl
theorem qRoot1n {S : Int} {P Q : Pt} (hm : mayT (bT1 S P) = true) (hr : rootD Q = false) : rootT (bT1 S P) nV Q = (zeroT, 2) := by
  unfold rootT writeC mayC mayTE
  rw [hm, hr]
  refine Eq.trans ?_ rfl
  kernel_rfl
theorem qSnap {S : Int} {P : Pt} (hm : mayT (bT1 S P) = true) (hb : P.b ≤ 2147483648) : snapT (bT1 S P) nVS 2147483648 = (bT2 S P S P, 0) := by
  unfold snapT snapC mayC mayTE
  have e : (fndR (spl1 nVS) (bT1 S P).recs).root.b = P.b := by kernel_rfl
  rw [hm, e, decide_eq_true hb]
  refine Eq.trans ?_ rfl
  kernel_rfl
theorem qRoot2 {S L : Int} {P Q Q' : Pt} (hm : mayT (bT2 S P L Q) = true) (hr : rootD Q' = true) : rootT (bT2 S P L Q) nV Q' = (bT2 S P L Q', 0) := by
  unfold rootT writeC mayC mayTE
  rw [hm, hr]
  refine Eq.trans ?_ rfl
  kernel_rfl
theorem qRoot2n {S L : Int} {P Q Q' : Pt} (hm : mayT (bT2 S P L Q) = true) (hr : rootD Q' = false) : rootT (bT2 S P L Q) nV Q' = (zeroT, 2) := by
  unfold rootT writeC mayC mayTE
  rw [hm, hr]
  refine Eq.trans ?_ rfl
  kernel_rfl
theorem qSize {S L L' : Int} {P Q : Pt} (hm : mayT (bT2 S P L Q) = true) (hL : wi L' 1 64 = true) : sizeT (bT2 S P L Q) nV L' = (bT2 S P L' Q, 0) := by
  unfold sizeT writeC mayC mayTE
  rw [hm, hL]
  refine Eq.trans ?_ rfl
  kernel_rfl
theorem qRoll {S L : Int} {P Q : Pt} (hm : mayT (bT2 S P L Q) = true) : rollT (bT2 S P L Q) nVS = (bT2 S P S P, 0) := by
  unfold rollT rollC mayC mayTE
  rw [hm]
  refine Eq.trans ?_ rfl
  kernel_rfl
theorem qClone {S L : Int} {P Q : Pt} (hm : mayT (bT2 S P L Q) = true) : cloneT (bT2 S P L Q) nVS nC 1 = (bT3 S P L Q, 0) := by
  unfold cloneT cloneC mayC mayTE
  rw [hm]
  refine Eq.trans ?_ rfl
  kernel_rfl
theorem qRen1 {S L : Int} {P Q : Pt} (hm : mayT (bT3 S P L Q) = true) : renameT (bT3 S P L Q) nV nA = (bT4 S P L Q, 0) := by
  unfold renameT renameC mayC mayTE
  rw [hm]
  refine Eq.trans ?_ rfl
  kernel_rfl
theorem qRen2 {S L : Int} {P Q : Pt} (hm : mayT (bT4 S P L Q) = true) : renameT (bT4 S P L Q) nA nV = (bT3 S P L Q, 0) := by
  unfold renameT renameC mayC mayTE
  rw [hm]
  refine Eq.trans ?_ rfl
  kernel_rfl
theorem qN3 (S : Int) (P : Pt) (L : Int) (Q : Pt) : namesB (bT3 S P L Q) [nC, nV, nVS] = true := by kernel_rfl
theorem qN4 (S : Int) (P : Pt) (L : Int) (Q : Pt) : namesB (bT4 S P L Q) [nA, nAS, nC] = true := by kernel_rfl
end Go.Proofs.YtljhanhipmnioaaGreat.Rd

namespace Go.Proofs.YtljhanhipmnioaaGreat.Rd
open Go.RowKit
set_option linter.unusedVariables false
set_option linter.unusedSimpArgs false
set_option maxRecDepth 100000

open Pt (Pt may enc zeroPt be4 be1 pc pv PtV SlA OwnA BT wpList_load_g heap_alloc_at Ext Grew yieldsIf_ld)
open Kr (OwnE SlE Enco RowTys)

theorem PickD_any (n : Int) (k : Nat) (hk : 1 ≤ k) (hk2 : k ≤ 4294967296) (w : World) :
    Calls Tryz.prog 37 #[.int .i64 n, .int .i64 (k : Int)] w fun r w' => ∃ j : Nat, j < k ∧ r = .returned (.int .i64 (j : Int)) ∧ w' = w := by
  have h1 : -(k : Int) < n.tmod k := by
    rcases Int.le_total 0 n with h | h
    · have := Int.tmod_nonneg (k : Int) h; omega
    · have h3 := Int.tmod_nonneg (k : Int) (a := -n) (by omega)
      have h4 := Int.tmod_lt_of_pos (-n) (b := (k : Int)) (by omega)
      rw [Int.neg_tmod] at h3 h4
      omega
  have h2 : n.tmod k < (k : Int) := Int.tmod_lt_of_pos n (by omega)
  have hk9 : (k : Int) ≤ 4294967296 := by omega
  have hk1 : (1 : Int) ≤ (k : Int) := by omega
  have hk0 : ((k : Int) == 0) = false := by simp; omega
  have hw : IntKind.i64.wrap (n.tmod k) = n.tmod k := IntWalk.i64_in _ (by omega)
  generalize hm : n.tmod k = m at *
  go_enter Tryz.func37, Tryz.ntmps37
  by_cases hneg : m < 0
  · go_wp2_with fail
    go_ret
    refine ⟨(m + k).toNat, by omega, ?_, rfl⟩
    rw [Int.toNat_of_nonneg (by omega)]; rfl
  · go_wp2_with fail
    go_ret
    refine ⟨m.toNat, by omega, ?_, rfl⟩
    rw [Int.toNat_of_nonneg (by omega)]; rfl
end Go.Proofs.YtljhanhipmnioaaGreat.Rd
