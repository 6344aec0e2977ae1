/-
  Dir: Make. No conditions but those that each theorem names. Dir: Snap. No conditions but those that each theorem names. Dir: Rollback. No conditions but those that each theorem names.
-/
import Derived.Test.YtljhanhipmnioaaGreatDBa1
import Derived.Test.YtljhanhipmnioaaGreatDBa2
import Derived.Test.YtljhanhipmnioaaGreatDBa3
import Derived.Test.YtljhanhipmnioaaGreatDBa4
import Derived.Test.YtljhanhipmnioaaGreatDBa5
import Derived.Test.YtljhanhipmnioaaGreatDBa6
import Derived.Test.YtljhanhipmnioaaGreatDBa7
import Derived.Test.YtljhanhipmnioaaGreatDBa8
import Derived.OrdersHeld
import Derived.Deep.RegionHeld
import Derived.WalkKit
import Derived.WalkSpells
import Derived.WalkLawsBesides
import Derived.Deep.AppendSrc
import Derived.Laws.CopyOwn
import Derived.Laws.BytesArg
import Derived.Carry
import Derived.Laws.BytesString
import Derived.Deep.SlicePairs
import Derived.Deep.Cut
import Derived.Lib.Hide
import Derived.Test.YtljhanhipmnioaaGreatChecked
import Derived.ChangeKeysEq
import Derived.Deep.MidRow
import Derived.Deep.RegionHeld3
import Derived.OpenShut
import Derived.WalkHide
import Derived.IntWalk
import Derived.StillTailTactics
import Derived.Deep.RegionLaw
import Derived.Deep.RegionWith
import Derived.Deep.QuietTactic
import Derived.BigQuiet
import Derived.Deep.CutBlock
import Derived.Deep.DeepCutAuto
import Derived.Deep.Slices
import Derived.Defers
import Derived.Recover
import Derived.Deep.WholeRow
import Derived.Deep.Strs
import Derived.ChangeSame
import Derived.Lib.Bytealg
import Derived.Lib.TrimUEq
import Derived.Lib.MinMaxS
import Derived.LaidEqlPtr
import Derived.Lib.OthersKept
import Derived.Deep.Draws
import Derived.WalkMore
import Derived.Deep.LoopGhost
import Derived.Lib.BufferWrite
import Derived.Lib.UnsafeStr
import Derived.Laws.MakeOwn
import Derived.Laws.Strings3
import Derived.BigRegion
import Derived.Lib.Walk
import Derived.Great.Walk
import Derived.Lib.SliceRun
import Derived.Laws.OwnMore
import Derived.Lib.AppendZerosOnto
import Derived.Lib.Overlaps
namespace Go.Proofs.YtljhanhipmnioaaGreat.Rd
open Go.RowKit
set_option linter.unusedVariables false
set_option linter.unusedSimpArgs false
set_option maxRecDepth 100000

open Pt (Pt may enc zeroPt be4 be1 pc pv PtV SlA OwnA BT wpList_load_g heap_alloc_at Ext Grew yieldsIf_ld)
open Kr (OwnE SlE Enco RowTys)

/-- The record that Make puts in. -/
def mkR (n : ByteArray) (m g : Int) : Rec := ⟨0, n, 1, m, Pt.zeroPt, g, 0, 0, 0, 0⟩
theorem mkR_s (n : ByteArray) (m g : Int) : (mkR n m g).root.s.length = 32 := by show Pt.zeroPt.s.length = 32; kernel_rfl
theorem bldMk (n : ByteArray) (m g : Int) (W : World) : (Instr.build 56 #[(1, .string n), (2, .int .i64 1), (3, .int .i64 m), (5, .int .i64 g)]).run Tryz.prog W = .ok (rv nilS (mkR n m g)) W := by kernel_rfl
theorem exec_bldMk {o : Oper} {a : Act} {n : ByteArray} {m g : Int} (p q r s : Operand) (hop : o.op = Op.build 56 #[(1, p), (2, s), (3, q), (5, r)]) (h1 : a.eval p = .string n) (h4 : a.eval s = .int .i64 1) (h2 : a.eval q = .int .i64 m) (h3 : a.eval r = .int .i64 g) (W : World) : (execOp a.eval o).run Tryz.prog W = .ok (.value (rv nilS (mkR n m g))) W := by
  have hb := bldMk n m g W
  have hm : (#[(1, p), (2, s), (3, q), (5, r)].map fun ((i, x) : Nat × Operand) => (i, a.eval x)) = #[(1, .string n), (2, .int .i64 1), (3, .int .i64 m), (5, .int .i64 g)] := by simp [h1, h2, h3, h4]
  simp only [execOp, hop, hm, Sem.run_bind, Sem.run_pure, hb, Result.andThen_ok]
theorem mayC_may {t : Tab} {b : Bool} (h : mayC t b = 0) : MayT t ∧ b = true := by
  unfold mayC mayTE unl at h
  cases hm : mayT t with
  | false => rw [hm] at h; simp [orL] at h
  | true =>
    rw [hm] at h
    refine ⟨mayT_iff.1 hm, ?_⟩
    cases b with
    | true => rfl
    | false => simp [orL] at h
theorem orL_all0 : ∀ {l : List Int}, orL l = 0 → ∀ x ∈ l, x = 0
  | [], _, x, hx => by cases hx
  | y :: l, h, x, hx => by
    unfold orL at h
    split at h
    · next h0 =>
      rcases List.mem_cons.1 hx with rfl | q
      · exact h0
      · exact orL_all0 h x q
    · next h0 => exact absurd h h0
def makeC (t : Tab) (n : ByteArray) (m g : Int) : Int := orL [mayC t ((partS n && wi m 1 64) && wi g 1 2147483648), roomC t n]
def makeT (t : Tab) (n : ByteArray) (m g : Int) : Tab × Int := if makeC t n m g = 0 then (putT t (mkR n m g), 0) else (zeroT, makeC t n m g)
set_option maxHeartbeats 8000000 in
theorem Make_any (vr vl : Value) (t : Tab) (n : ByteArray) (m g : Int) (w : World) (h : TabV w vr vl t) (hf : FitT t) (hn : n.size ≤ 1000) : Calls Tryz.prog 51 #[tv vr vl t, .string n, .int .i64 m, .int .i64 g] w (TellE (makeT t n m g) w) := by
  have F0 := Lib.hid (show Frm [] w ((w.alloc (.cells (tc vr vl t).toArray 27)).alloc (.cells (tc nilS nilS zeroT).toArray 27)) from ((Frm.refl [] w).alloc _).alloc _)
  have BT := Lib.hid ((TB.new w vr vl t).keep0 ((Frm.refl [] _).alloc (.cells (tc nilS nilS zeroT).toArray 27)))
  have R6 := Lib.hid (show TB ((w.alloc (.cells (tc vr vl t).toArray 27)).alloc (.cells (tc nilS nilS zeroT).toArray 27)) (w.heap.size + 1) nilS nilS zeroT from heap_alloc_at (by simp))
  have HT := Lib.hid h
  have HF := Lib.hid hf
  have HNS := Lib.hid hn
  have HE := Lib.hid (show makeT t n m g = if makeC t n m g = 0 then (putT t (mkR n m g), 0) else (zeroT, makeC t n m g) from rfl)
  have HW := Lib.hid (fun (e : makeC t n m g = 0) => (mayC_may (orL_all0 e _ (by simp : mayC t ((partS n && wi m 1 64) && wi g 1 2147483648) ∈ _))).1)
  have HR := Lib.hid (show makeC t n m g = orL [mayC t ((partS n && wi m 1 64) && wi g 1 2147483648), roomC t n] from rfl)
  have HV := Lib.hid (fun z => Volume_any n z)
  rw [tcA]
  generalize (tc vr vl t).toArray = A at *
  generalize makeT t n m g = res at *
  generalize makeC t n m g = ec at *
  clear h hf hn
  go_enter Tryz.func51, Tryz.ntmps51
  go_upto_region 1 with ((with_reducible (show wpList _ _ _ (Oper.mk _ (Op.alloc 27) _ _ _ _ :: _) _ _)); refine wpList_val rfl (exec_alloc27 rfl _) ?_)
  try simp only [World.size_alloc]
  generalize (w.alloc (.cells A 27)).alloc (.cells (tc nilS nilS zeroT).toArray 27) = W at *
  cases hb1 : partS n with
  | false =>
    rw [hb1, Bool.false_and, Bool.false_and] at HR
    refine wp_region_held_drew (S := fun z => Frm [] W z) (by kernel_rfl) ((Frm.refl [] W).drew) (fun hHeld => ?_)
    refine wpAnyH_take (i := 0) (oi := ⟨some 11, .load 27 (.tmp 4), _, _, _, none⟩) rfl (by kernel_rfl) (by kernel_rfl) (by kernel_rfl) (fun _ _ _ h => h) (yieldsIf_ld (by rfl) 27 _ rfl _ rfl (fun z hSw => (BT.out.keep0 hSw).gets.all)) hHeld ?_
    try simp only [Act.put, List.setIfInBounds_toArray, List.set_cons_zero, List.set_cons_succ]
    refine wpAnyH_take (i := 1) (oi := ⟨some 12, .move (.tmp 1), _, _, _, none⟩) (v := ?_) rfl (by kernel_rfl) (by kernel_rfl) (by kernel_rfl) (fun _ _ _ h => h) (Or.inl ⟨by rfl, ?_⟩) hHeld ?_
    rotate_left
    focus (intro z hSw; clear hSw; go_simp; try with_reducible rfl)
    try simp only [Act.put, List.setIfInBounds_toArray, List.set_cons_zero, List.set_cons_succ]
    refine wpAnyH_take (i := 12) (oi := ⟨some 23, .load 27 (.tmp 4), _, _, _, none⟩) rfl (by kernel_rfl) (by kernel_rfl) (by kernel_rfl) (fun _ _ _ h => h) (yieldsIf_ld (by rfl) 27 _ rfl _ rfl (fun z hSw => (BT.out.keep0 hSw).gets.all)) hHeld ?_
    try simp only [Act.put, List.setIfInBounds_toArray, List.set_cons_zero, List.set_cons_succ]
    refine wpAnyH_take (i := 13) (oi := ⟨some 24, .move (.tmp 1), _, _, _, none⟩) (v := ?_) rfl (by kernel_rfl) (by kernel_rfl) (by kernel_rfl) (fun _ _ _ h => h) (Or.inl ⟨by rfl, ?_⟩) hHeld ?_
    rotate_left
    focus (intro z hSw; clear hSw; go_simp; try with_reducible rfl)
    try simp only [Act.put, List.setIfInBounds_toArray, List.set_cons_zero, List.set_cons_succ]
    refine wpAnyH_ready (rs := [2]) (by kernel_rfl) (by simp) ?_
    refine AllReadyH.cons (o := ⟨some 13, .call { callee := .value (.func 112), args := #[.tmp 12], argTypes := #[9] }, _, _, _, none⟩) rfl (fun K hK => ?_) AllReadyH.nil
    go_simp
    refine (HV.out _).mono ?_
    rintro r wv ⟨rfl, fv⟩
    try rw [hb1]
    refine hK.out _ _ ?_ (fun hNext => ?_)
    · exact hHeld.trans fv (by simp)
    clear hK K hHeld
    have hHeld := hNext
    clear hNext
    try simp only [Act.put, List.setIfInBounds_toArray, List.set_cons_zero, List.set_cons_succ]
    refine wpAnyH_take (i := 3) (oi := ⟨some 14, .move (.tmp 13), _, _, _, none⟩) (v := ?_) rfl (by kernel_rfl) (by kernel_rfl) (by kernel_rfl) (fun _ _ _ h => h) (Or.inl ⟨by rfl, ?_⟩) hHeld ?_
    rotate_left
    focus (intro z hSw; clear hSw; go_simp; try with_reducible rfl)
    try simp only [Act.put, List.setIfInBounds_toArray, List.set_cons_zero, List.set_cons_succ]
    refine wpAnyH_take (i := 4) (oi := ⟨some 15, .move (.tmp 2), _, _, _, some (3, true)⟩) (v := undef) rfl (by kernel_rfl) (by kernel_rfl) (by kernel_rfl) (fun _ _ _ h => h) (Or.inr ⟨by rfl, rfl⟩) hHeld ?_
    try simp only [Act.put, List.setIfInBounds_toArray, List.set_cons_zero, List.set_cons_succ]
    refine wpAnyH_take (i := 5) (oi := ⟨some 16, .call { callee := .value (.func 107), args := #[.tmp 15], argTypes := #[3] }, _, _, _, some (3, true)⟩) (v := undef) rfl (by kernel_rfl) (by kernel_rfl) (by kernel_rfl) (fun _ _ _ h => h) (Or.inr ⟨by rfl, rfl⟩) hHeld ?_
    try simp only [Act.put, List.setIfInBounds_toArray, List.set_cons_zero, List.set_cons_succ]
    refine wpAnyH_take (i := 6) (oi := ⟨some 17, .pick (.tmp 14) (.tmp 16) (.const (.bool false)), _, _, _, none⟩) (v := ?_) rfl (by kernel_rfl) (by kernel_rfl) (by kernel_rfl) (fun _ _ _ h => h) (Or.inl ⟨by rfl, ?_⟩) hHeld ?_
    rotate_left
    focus (intro z hSw; clear hSw; go_simp; try with_reducible rfl)
    try simp only [Act.put, List.setIfInBounds_toArray, List.set_cons_zero, List.set_cons_succ]
    refine wpAnyH_take (i := 7) (oi := ⟨some 18, .move (.tmp 17), _, _, _, none⟩) (v := ?_) rfl (by kernel_rfl) (by kernel_rfl) (by kernel_rfl) (fun _ _ _ h => h) (Or.inl ⟨by rfl, ?_⟩) hHeld ?_
    rotate_left
    focus (intro z hSw; clear hSw; go_simp; try with_reducible rfl)
    try simp only [Act.put, List.setIfInBounds_toArray, List.set_cons_zero, List.set_cons_succ]
    refine wpAnyH_take (i := 8) (oi := ⟨some 19, .move (.tmp 3), _, _, _, some (7, true)⟩) (v := undef) rfl (by kernel_rfl) (by kernel_rfl) (by kernel_rfl) (fun _ _ _ h => h) (Or.inr ⟨by rfl, rfl⟩) hHeld ?_
    try simp only [Act.put, List.setIfInBounds_toArray, List.set_cons_zero, List.set_cons_succ]
    refine wpAnyH_take (i := 9) (oi := ⟨some 20, .call { callee := .value (.func 113), args := #[.tmp 19], argTypes := #[3] }, _, _, _, some (7, true)⟩) (v := undef) rfl (by kernel_rfl) (by kernel_rfl) (by kernel_rfl) (fun _ _ _ h => h) (Or.inr ⟨by rfl, rfl⟩) hHeld ?_
    try simp only [Act.put, List.setIfInBounds_toArray, List.set_cons_zero, List.set_cons_succ]
    refine wpAnyH_take (i := 10) (oi := ⟨some 21, .pick (.tmp 18) (.tmp 20) (.const (.bool false)), _, _, _, none⟩) (v := ?_) rfl (by kernel_rfl) (by kernel_rfl) (by kernel_rfl) (fun _ _ _ h => h) (Or.inl ⟨by rfl, ?_⟩) hHeld ?_
    rotate_left
    focus (intro z hSw; clear hSw; go_simp; try with_reducible rfl)
    try simp only [Act.put, List.setIfInBounds_toArray, List.set_cons_zero, List.set_cons_succ]
    refine wpAnyH_ready (rs := [11]) (by kernel_rfl) (by simp) ?_
    refine AllReadyH.cons (o := ⟨some 22, .call { callee := .value (.func 101), args := #[.tmp 11, .tmp 21], argTypes := #[27, 4] }, _, _, _, none⟩) rfl (fun K hK => ?_) AllReadyH.nil
    go_simp
    refine (may_any vr vl t (false) _ (HT.out.keep0 (F0.out.trans hHeld (by simp))) HF.out).mono ?_
    rintro r wn ⟨rfl, fm⟩
    refine hK.out _ _ ?_ (fun hNext => ?_)
    · exact hHeld.trans fm (by simp)
    clear hK K hHeld
    have hHeld := hNext
    clear hNext
    try simp only [Act.put, List.setIfInBounds_toArray, List.set_cons_zero, List.set_cons_succ]
    refine wpAnyH_ready (rs := [14]) (by kernel_rfl) (by simp) ?_
    refine AllReadyH.cons (o := ⟨some 25, .call { callee := .value (.func 114), args := #[.tmp 23, .tmp 24], argTypes := #[27, 9] }, _, _, _, none⟩) rfl (fun K hK => ?_) AllReadyH.nil
    go_simp
    refine (room_any vr vl t n _ (HT.out.keep0 (F0.out.trans hHeld (by simp))) HF.out.recs).mono ?_
    rintro r wr ⟨rfl, fr⟩
    refine hK.out _ _ ?_ (fun hNext => ?_)
    · exact hHeld.trans fr (by simp)
    clear hK K hHeld
    have hHeld := hNext
    clear hNext
    try simp only [Act.put, List.setIfInBounds_toArray, List.set_cons_zero, List.set_cons_succ]
    refine wpAnyH_ready (rs := [15]) (by kernel_rfl) (by simp) ?_
    refine AllReadyH.cons (o := ⟨some 26, .buildSlice 166 2 #[(0, .tmp 22), (1, .tmp 25)], _, _, _, none⟩) rfl (fun K hK => ?_) AllReadyH.nil
    refine step_err2 rfl (.tmp 22) (.tmp 25) rfl rfl rfl ?_
    intro v15 w15 s15 f15
    refine hK.out _ _ ?_ (fun hNext => ?_)
    · exact hHeld.trans f15 (by simp)
    clear hK K hHeld
    have hHeld := hNext
    clear hNext
    try simp only [Act.put, List.setIfInBounds_toArray, List.set_cons_zero, List.set_cons_succ]
    refine wpAnyH_ready (rs := [16]) (by kernel_rfl) (by simp) ?_
    refine AllReadyH.cons (o := ⟨some 27, .call { callee := .value (.func 100), args := #[.tmp 26], argTypes := #[166] }, _, _, _, none⟩) rfl (fun K hK => ?_) AllReadyH.nil
    go_simp
    refine (OrE_any _ _ _ _ s15 (by simp)).mono ?_
    rintro r wo ⟨rfl, rfl⟩
    refine hK.out _ _ ?_ (fun hNext => ?_)
    · exact hHeld
    clear hK K hHeld
    have hHeld := hNext
    clear hNext
    try simp only [Act.put, List.setIfInBounds_toArray, List.set_cons_zero, List.set_cons_succ]
    refine wpAnyH_take (i := 17) (oi := ⟨some 10, .assign (.tmp 27), _, _, _, none⟩) (v := ?_) rfl (by kernel_rfl) (by kernel_rfl) (by kernel_rfl) (fun _ _ _ h => h) (Or.inl ⟨by rfl, ?_⟩) hHeld ?_
    rotate_left
    focus (intro z hSw; clear hSw; go_simp; try with_reducible rfl)
    try simp only [Act.put, List.setIfInBounds_toArray, List.set_cons_zero, List.set_cons_succ]
    refine wpAnyH_done (by kernel_rfl) ?_ _
    have FW := Lib.hid hHeld
    clear hHeld
    try clear fv
    try clear fm
    try clear fr
    rw [← HR.out]
    go_upto_region 2 with (fail)
    refine wp_region_late 10 (S := fun z => Frm [] W z) (by kernel_rfl) (FW.out.drew) (fun hHeld => ?_)
    refine wpAnyL_take (i := 0) (oi := ⟨some 28, .load 27 (.tmp 4), _, _, _, none⟩) rfl (by kernel_rfl) (by kernel_rfl) (by kernel_rfl) (fun _ _ _ h => h) (yieldsIf_ld (by rfl) 27 _ rfl _ rfl (fun z hSw => (BT.out.keep0 hSw).gets.all)) hHeld ?_
    try simp only [Act.put, List.setIfInBounds_toArray, List.set_cons_zero, List.set_cons_succ]
    refine wpAnyL_takeP (i := 1) (oi := ⟨some 29, .move (.tmp 10), _, _, _, none⟩) (v := ?_) rfl (by kernel_rfl) (by kernel_rfl) (by kernel_rfl) (fun _ _ _ h => h) (Or.inl ⟨by rfl, ?_⟩) hHeld ?_
    rotate_left
    focus (intro z hSw; clear hSw; go_simp; try with_reducible rfl)
    try simp only [Act.put, List.setIfInBounds_toArray, List.set_cons_zero, List.set_cons_succ]
    refine wpAnyL_takeP (i := 2) (oi := ⟨some 30, .move (.tmp 1), _, _, _, none⟩) (v := ?_) rfl (by kernel_rfl) (by kernel_rfl) (by kernel_rfl) (fun _ _ _ h => h) (Or.inl ⟨by rfl, ?_⟩) hHeld ?_
    rotate_left
    focus (intro z hSw; clear hSw; go_simp; try with_reducible rfl)
    try simp only [Act.put, List.setIfInBounds_toArray, List.set_cons_zero, List.set_cons_succ]
    refine wpAnyL_takeP (i := 3) (oi := ⟨some 31, .move (.tmp 2), _, _, _, none⟩) (v := ?_) rfl (by kernel_rfl) (by kernel_rfl) (by kernel_rfl) (fun _ _ _ h => h) (Or.inl ⟨by rfl, ?_⟩) hHeld ?_
    rotate_left
    focus (intro z hSw; clear hSw; go_simp; try with_reducible rfl)
    try simp only [Act.put, List.setIfInBounds_toArray, List.set_cons_zero, List.set_cons_succ]
    refine wpAnyL_takeP (i := 4) (oi := ⟨some 32, .move (.tmp 3), _, _, _, none⟩) (v := ?_) rfl (by kernel_rfl) (by kernel_rfl) (by kernel_rfl) (fun _ _ _ h => h) (Or.inl ⟨by rfl, ?_⟩) hHeld ?_
    rotate_left
    focus (intro z hSw; clear hSw; go_simp; try with_reducible rfl)
    try simp only [Act.put, List.setIfInBounds_toArray, List.set_cons_zero, List.set_cons_succ]
    refine wpAnyL_takeP (i := 5) (oi := ⟨some 33, .build 56 #[(1, .tmp 30), (2, .const (.int .i64 1)), (3, .tmp 31), (5, .tmp 32)], _, _, _, none⟩) rfl (by kernel_rfl) (by kernel_rfl) (by kernel_rfl) (fun _ _ _ h => h) (Or.inl ⟨by rfl, fun z hSw => exec_bldMk (.tmp 30) (.tmp 31) (.tmp 32) _ rfl rfl rfl rfl rfl z⟩) hHeld ?_
    try simp only [Act.put, List.setIfInBounds_toArray, List.set_cons_zero, List.set_cons_succ]
    refine wpAnyL_one (i := 6) (o := ⟨some 34, .call { callee := .value (.func 115), args := #[.tmp 33], argTypes := #[56] }, _, _, _, none⟩) (by kernel_rfl) rfl (fun K hK => ?_)
    go_simp
    refine (put_any nilS (mkR n m g) [] _ (Pt.SlA.nil _) (mkR_s n m g)).mono ?_
    rintro r w3 ⟨gx, vx, rfl, bx, sx, f3⟩
    refine hK.out _ _ ?_ (fun hNext => ?_)
    · exact hHeld.trans f3 (by simp)
    clear hK K hHeld
    have hHeld := hNext
    clear hNext
    try simp only [Act.put, List.setIfInBounds_toArray, List.set_cons_zero, List.set_cons_succ]
    refine wpAnyL_one (i := 7) (o := ⟨some 35, .call { callee := .value (.func 104), args := #[.tmp 28, .tmp 29, .tmp 34], argTypes := #[27, 32, 128] }, _, _, _, none⟩) (by kernel_rfl) rfl (fun K hK => ?_)
    have F34 := Lib.hid hHeld
    have hch : ec = 0 → ∃ F cap, Value.func (.func 174) #[] #[.pointer (some ⟨gx, 0, none⟩)] = .func (.func F) #[] cap ∧ ChT w3 F cap t (putT t (mkR n m g)) := fun e => ⟨174, _, rfl, put1_ch w3 gx vx (mkR n m g) [] t bx sx HNS.out (by simp [mkR, Pt.zeroPt]) (HW.out e)⟩
    have hd := done_any vr vl _ t _ ec w3 (HT.out.keep0 (F0.out.trans hHeld (by simp))) HF.out hch
    rw [← HE.out] at hd
    have HD := Lib.hid hd
    clear hd hch
    go_simp
    refine HD.out.mono ?_
    rintro r w4 ⟨vr4, vl4, rfl, o4, f4⟩
    refine hK.out _ _ ?_ (fun hNext => ?_)
    · exact hHeld.trans f4 (by simp)
    clear hK K hHeld
    have hHeld := hNext
    clear hNext
    try simp only [Act.put, List.setIfInBounds_toArray, List.set_cons_zero, List.set_cons_succ]
    refine wpAnyL_takeP (i := 8) (oi := ⟨some 36, .extract (.tmp 35) 0, _, _, _, none⟩) (v := ?_) rfl (by kernel_rfl) (by kernel_rfl) (by kernel_rfl) (fun _ _ _ h => h) (Or.inl ⟨by rfl, ?_⟩) hHeld ?_
    rotate_left
    focus (intro z hSw; clear hSw; go_simp; try with_reducible rfl)
    try simp only [Act.put, List.setIfInBounds_toArray, List.set_cons_zero, List.set_cons_succ]
    refine wpAnyL_takeP (i := 9) (oi := ⟨some 37, .extract (.tmp 35) 1, _, _, _, none⟩) (v := ?_) rfl (by kernel_rfl) (by kernel_rfl) (by kernel_rfl) (fun _ _ _ h => h) (Or.inl ⟨by rfl, ?_⟩) hHeld ?_
    rotate_left
    focus (intro z hSw; clear hSw; go_simp; try with_reducible rfl)
    try simp only [Act.put, List.setIfInBounds_toArray, List.set_cons_zero, List.set_cons_succ]
    refine wpAnyL_last (o := ⟨none, .store 27 (.tmp 8) (.tmp 36), _, _, _, none⟩) (by kernel_rfl) rfl (by simp) (fun K hK => ?_)
    refine step_store27 rfl (.tmp 8) (.tmp 36) rfl o4.ones.1 o4.ones.2 (R6.out.keep0 (F34.out.trans f4 (by simp))) rfl rfl (fun w8 B8 f8 => ?_)
    refine hK.out _ _ ?_
    clear hK K hHeld
    try simp only [Act.put, List.setIfInBounds_toArray, List.set_cons_zero, List.set_cons_succ]
    refine wpAny_take (i := 11) (oi := ⟨some 9, .assign (.tmp 37), _, _, _, none⟩) (v := ?_) rfl (by kernel_rfl) (by kernel_rfl) (by kernel_rfl) (fun _ _ _ h => h) (Or.inl ⟨by rfl, ?_⟩) ?_
    rotate_left
    focus (intro z; go_simp; try with_reducible rfl)
    try simp only [Act.put, List.setIfInBounds_toArray, List.set_cons_zero, List.set_cons_succ]
    refine wpAny_done (by kernel_rfl) ?_ _
    have b8 := B8
    have SZ := Lib.hid (show w.heap.size + 1 < W.heap.size from R6.out.lt)
    go_wp2_with fail
    refine bodyPost_ret (results_cell_slot (p := 8) (q := 9) rfl _ _ rfl rfl (run_loadVar_row w8 (w.heap.size + 1) 27 27 _ (0, 0) _ b8 Tryz.underlying27 rfl (by rw [i27]; simp [tc]))) rfl ?_
    exact ⟨_, _, rfl, (o4.keep f8 (fun i hi => .inl (by have := SZ.out; have := F34.out.size; simp at hi; omega))).base (Nat.le_trans F0.out.size F34.out.size), ((F0.out.trans F34.out (by simp)).trans f4 (by simp)).trans f8 (fun i hi => .inr (by simp at hi; omega))⟩
  | true =>
    rw [hb1, Bool.true_and] at HR
    cases hb2 : wi m 1 64 with
    | false =>
      rw [hb2, Bool.false_and] at HR
      refine wp_region_held_drew (S := fun z => Frm [] W z) (by kernel_rfl) ((Frm.refl [] W).drew) (fun hHeld => ?_)
      refine wpAnyH_take (i := 0) (oi := ⟨some 11, .load 27 (.tmp 4), _, _, _, none⟩) rfl (by kernel_rfl) (by kernel_rfl) (by kernel_rfl) (fun _ _ _ h => h) (yieldsIf_ld (by rfl) 27 _ rfl _ rfl (fun z hSw => (BT.out.keep0 hSw).gets.all)) hHeld ?_
      try simp only [Act.put, List.setIfInBounds_toArray, List.set_cons_zero, List.set_cons_succ]
      refine wpAnyH_take (i := 1) (oi := ⟨some 12, .move (.tmp 1), _, _, _, none⟩) (v := ?_) rfl (by kernel_rfl) (by kernel_rfl) (by kernel_rfl) (fun _ _ _ h => h) (Or.inl ⟨by rfl, ?_⟩) hHeld ?_
      rotate_left
      focus (intro z hSw; clear hSw; go_simp; try with_reducible rfl)
      try simp only [Act.put, List.setIfInBounds_toArray, List.set_cons_zero, List.set_cons_succ]
      refine wpAnyH_take (i := 12) (oi := ⟨some 23, .load 27 (.tmp 4), _, _, _, none⟩) rfl (by kernel_rfl) (by kernel_rfl) (by kernel_rfl) (fun _ _ _ h => h) (yieldsIf_ld (by rfl) 27 _ rfl _ rfl (fun z hSw => (BT.out.keep0 hSw).gets.all)) hHeld ?_
      try simp only [Act.put, List.setIfInBounds_toArray, List.set_cons_zero, List.set_cons_succ]
      refine wpAnyH_take (i := 13) (oi := ⟨some 24, .move (.tmp 1), _, _, _, none⟩) (v := ?_) rfl (by kernel_rfl) (by kernel_rfl) (by kernel_rfl) (fun _ _ _ h => h) (Or.inl ⟨by rfl, ?_⟩) hHeld ?_
      rotate_left
      focus (intro z hSw; clear hSw; go_simp; try with_reducible rfl)
      try simp only [Act.put, List.setIfInBounds_toArray, List.set_cons_zero, List.set_cons_succ]
      refine wpAnyH_ready (rs := [2]) (by kernel_rfl) (by simp) ?_
      refine AllReadyH.cons (o := ⟨some 13, .call { callee := .value (.func 112), args := #[.tmp 12], argTypes := #[9] }, _, _, _, none⟩) rfl (fun K hK => ?_) AllReadyH.nil
      go_simp
      refine (HV.out _).mono ?_
      rintro r wv ⟨rfl, fv⟩
      try rw [hb1]
      refine hK.out _ _ ?_ (fun hNext => ?_)
      · exact hHeld.trans fv (by simp)
      clear hK K hHeld
      have hHeld := hNext
      clear hNext
      try simp only [Act.put, List.setIfInBounds_toArray, List.set_cons_zero, List.set_cons_succ]
      refine wpAnyH_take (i := 3) (oi := ⟨some 14, .move (.tmp 13), _, _, _, none⟩) (v := ?_) rfl (by kernel_rfl) (by kernel_rfl) (by kernel_rfl) (fun _ _ _ h => h) (Or.inl ⟨by rfl, ?_⟩) hHeld ?_
      rotate_left
      focus (intro z hSw; clear hSw; go_simp; try with_reducible rfl)
      try simp only [Act.put, List.setIfInBounds_toArray, List.set_cons_zero, List.set_cons_succ]
      refine wpAnyH_take (i := 4) (oi := ⟨some 15, .move (.tmp 2), _, _, _, some (3, true)⟩) (v := ?_) rfl (by kernel_rfl) (by kernel_rfl) (by kernel_rfl) (fun _ _ _ h => h) (Or.inl ⟨by rfl, ?_⟩) hHeld ?_
      rotate_left
      focus (intro z hSw; clear hSw; go_simp; try with_reducible rfl)
      try simp only [Act.put, List.setIfInBounds_toArray, List.set_cons_zero, List.set_cons_succ]
      refine wpAnyH_ready (rs := [5]) (by kernel_rfl) (by simp) ?_
      refine AllReadyH.cons (o := ⟨some 16, .call { callee := .value (.func 107), args := #[.tmp 15], argTypes := #[3] }, _, _, _, some (3, true)⟩) rfl (fun K hK => ?_) AllReadyH.nil
      go_simp
      refine (maySize_any _ _).mono ?_
      rintro r wm ⟨rfl, rfl⟩
      try rw [hb2]
      refine hK.out _ _ ?_ (fun hNext => ?_)
      · exact hHeld
      clear hK K hHeld
      have hHeld := hNext
      clear hNext
      try simp only [Act.put, List.setIfInBounds_toArray, List.set_cons_zero, List.set_cons_succ]
      refine wpAnyH_take (i := 6) (oi := ⟨some 17, .pick (.tmp 14) (.tmp 16) (.const (.bool false)), _, _, _, none⟩) (v := ?_) rfl (by kernel_rfl) (by kernel_rfl) (by kernel_rfl) (fun _ _ _ h => h) (Or.inl ⟨by rfl, ?_⟩) hHeld ?_
      rotate_left
      focus (intro z hSw; clear hSw; go_simp; try with_reducible rfl)
      try simp only [Act.put, List.setIfInBounds_toArray, List.set_cons_zero, List.set_cons_succ]
      refine wpAnyH_take (i := 7) (oi := ⟨some 18, .move (.tmp 17), _, _, _, none⟩) (v := ?_) rfl (by kernel_rfl) (by kernel_rfl) (by kernel_rfl) (fun _ _ _ h => h) (Or.inl ⟨by rfl, ?_⟩) hHeld ?_
      rotate_left
      focus (intro z hSw; clear hSw; go_simp; try with_reducible rfl)
      try simp only [Act.put, List.setIfInBounds_toArray, List.set_cons_zero, List.set_cons_succ]
      refine wpAnyH_take (i := 8) (oi := ⟨some 19, .move (.tmp 3), _, _, _, some (7, true)⟩) (v := undef) rfl (by kernel_rfl) (by kernel_rfl) (by kernel_rfl) (fun _ _ _ h => h) (Or.inr ⟨by rfl, rfl⟩) hHeld ?_
      try simp only [Act.put, List.setIfInBounds_toArray, List.set_cons_zero, List.set_cons_succ]
      refine wpAnyH_take (i := 9) (oi := ⟨some 20, .call { callee := .value (.func 113), args := #[.tmp 19], argTypes := #[3] }, _, _, _, some (7, true)⟩) (v := undef) rfl (by kernel_rfl) (by kernel_rfl) (by kernel_rfl) (fun _ _ _ h => h) (Or.inr ⟨by rfl, rfl⟩) hHeld ?_
      try simp only [Act.put, List.setIfInBounds_toArray, List.set_cons_zero, List.set_cons_succ]
      refine wpAnyH_take (i := 10) (oi := ⟨some 21, .pick (.tmp 18) (.tmp 20) (.const (.bool false)), _, _, _, none⟩) (v := ?_) rfl (by kernel_rfl) (by kernel_rfl) (by kernel_rfl) (fun _ _ _ h => h) (Or.inl ⟨by rfl, ?_⟩) hHeld ?_
      rotate_left
      focus (intro z hSw; clear hSw; go_simp; try with_reducible rfl)
      try simp only [Act.put, List.setIfInBounds_toArray, List.set_cons_zero, List.set_cons_succ]
      refine wpAnyH_ready (rs := [11]) (by kernel_rfl) (by simp) ?_
      refine AllReadyH.cons (o := ⟨some 22, .call { callee := .value (.func 101), args := #[.tmp 11, .tmp 21], argTypes := #[27, 4] }, _, _, _, none⟩) rfl (fun K hK => ?_) AllReadyH.nil
      go_simp
      refine (may_any vr vl t (false) _ (HT.out.keep0 (F0.out.trans hHeld (by simp))) HF.out).mono ?_
      rintro r wn ⟨rfl, fm⟩
      refine hK.out _ _ ?_ (fun hNext => ?_)
      · exact hHeld.trans fm (by simp)
      clear hK K hHeld
      have hHeld := hNext
      clear hNext
      try simp only [Act.put, List.setIfInBounds_toArray, List.set_cons_zero, List.set_cons_succ]
      refine wpAnyH_ready (rs := [14]) (by kernel_rfl) (by simp) ?_
      refine AllReadyH.cons (o := ⟨some 25, .call { callee := .value (.func 114), args := #[.tmp 23, .tmp 24], argTypes := #[27, 9] }, _, _, _, none⟩) rfl (fun K hK => ?_) AllReadyH.nil
      go_simp
      refine (room_any vr vl t n _ (HT.out.keep0 (F0.out.trans hHeld (by simp))) HF.out.recs).mono ?_
      rintro r wr ⟨rfl, fr⟩
      refine hK.out _ _ ?_ (fun hNext => ?_)
      · exact hHeld.trans fr (by simp)
      clear hK K hHeld
      have hHeld := hNext
      clear hNext
      try simp only [Act.put, List.setIfInBounds_toArray, List.set_cons_zero, List.set_cons_succ]
      refine wpAnyH_ready (rs := [15]) (by kernel_rfl) (by simp) ?_
      refine AllReadyH.cons (o := ⟨some 26, .buildSlice 166 2 #[(0, .tmp 22), (1, .tmp 25)], _, _, _, none⟩) rfl (fun K hK => ?_) AllReadyH.nil
      refine step_err2 rfl (.tmp 22) (.tmp 25) rfl rfl rfl ?_
      intro v15 w15 s15 f15
      refine hK.out _ _ ?_ (fun hNext => ?_)
      · exact hHeld.trans f15 (by simp)
      clear hK K hHeld
      have hHeld := hNext
      clear hNext
      try simp only [Act.put, List.setIfInBounds_toArray, List.set_cons_zero, List.set_cons_succ]
      refine wpAnyH_ready (rs := [16]) (by kernel_rfl) (by simp) ?_
      refine AllReadyH.cons (o := ⟨some 27, .call { callee := .value (.func 100), args := #[.tmp 26], argTypes := #[166] }, _, _, _, none⟩) rfl (fun K hK => ?_) AllReadyH.nil
      go_simp
      refine (OrE_any _ _ _ _ s15 (by simp)).mono ?_
      rintro r wo ⟨rfl, rfl⟩
      refine hK.out _ _ ?_ (fun hNext => ?_)
      · exact hHeld
      clear hK K hHeld
      have hHeld := hNext
      clear hNext
      try simp only [Act.put, List.setIfInBounds_toArray, List.set_cons_zero, List.set_cons_succ]
      refine wpAnyH_take (i := 17) (oi := ⟨some 10, .assign (.tmp 27), _, _, _, none⟩) (v := ?_) rfl (by kernel_rfl) (by kernel_rfl) (by kernel_rfl) (fun _ _ _ h => h) (Or.inl ⟨by rfl, ?_⟩) hHeld ?_
      rotate_left
      focus (intro z hSw; clear hSw; go_simp; try with_reducible rfl)
      try simp only [Act.put, List.setIfInBounds_toArray, List.set_cons_zero, List.set_cons_succ]
      refine wpAnyH_done (by kernel_rfl) ?_ _
      have FW := Lib.hid hHeld
      clear hHeld
      try clear fv
      try clear fm
      try clear fr
      rw [← HR.out]
      go_upto_region 2 with (fail)
      refine wp_region_late 10 (S := fun z => Frm [] W z) (by kernel_rfl) (FW.out.drew) (fun hHeld => ?_)
      refine wpAnyL_take (i := 0) (oi := ⟨some 28, .load 27 (.tmp 4), _, _, _, none⟩) rfl (by kernel_rfl) (by kernel_rfl) (by kernel_rfl) (fun _ _ _ h => h) (yieldsIf_ld (by rfl) 27 _ rfl _ rfl (fun z hSw => (BT.out.keep0 hSw).gets.all)) hHeld ?_
      try simp only [Act.put, List.setIfInBounds_toArray, List.set_cons_zero, List.set_cons_succ]
      refine wpAnyL_takeP (i := 1) (oi := ⟨some 29, .move (.tmp 10), _, _, _, none⟩) (v := ?_) rfl (by kernel_rfl) (by kernel_rfl) (by kernel_rfl) (fun _ _ _ h => h) (Or.inl ⟨by rfl, ?_⟩) hHeld ?_
      rotate_left
      focus (intro z hSw; clear hSw; go_simp; try with_reducible rfl)
      try simp only [Act.put, List.setIfInBounds_toArray, List.set_cons_zero, List.set_cons_succ]
      refine wpAnyL_takeP (i := 2) (oi := ⟨some 30, .move (.tmp 1), _, _, _, none⟩) (v := ?_) rfl (by kernel_rfl) (by kernel_rfl) (by kernel_rfl) (fun _ _ _ h => h) (Or.inl ⟨by rfl, ?_⟩) hHeld ?_
      rotate_left
      focus (intro z hSw; clear hSw; go_simp; try with_reducible rfl)
      try simp only [Act.put, List.setIfInBounds_toArray, List.set_cons_zero, List.set_cons_succ]
      refine wpAnyL_takeP (i := 3) (oi := ⟨some 31, .move (.tmp 2), _, _, _, none⟩) (v := ?_) rfl (by kernel_rfl) (by kernel_rfl) (by kernel_rfl) (fun _ _ _ h => h) (Or.inl ⟨by rfl, ?_⟩) hHeld ?_
      rotate_left
      focus (intro z hSw; clear hSw; go_simp; try with_reducible rfl)
      try simp only [Act.put, List.setIfInBounds_toArray, List.set_cons_zero, List.set_cons_succ]
      refine wpAnyL_takeP (i := 4) (oi := ⟨some 32, .move (.tmp 3), _, _, _, none⟩) (v := ?_) rfl (by kernel_rfl) (by kernel_rfl) (by kernel_rfl) (fun _ _ _ h => h) (Or.inl ⟨by rfl, ?_⟩) hHeld ?_
      rotate_left
      focus (intro z hSw; clear hSw; go_simp; try with_reducible rfl)
      try simp only [Act.put, List.setIfInBounds_toArray, List.set_cons_zero, List.set_cons_succ]
      refine wpAnyL_takeP (i := 5) (oi := ⟨some 33, .build 56 #[(1, .tmp 30), (2, .const (.int .i64 1)), (3, .tmp 31), (5, .tmp 32)], _, _, _, none⟩) rfl (by kernel_rfl) (by kernel_rfl) (by kernel_rfl) (fun _ _ _ h => h) (Or.inl ⟨by rfl, fun z hSw => exec_bldMk (.tmp 30) (.tmp 31) (.tmp 32) _ rfl rfl rfl rfl rfl z⟩) hHeld ?_
      try simp only [Act.put, List.setIfInBounds_toArray, List.set_cons_zero, List.set_cons_succ]
      refine wpAnyL_one (i := 6) (o := ⟨some 34, .call { callee := .value (.func 115), args := #[.tmp 33], argTypes := #[56] }, _, _, _, none⟩) (by kernel_rfl) rfl (fun K hK => ?_)
      go_simp
      refine (put_any nilS (mkR n m g) [] _ (Pt.SlA.nil _) (mkR_s n m g)).mono ?_
      rintro r w3 ⟨gx, vx, rfl, bx, sx, f3⟩
      refine hK.out _ _ ?_ (fun hNext => ?_)
      · exact hHeld.trans f3 (by simp)
      clear hK K hHeld
      have hHeld := hNext
      clear hNext
      try simp only [Act.put, List.setIfInBounds_toArray, List.set_cons_zero, List.set_cons_succ]
      refine wpAnyL_one (i := 7) (o := ⟨some 35, .call { callee := .value (.func 104), args := #[.tmp 28, .tmp 29, .tmp 34], argTypes := #[27, 32, 128] }, _, _, _, none⟩) (by kernel_rfl) rfl (fun K hK => ?_)
      have F34 := Lib.hid hHeld
      have hch : ec = 0 → ∃ F cap, Value.func (.func 174) #[] #[.pointer (some ⟨gx, 0, none⟩)] = .func (.func F) #[] cap ∧ ChT w3 F cap t (putT t (mkR n m g)) := fun e => ⟨174, _, rfl, put1_ch w3 gx vx (mkR n m g) [] t bx sx HNS.out (by simp [mkR, Pt.zeroPt]) (HW.out e)⟩
      have hd := done_any vr vl _ t _ ec w3 (HT.out.keep0 (F0.out.trans hHeld (by simp))) HF.out hch
      rw [← HE.out] at hd
      have HD := Lib.hid hd
      clear hd hch
      go_simp
      refine HD.out.mono ?_
      rintro r w4 ⟨vr4, vl4, rfl, o4, f4⟩
      refine hK.out _ _ ?_ (fun hNext => ?_)
      · exact hHeld.trans f4 (by simp)
      clear hK K hHeld
      have hHeld := hNext
      clear hNext
      try simp only [Act.put, List.setIfInBounds_toArray, List.set_cons_zero, List.set_cons_succ]
      refine wpAnyL_takeP (i := 8) (oi := ⟨some 36, .extract (.tmp 35) 0, _, _, _, none⟩) (v := ?_) rfl (by kernel_rfl) (by kernel_rfl) (by kernel_rfl) (fun _ _ _ h => h) (Or.inl ⟨by rfl, ?_⟩) hHeld ?_
      rotate_left
      focus (intro z hSw; clear hSw; go_simp; try with_reducible rfl)
      try simp only [Act.put, List.setIfInBounds_toArray, List.set_cons_zero, List.set_cons_succ]
      refine wpAnyL_takeP (i := 9) (oi := ⟨some 37, .extract (.tmp 35) 1, _, _, _, none⟩) (v := ?_) rfl (by kernel_rfl) (by kernel_rfl) (by kernel_rfl) (fun _ _ _ h => h) (Or.inl ⟨by rfl, ?_⟩) hHeld ?_
      rotate_left
      focus (intro z hSw; clear hSw; go_simp; try with_reducible rfl)
      try simp only [Act.put, List.setIfInBounds_toArray, List.set_cons_zero, List.set_cons_succ]
      refine wpAnyL_last (o := ⟨none, .store 27 (.tmp 8) (.tmp 36), _, _, _, none⟩) (by kernel_rfl) rfl (by simp) (fun K hK => ?_)
      refine step_store27 rfl (.tmp 8) (.tmp 36) rfl o4.ones.1 o4.ones.2 (R6.out.keep0 (F34.out.trans f4 (by simp))) rfl rfl (fun w8 B8 f8 => ?_)
      refine hK.out _ _ ?_
      clear hK K hHeld
      try simp only [Act.put, List.setIfInBounds_toArray, List.set_cons_zero, List.set_cons_succ]
      refine wpAny_take (i := 11) (oi := ⟨some 9, .assign (.tmp 37), _, _, _, none⟩) (v := ?_) rfl (by kernel_rfl) (by kernel_rfl) (by kernel_rfl) (fun _ _ _ h => h) (Or.inl ⟨by rfl, ?_⟩) ?_
      rotate_left
      focus (intro z; go_simp; try with_reducible rfl)
      try simp only [Act.put, List.setIfInBounds_toArray, List.set_cons_zero, List.set_cons_succ]
      refine wpAny_done (by kernel_rfl) ?_ _
      have b8 := B8
      have SZ := Lib.hid (show w.heap.size + 1 < W.heap.size from R6.out.lt)
      go_wp2_with fail
      refine bodyPost_ret (results_cell_slot (p := 8) (q := 9) rfl _ _ rfl rfl (run_loadVar_row w8 (w.heap.size + 1) 27 27 _ (0, 0) _ b8 Tryz.underlying27 rfl (by rw [i27]; simp [tc]))) rfl ?_
      exact ⟨_, _, rfl, (o4.keep f8 (fun i hi => .inl (by have := SZ.out; have := F34.out.size; simp at hi; omega))).base (Nat.le_trans F0.out.size F34.out.size), ((F0.out.trans F34.out (by simp)).trans f4 (by simp)).trans f8 (fun i hi => .inr (by simp at hi; omega))⟩
    | true =>
      rw [hb2, Bool.true_and] at HR
      refine wp_region_held_drew (S := fun z => Frm [] W z) (by kernel_rfl) ((Frm.refl [] W).drew) (fun hHeld => ?_)
      refine wpAnyH_take (i := 0) (oi := ⟨some 11, .load 27 (.tmp 4), _, _, _, none⟩) rfl (by kernel_rfl) (by kernel_rfl) (by kernel_rfl) (fun _ _ _ h => h) (yieldsIf_ld (by rfl) 27 _ rfl _ rfl (fun z hSw => (BT.out.keep0 hSw).gets.all)) hHeld ?_
      try simp only [Act.put, List.setIfInBounds_toArray, List.set_cons_zero, List.set_cons_succ]
      refine wpAnyH_take (i := 1) (oi := ⟨some 12, .move (.tmp 1), _, _, _, none⟩) (v := ?_) rfl (by kernel_rfl) (by kernel_rfl) (by kernel_rfl) (fun _ _ _ h => h) (Or.inl ⟨by rfl, ?_⟩) hHeld ?_
      rotate_left
      focus (intro z hSw; clear hSw; go_simp; try with_reducible rfl)
      try simp only [Act.put, List.setIfInBounds_toArray, List.set_cons_zero, List.set_cons_succ]
      refine wpAnyH_take (i := 12) (oi := ⟨some 23, .load 27 (.tmp 4), _, _, _, none⟩) rfl (by kernel_rfl) (by kernel_rfl) (by kernel_rfl) (fun _ _ _ h => h) (yieldsIf_ld (by rfl) 27 _ rfl _ rfl (fun z hSw => (BT.out.keep0 hSw).gets.all)) hHeld ?_
      try simp only [Act.put, List.setIfInBounds_toArray, List.set_cons_zero, List.set_cons_succ]
      refine wpAnyH_take (i := 13) (oi := ⟨some 24, .move (.tmp 1), _, _, _, none⟩) (v := ?_) rfl (by kernel_rfl) (by kernel_rfl) (by kernel_rfl) (fun _ _ _ h => h) (Or.inl ⟨by rfl, ?_⟩) hHeld ?_
      rotate_left
      focus (intro z hSw; clear hSw; go_simp; try with_reducible rfl)
      try simp only [Act.put, List.setIfInBounds_toArray, List.set_cons_zero, List.set_cons_succ]
      refine wpAnyH_ready (rs := [2]) (by kernel_rfl) (by simp) ?_
      refine AllReadyH.cons (o := ⟨some 13, .call { callee := .value (.func 112), args := #[.tmp 12], argTypes := #[9] }, _, _, _, none⟩) rfl (fun K hK => ?_) AllReadyH.nil
      go_simp
      refine (HV.out _).mono ?_
      rintro r wv ⟨rfl, fv⟩
      try rw [hb1]
      refine hK.out _ _ ?_ (fun hNext => ?_)
      · exact hHeld.trans fv (by simp)
      clear hK K hHeld
      have hHeld := hNext
      clear hNext
      try simp only [Act.put, List.setIfInBounds_toArray, List.set_cons_zero, List.set_cons_succ]
      refine wpAnyH_take (i := 3) (oi := ⟨some 14, .move (.tmp 13), _, _, _, none⟩) (v := ?_) rfl (by kernel_rfl) (by kernel_rfl) (by kernel_rfl) (fun _ _ _ h => h) (Or.inl ⟨by rfl, ?_⟩) hHeld ?_
      rotate_left
      focus (intro z hSw; clear hSw; go_simp; try with_reducible rfl)
      try simp only [Act.put, List.setIfInBounds_toArray, List.set_cons_zero, List.set_cons_succ]
      refine wpAnyH_take (i := 4) (oi := ⟨some 15, .move (.tmp 2), _, _, _, some (3, true)⟩) (v := ?_) rfl (by kernel_rfl) (by kernel_rfl) (by kernel_rfl) (fun _ _ _ h => h) (Or.inl ⟨by rfl, ?_⟩) hHeld ?_
      rotate_left
      focus (intro z hSw; clear hSw; go_simp; try with_reducible rfl)
      try simp only [Act.put, List.setIfInBounds_toArray, List.set_cons_zero, List.set_cons_succ]
      refine wpAnyH_ready (rs := [5]) (by kernel_rfl) (by simp) ?_
      refine AllReadyH.cons (o := ⟨some 16, .call { callee := .value (.func 107), args := #[.tmp 15], argTypes := #[3] }, _, _, _, some (3, true)⟩) rfl (fun K hK => ?_) AllReadyH.nil
      go_simp
      refine (maySize_any _ _).mono ?_
      rintro r wm ⟨rfl, rfl⟩
      try rw [hb2]
      refine hK.out _ _ ?_ (fun hNext => ?_)
      · exact hHeld
      clear hK K hHeld
      have hHeld := hNext
      clear hNext
      try simp only [Act.put, List.setIfInBounds_toArray, List.set_cons_zero, List.set_cons_succ]
      refine wpAnyH_take (i := 6) (oi := ⟨some 17, .pick (.tmp 14) (.tmp 16) (.const (.bool false)), _, _, _, none⟩) (v := ?_) rfl (by kernel_rfl) (by kernel_rfl) (by kernel_rfl) (fun _ _ _ h => h) (Or.inl ⟨by rfl, ?_⟩) hHeld ?_
      rotate_left
      focus (intro z hSw; clear hSw; go_simp; try with_reducible rfl)
      try simp only [Act.put, List.setIfInBounds_toArray, List.set_cons_zero, List.set_cons_succ]
      refine wpAnyH_take (i := 7) (oi := ⟨some 18, .move (.tmp 17), _, _, _, none⟩) (v := ?_) rfl (by kernel_rfl) (by kernel_rfl) (by kernel_rfl) (fun _ _ _ h => h) (Or.inl ⟨by rfl, ?_⟩) hHeld ?_
      rotate_left
      focus (intro z hSw; clear hSw; go_simp; try with_reducible rfl)
      try simp only [Act.put, List.setIfInBounds_toArray, List.set_cons_zero, List.set_cons_succ]
      refine wpAnyH_take (i := 8) (oi := ⟨some 19, .move (.tmp 3), _, _, _, some (7, true)⟩) (v := ?_) rfl (by kernel_rfl) (by kernel_rfl) (by kernel_rfl) (fun _ _ _ h => h) (Or.inl ⟨by rfl, ?_⟩) hHeld ?_
      rotate_left
      focus (intro z hSw; clear hSw; go_simp; try with_reducible rfl)
      try simp only [Act.put, List.setIfInBounds_toArray, List.set_cons_zero, List.set_cons_succ]
      refine wpAnyH_ready (rs := [9]) (by kernel_rfl) (by simp) ?_
      refine AllReadyH.cons (o := ⟨some 20, .call { callee := .value (.func 113), args := #[.tmp 19], argTypes := #[3] }, _, _, _, some (7, true)⟩) rfl (fun K hK => ?_) AllReadyH.nil
      go_simp
      refine (mayTxg_any _ _).mono ?_
      rintro r wt ⟨rfl, rfl⟩
      refine hK.out _ _ ?_ (fun hNext => ?_)
      · exact hHeld
      clear hK K hHeld
      have hHeld := hNext
      clear hNext
      try simp only [Act.put, List.setIfInBounds_toArray, List.set_cons_zero, List.set_cons_succ]
      refine wpAnyH_take (i := 10) (oi := ⟨some 21, .pick (.tmp 18) (.tmp 20) (.const (.bool false)), _, _, _, none⟩) (v := ?_) rfl (by kernel_rfl) (by kernel_rfl) (by kernel_rfl) (fun _ _ _ h => h) (Or.inl ⟨by rfl, ?_⟩) hHeld ?_
      rotate_left
      focus (intro z hSw; clear hSw; go_simp; try with_reducible rfl)
      try simp only [Act.put, List.setIfInBounds_toArray, List.set_cons_zero, List.set_cons_succ]
      refine wpAnyH_ready (rs := [11]) (by kernel_rfl) (by simp) ?_
      refine AllReadyH.cons (o := ⟨some 22, .call { callee := .value (.func 101), args := #[.tmp 11, .tmp 21], argTypes := #[27, 4] }, _, _, _, none⟩) rfl (fun K hK => ?_) AllReadyH.nil
      go_simp
      refine (may_any vr vl t (wi g 1 2147483648) _ (HT.out.keep0 (F0.out.trans hHeld (by simp))) HF.out).mono ?_
      rintro r wn ⟨rfl, fm⟩
      refine hK.out _ _ ?_ (fun hNext => ?_)
      · exact hHeld.trans fm (by simp)
      clear hK K hHeld
      have hHeld := hNext
      clear hNext
      try simp only [Act.put, List.setIfInBounds_toArray, List.set_cons_zero, List.set_cons_succ]
      refine wpAnyH_ready (rs := [14]) (by kernel_rfl) (by simp) ?_
      refine AllReadyH.cons (o := ⟨some 25, .call { callee := .value (.func 114), args := #[.tmp 23, .tmp 24], argTypes := #[27, 9] }, _, _, _, none⟩) rfl (fun K hK => ?_) AllReadyH.nil
      go_simp
      refine (room_any vr vl t n _ (HT.out.keep0 (F0.out.trans hHeld (by simp))) HF.out.recs).mono ?_
      rintro r wr ⟨rfl, fr⟩
      refine hK.out _ _ ?_ (fun hNext => ?_)
      · exact hHeld.trans fr (by simp)
      clear hK K hHeld
      have hHeld := hNext
      clear hNext
      try simp only [Act.put, List.setIfInBounds_toArray, List.set_cons_zero, List.set_cons_succ]
      refine wpAnyH_ready (rs := [15]) (by kernel_rfl) (by simp) ?_
      refine AllReadyH.cons (o := ⟨some 26, .buildSlice 166 2 #[(0, .tmp 22), (1, .tmp 25)], _, _, _, none⟩) rfl (fun K hK => ?_) AllReadyH.nil
      refine step_err2 rfl (.tmp 22) (.tmp 25) rfl rfl rfl ?_
      intro v15 w15 s15 f15
      refine hK.out _ _ ?_ (fun hNext => ?_)
      · exact hHeld.trans f15 (by simp)
      clear hK K hHeld
      have hHeld := hNext
      clear hNext
      try simp only [Act.put, List.setIfInBounds_toArray, List.set_cons_zero, List.set_cons_succ]
      refine wpAnyH_ready (rs := [16]) (by kernel_rfl) (by simp) ?_
      refine AllReadyH.cons (o := ⟨some 27, .call { callee := .value (.func 100), args := #[.tmp 26], argTypes := #[166] }, _, _, _, none⟩) rfl (fun K hK => ?_) AllReadyH.nil
      go_simp
      refine (OrE_any _ _ _ _ s15 (by simp)).mono ?_
      rintro r wo ⟨rfl, rfl⟩
      refine hK.out _ _ ?_ (fun hNext => ?_)
      · exact hHeld
      clear hK K hHeld
      have hHeld := hNext
      clear hNext
      try simp only [Act.put, List.setIfInBounds_toArray, List.set_cons_zero, List.set_cons_succ]
      refine wpAnyH_take (i := 17) (oi := ⟨some 10, .assign (.tmp 27), _, _, _, none⟩) (v := ?_) rfl (by kernel_rfl) (by kernel_rfl) (by kernel_rfl) (fun _ _ _ h => h) (Or.inl ⟨by rfl, ?_⟩) hHeld ?_
      rotate_left
      focus (intro z hSw; clear hSw; go_simp; try with_reducible rfl)
      try simp only [Act.put, List.setIfInBounds_toArray, List.set_cons_zero, List.set_cons_succ]
      refine wpAnyH_done (by kernel_rfl) ?_ _
      have FW := Lib.hid hHeld
      clear hHeld
      try clear fv
      try clear fm
      try clear fr
      rw [← HR.out]
      go_upto_region 2 with (fail)
      refine wp_region_late 10 (S := fun z => Frm [] W z) (by kernel_rfl) (FW.out.drew) (fun hHeld => ?_)
      refine wpAnyL_take (i := 0) (oi := ⟨some 28, .load 27 (.tmp 4), _, _, _, none⟩) rfl (by kernel_rfl) (by kernel_rfl) (by kernel_rfl) (fun _ _ _ h => h) (yieldsIf_ld (by rfl) 27 _ rfl _ rfl (fun z hSw => (BT.out.keep0 hSw).gets.all)) hHeld ?_
      try simp only [Act.put, List.setIfInBounds_toArray, List.set_cons_zero, List.set_cons_succ]
      refine wpAnyL_takeP (i := 1) (oi := ⟨some 29, .move (.tmp 10), _, _, _, none⟩) (v := ?_) rfl (by kernel_rfl) (by kernel_rfl) (by kernel_rfl) (fun _ _ _ h => h) (Or.inl ⟨by rfl, ?_⟩) hHeld ?_
      rotate_left
      focus (intro z hSw; clear hSw; go_simp; try with_reducible rfl)
      try simp only [Act.put, List.setIfInBounds_toArray, List.set_cons_zero, List.set_cons_succ]
      refine wpAnyL_takeP (i := 2) (oi := ⟨some 30, .move (.tmp 1), _, _, _, none⟩) (v := ?_) rfl (by kernel_rfl) (by kernel_rfl) (by kernel_rfl) (fun _ _ _ h => h) (Or.inl ⟨by rfl, ?_⟩) hHeld ?_
      rotate_left
      focus (intro z hSw; clear hSw; go_simp; try with_reducible rfl)
      try simp only [Act.put, List.setIfInBounds_toArray, List.set_cons_zero, List.set_cons_succ]
      refine wpAnyL_takeP (i := 3) (oi := ⟨some 31, .move (.tmp 2), _, _, _, none⟩) (v := ?_) rfl (by kernel_rfl) (by kernel_rfl) (by kernel_rfl) (fun _ _ _ h => h) (Or.inl ⟨by rfl, ?_⟩) hHeld ?_
      rotate_left
      focus (intro z hSw; clear hSw; go_simp; try with_reducible rfl)
      try simp only [Act.put, List.setIfInBounds_toArray, List.set_cons_zero, List.set_cons_succ]
      refine wpAnyL_takeP (i := 4) (oi := ⟨some 32, .move (.tmp 3), _, _, _, none⟩) (v := ?_) rfl (by kernel_rfl) (by kernel_rfl) (by kernel_rfl) (fun _ _ _ h => h) (Or.inl ⟨by rfl, ?_⟩) hHeld ?_
      rotate_left
      focus (intro z hSw; clear hSw; go_simp; try with_reducible rfl)
      try simp only [Act.put, List.setIfInBounds_toArray, List.set_cons_zero, List.set_cons_succ]
      refine wpAnyL_takeP (i := 5) (oi := ⟨some 33, .build 56 #[(1, .tmp 30), (2, .const (.int .i64 1)), (3, .tmp 31), (5, .tmp 32)], _, _, _, none⟩) rfl (by kernel_rfl) (by kernel_rfl) (by kernel_rfl) (fun _ _ _ h => h) (Or.inl ⟨by rfl, fun z hSw => exec_bldMk (.tmp 30) (.tmp 31) (.tmp 32) _ rfl rfl rfl rfl rfl z⟩) hHeld ?_
      try simp only [Act.put, List.setIfInBounds_toArray, List.set_cons_zero, List.set_cons_succ]
      refine wpAnyL_one (i := 6) (o := ⟨some 34, .call { callee := .value (.func 115), args := #[.tmp 33], argTypes := #[56] }, _, _, _, none⟩) (by kernel_rfl) rfl (fun K hK => ?_)
      go_simp
      refine (put_any nilS (mkR n m g) [] _ (Pt.SlA.nil _) (mkR_s n m g)).mono ?_
      rintro r w3 ⟨gx, vx, rfl, bx, sx, f3⟩
      refine hK.out _ _ ?_ (fun hNext => ?_)
      · exact hHeld.trans f3 (by simp)
      clear hK K hHeld
      have hHeld := hNext
      clear hNext
      try simp only [Act.put, List.setIfInBounds_toArray, List.set_cons_zero, List.set_cons_succ]
      refine wpAnyL_one (i := 7) (o := ⟨some 35, .call { callee := .value (.func 104), args := #[.tmp 28, .tmp 29, .tmp 34], argTypes := #[27, 32, 128] }, _, _, _, none⟩) (by kernel_rfl) rfl (fun K hK => ?_)
      have F34 := Lib.hid hHeld
      have hch : ec = 0 → ∃ F cap, Value.func (.func 174) #[] #[.pointer (some ⟨gx, 0, none⟩)] = .func (.func F) #[] cap ∧ ChT w3 F cap t (putT t (mkR n m g)) := fun e => ⟨174, _, rfl, put1_ch w3 gx vx (mkR n m g) [] t bx sx HNS.out (by simp [mkR, Pt.zeroPt]) (HW.out e)⟩
      have hd := done_any vr vl _ t _ ec w3 (HT.out.keep0 (F0.out.trans hHeld (by simp))) HF.out hch
      rw [← HE.out] at hd
      have HD := Lib.hid hd
      clear hd hch
      go_simp
      refine HD.out.mono ?_
      rintro r w4 ⟨vr4, vl4, rfl, o4, f4⟩
      refine hK.out _ _ ?_ (fun hNext => ?_)
      · exact hHeld.trans f4 (by simp)
      clear hK K hHeld
      have hHeld := hNext
      clear hNext
      try simp only [Act.put, List.setIfInBounds_toArray, List.set_cons_zero, List.set_cons_succ]
      refine wpAnyL_takeP (i := 8) (oi := ⟨some 36, .extract (.tmp 35) 0, _, _, _, none⟩) (v := ?_) rfl (by kernel_rfl) (by kernel_rfl) (by kernel_rfl) (fun _ _ _ h => h) (Or.inl ⟨by rfl, ?_⟩) hHeld ?_
      rotate_left
      focus (intro z hSw; clear hSw; go_simp; try with_reducible rfl)
      try simp only [Act.put, List.setIfInBounds_toArray, List.set_cons_zero, List.set_cons_succ]
      refine wpAnyL_takeP (i := 9) (oi := ⟨some 37, .extract (.tmp 35) 1, _, _, _, none⟩) (v := ?_) rfl (by kernel_rfl) (by kernel_rfl) (by kernel_rfl) (fun _ _ _ h => h) (Or.inl ⟨by rfl, ?_⟩) hHeld ?_
      rotate_left
      focus (intro z hSw; clear hSw; go_simp; try with_reducible rfl)
      try simp only [Act.put, List.setIfInBounds_toArray, List.set_cons_zero, List.set_cons_succ]
      refine wpAnyL_last (o := ⟨none, .store 27 (.tmp 8) (.tmp 36), _, _, _, none⟩) (by kernel_rfl) rfl (by simp) (fun K hK => ?_)
      refine step_store27 rfl (.tmp 8) (.tmp 36) rfl o4.ones.1 o4.ones.2 (R6.out.keep0 (F34.out.trans f4 (by simp))) rfl rfl (fun w8 B8 f8 => ?_)
      refine hK.out _ _ ?_
      clear hK K hHeld
      try simp only [Act.put, List.setIfInBounds_toArray, List.set_cons_zero, List.set_cons_succ]
      refine wpAny_take (i := 11) (oi := ⟨some 9, .assign (.tmp 37), _, _, _, none⟩) (v := ?_) rfl (by kernel_rfl) (by kernel_rfl) (by kernel_rfl) (fun _ _ _ h => h) (Or.inl ⟨by rfl, ?_⟩) ?_
      rotate_left
      focus (intro z; go_simp; try with_reducible rfl)
      try simp only [Act.put, List.setIfInBounds_toArray, List.set_cons_zero, List.set_cons_succ]
      refine wpAny_done (by kernel_rfl) ?_ _
      have b8 := B8
      have SZ := Lib.hid (show w.heap.size + 1 < W.heap.size from R6.out.lt)
      go_wp2_with fail
      refine bodyPost_ret (results_cell_slot (p := 8) (q := 9) rfl _ _ rfl rfl (run_loadVar_row w8 (w.heap.size + 1) 27 27 _ (0, 0) _ b8 Tryz.underlying27 rfl (by rw [i27]; simp [tc]))) rfl ?_
      exact ⟨_, _, rfl, (o4.keep f8 (fun i hi => .inl (by have := SZ.out; have := F34.out.size; simp at hi; omega))).base (Nat.le_trans F0.out.size F34.out.size), ((F0.out.trans F34.out (by simp)).trans f4 (by simp)).trans f8 (fun i hi => .inr (by simp at hi; omega))⟩
end Go.Proofs.YtljhanhipmnioaaGreat.Rd

namespace Go.Proofs.YtljhanhipmnioaaGreat.Rd
open Go.RowKit
set_option linter.unusedVariables false
set_option linter.unusedSimpArgs false
set_option maxRecDepth 100000

open Pt (Pt may enc zeroPt be4 be1 pc pv PtV SlA OwnA BT wpList_load_g heap_alloc_at Ext Grew yieldsIf_ld)
open Kr (OwnE SlE Enco RowTys)

/-- The record that Snap puts in. -/
def snR (n : ByteArray) (v : Rec) (g : Int) : Rec := ⟨0, n, 2, v.size, v.root, g, v.id, 0, 0, 0⟩
theorem bldSn (n : ByteArray) (m g i b l : Int) (x : Option Addr) (y z : Nat) (s : List UInt8) (h : s.length = 32) (W : World) : (Instr.build 56 #[(1, .string n), (2, .int .i64 2), (3, .int .i64 m), (4, pv (.slice x y z) b l s), (5, .int .i64 g), (6, .int .i64 i)]).run Tryz.prog W = .ok (rv (.slice x y z) ⟨0, n, 2, m, ⟨[], b, l, s⟩, g, i, 0, 0, 0⟩) W := by
  iterate 32 (rcases s with _ | ⟨a, s⟩; · simp at h)
  rcases s with _ | ⟨a, s⟩
  · kernel_rfl
  · simp at h
theorem exec_bldSn {o : Oper} {a : Act} {n : ByteArray} {g : Int} {v : Rec} {x : Option Addr} {y z : Nat} (p q r s u k : Operand) (hs : v.root.s.length = 32) (hop : o.op = Op.build 56 #[(1, p), (2, q), (3, r), (4, s), (5, u), (6, k)]) (h1 : a.eval p = .string n) (h2 : a.eval q = .int .i64 2) (h3 : a.eval r = .int .i64 v.size) (h4 : a.eval s = pv (.slice x y z) v.root.b v.root.l v.root.s) (h5 : a.eval u = .int .i64 g) (h6 : a.eval k = .int .i64 v.id) (W : World) : (execOp a.eval o).run Tryz.prog W = .ok (.value (rv (.slice x y z) (snR n v g))) W := by
  have hb := bldSn n v.size g v.id v.root.b v.root.l x y z v.root.s hs W
  have hm : (#[(1, p), (2, q), (3, r), (4, s), (5, u), (6, k)].map fun ((i, x) : Nat × Operand) => (i, a.eval x)) = #[(1, .string n), (2, .int .i64 2), (3, .int .i64 v.size), (4, pv (.slice x y z) v.root.b v.root.l v.root.s), (5, .int .i64 g), (6, .int .i64 v.id)] := by simp [h1, h2, h3, h4, h5, h6]
  simp only [execOp, hop, hm, Sem.run_bind, Sem.run_pure, hb, Result.andThen_ok]
  rfl
def snapC (t : Tab) (n : ByteArray) (g : Int) : Int := orL [mayC t (snapS n && wi g 1 2147483648), unl (isF (spl1 n) t.recs) 6, roomC t n, unl (decide ((fndR (spl1 n) t.recs).root.b ≤ g)) 2]
def snapT (t : Tab) (n : ByteArray) (g : Int) : Tab × Int := if snapC t n g = 0 then (putT t (snR n (fndR (spl1 n) t.recs) g), 0) else (zeroT, snapC t n g)
theorem fndR_fit {t : Tab} (h : FitT t) (n : ByteArray) : (fndR n t.recs).root.ads.length ≤ 1000000 ∧ (fndR n t.recs).name.size ≤ 1000 := by
  unfold fndR
  cases hf : fnd n t.recs with
  | none => exact ⟨show (0 : Nat) ≤ _ from Nat.zero_le _, show (0 : Nat) ≤ _ from Nat.zero_le _⟩
  | some i =>
    obtain ⟨x, hx, _⟩ := fnd_some hf
    simp only [hx]
    have := h.all x (List.mem_of_getElem? hx)
    exact ⟨this.ads, this.name⟩
set_option maxHeartbeats 8000000 in
theorem Snap_any (vr vl : Value) (t : Tab) (n : ByteArray) (g : Int) (w : World) (h : TabV w vr vl t) (hf : FitT t) (hn : n.size ≤ 1000) : Calls Tryz.prog 52 #[tv vr vl t, .string n, .int .i64 g] w (TellE (snapT t n g) w) := by
  have F0 := Lib.hid (show Frm [] w ((w.alloc (.cells (tc vr vl t).toArray 27)).alloc (.cells (tc nilS nilS zeroT).toArray 27)) from ((Frm.refl [] w).alloc _).alloc _)
  have BT := Lib.hid ((TB.new w vr vl t).keep0 ((Frm.refl [] _).alloc (.cells (tc nilS nilS zeroT).toArray 27)))
  have R6 := Lib.hid (show TB ((w.alloc (.cells (tc vr vl t).toArray 27)).alloc (.cells (tc nilS nilS zeroT).toArray 27)) (w.heap.size + 1) nilS nilS zeroT from heap_alloc_at (by simp))
  have HFI := Lib.hid (fun z (f : Frm [] w z) => find_any vr vl t (spl1 n) z (h.keep0 f) hf.recs)
  have HT := Lib.hid h
  have HF := Lib.hid hf
  have HNS := Lib.hid hn
  have HSP := Lib.hid (fun z => Split_any n hn z)
  have HE := Lib.hid (show snapT t n g = if snapC t n g = 0 then (putT t (snR n (fndR (spl1 n) t.recs) g), 0) else (zeroT, snapC t n g) from rfl)
  have HW := Lib.hid (fun (e : snapC t n g = 0) => (mayC_may (orL_all0 e _ (by simp : mayC t (snapS n && wi g 1 2147483648) ∈ _))).1)
  have HR := Lib.hid (show snapC t n g = orL [mayC t (snapS n && wi g 1 2147483648), unl (isF (spl1 n) t.recs) 6, roomC t n, unl (decide ((fndR (spl1 n) t.recs).root.b ≤ g)) 2] from rfl)
  have HFF := Lib.hid (fndR_fit hf (spl1 n))
  rw [tcA]
  generalize (tc vr vl t).toArray = A at *
  generalize snapT t n g = res at *
  generalize snapC t n g = ec at *
  clear h hf hn
  go_enter Tryz.func52, Tryz.ntmps52
  go_upto_region 1 with ((with_reducible (show wpList _ _ _ (Oper.mk _ (Op.alloc 27) _ _ _ _ :: _) _ _)); refine wpList_val rfl (exec_alloc27 rfl _) ?_)
  try simp only [World.size_alloc]
  generalize (w.alloc (.cells A 27)).alloc (.cells (tc nilS nilS zeroT).toArray 27) = W at *
  go_upto_region 2 with (go_at_call 116; refine (HSP.out _).mono ?_; rintro r w0 ⟨hs0, fs⟩; unfold SplE at hs0; subst hs0)
  have FS := Lib.hid fs
  have LA := Lib.hid (BT.out.keep0 fs).gets.all
  go_upto_region 3 with (first
    | ((with_reducible (show wpList _ _ _ (Oper.mk _ (Op.load 27 _) _ _ _ _ :: _) _ _)); refine wpList_load_g (by rfl) 27 _ rfl _ rfl LA.out ?_)
    | (go_at_call 99; refine (HFI.out _ (F0.out.trans FS.out (by simp))).mono ?_; rintro r w1 hr; obtain ⟨ua, uc, us, rfl, uS, uh, g1⟩ := hr.own)
    | ((with_reducible (show wpList _ _ _ (Oper.mk _ (Op.alloc 56) _ _ _ _ :: _) _ _)); refine wpList_lay56 rfl rfl rfl (.tmp 11) (.tmp 24) rfl (v := .slice ua (fndR (spl1 n) t.recs).root.ads.length uc) rfl uh rfl rfl ?_))
  have G1 := Lib.hid (show Frm [] W (w1.alloc (.cells (rc (.slice ua (fndR (spl1 n) t.recs).root.ads.length uc) (fndR (spl1 n) t.recs)).toArray 56)) from (FS.out.trans g1 (by simp)).trans ((Frm.refl [] w1).alloc _) (by simp))
  have XB := Lib.hid (RB.new (w := w1) (v := .slice ua (fndR (spl1 n) t.recs).root.ads.length uc) uh)
  have US := Lib.hid (uS.keep (w' := w1.alloc (.cells (rc (.slice ua (fndR (spl1 n) t.recs).root.ads.length uc) (fndR (spl1 n) t.recs)).toArray 56)) ((Frm.refl [] w1).alloc _) (by simp))
  have UH := Lib.hid uh
  clear g1 uS uh hr fs
  generalize w1.alloc (.cells (rc (.slice ua (fndR (spl1 n) t.recs).root.ads.length uc) (fndR (spl1 n) t.recs)).toArray 56) = V at *
  have HX := Lib.hid (fun z (f : Frm [] V z) => (XB.out.keep0 f).gets)
  have LV := Lib.hid (fun z (f : Frm [] V z) => ((BT.out.keep0 G1.out).keep0 f).gets.all)
  have FV := Lib.hid (F0.out.trans G1.out (by simp))
  generalize isF (spl1 n) t.recs = fb at *
  generalize fndR (spl1 n) t.recs = x at *
  cases hb1 : snapS n with
  | false =>
    rw [hb1, Bool.false_and] at HR
    refine wp_region_held_drew (S := fun z => Frm [] V z) (by kernel_rfl) ((Frm.refl [] V).drew) (fun hHeld => ?_)
    refine wpAnyH_take (i := 0) (oi := ⟨some 26, .load 27 (.tmp 3), _, _, _, none⟩) rfl (by kernel_rfl) (by kernel_rfl) (by kernel_rfl) (fun _ _ _ h => h) (yieldsIf_ld (by rfl) 27 _ rfl _ rfl (fun z hSw => LV.out z hSw)) hHeld ?_
    try simp only [Act.put, List.setIfInBounds_toArray, List.set_cons_zero, List.set_cons_succ]
    refine wpAnyH_take (i := 1) (oi := ⟨some 27, .move (.tmp 10), _, _, _, none⟩) (v := ?_) rfl (by kernel_rfl) (by kernel_rfl) (by kernel_rfl) (fun _ _ _ h => h) (Or.inl ⟨by rfl, ?_⟩) hHeld ?_
    rotate_left
    focus (intro z hSw; clear hSw; go_simp; try with_reducible rfl)
    try simp only [Act.put, List.setIfInBounds_toArray, List.set_cons_zero, List.set_cons_succ]
    refine wpAnyH_take (i := 2) (oi := ⟨some 28, .move (.tmp 27), _, _, _, none⟩) (v := ?_) rfl (by kernel_rfl) (by kernel_rfl) (by kernel_rfl) (fun _ _ _ h => h) (Or.inl ⟨by rfl, ?_⟩) hHeld ?_
    rotate_left
    focus (intro z hSw; clear hSw; go_simp; try with_reducible rfl)
    try simp only [Act.put, List.setIfInBounds_toArray, List.set_cons_zero, List.set_cons_succ]
    refine wpAnyH_take (i := 3) (oi := ⟨some 29, .move (.tmp 2), _, _, _, some (2, true)⟩) (v := undef) rfl (by kernel_rfl) (by kernel_rfl) (by kernel_rfl) (fun _ _ _ h => h) (Or.inr ⟨by rfl, rfl⟩) hHeld ?_
    try simp only [Act.put, List.setIfInBounds_toArray, List.set_cons_zero, List.set_cons_succ]
    refine wpAnyH_take (i := 4) (oi := ⟨some 30, .call { callee := .value (.func 113), args := #[.tmp 29], argTypes := #[3] }, _, _, _, some (2, true)⟩) (v := undef) rfl (by kernel_rfl) (by kernel_rfl) (by kernel_rfl) (fun _ _ _ h => h) (Or.inr ⟨by rfl, rfl⟩) hHeld ?_
    try simp only [Act.put, List.setIfInBounds_toArray, List.set_cons_zero, List.set_cons_succ]
    refine wpAnyH_take (i := 5) (oi := ⟨some 31, .pick (.tmp 28) (.tmp 30) (.const (.bool false)), _, _, _, none⟩) (v := ?_) rfl (by kernel_rfl) (by kernel_rfl) (by kernel_rfl) (fun _ _ _ h => h) (Or.inl ⟨by rfl, ?_⟩) hHeld ?_
    rotate_left
    focus (intro z hSw; clear hSw; go_simp; try with_reducible rfl)
    try simp only [Act.put, List.setIfInBounds_toArray, List.set_cons_zero, List.set_cons_succ]
    refine wpAnyH_take (i := 7) (oi := ⟨some 33, .move (.tmp 12), _, _, _, none⟩) (v := ?_) rfl (by kernel_rfl) (by kernel_rfl) (by kernel_rfl) (fun _ _ _ h => h) (Or.inl ⟨by rfl, ?_⟩) hHeld ?_
    rotate_left
    focus (intro z hSw; clear hSw; go_simp; try with_reducible rfl)
    try simp only [Act.put, List.setIfInBounds_toArray, List.set_cons_zero, List.set_cons_succ]
    refine wpAnyH_take (i := 9) (oi := ⟨some 35, .load 27 (.tmp 3), _, _, _, none⟩) rfl (by kernel_rfl) (by kernel_rfl) (by kernel_rfl) (fun _ _ _ h => h) (yieldsIf_ld (by rfl) 27 _ rfl _ rfl (fun z hSw => LV.out z hSw)) hHeld ?_
    try simp only [Act.put, List.setIfInBounds_toArray, List.set_cons_zero, List.set_cons_succ]
    refine wpAnyH_take (i := 10) (oi := ⟨some 36, .move (.tmp 1), _, _, _, none⟩) (v := ?_) rfl (by kernel_rfl) (by kernel_rfl) (by kernel_rfl) (fun _ _ _ h => h) (Or.inl ⟨by rfl, ?_⟩) hHeld ?_
    rotate_left
    focus (intro z hSw; clear hSw; go_simp; try with_reducible rfl)
    try simp only [Act.put, List.setIfInBounds_toArray, List.set_cons_zero, List.set_cons_succ]
    refine wpAnyH_take (i := 12) (oi := ⟨some 38, .fieldAddr 56 (.tmp 11) 4, _, _, _, none⟩) (v := ?_) rfl (by kernel_rfl) (by kernel_rfl) (by kernel_rfl) (fun _ _ _ h => h) (Or.inl ⟨by rfl, ?_⟩) hHeld ?_
    rotate_left
    focus (intro z hSw; clear hSw; go_simp; try with_reducible rfl)
    try simp only [Act.put, List.setIfInBounds_toArray, List.set_cons_zero, List.set_cons_succ]
    refine wpAnyH_take (i := 13) (oi := ⟨some 39, .fieldAddr 54 (.tmp 38) 1, _, _, _, none⟩) (v := ?_) rfl (by kernel_rfl) (by kernel_rfl) (by kernel_rfl) (fun _ _ _ h => h) (Or.inl ⟨by rfl, ?_⟩) hHeld ?_
    rotate_left
    focus (intro z hSw; clear hSw; go_simp; try with_reducible rfl)
    try simp only [Act.put, List.setIfInBounds_toArray, List.set_cons_zero, List.set_cons_succ]
    refine wpAnyH_take (i := 14) (oi := ⟨some 40, .load 3 (.tmp 39), _, _, _, none⟩) (v := ?_) rfl (by kernel_rfl) (by kernel_rfl) (by kernel_rfl) (fun _ _ _ h => h) (Or.inl ⟨by rfl, ?_⟩) hHeld ?_
    rotate_left
    focus (intro z hSw; have q1 := (HX.out z hSw).birth; clear hSw; go_simp; try with_reducible rfl)
    try simp only [Act.put, List.setIfInBounds_toArray, List.set_cons_zero, List.set_cons_succ]
    refine wpAnyH_take (i := 15) (oi := ⟨some 41, .move (.tmp 2), _, _, _, none⟩) (v := ?_) rfl (by kernel_rfl) (by kernel_rfl) (by kernel_rfl) (fun _ _ _ h => h) (Or.inl ⟨by rfl, ?_⟩) hHeld ?_
    rotate_left
    focus (intro z hSw; clear hSw; go_simp; try with_reducible rfl)
    try simp only [Act.put, List.setIfInBounds_toArray, List.set_cons_zero, List.set_cons_succ]
    refine wpAnyH_take (i := 16) (oi := ⟨some 42, .binOp .leq 3 (.tmp 40) (.tmp 41) 3, _, _, _, none⟩) (v := ?_) rfl (by kernel_rfl) (by kernel_rfl) (by kernel_rfl) (fun _ _ _ h => h) (Or.inl ⟨by rfl, ?_⟩) hHeld ?_
    rotate_left
    focus (intro z hSw; clear hSw; go_simp; try with_reducible rfl)
    try simp only [Act.put, List.setIfInBounds_toArray, List.set_cons_zero, List.set_cons_succ]
    refine wpAnyH_ready (rs := [6]) (by kernel_rfl) (by simp) ?_
    refine AllReadyH.cons (o := ⟨some 32, .call { callee := .value (.func 101), args := #[.tmp 26, .tmp 31], argTypes := #[27, 4] }, _, _, _, none⟩) rfl (fun K hK => ?_) AllReadyH.nil
    go_simp
    refine (may_any vr vl t (false) _ (HT.out.keep0 (FV.out.trans hHeld (by simp))) HF.out).mono ?_
    rintro r wn ⟨rfl, fm⟩
    refine hK.out _ _ ?_ (fun hNext => ?_)
    · exact hHeld.trans fm (by simp)
    clear hK K hHeld
    have hHeld := hNext
    clear hNext
    try simp only [Act.put, List.setIfInBounds_toArray, List.set_cons_zero, List.set_cons_succ]
    refine wpAnyH_ready (rs := [8]) (by kernel_rfl) (by simp) ?_
    refine AllReadyH.cons (o := ⟨some 34, .call { callee := .value (.func 103), args := #[.tmp 33, .const (.int .i64 6)], argTypes := #[4, 32] }, _, _, _, none⟩) rfl (fun K hK => ?_) AllReadyH.nil
    go_simp
    refine (unless_any _ _ _).mono ?_
    rintro r wa ⟨rfl, rfl⟩
    refine hK.out _ _ ?_ (fun hNext => ?_)
    · exact hHeld
    clear hK K hHeld
    have hHeld := hNext
    clear hNext
    try simp only [Act.put, List.setIfInBounds_toArray, List.set_cons_zero, List.set_cons_succ]
    refine wpAnyH_ready (rs := [11]) (by kernel_rfl) (by simp) ?_
    refine AllReadyH.cons (o := ⟨some 37, .call { callee := .value (.func 114), args := #[.tmp 35, .tmp 36], argTypes := #[27, 9] }, _, _, _, none⟩) rfl (fun K hK => ?_) AllReadyH.nil
    go_simp
    refine (room_any vr vl t n _ (HT.out.keep0 (FV.out.trans hHeld (by simp))) HF.out.recs).mono ?_
    rintro r wr ⟨rfl, fr⟩
    refine hK.out _ _ ?_ (fun hNext => ?_)
    · exact hHeld.trans fr (by simp)
    clear hK K hHeld
    have hHeld := hNext
    clear hNext
    try simp only [Act.put, List.setIfInBounds_toArray, List.set_cons_zero, List.set_cons_succ]
    refine wpAnyH_ready (rs := [17]) (by kernel_rfl) (by simp) ?_
    refine AllReadyH.cons (o := ⟨some 43, .call { callee := .value (.func 103), args := #[.tmp 42, .const (.int .i64 2)], argTypes := #[4, 32] }, _, _, _, none⟩) rfl (fun K hK => ?_) AllReadyH.nil
    go_simp
    refine (unless_any _ _ _).mono ?_
    rintro r wb ⟨rfl, rfl⟩
    refine hK.out _ _ ?_ (fun hNext => ?_)
    · exact hHeld
    clear hK K hHeld
    have hHeld := hNext
    clear hNext
    try simp only [Act.put, List.setIfInBounds_toArray, List.set_cons_zero, List.set_cons_succ]
    refine wpAnyH_ready (rs := [18]) (by kernel_rfl) (by simp) ?_
    refine AllReadyH.cons (o := ⟨some 44, .buildSlice 166 4 #[(0, .tmp 32), (1, .tmp 34), (2, .tmp 37), (3, .tmp 43)], _, _, _, none⟩) rfl (fun K hK => ?_) AllReadyH.nil
    refine step_err4 rfl (.tmp 32) (.tmp 34) (.tmp 37) (.tmp 43) rfl rfl rfl rfl rfl ?_
    intro v18 w18 s18 f18
    refine hK.out _ _ ?_ (fun hNext => ?_)
    · exact hHeld.trans f18 (by simp)
    clear hK K hHeld
    have hHeld := hNext
    clear hNext
    try simp only [Act.put, List.setIfInBounds_toArray, List.set_cons_zero, List.set_cons_succ]
    refine wpAnyH_ready (rs := [19]) (by kernel_rfl) (by simp) ?_
    refine AllReadyH.cons (o := ⟨some 45, .call { callee := .value (.func 100), args := #[.tmp 44], argTypes := #[166] }, _, _, _, none⟩) rfl (fun K hK => ?_) AllReadyH.nil
    go_simp
    refine (OrE_any _ _ _ _ s18 (by simp)).mono ?_
    rintro r wo ⟨rfl, rfl⟩
    refine hK.out _ _ ?_ (fun hNext => ?_)
    · exact hHeld
    clear hK K hHeld
    have hHeld := hNext
    clear hNext
    try simp only [Act.put, List.setIfInBounds_toArray, List.set_cons_zero, List.set_cons_succ]
    refine wpAnyH_take (i := 20) (oi := ⟨some 13, .assign (.tmp 45), _, _, _, none⟩) (v := ?_) rfl (by kernel_rfl) (by kernel_rfl) (by kernel_rfl) (fun _ _ _ h => h) (Or.inl ⟨by rfl, ?_⟩) hHeld ?_
    rotate_left
    focus (intro z hSw; clear hSw; go_simp; try with_reducible rfl)
    try simp only [Act.put, List.setIfInBounds_toArray, List.set_cons_zero, List.set_cons_succ]
    refine wpAnyH_done (by kernel_rfl) ?_ _
    have FW := Lib.hid hHeld
    clear hHeld
    rw [← HR.out]
    go_upto_region 4 with (fail)
    refine wp_region_late 15 (S := fun z => Frm [] V z) (by kernel_rfl) (FW.out.drew) (fun hHeld => ?_)
    refine wpAnyL_take (i := 0) (oi := ⟨some 46, .load 27 (.tmp 3), _, _, _, none⟩) rfl (by kernel_rfl) (by kernel_rfl) (by kernel_rfl) (fun _ _ _ h => h) (yieldsIf_ld (by rfl) 27 _ rfl _ rfl (fun z hSw => LV.out z hSw)) hHeld ?_
    try simp only [Act.put, List.setIfInBounds_toArray, List.set_cons_zero, List.set_cons_succ]
    refine wpAnyL_takeP (i := 1) (oi := ⟨some 47, .move (.tmp 13), _, _, _, none⟩) (v := ?_) rfl (by kernel_rfl) (by kernel_rfl) (by kernel_rfl) (fun _ _ _ h => h) (Or.inl ⟨by rfl, ?_⟩) hHeld ?_
    rotate_left
    focus (intro z hSw; clear hSw; go_simp; try with_reducible rfl)
    try simp only [Act.put, List.setIfInBounds_toArray, List.set_cons_zero, List.set_cons_succ]
    refine wpAnyL_takeP (i := 2) (oi := ⟨some 48, .move (.tmp 1), _, _, _, none⟩) (v := ?_) rfl (by kernel_rfl) (by kernel_rfl) (by kernel_rfl) (fun _ _ _ h => h) (Or.inl ⟨by rfl, ?_⟩) hHeld ?_
    rotate_left
    focus (intro z hSw; clear hSw; go_simp; try with_reducible rfl)
    try simp only [Act.put, List.setIfInBounds_toArray, List.set_cons_zero, List.set_cons_succ]
    refine wpAnyL_takeP (i := 3) (oi := ⟨some 49, .fieldAddr 56 (.tmp 11) 3, _, _, _, none⟩) (v := ?_) rfl (by kernel_rfl) (by kernel_rfl) (by kernel_rfl) (fun _ _ _ h => h) (Or.inl ⟨by rfl, ?_⟩) hHeld ?_
    rotate_left
    focus (intro z hSw; clear hSw; go_simp; try with_reducible rfl)
    try simp only [Act.put, List.setIfInBounds_toArray, List.set_cons_zero, List.set_cons_succ]
    refine wpAnyL_take (i := 4) (oi := ⟨some 50, .load 3 (.tmp 49), _, _, _, none⟩) (v := ?_) rfl (by kernel_rfl) (by kernel_rfl) (by kernel_rfl) (fun _ _ _ h => h) (Or.inl ⟨by rfl, ?_⟩) hHeld ?_
    rotate_left
    focus (intro z hSw; have q1 := (HX.out z hSw).size; have q2 := (HX.out z hSw).id; clear hSw; go_simp; try with_reducible rfl)
    try simp only [Act.put, List.setIfInBounds_toArray, List.set_cons_zero, List.set_cons_succ]
    refine wpAnyL_takeP (i := 5) (oi := ⟨some 51, .fieldAddr 56 (.tmp 11) 4, _, _, _, none⟩) (v := ?_) rfl (by kernel_rfl) (by kernel_rfl) (by kernel_rfl) (fun _ _ _ h => h) (Or.inl ⟨by rfl, ?_⟩) hHeld ?_
    rotate_left
    focus (intro z hSw; clear hSw; go_simp; try with_reducible rfl)
    try simp only [Act.put, List.setIfInBounds_toArray, List.set_cons_zero, List.set_cons_succ]
    refine wpAnyL_take (i := 6) (oi := ⟨some 52, .load 54 (.tmp 51), _, _, _, none⟩) rfl (by kernel_rfl) (by kernel_rfl) (by kernel_rfl) (fun _ _ _ h => h) (yieldsIf_ld (by rfl) 54 _ rfl _ rfl (fun z hSw => (HX.out z hSw).root)) hHeld ?_
    try simp only [Act.put, List.setIfInBounds_toArray, List.set_cons_zero, List.set_cons_succ]
    refine wpAnyL_takeP (i := 7) (oi := ⟨some 53, .move (.tmp 2), _, _, _, none⟩) (v := ?_) rfl (by kernel_rfl) (by kernel_rfl) (by kernel_rfl) (fun _ _ _ h => h) (Or.inl ⟨by rfl, ?_⟩) hHeld ?_
    rotate_left
    focus (intro z hSw; clear hSw; go_simp; try with_reducible rfl)
    try simp only [Act.put, List.setIfInBounds_toArray, List.set_cons_zero, List.set_cons_succ]
    refine wpAnyL_takeP (i := 8) (oi := ⟨some 54, .fieldAddr 56 (.tmp 11) 0, _, _, _, none⟩) (v := ?_) rfl (by kernel_rfl) (by kernel_rfl) (by kernel_rfl) (fun _ _ _ h => h) (Or.inl ⟨by rfl, ?_⟩) hHeld ?_
    rotate_left
    focus (intro z hSw; clear hSw; go_simp; try with_reducible rfl)
    try simp only [Act.put, List.setIfInBounds_toArray, List.set_cons_zero, List.set_cons_succ]
    refine wpAnyL_take (i := 9) (oi := ⟨some 55, .load 3 (.tmp 54), _, _, _, none⟩) (v := ?_) rfl (by kernel_rfl) (by kernel_rfl) (by kernel_rfl) (fun _ _ _ h => h) (Or.inl ⟨by rfl, ?_⟩) hHeld ?_
    rotate_left
    focus (intro z hSw; have q1 := (HX.out z hSw).size; have q2 := (HX.out z hSw).id; clear hSw; go_simp; try with_reducible rfl)
    try simp only [Act.put, List.setIfInBounds_toArray, List.set_cons_zero, List.set_cons_succ]
    refine wpAnyL_takeP (i := 10) (oi := ⟨some 56, .build 56 #[(1, .tmp 48), (2, .const (.int .i64 2)), (3, .tmp 50), (4, .tmp 52), (5, .tmp 53), (6, .tmp 55)], _, _, _, none⟩) rfl (by kernel_rfl) (by kernel_rfl) (by kernel_rfl) (fun _ _ _ h => h) (Or.inl ⟨by rfl, fun z hSw => exec_bldSn (.tmp 48) _ (.tmp 50) (.tmp 52) (.tmp 53) (.tmp 55) UH.out rfl rfl rfl rfl rfl rfl rfl z⟩) hHeld ?_
    try simp only [Act.put, List.setIfInBounds_toArray, List.set_cons_zero, List.set_cons_succ]
    refine wpAnyL_one (i := 11) (o := ⟨some 57, .call { callee := .value (.func 115), args := #[.tmp 56], argTypes := #[56] }, _, _, _, none⟩) (by kernel_rfl) rfl (fun K hK => ?_)
    have hu := US.out.keep (w' := _) hHeld (by simp)
    go_simp
    refine (put_any (.slice ua x.root.ads.length uc) (snR n x g) us _ hu UH.out).mono ?_
    rintro r w3 ⟨gx, vx, rfl, bx, sx, f3⟩
    refine hK.out _ _ ?_ (fun hNext => ?_)
    · exact hHeld.trans f3 (by simp)
    clear hK K hHeld
    have hHeld := hNext
    clear hNext
    try simp only [Act.put, List.setIfInBounds_toArray, List.set_cons_zero, List.set_cons_succ]
    refine wpAnyL_one (i := 12) (o := ⟨some 58, .call { callee := .value (.func 104), args := #[.tmp 46, .tmp 47, .tmp 57], argTypes := #[27, 32, 128] }, _, _, _, none⟩) (by kernel_rfl) rfl (fun K hK => ?_)
    have F34 := Lib.hid hHeld
    have hch : ec = 0 → ∃ F cap, Value.func (.func 174) #[] #[.pointer (some ⟨gx, 0, none⟩)] = .func (.func F) #[] cap ∧ ChT w3 F cap t (putT t (snR n x g)) := fun e => ⟨174, _, rfl, put1_ch w3 gx vx (snR n x g) us t bx sx HNS.out HFF.out.1 (HW.out e)⟩
    have hd := done_any vr vl _ t _ ec w3 (HT.out.keep0 (FV.out.trans hHeld (by simp))) HF.out hch
    rw [← HE.out] at hd
    have HD := Lib.hid hd
    clear hd hch
    go_simp
    refine HD.out.mono ?_
    rintro r w4 ⟨vr4, vl4, rfl, o4, f4⟩
    refine hK.out _ _ ?_ (fun hNext => ?_)
    · exact hHeld.trans f4 (by simp)
    clear hK K hHeld
    have hHeld := hNext
    clear hNext
    try simp only [Act.put, List.setIfInBounds_toArray, List.set_cons_zero, List.set_cons_succ]
    refine wpAnyL_takeP (i := 13) (oi := ⟨some 59, .extract (.tmp 58) 0, _, _, _, none⟩) (v := ?_) rfl (by kernel_rfl) (by kernel_rfl) (by kernel_rfl) (fun _ _ _ h => h) (Or.inl ⟨by rfl, ?_⟩) hHeld ?_
    rotate_left
    focus (intro z hSw; clear hSw; go_simp; try with_reducible rfl)
    try simp only [Act.put, List.setIfInBounds_toArray, List.set_cons_zero, List.set_cons_succ]
    refine wpAnyL_takeP (i := 14) (oi := ⟨some 60, .extract (.tmp 58) 1, _, _, _, none⟩) (v := ?_) rfl (by kernel_rfl) (by kernel_rfl) (by kernel_rfl) (fun _ _ _ h => h) (Or.inl ⟨by rfl, ?_⟩) hHeld ?_
    rotate_left
    focus (intro z hSw; clear hSw; go_simp; try with_reducible rfl)
    try simp only [Act.put, List.setIfInBounds_toArray, List.set_cons_zero, List.set_cons_succ]
    refine wpAnyL_last (o := ⟨none, .store 27 (.tmp 6) (.tmp 59), _, _, _, none⟩) (by kernel_rfl) rfl (by simp) (fun K hK => ?_)
    refine step_store27 rfl (.tmp 6) (.tmp 59) rfl o4.ones.1 o4.ones.2 ((R6.out.keep0 G1.out).keep0 (F34.out.trans f4 (by simp))) rfl rfl (fun w8 B8 f8 => ?_)
    refine hK.out _ _ ?_
    clear hK K hHeld
    try simp only [Act.put, List.setIfInBounds_toArray, List.set_cons_zero, List.set_cons_succ]
    refine wpAny_take (i := 16) (oi := ⟨some 7, .assign (.tmp 60), _, _, _, none⟩) (v := ?_) rfl (by kernel_rfl) (by kernel_rfl) (by kernel_rfl) (fun _ _ _ h => h) (Or.inl ⟨by rfl, ?_⟩) ?_
    rotate_left
    focus (intro z; go_simp; try with_reducible rfl)
    try simp only [Act.put, List.setIfInBounds_toArray, List.set_cons_zero, List.set_cons_succ]
    refine wpAny_done (by kernel_rfl) ?_ _
    have b8 := B8
    have SZ := Lib.hid (show w.heap.size + 1 < W.heap.size from R6.out.lt)
    go_wp2_with fail
    refine bodyPost_ret (results_cell_slot (p := 6) (q := 7) rfl _ _ rfl rfl (run_loadVar_row w8 (w.heap.size + 1) 27 27 _ (0, 0) _ b8 Tryz.underlying27 rfl (by rw [i27]; simp [tc]))) rfl ?_
    exact ⟨_, _, rfl, (o4.keep f8 (fun i hi => .inl (by have := SZ.out; have := G1.out.size; have := F34.out.size; simp at hi; omega))).base (Nat.le_trans FV.out.size F34.out.size), ((FV.out.trans F34.out (by simp)).trans f4 (by simp)).trans f8 (fun i hi => .inr (by simp at hi; omega))⟩
  | true =>
    rw [hb1, Bool.true_and] at HR
    refine wp_region_held_drew (S := fun z => Frm [] V z) (by kernel_rfl) ((Frm.refl [] V).drew) (fun hHeld => ?_)
    refine wpAnyH_take (i := 0) (oi := ⟨some 26, .load 27 (.tmp 3), _, _, _, none⟩) rfl (by kernel_rfl) (by kernel_rfl) (by kernel_rfl) (fun _ _ _ h => h) (yieldsIf_ld (by rfl) 27 _ rfl _ rfl (fun z hSw => LV.out z hSw)) hHeld ?_
    try simp only [Act.put, List.setIfInBounds_toArray, List.set_cons_zero, List.set_cons_succ]
    refine wpAnyH_take (i := 1) (oi := ⟨some 27, .move (.tmp 10), _, _, _, none⟩) (v := ?_) rfl (by kernel_rfl) (by kernel_rfl) (by kernel_rfl) (fun _ _ _ h => h) (Or.inl ⟨by rfl, ?_⟩) hHeld ?_
    rotate_left
    focus (intro z hSw; clear hSw; go_simp; try with_reducible rfl)
    try simp only [Act.put, List.setIfInBounds_toArray, List.set_cons_zero, List.set_cons_succ]
    refine wpAnyH_take (i := 2) (oi := ⟨some 28, .move (.tmp 27), _, _, _, none⟩) (v := ?_) rfl (by kernel_rfl) (by kernel_rfl) (by kernel_rfl) (fun _ _ _ h => h) (Or.inl ⟨by rfl, ?_⟩) hHeld ?_
    rotate_left
    focus (intro z hSw; clear hSw; go_simp; try with_reducible rfl)
    try simp only [Act.put, List.setIfInBounds_toArray, List.set_cons_zero, List.set_cons_succ]
    refine wpAnyH_take (i := 3) (oi := ⟨some 29, .move (.tmp 2), _, _, _, some (2, true)⟩) (v := ?_) rfl (by kernel_rfl) (by kernel_rfl) (by kernel_rfl) (fun _ _ _ h => h) (Or.inl ⟨by rfl, ?_⟩) hHeld ?_
    rotate_left
    focus (intro z hSw; clear hSw; go_simp; try with_reducible rfl)
    try simp only [Act.put, List.setIfInBounds_toArray, List.set_cons_zero, List.set_cons_succ]
    refine wpAnyH_take (i := 7) (oi := ⟨some 33, .move (.tmp 12), _, _, _, none⟩) (v := ?_) rfl (by kernel_rfl) (by kernel_rfl) (by kernel_rfl) (fun _ _ _ h => h) (Or.inl ⟨by rfl, ?_⟩) hHeld ?_
    rotate_left
    focus (intro z hSw; clear hSw; go_simp; try with_reducible rfl)
    try simp only [Act.put, List.setIfInBounds_toArray, List.set_cons_zero, List.set_cons_succ]
    refine wpAnyH_take (i := 9) (oi := ⟨some 35, .load 27 (.tmp 3), _, _, _, none⟩) rfl (by kernel_rfl) (by kernel_rfl) (by kernel_rfl) (fun _ _ _ h => h) (yieldsIf_ld (by rfl) 27 _ rfl _ rfl (fun z hSw => LV.out z hSw)) hHeld ?_
    try simp only [Act.put, List.setIfInBounds_toArray, List.set_cons_zero, List.set_cons_succ]
    refine wpAnyH_take (i := 10) (oi := ⟨some 36, .move (.tmp 1), _, _, _, none⟩) (v := ?_) rfl (by kernel_rfl) (by kernel_rfl) (by kernel_rfl) (fun _ _ _ h => h) (Or.inl ⟨by rfl, ?_⟩) hHeld ?_
    rotate_left
    focus (intro z hSw; clear hSw; go_simp; try with_reducible rfl)
    try simp only [Act.put, List.setIfInBounds_toArray, List.set_cons_zero, List.set_cons_succ]
    refine wpAnyH_take (i := 12) (oi := ⟨some 38, .fieldAddr 56 (.tmp 11) 4, _, _, _, none⟩) (v := ?_) rfl (by kernel_rfl) (by kernel_rfl) (by kernel_rfl) (fun _ _ _ h => h) (Or.inl ⟨by rfl, ?_⟩) hHeld ?_
    rotate_left
    focus (intro z hSw; clear hSw; go_simp; try with_reducible rfl)
    try simp only [Act.put, List.setIfInBounds_toArray, List.set_cons_zero, List.set_cons_succ]
    refine wpAnyH_take (i := 13) (oi := ⟨some 39, .fieldAddr 54 (.tmp 38) 1, _, _, _, none⟩) (v := ?_) rfl (by kernel_rfl) (by kernel_rfl) (by kernel_rfl) (fun _ _ _ h => h) (Or.inl ⟨by rfl, ?_⟩) hHeld ?_
    rotate_left
    focus (intro z hSw; clear hSw; go_simp; try with_reducible rfl)
    try simp only [Act.put, List.setIfInBounds_toArray, List.set_cons_zero, List.set_cons_succ]
    refine wpAnyH_take (i := 14) (oi := ⟨some 40, .load 3 (.tmp 39), _, _, _, none⟩) (v := ?_) rfl (by kernel_rfl) (by kernel_rfl) (by kernel_rfl) (fun _ _ _ h => h) (Or.inl ⟨by rfl, ?_⟩) hHeld ?_
    rotate_left
    focus (intro z hSw; have q1 := (HX.out z hSw).birth; clear hSw; go_simp; try with_reducible rfl)
    try simp only [Act.put, List.setIfInBounds_toArray, List.set_cons_zero, List.set_cons_succ]
    refine wpAnyH_take (i := 15) (oi := ⟨some 41, .move (.tmp 2), _, _, _, none⟩) (v := ?_) rfl (by kernel_rfl) (by kernel_rfl) (by kernel_rfl) (fun _ _ _ h => h) (Or.inl ⟨by rfl, ?_⟩) hHeld ?_
    rotate_left
    focus (intro z hSw; clear hSw; go_simp; try with_reducible rfl)
    try simp only [Act.put, List.setIfInBounds_toArray, List.set_cons_zero, List.set_cons_succ]
    refine wpAnyH_take (i := 16) (oi := ⟨some 42, .binOp .leq 3 (.tmp 40) (.tmp 41) 3, _, _, _, none⟩) (v := ?_) rfl (by kernel_rfl) (by kernel_rfl) (by kernel_rfl) (fun _ _ _ h => h) (Or.inl ⟨by rfl, ?_⟩) hHeld ?_
    rotate_left
    focus (intro z hSw; clear hSw; go_simp; try with_reducible rfl)
    try simp only [Act.put, List.setIfInBounds_toArray, List.set_cons_zero, List.set_cons_succ]
    refine wpAnyH_ready (rs := [4]) (by kernel_rfl) (by simp) ?_
    refine AllReadyH.cons (o := ⟨some 30, .call { callee := .value (.func 113), args := #[.tmp 29], argTypes := #[3] }, _, _, _, some (2, true)⟩) rfl (fun K hK => ?_) AllReadyH.nil
    go_simp
    refine (mayTxg_any _ _).mono ?_
    rintro r wt ⟨rfl, rfl⟩
    refine hK.out _ _ ?_ (fun hNext => ?_)
    · exact hHeld
    clear hK K hHeld
    have hHeld := hNext
    clear hNext
    try simp only [Act.put, List.setIfInBounds_toArray, List.set_cons_zero, List.set_cons_succ]
    refine wpAnyH_take (i := 5) (oi := ⟨some 31, .pick (.tmp 28) (.tmp 30) (.const (.bool false)), _, _, _, none⟩) (v := ?_) rfl (by kernel_rfl) (by kernel_rfl) (by kernel_rfl) (fun _ _ _ h => h) (Or.inl ⟨by rfl, ?_⟩) hHeld ?_
    rotate_left
    focus (intro z hSw; clear hSw; go_simp; try with_reducible rfl)
    try simp only [Act.put, List.setIfInBounds_toArray, List.set_cons_zero, List.set_cons_succ]
    refine wpAnyH_ready (rs := [6]) (by kernel_rfl) (by simp) ?_
    refine AllReadyH.cons (o := ⟨some 32, .call { callee := .value (.func 101), args := #[.tmp 26, .tmp 31], argTypes := #[27, 4] }, _, _, _, none⟩) rfl (fun K hK => ?_) AllReadyH.nil
    go_simp
    refine (may_any vr vl t (wi g 1 2147483648) _ (HT.out.keep0 (FV.out.trans hHeld (by simp))) HF.out).mono ?_
    rintro r wn ⟨rfl, fm⟩
    refine hK.out _ _ ?_ (fun hNext => ?_)
    · exact hHeld.trans fm (by simp)
    clear hK K hHeld
    have hHeld := hNext
    clear hNext
    try simp only [Act.put, List.setIfInBounds_toArray, List.set_cons_zero, List.set_cons_succ]
    refine wpAnyH_ready (rs := [8]) (by kernel_rfl) (by simp) ?_
    refine AllReadyH.cons (o := ⟨some 34, .call { callee := .value (.func 103), args := #[.tmp 33, .const (.int .i64 6)], argTypes := #[4, 32] }, _, _, _, none⟩) rfl (fun K hK => ?_) AllReadyH.nil
    go_simp
    refine (unless_any _ _ _).mono ?_
    rintro r wa ⟨rfl, rfl⟩
    refine hK.out _ _ ?_ (fun hNext => ?_)
    · exact hHeld
    clear hK K hHeld
    have hHeld := hNext
    clear hNext
    try simp only [Act.put, List.setIfInBounds_toArray, List.set_cons_zero, List.set_cons_succ]
    refine wpAnyH_ready (rs := [11]) (by kernel_rfl) (by simp) ?_
    refine AllReadyH.cons (o := ⟨some 37, .call { callee := .value (.func 114), args := #[.tmp 35, .tmp 36], argTypes := #[27, 9] }, _, _, _, none⟩) rfl (fun K hK => ?_) AllReadyH.nil
    go_simp
    refine (room_any vr vl t n _ (HT.out.keep0 (FV.out.trans hHeld (by simp))) HF.out.recs).mono ?_
    rintro r wr ⟨rfl, fr⟩
    refine hK.out _ _ ?_ (fun hNext => ?_)
    · exact hHeld.trans fr (by simp)
    clear hK K hHeld
    have hHeld := hNext
    clear hNext
    try simp only [Act.put, List.setIfInBounds_toArray, List.set_cons_zero, List.set_cons_succ]
    refine wpAnyH_ready (rs := [17]) (by kernel_rfl) (by simp) ?_
    refine AllReadyH.cons (o := ⟨some 43, .call { callee := .value (.func 103), args := #[.tmp 42, .const (.int .i64 2)], argTypes := #[4, 32] }, _, _, _, none⟩) rfl (fun K hK => ?_) AllReadyH.nil
    go_simp
    refine (unless_any _ _ _).mono ?_
    rintro r wb ⟨rfl, rfl⟩
    refine hK.out _ _ ?_ (fun hNext => ?_)
    · exact hHeld
    clear hK K hHeld
    have hHeld := hNext
    clear hNext
    try simp only [Act.put, List.setIfInBounds_toArray, List.set_cons_zero, List.set_cons_succ]
    refine wpAnyH_ready (rs := [18]) (by kernel_rfl) (by simp) ?_
    refine AllReadyH.cons (o := ⟨some 44, .buildSlice 166 4 #[(0, .tmp 32), (1, .tmp 34), (2, .tmp 37), (3, .tmp 43)], _, _, _, none⟩) rfl (fun K hK => ?_) AllReadyH.nil
    refine step_err4 rfl (.tmp 32) (.tmp 34) (.tmp 37) (.tmp 43) rfl rfl rfl rfl rfl ?_
    intro v18 w18 s18 f18
    refine hK.out _ _ ?_ (fun hNext => ?_)
    · exact hHeld.trans f18 (by simp)
    clear hK K hHeld
    have hHeld := hNext
    clear hNext
    try simp only [Act.put, List.setIfInBounds_toArray, List.set_cons_zero, List.set_cons_succ]
    refine wpAnyH_ready (rs := [19]) (by kernel_rfl) (by simp) ?_
    refine AllReadyH.cons (o := ⟨some 45, .call { callee := .value (.func 100), args := #[.tmp 44], argTypes := #[166] }, _, _, _, none⟩) rfl (fun K hK => ?_) AllReadyH.nil
    go_simp
    refine (OrE_any _ _ _ _ s18 (by simp)).mono ?_
    rintro r wo ⟨rfl, rfl⟩
    refine hK.out _ _ ?_ (fun hNext => ?_)
    · exact hHeld
    clear hK K hHeld
    have hHeld := hNext
    clear hNext
    try simp only [Act.put, List.setIfInBounds_toArray, List.set_cons_zero, List.set_cons_succ]
    refine wpAnyH_take (i := 20) (oi := ⟨some 13, .assign (.tmp 45), _, _, _, none⟩) (v := ?_) rfl (by kernel_rfl) (by kernel_rfl) (by kernel_rfl) (fun _ _ _ h => h) (Or.inl ⟨by rfl, ?_⟩) hHeld ?_
    rotate_left
    focus (intro z hSw; clear hSw; go_simp; try with_reducible rfl)
    try simp only [Act.put, List.setIfInBounds_toArray, List.set_cons_zero, List.set_cons_succ]
    refine wpAnyH_done (by kernel_rfl) ?_ _
    have FW := Lib.hid hHeld
    clear hHeld
    rw [← HR.out]
    go_upto_region 4 with (fail)
    refine wp_region_late 15 (S := fun z => Frm [] V z) (by kernel_rfl) (FW.out.drew) (fun hHeld => ?_)
    refine wpAnyL_take (i := 0) (oi := ⟨some 46, .load 27 (.tmp 3), _, _, _, none⟩) rfl (by kernel_rfl) (by kernel_rfl) (by kernel_rfl) (fun _ _ _ h => h) (yieldsIf_ld (by rfl) 27 _ rfl _ rfl (fun z hSw => LV.out z hSw)) hHeld ?_
    try simp only [Act.put, List.setIfInBounds_toArray, List.set_cons_zero, List.set_cons_succ]
    refine wpAnyL_takeP (i := 1) (oi := ⟨some 47, .move (.tmp 13), _, _, _, none⟩) (v := ?_) rfl (by kernel_rfl) (by kernel_rfl) (by kernel_rfl) (fun _ _ _ h => h) (Or.inl ⟨by rfl, ?_⟩) hHeld ?_
    rotate_left
    focus (intro z hSw; clear hSw; go_simp; try with_reducible rfl)
    try simp only [Act.put, List.setIfInBounds_toArray, List.set_cons_zero, List.set_cons_succ]
    refine wpAnyL_takeP (i := 2) (oi := ⟨some 48, .move (.tmp 1), _, _, _, none⟩) (v := ?_) rfl (by kernel_rfl) (by kernel_rfl) (by kernel_rfl) (fun _ _ _ h => h) (Or.inl ⟨by rfl, ?_⟩) hHeld ?_
    rotate_left
    focus (intro z hSw; clear hSw; go_simp; try with_reducible rfl)
    try simp only [Act.put, List.setIfInBounds_toArray, List.set_cons_zero, List.set_cons_succ]
    refine wpAnyL_takeP (i := 3) (oi := ⟨some 49, .fieldAddr 56 (.tmp 11) 3, _, _, _, none⟩) (v := ?_) rfl (by kernel_rfl) (by kernel_rfl) (by kernel_rfl) (fun _ _ _ h => h) (Or.inl ⟨by rfl, ?_⟩) hHeld ?_
    rotate_left
    focus (intro z hSw; clear hSw; go_simp; try with_reducible rfl)
    try simp only [Act.put, List.setIfInBounds_toArray, List.set_cons_zero, List.set_cons_succ]
    refine wpAnyL_take (i := 4) (oi := ⟨some 50, .load 3 (.tmp 49), _, _, _, none⟩) (v := ?_) rfl (by kernel_rfl) (by kernel_rfl) (by kernel_rfl) (fun _ _ _ h => h) (Or.inl ⟨by rfl, ?_⟩) hHeld ?_
    rotate_left
    focus (intro z hSw; have q1 := (HX.out z hSw).size; have q2 := (HX.out z hSw).id; clear hSw; go_simp; try with_reducible rfl)
    try simp only [Act.put, List.setIfInBounds_toArray, List.set_cons_zero, List.set_cons_succ]
    refine wpAnyL_takeP (i := 5) (oi := ⟨some 51, .fieldAddr 56 (.tmp 11) 4, _, _, _, none⟩) (v := ?_) rfl (by kernel_rfl) (by kernel_rfl) (by kernel_rfl) (fun _ _ _ h => h) (Or.inl ⟨by rfl, ?_⟩) hHeld ?_
    rotate_left
    focus (intro z hSw; clear hSw; go_simp; try with_reducible rfl)
    try simp only [Act.put, List.setIfInBounds_toArray, List.set_cons_zero, List.set_cons_succ]
    refine wpAnyL_take (i := 6) (oi := ⟨some 52, .load 54 (.tmp 51), _, _, _, none⟩) rfl (by kernel_rfl) (by kernel_rfl) (by kernel_rfl) (fun _ _ _ h => h) (yieldsIf_ld (by rfl) 54 _ rfl _ rfl (fun z hSw => (HX.out z hSw).root)) hHeld ?_
    try simp only [Act.put, List.setIfInBounds_toArray, List.set_cons_zero, List.set_cons_succ]
    refine wpAnyL_takeP (i := 7) (oi := ⟨some 53, .move (.tmp 2), _, _, _, none⟩) (v := ?_) rfl (by kernel_rfl) (by kernel_rfl) (by kernel_rfl) (fun _ _ _ h => h) (Or.inl ⟨by rfl, ?_⟩) hHeld ?_
    rotate_left
    focus (intro z hSw; clear hSw; go_simp; try with_reducible rfl)
    try simp only [Act.put, List.setIfInBounds_toArray, List.set_cons_zero, List.set_cons_succ]
    refine wpAnyL_takeP (i := 8) (oi := ⟨some 54, .fieldAddr 56 (.tmp 11) 0, _, _, _, none⟩) (v := ?_) rfl (by kernel_rfl) (by kernel_rfl) (by kernel_rfl) (fun _ _ _ h => h) (Or.inl ⟨by rfl, ?_⟩) hHeld ?_
    rotate_left
    focus (intro z hSw; clear hSw; go_simp; try with_reducible rfl)
    try simp only [Act.put, List.setIfInBounds_toArray, List.set_cons_zero, List.set_cons_succ]
    refine wpAnyL_take (i := 9) (oi := ⟨some 55, .load 3 (.tmp 54), _, _, _, none⟩) (v := ?_) rfl (by kernel_rfl) (by kernel_rfl) (by kernel_rfl) (fun _ _ _ h => h) (Or.inl ⟨by rfl, ?_⟩) hHeld ?_
    rotate_left
    focus (intro z hSw; have q1 := (HX.out z hSw).size; have q2 := (HX.out z hSw).id; clear hSw; go_simp; try with_reducible rfl)
    try simp only [Act.put, List.setIfInBounds_toArray, List.set_cons_zero, List.set_cons_succ]
    refine wpAnyL_takeP (i := 10) (oi := ⟨some 56, .build 56 #[(1, .tmp 48), (2, .const (.int .i64 2)), (3, .tmp 50), (4, .tmp 52), (5, .tmp 53), (6, .tmp 55)], _, _, _, none⟩) rfl (by kernel_rfl) (by kernel_rfl) (by kernel_rfl) (fun _ _ _ h => h) (Or.inl ⟨by rfl, fun z hSw => exec_bldSn (.tmp 48) _ (.tmp 50) (.tmp 52) (.tmp 53) (.tmp 55) UH.out rfl rfl rfl rfl rfl rfl rfl z⟩) hHeld ?_
    try simp only [Act.put, List.setIfInBounds_toArray, List.set_cons_zero, List.set_cons_succ]
    refine wpAnyL_one (i := 11) (o := ⟨some 57, .call { callee := .value (.func 115), args := #[.tmp 56], argTypes := #[56] }, _, _, _, none⟩) (by kernel_rfl) rfl (fun K hK => ?_)
    have hu := US.out.keep (w' := _) hHeld (by simp)
    go_simp
    refine (put_any (.slice ua x.root.ads.length uc) (snR n x g) us _ hu UH.out).mono ?_
    rintro r w3 ⟨gx, vx, rfl, bx, sx, f3⟩
    refine hK.out _ _ ?_ (fun hNext => ?_)
    · exact hHeld.trans f3 (by simp)
    clear hK K hHeld
    have hHeld := hNext
    clear hNext
    try simp only [Act.put, List.setIfInBounds_toArray, List.set_cons_zero, List.set_cons_succ]
    refine wpAnyL_one (i := 12) (o := ⟨some 58, .call { callee := .value (.func 104), args := #[.tmp 46, .tmp 47, .tmp 57], argTypes := #[27, 32, 128] }, _, _, _, none⟩) (by kernel_rfl) rfl (fun K hK => ?_)
    have F34 := Lib.hid hHeld
    have hch : ec = 0 → ∃ F cap, Value.func (.func 174) #[] #[.pointer (some ⟨gx, 0, none⟩)] = .func (.func F) #[] cap ∧ ChT w3 F cap t (putT t (snR n x g)) := fun e => ⟨174, _, rfl, put1_ch w3 gx vx (snR n x g) us t bx sx HNS.out HFF.out.1 (HW.out e)⟩
    have hd := done_any vr vl _ t _ ec w3 (HT.out.keep0 (FV.out.trans hHeld (by simp))) HF.out hch
    rw [← HE.out] at hd
    have HD := Lib.hid hd
    clear hd hch
    go_simp
    refine HD.out.mono ?_
    rintro r w4 ⟨vr4, vl4, rfl, o4, f4⟩
    refine hK.out _ _ ?_ (fun hNext => ?_)
    · exact hHeld.trans f4 (by simp)
    clear hK K hHeld
    have hHeld := hNext
    clear hNext
    try simp only [Act.put, List.setIfInBounds_toArray, List.set_cons_zero, List.set_cons_succ]
    refine wpAnyL_takeP (i := 13) (oi := ⟨some 59, .extract (.tmp 58) 0, _, _, _, none⟩) (v := ?_) rfl (by kernel_rfl) (by kernel_rfl) (by kernel_rfl) (fun _ _ _ h => h) (Or.inl ⟨by rfl, ?_⟩) hHeld ?_
    rotate_left
    focus (intro z hSw; clear hSw; go_simp; try with_reducible rfl)
    try simp only [Act.put, List.setIfInBounds_toArray, List.set_cons_zero, List.set_cons_succ]
    refine wpAnyL_takeP (i := 14) (oi := ⟨some 60, .extract (.tmp 58) 1, _, _, _, none⟩) (v := ?_) rfl (by kernel_rfl) (by kernel_rfl) (by kernel_rfl) (fun _ _ _ h => h) (Or.inl ⟨by rfl, ?_⟩) hHeld ?_
    rotate_left
    focus (intro z hSw; clear hSw; go_simp; try with_reducible rfl)
    try simp only [Act.put, List.setIfInBounds_toArray, List.set_cons_zero, List.set_cons_succ]
    refine wpAnyL_last (o := ⟨none, .store 27 (.tmp 6) (.tmp 59), _, _, _, none⟩) (by kernel_rfl) rfl (by simp) (fun K hK => ?_)
    refine step_store27 rfl (.tmp 6) (.tmp 59) rfl o4.ones.1 o4.ones.2 ((R6.out.keep0 G1.out).keep0 (F34.out.trans f4 (by simp))) rfl rfl (fun w8 B8 f8 => ?_)
    refine hK.out _ _ ?_
    clear hK K hHeld
    try simp only [Act.put, List.setIfInBounds_toArray, List.set_cons_zero, List.set_cons_succ]
    refine wpAny_take (i := 16) (oi := ⟨some 7, .assign (.tmp 60), _, _, _, none⟩) (v := ?_) rfl (by kernel_rfl) (by kernel_rfl) (by kernel_rfl) (fun _ _ _ h => h) (Or.inl ⟨by rfl, ?_⟩) ?_
    rotate_left
    focus (intro z; go_simp; try with_reducible rfl)
    try simp only [Act.put, List.setIfInBounds_toArray, List.set_cons_zero, List.set_cons_succ]
    refine wpAny_done (by kernel_rfl) ?_ _
    have b8 := B8
    have SZ := Lib.hid (show w.heap.size + 1 < W.heap.size from R6.out.lt)
    go_wp2_with fail
    refine bodyPost_ret (results_cell_slot (p := 6) (q := 7) rfl _ _ rfl rfl (run_loadVar_row w8 (w.heap.size + 1) 27 27 _ (0, 0) _ b8 Tryz.underlying27 rfl (by rw [i27]; simp [tc]))) rfl ?_
    exact ⟨_, _, rfl, (o4.keep f8 (fun i hi => .inl (by have := SZ.out; have := G1.out.size; have := F34.out.size; simp at hi; omega))).base (Nat.le_trans FV.out.size F34.out.size), ((FV.out.trans F34.out (by simp)).trans f4 (by simp)).trans f8 (fun i hi => .inr (by simp at hi; omega))⟩
end Go.Proofs.YtljhanhipmnioaaGreat.Rd

namespace Go.Proofs.YtljhanhipmnioaaGreat.Rd
open Go.RowKit
set_option linter.unusedVariables false
set_option linter.unusedSimpArgs false
set_option maxRecDepth 100000

open Pt (Pt may enc zeroPt be4 be1 pc pv PtV SlA OwnA BT wpList_load_g heap_alloc_at Ext Grew yieldsIf_ld)
open Kr (OwnE SlE Enco RowTys)

theorem rollback1_ch (w : World) (g : Nat) (vs : Value) (sp : List Pt.Ad) (x s : Rec) (hg : RB w g vs s) (hA : SlA w vs s.root.ads sp) (hl : s.root.ads.length ≤ 1000000) : ChR w 118 #[.pointer (some ⟨g, 0, none⟩)] x (withRoot (withSize x s.size) s.root) :=
  ⟨fun u z => enter_of Tryz.func118 (by kernel_rfl) (by kernel_rfl) _ z, fun b o T pre post v W f hb h hp hs => rollback1_any b o g T pre post v vs x s sp W h hp hs (hg.keep0 f) (hA.keep f (by simp)) hl (by have := hg.lt; omega)⟩
def rollC (t : Tab) (s : ByteArray) : Int := orL [mayC t (snapS s), unl (isF s t.recs) 6, unl (!t.recs.any (newB (fndR s t.recs))) 17]
def rollR (v x : Rec) : Rec := withRoot (withSize x v.size) v.root
def rollT (t : Tab) (s : ByteArray) : Tab × Int := if rollC t s = 0 then (updR t (spl1 s) (rollR (fndR s t.recs)), 0) else (zeroT, rollC t s)
theorem unl_zero {b : Bool} {e : Int} (h : unl b e = 0) (he : e ≠ 0) : b = true := by
  unfold unl at h
  cases b with
  | true => rfl
  | false => simp at h; exact absurd h he
theorem isF_some {n : ByteArray} {rs : List Rec} (h : isF n rs = true) : ∃ i x, fnd n rs = some i ∧ rs[i]? = some x ∧ fndR n rs = x ∧ x.name = n := by
  unfold isF at h
  cases hf : fnd n rs with
  | none => rw [hf] at h; cases h
  | some i =>
    obtain ⟨x, hx, hn, _⟩ := fnd_some hf
    exact ⟨i, x, rfl, hx, by simp [fndR, hf, hx], hn⟩
theorem rollC_vol {t : Tab} {s : ByteArray} (h : rollC t s = 0) : MayT t ∧ snapS s = true ∧ (∃ i x, fnd s t.recs = some i ∧ t.recs[i]? = some x ∧ fndR s t.recs = x ∧ x.name = s ∧ x.kind = 2) ∧ ∃ k y, fnd (spl1 s) t.recs = some k ∧ t.recs[k]? = some y ∧ fndR (spl1 s) t.recs = y := by
  have h1 := mayC_may (orL_all0 h (mayC t (snapS s)) (by simp))
  have h2 := unl_zero (orL_all0 h (unl (isF s t.recs) 6) (by simp)) (by decide)
  obtain ⟨i, x, a, b, c, d⟩ := isF_some h2
  have hk : x.kind = 2 := by
    rcases mayR_kind (h1.1.at b).one with ⟨_, q, _⟩ | ⟨q, _⟩
    · rw [d] at q; rw [snap_part h1.2] at q; cases q
    · exact q
  obtain ⟨k, y, e, f, g, _⟩ := h1.1.vol b hk
  rw [d] at e
  exact ⟨h1.1, h1.2, ⟨i, x, a, b, c, d, hk⟩, k, y, e, f, by simp [fndR, e, f]⟩
set_option maxHeartbeats 8000000 in
theorem Rollback_any (vr vl : Value) (t : Tab) (n : ByteArray) (w : World) (h : TabV w vr vl t) (hf : FitT t) (hn : n.size ≤ 1000) : Calls Tryz.prog 53 #[tv vr vl t, .string n] w (TellE (rollT t n) w) := by
  have F0 := Lib.hid (show Frm [] w ((w.alloc (.cells (tc vr vl t).toArray 27)).alloc (.cells (tc nilS nilS zeroT).toArray 27)) from ((Frm.refl [] w).alloc _).alloc _)
  have BT := Lib.hid ((TB.new w vr vl t).keep0 ((Frm.refl [] _).alloc (.cells (tc nilS nilS zeroT).toArray 27)))
  have R6 := Lib.hid (show TB ((w.alloc (.cells (tc vr vl t).toArray 27)).alloc (.cells (tc nilS nilS zeroT).toArray 27)) (w.heap.size + 1) nilS nilS zeroT from heap_alloc_at (by simp))
  have HFI := Lib.hid (fun z (f : Frm [] w z) => find_any vr vl t n z (h.keep0 f) hf.recs)
  have HT := Lib.hid h
  have HF := Lib.hid hf
  have HSP := Lib.hid (fun z => Split_any n hn z)
  have HE := Lib.hid (show rollT t n = if rollC t n = 0 then (updR t (spl1 n) (rollR (fndR n t.recs)), 0) else (zeroT, rollC t n) from rfl)
  have HW := Lib.hid (fun (e : rollC t n = 0) => (rollC_vol e).2.2.2)
  have HR := Lib.hid (show rollC t n = orL [mayC t (snapS n), unl (isF n t.recs) 6, unl (!t.recs.any (newB (fndR n t.recs))) 17] from rfl)
  have HFF := Lib.hid (fndR_fit hf n)
  rw [tcA]
  generalize (tc vr vl t).toArray = A at *
  generalize rollT t n = res at *
  generalize rollC t n = ec at *
  clear h hf hn
  go_enter Tryz.func53, Tryz.ntmps53
  go_upto_region 1 with ((with_reducible (show wpList _ _ _ (Oper.mk _ (Op.alloc 27) _ _ _ _ :: _) _ _)); refine wpList_val rfl (exec_alloc27 rfl _) ?_)
  try simp only [World.size_alloc]
  generalize (w.alloc (.cells A 27)).alloc (.cells (tc nilS nilS zeroT).toArray 27) = W at *
  go_upto_region 2 with (go_at_call 116; refine (HSP.out _).mono ?_; rintro r w0 ⟨hs0, fs⟩; unfold SplE at hs0; subst hs0)
  have FS := Lib.hid fs
  have LA := Lib.hid (BT.out.keep0 fs).gets.all
  go_upto_region 3 with (first
    | ((with_reducible (show wpList _ _ _ (Oper.mk _ (Op.load 27 _) _ _ _ _ :: _) _ _)); refine wpList_load_g (by rfl) 27 _ rfl _ rfl LA.out ?_)
    | (go_at_call 99; refine (HFI.out _ (F0.out.trans FS.out (by simp))).mono ?_; rintro r w1 hr; obtain ⟨ua, uc, us, rfl, uS, uh, g1⟩ := hr.own)
    | ((with_reducible (show wpList _ _ _ (Oper.mk _ (Op.alloc 56) _ _ _ _ :: _) _ _)); refine wpList_lay56 rfl rfl rfl (.tmp 9) (.tmp 22) rfl (v := .slice ua (fndR n t.recs).root.ads.length uc) rfl uh rfl rfl ?_))
  have G1 := Lib.hid (show Frm [] W (w1.alloc (.cells (rc (.slice ua (fndR n t.recs).root.ads.length uc) (fndR n t.recs)).toArray 56)) from (FS.out.trans g1 (by simp)).trans ((Frm.refl [] w1).alloc _) (by simp))
  have XB := Lib.hid (RB.new (w := w1) (v := .slice ua (fndR n t.recs).root.ads.length uc) uh)
  have US := Lib.hid (uS.keep (w' := w1.alloc (.cells (rc (.slice ua (fndR n t.recs).root.ads.length uc) (fndR n t.recs)).toArray 56)) ((Frm.refl [] w1).alloc _) (by simp))
  have UH := Lib.hid uh
  clear g1 uS uh hr fs
  generalize w1.alloc (.cells (rc (.slice ua (fndR n t.recs).root.ads.length uc) (fndR n t.recs)).toArray 56) = V at *
  have HX := Lib.hid (fun z (f : Frm [] V z) => (XB.out.keep0 f).gets)
  have LV := Lib.hid (fun z (f : Frm [] V z) => ((BT.out.keep0 G1.out).keep0 f).gets.all)
  have FV := Lib.hid (F0.out.trans G1.out (by simp))
  generalize isF n t.recs = fb at *
  generalize fndR n t.recs = x at *
  refine wp_region_held_drew (S := fun z => Frm [] V z) (by kernel_rfl) ((Frm.refl [] V).drew) (fun hHeld => ?_)
  refine wpAnyH_take (i := 0) (oi := ⟨some 24, .load 27 (.tmp 2), _, _, _, none⟩) rfl (by kernel_rfl) (by kernel_rfl) (by kernel_rfl) (fun _ _ _ h => h) (yieldsIf_ld (by rfl) 27 _ rfl _ rfl (fun z hSw => LV.out z hSw)) hHeld ?_
  try simp only [Act.put, List.setIfInBounds_toArray, List.set_cons_zero, List.set_cons_succ]
  refine wpAnyH_take (i := 1) (oi := ⟨some 25, .move (.tmp 8), _, _, _, none⟩) (v := ?_) rfl (by kernel_rfl) (by kernel_rfl) (by kernel_rfl) (fun _ _ _ h => h) (Or.inl ⟨by rfl, ?_⟩) hHeld ?_
  rotate_left
  focus (intro z hSw; clear hSw; go_simp; try with_reducible rfl)
  try simp only [Act.put, List.setIfInBounds_toArray, List.set_cons_zero, List.set_cons_succ]
  refine wpAnyH_take (i := 3) (oi := ⟨some 27, .move (.tmp 10), _, _, _, none⟩) (v := ?_) rfl (by kernel_rfl) (by kernel_rfl) (by kernel_rfl) (fun _ _ _ h => h) (Or.inl ⟨by rfl, ?_⟩) hHeld ?_
  rotate_left
  focus (intro z hSw; clear hSw; go_simp; try with_reducible rfl)
  try simp only [Act.put, List.setIfInBounds_toArray, List.set_cons_zero, List.set_cons_succ]
  refine wpAnyH_take (i := 5) (oi := ⟨some 29, .load 27 (.tmp 2), _, _, _, none⟩) rfl (by kernel_rfl) (by kernel_rfl) (by kernel_rfl) (fun _ _ _ h => h) (yieldsIf_ld (by rfl) 27 _ rfl _ rfl (fun z hSw => LV.out z hSw)) hHeld ?_
  try simp only [Act.put, List.setIfInBounds_toArray, List.set_cons_zero, List.set_cons_succ]
  refine wpAnyH_take (i := 6) (oi := ⟨some 30, .load 56 (.tmp 9), _, _, _, none⟩) rfl (by kernel_rfl) (by kernel_rfl) (by kernel_rfl) (fun _ _ _ h => h) (yieldsIf_ld (by rfl) 56 _ rfl _ rfl (fun z hSw => (HX.out z hSw).all)) hHeld ?_
  try simp only [Act.put, List.setIfInBounds_toArray, List.set_cons_zero, List.set_cons_succ]
  refine wpAnyH_ready (rs := [2]) (by kernel_rfl) (by simp) ?_
  refine AllReadyH.cons (o := ⟨some 26, .call { callee := .value (.func 101), args := #[.tmp 24, .tmp 25], argTypes := #[27, 4] }, _, _, _, none⟩) rfl (fun K hK => ?_) AllReadyH.nil
  go_simp
  refine (may_any vr vl t (snapS n) _ (HT.out.keep0 (FV.out.trans hHeld (by simp))) HF.out).mono ?_
  rintro r wn ⟨rfl, fm⟩
  refine hK.out _ _ ?_ (fun hNext => ?_)
  · exact hHeld.trans fm (by simp)
  clear hK K hHeld
  have hHeld := hNext
  clear hNext
  try simp only [Act.put, List.setIfInBounds_toArray, List.set_cons_zero, List.set_cons_succ]
  refine wpAnyH_ready (rs := [4]) (by kernel_rfl) (by simp) ?_
  refine AllReadyH.cons (o := ⟨some 28, .call { callee := .value (.func 103), args := #[.tmp 27, .const (.int .i64 6)], argTypes := #[4, 32] }, _, _, _, none⟩) rfl (fun K hK => ?_) AllReadyH.nil
  go_simp
  refine (unless_any _ _ _).mono ?_
  rintro r wa ⟨rfl, rfl⟩
  refine hK.out _ _ ?_ (fun hNext => ?_)
  · exact hHeld
  clear hK K hHeld
  have hHeld := hNext
  clear hNext
  try simp only [Act.put, List.setIfInBounds_toArray, List.set_cons_zero, List.set_cons_succ]
  refine wpAnyH_ready (rs := [7]) (by kernel_rfl) (by simp) ?_
  refine AllReadyH.cons (o := ⟨some 31, .call { callee := .value (.func 117), args := #[.tmp 29, .tmp 30], argTypes := #[27, 56] }, _, _, _, none⟩) rfl (fun K hK => ?_) AllReadyH.nil
  go_simp
  have hu := US.out.keep (w' := _) hHeld (by simp)
  refine (newest_any vr vl _ t x _ (HT.out.keep0 (FV.out.trans hHeld (by simp))) ⟨ua, uc, us, rfl, hu, UH.out⟩ HF.out.recs).mono ?_
  rintro r wr ⟨rfl, fr⟩
  refine hK.out _ _ ?_ (fun hNext => ?_)
  · exact hHeld.trans fr (by simp)
  clear hK K hHeld
  have hHeld := hNext
  clear hNext
  try simp only [Act.put, List.setIfInBounds_toArray, List.set_cons_zero, List.set_cons_succ]
  refine wpAnyH_ready (rs := [8]) (by kernel_rfl) (by simp) ?_
  refine AllReadyH.cons (o := ⟨some 32, .call { callee := .value (.func 103), args := #[.tmp 31, .const (.int .i64 17)], argTypes := #[4, 32] }, _, _, _, none⟩) rfl (fun K hK => ?_) AllReadyH.nil
  go_simp
  refine (unless_any _ _ _).mono ?_
  rintro r wb ⟨rfl, rfl⟩
  refine hK.out _ _ ?_ (fun hNext => ?_)
  · exact hHeld
  clear hK K hHeld
  have hHeld := hNext
  clear hNext
  try simp only [Act.put, List.setIfInBounds_toArray, List.set_cons_zero, List.set_cons_succ]
  refine wpAnyH_ready (rs := [9]) (by kernel_rfl) (by simp) ?_
  refine AllReadyH.cons (o := ⟨some 33, .buildSlice 166 3 #[(0, .tmp 26), (1, .tmp 28), (2, .tmp 32)], _, _, _, none⟩) rfl (fun K hK => ?_) AllReadyH.nil
  refine step_err3 rfl (.tmp 26) (.tmp 28) (.tmp 32) rfl rfl rfl rfl ?_
  intro v9 w9 s9 f9
  refine hK.out _ _ ?_ (fun hNext => ?_)
  · exact hHeld.trans f9 (by simp)
  clear hK K hHeld
  have hHeld := hNext
  clear hNext
  try simp only [Act.put, List.setIfInBounds_toArray, List.set_cons_zero, List.set_cons_succ]
  refine wpAnyH_ready (rs := [10]) (by kernel_rfl) (by simp) ?_
  refine AllReadyH.cons (o := ⟨some 34, .call { callee := .value (.func 100), args := #[.tmp 33], argTypes := #[166] }, _, _, _, none⟩) rfl (fun K hK => ?_) AllReadyH.nil
  go_simp
  refine (OrE_any _ _ _ _ s9 (by simp)).mono ?_
  rintro r wo ⟨rfl, rfl⟩
  refine hK.out _ _ ?_ (fun hNext => ?_)
  · exact hHeld
  clear hK K hHeld
  have hHeld := hNext
  clear hNext
  try simp only [Act.put, List.setIfInBounds_toArray, List.set_cons_zero, List.set_cons_succ]
  refine wpAnyH_take (i := 11) (oi := ⟨some 11, .assign (.tmp 34), _, _, _, none⟩) (v := ?_) rfl (by kernel_rfl) (by kernel_rfl) (by kernel_rfl) (fun _ _ _ h => h) (Or.inl ⟨by rfl, ?_⟩) hHeld ?_
  rotate_left
  focus (intro z hSw; clear hSw; go_simp; try with_reducible rfl)
  try simp only [Act.put, List.setIfInBounds_toArray, List.set_cons_zero, List.set_cons_succ]
  refine wpAnyH_done (by kernel_rfl) ?_ _
  have FW := Lib.hid hHeld
  clear hHeld
  rw [← HR.out]
  go_upto_region 4 with (fail)
  refine wp_region_late 8 (S := fun z => Frm [] V z) (by kernel_rfl) (FW.out.drew) (fun hHeld => ?_)
  refine wpAnyL_take (i := 0) (oi := ⟨some 35, .load 27 (.tmp 2), _, _, _, none⟩) rfl (by kernel_rfl) (by kernel_rfl) (by kernel_rfl) (fun _ _ _ h => h) (yieldsIf_ld (by rfl) 27 _ rfl _ rfl (fun z hSw => LV.out z hSw)) hHeld ?_
  try simp only [Act.put, List.setIfInBounds_toArray, List.set_cons_zero, List.set_cons_succ]
  refine wpAnyL_takeP (i := 1) (oi := ⟨some 36, .move (.tmp 11), _, _, _, none⟩) (v := ?_) rfl (by kernel_rfl) (by kernel_rfl) (by kernel_rfl) (fun _ _ _ h => h) (Or.inl ⟨by rfl, ?_⟩) hHeld ?_
  rotate_left
  focus (intro z hSw; clear hSw; go_simp; try with_reducible rfl)
  try simp only [Act.put, List.setIfInBounds_toArray, List.set_cons_zero, List.set_cons_succ]
  refine wpAnyL_takeP (i := 2) (oi := ⟨some 37, .move (.tmp 6), _, _, _, none⟩) (v := ?_) rfl (by kernel_rfl) (by kernel_rfl) (by kernel_rfl) (fun _ _ _ h => h) (Or.inl ⟨by rfl, ?_⟩) hHeld ?_
  rotate_left
  focus (intro z hSw; clear hSw; go_simp; try with_reducible rfl)
  try simp only [Act.put, List.setIfInBounds_toArray, List.set_cons_zero, List.set_cons_succ]
  refine wpAnyL_takeP (i := 3) (oi := ⟨some 38, .makeFunc (Fn.func 118) #[] #[.tmp 9], _, _, _, none⟩) (v := ?_) rfl (by kernel_rfl) (by kernel_rfl) (by kernel_rfl) (fun _ _ _ h => h) (Or.inl ⟨by rfl, ?_⟩) hHeld ?_
  rotate_left
  focus (intro z hSw; clear hSw; go_simp; try with_reducible rfl)
  try simp only [Act.put, List.setIfInBounds_toArray, List.set_cons_zero, List.set_cons_succ]
  refine wpAnyL_one (i := 4) (o := ⟨some 39, .call { callee := .value (.func 108), args := #[.tmp 37, .tmp 38], argTypes := #[9, 135] }, _, _, _, none⟩) (by kernel_rfl) rfl (fun K hK => ?_)
  go_simp
  refine (set_any (spl1 n) 118 _ _).mono ?_
  rintro r w3 ⟨g, h, rfl, cg, ch, f3⟩
  refine hK.out _ _ ?_ (fun hNext => ?_)
  · exact hHeld.trans f3 (by simp)
  clear hK K hHeld
  have hHeld := hNext
  clear hNext
  try simp only [Act.put, List.setIfInBounds_toArray, List.set_cons_zero, List.set_cons_succ]
  refine wpAnyL_one (i := 5) (o := ⟨some 40, .call { callee := .value (.func 104), args := #[.tmp 35, .tmp 36, .tmp 39], argTypes := #[27, 32, 128] }, _, _, _, none⟩) (by kernel_rfl) rfl (fun K hK => ?_)
  have F34 := Lib.hid hHeld
  have hch : ec = 0 → ∃ F cap, Value.func (.func 172) #[] #[.pointer (some ⟨g, 0, none⟩), .pointer (some ⟨h, 0, none⟩)] = .func (.func F) #[] cap ∧ ChT w3 F cap t (updR t (spl1 n) (rollR x)) := fun e => by
    obtain ⟨i, y, h1, h2, h3⟩ := HW.out e
    refine ⟨172, _, rfl, ?_⟩
    have := set1_any w3 g h i (spl1 n) 118 #[.pointer (some ⟨w1.heap.size, 0, none⟩)] t y (rollR x y) cg ch h1 h2 (rollback1_ch w3 w1.heap.size _ us y x (XB.out.keep0 F34.out) (US.out.keep F34.out (by simp)) HFF.out.1) HF.out.recs
    unfold updR
    rw [h1, h3]
    exact this
  have hd := done_any vr vl _ t _ ec w3 (HT.out.keep0 (FV.out.trans hHeld (by simp))) HF.out hch
  rw [← HE.out] at hd
  have HD := Lib.hid hd
  clear hd hch
  go_simp
  refine HD.out.mono ?_
  rintro r w4 ⟨vr4, vl4, rfl, o4, f4⟩
  refine hK.out _ _ ?_ (fun hNext => ?_)
  · exact hHeld.trans f4 (by simp)
  clear hK K hHeld
  have hHeld := hNext
  clear hNext
  try simp only [Act.put, List.setIfInBounds_toArray, List.set_cons_zero, List.set_cons_succ]
  refine wpAnyL_takeP (i := 6) (oi := ⟨some 41, .extract (.tmp 40) 0, _, _, _, none⟩) (v := ?_) rfl (by kernel_rfl) (by kernel_rfl) (by kernel_rfl) (fun _ _ _ h => h) (Or.inl ⟨by rfl, ?_⟩) hHeld ?_
  rotate_left
  focus (intro z hSw; clear hSw; go_simp; try with_reducible rfl)
  try simp only [Act.put, List.setIfInBounds_toArray, List.set_cons_zero, List.set_cons_succ]
  refine wpAnyL_takeP (i := 7) (oi := ⟨some 42, .extract (.tmp 40) 1, _, _, _, none⟩) (v := ?_) rfl (by kernel_rfl) (by kernel_rfl) (by kernel_rfl) (fun _ _ _ h => h) (Or.inl ⟨by rfl, ?_⟩) hHeld ?_
  rotate_left
  focus (intro z hSw; clear hSw; go_simp; try with_reducible rfl)
  try simp only [Act.put, List.setIfInBounds_toArray, List.set_cons_zero, List.set_cons_succ]
  refine wpAnyL_last (o := ⟨none, .store 27 (.tmp 4) (.tmp 41), _, _, _, none⟩) (by kernel_rfl) rfl (by simp) (fun K hK => ?_)
  refine step_store27 rfl (.tmp 4) (.tmp 41) rfl o4.ones.1 o4.ones.2 ((R6.out.keep0 G1.out).keep0 (F34.out.trans f4 (by simp))) rfl rfl (fun w8 B8 f8 => ?_)
  refine hK.out _ _ ?_
  clear hK K hHeld
  try simp only [Act.put, List.setIfInBounds_toArray, List.set_cons_zero, List.set_cons_succ]
  refine wpAny_take (i := 9) (oi := ⟨some 5, .assign (.tmp 42), _, _, _, none⟩) (v := ?_) rfl (by kernel_rfl) (by kernel_rfl) (by kernel_rfl) (fun _ _ _ h => h) (Or.inl ⟨by rfl, ?_⟩) ?_
  rotate_left
  focus (intro z; go_simp; try with_reducible rfl)
  try simp only [Act.put, List.setIfInBounds_toArray, List.set_cons_zero, List.set_cons_succ]
  refine wpAny_done (by kernel_rfl) ?_ _
  have b8 := B8
  have SZ := Lib.hid (show w.heap.size + 1 < W.heap.size from R6.out.lt)
  go_wp2_with fail
  refine bodyPost_ret (results_cell_slot (p := 4) (q := 5) rfl _ _ rfl rfl (run_loadVar_row w8 (w.heap.size + 1) 27 27 _ (0, 0) _ b8 Tryz.underlying27 rfl (by rw [i27]; simp [tc]))) rfl ?_
  exact ⟨_, _, rfl, (o4.keep f8 (fun i hi => .inl (by have := SZ.out; have := G1.out.size; have := F34.out.size; simp at hi; omega))).base (Nat.le_trans FV.out.size F34.out.size), ((FV.out.trans F34.out (by simp)).trans f4 (by simp)).trans f8 (fun i hi => .inr (by simp at hi; omega))⟩
end Go.Proofs.YtljhanhipmnioaaGreat.Rd
