/-
  Dir: newest, needed. No conditions but those that each theorem names. Dir: room, writing. No conditions but those that each theorem names. Dir: roots, what follows. No conditions but those that each theorem names. Dir: copies of pointers, of texts. No conditions but those that each theorem names. Dir: newest, copies of lists. No conditions but those that each theorem names. Regions that draw their order: loads are taken first, and their condition is asked only till a store comes up that waits for each of them. Of no program. No conditions but those that each theorem names. The reader of the program: its block, its demand. No conditions but those that each theorem names. The reader of the program: a record. No conditions but those that each theorem names.
-/
import Derived.Test.YtljhanhipmnioaaGreatDBa1
import Derived.Test.YtljhanhipmnioaaGreatDBa2
import Derived.Test.YtljhanhipmnioaaGreatDBa3
import Derived.Test.YtljhanhipmnioaaGreatDBa4
import Derived.Test.YtljhanhipmnioaaGreatDBa5
import Derived.OrdersHeld
import Derived.Lib.BufferWrite
import Derived.Lib.UnsafeStr
import Derived.Lib.SliceRun
import Derived.Deep.RegionHeld
import Derived.StillTailTactics
import Derived.WalkKit
import Derived.WalkSpells
import Derived.WalkLawsBesides
import Derived.Deep.AppendSrc
import Derived.Laws.CopyOwn
import Derived.Laws.BytesArg
import Derived.Carry
import Derived.Laws.BytesString
import Derived.Deep.SlicePairs
import Derived.Deep.Cut
import Derived.Lib.Hide
import Derived.Test.YtljhanhipmnioaaGreatChecked
import Derived.ChangeKeysEq
import Derived.Deep.MidRow
import Derived.Deep.RegionHeld3
import Derived.OpenShut
import Derived.WalkHide
import Derived.IntWalk
import Derived.Deep.RegionLaw
import Derived.Deep.RegionWith
import Derived.Deep.QuietTactic
import Derived.BigQuiet
import Derived.Deep.CutBlock
import Derived.Deep.DeepCutAuto
import Derived.Deep.Slices
import Derived.Defers
import Derived.Recover
import Derived.Deep.WholeRow
import Derived.Deep.Strs
import Derived.ChangeSame
import Derived.Lib.Bytealg
import Derived.Lib.TrimUEq
import Derived.Lib.MinMaxS
import Derived.LaidEqlPtr
import Derived.Lib.OthersKept
import Derived.Deep.Draws
import Derived.WalkMore
import Derived.Deep.LoopGhost
import Derived.Laws.MakeOwn
import Derived.Laws.Strings3
import Derived.BigRegion
import Derived.Lib.Walk
import Derived.Great.Walk
namespace Go.Proofs.YtljhanhipmnioaaGreat.Rd
open Go.RowKit
set_option linter.unusedVariables false
set_option linter.unusedSimpArgs false
set_option maxRecDepth 100000

open Pt (Pt may enc zeroPt be4 be1 pc pv PtV SlA OwnA BT wpList_load_g heap_alloc_at Ext Grew yieldsIf_ld)
open Kr (OwnE SlE Enco RowTys)

set_option maxHeartbeats 1000000 in
theorem Contains_any (F : FuncId) (cap : Array Value) (p : Rec → Bool) (v : Value) (rs : List Rec) (w : World) (h : Rs w v rs) (hl : rs.length ≤ 1000) (hc : Chk w rs F cap p) :
    Calls Tryz.prog 179 #[v, .func (.func F) #[] cap] w fun e w' => e = .returned (.bool (rs.any p)) ∧ Frm [] w w' := by
  have HI := Lib.hid (IndexFunc_any F cap p v rs w h hl hc)
  obtain ⟨a, c, rfl⟩ := h.form
  have hlo := idx_lo p rs
  have HA := Lib.hid (idx_any p rs)
  clear h hc
  generalize idx p rs = i at *
  generalize rs.any p = b at *
  have HB := Lib.hid hlo
  clear hlo
  go_enter Tryz.func179, Tryz.ntmps179
  go_wp2_with (go_at_call 66; refine HI.out.mono ?_; rintro r w1 ⟨rfl, f1⟩)
  go_ret
  exact ⟨by rw [← HA.out]; rfl, f1⟩
def needB (r o : Rec) : Bool := o.of == r.id || o.origin == r.id
set_option maxHeartbeats 1000000 in
theorem needed1_any (u v : Value) (o x : Rec) (g : Nat) (w : World) (h : RecV w u o) (hg : RB w g v x) : Calls Tryz.prog 186 #[u, .pointer (some ⟨g, 0, none⟩)] w fun e w' => e = .returned (.bool (needB x o)) ∧ Frm [] w w' := by
  obtain ⟨a, rfl, hs, _, _⟩ := h.box
  have f0 : Frm [] w (w.alloc (.cells (rc a o).toArray 56)) := (Frm.refl [] w).alloc _
  have G := (RB.new (w := w) (v := a) hs).gets
  have c0 := G.of
  have c1 := G.origin
  have k0 := (hg.keep0 f0).gets.id
  unfold needB
  generalize (rc a o).toArray = A at *
  clear h hs hg G
  go_enter Tryz.func186, Tryz.ntmps186
  go_upto_region 1 with (fail)
  generalize w.alloc (.cells A 56) = W at *
  go_wp2_with fail
  all_goals go_ret
  all_goals refine ⟨?_, f0⟩
  all_goals simp_all
set_option maxHeartbeats 4000000 in
theorem needed_any (vr vl u : Value) (t : Tab) (x : Rec) (w : World) (hT : TabV w vr vl t) (h : RecV w u x) (hl : t.recs.length ≤ 1000) : Calls Tryz.prog 124 #[tv vr vl t, u] w fun e w' => e = .returned (.bool (t.recs.any (needB x))) ∧ Frm [] w w' := by
  obtain ⟨a, rfl, hs, _, _⟩ := h.box
  obtain ⟨av, ac, rfl⟩ := hT.1.form
  have f0 : Frm [] w (w.alloc (.cells (tc (.slice av t.recs.length ac) vl t).toArray 27)) := (Frm.refl [] w).alloc _
  have f1 : Frm [] (w.alloc (.cells (tc (.slice av t.recs.length ac) vl t).toArray 27)) ((w.alloc (.cells (tc (.slice av t.recs.length ac) vl t).toArray 27)).alloc (.cells (rc a x).toArray 56)) := (Frm.refl [] _).alloc _
  have d1 := ((TB.new w (.slice av t.recs.length ac) vl t).keep0 f1).gets.recs
  have BX := (show RB ((w.alloc (.cells (tc (.slice av t.recs.length ac) vl t).toArray 27)).alloc (.cells (rc a x).toArray 56)) (w.heap.size + 1) a x from ⟨heap_alloc_at (by simp), hs⟩)
  have F0 := Lib.hid (f0.trans f1 (by simp))
  have HC := Lib.hid (Contains_any 186 #[.pointer (some ⟨w.heap.size + 1, 0, none⟩)] (needB x) (.slice av t.recs.length ac) t.recs _ (hT.1.keep0 F0.out) hl ⟨fun u z => enter_of Tryz.func186 (by kernel_rfl) (by kernel_rfl) _ z, fun u o z f _ hv => needed1_any u a o x _ z hv (BX.keep0 f)⟩)
  rw [tcA]
  clear f0 f1 hT BX h
  generalize t.recs.any (needB x) = b at *
  generalize (tc (.slice av t.recs.length ac) vl t).toArray = A at *
  generalize (rc a x).toArray = A2 at *
  go_enter Tryz.func124, Tryz.ntmps124
  go_upto_region 1 with (fail)
  try simp only [World.size_alloc]
  generalize (w.alloc (.cells A 27)).alloc (.cells A2 56) = W at *
  go_wp2_with (go_at_call 179; refine HC.out.mono ?_; rintro r w1 ⟨rfl, f1⟩)
  go_ret
  exact ⟨rfl, F0.out.trans f1 (by simp)⟩
def cp3 (a b : Int) : Int := if a < b then -1 else if b < a then 1 else 0
theorem isNaN_any (n : Int) (w : World) : Calls Tryz.prog 219 #[.int .i64 n] w fun e w' => e = .returned (.bool false) ∧ w' = w := by
  go_enter Tryz.func219, Tryz.ntmps219
  go_wp2_with fail
  go_ret
  exact ⟨rfl, rfl⟩
set_option maxHeartbeats 1000000 in
theorem Compare_any (a b : Int) (w : World) : Calls Tryz.prog 182 #[.int .i64 a, .int .i64 b] w fun e w' => e = .returned (.int .i64 (cp3 a b)) ∧ w' = w := by
  unfold cp3
  by_cases h : a < b
  · rw [if_pos h]
    go_enter Tryz.func182, Tryz.ntmps182
    go_wp2_with (go_at_call 219; refine (isNaN_any _ _).mono ?_; rintro r w1 ⟨rfl, rfl⟩)
    go_ret
    exact ⟨rfl, rfl⟩
  · rw [if_neg h]
    by_cases h2 : b < a
    · rw [if_pos h2]
      go_enter Tryz.func182, Tryz.ntmps182
      go_wp2_with (go_at_call 219; refine (isNaN_any _ _).mono ?_; rintro r w1 ⟨rfl, rfl⟩)
      go_ret
      exact ⟨rfl, rfl⟩
    · rw [if_neg h2]
      go_enter Tryz.func182, Tryz.ntmps182
      go_wp2_with (go_at_call 219; refine (isNaN_any _ _).mono ?_; rintro r w1 ⟨rfl, rfl⟩)
      go_ret
      exact ⟨rfl, rfl⟩
theorem b3_2 (x y : Int) : Tryz.prog.builtSlice 3 2 [(0, .int .i64 x), (1, .int .i64 y)] = some #[.int .i64 x, .int .i64 y] := by kernel_rfl
section
variable {ops : Array Oper} {o : Oper} {a : Act} {w : World} {K : Act → World → Prop} {Q : Exit → Act → World → Prop} {E : Prop}
theorem step_bs25 (hw : Region.wanted o (yielded ops a.tmps) = true) (len : Nat) (parts : Array (Nat × Operand)) (ho : o.op = .buildSlice 25 len parts) (cells : Array Value)
    (hf : Tryz.prog.builtSlice 3 len (parts.map fun (i, x) => (i, a.eval x)).toList = some cells) (h : K (a.put o.dst (.slice (some ⟨w.heap.size, 0, none⟩) len len)) (w.alloc (.cells cells 3))) :
    if Region.wanted o (yielded ops a.tmps) = true then Oper.wp Tryz.prog o a w K Q else E := by
  rw [if_pos hw]
  unfold Program.builtSlice at hf
  cases hie : Tryz.prog.info? 3 with
  | none => simp [hie] at hf
  | some ie =>
    simp only [hie] at hf
    cases hz : ie.zero with
    | none => simp [hz] at hf
    | some z =>
      simp only [hz] at hf
      by_cases hc : len * ie.size > 2 ^ 24 ∨ len * ie.size = 0
      · simp [hc] at hf
      · rw [if_neg hc] at hf
        exact wp_buildSlice 25 3 len parts ho cells ie z Tryz.underlying25 hie hz (fun h' => hc (Or.inl h')) (fun h' => hc (Or.inr h')) hf h
theorem step_int2 (hw : Region.wanted o (yielded ops a.tmps) = true) (p q : Operand) (ho : o.op = .buildSlice 25 2 #[(0, p), (1, q)]) {x y : Int} (hp : a.eval p = .int .i64 x) (hq : a.eval q = .int .i64 y)
    (k : ∀ v' w', SlE eI 1 w' v' [x, y] [] → Frm [] w w' → K (a.put o.dst v') w') : if Region.wanted o (yielded ops a.tmps) = true then Oper.wp Tryz.prog o a w K Q else E :=
  step_bs25 hw 2 _ ho _ (by simp only [List.map_toArray, List.map_cons, List.map_nil, hp, hq]; exact b3_2 x y) (k _ _ (sle_new w [x, y] _ 3 rfl (by simp)) ((Frm.refl [] w).alloc _))
end
/-- Is a record newer than a snapshot, of the same volume? -/
def newB (s o : Rec) : Bool := o.of == s.of && decide (0 < orL [cp3 o.made s.made, cp3 o.id s.id])
set_option maxHeartbeats 4000000 in
theorem newest1_any (u v : Value) (o x : Rec) (g : Nat) (w : World) (h : RecV w u o) (hg : RB w g v x) : Calls Tryz.prog 180 #[u, .pointer (some ⟨g, 0, none⟩)] w fun e w' => e = .returned (.bool (newB x o)) ∧ Frm [] w w' := by
  obtain ⟨a, rfl, hs, _, _⟩ := h.box
  have f0 : Frm [] w (w.alloc (.cells (rc a o).toArray 56)) := (Frm.refl [] w).alloc _
  have BO := Lib.hid (RB.new (w := w) (v := a) hs)
  have BX := Lib.hid (hg.keep0 f0)
  have F0 := Lib.hid f0
  generalize (rc a o).toArray = A at *
  clear h hs hg f0
  have HN := Lib.hid (show newB x o = (o.of == x.of && decide (0 < orL [cp3 o.made x.made, cp3 o.id x.id])) from rfl)
  generalize newB x o = nb at *
  go_enter Tryz.func180, Tryz.ntmps180
  go_upto_region 1 with (fail)
  generalize w.alloc (.cells A 56) = W at *
  have GO := Lib.hid (fun z (f : Frm [] W z) => (BO.out.keep0 f).gets)
  have GX := Lib.hid (fun z (f : Frm [] W z) => (BX.out.keep0 f).gets)
  by_cases he : o.of = x.of
  · have HE := Lib.hid he
    have HEB : (o.of == x.of) = true := by simpa using he
    rw [HEB, Bool.true_and] at HN
    clear he HEB
    refine wp_region_held_drew (S := fun z => Frm [] W z) (by kernel_rfl) ((Frm.refl [] W).drew) (fun hHeld => ?_)
    refine wpAnyH_take (i := 0) (oi := ⟨some 4, .fieldAddr 56 (.tmp 2) 6, _, _, _, none⟩) (v := ?_) rfl (by kernel_rfl) (by kernel_rfl) (by kernel_rfl) (fun _ _ _ h => h) (Or.inl ⟨by rfl, ?_⟩) hHeld ?_
    rotate_left
    focus (intro z hSw; clear hSw; go_simp; try with_reducible rfl)
    try simp only [Act.put, List.setIfInBounds_toArray, List.set_cons_zero, List.set_cons_succ]
    refine wpAnyH_take (i := 1) (oi := ⟨some 5, .load 3 (.tmp 4), _, _, _, none⟩) (v := ?_) rfl (by kernel_rfl) (by kernel_rfl) (by kernel_rfl) (fun _ _ _ h => h) (Or.inl ⟨by rfl, ?_⟩) hHeld ?_
    rotate_left
    focus (intro z hSw; have q0 := (GO.out z hSw).of; have q1 := (GX.out z hSw).of; rw [← HE.out] at q1; have q2 := (GO.out z hSw).made; have q3 := (GX.out z hSw).made; have q4 := (GO.out z hSw).id; have q5 := (GX.out z hSw).id; clear hSw; go_simp; try with_reducible rfl)
    try simp only [Act.put, List.setIfInBounds_toArray, List.set_cons_zero, List.set_cons_succ]
    refine wpAnyH_take (i := 2) (oi := ⟨some 6, .fieldAddr 56 (.tmp 1) 6, _, _, _, none⟩) (v := ?_) rfl (by kernel_rfl) (by kernel_rfl) (by kernel_rfl) (fun _ _ _ h => h) (Or.inl ⟨by rfl, ?_⟩) hHeld ?_
    rotate_left
    focus (intro z hSw; clear hSw; go_simp; try with_reducible rfl)
    try simp only [Act.put, List.setIfInBounds_toArray, List.set_cons_zero, List.set_cons_succ]
    refine wpAnyH_take (i := 3) (oi := ⟨some 7, .load 3 (.tmp 6), _, _, _, none⟩) (v := ?_) rfl (by kernel_rfl) (by kernel_rfl) (by kernel_rfl) (fun _ _ _ h => h) (Or.inl ⟨by rfl, ?_⟩) hHeld ?_
    rotate_left
    focus (intro z hSw; have q0 := (GO.out z hSw).of; have q1 := (GX.out z hSw).of; rw [← HE.out] at q1; have q2 := (GO.out z hSw).made; have q3 := (GX.out z hSw).made; have q4 := (GO.out z hSw).id; have q5 := (GX.out z hSw).id; clear hSw; go_simp; try with_reducible rfl)
    try simp only [Act.put, List.setIfInBounds_toArray, List.set_cons_zero, List.set_cons_succ]
    refine wpAnyH_take (i := 4) (oi := ⟨some 8, .binOp .eql 3 (.tmp 5) (.tmp 7) 3, _, _, _, none⟩) (v := ?_) rfl (by kernel_rfl) (by kernel_rfl) (by kernel_rfl) (fun _ _ _ h => h) (Or.inl ⟨by rfl, ?_⟩) hHeld ?_
    rotate_left
    focus (intro z hSw; clear hSw; go_simp; try with_reducible rfl)
    try simp only [Act.put, List.setIfInBounds_toArray, List.set_cons_zero, List.set_cons_succ]
    refine wpAnyH_take (i := 5) (oi := ⟨some 9, .move (.tmp 8), _, _, _, none⟩) (v := ?_) rfl (by kernel_rfl) (by kernel_rfl) (by kernel_rfl) (fun _ _ _ h => h) (Or.inl ⟨by rfl, ?_⟩) hHeld ?_
    rotate_left
    focus (intro z hSw; clear hSw; go_simp; try with_reducible rfl)
    try simp only [Act.put, List.setIfInBounds_toArray, List.set_cons_zero, List.set_cons_succ]
    refine wpAnyH_take (i := 6) (oi := ⟨some 10, .fieldAddr 56 (.tmp 2) 5, _, _, _, some (5, true)⟩) (v := ?_) rfl (by kernel_rfl) (by kernel_rfl) (by kernel_rfl) (fun _ _ _ h => h) (Or.inl ⟨by rfl, ?_⟩) hHeld ?_
    rotate_left
    focus (intro z hSw; clear hSw; go_simp; try with_reducible rfl)
    try simp only [Act.put, List.setIfInBounds_toArray, List.set_cons_zero, List.set_cons_succ]
    refine wpAnyH_take (i := 7) (oi := ⟨some 11, .load 3 (.tmp 10), _, _, _, some (5, true)⟩) (v := ?_) rfl (by kernel_rfl) (by kernel_rfl) (by kernel_rfl) (fun _ _ _ h => h) (Or.inl ⟨by rfl, ?_⟩) hHeld ?_
    rotate_left
    focus (intro z hSw; have q0 := (GO.out z hSw).of; have q1 := (GX.out z hSw).of; rw [← HE.out] at q1; have q2 := (GO.out z hSw).made; have q3 := (GX.out z hSw).made; have q4 := (GO.out z hSw).id; have q5 := (GX.out z hSw).id; clear hSw; go_simp; try with_reducible rfl)
    try simp only [Act.put, List.setIfInBounds_toArray, List.set_cons_zero, List.set_cons_succ]
    refine wpAnyH_take (i := 8) (oi := ⟨some 12, .fieldAddr 56 (.tmp 1) 5, _, _, _, some (5, true)⟩) (v := ?_) rfl (by kernel_rfl) (by kernel_rfl) (by kernel_rfl) (fun _ _ _ h => h) (Or.inl ⟨by rfl, ?_⟩) hHeld ?_
    rotate_left
    focus (intro z hSw; clear hSw; go_simp; try with_reducible rfl)
    try simp only [Act.put, List.setIfInBounds_toArray, List.set_cons_zero, List.set_cons_succ]
    refine wpAnyH_take (i := 9) (oi := ⟨some 13, .load 3 (.tmp 12), _, _, _, some (5, true)⟩) (v := ?_) rfl (by kernel_rfl) (by kernel_rfl) (by kernel_rfl) (fun _ _ _ h => h) (Or.inl ⟨by rfl, ?_⟩) hHeld ?_
    rotate_left
    focus (intro z hSw; have q0 := (GO.out z hSw).of; have q1 := (GX.out z hSw).of; rw [← HE.out] at q1; have q2 := (GO.out z hSw).made; have q3 := (GX.out z hSw).made; have q4 := (GO.out z hSw).id; have q5 := (GX.out z hSw).id; clear hSw; go_simp; try with_reducible rfl)
    try simp only [Act.put, List.setIfInBounds_toArray, List.set_cons_zero, List.set_cons_succ]
    refine wpAnyH_take (i := 11) (oi := ⟨some 15, .fieldAddr 56 (.tmp 2) 0, _, _, _, some (5, true)⟩) (v := ?_) rfl (by kernel_rfl) (by kernel_rfl) (by kernel_rfl) (fun _ _ _ h => h) (Or.inl ⟨by rfl, ?_⟩) hHeld ?_
    rotate_left
    focus (intro z hSw; clear hSw; go_simp; try with_reducible rfl)
    try simp only [Act.put, List.setIfInBounds_toArray, List.set_cons_zero, List.set_cons_succ]
    refine wpAnyH_take (i := 12) (oi := ⟨some 16, .load 3 (.tmp 15), _, _, _, some (5, true)⟩) (v := ?_) rfl (by kernel_rfl) (by kernel_rfl) (by kernel_rfl) (fun _ _ _ h => h) (Or.inl ⟨by rfl, ?_⟩) hHeld ?_
    rotate_left
    focus (intro z hSw; have q0 := (GO.out z hSw).of; have q1 := (GX.out z hSw).of; rw [← HE.out] at q1; have q2 := (GO.out z hSw).made; have q3 := (GX.out z hSw).made; have q4 := (GO.out z hSw).id; have q5 := (GX.out z hSw).id; clear hSw; go_simp; try with_reducible rfl)
    try simp only [Act.put, List.setIfInBounds_toArray, List.set_cons_zero, List.set_cons_succ]
    refine wpAnyH_take (i := 13) (oi := ⟨some 17, .fieldAddr 56 (.tmp 1) 0, _, _, _, some (5, true)⟩) (v := ?_) rfl (by kernel_rfl) (by kernel_rfl) (by kernel_rfl) (fun _ _ _ h => h) (Or.inl ⟨by rfl, ?_⟩) hHeld ?_
    rotate_left
    focus (intro z hSw; clear hSw; go_simp; try with_reducible rfl)
    try simp only [Act.put, List.setIfInBounds_toArray, List.set_cons_zero, List.set_cons_succ]
    refine wpAnyH_take (i := 14) (oi := ⟨some 18, .load 3 (.tmp 17), _, _, _, some (5, true)⟩) (v := ?_) rfl (by kernel_rfl) (by kernel_rfl) (by kernel_rfl) (fun _ _ _ h => h) (Or.inl ⟨by rfl, ?_⟩) hHeld ?_
    rotate_left
    focus (intro z hSw; have q0 := (GO.out z hSw).of; have q1 := (GX.out z hSw).of; rw [← HE.out] at q1; have q2 := (GO.out z hSw).made; have q3 := (GX.out z hSw).made; have q4 := (GO.out z hSw).id; have q5 := (GX.out z hSw).id; clear hSw; go_simp; try with_reducible rfl)
    try simp only [Act.put, List.setIfInBounds_toArray, List.set_cons_zero, List.set_cons_succ]
    refine wpAnyH_ready (rs := [10]) (by kernel_rfl) (by simp) ?_
    refine AllReadyH.cons (o := ⟨some 14, .call { callee := .value (.func 182), args := #[.tmp 11, .tmp 13], argTypes := #[3, 3] }, _, _, _, some (5, true)⟩) rfl (fun K hK => ?_) AllReadyH.nil
    go_simp
    refine (Compare_any _ _ _).mono ?_
    rintro r wa ⟨rfl, rfl⟩
    refine hK.out _ _ ?_ (fun hNext => ?_)
    · exact hHeld
    clear hK K hHeld
    have hHeld := hNext
    clear hNext
    try simp only [Act.put, List.setIfInBounds_toArray, List.set_cons_zero, List.set_cons_succ]
    refine wpAnyH_ready (rs := [15]) (by kernel_rfl) (by simp) ?_
    refine AllReadyH.cons (o := ⟨some 19, .call { callee := .value (.func 182), args := #[.tmp 16, .tmp 18], argTypes := #[3, 3] }, _, _, _, some (5, true)⟩) rfl (fun K hK => ?_) AllReadyH.nil
    go_simp
    refine (Compare_any _ _ _).mono ?_
    rintro r wb ⟨rfl, rfl⟩
    refine hK.out _ _ ?_ (fun hNext => ?_)
    · exact hHeld
    clear hK K hHeld
    have hHeld := hNext
    clear hNext
    try simp only [Act.put, List.setIfInBounds_toArray, List.set_cons_zero, List.set_cons_succ]
    refine wpAnyH_ready (rs := [16]) (by kernel_rfl) (by simp) ?_
    refine AllReadyH.cons (o := ⟨some 20, .buildSlice 25 2 #[(0, .tmp 14), (1, .tmp 19)], _, _, _, some (5, true)⟩) rfl (fun K hK => ?_) AllReadyH.nil
    refine step_int2 (by rfl) (.tmp 14) (.tmp 19) rfl rfl rfl ?_
    intro v16 w16 s16 f16
    refine hK.out _ _ ?_ (fun hNext => ?_)
    · exact hHeld.trans f16 (by simp)
    clear hK K hHeld
    have hHeld := hNext
    clear hNext
    try simp only [Act.put, List.setIfInBounds_toArray, List.set_cons_zero, List.set_cons_succ]
    refine wpAnyH_ready (rs := [17]) (by kernel_rfl) (by simp) ?_
    refine AllReadyH.cons (o := ⟨some 21, .call { callee := .value (.func 181), args := #[.tmp 20], argTypes := #[25] }, _, _, _, some (5, true)⟩) rfl (fun K hK => ?_) AllReadyH.nil
    go_simp
    refine (OrI_any _ _ _ _ s16 (by simp)).mono ?_
    rintro r wc ⟨rfl, rfl⟩
    refine hK.out _ _ ?_ (fun hNext => ?_)
    · exact hHeld
    clear hK K hHeld
    have hHeld := hNext
    clear hNext
    try simp only [Act.put, List.setIfInBounds_toArray, List.set_cons_zero, List.set_cons_succ]
    refine wpAnyH_take (i := 18) (oi := ⟨some 22, .binOp .gtr 3 (.tmp 21) (.const (.int .i64 0)) 3, _, _, _, some (5, true)⟩) (v := ?_) rfl (by kernel_rfl) (by kernel_rfl) (by kernel_rfl) (fun _ _ _ h => h) (Or.inl ⟨by rfl, ?_⟩) hHeld ?_
    rotate_left
    focus (intro z hSw; clear hSw; go_simp; try with_reducible rfl)
    try simp only [Act.put, List.setIfInBounds_toArray, List.set_cons_zero, List.set_cons_succ]
    refine wpAnyH_take (i := 19) (oi := ⟨some 23, .pick (.tmp 9) (.tmp 22) (.const (.bool false)), _, _, _, none⟩) (v := ?_) rfl (by kernel_rfl) (by kernel_rfl) (by kernel_rfl) (fun _ _ _ h => h) (Or.inl ⟨by rfl, ?_⟩) hHeld ?_
    rotate_left
    focus (intro z hSw; clear hSw; go_simp; try with_reducible rfl)
    try simp only [Act.put, List.setIfInBounds_toArray, List.set_cons_zero, List.set_cons_succ]
    refine wpAnyH_take (i := 20) (oi := ⟨some 3, .assign (.tmp 23), _, _, _, none⟩) (v := ?_) rfl (by kernel_rfl) (by kernel_rfl) (by kernel_rfl) (fun _ _ _ h => h) (Or.inl ⟨by rfl, ?_⟩) hHeld ?_
    rotate_left
    focus (intro z hSw; clear hSw; go_simp; try with_reducible rfl)
    try simp only [Act.put, List.setIfInBounds_toArray, List.set_cons_zero, List.set_cons_succ]
    refine wpAnyH_done (by kernel_rfl) ?_ _
    go_wp2_with (fail)
    go_ret
    exact ⟨by rw [HN.out]; rfl, F0.out.trans hHeld (by simp)⟩
  · have he9 : (o.of == x.of) = false := by simpa using he
    rw [he9, Bool.false_and] at HN
    refine wp_region_held_drew (S := fun z => Frm [] W z) (by kernel_rfl) ((Frm.refl [] W).drew) (fun hHeld => ?_)
    refine wpAnyH_take (i := 0) (oi := ⟨some 4, .fieldAddr 56 (.tmp 2) 6, _, _, _, none⟩) (v := ?_) rfl (by kernel_rfl) (by kernel_rfl) (by kernel_rfl) (fun _ _ _ h => h) (Or.inl ⟨by rfl, ?_⟩) hHeld ?_
    rotate_left
    focus (intro z hSw; clear hSw; go_simp; try with_reducible rfl)
    try simp only [Act.put, List.setIfInBounds_toArray, List.set_cons_zero, List.set_cons_succ]
    refine wpAnyH_take (i := 1) (oi := ⟨some 5, .load 3 (.tmp 4), _, _, _, none⟩) (v := ?_) rfl (by kernel_rfl) (by kernel_rfl) (by kernel_rfl) (fun _ _ _ h => h) (Or.inl ⟨by rfl, ?_⟩) hHeld ?_
    rotate_left
    focus (intro z hSw; have q0 := (GO.out z hSw).of; have q1 := (GX.out z hSw).of; have q2 := (GO.out z hSw).made; have q3 := (GX.out z hSw).made; have q4 := (GO.out z hSw).id; have q5 := (GX.out z hSw).id; clear hSw; go_simp; try with_reducible rfl)
    try simp only [Act.put, List.setIfInBounds_toArray, List.set_cons_zero, List.set_cons_succ]
    refine wpAnyH_take (i := 2) (oi := ⟨some 6, .fieldAddr 56 (.tmp 1) 6, _, _, _, none⟩) (v := ?_) rfl (by kernel_rfl) (by kernel_rfl) (by kernel_rfl) (fun _ _ _ h => h) (Or.inl ⟨by rfl, ?_⟩) hHeld ?_
    rotate_left
    focus (intro z hSw; clear hSw; go_simp; try with_reducible rfl)
    try simp only [Act.put, List.setIfInBounds_toArray, List.set_cons_zero, List.set_cons_succ]
    refine wpAnyH_take (i := 3) (oi := ⟨some 7, .load 3 (.tmp 6), _, _, _, none⟩) (v := ?_) rfl (by kernel_rfl) (by kernel_rfl) (by kernel_rfl) (fun _ _ _ h => h) (Or.inl ⟨by rfl, ?_⟩) hHeld ?_
    rotate_left
    focus (intro z hSw; have q0 := (GO.out z hSw).of; have q1 := (GX.out z hSw).of; have q2 := (GO.out z hSw).made; have q3 := (GX.out z hSw).made; have q4 := (GO.out z hSw).id; have q5 := (GX.out z hSw).id; clear hSw; go_simp; try with_reducible rfl)
    try simp only [Act.put, List.setIfInBounds_toArray, List.set_cons_zero, List.set_cons_succ]
    refine wpAnyH_take (i := 4) (oi := ⟨some 8, .binOp .eql 3 (.tmp 5) (.tmp 7) 3, _, _, _, none⟩) (v := ?_) rfl (by kernel_rfl) (by kernel_rfl) (by kernel_rfl) (fun _ _ _ h => h) (Or.inl ⟨by rfl, ?_⟩) hHeld ?_
    rotate_left
    focus (intro z hSw; clear hSw; go_simp; try with_reducible rfl)
    try simp only [Act.put, List.setIfInBounds_toArray, List.set_cons_zero, List.set_cons_succ]
    refine wpAnyH_take (i := 5) (oi := ⟨some 9, .move (.tmp 8), _, _, _, none⟩) (v := ?_) rfl (by kernel_rfl) (by kernel_rfl) (by kernel_rfl) (fun _ _ _ h => h) (Or.inl ⟨by rfl, ?_⟩) hHeld ?_
    rotate_left
    focus (intro z hSw; clear hSw; go_simp; try with_reducible rfl)
    try simp only [Act.put, List.setIfInBounds_toArray, List.set_cons_zero, List.set_cons_succ]
    refine wpAnyH_take (i := 6) (oi := ⟨some 10, .fieldAddr 56 (.tmp 2) 5, _, _, _, some (5, true)⟩) (v := undef) rfl (by kernel_rfl) (by kernel_rfl) (by kernel_rfl) (fun _ _ _ h => h) (Or.inr ⟨by rfl, rfl⟩) hHeld ?_
    try simp only [Act.put, List.setIfInBounds_toArray, List.set_cons_zero, List.set_cons_succ]
    refine wpAnyH_take (i := 7) (oi := ⟨some 11, .load 3 (.tmp 10), _, _, _, some (5, true)⟩) (v := undef) rfl (by kernel_rfl) (by kernel_rfl) (by kernel_rfl) (fun _ _ _ h => h) (Or.inr ⟨by rfl, rfl⟩) hHeld ?_
    try simp only [Act.put, List.setIfInBounds_toArray, List.set_cons_zero, List.set_cons_succ]
    refine wpAnyH_take (i := 8) (oi := ⟨some 12, .fieldAddr 56 (.tmp 1) 5, _, _, _, some (5, true)⟩) (v := undef) rfl (by kernel_rfl) (by kernel_rfl) (by kernel_rfl) (fun _ _ _ h => h) (Or.inr ⟨by rfl, rfl⟩) hHeld ?_
    try simp only [Act.put, List.setIfInBounds_toArray, List.set_cons_zero, List.set_cons_succ]
    refine wpAnyH_take (i := 9) (oi := ⟨some 13, .load 3 (.tmp 12), _, _, _, some (5, true)⟩) (v := undef) rfl (by kernel_rfl) (by kernel_rfl) (by kernel_rfl) (fun _ _ _ h => h) (Or.inr ⟨by rfl, rfl⟩) hHeld ?_
    try simp only [Act.put, List.setIfInBounds_toArray, List.set_cons_zero, List.set_cons_succ]
    refine wpAnyH_take (i := 10) (oi := ⟨some 14, .call { callee := .value (.func 182), args := #[.tmp 11, .tmp 13], argTypes := #[3, 3] }, _, _, _, some (5, true)⟩) (v := undef) rfl (by kernel_rfl) (by kernel_rfl) (by kernel_rfl) (fun _ _ _ h => h) (Or.inr ⟨by rfl, rfl⟩) hHeld ?_
    try simp only [Act.put, List.setIfInBounds_toArray, List.set_cons_zero, List.set_cons_succ]
    refine wpAnyH_take (i := 11) (oi := ⟨some 15, .fieldAddr 56 (.tmp 2) 0, _, _, _, some (5, true)⟩) (v := undef) rfl (by kernel_rfl) (by kernel_rfl) (by kernel_rfl) (fun _ _ _ h => h) (Or.inr ⟨by rfl, rfl⟩) hHeld ?_
    try simp only [Act.put, List.setIfInBounds_toArray, List.set_cons_zero, List.set_cons_succ]
    refine wpAnyH_take (i := 12) (oi := ⟨some 16, .load 3 (.tmp 15), _, _, _, some (5, true)⟩) (v := undef) rfl (by kernel_rfl) (by kernel_rfl) (by kernel_rfl) (fun _ _ _ h => h) (Or.inr ⟨by rfl, rfl⟩) hHeld ?_
    try simp only [Act.put, List.setIfInBounds_toArray, List.set_cons_zero, List.set_cons_succ]
    refine wpAnyH_take (i := 13) (oi := ⟨some 17, .fieldAddr 56 (.tmp 1) 0, _, _, _, some (5, true)⟩) (v := undef) rfl (by kernel_rfl) (by kernel_rfl) (by kernel_rfl) (fun _ _ _ h => h) (Or.inr ⟨by rfl, rfl⟩) hHeld ?_
    try simp only [Act.put, List.setIfInBounds_toArray, List.set_cons_zero, List.set_cons_succ]
    refine wpAnyH_take (i := 14) (oi := ⟨some 18, .load 3 (.tmp 17), _, _, _, some (5, true)⟩) (v := undef) rfl (by kernel_rfl) (by kernel_rfl) (by kernel_rfl) (fun _ _ _ h => h) (Or.inr ⟨by rfl, rfl⟩) hHeld ?_
    try simp only [Act.put, List.setIfInBounds_toArray, List.set_cons_zero, List.set_cons_succ]
    refine wpAnyH_take (i := 15) (oi := ⟨some 19, .call { callee := .value (.func 182), args := #[.tmp 16, .tmp 18], argTypes := #[3, 3] }, _, _, _, some (5, true)⟩) (v := undef) rfl (by kernel_rfl) (by kernel_rfl) (by kernel_rfl) (fun _ _ _ h => h) (Or.inr ⟨by rfl, rfl⟩) hHeld ?_
    try simp only [Act.put, List.setIfInBounds_toArray, List.set_cons_zero, List.set_cons_succ]
    refine wpAnyH_take (i := 16) (oi := ⟨some 20, .buildSlice 25 2 #[(0, .tmp 14), (1, .tmp 19)], _, _, _, some (5, true)⟩) (v := undef) rfl (by kernel_rfl) (by kernel_rfl) (by kernel_rfl) (fun _ _ _ h => h) (Or.inr ⟨by rfl, rfl⟩) hHeld ?_
    try simp only [Act.put, List.setIfInBounds_toArray, List.set_cons_zero, List.set_cons_succ]
    refine wpAnyH_take (i := 17) (oi := ⟨some 21, .call { callee := .value (.func 181), args := #[.tmp 20], argTypes := #[25] }, _, _, _, some (5, true)⟩) (v := undef) rfl (by kernel_rfl) (by kernel_rfl) (by kernel_rfl) (fun _ _ _ h => h) (Or.inr ⟨by rfl, rfl⟩) hHeld ?_
    try simp only [Act.put, List.setIfInBounds_toArray, List.set_cons_zero, List.set_cons_succ]
    refine wpAnyH_take (i := 18) (oi := ⟨some 22, .binOp .gtr 3 (.tmp 21) (.const (.int .i64 0)) 3, _, _, _, some (5, true)⟩) (v := undef) rfl (by kernel_rfl) (by kernel_rfl) (by kernel_rfl) (fun _ _ _ h => h) (Or.inr ⟨by rfl, rfl⟩) hHeld ?_
    try simp only [Act.put, List.setIfInBounds_toArray, List.set_cons_zero, List.set_cons_succ]
    refine wpAnyH_take (i := 19) (oi := ⟨some 23, .pick (.tmp 9) (.tmp 22) (.const (.bool false)), _, _, _, none⟩) (v := ?_) rfl (by kernel_rfl) (by kernel_rfl) (by kernel_rfl) (fun _ _ _ h => h) (Or.inl ⟨by rfl, ?_⟩) hHeld ?_
    rotate_left
    focus (intro z hSw; clear hSw; go_simp; try with_reducible rfl)
    try simp only [Act.put, List.setIfInBounds_toArray, List.set_cons_zero, List.set_cons_succ]
    refine wpAnyH_take (i := 20) (oi := ⟨some 3, .assign (.tmp 23), _, _, _, none⟩) (v := ?_) rfl (by kernel_rfl) (by kernel_rfl) (by kernel_rfl) (fun _ _ _ h => h) (Or.inl ⟨by rfl, ?_⟩) hHeld ?_
    rotate_left
    focus (intro z hSw; clear hSw; go_simp; try with_reducible rfl)
    try simp only [Act.put, List.setIfInBounds_toArray, List.set_cons_zero, List.set_cons_succ]
    refine wpAnyH_done (by kernel_rfl) ?_ _
    go_wp2_with (fail)
    go_ret
    exact ⟨by rw [HN.out]; rfl, F0.out.trans hHeld (by simp)⟩
end Go.Proofs.YtljhanhipmnioaaGreat.Rd

namespace Go.Proofs.YtljhanhipmnioaaGreat.Rd
open Go.RowKit
set_option linter.unusedVariables false
set_option linter.unusedSimpArgs false
set_option maxRecDepth 100000

open Pt (Pt may enc zeroPt be4 be1 pc pv PtV SlA OwnA BT wpList_load_g heap_alloc_at Ext Grew yieldsIf_ld)
open Kr (OwnE SlE Enco RowTys)

def roomC (t : Tab) (n : ByteArray) : Int := orL [unl (!isF n t.recs) 7, unl (decide (t.recs.length < 16) && decide (t.next < 2147483648)) 8]
theorem FindO.own {n : ByteArray} {rs : List Rec} {w w' : World} {e : Ending} (h : FindO n rs w e w') : ∃ a cap sp, e = .returned (.tuple #[rv (.slice a (fndR n rs).root.ads.length cap) (fndR n rs), .bool (isF n rs)]) ∧ SlA w' (.slice a (fndR n rs).root.ads.length cap) (fndR n rs).root.ads sp ∧ (fndR n rs).root.s.length = 32 ∧ Frm [] w w' := by
  obtain ⟨u, h1, ⟨a, cap, sp, rfl, h2, h3⟩, f⟩ := h
  exact ⟨a, cap, sp, h1, h2, h3, f⟩
set_option maxHeartbeats 8000000 in
theorem room_any (vr vl : Value) (t : Tab) (n : ByteArray) (w : World) (hT : TabV w vr vl t) (hl : t.recs.length ≤ 1000) : Calls Tryz.prog 114 #[tv vr vl t, .string n] w fun e w' => e = .returned (.int .i64 (roomC t n)) ∧ Frm [] w w' := by
  obtain ⟨av, ac, rfl⟩ := hT.1.form
  have hl9 : (t.recs.length : Int) ≤ 1000 := by omega
  have f0 : Frm [] w (w.alloc (.cells (tc (.slice av t.recs.length ac) vl t).toArray 27)) := (Frm.refl [] w).alloc _
  have HB := Lib.hid (TB.new w (.slice av t.recs.length ac) vl t)
  have HFI := Lib.hid (fun z (f : Frm [] w z) => find_any _ vl t n z (hT.keep0 f) hl)
  have F0 := Lib.hid f0
  have HR := Lib.hid (show roomC t n = orL [unl (!isF n t.recs) 7, unl (decide (t.recs.length < 16) && decide (t.next < 2147483648)) 8] from rfl)
  rw [tcA]
  generalize roomC t n = rcv at *
  clear f0 hT hl
  generalize (tc (.slice av t.recs.length ac) vl t).toArray = A at *
  go_enter Tryz.func114, Tryz.ntmps114
  go_upto_region 1 with (fail)
  generalize w.alloc (.cells A 27) = W at *
  have LA := Lib.hid HB.out.gets.all
  go_upto_region 2 with (first
    | ((with_reducible (show wpList _ _ _ (Oper.mk _ (Op.load 27 _) _ _ _ _ :: _) _ _)); refine wpList_load_g (by rfl) 27 _ rfl _ rfl LA.out ?_)
    | (go_at_call 99; refine (HFI.out _ F0.out).mono ?_; rintro r w1 hr; obtain ⟨ua, uc, us, rfl, uS, uh, g1⟩ := hr.own)
    | ((with_reducible (show wpList _ _ _ (Oper.mk _ (Op.alloc 56) _ _ _ _ :: _) _ _)); refine wpList_lay56 rfl rfl rfl (.tmp 5) (.tmp 11) rfl (v := .slice ua (fndR n t.recs).root.ads.length uc) rfl uh rfl rfl ?_))
  have G1 := Lib.hid (show Frm [] W (w1.alloc (.cells (rc (.slice ua (fndR n t.recs).root.ads.length uc) (fndR n t.recs)).toArray 56)) from g1.trans ((Frm.refl [] w1).alloc _) (by simp))
  clear g1 uS uh hr
  generalize w1.alloc (.cells (rc (.slice ua (fndR n t.recs).root.ads.length uc) (fndR n t.recs)).toArray 56) = V at *
  have HX := Lib.hid (fun z (f : Frm [] V z) => (HB.out.keep0 (G1.out.trans f (by simp))).gets)
  generalize isF n t.recs = fb at *
  by_cases h16 : t.recs.length < 16
  · have h9 : (t.recs.length : Int) < 16 := by omega
    rw [show decide (t.recs.length < 16) = true by simpa using h16, Bool.true_and] at HR
    clear h16
    refine wp_region_held_drew (S := fun z => Frm [] V z) (by kernel_rfl) ((Frm.refl [] V).drew) (fun hHeld => ?_)
    refine wpAnyH_take (i := 0) (oi := ⟨some 13, .move (.tmp 6), _, _, _, none⟩) (v := ?_) rfl (by kernel_rfl) (by kernel_rfl) (by kernel_rfl) (fun _ _ _ h => h) (Or.inl ⟨by rfl, ?_⟩) hHeld ?_
    rotate_left
    focus (intro z hSw; clear hSw; go_simp; try with_reducible rfl)
    try simp only [Act.put, List.setIfInBounds_toArray, List.set_cons_zero, List.set_cons_succ]
    refine wpAnyH_take (i := 1) (oi := ⟨some 14, .unOp .not 4 (.tmp 13), _, _, _, none⟩) (v := ?_) rfl (by kernel_rfl) (by kernel_rfl) (by kernel_rfl) (fun _ _ _ h => h) (Or.inl ⟨by rfl, ?_⟩) hHeld ?_
    rotate_left
    focus (intro z hSw; clear hSw; go_simp; try with_reducible rfl)
    try simp only [Act.put, List.setIfInBounds_toArray, List.set_cons_zero, List.set_cons_succ]
    refine wpAnyH_take (i := 3) (oi := ⟨some 16, .fieldAddr 27 (.tmp 2) 1, _, _, _, none⟩) (v := ?_) rfl (by kernel_rfl) (by kernel_rfl) (by kernel_rfl) (fun _ _ _ h => h) (Or.inl ⟨by rfl, ?_⟩) hHeld ?_
    rotate_left
    focus (intro z hSw; clear hSw; go_simp; try with_reducible rfl)
    try simp only [Act.put, List.setIfInBounds_toArray, List.set_cons_zero, List.set_cons_succ]
    refine wpAnyH_take (i := 4) (oi := ⟨some 17, .load 22 (.tmp 16), _, _, _, none⟩) (v := ?_) rfl (by kernel_rfl) (by kernel_rfl) (by kernel_rfl) (fun _ _ _ h => h) (Or.inl ⟨by rfl, ?_⟩) hHeld ?_
    rotate_left
    focus (intro z hSw; have q1 := (HX.out z hSw).recs; have q2 := (HX.out z hSw).next; clear hSw; go_simp; try with_reducible rfl)
    try simp only [Act.put, List.setIfInBounds_toArray, List.set_cons_zero, List.set_cons_succ]
    refine wpAnyH_take (i := 5) (oi := ⟨some 18, .call { callee := .builtin .len, args := #[.tmp 17], argTypes := #[22] }, _, _, _, none⟩) (v := ?_) rfl (by kernel_rfl) (by kernel_rfl) (by kernel_rfl) (fun _ _ _ h => h) (Or.inl ⟨by rfl, ?_⟩) hHeld ?_
    rotate_left
    focus (intro z hSw; clear hSw; go_simp; try with_reducible rfl)
    try simp only [Act.put, List.setIfInBounds_toArray, List.set_cons_zero, List.set_cons_succ]
    refine wpAnyH_take (i := 6) (oi := ⟨some 19, .binOp .lss 3 (.tmp 18) (.const (.int .i64 16)) 3, _, _, _, none⟩) (v := ?_) rfl (by kernel_rfl) (by kernel_rfl) (by kernel_rfl) (fun _ _ _ h => h) (Or.inl ⟨by rfl, ?_⟩) hHeld ?_
    rotate_left
    focus (intro z hSw; clear hSw; go_simp; try with_reducible rfl)
    try simp only [Act.put, List.setIfInBounds_toArray, List.set_cons_zero, List.set_cons_succ]
    refine wpAnyH_ready (rs := [2]) (by kernel_rfl) (by simp) ?_
    refine AllReadyH.cons (o := ⟨some 15, .call { callee := .value (.func 103), args := #[.tmp 14, .const (.int .i64 7)], argTypes := #[4, 32] }, _, _, _, none⟩) rfl (fun K hK => ?_) AllReadyH.nil
    go_simp
    refine (unless_any _ _ _).mono ?_
    rintro r wa ⟨rfl, rfl⟩
    refine hK.out _ _ ?_ (fun hNext => ?_)
    · exact hHeld
    clear hK K hHeld
    have hHeld := hNext
    clear hNext
    try simp only [Act.put, List.setIfInBounds_toArray, List.set_cons_zero, List.set_cons_succ]
    refine wpAnyH_take (i := 7) (oi := ⟨some 20, .move (.tmp 19), _, _, _, none⟩) (v := ?_) rfl (by kernel_rfl) (by kernel_rfl) (by kernel_rfl) (fun _ _ _ h => h) (Or.inl ⟨by rfl, ?_⟩) hHeld ?_
    rotate_left
    focus (intro z hSw; clear hSw; go_simp; try with_reducible rfl)
    try simp only [Act.put, List.setIfInBounds_toArray, List.set_cons_zero, List.set_cons_succ]
    refine wpAnyH_take (i := 8) (oi := ⟨some 21, .fieldAddr 27 (.tmp 2) 0, _, _, _, some (7, true)⟩) (v := ?_) rfl (by kernel_rfl) (by kernel_rfl) (by kernel_rfl) (fun _ _ _ h => h) (Or.inl ⟨by rfl, ?_⟩) hHeld ?_
    rotate_left
    focus (intro z hSw; clear hSw; go_simp; try with_reducible rfl)
    try simp only [Act.put, List.setIfInBounds_toArray, List.set_cons_zero, List.set_cons_succ]
    refine wpAnyH_take (i := 9) (oi := ⟨some 22, .load 3 (.tmp 21), _, _, _, some (7, true)⟩) (v := ?_) rfl (by kernel_rfl) (by kernel_rfl) (by kernel_rfl) (fun _ _ _ h => h) (Or.inl ⟨by rfl, ?_⟩) hHeld ?_
    rotate_left
    focus (intro z hSw; have q1 := (HX.out z hSw).recs; have q2 := (HX.out z hSw).next; clear hSw; go_simp; try with_reducible rfl)
    try simp only [Act.put, List.setIfInBounds_toArray, List.set_cons_zero, List.set_cons_succ]
    refine wpAnyH_take (i := 10) (oi := ⟨some 23, .binOp .lss 3 (.tmp 22) (.const (.int .i64 2147483648)) 3, _, _, _, some (7, true)⟩) (v := ?_) rfl (by kernel_rfl) (by kernel_rfl) (by kernel_rfl) (fun _ _ _ h => h) (Or.inl ⟨by rfl, ?_⟩) hHeld ?_
    rotate_left
    focus (intro z hSw; clear hSw; go_simp; try with_reducible rfl)
    try simp only [Act.put, List.setIfInBounds_toArray, List.set_cons_zero, List.set_cons_succ]
    refine wpAnyH_take (i := 11) (oi := ⟨some 24, .pick (.tmp 20) (.tmp 23) (.const (.bool false)), _, _, _, none⟩) (v := ?_) rfl (by kernel_rfl) (by kernel_rfl) (by kernel_rfl) (fun _ _ _ h => h) (Or.inl ⟨by rfl, ?_⟩) hHeld ?_
    rotate_left
    focus (intro z hSw; clear hSw; go_simp; try with_reducible rfl)
    try simp only [Act.put, List.setIfInBounds_toArray, List.set_cons_zero, List.set_cons_succ]
    refine wpAnyH_ready (rs := [12]) (by kernel_rfl) (by simp) ?_
    refine AllReadyH.cons (o := ⟨some 25, .call { callee := .value (.func 103), args := #[.tmp 24, .const (.int .i64 8)], argTypes := #[4, 32] }, _, _, _, none⟩) rfl (fun K hK => ?_) AllReadyH.nil
    go_simp
    refine (unless_any _ _ _).mono ?_
    rintro r wb ⟨rfl, rfl⟩
    refine hK.out _ _ ?_ (fun hNext => ?_)
    · exact hHeld
    clear hK K hHeld
    have hHeld := hNext
    clear hNext
    try simp only [Act.put, List.setIfInBounds_toArray, List.set_cons_zero, List.set_cons_succ]
    refine wpAnyH_ready (rs := [13]) (by kernel_rfl) (by simp) ?_
    refine AllReadyH.cons (o := ⟨some 26, .buildSlice 166 2 #[(0, .tmp 15), (1, .tmp 25)], _, _, _, none⟩) rfl (fun K hK => ?_) AllReadyH.nil
    refine step_err2 rfl (.tmp 15) (.tmp 25) rfl rfl rfl ?_
    intro v13 w13 s13 f13
    refine hK.out _ _ ?_ (fun hNext => ?_)
    · exact hHeld.trans f13 (by simp)
    clear hK K hHeld
    have hHeld := hNext
    clear hNext
    try simp only [Act.put, List.setIfInBounds_toArray, List.set_cons_zero, List.set_cons_succ]
    refine wpAnyH_ready (rs := [14]) (by kernel_rfl) (by simp) ?_
    refine AllReadyH.cons (o := ⟨some 27, .call { callee := .value (.func 100), args := #[.tmp 26], argTypes := #[166] }, _, _, _, none⟩) rfl (fun K hK => ?_) AllReadyH.nil
    go_simp
    refine (OrE_any _ _ _ _ s13 (by simp)).mono ?_
    rintro r wc ⟨rfl, rfl⟩
    refine hK.out _ _ ?_ (fun hNext => ?_)
    · exact hHeld
    clear hK K hHeld
    have hHeld := hNext
    clear hNext
    try simp only [Act.put, List.setIfInBounds_toArray, List.set_cons_zero, List.set_cons_succ]
    refine wpAnyH_take (i := 15) (oi := ⟨some 4, .assign (.tmp 27), _, _, _, none⟩) (v := ?_) rfl (by kernel_rfl) (by kernel_rfl) (by kernel_rfl) (fun _ _ _ h => h) (Or.inl ⟨by rfl, ?_⟩) hHeld ?_
    rotate_left
    focus (intro z hSw; clear hSw; go_simp; try with_reducible rfl)
    try simp only [Act.put, List.setIfInBounds_toArray, List.set_cons_zero, List.set_cons_succ]
    refine wpAnyH_done (by kernel_rfl) ?_ _
    go_wp2_with (fail)
    go_ret
    exact ⟨by rw [HR.out]; rfl, (F0.out.trans G1.out (by simp)).trans hHeld (by simp)⟩
  · have h9 : ¬ (t.recs.length : Int) < 16 := by omega
    rw [show decide (t.recs.length < 16) = false by simpa using h16, Bool.false_and] at HR
    clear h16
    refine wp_region_held_drew (S := fun z => Frm [] V z) (by kernel_rfl) ((Frm.refl [] V).drew) (fun hHeld => ?_)
    refine wpAnyH_take (i := 0) (oi := ⟨some 13, .move (.tmp 6), _, _, _, none⟩) (v := ?_) rfl (by kernel_rfl) (by kernel_rfl) (by kernel_rfl) (fun _ _ _ h => h) (Or.inl ⟨by rfl, ?_⟩) hHeld ?_
    rotate_left
    focus (intro z hSw; clear hSw; go_simp; try with_reducible rfl)
    try simp only [Act.put, List.setIfInBounds_toArray, List.set_cons_zero, List.set_cons_succ]
    refine wpAnyH_take (i := 1) (oi := ⟨some 14, .unOp .not 4 (.tmp 13), _, _, _, none⟩) (v := ?_) rfl (by kernel_rfl) (by kernel_rfl) (by kernel_rfl) (fun _ _ _ h => h) (Or.inl ⟨by rfl, ?_⟩) hHeld ?_
    rotate_left
    focus (intro z hSw; clear hSw; go_simp; try with_reducible rfl)
    try simp only [Act.put, List.setIfInBounds_toArray, List.set_cons_zero, List.set_cons_succ]
    refine wpAnyH_take (i := 3) (oi := ⟨some 16, .fieldAddr 27 (.tmp 2) 1, _, _, _, none⟩) (v := ?_) rfl (by kernel_rfl) (by kernel_rfl) (by kernel_rfl) (fun _ _ _ h => h) (Or.inl ⟨by rfl, ?_⟩) hHeld ?_
    rotate_left
    focus (intro z hSw; clear hSw; go_simp; try with_reducible rfl)
    try simp only [Act.put, List.setIfInBounds_toArray, List.set_cons_zero, List.set_cons_succ]
    refine wpAnyH_take (i := 4) (oi := ⟨some 17, .load 22 (.tmp 16), _, _, _, none⟩) (v := ?_) rfl (by kernel_rfl) (by kernel_rfl) (by kernel_rfl) (fun _ _ _ h => h) (Or.inl ⟨by rfl, ?_⟩) hHeld ?_
    rotate_left
    focus (intro z hSw; have q1 := (HX.out z hSw).recs; have q2 := (HX.out z hSw).next; clear hSw; go_simp; try with_reducible rfl)
    try simp only [Act.put, List.setIfInBounds_toArray, List.set_cons_zero, List.set_cons_succ]
    refine wpAnyH_take (i := 5) (oi := ⟨some 18, .call { callee := .builtin .len, args := #[.tmp 17], argTypes := #[22] }, _, _, _, none⟩) (v := ?_) rfl (by kernel_rfl) (by kernel_rfl) (by kernel_rfl) (fun _ _ _ h => h) (Or.inl ⟨by rfl, ?_⟩) hHeld ?_
    rotate_left
    focus (intro z hSw; clear hSw; go_simp; try with_reducible rfl)
    try simp only [Act.put, List.setIfInBounds_toArray, List.set_cons_zero, List.set_cons_succ]
    refine wpAnyH_take (i := 6) (oi := ⟨some 19, .binOp .lss 3 (.tmp 18) (.const (.int .i64 16)) 3, _, _, _, none⟩) (v := ?_) rfl (by kernel_rfl) (by kernel_rfl) (by kernel_rfl) (fun _ _ _ h => h) (Or.inl ⟨by rfl, ?_⟩) hHeld ?_
    rotate_left
    focus (intro z hSw; clear hSw; go_simp; try with_reducible rfl)
    try simp only [Act.put, List.setIfInBounds_toArray, List.set_cons_zero, List.set_cons_succ]
    refine wpAnyH_ready (rs := [2]) (by kernel_rfl) (by simp) ?_
    refine AllReadyH.cons (o := ⟨some 15, .call { callee := .value (.func 103), args := #[.tmp 14, .const (.int .i64 7)], argTypes := #[4, 32] }, _, _, _, none⟩) rfl (fun K hK => ?_) AllReadyH.nil
    go_simp
    refine (unless_any _ _ _).mono ?_
    rintro r wa ⟨rfl, rfl⟩
    refine hK.out _ _ ?_ (fun hNext => ?_)
    · exact hHeld
    clear hK K hHeld
    have hHeld := hNext
    clear hNext
    try simp only [Act.put, List.setIfInBounds_toArray, List.set_cons_zero, List.set_cons_succ]
    refine wpAnyH_take (i := 7) (oi := ⟨some 20, .move (.tmp 19), _, _, _, none⟩) (v := ?_) rfl (by kernel_rfl) (by kernel_rfl) (by kernel_rfl) (fun _ _ _ h => h) (Or.inl ⟨by rfl, ?_⟩) hHeld ?_
    rotate_left
    focus (intro z hSw; clear hSw; go_simp; try with_reducible rfl)
    try simp only [Act.put, List.setIfInBounds_toArray, List.set_cons_zero, List.set_cons_succ]
    refine wpAnyH_take (i := 8) (oi := ⟨some 21, .fieldAddr 27 (.tmp 2) 0, _, _, _, some (7, true)⟩) (v := undef) rfl (by kernel_rfl) (by kernel_rfl) (by kernel_rfl) (fun _ _ _ h => h) (Or.inr ⟨by rfl, rfl⟩) hHeld ?_
    try simp only [Act.put, List.setIfInBounds_toArray, List.set_cons_zero, List.set_cons_succ]
    refine wpAnyH_take (i := 9) (oi := ⟨some 22, .load 3 (.tmp 21), _, _, _, some (7, true)⟩) (v := undef) rfl (by kernel_rfl) (by kernel_rfl) (by kernel_rfl) (fun _ _ _ h => h) (Or.inr ⟨by rfl, rfl⟩) hHeld ?_
    try simp only [Act.put, List.setIfInBounds_toArray, List.set_cons_zero, List.set_cons_succ]
    refine wpAnyH_take (i := 10) (oi := ⟨some 23, .binOp .lss 3 (.tmp 22) (.const (.int .i64 2147483648)) 3, _, _, _, some (7, true)⟩) (v := undef) rfl (by kernel_rfl) (by kernel_rfl) (by kernel_rfl) (fun _ _ _ h => h) (Or.inr ⟨by rfl, rfl⟩) hHeld ?_
    try simp only [Act.put, List.setIfInBounds_toArray, List.set_cons_zero, List.set_cons_succ]
    refine wpAnyH_take (i := 11) (oi := ⟨some 24, .pick (.tmp 20) (.tmp 23) (.const (.bool false)), _, _, _, none⟩) (v := ?_) rfl (by kernel_rfl) (by kernel_rfl) (by kernel_rfl) (fun _ _ _ h => h) (Or.inl ⟨by rfl, ?_⟩) hHeld ?_
    rotate_left
    focus (intro z hSw; clear hSw; go_simp; try with_reducible rfl)
    try simp only [Act.put, List.setIfInBounds_toArray, List.set_cons_zero, List.set_cons_succ]
    refine wpAnyH_ready (rs := [12]) (by kernel_rfl) (by simp) ?_
    refine AllReadyH.cons (o := ⟨some 25, .call { callee := .value (.func 103), args := #[.tmp 24, .const (.int .i64 8)], argTypes := #[4, 32] }, _, _, _, none⟩) rfl (fun K hK => ?_) AllReadyH.nil
    go_simp
    refine (unless_any _ _ _).mono ?_
    rintro r wb ⟨rfl, rfl⟩
    refine hK.out _ _ ?_ (fun hNext => ?_)
    · exact hHeld
    clear hK K hHeld
    have hHeld := hNext
    clear hNext
    try simp only [Act.put, List.setIfInBounds_toArray, List.set_cons_zero, List.set_cons_succ]
    refine wpAnyH_ready (rs := [13]) (by kernel_rfl) (by simp) ?_
    refine AllReadyH.cons (o := ⟨some 26, .buildSlice 166 2 #[(0, .tmp 15), (1, .tmp 25)], _, _, _, none⟩) rfl (fun K hK => ?_) AllReadyH.nil
    refine step_err2 rfl (.tmp 15) (.tmp 25) rfl rfl rfl ?_
    intro v13 w13 s13 f13
    refine hK.out _ _ ?_ (fun hNext => ?_)
    · exact hHeld.trans f13 (by simp)
    clear hK K hHeld
    have hHeld := hNext
    clear hNext
    try simp only [Act.put, List.setIfInBounds_toArray, List.set_cons_zero, List.set_cons_succ]
    refine wpAnyH_ready (rs := [14]) (by kernel_rfl) (by simp) ?_
    refine AllReadyH.cons (o := ⟨some 27, .call { callee := .value (.func 100), args := #[.tmp 26], argTypes := #[166] }, _, _, _, none⟩) rfl (fun K hK => ?_) AllReadyH.nil
    go_simp
    refine (OrE_any _ _ _ _ s13 (by simp)).mono ?_
    rintro r wc ⟨rfl, rfl⟩
    refine hK.out _ _ ?_ (fun hNext => ?_)
    · exact hHeld
    clear hK K hHeld
    have hHeld := hNext
    clear hNext
    try simp only [Act.put, List.setIfInBounds_toArray, List.set_cons_zero, List.set_cons_succ]
    refine wpAnyH_take (i := 15) (oi := ⟨some 4, .assign (.tmp 27), _, _, _, none⟩) (v := ?_) rfl (by kernel_rfl) (by kernel_rfl) (by kernel_rfl) (fun _ _ _ h => h) (Or.inl ⟨by rfl, ?_⟩) hHeld ?_
    rotate_left
    focus (intro z hSw; clear hSw; go_simp; try with_reducible rfl)
    try simp only [Act.put, List.setIfInBounds_toArray, List.set_cons_zero, List.set_cons_succ]
    refine wpAnyH_done (by kernel_rfl) ?_ _
    go_wp2_with (fail)
    go_ret
    exact ⟨by rw [HR.out]; rfl, (F0.out.trans G1.out (by simp)).trans hHeld (by simp)⟩
def writeC (t : Tab) (n : ByteArray) (b : Bool) : Int := orL [mayC t (nameB n && b), unl (isF n t.recs) 6, unl ((fndR n t.recs).kind == 1) 18]
set_option maxHeartbeats 8000000 in
theorem mayWrite_any (vr vl : Value) (t : Tab) (n : ByteArray) (b : Bool) (w : World) (hT : TabV w vr vl t) (hf : FitT t) (hn : n.size ≤ 1000) : Calls Tryz.prog 106 #[tv vr vl t, .string n, .bool b] w fun e w' => e = .returned (.int .i64 (writeC t n b)) ∧ Frm [] w w' := by
  have f0 : Frm [] w (w.alloc (.cells (tc vr vl t).toArray 27)) := (Frm.refl [] w).alloc _
  have HB := Lib.hid (TB.new w vr vl t)
  have HFI := Lib.hid (fun z (f : Frm [] w z) => find_any vr vl t n z (hT.keep0 f) hf.recs)
  have HMY := Lib.hid (fun z b (f : Frm [] w z) => may_any vr vl t b z (hT.keep0 f) hf)
  have HNM := Lib.hid (fun z => mayName_any n hn z)
  have F0 := Lib.hid f0
  have HR := Lib.hid (show writeC t n b = orL [mayC t (nameB n && b), unl (isF n t.recs) 6, unl ((fndR n t.recs).kind == 1) 18] from rfl)
  rw [tcA]
  generalize writeC t n b = wcv at *
  clear f0 hT hf
  generalize (tc vr vl t).toArray = A at *
  go_enter Tryz.func106, Tryz.ntmps106
  go_upto_region 1 with (fail)
  generalize w.alloc (.cells A 27) = W at *
  have LA := Lib.hid (fun z (f : Frm [] W z) => (HB.out.keep0 f).gets.all)
  go_upto_region 2 with (first
    | ((with_reducible (show wpList _ _ _ (Oper.mk _ (Op.load 27 _) _ _ _ _ :: _) _ _)); refine wpList_load_g (by rfl) 27 _ rfl _ rfl (LA.out _ (Frm.refl [] _)) ?_)
    | (go_at_call 99; refine (HFI.out _ F0.out).mono ?_; rintro r w1 hr; obtain ⟨ua, uc, us, rfl, uS, uh, g1⟩ := hr.own)
    | ((with_reducible (show wpList _ _ _ (Oper.mk _ (Op.alloc 56) _ _ _ _ :: _) _ _)); refine wpList_lay56 rfl rfl rfl (.tmp 7) (.tmp 13) rfl (v := .slice ua (fndR n t.recs).root.ads.length uc) rfl uh rfl rfl ?_))
  have G1 := Lib.hid (show Frm [] W (w1.alloc (.cells (rc (.slice ua (fndR n t.recs).root.ads.length uc) (fndR n t.recs)).toArray 56)) from g1.trans ((Frm.refl [] w1).alloc _) (by simp))
  have XB := Lib.hid (RB.new (w := w1) (v := .slice ua (fndR n t.recs).root.ads.length uc) uh)
  clear g1 uS uh hr
  generalize w1.alloc (.cells (rc (.slice ua (fndR n t.recs).root.ads.length uc) (fndR n t.recs)).toArray 56) = V at *
  have HX := Lib.hid (fun z (f : Frm [] V z) => (XB.out.keep0 f).gets)
  have LV := Lib.hid (fun z (f : Frm [] V z) => LA.out z (G1.out.trans f (by simp)))
  have FV := Lib.hid (F0.out.trans G1.out (by simp))
  generalize isF n t.recs = fb at *
  generalize fndR n t.recs = x at *
  cases hnb : nameB n with
  | true =>
    rw [hnb] at HNM
    rw [hnb, Bool.true_and] at HR
    clear hnb
    refine wp_region_held_drew (S := fun z => Frm [] V z) (by kernel_rfl) ((Frm.refl [] V).drew) (fun hHeld => ?_)
    refine wpAnyH_take (i := 0) (oi := ⟨some 15, .load 27 (.tmp 3), _, _, _, none⟩) rfl (by kernel_rfl) (by kernel_rfl) (by kernel_rfl) (fun _ _ _ h => h) (yieldsIf_ld (by rfl) 27 _ rfl _ rfl (fun z hSw => LV.out z hSw)) hHeld ?_
    try simp only [Act.put, List.setIfInBounds_toArray, List.set_cons_zero, List.set_cons_succ]
    refine wpAnyH_take (i := 1) (oi := ⟨some 16, .move (.tmp 1), _, _, _, none⟩) (v := ?_) rfl (by kernel_rfl) (by kernel_rfl) (by kernel_rfl) (fun _ _ _ h => h) (Or.inl ⟨by rfl, ?_⟩) hHeld ?_
    rotate_left
    focus (intro z hSw; clear hSw; go_simp; try with_reducible rfl)
    try simp only [Act.put, List.setIfInBounds_toArray, List.set_cons_zero, List.set_cons_succ]
    refine wpAnyH_take (i := 7) (oi := ⟨some 22, .move (.tmp 8), _, _, _, none⟩) (v := ?_) rfl (by kernel_rfl) (by kernel_rfl) (by kernel_rfl) (fun _ _ _ h => h) (Or.inl ⟨by rfl, ?_⟩) hHeld ?_
    rotate_left
    focus (intro z hSw; clear hSw; go_simp; try with_reducible rfl)
    try simp only [Act.put, List.setIfInBounds_toArray, List.set_cons_zero, List.set_cons_succ]
    refine wpAnyH_take (i := 9) (oi := ⟨some 24, .fieldAddr 56 (.tmp 7) 2, _, _, _, none⟩) (v := ?_) rfl (by kernel_rfl) (by kernel_rfl) (by kernel_rfl) (fun _ _ _ h => h) (Or.inl ⟨by rfl, ?_⟩) hHeld ?_
    rotate_left
    focus (intro z hSw; clear hSw; go_simp; try with_reducible rfl)
    try simp only [Act.put, List.setIfInBounds_toArray, List.set_cons_zero, List.set_cons_succ]
    refine wpAnyH_take (i := 10) (oi := ⟨some 25, .load 3 (.tmp 24), _, _, _, none⟩) (v := ?_) rfl (by kernel_rfl) (by kernel_rfl) (by kernel_rfl) (fun _ _ _ h => h) (Or.inl ⟨by rfl, ?_⟩) hHeld ?_
    rotate_left
    focus (intro z hSw; have q1 := (HX.out z hSw).kind; clear hSw; go_simp; try with_reducible rfl)
    try simp only [Act.put, List.setIfInBounds_toArray, List.set_cons_zero, List.set_cons_succ]
    refine wpAnyH_take (i := 11) (oi := ⟨some 26, .binOp .eql 3 (.tmp 25) (.const (.int .i64 1)) 3, _, _, _, none⟩) (v := ?_) rfl (by kernel_rfl) (by kernel_rfl) (by kernel_rfl) (fun _ _ _ h => h) (Or.inl ⟨by rfl, ?_⟩) hHeld ?_
    rotate_left
    focus (intro z hSw; clear hSw; go_simp; try with_reducible rfl)
    try simp only [Act.put, List.setIfInBounds_toArray, List.set_cons_zero, List.set_cons_succ]
    refine wpAnyH_ready (rs := [2]) (by kernel_rfl) (by simp) ?_
    refine AllReadyH.cons (o := ⟨some 17, .call { callee := .value (.func 123), args := #[.tmp 16], argTypes := #[9] }, _, _, _, none⟩) rfl (fun K hK => ?_) AllReadyH.nil
    go_simp
    refine (HNM.out _).mono ?_
    rintro r wn ⟨rfl, fn⟩
    refine hK.out _ _ ?_ (fun hNext => ?_)
    · exact hHeld.trans fn (by simp)
    clear hK K hHeld
    have hHeld := hNext
    clear hNext
    try simp only [Act.put, List.setIfInBounds_toArray, List.set_cons_zero, List.set_cons_succ]
    refine wpAnyH_take (i := 3) (oi := ⟨some 18, .move (.tmp 17), _, _, _, none⟩) (v := ?_) rfl (by kernel_rfl) (by kernel_rfl) (by kernel_rfl) (fun _ _ _ h => h) (Or.inl ⟨by rfl, ?_⟩) hHeld ?_
    rotate_left
    focus (intro z hSw; clear hSw; go_simp; try with_reducible rfl)
    try simp only [Act.put, List.setIfInBounds_toArray, List.set_cons_zero, List.set_cons_succ]
    refine wpAnyH_take (i := 4) (oi := ⟨some 19, .move (.tmp 2), _, _, _, some (3, true)⟩) (v := ?_) rfl (by kernel_rfl) (by kernel_rfl) (by kernel_rfl) (fun _ _ _ h => h) (Or.inl ⟨by rfl, ?_⟩) hHeld ?_
    rotate_left
    focus (intro z hSw; clear hSw; go_simp; try with_reducible rfl)
    try simp only [Act.put, List.setIfInBounds_toArray, List.set_cons_zero, List.set_cons_succ]
    refine wpAnyH_take (i := 5) (oi := ⟨some 20, .pick (.tmp 18) (.tmp 19) (.const (.bool false)), _, _, _, none⟩) (v := ?_) rfl (by kernel_rfl) (by kernel_rfl) (by kernel_rfl) (fun _ _ _ h => h) (Or.inl ⟨by rfl, ?_⟩) hHeld ?_
    rotate_left
    focus (intro z hSw; clear hSw; go_simp; try with_reducible rfl)
    try simp only [Act.put, List.setIfInBounds_toArray, List.set_cons_zero, List.set_cons_succ]
    refine wpAnyH_ready (rs := [6]) (by kernel_rfl) (by simp) ?_
    refine AllReadyH.cons (o := ⟨some 21, .call { callee := .value (.func 101), args := #[.tmp 15, .tmp 20], argTypes := #[27, 4] }, _, _, _, none⟩) rfl (fun K hK => ?_) AllReadyH.nil
    go_simp
    refine (HMY.out _ b (FV.out.trans hHeld (by simp))).mono ?_
    rintro r wm ⟨rfl, fm⟩
    refine hK.out _ _ ?_ (fun hNext => ?_)
    · exact hHeld.trans fm (by simp)
    clear hK K hHeld
    have hHeld := hNext
    clear hNext
    try simp only [Act.put, List.setIfInBounds_toArray, List.set_cons_zero, List.set_cons_succ]
    refine wpAnyH_ready (rs := [8]) (by kernel_rfl) (by simp) ?_
    refine AllReadyH.cons (o := ⟨some 23, .call { callee := .value (.func 103), args := #[.tmp 22, .const (.int .i64 6)], argTypes := #[4, 32] }, _, _, _, none⟩) rfl (fun K hK => ?_) AllReadyH.nil
    go_simp
    refine (unless_any _ _ _).mono ?_
    rintro r wa ⟨rfl, rfl⟩
    refine hK.out _ _ ?_ (fun hNext => ?_)
    · exact hHeld
    clear hK K hHeld
    have hHeld := hNext
    clear hNext
    try simp only [Act.put, List.setIfInBounds_toArray, List.set_cons_zero, List.set_cons_succ]
    refine wpAnyH_ready (rs := [12]) (by kernel_rfl) (by simp) ?_
    refine AllReadyH.cons (o := ⟨some 27, .call { callee := .value (.func 103), args := #[.tmp 26, .const (.int .i64 18)], argTypes := #[4, 32] }, _, _, _, none⟩) rfl (fun K hK => ?_) AllReadyH.nil
    go_simp
    refine (unless_any _ _ _).mono ?_
    rintro r wb ⟨rfl, rfl⟩
    refine hK.out _ _ ?_ (fun hNext => ?_)
    · exact hHeld
    clear hK K hHeld
    have hHeld := hNext
    clear hNext
    try simp only [Act.put, List.setIfInBounds_toArray, List.set_cons_zero, List.set_cons_succ]
    refine wpAnyH_ready (rs := [13]) (by kernel_rfl) (by simp) ?_
    refine AllReadyH.cons (o := ⟨some 28, .buildSlice 166 3 #[(0, .tmp 21), (1, .tmp 23), (2, .tmp 27)], _, _, _, none⟩) rfl (fun K hK => ?_) AllReadyH.nil
    refine step_err3 rfl (.tmp 21) (.tmp 23) (.tmp 27) rfl rfl rfl rfl ?_
    intro v13 w13 s13 f13
    refine hK.out _ _ ?_ (fun hNext => ?_)
    · exact hHeld.trans f13 (by simp)
    clear hK K hHeld
    have hHeld := hNext
    clear hNext
    try simp only [Act.put, List.setIfInBounds_toArray, List.set_cons_zero, List.set_cons_succ]
    refine wpAnyH_ready (rs := [14]) (by kernel_rfl) (by simp) ?_
    refine AllReadyH.cons (o := ⟨some 29, .call { callee := .value (.func 100), args := #[.tmp 28], argTypes := #[166] }, _, _, _, none⟩) rfl (fun K hK => ?_) AllReadyH.nil
    go_simp
    refine (OrE_any _ _ _ _ s13 (by simp)).mono ?_
    rintro r wc ⟨rfl, rfl⟩
    refine hK.out _ _ ?_ (fun hNext => ?_)
    · exact hHeld
    clear hK K hHeld
    have hHeld := hNext
    clear hNext
    try simp only [Act.put, List.setIfInBounds_toArray, List.set_cons_zero, List.set_cons_succ]
    refine wpAnyH_take (i := 15) (oi := ⟨some 6, .assign (.tmp 29), _, _, _, none⟩) (v := ?_) rfl (by kernel_rfl) (by kernel_rfl) (by kernel_rfl) (fun _ _ _ h => h) (Or.inl ⟨by rfl, ?_⟩) hHeld ?_
    rotate_left
    focus (intro z hSw; clear hSw; go_simp; try with_reducible rfl)
    try simp only [Act.put, List.setIfInBounds_toArray, List.set_cons_zero, List.set_cons_succ]
    refine wpAnyH_done (by kernel_rfl) ?_ _
    go_wp2_with (fail)
    go_ret
    exact ⟨by rw [HR.out]; rfl, FV.out.trans hHeld (by simp)⟩
  | false =>
    rw [hnb] at HNM
    rw [hnb, Bool.false_and] at HR
    clear hnb
    refine wp_region_held_drew (S := fun z => Frm [] V z) (by kernel_rfl) ((Frm.refl [] V).drew) (fun hHeld => ?_)
    refine wpAnyH_take (i := 0) (oi := ⟨some 15, .load 27 (.tmp 3), _, _, _, none⟩) rfl (by kernel_rfl) (by kernel_rfl) (by kernel_rfl) (fun _ _ _ h => h) (yieldsIf_ld (by rfl) 27 _ rfl _ rfl (fun z hSw => LV.out z hSw)) hHeld ?_
    try simp only [Act.put, List.setIfInBounds_toArray, List.set_cons_zero, List.set_cons_succ]
    refine wpAnyH_take (i := 1) (oi := ⟨some 16, .move (.tmp 1), _, _, _, none⟩) (v := ?_) rfl (by kernel_rfl) (by kernel_rfl) (by kernel_rfl) (fun _ _ _ h => h) (Or.inl ⟨by rfl, ?_⟩) hHeld ?_
    rotate_left
    focus (intro z hSw; clear hSw; go_simp; try with_reducible rfl)
    try simp only [Act.put, List.setIfInBounds_toArray, List.set_cons_zero, List.set_cons_succ]
    refine wpAnyH_take (i := 7) (oi := ⟨some 22, .move (.tmp 8), _, _, _, none⟩) (v := ?_) rfl (by kernel_rfl) (by kernel_rfl) (by kernel_rfl) (fun _ _ _ h => h) (Or.inl ⟨by rfl, ?_⟩) hHeld ?_
    rotate_left
    focus (intro z hSw; clear hSw; go_simp; try with_reducible rfl)
    try simp only [Act.put, List.setIfInBounds_toArray, List.set_cons_zero, List.set_cons_succ]
    refine wpAnyH_take (i := 9) (oi := ⟨some 24, .fieldAddr 56 (.tmp 7) 2, _, _, _, none⟩) (v := ?_) rfl (by kernel_rfl) (by kernel_rfl) (by kernel_rfl) (fun _ _ _ h => h) (Or.inl ⟨by rfl, ?_⟩) hHeld ?_
    rotate_left
    focus (intro z hSw; clear hSw; go_simp; try with_reducible rfl)
    try simp only [Act.put, List.setIfInBounds_toArray, List.set_cons_zero, List.set_cons_succ]
    refine wpAnyH_take (i := 10) (oi := ⟨some 25, .load 3 (.tmp 24), _, _, _, none⟩) (v := ?_) rfl (by kernel_rfl) (by kernel_rfl) (by kernel_rfl) (fun _ _ _ h => h) (Or.inl ⟨by rfl, ?_⟩) hHeld ?_
    rotate_left
    focus (intro z hSw; have q1 := (HX.out z hSw).kind; clear hSw; go_simp; try with_reducible rfl)
    try simp only [Act.put, List.setIfInBounds_toArray, List.set_cons_zero, List.set_cons_succ]
    refine wpAnyH_take (i := 11) (oi := ⟨some 26, .binOp .eql 3 (.tmp 25) (.const (.int .i64 1)) 3, _, _, _, none⟩) (v := ?_) rfl (by kernel_rfl) (by kernel_rfl) (by kernel_rfl) (fun _ _ _ h => h) (Or.inl ⟨by rfl, ?_⟩) hHeld ?_
    rotate_left
    focus (intro z hSw; clear hSw; go_simp; try with_reducible rfl)
    try simp only [Act.put, List.setIfInBounds_toArray, List.set_cons_zero, List.set_cons_succ]
    refine wpAnyH_ready (rs := [2]) (by kernel_rfl) (by simp) ?_
    refine AllReadyH.cons (o := ⟨some 17, .call { callee := .value (.func 123), args := #[.tmp 16], argTypes := #[9] }, _, _, _, none⟩) rfl (fun K hK => ?_) AllReadyH.nil
    go_simp
    refine (HNM.out _).mono ?_
    rintro r wn ⟨rfl, fn⟩
    refine hK.out _ _ ?_ (fun hNext => ?_)
    · exact hHeld.trans fn (by simp)
    clear hK K hHeld
    have hHeld := hNext
    clear hNext
    try simp only [Act.put, List.setIfInBounds_toArray, List.set_cons_zero, List.set_cons_succ]
    refine wpAnyH_take (i := 3) (oi := ⟨some 18, .move (.tmp 17), _, _, _, none⟩) (v := ?_) rfl (by kernel_rfl) (by kernel_rfl) (by kernel_rfl) (fun _ _ _ h => h) (Or.inl ⟨by rfl, ?_⟩) hHeld ?_
    rotate_left
    focus (intro z hSw; clear hSw; go_simp; try with_reducible rfl)
    try simp only [Act.put, List.setIfInBounds_toArray, List.set_cons_zero, List.set_cons_succ]
    refine wpAnyH_take (i := 4) (oi := ⟨some 19, .move (.tmp 2), _, _, _, some (3, true)⟩) (v := undef) rfl (by kernel_rfl) (by kernel_rfl) (by kernel_rfl) (fun _ _ _ h => h) (Or.inr ⟨by rfl, rfl⟩) hHeld ?_
    try simp only [Act.put, List.setIfInBounds_toArray, List.set_cons_zero, List.set_cons_succ]
    refine wpAnyH_take (i := 5) (oi := ⟨some 20, .pick (.tmp 18) (.tmp 19) (.const (.bool false)), _, _, _, none⟩) (v := ?_) rfl (by kernel_rfl) (by kernel_rfl) (by kernel_rfl) (fun _ _ _ h => h) (Or.inl ⟨by rfl, ?_⟩) hHeld ?_
    rotate_left
    focus (intro z hSw; clear hSw; go_simp; try with_reducible rfl)
    try simp only [Act.put, List.setIfInBounds_toArray, List.set_cons_zero, List.set_cons_succ]
    refine wpAnyH_ready (rs := [6]) (by kernel_rfl) (by simp) ?_
    refine AllReadyH.cons (o := ⟨some 21, .call { callee := .value (.func 101), args := #[.tmp 15, .tmp 20], argTypes := #[27, 4] }, _, _, _, none⟩) rfl (fun K hK => ?_) AllReadyH.nil
    go_simp
    refine (HMY.out _ false (FV.out.trans hHeld (by simp))).mono ?_
    rintro r wm ⟨rfl, fm⟩
    refine hK.out _ _ ?_ (fun hNext => ?_)
    · exact hHeld.trans fm (by simp)
    clear hK K hHeld
    have hHeld := hNext
    clear hNext
    try simp only [Act.put, List.setIfInBounds_toArray, List.set_cons_zero, List.set_cons_succ]
    refine wpAnyH_ready (rs := [8]) (by kernel_rfl) (by simp) ?_
    refine AllReadyH.cons (o := ⟨some 23, .call { callee := .value (.func 103), args := #[.tmp 22, .const (.int .i64 6)], argTypes := #[4, 32] }, _, _, _, none⟩) rfl (fun K hK => ?_) AllReadyH.nil
    go_simp
    refine (unless_any _ _ _).mono ?_
    rintro r wa ⟨rfl, rfl⟩
    refine hK.out _ _ ?_ (fun hNext => ?_)
    · exact hHeld
    clear hK K hHeld
    have hHeld := hNext
    clear hNext
    try simp only [Act.put, List.setIfInBounds_toArray, List.set_cons_zero, List.set_cons_succ]
    refine wpAnyH_ready (rs := [12]) (by kernel_rfl) (by simp) ?_
    refine AllReadyH.cons (o := ⟨some 27, .call { callee := .value (.func 103), args := #[.tmp 26, .const (.int .i64 18)], argTypes := #[4, 32] }, _, _, _, none⟩) rfl (fun K hK => ?_) AllReadyH.nil
    go_simp
    refine (unless_any _ _ _).mono ?_
    rintro r wb ⟨rfl, rfl⟩
    refine hK.out _ _ ?_ (fun hNext => ?_)
    · exact hHeld
    clear hK K hHeld
    have hHeld := hNext
    clear hNext
    try simp only [Act.put, List.setIfInBounds_toArray, List.set_cons_zero, List.set_cons_succ]
    refine wpAnyH_ready (rs := [13]) (by kernel_rfl) (by simp) ?_
    refine AllReadyH.cons (o := ⟨some 28, .buildSlice 166 3 #[(0, .tmp 21), (1, .tmp 23), (2, .tmp 27)], _, _, _, none⟩) rfl (fun K hK => ?_) AllReadyH.nil
    refine step_err3 rfl (.tmp 21) (.tmp 23) (.tmp 27) rfl rfl rfl rfl ?_
    intro v13 w13 s13 f13
    refine hK.out _ _ ?_ (fun hNext => ?_)
    · exact hHeld.trans f13 (by simp)
    clear hK K hHeld
    have hHeld := hNext
    clear hNext
    try simp only [Act.put, List.setIfInBounds_toArray, List.set_cons_zero, List.set_cons_succ]
    refine wpAnyH_ready (rs := [14]) (by kernel_rfl) (by simp) ?_
    refine AllReadyH.cons (o := ⟨some 29, .call { callee := .value (.func 100), args := #[.tmp 28], argTypes := #[166] }, _, _, _, none⟩) rfl (fun K hK => ?_) AllReadyH.nil
    go_simp
    refine (OrE_any _ _ _ _ s13 (by simp)).mono ?_
    rintro r wc ⟨rfl, rfl⟩
    refine hK.out _ _ ?_ (fun hNext => ?_)
    · exact hHeld
    clear hK K hHeld
    have hHeld := hNext
    clear hNext
    try simp only [Act.put, List.setIfInBounds_toArray, List.set_cons_zero, List.set_cons_succ]
    refine wpAnyH_take (i := 15) (oi := ⟨some 6, .assign (.tmp 29), _, _, _, none⟩) (v := ?_) rfl (by kernel_rfl) (by kernel_rfl) (by kernel_rfl) (fun _ _ _ h => h) (Or.inl ⟨by rfl, ?_⟩) hHeld ?_
    rotate_left
    focus (intro z hSw; clear hSw; go_simp; try with_reducible rfl)
    try simp only [Act.put, List.setIfInBounds_toArray, List.set_cons_zero, List.set_cons_succ]
    refine wpAnyH_done (by kernel_rfl) ?_ _
    go_wp2_with (fail)
    go_ret
    exact ⟨by rw [HR.out]; rfl, FV.out.trans hHeld (by simp)⟩
def rootD (p : Pt) : Bool := Pt.hole p || (Pt.chk p == 0 && p.l == 3)
end Go.Proofs.YtljhanhipmnioaaGreat.Rd

namespace Go.Proofs.YtljhanhipmnioaaGreat.Rd
open Go.RowKit
set_option linter.unusedVariables false
set_option linter.unusedSimpArgs false
set_option maxRecDepth 100000

open Pt (Pt may enc zeroPt be4 be1 pc pv PtV SlA OwnA BT wpList_load_g heap_alloc_at Ext Grew yieldsIf_ld)
open Kr (OwnE SlE Enco RowTys)

set_option maxHeartbeats 4000000 in
theorem mayRoot_any (x : Value) (p : Pt) (w : World) (hp : PtV w x p) (hl : p.ads.length ≤ 1000000) : Calls Tryz.prog 120 #[x] w fun e w' => e = .returned (.bool (rootD p)) ∧ Frm [] w w' := by
  obtain ⟨a, cap, sp, rfl, hS, hs⟩ := hp
  have hA0 : pv (.slice a p.ads.length cap) p.b p.l p.s = .agg (pc (.slice a p.ads.length cap) p.b p.l p.s).toArray := rfl
  have f0 : Frm [] w (w.alloc (.cells (pc (.slice a p.ads.length cap) p.b p.l p.s).toArray 54)) := (Frm.refl [] w).alloc _
  have hb := Pt.PB.new w (.slice a p.ads.length cap) p.b p.l p.s
  have HH := Lib.hid (fun z (f : Frm [] w z) => Pt.Hole_any _ p z ⟨a, cap, sp, rfl, hS.keep f (by simp), hs⟩ hl)
  have HK := Lib.hid (fun z (f : Frm [] w z) => Pt.Check_any _ p z ⟨a, cap, sp, rfl, hS.keep f (by simp), hs⟩ hl)
  have F0 := Lib.hid f0
  have GA := Lib.hid (fun z (f : Frm [] (w.alloc (.cells (pc (.slice a p.ads.length cap) p.b p.l p.s).toArray 54)) z) => (Pt.PB.keep hb f (by simp)).gets hs)
  have HR := Lib.hid (show rootD p = (Pt.hole p || (Pt.chk p == 0 && p.l == 3)) from rfl)
  generalize rootD p = rd at *
  generalize Pt.chk p = ck at *
  rw [hA0]
  clear f0 hb hS hl hA0
  generalize hA : (pc (.slice a p.ads.length cap) p.b p.l p.s).toArray = A at *
  clear hA
  go_enter Tryz.func120, Tryz.ntmps120
  go_upto_region 1 with (fail)
  generalize w.alloc (.cells A 54) = W at *
  cases hh : Pt.hole p with
  | true =>
    rw [hh] at HH
    rw [hh, Bool.true_or] at HR
    clear hh
    go_wp2_with (first
      | ((with_reducible (show wpList _ _ _ (Oper.mk _ (Op.load 54 _) _ _ _ _ :: _) _ _)); refine wpList_load_g (by rfl) 54 _ rfl _ rfl (GA.out _ (Frm.refl [] _)).all ?_)
      | (go_at_call 184; refine (HH.out _ F0.out).mono ?_; rintro r w1 ⟨rfl, f1⟩))
    go_ret
    exact ⟨by rw [HR.out]; rfl, F0.out.trans f1 (by simp)⟩
  | false =>
    rw [hh] at HH
    rw [hh, Bool.false_or] at HR
    clear hh
    by_cases hc : ck = 0
    · subst hc
      have HR2 := Lib.hid (show rd = (p.l == 3) by rw [HR.out]; simp)
      go_wp2_with (first
        | ((with_reducible (show wpList _ _ _ (Oper.mk (some 3) (Op.load 54 _) _ _ _ _ :: _) _ _)); refine wpList_load_g (by rfl) 54 _ rfl _ rfl (GA.out _ (Frm.refl [] _)).all ?_)
        | ((with_reducible (show wpList _ _ _ (Oper.mk (some 6) (Op.load 54 _) _ _ _ _ :: _) _ _)); refine wpList_load_g (by rfl) 54 _ rfl _ rfl (GA.out _ f1).all ?_)
        | (go_at_call 184; refine (HH.out _ F0.out).mono ?_; rintro r w1 ⟨rfl, f1⟩)
        | (go_at_call 185; refine (HK.out _ (F0.out.trans f1 (by simp))).mono ?_; rintro r w2 ⟨rfl, f2⟩; have q2 := (GA.out _ (f1.trans f2 (by simp))).c2))
      go_ret
      exact ⟨by rw [HR2.out]; rfl, (F0.out.trans f1 (by simp)).trans f2 (by simp)⟩
    · have hc9 : (ck == 0) = false := by simpa using hc
      have HR2 := Lib.hid (show rd = false by rw [HR.out, hc9]; rfl)
      clear hc
      go_wp2_with (first
        | ((with_reducible (show wpList _ _ _ (Oper.mk (some 3) (Op.load 54 _) _ _ _ _ :: _) _ _)); refine wpList_load_g (by rfl) 54 _ rfl _ rfl (GA.out _ (Frm.refl [] _)).all ?_)
        | ((with_reducible (show wpList _ _ _ (Oper.mk (some 6) (Op.load 54 _) _ _ _ _ :: _) _ _)); refine wpList_load_g (by rfl) 54 _ rfl _ rfl (GA.out _ f1).all ?_)
        | (go_at_call 184; refine (HH.out _ F0.out).mono ?_; rintro r w1 ⟨rfl, f1⟩)
        | (go_at_call 185; refine (HK.out _ (F0.out.trans f1 (by simp))).mono ?_; rintro r w2 ⟨rfl, f2⟩))
      go_ret
      exact ⟨by rw [HR2.out]; rfl, (F0.out.trans f1 (by simp)).trans f2 (by simp)⟩
/-- May a record of one name get the other? -/
def followB (n m : ByteArray) : Bool := (partS n && partS m) || (snapS n && (snapS m && ((spl1 n).toList == (spl1 m).toList)))
set_option maxHeartbeats 4000000 in
theorem mayFollow_any (n m : ByteArray) (hn : n.size ≤ 1000) (hm : m.size ≤ 1000) (w : World) : Calls Tryz.prog 102 #[.string n, .string m] w fun e w' => e = .returned (.bool (followB n m)) ∧ Frm [] w w' := by
  have HSn := Lib.hid (Split_any n hn w)
  have HSm := Lib.hid (fun z => Split_any m hm z)
  have HVn := Lib.hid (fun z => Volume_any n z)
  have HVm := Lib.hid (fun z => Volume_any m z)
  unfold SplE at HSn HSm
  have HR := Lib.hid (show followB n m = ((partS n && partS m) || (snapS n && (snapS m && ((spl1 n).toList == (spl1 m).toList)))) from rfl)
  generalize followB n m = fb at *
  generalize partS n = p1 at *
  generalize partS m = p2 at *
  generalize snapS n = s1 at *
  generalize snapS m = s2 at *
  generalize spl1 n = a1 at *
  generalize spl1 m = a2 at *
  generalize spl2 n = b1 at *
  generalize spl2 m = b2 at *
  go_enter Tryz.func102, Tryz.ntmps102
  cases p1 <;> cases p2 <;> cases s1 <;> cases s2
  all_goals
    (go_wp2_with (first
      | (go_at_call 116; first | ((with_reducible refine HSn.out.mono ?_); rintro r w1 ⟨rfl, f1⟩) | ((with_reducible refine (HSm.out _).mono ?_); rintro r w2 ⟨rfl, f2⟩))
      | (go_at_call 112; first | ((with_reducible refine (HVn.out _).mono ?_); rintro r w3 ⟨rfl, f3⟩) | ((with_reducible refine (HVm.out _).mono ?_); rintro r w4 ⟨rfl, f4⟩)))
     go_ret
     first
      | exact ⟨by rw [HR.out]; rfl, ((f1.trans f2 (by simp)).trans f3 (by simp)).trans f4 (by simp)⟩
      | exact ⟨by rw [HR.out]; rfl, (f1.trans f2 (by simp)).trans f3 (by simp)⟩
      | exact ⟨by rw [HR.out]; simp, ((f1.trans f2 (by simp)).trans f3 (by simp)).trans f4 (by simp)⟩
      | exact ⟨by rw [HR.out]; simp, (f1.trans f2 (by simp)).trans f3 (by simp)⟩)
def newT (d : Int) : Tab := ⟨1, [], zeroC, List.replicate d.toNat 0⟩
/-- What a call tells: a table of its own, or an error. -/
def TellE (r : Tab × Int) (w : World) (e : Ending) (w' : World) : Prop := ∃ vr vl, e = .returned (.tuple #[tv vr vl r.1, .int .i64 r.2]) ∧ OwnTb w w' vr vl r.1 ∧ Frm [] w w'
theorem OwnTb.zero (w0 w : World) (h : w0.heap.size ≤ w.heap.size) : OwnTb w0 w nilS nilS zeroT := ⟨[], [], [], (Tl.nil w).base h, OwnE.nil _ _ _ _, by simp [nilS, blk]⟩
def newC (d : Int) : Tab × Int := if wi d 2 8 = true then (newT d, 0) else (zeroT, 2)
end Go.Proofs.YtljhanhipmnioaaGreat.Rd

namespace Go.Proofs.YtljhanhipmnioaaGreat.Pt
open Go.RowKit
set_option linter.unusedVariables false
set_option linter.unusedSimpArgs false
set_option maxRecDepth 100000


/-- A list of addresses of its own. -/
def ClA (l : List Ad) (w : World) (e : Ending) (w' : World) : Prop := ∃ a cap sp, e = .returned (.slice a l.length cap) ∧ OwnA 148 w' (.slice a l.length cap) l sp ∧ Frm [] w w' ∧ ∀ i ∈ blk (.slice a l.length cap), w.heap.size ≤ i
set_option maxHeartbeats 1000000 in
theorem CloneA_any (v : Value) (l sp : List Ad) (w : World) (hS : SlA w v l sp) (hl : l.length ≤ 1000000) : Calls Tryz.prog 183 #[v] w (ClA l w) := by
  obtain ⟨a, cap, rfl, _, _⟩ := hS.form
  have o0 : OwnA 148 (w.alloc (.cells #[] 148)) (.slice (some ⟨w.heap.size, 0, none⟩) 0 0) [] [] := OwnA.of_heap (heap_alloc_new _ _) rfl rfl (by simp)
  have f0 : Frm [] w (w.alloc (.cells #[] 148)) := (Frm.refl _ _).alloc _
  cases a with
  | none =>
    have hl0 : l = [] := by
      obtain ⟨h1, ⟨h2, h3, h4⟩ | ⟨a, h2, h3, h4⟩ | ⟨b, off, cap, h2, _⟩⟩ := hS
      · injection h2 with _ h5; exact List.eq_nil_of_length_eq_zero h5
      · cases h2
      · cases h2
    subst hl0
    have hc : cap = 0 := by
      obtain ⟨h1, ⟨h2, h3, h4⟩ | ⟨a, h2, h3, h4⟩ | ⟨b, off, cap, h2, _⟩⟩ := hS
      · injection h2
      · cases h2
      · cases h2
    subst hc
    clear hS o0 f0
    have q50 : ∀ (w : World) (a : Option Addr) (n c n' c' : Nat), (binOp .eql 50 (.slice a n c) (.slice none n' c')).run Tryz.prog w = .ok (.bool a.isNone) w := fun w a n c n' c' => Lib.run_eql_slice_nil w _ _ a n c n' c' Tryz.underlying50
    go_enter Tryz.func183, Tryz.ntmps183
    go_wp2_with (fail)
    go_ret
    refine ⟨none, 0, [], rfl, OwnA.nil _ _, Frm.refl _ _, ?_⟩
    intro i hi
    simp [blk] at hi
  | some ad =>
    have HS := Lib.hid (hS.keep f0 (by simp))
    have HL := Lib.hid hl
    have O0 := Lib.hid o0
    have F0 := Lib.hid f0
    clear hS hl o0 f0
    have q50 : ∀ (w : World) (a : Option Addr) (n c n' c' : Nat), (binOp .eql 50 (.slice a n c) (.slice none n' c')).run Tryz.prog w = .ok (.bool a.isNone) w := fun w a n c n' c' => Lib.run_eql_slice_nil w _ _ a n c n' c' Tryz.underlying50
    go_enter Tryz.func183, Tryz.ntmps183
    go_wp2_with (at_builtin; refine wpList_append_ads AT O0.out HS.out (by have := HL.out; simp; omega) rfl (.tmp 5) (.tmp 6) rfl rfl rfl ?_; intro a1 c1 w1 sp1 o1 f1 b1; simp only [List.length_nil, Nat.zero_add, List.nil_append] at o1 b1 ⊢)
    go_ret
    refine ⟨_, _, _, rfl, o1, F0.out.trans f1 (fun i hi => .inr ?_), fun i hi => ?_⟩
    · simp [blk] at hi; omega
    · rcases b1 i hi with h | h
      · simp [blk] at h; omega
      · have := F0.out.size; omega
set_option maxHeartbeats 4000000 in
theorem sClone_any (s : ByteArray) (hs : s.size ≤ 1000) (w : World) : Calls Tryz.prog 211 #[.string s] w fun e w' => e = .returned (.string s) ∧ Frm [] w w' := by
  by_cases h0 : s.size = 0
  · have hs : s = ⟨#[]⟩ := by
      apply ByteArray.ext
      exact Array.eq_empty_of_size_eq_zero h0
    subst hs
    go_enter Tryz.func211, Tryz.ntmps211
    go_wp2
    go_ret
    exact ⟨rfl, Frm.refl _ _⟩
  · obtain ⟨i0, hi, hz0, hz1, hz2⟩ : ∃ i0, Tryz.prog.info? 5 = some i0 ∧ i0.zero = some (.int .u8 0) ∧ i0.size = 1 ∧ i0.bytes = 1 := ⟨_, rfl, by kernel_rfl, by kernel_rfl, by kernel_rfl⟩
    have hinfo : (Tryz.prog.info? 5).map (·.size) = some 1 := by rw [hi]; simp [hz1]
    have hco : Tryz.prog.cellsOf 5 = 1 := by kernel_rfl
    obtain ⟨M, hM⟩ : ∃ M, M = madeCells (Value.int .u8 0).cells (((s.size : Nat) : Int).toNat * i0.size) := ⟨_, rfl⟩
    have hMs : M.size = s.size := by rw [hM, size_madeCells, hz1]; simp
    have hmk : ∀ W : World, (Instr.makeSlice 31 (.int .i64 (s.size : Int)) (.int .i64 (s.size : Int))).run Tryz.prog W = .ok (.slice (some ⟨W.heap.size, 0, none⟩) s.size s.size) (W.alloc (.cells M 5)) := fun W => by
      have h := run_make (P := Tryz.prog) W 31 5 i0 (.int .u8 0) Tryz.underlying31 hi hz0 .i64 .i64 (s.size : Int) (s.size : Int) (by omega) (by omega) (by rw [hz2]; omega) (by omega)
      rw [← hM] at h
      simpa using h
    clear hM
    have hcp := Lib.run_copy_row_string (P := Tryz.prog) (w.alloc (.cells M 5)) 31 9 3 5 w.heap.size 0 s.size s.size s M 5 Tryz.underlying31 hinfo (heap_alloc_new w _) (Nat.le_refl _) (by omega)
    obtain ⟨Y, hY⟩ : ∃ Y, Y = (M.toList.take 0 ++ Lib.byteCells s.data.toList ++ M.toList.drop (0 + s.size)).toArray := ⟨_, rfl⟩
    rw [← hY] at hcp
    have hYl : Y.toList = Lib.byteCells s.data.toList := by
      rw [hY, List.toList_toArray, List.take_zero, List.nil_append, List.drop_of_length_le (by rw [Array.length_toList]; omega), List.append_nil]
    have hYs : Y.size = s.size := by rw [← Array.length_toList, hYl, Lib.byteCells_length, ← Lib.size_eq]
    have hgY : ((w.alloc (.cells M 5)).setRow w.heap.size Y).heap[w.heap.size]? = some (.cells Y 5 (0, 0)) := setRow_heap _ _ M _ 5 (0, 0) (heap_alloc_new w _)
    have hne : s.data.toList ≠ [] := fun e => h0 (by rw [Lib.size_eq, e]; rfl)
    have hUS := Lib.run_unsafeString_row (P := Tryz.prog) ((w.alloc (.cells M 5)).setRow w.heap.size Y) 198 3 9 5 Tryz.underlying198 hco w.heap.size Y.size (by unfold World.shape?; rw [hgY]) s.data.toList hne (by rw [← Lib.size_eq]; omega) (by rw [← Lib.size_eq]; omega)
      (fun j x hx => Lib.cells_of_row hgY Y.size j _ (by rw [List.take_of_length_le (by rw [Array.length_toList]; exact Nat.le_refl _), hYl]; simp [Lib.byteCells, hx]))
    rw [← Lib.size_eq] at hUS
    clear hY
    go_enter Tryz.func211, Tryz.ntmps211
    go_wp2
    go_ret
    have hb1 : Below w.heap.size w (w.alloc (.cells M 5)) := (Below.refl _ w).alloc (Nat.le_refl _) _
    have hb2 : Below w.heap.size (w.alloc (.cells M 5)) ((w.alloc (.cells M 5)).setRow w.heap.size Y) := ⟨rfl, rfl, rfl, by simp, fun k hk => setRow_other _ _ _ _ (by omega)⟩
    exact ⟨rfl, Frm.of_below (Lib.below_freeze (hb1.trans hb2) (p := ⟨w.heap.size, 0, none⟩) (Nat.le_refl _) _) []⟩
theorem Clone_any (s : ByteArray) (hs : s.size ≤ 1000) (w : World) : Calls Tryz.prog 170 #[.string s] w fun e w' => e = .returned (.string s) ∧ Frm [] w w' := by
  have HC := Lib.hid (sClone_any s hs w)
  go_enter Tryz.func170, Tryz.ntmps170
  go_wp2_with (go_at_call 211; refine HC.out.mono ?_; rintro e w' ⟨rfl, f⟩; have F := Lib.hid f; clear f)
  go_ret
  exact ⟨rfl, F.out⟩
set_option maxHeartbeats 4000000 in
theorem ClonePt_any (x : Value) (p : Pt) (w : World) (hp : PtV w x p) (hl : p.ads.length ≤ 1000000) : Calls Tryz.prog 119 #[x] w (OwnP p w) := by
  obtain ⟨a, cap, sp, rfl, hS, hs⟩ := hp
  have hb1 : PB ((w.alloc (.cells (pc (.slice a p.ads.length cap) p.b p.l p.s).toArray 54)).alloc (.cells (pc (.slice none 0 0) 0 0 zs).toArray 54)) w.heap.size (.slice a p.ads.length cap) p.b p.l p.s := (PB.new _ _ _ _ _).alloc _
  have hb2 : PB ((w.alloc (.cells (pc (.slice a p.ads.length cap) p.b p.l p.s).toArray 54)).alloc (.cells (pc (.slice none 0 0) 0 0 zs).toArray 54)) (w.heap.size + 1) (.slice none 0 0) 0 0 zs := PB.new1 _ _ _ _ _ _
  have hf : Frm [] w ((w.alloc (.cells (pc (.slice a p.ads.length cap) p.b p.l p.s).toArray 54)).alloc (.cells (pc (.slice none 0 0) 0 0 zs).toArray 54)) := ((Frm.refl [] w).alloc _).alloc _
  have hsz : ((w.alloc (.cells (pc (.slice a p.ads.length cap) p.b p.l p.s).toArray 54)).alloc (.cells (pc (.slice none 0 0) 0 0 zs).toArray 54)).heap.size = w.heap.size + 2 := by simp
  have hA0 : pv (.slice a p.ads.length cap) p.b p.l p.s = .agg (pc (.slice a p.ads.length cap) p.b p.l p.s).toArray := rfl
  have HS := Lib.hid hS
  have HL := Lib.hid hl
  clear hS hl
  rw [hA0]
  clear hA0
  obtain ⟨ads, b, lv, s⟩ := p
  dsimp only at *
  go_enter Tryz.func119, Tryz.ntmps119
  generalize hA : (pc (.slice a ads.length cap) b lv s).toArray = A at *
  go_upto_region 1 with ((with_reducible (show wpList _ _ _ (Oper.mk _ (Op.alloc 54) _ _ _ _ :: _) _ _)); refine wpList_val rfl (exec_alloc26z rfl _) ?_)
  simp only [World.size_alloc]
  generalize (w.alloc (.cells A 54)).alloc (.cells (pc (.slice none 0 0) 0 0 zs).toArray 54) = W at *
  clear hA
  have f0 : Frm [] W W := Frm.refl _ _
  have c0 := (hb1.gets hs).c0
  have hcl := CloneA_any (.slice a ads.length cap) ads sp W (HS.out.keep hf (by simp)) HL.out
  have HCL := Lib.hid hcl
  clear hcl
  have B1 := Lib.hid hb1
  have B2 := Lib.hid hb2
  have HF := Lib.hid hf
  have HSZ := Lib.hid hsz
  clear hb1 hb2 hf hsz
  go_upto_region 2 with (go_at_call 183; refine HCL.out.mono ?_; rintro e w' ⟨a', cap', sp', rfl, o1, f1, n1⟩; have b3 := (B1.out.keep f0 (by simp)).keep f1 (by simp); have c3 := (b3.gets hs).c0; have z3 : w'.frozen? ⟨w.heap.size, 0, none⟩ = false := frozen_of_heap b3 0)
  have hn : ∀ i ∈ blk (.slice a' ads.length cap'), W.heap.size ≤ i := n1
  have o1' : OwnA 148 w' (.slice a' ads.length cap') ads sp' := by simpa using o1
  have B4 := pb_store (v' := .slice a' ads.length cap') b3
  have f3 : Frm [w.heap.size] w' (w'.setCell ⟨w.heap.size, 0, none⟩ (.slice a' ads.length cap')) := (Frm.refl _ _).setCell _ _ (by simp)
  have f4 : Frm [w.heap.size] W (w'.setCell ⟨w.heap.size, 0, none⟩ (.slice a' ads.length cap')) := ((f0.trans f1 (by simp)).mono (by simp)).trans f3 (by simp)
  have O4 := Lib.hid (o1'.keep f3 (fun i hi => by have := hn i hi; have := HSZ.out; simp; omega))
  have B5 := Lib.hid (B2.out.keep f4 (by simp))
  have HN := Lib.hid hn
  have F4 := Lib.hid f4
  have G4 := Lib.hid (B4.gets hs)
  clear f4 f3 B4 o1 o1' hn n1 f1 c3 z3 b3 f0 c0 B1 B2
  generalize w'.setCell ⟨w.heap.size, 0, none⟩ (.slice a' ads.length cap') = V at *
  have hsv := setRow_heap V (w.heap.size + 1) _ (pc (.slice a' ads.length cap') b lv s).toArray 54 (0, 0) B5.out
  have fsv : Frm [w.heap.size + 1] V (V.setRow (w.heap.size + 1) (pc (.slice a' ads.length cap') b lv s).toArray) := ⟨rfl, rfl, rfl, by simp [World.setRow], fun k hk hn => setRow_other _ _ k _ (by simpa using hn)⟩
  have HSV := Lib.hid hsv
  have FSV := Lib.hid fsv
  clear hsv fsv
  go_wp2_with (first | ((with_reducible (show wpList _ _ _ (Oper.mk _ (Op.load 54 _) _ _ _ _ :: _) _ _)); refine wpList_load_g (by rfl) 54 _ rfl _ rfl G4.out.all ?_) | ((with_reducible (show wpList _ _ _ (Oper.mk _ (Op.store 54 _ _) _ _ _ _ :: _) _ _)); refine wpList_store_row rfl 54 (.tmp 2) (.tmp 7) rfl (w.heap.size + 1) (pc (.slice a' ads.length cap') b lv s).toArray rfl rfl 54 _ B5.out (by rw [i26]; simp only [pc_size, hs]) (by simp only [pc_size, hs, zs_len]) (pc_one _ _ _) ?_))
  refine bodyPost_ret (v := pv (.slice a' ads.length cap') b lv s) (results_cell_row (p := 2) rfl _ _ (w.heap.size + 1) 54 _ (0, 0) _ rfl HSV.out Tryz.underlying54 rfl (by rw [i26]; simp only [pc_size, hs])) rfl ⟨a', cap', sp', rfl, O4.out.keep FSV.out (fun i hi => by have := HN.out i hi; have := HSZ.out; simp; omega), HF.out.trans ((F4.out.mono (L' := [w.heap.size, w.heap.size + 1]) (by simp)).trans FSV.out (by simp)) (fun i hi => .inr (by simp at hi; omega)), fun i hi => by have := HN.out i hi; have := HF.out.size; omega⟩
end Go.Proofs.YtljhanhipmnioaaGreat.Pt

namespace Go.Proofs.YtljhanhipmnioaaGreat.Rd
open Go.RowKit
set_option linter.unusedVariables false
set_option linter.unusedSimpArgs false
set_option maxRecDepth 100000

open Pt (Pt may enc zeroPt be4 be1 pc pv PtV SlA OwnA BT wpList_load_g heap_alloc_at Ext Grew yieldsIf_ld)
open Kr (OwnE SlE Enco RowTys)
set_option maxHeartbeats 4000000 in
theorem newest_any (vr vl u : Value) (t : Tab) (x : Rec) (w : World) (hT : TabV w vr vl t) (h : RecV w u x) (hl : t.recs.length ≤ 1000) : Calls Tryz.prog 117 #[tv vr vl t, u] w fun e w' => e = .returned (.bool (!t.recs.any (newB x))) ∧ Frm [] w w' := by
  obtain ⟨a, rfl, hs, _, _⟩ := h.box
  obtain ⟨av, ac, rfl⟩ := hT.1.form
  have f0 : Frm [] w (w.alloc (.cells (tc (.slice av t.recs.length ac) vl t).toArray 27)) := (Frm.refl [] w).alloc _
  have f1 : Frm [] (w.alloc (.cells (tc (.slice av t.recs.length ac) vl t).toArray 27)) ((w.alloc (.cells (tc (.slice av t.recs.length ac) vl t).toArray 27)).alloc (.cells (rc a x).toArray 56)) := (Frm.refl [] _).alloc _
  have d1 := ((TB.new w (.slice av t.recs.length ac) vl t).keep0 f1).gets.recs
  have BX := (show RB ((w.alloc (.cells (tc (.slice av t.recs.length ac) vl t).toArray 27)).alloc (.cells (rc a x).toArray 56)) (w.heap.size + 1) a x from ⟨heap_alloc_at (by simp), hs⟩)
  have F0 := Lib.hid (f0.trans f1 (by simp))
  have HC := Lib.hid (Contains_any 180 #[.pointer (some ⟨w.heap.size + 1, 0, none⟩)] (newB x) (.slice av t.recs.length ac) t.recs _ (hT.1.keep0 F0.out) hl ⟨fun u z => enter_of Tryz.func180 (by kernel_rfl) (by kernel_rfl) _ z, fun u o z f _ hv => newest1_any u a o x _ z hv (BX.keep0 f)⟩)
  rw [tcA]
  clear f0 f1 hT BX h
  generalize t.recs.any (newB x) = b at *
  generalize (tc (.slice av t.recs.length ac) vl t).toArray = A at *
  generalize (rc a x).toArray = A2 at *
  go_enter Tryz.func117, Tryz.ntmps117
  go_upto_region 1 with (fail)
  try simp only [World.size_alloc]
  generalize (w.alloc (.cells A 27)).alloc (.cells A2 56) = W at *
  go_wp2_with (go_at_call 179; refine HC.out.mono ?_; rintro r w1 ⟨rfl, f1⟩)
  go_ret
  exact ⟨rfl, F0.out.trans f1 (by simp)⟩

/-- A list of its own. -/
def ClI (l : List Int) (w : World) (e : Ending) (w' : World) : Prop := ∃ a cap sp, e = .returned (.slice a l.length cap) ∧ OwnE eI 1 3 w' (.slice a l.length cap) l sp ∧ Frm [] w w' ∧ ∀ i ∈ blk (.slice a l.length cap), w.heap.size ≤ i
set_option maxHeartbeats 1000000 in
theorem CloneI_any (v : Value) (l : List Int) (sp : List Value) (w : World) (hS : SlE eI 1 w v l sp) (hl : l.length ≤ 1000000) : Calls Tryz.prog 209 #[v] w (ClI l w) := by
  obtain ⟨a, cap, rfl, _, _⟩ := hS.form
  have q50 : ∀ (w : World) (a : Option Addr) (n c n' c' : Nat), (binOp .eql 25 (.slice a n c) (.slice none n' c')).run Tryz.prog w = .ok (.bool a.isNone) w := fun w a n c n' c' => Lib.run_eql_slice_nil w _ _ a n c n' c' Tryz.underlying25
  have o0 : OwnE eI 1 3 (w.alloc (.cells #[] 3)) (.slice (some ⟨w.heap.size, 0, none⟩) 0 0) [] [] := Kr.OwnE.of_heap encI (heap_alloc_new _ _) rfl (Nat.le_refl _) rfl (by decide)
  have f0 : Frm [] w (w.alloc (.cells #[] 3)) := (Frm.refl _ _).alloc _
  cases a with
  | none =>
    have hl0 : l = [] := by
      rcases Nat.eq_zero_or_pos l.length with h | h
      · exact List.eq_nil_of_length_eq_zero h
      · obtain ⟨b, off, h2⟩ := hS.at h; cases h2
    subst hl0
    have hc : cap = 0 := by
      obtain ⟨h1, h2⟩ := hS
      rcases h2 with ⟨h2, _⟩ | h2
      · injection h2
      · exfalso; revert h2; simp
    subst hc
    clear hS o0 f0
    go_enter Tryz.func209, Tryz.ntmps209
    go_wp2_with (fail)
    go_ret
    refine ⟨none, 0, [], rfl, OwnE.nil _ _ _ _, Frm.refl _ _, ?_⟩
    intro i hi
    simp [blk] at hi
  | some ad =>
    have HS := Lib.hid (hS.keep f0 (by simp))
    have HL := Lib.hid hl
    have O0 := Lib.hid o0
    have F0 := Lib.hid f0
    clear hS hl o0 f0
    go_enter Tryz.func209, Tryz.ntmps209
    go_wp2_with (at_builtin; refine Kr.wpList_append_e encI tysI O0.out HS.out (by have := HL.out; simp; omega) (by decide) rfl (.tmp 5) (.tmp 6) rfl rfl rfl ?_; intro a1 c1 w1 sp1 o1 f1 b1; simp only [List.length_nil, Nat.zero_add, List.nil_append] at o1 b1 ⊢)
    go_ret
    refine ⟨_, _, _, rfl, o1, F0.out.trans f1 (fun i hi => .inr ?_), fun i hi => ?_⟩
    · simp [blk] at hi; omega
    · rcases b1 i hi with h | h
      · simp [blk] at h; omega
      · have := F0.out.size; omega

/-- A list of its own. -/
def ClW (l : List RowT) (w : World) (e : Ending) (w' : World) : Prop := ∃ a cap sp, e = .returned (.slice a l.length cap) ∧ OwnE eR 44 56 w' (.slice a l.length cap) l sp ∧ Frm [] w w' ∧ ∀ i ∈ blk (.slice a l.length cap), w.heap.size ≤ i
set_option maxHeartbeats 1000000 in
theorem CloneW_any (v : Value) (l : List RowT) (sp : List Value) (w : World) (hS : SlE eR 44 w v l sp) (hl : l.length ≤ 1000000) : Calls Tryz.prog 208 #[v] w (ClW l w) := by
  obtain ⟨a, cap, rfl, _, _⟩ := hS.form
  have q50 : ∀ (w : World) (a : Option Addr) (n c n' c' : Nat), (binOp .eql 22 (.slice a n c) (.slice none n' c')).run Tryz.prog w = .ok (.bool a.isNone) w := fun w a n c n' c' => Lib.run_eql_slice_nil w _ _ a n c n' c' Tryz.underlying22
  have o0 : OwnE eR 44 56 (w.alloc (.cells #[] 56)) (.slice (some ⟨w.heap.size, 0, none⟩) 0 0) [] [] := Kr.OwnE.of_heap encRow (heap_alloc_new _ _) rfl (Nat.le_refl _) rfl (by decide)
  have f0 : Frm [] w (w.alloc (.cells #[] 56)) := (Frm.refl _ _).alloc _
  cases a with
  | none =>
    have hl0 : l = [] := by
      rcases Nat.eq_zero_or_pos l.length with h | h
      · exact List.eq_nil_of_length_eq_zero h
      · obtain ⟨b, off, h2⟩ := hS.at h; cases h2
    subst hl0
    have hc : cap = 0 := by
      obtain ⟨h1, h2⟩ := hS
      rcases h2 with ⟨h2, _⟩ | h2
      · injection h2
      · exfalso; revert h2; simp
    subst hc
    clear hS o0 f0
    go_enter Tryz.func208, Tryz.ntmps208
    go_wp2_with (fail)
    go_ret
    refine ⟨none, 0, [], rfl, OwnE.nil _ _ _ _, Frm.refl _ _, ?_⟩
    intro i hi
    simp [blk] at hi
  | some ad =>
    have HS := Lib.hid (hS.keep f0 (by simp))
    have HL := Lib.hid hl
    have O0 := Lib.hid o0
    have F0 := Lib.hid f0
    clear hS hl o0 f0
    go_enter Tryz.func208, Tryz.ntmps208
    go_wp2_with (at_builtin; refine Kr.wpList_append_e encRow tysRec O0.out HS.out (by have := HL.out; simp; omega) (by decide) rfl (.tmp 5) (.tmp 6) rfl rfl rfl ?_; intro a1 c1 w1 sp1 o1 f1 b1; simp only [List.length_nil, Nat.zero_add, List.nil_append] at o1 b1 ⊢)
    go_ret
    refine ⟨_, _, _, rfl, o1, F0.out.trans f1 (fun i hi => .inr ?_), fun i hi => ?_⟩
    · simp [blk] at hi; omega
    · rcases b1 i hi with h | h
      · simp [blk] at h; omega
      · have := F0.out.size; omega
end Go.Proofs.YtljhanhipmnioaaGreat.Rd

namespace Go.Proofs.YtljhanhipmnioaaGreat.Rd
open Go.RowKit
set_option linter.unusedVariables false
set_option linter.unusedSimpArgs false
set_option maxRecDepth 100000

open Pt (Pt may enc zeroPt be4 be1 pc pv PtV SlA OwnA BT wpList_load_g heap_alloc_at Ext Grew yieldsIf_ld)
open Kr (OwnE SlE Enco RowTys)

section
variable {P : Program} {ops : Array Oper} {Q : Exit → Act → World → Prop} {md : Region.Mode} {S : World → Prop} {d : Nat}
def wpAnyL (P : Program) (md : Region.Mode) (ops : Array Oper) (Q : Exit → Act → World → Prop) (d : Nat) (S : World → Prop) : Nat → Array Bool → Act → World → Prop
  | 0, listed, a, w => Region.ready md ops listed = [] ∧ Q .normal a w
  | fuel + 1, listed, a, w =>
    (Region.ready md ops listed = [] → Q .normal a w) ∧
    ∀ i ∈ Region.ready md ops listed, wpOp P ops Q i (fun a' w' => ((listed.setIfInBounds i true)[d]? = some true ∨ S w') ∧ wpAnyL P md ops Q d S fuel (listed.setIfInBounds i true) a' w') a w
theorem wpAny_of_late : ∀ (fuel : Nat) (listed : Array Bool) (a : Act) (w : World), wpAnyL P md ops Q d S fuel listed a w → wpAny P md ops Q fuel listed a w
  | 0, _, _, _, h => h
  | fuel + 1, _, _, _, h => ⟨h.1, fun i hi => wpOp_mono (fun a' w' h' => wpAny_of_late fuel _ a' w' h'.2) (h.2 i hi)⟩
theorem late_set {listed : Array Bool} {i : Nat} (h : listed[d]? = some true) : (listed.setIfInBounds i true)[d]? = some true := by
  rcases Nat.lt_or_ge d listed.size with hd | hd
  · rw [Array.getElem?_setIfInBounds]
    split
    · rename_i e; subst e; simp [hd]
    · exact h
  · rw [Array.getElem?_eq_none hd] at h; cases h
theorem wpAnyL_late : ∀ (fuel : Nat) (listed : Array Bool) (a : Act) (w : World), listed[d]? = some true → wpAny P md ops Q fuel listed a w → wpAnyL P md ops Q d S fuel listed a w
  | 0, _, _, _, _, h => h
  | fuel + 1, _, _, _, hd, h => ⟨h.1, fun i hi => wpOp_mono (fun a' w' h' => ⟨.inl (late_set hd), wpAnyL_late fuel _ a' w' (late_set hd) h'⟩) (h.2 i hi)⟩
theorem wpAnyL_first {i : Nat} {oi : Oper} {v : Value} (hi : ops[i]? = some oi) (hsel : ∀ (j : Nat) (o : Oper) cs b, ops[j]? = some o → o.op ≠ .select cs b)
    (hQ : ∀ c a w, Q (.panic c) (a.put oi.dst v) w → Q (.panic c) a w) (hdi : d ≠ i) (hwait : ∀ od, ops[d]? = some od → ∃ e ∈ od.after, Region.binds md e = true ∧ e.on = i) :
    ∀ (fuel : Nat) (listed : Array Bool) (a : Act) (w : World),
      (∀ j oj, ops[j]? = some oj → j ≠ i → listed.getD j true = false → (∀ e ∈ oj.after, Region.binds md e = true → e.on ≠ i) → oi.apart ops oj = true) →
      i ∈ Region.ready md ops listed → listed[d]? ≠ some true → YieldsIf P ops S oi v a → S w →
      wpAnyL P md ops Q d S fuel (listed.setIfInBounds i true) (a.put oi.dst v) w → wpAnyL P md ops Q d S (fuel + 1) listed a w := by
  intro fuel
  induction fuel with
  | zero =>
    intro listed a w _ hr _ hy hS H
    refine ⟨fun h => (by rw [h] at hr; cases hr), fun j hj => ?_⟩
    by_cases hji : j = i
    · subst hji; exact hy.wpOp hi hS ⟨.inr hS, H⟩
    · have := ready_mono hj hji
      rw [H.1] at this
      cases this
  | succ fuel ih =>
    intro listed a w hfree hr hnl hy hS H
    refine ⟨fun h => (by rw [h] at hr; cases hr), fun j hj => ?_⟩
    by_cases hji : j = i
    · subst hji; exact hy.wpOp hi hS ⟨.inr hS, H⟩
    · have h1 := H.2 j (ready_mono hj hji)
      obtain ⟨hjun, oj, hoj, hall⟩ := mem_ready.1 hj
      have hnot : ∀ e ∈ oj.after, Region.binds md e = true → e.on ≠ i := fun e he hb heq => by
        have h1 := hall e he hb
        have h0 := (mem_ready.1 hr).1
        rw [heq] at h1
        rcases Nat.lt_or_ge i listed.size with h' | h'
        · simp [h'] at h0 h1; rw [h0] at h1; cases h1
        · simp [Array.getElem?_eq_none h'] at h1
      have hjd : j ≠ d := fun e => by
        subst e
        obtain ⟨e, he, hb, ho⟩ := hwait oj hoj
        exact hnot e he hb ho
      have h2 := wpOp_putIf hoj (hfree j oj hoj hji hjun hnot) (fun cs b => hsel i oi cs b hi) (fun cs b => hsel j oj cs b hoj) hQ hy h1
      have hfree' : ∀ k ok, ops[k]? = some ok → k ≠ i → (listed.setIfInBounds j true).getD k true = false →
          (∀ e ∈ ok.after, Region.binds md e = true → e.on ≠ i) → oi.apart ops ok = true := fun k ok hk hki hun hno => by
        refine hfree k ok hk hki ?_ hno
        by_cases hjk : j = k
        · subst hjk; exact hjun
        · rw [getD_set_ne true hjk] at hun; exact hun
      have hnl2 : (listed.setIfInBounds j true)[d]? ≠ some true := by rw [Array.getElem?_setIfInBounds_ne (by omega)]; exact hnl
      have hnl3 : ((listed.setIfInBounds i true).setIfInBounds j true)[d]? ≠ some true := by rw [Array.getElem?_setIfInBounds_ne (by omega), Array.getElem?_setIfInBounds_ne (by omega)]; exact hnl
      refine wpOp_mono (fun a' w' h3 => ?_) h2
      have hS' : S w' := h3.2.1.resolve_left hnl3
      refine ⟨.inr hS', ih (listed.setIfInBounds j true) a' w' hfree' (ready_mono hr (Ne.symm hji)) hnl2 h3.1 hS' ?_⟩
      rw [Array.setIfInBounds_comm _ _ hji]
      exact h3.2.2
/-- The store d has not come up, and waits for i. -/
def lateOk (md : Region.Mode) (ops : Array Oper) (listed : Array Bool) (d i : Nat) : Bool :=
  (listed[d]? != some true) && d != i && (match ops[d]? with | some od => od.after.any (fun e => Region.binds md e && e.on == i) | none => true)
theorem wpAnyL_take {i : Nat} {oi : Oper} {v : Value} {fuel : Nat} {listed : Array Bool} {a : Act} {w : World} (hi : ops[i]? = some oi)
    (hs : Region.noSelect ops = true) (hf : Region.free md ops listed i = true) (hr : (Region.ready md ops listed).contains i = true)
    (hQ : ∀ c a w, Q (.panic c) (a.put oi.dst v) w → Q (.panic c) a w) (hy : YieldsIf P ops S oi v a) (hS : S w)
    (h : wpAnyL P md ops Q d S fuel (listed.setIfInBounds i true) (a.put oi.dst v) w) (hl : lateOk md ops listed d i = true := by kernel_rfl) : wpAnyL P md ops Q d S (fuel + 1) listed a w := by
  simp only [lateOk, Bool.and_eq_true, bne_iff_ne, ne_eq] at hl
  obtain ⟨⟨h1, h2⟩, h3⟩ := hl
  refine wpAnyL_first hi (Region.noSelect_spec hs) hQ h2 (fun od ho => ?_) fuel listed a w (Region.free_spec hi hf) (by simpa using hr) h1 hy hS h
  rw [ho] at h3
  simp only [Array.any_eq_true', Bool.and_eq_true, beq_iff_eq] at h3
  obtain ⟨e, he, hb, ho⟩ := h3
  exact ⟨e, he, hb, ho⟩
theorem wpAnyL_firstP {i : Nat} {oi : Oper} {v : Value} (hi : ops[i]? = some oi) (hsel : ∀ (j : Nat) (o : Oper) cs b, ops[j]? = some o → o.op ≠ .select cs b)
    (hQ : ∀ c a w, Q (.panic c) (a.put oi.dst v) w → Q (.panic c) a w) (hdi : d ≠ i) :
    ∀ (fuel : Nat) (listed : Array Bool) (a : Act) (w : World),
      (∀ j oj, ops[j]? = some oj → j ≠ i → listed.getD j true = false → (∀ e ∈ oj.after, Region.binds md e = true → e.on ≠ i) → oi.apart ops oj = true) →
      i ∈ Region.ready md ops listed → (listed[d]? = some true ∨ S w) → YieldsIf P ops (fun _ => True) oi v a →
      wpAnyL P md ops Q d S fuel (listed.setIfInBounds i true) (a.put oi.dst v) w → wpAnyL P md ops Q d S (fuel + 1) listed a w := by
  intro fuel
  induction fuel with
  | zero =>
    intro listed a w _ hr hl hy H
    refine ⟨fun h => (by rw [h] at hr; cases hr), fun j hj => ?_⟩
    by_cases hji : j = i
    · subst hji; exact hy.wpOp hi trivial ⟨hl.imp late_set id, H⟩
    · have := ready_mono hj hji
      rw [H.1] at this
      cases this
  | succ fuel ih =>
    intro listed a w hfree hr hl hy H
    refine ⟨fun h => (by rw [h] at hr; cases hr), fun j hj => ?_⟩
    by_cases hji : j = i
    · subst hji; exact hy.wpOp hi trivial ⟨hl.imp late_set id, H⟩
    · have h1 := H.2 j (ready_mono hj hji)
      obtain ⟨hjun, oj, hoj, hall⟩ := mem_ready.1 hj
      have hnot : ∀ e ∈ oj.after, Region.binds md e = true → e.on ≠ i := fun e he hb heq => by
        have h1 := hall e he hb
        have h0 := (mem_ready.1 hr).1
        rw [heq] at h1
        rcases Nat.lt_or_ge i listed.size with h' | h'
        · simp [h'] at h0 h1; rw [h0] at h1; cases h1
        · simp [Array.getElem?_eq_none h'] at h1
      have h2 := wpOp_putIf hoj (hfree j oj hoj hji hjun hnot) (fun cs b => hsel i oi cs b hi) (fun cs b => hsel j oj cs b hoj) hQ hy h1
      have hfree' : ∀ k ok, ops[k]? = some ok → k ≠ i → (listed.setIfInBounds j true).getD k true = false →
          (∀ e ∈ ok.after, Region.binds md e = true → e.on ≠ i) → oi.apart ops ok = true := fun k ok hk hki hun hno => by
        refine hfree k ok hk hki ?_ hno
        by_cases hjk : j = k
        · subst hjk; exact hjun
        · rw [getD_set_ne true hjk] at hun; exact hun
      refine wpOp_mono (fun a' w' h3 => ?_) h2
      have hL : (listed.setIfInBounds j true)[d]? = some true ∨ S w' := h3.2.1.imp (fun h => by
        rw [← Array.setIfInBounds_comm _ _ hji, Array.getElem?_setIfInBounds_ne (by omega)] at h; exact h) id
      refine ⟨hL, ih (listed.setIfInBounds j true) a' w' hfree' (ready_mono hr (Ne.symm hji)) hL h3.1 ?_⟩
      rw [Array.setIfInBounds_comm _ _ hji]
      exact h3.2.2
theorem wpAnyL_takeP {i : Nat} {oi : Oper} {v : Value} {fuel : Nat} {listed : Array Bool} {a : Act} {w : World} (hi : ops[i]? = some oi)
    (hs : Region.noSelect ops = true) (hf : Region.free md ops listed i = true) (hr : (Region.ready md ops listed).contains i = true)
    (hQ : ∀ c a w, Q (.panic c) (a.put oi.dst v) w → Q (.panic c) a w) (hy : YieldsIf P ops (fun _ => True) oi v a) (hS : S w)
    (h : wpAnyL P md ops Q d S fuel (listed.setIfInBounds i true) (a.put oi.dst v) w) (hdi : d ≠ i := by decide) : wpAnyL P md ops Q d S (fuel + 1) listed a w :=
  wpAnyL_firstP hi (Region.noSelect_spec hs) hQ hdi fuel listed a w (Region.free_spec hi hf) (by simpa using hr) (.inr hS) hy h
theorem wpAnyL_one {fuel i : Nat} {o : Oper} {listed : Array Bool} {a : Act} {w : World} (hr : Region.ready md ops listed = [i]) (ho : ops[i]? = some o)
    (h : ∀ K' : Act → World → Prop, Shut (∀ a w, S w → (S w → wpAnyL P md ops Q d S fuel (listed.setIfInBounds i true) a w) → K' a w) → if Region.wanted o (yielded ops a.tmps) = true then Oper.wp P o a w K' Q else K' (a.put o.dst undef) w) :
    wpAnyL P md ops Q d S (fuel + 1) listed a w := by
  refine ⟨fun h0 => (by rw [hr] at h0; cases h0), fun j hj => ?_⟩
  rw [hr, List.mem_singleton] at hj
  subst hj
  exact wpOp_step ho (fun K' hK => h K' (fun a w hS hW => hK a w ⟨.inr hS, hW hS⟩))
/-- The store itself: behind it no condition is asked. -/
theorem wpAnyL_last {fuel : Nat} {o : Oper} {listed : Array Bool} {a : Act} {w : World} (hr : Region.ready md ops listed = [d]) (ho : ops[d]? = some o) (hd : d < listed.size)
    (h : ∀ K' : Act → World → Prop, Shut (∀ a w, wpAny P md ops Q fuel (listed.setIfInBounds d true) a w → K' a w) → if Region.wanted o (yielded ops a.tmps) = true then Oper.wp P o a w K' Q else K' (a.put o.dst undef) w) :
    wpAnyL P md ops Q d S (fuel + 1) listed a w := by
  have hl : (listed.setIfInBounds d true)[d]? = some true := by rw [Array.getElem?_setIfInBounds]; simp [hd]
  refine ⟨fun h0 => (by rw [hr] at h0; cases h0), fun j hj => ?_⟩
  rw [hr, List.mem_singleton] at hj
  subst hj
  exact wpOp_step ho (fun K' hK => h K' (fun a w hW => hK a w ⟨.inl hl, wpAnyL_late _ _ _ _ hl hW⟩))
theorem wp_region_late (d : Nat) {id : Nat} {a : Act} {w : World} (hm : P.follows .mixedOrders = true) (hS : S w.drew)
    (h : S w.drew → wpAnyL P .any ops Q d S ops.size (Array.replicate ops.size false) a w.drew) : (Code.region id ops true).wp P Q a w :=
  wp_region_any hm (wpAny_of_late _ _ _ _ (h hS))
end
end Go.Proofs.YtljhanhipmnioaaGreat.Rd

namespace Go.Proofs.YtljhanhipmnioaaGreat.Rd
open Go.RowKit
set_option linter.unusedVariables false
set_option linter.unusedSimpArgs false
set_option maxRecDepth 100000

open Pt (Pt may enc zeroPt be4 be1 pc pv PtV SlA OwnA BT wpList_load_g heap_alloc_at Ext Grew yieldsIf_ld)
open Kr (OwnE SlE Enco RowTys)

/-- Bytes that can be read, of blocks below a bound, or none, wherever. -/
def Rb (N : Nat) (w : World) (v : Value) (l : List UInt8) : Prop := ∃ sp, SlB w v l sp ∧ ((∀ k ∈ blk v, k < N) ∨ ∀ w', SlB w' v l sp)
theorem Rb.keep {N : Nat} {w w' : World} {v : Value} {l : List UInt8} {L : List Nat} (h : Rb N w v l) (f : Frm L w w') (hL : ∀ k ∈ L, N ≤ k) : Rb N w' v l := by
  obtain ⟨sp, hs, hb | hb⟩ := h
  · exact ⟨sp, hs.keep f (fun k hk hm => by have := hb k hk; have := hL k hm; omega), .inl hb⟩
  · exact ⟨sp, hb _, .inr hb⟩
theorem Rb.mono {N M : Nat} {w : World} {v : Value} {l : List UInt8} (h : Rb N w v l) (hm : N ≤ M) : Rb M w v l := by
  obtain ⟨sp, hs, hb⟩ := h
  exact ⟨sp, hs, hb.imp (fun hb k hk => Nat.lt_of_lt_of_le (hb k hk) hm) id⟩
theorem RV.rb {N : Nat} {w : World} {v : Value} {l : List UInt8} (h : RV N w v l) : Rb N w v l := by
  obtain ⟨sp, hs, hb | ⟨a, rfl, rfl⟩⟩ := h
  · exact ⟨sp, hs, .inl hb⟩
  · exact ⟨[], ⟨rfl, .inr (.inl ⟨a, rfl, rfl, rfl⟩)⟩, .inr fun w' => ⟨rfl, .inr (.inl ⟨a, rfl, rfl, rfl⟩)⟩⟩
theorem Rb.form {N : Nat} {w : World} {v : Value} {l : List UInt8} (h : Rb N w v l) : ∃ a cap, v = .slice a l.length cap ∧ l.length ≤ cap ∧ cap ≤ maxLen := by
  obtain ⟨sp, hs, _⟩ := h
  exact hs.form
theorem blk_cut {a : Option Addr} {n n' cap lo : Nat} : ∀ i ∈ blk (.slice (if cap = lo then a else a.map (·.add (lo * 1))) n' (cap - lo)), i ∈ blk (.slice a n cap) := by
  intro i hi3
  cases a with
  | none => split at hi3 <;> simp [blk] at hi3
  | some a =>
    have hb : ∀ k, (a.add k).block = a.block := fun k => by unfold Addr.add; split <;> rfl
    split at hi3
    · simpa [blk] using hi3
    · simpa [blk, hb] using hi3
theorem Rb.l {N : Nat} {w : World} {a : Option Addr} {n cap : Nat} {l : List UInt8} (h : Rb N w (.slice a n cap) l) (lo : Nat) (h1 : lo ≤ l.length) :
    ∃ a' c', (∀ (x : Int) (wx : World), x = lo → (Instr.slice 31 (.slice a n cap) (some (.int .i64 x)) none none).run Tryz.prog wx = .ok (.slice a' (l.length - lo) c') wx) ∧ Rb N w (.slice a' (l.length - lo) c') (l.drop lo) := by
  obtain ⟨sp, hs, hb⟩ := h
  obtain ⟨a2, c2, e, hle, hm⟩ := hs.form
  cases e
  have hc : ∀ w', SlB w' (.slice a l.length cap) l sp → SlB w' (.slice (if cap = lo then a else a.map (·.add (lo * 1))) (l.length - lo) (cap - lo)) (l.drop lo) sp := fun w' h => by
    have := h.cut lo l.length h1 (Nat.le_refl _)
    rwa [List.take_of_length_le (by simp), List.drop_length, List.nil_append] at this
  refine ⟨_, _, fun x wx hx => ?_, sp, hc _ hs, hb.imp (fun hb k hk => hb k (blk_cut k hk)) (fun hb w' => hc _ (hb w'))⟩
  subst hx
  obtain ⟨i, hi', hz, hs2, hby⟩ := info_parts BT.info
  have he : Tryz.prog.elem 31 = 5 := by simp [Program.elem, BT.sl]
  have hsz : (sizeOf (Tryz.prog.elem 31)).run Tryz.prog wx = .ok 1 wx := by rw [he]; simp [sizeOf, typeInfo, hi', hs2]
  rw [run_slice_l (P := Tryz.prog) wx 31 a l.length cap (by rw [he]; exact BT.sl) .i64 lo (by omega) (by omega), hsz]
  simp [Result.andThen, sliced]
theorem Rb.h {N : Nat} {w : World} {a : Option Addr} {n cap : Nat} {l : List UInt8} (h : Rb N w (.slice a n cap) l) (hi : Nat) (h2 : hi ≤ l.length) :
    ∃ a' c', (∀ (y : Int) (wx : World), y = hi → (Instr.slice 31 (.slice a n cap) none (some (.int .i64 y)) none).run Tryz.prog wx = .ok (.slice a' hi c') wx) ∧ Rb N w (.slice a' hi c') (l.take hi) := by
  obtain ⟨sp, hs, hb⟩ := h
  obtain ⟨a2, c2, e, hle, hm⟩ := hs.form
  cases e
  have hc : ∀ w', SlB w' (.slice a l.length cap) l sp → SlB w' (.slice (if cap = 0 then a else a.map (·.add (0 * 1))) hi (cap - 0)) (l.take hi) (l.drop hi ++ sp) := fun w' h => by
    have := h.cut 0 hi (Nat.zero_le _) h2
    simpa only [List.drop_zero, Nat.sub_zero] using this
  refine ⟨_, _, fun y wx hy => ?_, _, hc _ hs, hb.imp (fun hb k hk => hb k (blk_cut k hk)) (fun hb w' => hc _ (hb w'))⟩
  subst hy
  obtain ⟨i, hi', hz, hs2, hby⟩ := info_parts BT.info
  have he : Tryz.prog.elem 31 = 5 := by simp [Program.elem, BT.sl]
  have hsz : (sizeOf (Tryz.prog.elem 31)).run Tryz.prog wx = .ok 1 wx := by rw [he]; simp [sizeOf, typeInfo, hi', hs2]
  rw [run_slice_h (P := Tryz.prog) wx 31 a l.length cap (by rw [he]; exact BT.sl) .i64 hi (by omega) (by omega), hsz]
  simp [Result.andThen, sliced]
/-- The block of a reader, of the program. -/
def RgB (w : World) (g : Nat) (va vr : Value) (e a : Int) : Prop := Blk w g 112 [va, vr, .int .i64 e, .int .i64 a]
section
variable {w w' : World} {g : Nat} {va vr : Value} {e a : Int} {L : List Nat}
theorem RgB.keep (h : RgB w g va vr e a) (f : Frm L w w') (hn : g ∉ L) : RgB w' g va vr e a := Blk.keep h f hn
theorem RgB.c0 (h : RgB w g va vr e a) : w.cell? ⟨g, 0, none⟩ = some va := Blk.cell h 0 rfl
theorem RgB.c1 (h : RgB w g va vr e a) : w.cell? ⟨g, 1, none⟩ = some vr := Blk.cell h 1 rfl
theorem RgB.c2 (h : RgB w g va vr e a) : w.cell? ⟨g, 2, none⟩ = some (.int .i64 e) := Blk.cell h 2 rfl
theorem RgB.c3 (h : RgB w g va vr e a) : w.cell? ⟨g, 3, none⟩ = some (.int .i64 a) := Blk.cell h 3 rfl
theorem RgB.fault (h : RgB w g va vr e a) (e2 a2 : Int) : RgB (w.setCells g 2 [.int .i64 e2, .int .i64 a2]) g va vr e2 a2 := by
  have hb : Blk w g 112 ([va, vr] ++ ([.int .i64 e, .int .i64 a] ++ [])) := h
  exact hb.put (o := 2) rfl rfl
theorem RgB.rest (h : RgB w g va vr e a) (v2 : Value) : RgB (w.setCell ⟨g, 1, none⟩ v2) g va v2 e a := by
  have hb : Blk w g 112 ([va] ++ vr :: [.int .i64 e, .int .i64 a]) := h
  exact hb.put1 (o := 1) rfl
theorem RgB.there (h : RgB w g va vr e a) : w.there g 2 2 := Blk.there (T := 112) (cs := [va, vr, .int .i64 e, .int .i64 a]) h 2 (by simp)
end
set_option maxHeartbeats 2000000 in
theorem demand_any (g : Nat) (va vr : Value) (e a e2 a2 : Int) (b : Bool) (w : World) (h : RgB w g va vr e a) : Calls Tryz.prog 150 #[.pointer (some ⟨g, 0, none⟩), .bool b, .int .i64 e2, .int .i64 a2] w fun r w' => r = .returned (.pointer (some ⟨g, 0, none⟩)) ∧ Frm [g] w w' ∧ RgB w' g va vr (if b = true ∨ e ≠ 0 then e else e2) (if b = true ∨ e ≠ 0 then a else a2) := by
  have c2 := h.c2
  have H := Lib.hid h
  have HF := Lib.hid (h.fault e2 a2)
  clear h
  obtain ⟨E, hE⟩ : ∃ E, E = if b = true ∨ e ≠ 0 then e else e2 := ⟨_, rfl⟩
  obtain ⟨A, hA⟩ : ∃ A, A = if b = true ∨ e ≠ 0 then a else a2 := ⟨_, rfl⟩
  rw [← hE, ← hA]
  have HE := Lib.hid (And.intro hE hA)
  clear hE hA
  cases b with
  | true =>
    go_enter Tryz.func150, Tryz.ntmps150
    go_wp2_with (fail)
    go_ret
    exact ⟨rfl, Frm.refl _ _, by rw [HE.out.1, HE.out.2]; simpa using H.out⟩
  | false =>
    by_cases he : e = 0
    · subst he
      go_enter Tryz.func150, Tryz.ntmps150
      go_wp2_with ((with_reducible (show wpList _ _ _ (Oper.mk _ (Op.store 44 _ _) _ _ _ _ :: _) _ _)); refine wpList_store_mid rfl 44 (.tmp 24) (.tmp 22) rfl g 2 ([.int .i64 e2, .int .i64 a2] : List Value).toArray rfl rfl H.out.there (by rw [Pt.d40]; rfl) (by simp [Value.oneCell']) ?_)
      go_ret
      exact ⟨rfl, Frm.setCells _ _ _ (Frm.refl _ _) (.inl (by simp)), by rw [HE.out.1, HE.out.2]; simpa using HF.out⟩
    · have he' : decide (e = 0) = false := by simpa using he
      go_enter Tryz.func150, Tryz.ntmps150
      go_wp2_with (fail)
      go_ret
      exact ⟨rfl, Frm.refl _ _, by rw [HE.out.1, HE.out.2]; simpa [he] using H.out⟩
/-- A reader of the program: where it stands, and whether a field was not all there; its bytes lie below N. -/
structure RgS (w : World) (g N : Nat) (l : List UInt8) (at_ : Nat) (sh : Bool) : Prop where
  blkv : ∃ a1 c1 a2 c2, RgB w g (.slice a1 l.length c1) (.slice a2 (l.length - at_) c2) (if sh then 4 else 0) (if sh then l.length else 0) ∧ Rb N w (.slice a1 l.length c1) l ∧ Rb N w (.slice a2 (l.length - at_) c2) (l.drop at_)
  le : at_ ≤ l.length
  small : l.length ≤ 1000000
  ng : N ≤ g
theorem RgS.keep {w w' : World} {L : List Nat} {g N : Nat} {l : List UInt8} {a : Nat} {s : Bool} (h : RgS w g N l a s) (f : Frm L w w') (hL : ∀ k ∈ L, k ≠ g ∧ N ≤ k) : RgS w' g N l a s := by
  obtain ⟨a1, c1, a2, c2, h1, h2, h3⟩ := h.blkv
  exact ⟨⟨a1, c1, a2, c2, h1.keep f (fun hm => (hL g hm).1 rfl), h2.keep f (fun k hk => (hL k hk).2), h3.keep f (fun k hk => (hL k hk).2)⟩, h.le, h.small, h.ng⟩
theorem RgS.lt {w : World} {g N : Nat} {l : List UInt8} {a : Nat} {s : Bool} (h : RgS w g N l a s) : g < w.heap.size := by
  obtain ⟨_, _, _, _, h1, _⟩ := h.blkv
  exact Blk.lt h1
end Go.Proofs.YtljhanhipmnioaaGreat.Rd

namespace Go.Proofs.YtljhanhipmnioaaGreat.Rd
open Go.RowKit
set_option linter.unusedVariables false
set_option linter.unusedSimpArgs false
set_option maxRecDepth 100000

open Pt (Pt may enc zeroPt be4 be1 pc pv PtV SlA OwnA BT wpList_load_g heap_alloc_at Ext Grew yieldsIf_ld)
open Kr (OwnE SlE Enco RowTys)

theorem RB.to {w w' : World} {b i : Nat} {v u : Value} {x x' : Rec} (h : RB w b v x) (hw : w'.heap[b]? = some (.cells ((rc v x).toArray.setIfInBounds i u) 56 (0, 0))) (hr : x'.root = x.root) (he : rc v x' = (rc v x).set i u) : RB w' b v x' :=
  ⟨by rw [hw, List.setIfInBounds_toArray, he], by rw [hr]; exact h.2⟩
end Go.Proofs.YtljhanhipmnioaaGreat.Rd
