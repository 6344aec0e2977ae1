/-
  Dir: a copy of a record. No conditions but those that each theorem names. Dir: a list of records whose rows become its own, one after another. No conditions but those that each theorem names. Dir: a copy of a table. No conditions but those that each theorem names. Dir: New. No conditions but those that each theorem names. Dir: what changes a record where it stands. No conditions but those that each theorem names. Dir: what changes a record where it stands: roots, limits, a rollback. No conditions but those that each theorem names. Dir: a table of its own, changed. No conditions but those that each theorem names. Dir: done; the makers of changes. No conditions but those that each theorem names. Dir: a list of its own, one record of which is changed. No conditions but those that each theorem names. Dir: the change of one record of a table. No conditions but those that each theorem names. Dir: set. No conditions but those that each theorem names. Dir: Resize. No conditions but those that each theorem names. Dir: how a record stands to a name. No conditions but those that each theorem names. Dir: where a record is to stand. No conditions but those that each theorem names.
-/
import Derived.Test.YtljhanhipmnioaaGreatDBa1
import Derived.Test.YtljhanhipmnioaaGreatDBa2
import Derived.Test.YtljhanhipmnioaaGreatDBa3
import Derived.Test.YtljhanhipmnioaaGreatDBa4
import Derived.Test.YtljhanhipmnioaaGreatDBa5
import Derived.Test.YtljhanhipmnioaaGreatDBa6
import Derived.OrdersHeld
import Derived.Deep.RegionHeld
import Derived.Laws.OwnMore
import Derived.WalkKit
import Derived.WalkSpells
import Derived.WalkLawsBesides
import Derived.Deep.AppendSrc
import Derived.Laws.CopyOwn
import Derived.Laws.BytesArg
import Derived.Carry
import Derived.Laws.BytesString
import Derived.Deep.SlicePairs
import Derived.Deep.Cut
import Derived.Lib.Hide
import Derived.Test.YtljhanhipmnioaaGreatChecked
import Derived.ChangeKeysEq
import Derived.Deep.MidRow
import Derived.Deep.RegionHeld3
import Derived.OpenShut
import Derived.WalkHide
import Derived.IntWalk
import Derived.StillTailTactics
import Derived.Deep.RegionLaw
import Derived.Deep.RegionWith
import Derived.Deep.QuietTactic
import Derived.BigQuiet
import Derived.Deep.CutBlock
import Derived.Deep.DeepCutAuto
import Derived.Deep.Slices
import Derived.Defers
import Derived.Recover
import Derived.Deep.WholeRow
import Derived.Deep.Strs
import Derived.ChangeSame
import Derived.Lib.Bytealg
import Derived.Lib.TrimUEq
import Derived.Lib.MinMaxS
import Derived.LaidEqlPtr
import Derived.Lib.OthersKept
import Derived.Deep.Draws
import Derived.WalkMore
import Derived.Deep.LoopGhost
import Derived.Lib.BufferWrite
import Derived.Lib.UnsafeStr
import Derived.Laws.MakeOwn
import Derived.Laws.Strings3
import Derived.BigRegion
import Derived.Lib.Walk
import Derived.Great.Walk
import Derived.Lib.SliceRun
namespace Go.Proofs.YtljhanhipmnioaaGreat.Rd
open Go.RowKit
set_option linter.unusedVariables false
set_option linter.unusedSimpArgs false
set_option maxRecDepth 100000

open Pt (Pt may enc zeroPt be4 be1 pc pv PtV SlA OwnA BT wpList_load_g heap_alloc_at Ext Grew yieldsIf_ld)
open Kr (OwnE SlE Enco RowTys)

theorem step_storeRoot {ops : Array Oper} {o : Oper} {a : Act} {w : World} {K : Act → World → Prop} {Q : Exit → Act → World → Prop} {E : Prop} (hg : o.guard = none)
    (p q : Operand) (h3 : o.op = .store 54 p q) {g n cap : Nat} {v : Value} {x : Rec} {b : Option Addr} {pt : Pt} (h0 : RB w g v x) (hs : pt.s.length = 32)
    (e1 : a.eval p = .pointer (some ⟨g, 4, none⟩)) (e2 : a.eval q = pv (.slice b n cap) pt.b pt.l pt.s)
    (k : ∀ w', RB w' g (.slice b n cap) (withRoot x pt) → Frm [g] w w' → K (a.put o.dst undef) w') :
    if Region.wanted o (yielded ops a.tmps) = true then Oper.wp Tryz.prog o a w K Q else E := by
  rw [if_pos (by simp [Region.wanted, hg])]
  refine wp_store_mid 54 p q h3 g 4 (pc (.slice b n cap) pt.b pt.l pt.s).toArray e1 e2 (by rw [Pt.pc_size, hs]; exact h0.there) (by rw [Pt.pc_size, hs]; kernel_rfl) (Pt.pc_one _ _ _) ?_
  exact k _ (h0.setRoot (v' := .slice b n cap) pt hs) (Frm.setCells _ _ _ (Frm.refl _ _) (.inl (by simp)))
/-- A record with a list of its own. -/
def ClR (x : Rec) (w : World) (e : Ending) (w' : World) : Prop := ∃ a cap sp, e = .returned (rv (.slice a x.root.ads.length cap) x) ∧ OwnA 148 w' (.slice a x.root.ads.length cap) x.root.ads sp ∧ Frm [] w w' ∧ ∀ i ∈ blk (.slice a x.root.ads.length cap), w.heap.size ≤ i
set_option maxHeartbeats 4000000 in
theorem recordClone_any (u : Value) (x : Rec) (w : World) (h : RecV w u x) (hn : x.name.size ≤ 1000) (hl : x.root.ads.length ≤ 1000000) : Calls Tryz.prog 176 #[u] w (ClR x w) := by
  obtain ⟨a, cap, sp, rfl, hA, hs⟩ := h
  have f1 : Frm [] w (w.alloc (.cells (rc (.slice a x.root.ads.length cap) x).toArray 56)) := (Frm.refl [] w).alloc _
  have f2 : Frm [] w ((w.alloc (.cells (rc (.slice a x.root.ads.length cap) x).toArray 56)).alloc (.cells (rc nilS zeroR).toArray 56)) := f1.alloc _
  have b0 : RB ((w.alloc (.cells (rc (.slice a x.root.ads.length cap) x).toArray 56)).alloc (.cells (rc nilS zeroR).toArray 56)) w.heap.size (.slice a x.root.ads.length cap) x := (RB.new hs).keep0 ((Frm.refl [] _).alloc _)
  have b1 : RB ((w.alloc (.cells (rc (.slice a x.root.ads.length cap) x).toArray 56)).alloc (.cells (rc nilS zeroR).toArray 56)) (w.heap.size + 1) nilS zeroR := by simpa using RB.new (w := w.alloc (.cells (rc (.slice a x.root.ads.length cap) x).toArray 56)) (v := nilS) zeroR_s
  have hsz : ((w.alloc (.cells (rc (.slice a x.root.ads.length cap) x).toArray 56)).alloc (.cells (rc nilS zeroR).toArray 56)).heap.size = w.heap.size + 2 := by simp
  rw [show rv (.slice a x.root.ads.length cap) x = .agg (rc (.slice a x.root.ads.length cap) x).toArray from rfl]
  have HA := Lib.hid (fun z (f : Frm [] w z) => hA.keep (w' := z) f (by simp))
  have B0 := Lib.hid b0
  have B1 := Lib.hid b1
  have F2 := Lib.hid f2
  have HSZ := Lib.hid hsz
  have HS := Lib.hid hs
  have HN := Lib.hid hn
  have HL := Lib.hid hl
  clear f1 f2 b0 b1 hsz hA hs hn hl
  generalize (rc (.slice a x.root.ads.length cap) x).toArray = A at *
  go_enter Tryz.func176, Tryz.ntmps176
  go_upto_region 1 with ((with_reducible (show wpList _ _ _ (Oper.mk _ (Op.alloc 56) _ _ _ _ :: _) _ _)); refine wpList_val rfl (exec_alloc56 rfl _) ?_)
  simp only [World.size_alloc]
  generalize (w.alloc (.cells A 56)).alloc (.cells (rc nilS zeroR).toArray 56) = W at *
  refine wp_region_late 7 (S := fun z => RB z w.heap.size (.slice a x.root.ads.length cap) x) (by kernel_rfl) (B0.out.keep0 ((Frm.refl [] W).drew)) (fun hHeld => ?_)
  refine wpAnyL_takeP (i := 0) (oi := ⟨some 3, .fieldAddr 56 (.tmp 1) 1, _, _, _, none⟩) (v := ?_) rfl (by kernel_rfl) (by kernel_rfl) (by kernel_rfl) (fun _ _ _ h => h) (Or.inl ⟨by rfl, ?_⟩) hHeld ?_
  rotate_left
  focus (intro z hSw; clear hSw; go_simp; try with_reducible rfl)
  try simp only [Act.put, List.setIfInBounds_toArray, List.set_cons_zero, List.set_cons_succ]
  refine wpAnyL_take (i := 1) (oi := ⟨some 4, .load 9 (.tmp 3), _, _, _, none⟩) (v := ?_) rfl (by kernel_rfl) (by kernel_rfl) (by kernel_rfl) (fun _ _ _ h => h) (Or.inl ⟨by rfl, ?_⟩) hHeld ?_
  rotate_left
  focus (intro z hSw; have q := hSw.gets.name; clear hSw; go_simp; try with_reducible rfl)
  try simp only [Act.put, List.setIfInBounds_toArray, List.set_cons_zero, List.set_cons_succ]
  refine wpAnyL_takeP (i := 3) (oi := ⟨some 6, .fieldAddr 56 (.tmp 1) 4, _, _, _, none⟩) (v := ?_) rfl (by kernel_rfl) (by kernel_rfl) (by kernel_rfl) (fun _ _ _ h => h) (Or.inl ⟨by rfl, ?_⟩) hHeld ?_
  rotate_left
  focus (intro z hSw; clear hSw; go_simp; try with_reducible rfl)
  try simp only [Act.put, List.setIfInBounds_toArray, List.set_cons_zero, List.set_cons_succ]
  refine wpAnyL_take (i := 4) (oi := ⟨some 7, .load 54 (.tmp 6), _, _, _, none⟩) rfl (by kernel_rfl) (by kernel_rfl) (by kernel_rfl) (fun _ _ _ h => h) (yieldsIf_ld (by rfl) 54 _ rfl _ rfl (fun z hSw => hSw.gets.root)) hHeld ?_
  try simp only [Act.put, List.setIfInBounds_toArray, List.set_cons_zero, List.set_cons_succ]
  refine wpAnyL_one (i := 2) (o := ⟨some 5, .call { callee := .value (.func 170), args := #[.tmp 4], argTypes := #[9] }, _, _, _, none⟩) (by kernel_rfl) rfl (fun K hK => ?_)
  go_simp
  refine (Pt.Clone_any _ HN.out _).mono ?_
  rintro r w1 ⟨rfl, f1⟩
  refine hK.out _ _ ?_ (fun hNext => ?_)
  · exact hHeld.keep0 f1
  clear hK K hHeld
  have hHeld := hNext
  clear hNext
  try simp only [Act.put, List.setIfInBounds_toArray, List.set_cons_zero, List.set_cons_succ]
  refine wpAnyL_takeP (i := 6) (oi := ⟨some 9, .fieldAddr 56 (.tmp 1) 1, _, _, _, none⟩) (v := ?_) rfl (by kernel_rfl) (by kernel_rfl) (by kernel_rfl) (fun _ _ _ h => h) (Or.inl ⟨by rfl, ?_⟩) hHeld ?_
  rotate_left
  focus (intro z hSw; clear hSw; go_simp; try with_reducible rfl)
  try simp only [Act.put, List.setIfInBounds_toArray, List.set_cons_zero, List.set_cons_succ]
  refine wpAnyL_one (i := 5) (o := ⟨some 8, .call { callee := .value (.func 119), args := #[.tmp 7], argTypes := #[54] }, _, _, _, none⟩) (by kernel_rfl) rfl (fun K hK => ?_)
  go_simp
  refine (Pt.ClonePt_any _ x.root _ ⟨a, cap, sp, rfl, HA.out _ (F2.out.trans (((Frm.refl [] W).drew).trans f1 (by simp)) (by simp)), HS.out⟩ HL.out).mono ?_
  rintro r w2 ⟨a2, c2, sp2, rfl, o2, f2, n2⟩
  refine hK.out _ _ ?_ (fun hNext => ?_)
  · exact hHeld.keep0 f2
  clear hK K hHeld
  have hHeld := hNext
  clear hNext
  have f12 : Frm [] W w2 := (((Frm.refl [] W).drew).trans f1 (by simp)).trans f2 (by simp)
  try simp only [Act.put, List.setIfInBounds_toArray, List.set_cons_zero, List.set_cons_succ]
  refine wpAnyL_last (o := ⟨none, .store 9 (.tmp 9) (.tmp 5), _, _, _, none⟩) (by kernel_rfl) rfl (by simp) (fun K hK => ?_)
  have z7 := hHeld.fz 1
  have e7 := hHeld.gets.name
  have b7 := hHeld.setName x.name
  have f7 : Frm [w.heap.size] w2 (w2.setCell ⟨w.heap.size, 1, none⟩ (.string x.name)) := (Frm.refl _ _).setCell _ _ (by simp)
  go_simp
  refine hK.out _ _ ?_
  clear hK K hHeld
  try simp only [Act.put, List.setIfInBounds_toArray, List.set_cons_zero, List.set_cons_succ]
  refine wpAny_take (i := 8) (oi := ⟨some 10, .fieldAddr 56 (.tmp 1) 4, _, _, _, none⟩) (v := ?_) rfl (by kernel_rfl) (by kernel_rfl) (by kernel_rfl) (fun _ _ _ h => h) (Or.inl ⟨by rfl, ?_⟩) ?_
  rotate_left
  focus (intro z; go_simp; try with_reducible rfl)
  try simp only [Act.put, List.setIfInBounds_toArray, List.set_cons_zero, List.set_cons_succ]
  refine wpAny_ready (rs := [9]) (by kernel_rfl) (by simp) ?_
  refine AllReady.cons (o := ⟨none, .store 54 (.tmp 10) (.tmp 8), _, _, _, none⟩) rfl (fun K hK => ?_) AllReady.nil
  refine step_storeRoot rfl (.tmp 10) (.tmp 8) rfl b7 HS.out rfl rfl ?_
  intro w9 b9 f9
  refine hK _ _ ?_
  clear hK K
  have F9 := Lib.hid ((f12.mono (L' := [w.heap.size]) (by simp)).trans (f7.trans f9 (by simp)) (by simp))
  have N2 := Lib.hid (fun i (hi : i ∈ blk (.slice a2 x.root.ads.length c2)) => show W.heap.size ≤ i from Nat.le_trans (((Frm.refl [] W).drew).trans f1 (by simp)).size (n2 i hi))
  have O9 := Lib.hid (o2.keep (f7.trans f9 (fun i hi => .inl hi)) (fun i hi => by have := N2.out i hi; have := HSZ.out; simp; omega))
  have r9 : RB w9 (w.heap.size + 1) nilS zeroR := (B1.out.keep0 f12).keep (f7.trans f9 (fun i hi => .inl hi)) (by simp)
  clear f7 f9 f12 f1 f2 n2 o2 z7 e7 b7
  try simp only [Act.put, List.setIfInBounds_toArray, List.set_cons_zero, List.set_cons_succ]
  refine wpAny_done (by kernel_rfl) ?_ _
  go_wp2_with (first
    | ((with_reducible (show wpList _ _ _ (Oper.mk _ (Op.load 56 _) _ _ _ _ :: _) _ _)); refine wpList_load_g (by rfl) 56 _ rfl _ rfl b9.gets.all ?_)
    | ((with_reducible (show wpList _ _ _ (Oper.mk _ (Op.store 56 _ _) _ _ _ _ :: _) _ _)); refine wpList_store56 rfl (.tmp 2) (.tmp 11) rfl rfl r9 HS.out rfl rfl ?_; intro V hV fV))
  refine bodyPost_ret (v := rv (.slice a2 x.root.ads.length c2) x) (results_cell_row (p := 2) rfl _ _ (w.heap.size + 1) 56 _ (0, 0) _ rfl hV.1 Tryz.underlying56 rfl (by rw [i56]; simp [rc_length HS.out])) rfl ?_
  refine ⟨a2, c2, sp2, rfl, O9.out.keep fV ?_, ?_, ?_⟩
  · intro i hi
    have := N2.out i hi
    have := HSZ.out
    simp; omega
  · exact (F2.out.trans (F9.out.mono (L' := [w.heap.size, w.heap.size + 1]) (by simp)) (by simp)).trans fV (by simp)
  · intro i hi
    have := N2.out i hi
    have := HSZ.out
    omega
end Go.Proofs.YtljhanhipmnioaaGreat.Rd

namespace Go.Proofs.YtljhanhipmnioaaGreat.Rd
open Go.RowKit
set_option linter.unusedVariables false
set_option linter.unusedSimpArgs false
set_option maxRecDepth 100000

open Pt (Pt may enc zeroPt be4 be1 pc pv PtV SlA OwnA BT wpList_load_g heap_alloc_at Ext Grew yieldsIf_ld)
open Kr (OwnE SlE Enco RowTys)

theorem step_put56 {ops : Array Oper} {o : Oper} {a : Act} {w : World} {K : Act → World → Prop} {Q : Exit → Act → World → Prop} {E : Prop} (hg : o.guard = none)
    (p q : Operand) (h3 : o.op = .store 56 p q) {g n cap k : Nat} {rs : List RowT} {sp : List Value} {x : RowT} (hO : OwnE eR 44 56 w (.slice (some ⟨g, 0, none⟩) n cap) rs sp) (hk : k < rs.length)
    (e1 : a.eval p = .pointer (some ⟨g, k * 44, none⟩)) (e2 : a.eval q = .agg x.1.toArray) (kk : K (a.put o.dst undef) (w.setCells g (k * 44) x.1)) :
    if Region.wanted o (yielded ops a.tmps) = true then Oper.wp Tryz.prog o a w K Q else E := by
  rw [if_pos (by simp [Region.wanted, hg])]
  have hb1 : Blk w g 56 (Kr.flt eR rs ++ sp) := OwnE.heap hO
  refine wp_store_mid 56 p q h3 g (k * 44) x.1.toArray e1 e2 (by rw [List.size_toArray, x.2.1]; exact hb1.there 44 (by rw [List.length_append, Kr.flt_length encRow]; omega)) (by rw [i56, List.size_toArray, x.2.1]) (all_oneCell_toArray x.2.2) ?_
  exact kk
/-- A list whose first k rows are its own, the others as they were. -/
structure CpI (w0 : World) (v : Value) (l : List Rec) (rs0 : List RowT) (k : Nat) (rs : List RowT) (B : List Nat) (w : World) : Prop where
  own : ∃ sp, OwnE eR 44 56 w v rs sp
  len : rs.length = l.length
  same : ∀ i, k ≤ i → rs[i]? = rs0[i]?
  row : ∀ (i : Nat) r u, i < k → rs[i]? = some r → l[i]? = some u → RowO w r u
  sep : ∀ (i j : Nat) r s, i < k → j < k → i ≠ j → rs[i]? = some r → rs[j]? = some s → ∀ q ∈ rb r, q ∉ rb s
  vsep : ∀ (i : Nat) r, i < k → rs[i]? = some r → ∀ q ∈ rb r, q ∉ blk v
  inv : ∀ q ∈ blk v, q ∈ B
  inr : ∀ (i : Nat) r, i < k → rs[i]? = some r → ∀ q ∈ rb r, q ∈ B
  lo : ∀ q ∈ B, w0.heap.size ≤ q ∧ q < w.heap.size
theorem CpI.start {w0 w : World} {v : Value} {l : List Rec} {rs0 : List RowT} {sp : List Value} (h : OwnE eR 44 56 w v rs0 sp) (hl : rs0.length = l.length) (hb : ∀ q ∈ blk v, w0.heap.size ≤ q) : CpI w0 v l rs0 0 rs0 (blk v) w :=
  ⟨⟨sp, h⟩, hl, fun _ _ => rfl, fun i _ _ hi => absurd hi (Nat.not_lt_zero _), fun i _ _ _ hi => absurd hi (Nat.not_lt_zero _), fun i _ hi => absurd hi (Nat.not_lt_zero _), fun _ h => h, fun i _ hi => absurd hi (Nat.not_lt_zero _), fun q hq => ⟨hb q hq, h.lt q hq⟩⟩
theorem CpI.keep {w0 w w' : World} {v : Value} {l : List Rec} {rs0 rs : List RowT} {k : Nat} {B L : List Nat} (h : CpI w0 v l rs0 k rs B w) (f : Frm L w w') (hL : ∀ i ∈ L, i ∉ B) : CpI w0 v l rs0 k rs B w' := by
  obtain ⟨sp, ho⟩ := h.own
  exact ⟨⟨sp, ho.keep f (fun i hi hm => hL i hm (h.inv i hi))⟩, h.len, h.same, fun i r u hi h1 h2 => (h.row i r u hi h1 h2).keep f (fun j hj hm => hL j hm (h.inr i r hi h1 j hj)), h.sep, h.vsep, h.inv, h.inr, fun q hq => ⟨(h.lo q hq).1, Nat.lt_of_lt_of_le (h.lo q hq).2 f.size⟩⟩
theorem CpI.done {w0 w : World} {v : Value} {l : List Rec} {rs0 rs : List RowT} {B : List Nat} (h : CpI w0 v l rs0 l.length rs B w) : Tl w0 w v l rs B := by
  have lt : ∀ (i : Nat) r, rs[i]? = some r → i < l.length := fun i r hi => by
    rcases Nat.lt_or_ge i rs.length with h1 | h1
    · have := h.len; omega
    · rw [List.getElem?_eq_none h1] at hi; cases hi
  exact ⟨h.own, h.len, fun i r u h1 h2 => h.row i r u (lt i r h1) h1 h2, fun i j r s hij h1 h2 => h.sep i j r s (lt i r h1) (lt j s h2) hij h1 h2, fun i r h1 => h.vsep i r (lt i r h1) h1, h.inv, fun i r h1 => h.inr i r (lt i r h1) h1, h.lo⟩
theorem CpI.next {w0 w w1 : World} {g n cap k : Nat} {l : List Rec} {rs0 rs : List RowT} {B : List Nat} {x : RowT} {u : Rec} (h : CpI w0 (.slice (some ⟨g, 0, none⟩) n cap) l rs0 k rs B w) (hk : k < rs.length) (hu : l[k]? = some u)
    (f : Frm [] w w1) (hx : RowO w1 x u) (hxn : ∀ q ∈ rb x, w.heap.size ≤ q) (h0 : w0.heap.size ≤ w.heap.size) : CpI w0 (.slice (some ⟨g, 0, none⟩) n cap) l rs0 (k + 1) (rs.set k x) (B ++ rb x) (w1.setCells g (k * 44) x.1) := by
  obtain ⟨sp, ho⟩ := h.own
  have hgB : g ∈ B := h.inv g (by simp [blk])
  have hgw := (h.lo g hgB).2
  have f2 : Frm [g] w1 (w1.setCells g (k * 44) x.1) := Frm.setCells _ _ _ (Frm.refl _ _) (.inl (by simp))
  have old : ∀ (i : Nat) r, i < k + 1 → (rs.set k x)[i]? = some r → (i = k ∧ r = x) ∨ (i < k ∧ rs[i]? = some r) := fun i r hi hr => by
    rcases Nat.lt_or_ge i k with q | q
    · rw [List.getElem?_set_ne (by omega)] at hr; exact .inr ⟨q, hr⟩
    · obtain rfl : i = k := by omega
      rw [List.getElem?_set_self hk] at hr; injection hr with hr
      exact .inl ⟨rfl, hr.symm⟩
  refine ⟨⟨sp, OwnR.put (ho.keep0 f) k hk x⟩, by simpa using h.len, fun i hi => by rw [List.getElem?_set_ne (by omega)]; exact h.same i (by omega), fun i r z hi h1 h2 => ?_, fun i j r s hi hj hij h1 h2 => ?_, fun i r hi h1 => ?_, fun q hq => List.mem_append_left _ (h.inv q hq), fun i r hi h1 => ?_, fun q hq => ?_⟩
  · rcases old i r hi h1 with ⟨rfl, rfl⟩ | ⟨q, h1⟩
    · rw [hu] at h2; injection h2 with h2; subst h2
      exact hx.keep f2 (fun j hj hm => by have := hxn j hj; simp at hm; omega)
    · exact ((h.row i r z q h1 h2).keep f (by simp)).keep f2 (fun j hj hm => h.vsep i r q h1 j hj (by simp at hm; simp [blk, hm]))
  · rcases old i r hi h1 with ⟨rfl, rfl⟩ | ⟨q, h5⟩ <;> rcases old j s hj h2 with ⟨e, rfl⟩ | ⟨q2, h6⟩
    · exact absurd e.symm hij
    · exact fun y hy hm => by have := hxn y hy; have := (h.lo y (h.inr j s q2 h6 y hm)).2; omega
    · exact fun y hy hm => by have := hxn y hm; have := (h.lo y (h.inr i r q h5 y hy)).2; omega
    · exact h.sep i j r s q q2 hij h5 h6
  · rcases old i r hi h1 with ⟨rfl, rfl⟩ | ⟨q, h1⟩
    · exact fun y hy hm => by have := hxn y hy; simp [blk] at hm; omega
    · exact h.vsep i r q h1
  · rcases old i r hi h1 with ⟨rfl, rfl⟩ | ⟨q, h1⟩
    · exact fun y hy => List.mem_append_right _ hy
    · exact fun y hy => List.mem_append_left _ (h.inr i r q h1 y hy)
  · have hs2 := f.size
    have hs3 := f2.size
    rcases List.mem_append.1 hq with hq | hq
    · have := h.lo q hq; exact ⟨this.1, by omega⟩
    · have := hxn q hq; have := hx.lt q hq; exact ⟨by omega, by omega⟩
end Go.Proofs.YtljhanhipmnioaaGreat.Rd

namespace Go.Proofs.YtljhanhipmnioaaGreat.Rd
open Go.RowKit
set_option linter.unusedVariables false
set_option linter.unusedSimpArgs false
set_option maxRecDepth 100000

open Pt (Pt may enc zeroPt be4 be1 pc pv PtV SlA OwnA BT wpList_load_g heap_alloc_at Ext Grew yieldsIf_ld)
open Kr (OwnE SlE Enco RowTys)

def ClRel (w V : World) (g1 : Nat) (v : Value) (l : List Rec) (rs0 : List RowT) (_ _ : Value) (c : Value) (wr : World) : Prop :=
  ∃ (k : Nat) (rs : List RowT) (B : List Nat), k ≤ l.length ∧ c = .int .i64 k ∧ CpI w v l rs0 k rs B wr ∧ Frm (blk v) V wr ∧ ∀ q ∈ B, q ∈ blk v ∨ V.heap.size ≤ q
set_option maxHeartbeats 8000000 in
theorem tableClone_any (vr vl : Value) (t : Tab) (w : World) (h : TabV w vr vl t) (hf : FitT t) : Calls Tryz.prog 167 #[tv vr vl t] w (TellT t w) := by
  obtain ⟨⟨rs0, sp0, hS, hlen, hrow⟩, sl, h2⟩ := h
  have hl9 : rs0.length ≤ 1000 := by have := hf.recs; omega
  have hl8 : t.lives.length ≤ 1000 := hf.lives
  obtain ⟨av, ac, rfl, _, _⟩ := hS.form
  obtain ⟨lv, lc, rfl, _, _⟩ := h2.form
  have HS0 := Lib.hid (fun z (f : Frm [] w z) => hS.keep0 f)
  have HL0 := Lib.hid (fun z (f : Frm [] w z) => h2.keep0 f)
  have HROW := Lib.hid hrow
  have HFT := Lib.hid hf
  have HLEN := Lib.hid hlen
  have HL8 := Lib.hid hl8
  have HL9 := Lib.hid hl9
  rw [tcA]
  have f0 : Frm [] w (w.alloc (.cells (tc (.slice av rs0.length ac) (.slice lv t.lives.length lc) t).toArray 27)) := (Frm.refl [] w).alloc _
  have b0 := TB.new w (.slice av rs0.length ac) (.slice lv t.lives.length lc) t
  obtain ⟨A, hA⟩ : ∃ A, (tc (.slice av rs0.length ac) (.slice lv t.lives.length lc) t).toArray = A := ⟨_, rfl⟩
  rw [hA] at f0 b0 ⊢
  have f1 : Frm [] (w.alloc (.cells A 27)) ((w.alloc (.cells A 27)).alloc (.cells (tc nilS nilS zeroT).toArray 27)) := (Frm.refl [] _).alloc _
  have B1 := Lib.hid (b0.keep0 f1)
  have B2 := Lib.hid (show TB ((w.alloc (.cells A 27)).alloc (.cells (tc nilS nilS zeroT).toArray 27)) (w.heap.size + 1) nilS nilS zeroT from heap_alloc_at (by simp))
  have F2 := Lib.hid (show Frm [] w ((w.alloc (.cells A 27)).alloc (.cells (tc nilS nilS zeroT).toArray 27)) from f0.trans f1 (by simp))
  clear hS h2 hf hrow hA f0 f1 b0 hl8 hl9 hlen
  go_enter Tryz.func167, Tryz.ntmps167
  go_upto_region 1 with ((with_reducible (show wpList _ _ _ (Oper.mk (some 2) (Op.alloc 27) _ _ _ _ :: _) _ _)); refine wpList_val rfl (exec_alloc27 rfl _) ?_)
  simp only [World.size_alloc]
  generalize (w.alloc (.cells A 27)).alloc (.cells (tc nilS nilS zeroT).toArray 27) = W at *
  refine wp_region_late 7 (S := fun z => TB z w.heap.size (.slice av rs0.length ac) (.slice lv t.lives.length lc) t) (by kernel_rfl) (B1.out.keep0 ((Frm.refl [] W).drew)) (fun hHeld => ?_)
  refine wpAnyL_takeP (i := 0) (oi := ⟨some 5, .fieldAddr 27 (.tmp 1) 1, _, _, _, none⟩) (v := ?_) rfl (by kernel_rfl) (by kernel_rfl) (by kernel_rfl) (fun _ _ _ h => h) (Or.inl ⟨by rfl, ?_⟩) hHeld ?_
  rotate_left
  focus (intro z hSw; clear hSw; go_simp; try with_reducible rfl)
  try simp only [Act.put, List.setIfInBounds_toArray, List.set_cons_zero, List.set_cons_succ]
  refine wpAnyL_take (i := 1) (oi := ⟨some 6, .load 22 (.tmp 5), _, _, _, none⟩) (v := ?_) rfl (by kernel_rfl) (by kernel_rfl) (by kernel_rfl) (fun _ _ _ h => h) (Or.inl ⟨by rfl, ?_⟩) hHeld ?_
  rotate_left
  focus (intro z hSw; have q := hSw.gets.recs; have q2 := hSw.gets.lives; clear hSw; go_simp; try with_reducible rfl)
  try simp only [Act.put, List.setIfInBounds_toArray, List.set_cons_zero, List.set_cons_succ]
  refine wpAnyL_takeP (i := 3) (oi := ⟨some 8, .fieldAddr 27 (.tmp 1) 3, _, _, _, none⟩) (v := ?_) rfl (by kernel_rfl) (by kernel_rfl) (by kernel_rfl) (fun _ _ _ h => h) (Or.inl ⟨by rfl, ?_⟩) hHeld ?_
  rotate_left
  focus (intro z hSw; clear hSw; go_simp; try with_reducible rfl)
  try simp only [Act.put, List.setIfInBounds_toArray, List.set_cons_zero, List.set_cons_succ]
  refine wpAnyL_take (i := 4) (oi := ⟨some 9, .load 25 (.tmp 8), _, _, _, none⟩) (v := ?_) rfl (by kernel_rfl) (by kernel_rfl) (by kernel_rfl) (fun _ _ _ h => h) (Or.inl ⟨by rfl, ?_⟩) hHeld ?_
  rotate_left
  focus (intro z hSw; have q := hSw.gets.recs; have q2 := hSw.gets.lives; clear hSw; go_simp; try with_reducible rfl)
  try simp only [Act.put, List.setIfInBounds_toArray, List.set_cons_zero, List.set_cons_succ]
  refine wpAnyL_one (i := 2) (o := ⟨some 7, .call { callee := .value (.func 208), args := #[.tmp 6], argTypes := #[22] }, _, _, _, none⟩) (by kernel_rfl) rfl (fun K hK => ?_)
  go_simp
  refine (CloneW_any _ rs0 sp0 _ (HS0.out _ (F2.out.trans (Frm.refl [] W).drew (by simp))) (by have := HL9.out; omega)).mono ?_
  rintro r w1 ⟨a1, c1, sp1, rfl, o1, f1, n1⟩
  refine hK.out _ _ ?_ (fun hNext => ?_)
  · exact hHeld.keep0 f1
  clear hK K hHeld
  have hHeld := hNext
  clear hNext
  try simp only [Act.put, List.setIfInBounds_toArray, List.set_cons_zero, List.set_cons_succ]
  refine wpAnyL_takeP (i := 6) (oi := ⟨some 11, .fieldAddr 27 (.tmp 1) 1, _, _, _, none⟩) (v := ?_) rfl (by kernel_rfl) (by kernel_rfl) (by kernel_rfl) (fun _ _ _ h => h) (Or.inl ⟨by rfl, ?_⟩) hHeld ?_
  rotate_left
  focus (intro z hSw; clear hSw; go_simp; try with_reducible rfl)
  try simp only [Act.put, List.setIfInBounds_toArray, List.set_cons_zero, List.set_cons_succ]
  refine wpAnyL_one (i := 5) (o := ⟨some 10, .call { callee := .value (.func 209), args := #[.tmp 9], argTypes := #[25] }, _, _, _, none⟩) (by kernel_rfl) rfl (fun K hK => ?_)
  go_simp
  refine (CloneI_any _ t.lives sl _ (HL0.out _ (F2.out.trans (((Frm.refl [] W).drew).trans f1 (by simp)) (by simp))) (by have := HL8.out; omega)).mono ?_
  rintro r w2 ⟨a2, c2, sp2, rfl, o2, f2, n2⟩
  refine hK.out _ _ ?_ (fun hNext => ?_)
  · exact hHeld.keep0 f2
  clear hK K hHeld
  have hHeld := hNext
  clear hNext
  try simp only [Act.put, List.setIfInBounds_toArray, List.set_cons_zero, List.set_cons_succ]
  refine wpAnyL_last (o := ⟨none, .store 22 (.tmp 11) (.tmp 7), _, _, _, none⟩) (by kernel_rfl) rfl (by simp) (fun K hK => ?_)
  have z7 := frozen_of_heap hHeld 1
  have e7 := hHeld.gets.recs
  have b7 := TB.setRecs hHeld (.slice a1 rs0.length c1) t.recs
  have f7 : Frm [w.heap.size] w2 (w2.setCell ⟨w.heap.size, 1, none⟩ (.slice a1 rs0.length c1)) := (Frm.refl _ _).setCell _ _ (by simp)
  go_simp
  refine hK.out _ _ ?_
  clear hK K hHeld
  try simp only [Act.put, List.setIfInBounds_toArray, List.set_cons_zero, List.set_cons_succ]
  refine wpAny_take (i := 8) (oi := ⟨some 12, .fieldAddr 27 (.tmp 1) 3, _, _, _, none⟩) (v := ?_) rfl (by kernel_rfl) (by kernel_rfl) (by kernel_rfl) (fun _ _ _ h => h) (Or.inl ⟨by rfl, ?_⟩) ?_
  rotate_left
  focus (intro z; go_simp; try with_reducible rfl)
  try simp only [Act.put, List.setIfInBounds_toArray, List.set_cons_zero, List.set_cons_succ]
  refine wpAny_ready (rs := [9]) (by kernel_rfl) (by simp) ?_
  refine AllReady.cons (o := ⟨none, .store 25 (.tmp 12) (.tmp 10), _, _, _, none⟩) rfl (fun K hK => ?_) AllReady.nil
  have z8 := frozen_of_heap b7 6
  have e8 := b7.gets.lives
  have b9 := TB.setLives b7 (.slice a2 t.lives.length c2) t.lives
  have f9 : Frm [w.heap.size] (w2.setCell ⟨w.heap.size, 1, none⟩ (.slice a1 rs0.length c1)) ((w2.setCell ⟨w.heap.size, 1, none⟩ (.slice a1 rs0.length c1)).setCell ⟨w.heap.size, 6, none⟩ (.slice a2 t.lives.length c2)) := (Frm.refl _ _).setCell _ _ (by simp)
  go_simp
  refine hK _ _ ?_
  clear hK K
  have f79 : Frm [w.heap.size] w2 _ := f7.trans f9 (fun i hi => .inl hi)
  clear f7 f9 z7 z8 e7 e8 b7
  generalize (w2.setCell ⟨w.heap.size, 1, none⟩ (.slice a1 rs0.length c1)).setCell ⟨w.heap.size, 6, none⟩ (.slice a2 t.lives.length c2) = V at *
  try simp only [Act.put, List.setIfInBounds_toArray, List.set_cons_zero, List.set_cons_succ]
  refine wpAny_done (by kernel_rfl) ?_ _
  have hLTW : w.heap.size + 1 < W.heap.size := B2.out.lt
  have hWs : W.drew.heap.size = W.heap.size := rfl
  have hs1 := f1.size
  have hs2 := f2.size
  have hs3 := f79.size
  have f02 : Frm [] w w2 := ((F2.out.trans (Frm.refl [] W).drew (by simp)).trans f1 (by simp)).trans f2 (by simp)
  have FV := Lib.hid (show Frm [] w V from f02.trans f79 (fun i hi => .inr (by simp at hi; omega)))
  have O1 := Lib.hid ((o1.keep0 f2).keep f79 (fun i hi hm => by have := n1 i hi; simp at hm; omega))
  have O2 := Lib.hid (o2.keep f79 (fun i hi hm => by have := n2 i hi; simp at hm; omega))
  have N1 := Lib.hid (show ∀ q ∈ blk (.slice a1 rs0.length c1), W.heap.size ≤ q from n1)
  have NL := Lib.hid (show ∀ q ∈ blk (.slice a2 t.lives.length c2), W.heap.size ≤ q ∧ q ∉ blk (.slice a1 rs0.length c1) from fun q hq => ⟨by have := n2 q hq; omega, fun hm => by have := n2 q hq; have := o1.lt q hm; omega⟩)
  have BW := Lib.hid (show w.heap.size + 1 < W.heap.size ∧ W.heap.size ≤ V.heap.size ∧ w.heap.size ≤ V.heap.size from ⟨hLTW, by omega, by omega⟩)
  have B9 := Lib.hid b9
  have R9 := Lib.hid (show TB V (w.heap.size + 1) nilS nilS zeroT from (((B2.out.keep0 (Frm.refl [] W).drew).keep0 f1).keep0 f2).keep f79 (by simp))
  have d9 := b9.gets.recs
  clear hLTW hWs hs1 hs2 hs3 f02 f1 f2 f79 o1 o2 n1 n2 b9
  go_upto_region 3 with (fail)
  clear d9
  go_loopw [3, 4, 16] (ClRel w V w.heap.size (.slice a1 rs0.length c1) t.recs rs0) (fun _ _ c _ => rs0.length - (intOf c).toNat)
  case atStart => exact ⟨0, rs0, _, Nat.zero_le _, rfl, CpI.start O1.out HLEN.out (fun q hq => by have := N1.out q hq; have := BW.out; omega), Frm.refl _ _, fun q hq => .inl hq⟩
  case round =>
    obtain ⟨k, rs, B, hk, rfl, hC, hF, hB⟩ := hrel
    have hrl := hC.len
    have bk := B9.out.keep hF (fun hm => by have := N1.out _ hm; have := BW.out; omega)
    by_cases hlt : k < rs0.length
    · have hlt9 : (k : Int) < (rs0.length : Int) := by omega
      have hk9 : (k : Int) ≤ 1000 := by have := HL9.out; omega
      have hkr : k < rs.length := by have := HLEN.out; omega
      have hkl : k < t.recs.length := by omega
      obtain ⟨sp, ho⟩ := hC.own
      obtain ⟨b, off, e⟩ := ho.sl.at (by omega)
      subst e
      have hoff : off = 0 := by
        obtain ⟨_, ⟨h2, _⟩ | ⟨g', c', h2, _⟩⟩ := ho
        · cases h2
        · injection h2 with e1; injection e1 with e1; injection e1
      subst hoff
      obtain ⟨ya, yc, ysp, hyy, hyS, hys⟩ := HROW.out k rs0[k] t.recs[k] (List.getElem?_eq_getElem hlt) (List.getElem?_eq_getElem hkl)
      have hre : rs[k] = rs0[k] := by
        have := hC.same k (Nat.le_refl _)
        rw [List.getElem?_eq_getElem hkr, List.getElem?_eq_getElem hlt] at this
        injection this
      have hG : GetsR wr b (0 + k * 44) (.slice ya (t.recs[k]).root.ads.length yc) t.recs[k] := gets_of hys (fun j u hu => by rw [Nat.add_assoc]; exact SlE.cell encRow ho.sl k hkr j (by rw [show eR rs[k] = (rs[k]).1 from rfl, hre, hyy]; exact hu))
      rw [Nat.zero_add] at hG
      have hFX := HFT.out.all _ (List.getElem_mem hkl)
      have hux : t.recs[k]? = some t.recs[k] := List.getElem?_eq_getElem hkl
      generalize hxx : t.recs[k] = x at *
      clear hxx hre hyy
      have fwr : Frm [] w wr := FV.out.trans hF (fun i hi => .inr (by have := N1.out i hi; have := BW.out; omega))
      have GA := Lib.hid hG.all
      have HYS := Lib.hid (fun z (f : Frm [] w z) => hyS.keep (w' := z) f (by simp))
      have FWR := Lib.hid fwr
      have HC := Lib.hid hC
      have HO := Lib.hid ho
      have HF := Lib.hid hF
      have HB := Lib.hid hB
      have HXS := Lib.hid hys
      have HFX := Lib.hid hFX
      have HUX := Lib.hid hux
      have HKR := Lib.hid hkr
      have HRL := Lib.hid hrl
      have BK := Lib.hid bk
      have d9 := bk.gets.recs
      clear hC ho hF hB hys hFX hux hG hyS fwr hkr hrl hkl bk
      go_upto_region 5 with (first
        | ((with_reducible (show wpList _ _ _ (Oper.mk _ (Op.load 56 _) _ _ _ _ :: _) _ _)); refine wpList_load_g (by rfl) 56 _ rfl _ rfl GA.out ?_)
        | ((with_reducible (show wpList _ _ _ (Oper.mk _ (Op.alloc 56) _ _ _ _ :: _) _ _)); refine wpList_val rfl (exec_alloc56 rfl _) ?_)
        | ((with_reducible (show wpList _ _ _ (Oper.mk _ (Op.store 56 _ _) _ _ _ _ :: _) _ _)); refine wpList_store56 rfl (.tmp 4) (.tmp 20) rfl rfl (RB.new zeroR_s) HXS.out rfl rfl ?_; intro U hU fU))
      have fU2 : Frm [] wr U := ((Frm.refl [] wr).alloc _).trans fU (fun i hi => .inr (by simp at hi; omega))
      have HU := Lib.hid hU
      have FU := Lib.hid fU2
      have BU := Lib.hid (BK.out.keep0 fU2)
      clear fU fU2 hU d9
      refine wp_region_late 6 (S := fun z => TB z w.heap.size (.slice (some ⟨b, 0, none⟩) rs0.length c1) (.slice a2 t.lives.length c2) ⟨t.next, t.recs, t.cur, t.lives⟩ ∧ RB z wr.heap.size (.slice ya x.root.ads.length yc) x) (by kernel_rfl) (⟨BU.out.keep0 (Frm.refl [] U).drew, HU.out.keep0 (Frm.refl [] U).drew⟩) (fun hHeld => ?_)
      refine wpAnyL_takeP (i := 0) (oi := ⟨some 21, .fieldAddr 27 (.tmp 1) 1, _, _, _, none⟩) (v := ?_) rfl (by kernel_rfl) (by kernel_rfl) (by kernel_rfl) (fun _ _ _ h => h) (Or.inl ⟨by rfl, ?_⟩) hHeld ?_
      rotate_left
      focus (intro z hSw; clear hSw; go_simp; try with_reducible rfl)
      try simp only [Act.put, List.setIfInBounds_toArray, List.set_cons_zero, List.set_cons_succ]
      refine wpAnyL_take (i := 1) (oi := ⟨some 22, .load 22 (.tmp 21), _, _, _, none⟩) (v := ?_) rfl (by kernel_rfl) (by kernel_rfl) (by kernel_rfl) (fun _ _ _ h => h) (Or.inl ⟨by rfl, ?_⟩) hHeld ?_
      rotate_left
      focus (intro z hSw; have q := hSw.1.gets.recs; clear hSw; go_simp; try with_reducible rfl)
      try simp only [Act.put, List.setIfInBounds_toArray, List.set_cons_zero, List.set_cons_succ]
      refine wpAnyL_takeP (i := 2) (oi := ⟨some 23, .move (.tmp 3), _, _, _, none⟩) (v := ?_) rfl (by kernel_rfl) (by kernel_rfl) (by kernel_rfl) (fun _ _ _ h => h) (Or.inl ⟨by rfl, ?_⟩) hHeld ?_
      rotate_left
      focus (intro z hSw; clear hSw; go_simp; try with_reducible rfl)
      try simp only [Act.put, List.setIfInBounds_toArray, List.set_cons_zero, List.set_cons_succ]
      refine wpAnyL_take (i := 3) (oi := ⟨some 24, .load 56 (.tmp 4), _, _, _, none⟩) rfl (by kernel_rfl) (by kernel_rfl) (by kernel_rfl) (fun _ _ _ h => h) (yieldsIf_ld (by rfl) 56 _ rfl _ rfl (fun z hSw => hSw.2.gets.all)) hHeld ?_
      try simp only [Act.put, List.setIfInBounds_toArray, List.set_cons_zero, List.set_cons_succ]
      refine wpAnyL_one (i := 4) (o := ⟨some 25, .call { callee := .value (.func 176), args := #[.tmp 24], argTypes := #[56] }, _, _, _, none⟩) (by kernel_rfl) rfl (fun K hK => ?_)
      go_simp
      refine (recordClone_any _ x _ ⟨ya, yc, ysp, rfl, HYS.out _ ((FWR.out.trans FU.out (by simp)).drew), HXS.out⟩ (by have := HFX.out.name; omega) (by have := HFX.out.ads; omega)).mono ?_
      rintro r w5 ⟨a5, c5, sp5, rfl, o5, f5, n5⟩
      refine hK.out _ _ ?_ (fun hNext => ?_)
      · exact ⟨hHeld.1.keep0 f5, hHeld.2.keep0 f5⟩
      clear hK K hHeld
      have hHeld := hNext
      clear hNext
      try simp only [Act.put, List.setIfInBounds_toArray, List.set_cons_zero, List.set_cons_succ]
      refine wpAnyL_takeP (i := 5) (oi := ⟨some 26, .indexAddr 22 (.tmp 22) (.tmp 23), _, _, _, none⟩) (v := ?_) rfl (by kernel_rfl) (by kernel_rfl) (by kernel_rfl) (fun _ _ _ h => h) (Or.inl ⟨by rfl, ?_⟩) hHeld ?_
      rotate_left
      focus (intro z hSw; clear hSw; go_simp; try with_reducible rfl)
      try simp only [Act.put, List.setIfInBounds_toArray, List.set_cons_zero, List.set_cons_succ]
      refine wpAnyL_last (o := ⟨none, .store 56 (.tmp 26) (.tmp 25), _, _, _, none⟩) (by kernel_rfl) rfl (by simp) (fun K hK => ?_)
      refine step_put56 (k := k) (x := rowR (.slice a5 x.root.ads.length c5) rfl x HXS.out) rfl (.tmp 26) (.tmp 25) rfl ((HO.out.keep0 FU.out.drew).keep0 f5) HKR.out rfl rfl ?_
      refine hK.out _ _ ?_
      clear hK K hHeld
      try simp only [Act.put, List.setIfInBounds_toArray, List.set_cons_zero, List.set_cons_succ]
      refine wpAny_done (by kernel_rfl) ?_ _
      have hnx : ∀ q ∈ rb (rowR (.slice a5 x.root.ads.length c5) rfl x HXS.out), U.heap.size ≤ q := fun q hq => by rw [rb_rc rfl] at hq; exact n5 q hq
      have fUd : Frm [] wr U.drew := FU.out.drew
      have c6 := CpI.next (x := rowR (.slice a5 x.root.ads.length c5) rfl x HXS.out) (u := x) (HC.out.keep fUd (by simp)) HKR.out HUX.out f5 ⟨a5, c5, sp5, rfl, o5, HXS.out⟩ hnx (Nat.le_trans FWR.out.size fUd.size)
      have f6 : Frm (blk (.slice (some ⟨b, 0, none⟩) rs0.length c1)) V (w5.setCells b (k * 44) (rowR (.slice a5 x.root.ads.length c5) rfl x HXS.out).1) := (HF.out.trans (fUd.trans f5 (by simp)) (by simp)).trans (Frm.setCells _ _ _ (Frm.refl [b] _) (.inl (by simp))) (fun i hi => .inl (by simpa [blk] using hi))
      have C6 := Lib.hid c6
      have F6 := Lib.hid f6
      have NX := Lib.hid hnx
      have hVU : V.heap.size ≤ U.heap.size := Nat.le_trans HF.out.size FU.out.size
      clear c6 f6 hnx fUd o5 f5 n5
      generalize w5.setCells b (k * 44) (rowR (.slice a5 x.root.ads.length c5) rfl x HXS.out).1 = w6 at *
      go_wp2_with (fail)
      go_roundw
      case rel =>
        refine ⟨k + 1, _, _, by have := HLEN.out; omega, by go_num, C6.out, F6.out, fun q hq => ?_⟩
        rcases List.mem_append.1 hq with hq | hq
        · exact HB.out q hq
        · have := NX.out q hq; exact .inr (by omega)
      case measure => simp [intOf]; omega
    · obtain rfl : k = t.recs.length := by have := HLEN.out; omega
      have hT := hC.done
      have BA := Lib.hid bk
      have HT := Lib.hid hT
      have HF := Lib.hid hF
      have HB := Lib.hid hB
      have RK := Lib.hid (R9.out.keep hF (fun hm => by have := N1.out _ hm; have := BW.out; omega))
      have OK := Lib.hid (O2.out.keep hF (fun i hi hm => (NL.out i hi).2 hm))
      have HL := HLEN.out
      clear hC hF hB hrl bk hT
      go_wp2_with (first
        | ((with_reducible (show wpList _ _ _ (Oper.mk _ (Op.load 27 _) _ _ _ _ :: _) _ _)); refine wpList_load_g (by rfl) 27 _ rfl _ rfl BA.out.gets.all ?_)
        | ((with_reducible (show wpList _ _ _ (Oper.mk _ (Op.store 27 _ _) _ _ _ _ :: _) _ _)); refine wpList_store27 rfl (.tmp 2) (.tmp 28) rfl rfl rfl RK.out rfl rfl ?_; intro W9 m9 f9))
      refine bodyPost_ret (results_cell_row (p := 2) rfl _ _ (w.heap.size + 1) 27 _ (0, 0) _ rfl m9 Tryz.underlying27 rfl (by rw [i27]; simp [tc])) rfl ?_
      have hBW : ∀ q ∈ B, W.heap.size ≤ q := fun q hq => by
        rcases HB.out q hq with h | h
        · exact N1.out q h
        · have := BW.out; omega
      refine ⟨_, _, rfl, ⟨rs, B, sp2, ?_, ?_, ?_⟩, ?_⟩
      · exact HT.out.keep f9 (fun i hi hm => by have := hBW i hm; have := BW.out; simp at hi; omega)
      · exact OK.out.keep f9 (fun i hi hm => by have := NL.out i hi; have := BW.out; simp at hm; omega)
      · exact fun q hq => ⟨by have := NL.out q hq; have := BW.out; omega, fun hm => by
          rcases HB.out q hm with h | h
          · exact (NL.out q hq).2 h
          · have := O2.out.lt q hq; omega⟩
      · exact (FV.out.trans HF.out (fun i hi => .inr (by have := N1.out i hi; have := BW.out; omega))).trans f9 (fun i hi => .inr (by simp at hi; omega))
end Go.Proofs.YtljhanhipmnioaaGreat.Rd

namespace Go.Proofs.YtljhanhipmnioaaGreat.Rd
open Go.RowKit
set_option linter.unusedVariables false
set_option linter.unusedSimpArgs false
set_option maxRecDepth 100000

open Pt (Pt may enc zeroPt be4 be1 pc pv PtV SlA OwnA BT wpList_load_g heap_alloc_at Ext Grew yieldsIf_ld)
open Kr (OwnE SlE Enco RowTys)

theorem bld27d (n : Int) (x : Option Addr) (y z : Nat) (W : World) : (Instr.build 27 #[(0, .int .i64 n), (3, .slice x y z)]).run Tryz.prog W = .ok (tv nilS (.slice x y z) ⟨n, [], zeroC, []⟩) W := by kernel_rfl
theorem exec_bld27d {o : Oper} {a : Act} {n : Int} {x : Option Addr} {y z : Nat} (p q : Operand) (hop : o.op = Op.build 27 #[(0, p), (3, q)]) (h1 : a.eval p = .int .i64 n) (h2 : a.eval q = .slice x y z) (W : World) : (execOp a.eval o).run Tryz.prog W = .ok (.value (tv nilS (.slice x y z) ⟨n, [], zeroC, []⟩)) W := by
  have hb := bld27d n x y z W
  simp only [execOp, hop, List.map_toArray, List.map_cons, List.map_nil, h1, h2, Sem.run_bind, Sem.run_pure, hb, Result.andThen_ok]
theorem info3 : ∃ i, Tryz.prog.info? 3 = some i ∧ i.zero = some (.int .i64 0) ∧ i.size = 1 ∧ i.bytes = 8 := ⟨_, rfl, by kernel_rfl, by kernel_rfl, by kernel_rfl⟩
theorem flt_zeros : ∀ n : Nat, Kr.flt eI (List.replicate n 0) = List.replicate n (Value.int .i64 0)
  | 0 => rfl
  | n + 1 => by rw [List.replicate_succ, Kr.flt_cons, flt_zeros n, List.replicate_succ]; rfl
theorem make25 (n : Nat) (hn : n ≤ 1000) : ∃ M : Array Value, M.toList = Kr.flt eI (List.replicate n 0) ∧ ∀ W : World, (Instr.makeSlice 25 (.int .i64 (n : Int)) (.int .i64 (n : Int))).run Tryz.prog W = .ok (.slice (some ⟨W.heap.size, 0, none⟩) n n) (W.alloc (.cells M 3)) := by
  obtain ⟨i0, hi, hz0, hz1, hz2⟩ := info3
  refine ⟨madeCells (Value.int .i64 0).cells (((n : Nat) : Int).toNat * i0.size), ?_, fun W => ?_⟩
  · rw [hz1, show (Value.int .i64 0).cells = #[Value.int .i64 0] from rfl, toList_madeCells_one, flt_zeros]
    simp
  · have h := run_make (P := Tryz.prog) W 25 3 i0 (.int .i64 0) Tryz.underlying25 hi hz0 .i64 .i64 (n : Int) (n : Int) (by omega) (by omega) (by rw [hz2]; omega) (by omega)
    simpa using h
set_option maxHeartbeats 1000000 in
theorem New_any (d : Int) (w : World) : Calls Tryz.prog 43 #[.int .i64 d] w (TellE (newC d) w) := by
  have f0 : Frm [] w (w.alloc (.cells (tc nilS nilS zeroT).toArray 27)) := (Frm.refl [] w).alloc _
  have b0 : TB (w.alloc (.cells (tc nilS nilS zeroT).toArray 27)) w.heap.size nilS nilS zeroT := TB.new w nilS nilS zeroT
  have F0 := Lib.hid f0
  have B0 := Lib.hid b0
  clear f0 b0
  have HN := Lib.hid (show newC d = if wi d 2 8 = true then (newT d, 0) else (zeroT, 2) from rfl)
  generalize newC d = nc at *
  cases hw : wi d 2 8 with
  | false =>
    rw [hw] at HN
    have e : nc = (zeroT, 2) := HN.out
    clear HN
    subst e
    go_enter Tryz.func43, Tryz.ntmps43
    go_upto_region 1 with ((with_reducible (show wpList _ _ _ (Oper.mk _ (Op.alloc 27) _ _ _ _ :: _) _ _)); refine wpList_val rfl (exec_alloc27 rfl _) ?_)
    generalize w.alloc (.cells (tc nilS nilS zeroT).toArray 27) = W at *
    go_wp2_with (first
      | (go_at_call 96; refine (within_dir _ _ _ _).mono ?_; rw [hw]; rintro r w1 ⟨rfl, rfl⟩)
      | ((with_reducible (show wpList _ _ _ (Oper.mk _ (Op.build 27 _) _ _ _ _ :: _) _ _)); refine wpList_val rfl (exec_bld27z rfl _) ?_)
      | ((with_reducible (show wpList _ _ _ (Oper.mk _ (Op.store 27 _ _) _ _ _ _ :: _) _ _)); refine wpList_store27 rfl (.tmp 2) (.tmp 7) rfl rfl rfl B0.out rfl rfl ?_; intro V hV fV))
    refine bodyPost_ret (results_cell_slot (p := 2) (q := 3) rfl _ _ rfl rfl (run_loadVar_row V w.heap.size 27 27 _ (0, 0) _ hV Tryz.underlying27 rfl (by rw [i27]; simp [tc]))) rfl ?_
    exact ⟨nilS, nilS, rfl, OwnTb.zero w V (Nat.le_trans F0.out.size fV.size), F0.out.trans fV (fun i hi => .inr (by simp at hi; omega))⟩
  | true =>
    rw [hw] at HN
    have e : nc = (newT d, 0) := HN.out
    clear HN
    subst e
    obtain ⟨h1, h2⟩ := wi_iff.1 hw
    obtain ⟨n, rfl⟩ : ∃ n : Nat, d = n := ⟨d.toNat, by omega⟩
    obtain ⟨M, hM, hmk⟩ := make25 n (by omega)
    have HM := Lib.hid hM
    clear hM
    go_enter Tryz.func43, Tryz.ntmps43
    go_upto_region 1 with ((with_reducible (show wpList _ _ _ (Oper.mk _ (Op.alloc 27) _ _ _ _ :: _) _ _)); refine wpList_val rfl (exec_alloc27 rfl _) ?_)
    generalize w.alloc (.cells (tc nilS nilS zeroT).toArray 27) = W at *
    have B1 := Lib.hid (B0.out.keep0 ((Frm.refl [] W).alloc (.cells M 3)))
    have F1 := Lib.hid (F0.out.trans ((Frm.refl [] W).alloc (.cells M 3)) (by simp))
    have O1 := Lib.hid (show OwnE eI 1 3 (W.alloc (.cells M 3)) (.slice (some ⟨W.heap.size, 0, none⟩) n n) (List.replicate n 0) [] from Kr.OwnE.of_heap encI (by rw [List.append_nil, ← HM.out]; exact heap_alloc_new _ _) (by simp) (Nat.le_refl _) (by simp) (by simp [maxLen]; omega))
    have SZ := Lib.hid F0.out.size
    have SW := Lib.hid (show w.heap.size < W.heap.size from B0.out.lt)
    go_wp2_with (first
      | (go_at_call 96; refine (within_dir _ _ _ _).mono ?_; rw [hw]; rintro r w1 ⟨rfl, rfl⟩)
      | ((with_reducible (show wpList _ _ _ (Oper.mk _ (Op.build 27 _) _ _ _ _ :: _) _ _)); refine wpList_val rfl (exec_bld27d _ _ rfl rfl rfl _) ?_)
      | ((with_reducible (show wpList _ _ _ (Oper.mk _ (Op.store 27 _ _) _ _ _ _ :: _) _ _)); refine wpList_store27 rfl (.tmp 2) (.tmp 10) rfl rfl rfl B1.out rfl rfl ?_; intro V hV fV))
    refine bodyPost_ret (results_cell_slot (p := 2) (q := 3) rfl _ _ rfl rfl (run_loadVar_row V w.heap.size 27 27 _ (0, 0) _ hV Tryz.underlying27 rfl (by rw [i27]; simp [tc]))) rfl ?_
    refine ⟨nilS, _, rfl, ⟨[], [], [], (Tl.nil V).base (Nat.le_trans F1.out.size fV.size), O1.out.keep fV (fun i hi hm => ?_), fun i hi => ⟨?_, by simp⟩⟩, F1.out.trans fV (fun i hi => .inr (by simp at hi; omega))⟩
    · have := SW.out; simp [blk] at hi hm; omega
    · have := SZ.out; simp [blk] at hi; omega
end Go.Proofs.YtljhanhipmnioaaGreat.Rd

namespace Go.Proofs.YtljhanhipmnioaaGreat.Rd
open Go.RowKit
set_option linter.unusedVariables false
set_option linter.unusedSimpArgs false
set_option maxRecDepth 100000

open Pt (Pt may enc zeroPt be4 be1 pc pv PtV SlA OwnA BT wpList_load_g heap_alloc_at Ext Grew yieldsIf_ld)
open Kr (OwnE SlE Enco RowTys)

section
variable {w : World} {b o : Nat} {T : TypeId} {pre row post : List Value}
theorem Blk.cellAt (h : Blk w b T (pre ++ (row ++ post))) (hp : pre.length = o) (j : Nat) {u : Value} (hu : row[j]? = some u) : w.cell? ⟨b, o + j, none⟩ = some u := by
  refine h.cell (o + j) ?_
  have hj : j < row.length := (List.getElem?_eq_some_iff.1 hu).1
  rw [← hp, List.getElem?_append_right (by omega), Nat.add_sub_cancel_left, List.getElem?_append_left hj]
  exact hu
theorem Blk.setAt (h : Blk w b T (pre ++ (row ++ post))) (hp : pre.length = o) (j : Nat) (hj : j < row.length) (u : Value) : Blk (w.setCell ⟨b, o + j, none⟩ u) b T (pre ++ (row.set j u ++ post)) := by
  have h2 : Blk w b T ((pre ++ row.take j) ++ row[j] :: (row.drop (j + 1) ++ post)) := by
    have e : row = row.take j ++ row[j] :: row.drop (j + 1) := by rw [List.getElem_cons_drop, List.take_append_drop]
    have e2 : (pre ++ row.take j) ++ row[j] :: (row.drop (j + 1) ++ post) = pre ++ (row ++ post) := by
      have e3 : row.take j ++ row[j] :: (row.drop (j + 1) ++ post) = row ++ post := by
        conv => rhs; rw [e]
        rw [List.append_assoc, List.cons_append]
      rw [List.append_assoc, e3]
    rw [e2]; exact h
  have h3 := Blk.put1 (u' := u) (o := o + j) h2 (by rw [List.length_append, List.length_take, hp]; omega)
  have e3 : (pre ++ row.take j) ++ u :: (row.drop (j + 1) ++ post) = pre ++ (row.set j u ++ post) := by
    rw [List.set_eq_take_append_cons_drop, if_pos hj]; simp
  rw [e3] at h3
  exact h3
end
/-- What a change of a record, where it stands, does. -/
def ChgR (b : Nat) (T : TypeId) (pre post : List Value) (v : Value) (x y : Rec) (w : World) (e : Ending) (w' : World) : Prop :=
  e = .returned (.tuple #[]) ∧ ∃ v', Blk w' b T (pre ++ (rc v' y ++ post)) ∧ Frm [b] w w' ∧ y.root.s.length = 32 ∧ ((v' = v ∧ y.root = x.root) ∨ ∃ a cap sp, v' = .slice a y.root.ads.length cap ∧ OwnA 148 w' v' y.root.ads sp ∧ ∀ i ∈ blk v', w.heap.size ≤ i)
theorem resize1_any (b o g : Nat) (T : TypeId) (pre post : List Value) (v : Value) (x : Rec) (n : Int) (w : World) (h : Blk w b T (pre ++ (rc v x ++ post))) (hp : pre.length = o) (hs : x.root.s.length = 32)
    (hg : w.cell? ⟨g, 0, none⟩ = some (.int .i64 n)) : Calls Tryz.prog 109 #[.pointer (some ⟨b, o, none⟩), .pointer (some ⟨g, 0, none⟩)] w (ChgR b T pre post v x (withSize x n) w) := by
  have c3 := h.cellAt hp 3 (u := .int .i64 x.size) rfl
  have z3 := h.frozen (o + 3)
  have hb := h.setAt hp 3 (by rw [rc_length hs]; omega) (.int .i64 n)
  have f := (Frm.refl [b] w).setCell ⟨b, o + 3, none⟩ (.int .i64 n) (.inl (by simp))
  have HB := Lib.hid hb
  have HF := Lib.hid f
  clear h hb f
  go_enter Tryz.func109, Tryz.ntmps109
  go_wp2_with (fail)
  go_end0
  exact ⟨rfl, v, HB.out, HF.out, hs, .inl ⟨rfl, rfl⟩⟩
theorem put11_any (b o g gt : Nat) (T : TypeId) (pre post : List Value) (v vr vl : Value) (x : Rec) (t : Tab) (w : World) (h : Blk w b T (pre ++ (rc v x ++ post))) (hp : pre.length = o) (hs : x.root.s.length = 32)
    (hg : w.cell? ⟨g, 0, none⟩ = some (.pointer (some ⟨gt, 0, none⟩))) (ht : TB w gt vr vl t) : Calls Tryz.prog 177 #[.pointer (some ⟨b, o, none⟩), .pointer (some ⟨g, 0, none⟩)] w (ChgR b T pre post v x (withId x t.next) w) := by
  have c3 := h.cellAt hp 0 (u := .int .i64 x.id) rfl
  have z3 := h.frozen (o + 0)
  have hb := h.setAt hp 0 (by rw [rc_length hs]; omega) (.int .i64 t.next)
  have f := (Frm.refl [b] w).setCell ⟨b, o + 0, none⟩ (.int .i64 t.next) (.inl (by simp))
  have q0 := ht.gets.next
  rw [Nat.add_zero] at c3 z3 hb f
  have HB := Lib.hid hb
  have HF := Lib.hid f
  clear h hb f
  go_enter Tryz.func177, Tryz.ntmps177
  go_wp2_with (fail)
  go_end0
  exact ⟨rfl, v, HB.out, HF.out, hs, .inl ⟨rfl, rfl⟩⟩
end Go.Proofs.YtljhanhipmnioaaGreat.Rd

namespace Go.Proofs.YtljhanhipmnioaaGreat.Rd
open Go.RowKit
set_option linter.unusedVariables false
set_option linter.unusedSimpArgs false
set_option maxRecDepth 100000

open Pt (Pt may enc zeroPt be4 be1 pc pv PtV SlA OwnA BT wpList_load_g heap_alloc_at Ext Grew yieldsIf_ld)
open Kr (OwnE SlE Enco RowTys)

theorem rc_split (v : Value) (x : Rec) (pre post : List Value) : pre ++ (rc v x ++ post) = (pre ++ [.int .i64 x.id, .string x.name, .int .i64 x.kind, .int .i64 x.size]) ++ (pc v x.root.b x.root.l x.root.s ++ ([.int .i64 x.made, .int .i64 x.of, .int .i64 x.origin, .int .i64 x.quota, .int .i64 x.reserve] ++ post)) := by
  simp [rc]
theorem Blk.setRoot {w : World} {b o : Nat} {T : TypeId} {pre post : List Value} {v v' : Value} {x : Rec} {p : Pt} (h : Blk w b T (pre ++ (rc v x ++ post))) (hp : pre.length = o) (hs : x.root.s.length = 32) (hq : p.s.length = 32) :
    Blk (w.setCells b (o + 4) (pc v' p.b p.l p.s)) b T (pre ++ (rc v' (withRoot x p) ++ post)) := by
  rw [rc_split] at h ⊢
  exact Blk.put h (by simp [hp]) (by simp [pc, bvs_length, hs, hq])
theorem wpList_storePt {ops : Array Oper} {rest : List Oper} {o3 : Oper} {a : Act} {W : World} {Q : Exit → Act → World → Prop} (g3 : o3.guard = none)
    (p q : Operand) (h3 : o3.op = .store 54 p q) {b o n cap : Nat} {T : TypeId} {pre post : List Value} {v : Value} {x : Rec} {c : Option Addr} {pt : Pt} (h : Blk W b T (pre ++ (rc v x ++ post))) (hp : pre.length = o) (hs : x.root.s.length = 32) (hq : pt.s.length = 32)
    (e1 : a.eval p = .pointer (some ⟨b, o + 4, none⟩)) (e2 : a.eval q = pv (.slice c n cap) pt.b pt.l pt.s)
    (k : ∀ V, Blk V b T (pre ++ (rc (.slice c n cap) (withRoot x pt) ++ post)) → Frm [b] W V → wpList Tryz.prog ops Q rest (a.put o3.dst undef) V) : wpList Tryz.prog ops Q (o3 :: rest) a W := by
  refine wpList_store_mid g3 54 p q h3 b (o + 4) (pc (.slice c n cap) pt.b pt.l pt.s).toArray e1 e2 (by rw [Pt.pc_size, hq]; exact h.there 35 (by simp [rc_length hs]; omega)) (by rw [Pt.pc_size, hq]; kernel_rfl) (Pt.pc_one _ _ _) ?_
  exact k _ (h.setRoot hp hs hq) (Frm.setCells _ _ _ (Frm.refl _ _) (.inl (by simp)))
theorem step_storePt {ops : Array Oper} {o3 : Oper} {a : Act} {W : World} {K : Act → World → Prop} {Q : Exit → Act → World → Prop} {E : Prop} (hg : o3.guard = none)
    (p q : Operand) (h3 : o3.op = .store 54 p q) {b o n cap : Nat} {T : TypeId} {pre post : List Value} {v : Value} {x : Rec} {c : Option Addr} {pt : Pt} (h : Blk W b T (pre ++ (rc v x ++ post))) (hp : pre.length = o) (hs : x.root.s.length = 32) (hq : pt.s.length = 32)
    (e1 : a.eval p = .pointer (some ⟨b, o + 4, none⟩)) (e2 : a.eval q = pv (.slice c n cap) pt.b pt.l pt.s)
    (k : ∀ V, Blk V b T (pre ++ (rc (.slice c n cap) (withRoot x pt) ++ post)) → Frm [b] W V → K (a.put o3.dst undef) V) : if Region.wanted o3 (yielded ops a.tmps) = true then Oper.wp Tryz.prog o3 a W K Q else E := by
  rw [if_pos (by simp [Region.wanted, hg])]
  refine wp_store_mid 54 p q h3 b (o + 4) (pc (.slice c n cap) pt.b pt.l pt.s).toArray e1 e2 (by rw [Pt.pc_size, hq]; exact h.there 35 (by simp [rc_length hs]; omega)) (by rw [Pt.pc_size, hq]; kernel_rfl) (Pt.pc_one _ _ _) ?_
  exact k _ (h.setRoot hp hs hq) (Frm.setCells _ _ _ (Frm.refl _ _) (.inl (by simp)))
set_option maxHeartbeats 1000000 in
theorem root1_any (b o g : Nat) (T : TypeId) (pre post : List Value) (v pvv : Value) (x : Rec) (p : Pt) (sp : List Pt.Ad) (w : World) (h : Blk w b T (pre ++ (rc v x ++ post))) (hp : pre.length = o) (hs : x.root.s.length = 32)
    (hg : Pt.PB w g pvv p.b p.l p.s) (hA : SlA w pvv p.ads sp) (hq : p.s.length = 32) (hl : p.ads.length ≤ 1000000) : Calls Tryz.prog 121 #[.pointer (some ⟨b, o, none⟩), .pointer (some ⟨g, 0, none⟩)] w (ChgR b T pre post v x (withRoot x p) w) := by
  obtain ⟨pa, pcp, rfl, _, _⟩ := hA.form
  have G := Lib.hid (hg.gets hq).all
  have HC := Lib.hid (Pt.ClonePt_any _ p w ⟨pa, pcp, sp, rfl, hA, hq⟩ hl)
  have HB := Lib.hid h
  clear h hg hA
  go_enter Tryz.func121, Tryz.ntmps121
  go_wp2_with (first
    | ((with_reducible (show wpList _ _ _ (Oper.mk _ (Op.load 54 _) _ _ _ _ :: _) _ _)); refine wpList_load_g (by rfl) 54 _ rfl _ rfl G.out ?_)
    | (go_at_call 119; refine HC.out.mono ?_; rintro r w2 ⟨a2, c2, sp2, rfl, o2, f2, n2⟩)
    | ((with_reducible (show wpList _ _ _ (Oper.mk _ (Op.store 54 _ _) _ _ _ _ :: _) _ _)); refine wpList_storePt rfl (.tmp 7) (.tmp 5) rfl (HB.out.keep0 f2) hp hs hq rfl rfl ?_; intro V hV fV))
  go_end0
  refine ⟨rfl, _, hV, (f2.mono (by simp)).trans fV (fun i hi => .inl hi), hq, .inr ⟨a2, c2, sp2, rfl, o2.keep fV (fun i hi hm => ?_), n2⟩⟩
  have := n2 i hi; have := HB.out.lt; simp at hm; omega
set_option maxHeartbeats 1000000 in
theorem rollback1_any (b o g : Nat) (T : TypeId) (pre post : List Value) (v vs : Value) (x s : Rec) (sp : List Pt.Ad) (w : World) (h : Blk w b T (pre ++ (rc v x ++ post))) (hp : pre.length = o) (hs : x.root.s.length = 32)
    (hg : RB w g vs s) (hA : SlA w vs s.root.ads sp) (hl : s.root.ads.length ≤ 1000000) (hn : g ≠ b) : Calls Tryz.prog 118 #[.pointer (some ⟨b, o, none⟩), .pointer (some ⟨g, 0, none⟩)] w (ChgR b T pre post v x (withRoot (withSize x s.size) s.root) w) := by
  obtain ⟨pa, pcp, rfl, _, _⟩ := hA.form
  have HG := Lib.hid (hg.keep0 (Frm.refl [] w).drew)
  have HC := Lib.hid (Pt.ClonePt_any _ s.root w.drew ⟨pa, pcp, sp, rfl, hA.keep (Frm.refl [] w).drew (by simp), hg.2⟩ hl)
  have HB := Lib.hid (h.keep0 (Frm.refl [] w).drew)
  have HN := Lib.hid hn
  have HQ := Lib.hid hg.2
  clear h hg hA hn
  go_enter Tryz.func118, Tryz.ntmps118
  refine wp_region_late 12 (S := fun z => RB z g (.slice pa s.root.ads.length pcp) s) (by kernel_rfl) (HG.out) (fun hHeld => ?_)
  refine wpAnyL_takeP (i := 0) (oi := ⟨some 3, .move (.tmp 0), _, _, _, none⟩) (v := ?_) rfl (by kernel_rfl) (by kernel_rfl) (by kernel_rfl) (fun _ _ _ h => h) (Or.inl ⟨by rfl, ?_⟩) hHeld ?_
  rotate_left
  focus (intro z hSw; clear hSw; go_simp; try with_reducible rfl)
  try simp only [Act.put, List.setIfInBounds_toArray, List.set_cons_zero, List.set_cons_succ]
  refine wpAnyL_takeP (i := 1) (oi := ⟨some 4, .move (.tmp 0), _, _, _, none⟩) (v := ?_) rfl (by kernel_rfl) (by kernel_rfl) (by kernel_rfl) (fun _ _ _ h => h) (Or.inl ⟨by rfl, ?_⟩) hHeld ?_
  rotate_left
  focus (intro z hSw; clear hSw; go_simp; try with_reducible rfl)
  try simp only [Act.put, List.setIfInBounds_toArray, List.set_cons_zero, List.set_cons_succ]
  refine wpAnyL_takeP (i := 2) (oi := ⟨some 5, .fieldAddr 56 (.tmp 1) 3, _, _, _, none⟩) (v := ?_) rfl (by kernel_rfl) (by kernel_rfl) (by kernel_rfl) (fun _ _ _ h => h) (Or.inl ⟨by rfl, ?_⟩) hHeld ?_
  rotate_left
  focus (intro z hSw; clear hSw; go_simp; try with_reducible rfl)
  try simp only [Act.put, List.setIfInBounds_toArray, List.set_cons_zero, List.set_cons_succ]
  refine wpAnyL_take (i := 3) (oi := ⟨some 6, .load 3 (.tmp 5), _, _, _, none⟩) (v := ?_) rfl (by kernel_rfl) (by kernel_rfl) (by kernel_rfl) (fun _ _ _ h => h) (Or.inl ⟨by rfl, ?_⟩) hHeld ?_
  rotate_left
  focus (intro z hSw; have q1 := hSw.gets.size; clear hSw; go_simp; try with_reducible rfl)
  try simp only [Act.put, List.setIfInBounds_toArray, List.set_cons_zero, List.set_cons_succ]
  refine wpAnyL_takeP (i := 4) (oi := ⟨some 7, .fieldAddr 56 (.tmp 1) 4, _, _, _, none⟩) (v := ?_) rfl (by kernel_rfl) (by kernel_rfl) (by kernel_rfl) (fun _ _ _ h => h) (Or.inl ⟨by rfl, ?_⟩) hHeld ?_
  rotate_left
  focus (intro z hSw; clear hSw; go_simp; try with_reducible rfl)
  try simp only [Act.put, List.setIfInBounds_toArray, List.set_cons_zero, List.set_cons_succ]
  refine wpAnyL_take (i := 5) (oi := ⟨some 8, .load 54 (.tmp 7), _, _, _, none⟩) rfl (by kernel_rfl) (by kernel_rfl) (by kernel_rfl) (fun _ _ _ h => h) (yieldsIf_ld (by rfl) 54 _ rfl _ rfl (fun z hSw => hSw.gets.root)) hHeld ?_
  try simp only [Act.put, List.setIfInBounds_toArray, List.set_cons_zero, List.set_cons_succ]
  refine wpAnyL_one (i := 6) (o := ⟨some 9, .call { callee := .value (.func 119), args := #[.tmp 8], argTypes := #[54] }, _, _, _, none⟩) (by kernel_rfl) rfl (fun K hK => ?_)
  go_simp
  refine HC.out.mono ?_
  rintro r w2 ⟨a2, c2, sp2, rfl, o2, f2, n2⟩
  refine hK.out _ _ ?_ (fun hNext => ?_)
  · exact hHeld.keep0 f2
  clear hK K hHeld
  have hHeld := hNext
  clear hNext
  try simp only [Act.put, List.setIfInBounds_toArray, List.set_cons_zero, List.set_cons_succ]
  refine wpAnyL_takeP (i := 7) (oi := ⟨some 10, .nilCheck (.tmp 3), _, _, _, none⟩) (v := ?_) rfl (by kernel_rfl) (by kernel_rfl) (by kernel_rfl) (fun _ _ _ h => h) (Or.inl ⟨by rfl, ?_⟩) hHeld ?_
  rotate_left
  focus (intro z hSw; clear hSw; go_simp; try with_reducible rfl)
  try simp only [Act.put, List.setIfInBounds_toArray, List.set_cons_zero, List.set_cons_succ]
  refine wpAnyL_takeP (i := 8) (oi := ⟨some 11, .fieldAddr 56 (.tmp 10) 3, _, _, _, none⟩) (v := ?_) rfl (by kernel_rfl) (by kernel_rfl) (by kernel_rfl) (fun _ _ _ h => h) (Or.inl ⟨by rfl, ?_⟩) hHeld ?_
  rotate_left
  focus (intro z hSw; clear hSw; go_simp; try with_reducible rfl)
  try simp only [Act.put, List.setIfInBounds_toArray, List.set_cons_zero, List.set_cons_succ]
  refine wpAnyL_one (i := 9) (o := ⟨none, .store 3 (.tmp 11) (.tmp 6), _, _, _, none⟩) (by kernel_rfl) rfl (fun K hK => ?_)
  have h9 := HB.out.keep0 f2
  have c9 := h9.cellAt hp 3 (u := .int .i64 x.size) rfl
  have z9 := h9.frozen (o + 3)
  have b9 := h9.setAt hp 3 (by rw [rc_length hs]; omega) (.int .i64 s.size)
  rw [show (rc v x).set 3 (.int .i64 s.size) = rc v (withSize x s.size) from rfl] at b9
  have f9 := (Frm.refl [b] w2).setCell ⟨b, o + 3, none⟩ (.int .i64 s.size) (.inl (by simp))
  go_simp
  refine hK.out _ _ ?_ (fun hNext => ?_)
  · exact hHeld.keep f9 (by have := HN.out; simpa using this)
  clear hK K hHeld
  have hHeld := hNext
  clear hNext
  try simp only [Act.put, List.setIfInBounds_toArray, List.set_cons_zero, List.set_cons_succ]
  refine wpAnyL_takeP (i := 10) (oi := ⟨some 12, .nilCheck (.tmp 4), _, _, _, none⟩) (v := ?_) rfl (by kernel_rfl) (by kernel_rfl) (by kernel_rfl) (fun _ _ _ h => h) (Or.inl ⟨by rfl, ?_⟩) hHeld ?_
  rotate_left
  focus (intro z hSw; clear hSw; go_simp; try with_reducible rfl)
  try simp only [Act.put, List.setIfInBounds_toArray, List.set_cons_zero, List.set_cons_succ]
  refine wpAnyL_takeP (i := 11) (oi := ⟨some 13, .fieldAddr 56 (.tmp 12) 4, _, _, _, none⟩) (v := ?_) rfl (by kernel_rfl) (by kernel_rfl) (by kernel_rfl) (fun _ _ _ h => h) (Or.inl ⟨by rfl, ?_⟩) hHeld ?_
  rotate_left
  focus (intro z hSw; clear hSw; go_simp; try with_reducible rfl)
  try simp only [Act.put, List.setIfInBounds_toArray, List.set_cons_zero, List.set_cons_succ]
  refine wpAnyL_last (o := ⟨none, .store 54 (.tmp 13) (.tmp 9), _, _, _, none⟩) (by kernel_rfl) rfl (by simp) (fun K hK => ?_)
  refine step_storePt rfl (.tmp 13) (.tmp 9) rfl b9 hp hs HQ.out rfl rfl ?_
  intro w12 b12 f12
  refine hK.out _ _ ?_
  clear hK K hHeld
  try simp only [Act.put, List.setIfInBounds_toArray, List.set_cons_zero, List.set_cons_succ]
  refine wpAny_done (by kernel_rfl) ?_ _
  go_end0
  refine ⟨rfl, _, b12, (((Frm.refl [] w).drew.trans f2 (by simp)).mono (by simp)).trans (f9.trans f12 (fun i hi => .inl hi)) (fun i hi => .inl hi), HQ.out, .inr ⟨a2, c2, sp2, rfl, o2.keep (f9.trans f12 (fun i hi => .inl hi)) (fun i hi hm => ?_), n2⟩⟩
  have := n2 i hi; have := HB.out.lt; simp at hm; omega
end Go.Proofs.YtljhanhipmnioaaGreat.Rd

namespace Go.Proofs.YtljhanhipmnioaaGreat.Rd
open Go.RowKit
set_option linter.unusedVariables false
set_option linter.unusedSimpArgs false
set_option maxRecDepth 100000

open Pt (Pt may enc zeroPt be4 be1 pc pv PtV SlA OwnA BT wpList_load_g heap_alloc_at Ext Grew yieldsIf_ld)
open Kr (OwnE SlE Enco RowTys)

/-- What a change of a table, where it stands, does: it stands in the block g, its blocks lie behind a world w0. -/
def ChgT (w0 : World) (g : Nat) (t' : Tab) (w : World) (e : Ending) (w' : World) : Prop :=
  e = .returned (.tuple #[]) ∧ ∃ vr vl, TB w' g vr vl t' ∧ OwnTb w0 w' vr vl t' ∧ ∃ L, Frm L w w' ∧ ∀ i ∈ L, i = g ∨ w0.heap.size ≤ i
/-- A change of a table: what it makes of t. -/
structure ChT (w : World) (F : FuncId) (cap : Array Value) (t t' : Tab) : Prop where
  enter : ∀ (u : Value) W, (callFunc F (#[u] ++ cap)).run Tryz.prog W = .ok (.enter F (#[u] ++ cap)) W
  calls : ∀ (w0 W : World) (g : Nat) (vr vl : Value), Frm [] w W → w.heap.size ≤ g → g < w0.heap.size → TB W g vr vl t → OwnTb w0 W vr vl t → Calls Tryz.prog F (#[.pointer (some ⟨g, 0, none⟩)] ++ cap) W (ChgT w0 g t' W)
theorem ChT.keep {w w' : World} {F : FuncId} {cap : Array Value} {t t' : Tab} (h : ChT w F cap t t') (f : Frm [] w w') : ChT w' F cap t t' := ⟨h.enter, fun w0 W g vr vl h1 h2 => h.calls w0 W g vr vl (f.trans h1 (by simp)) (Nat.le_trans f.size h2)⟩
set_option maxHeartbeats 4000000 in
theorem owned_any (F : FuncId) (cap : Array Value) (vr vl : Value) (t t' : Tab) (w : World) (h : TabV w vr vl t) (hf : FitT t) (hc : ChT w F cap t t') :
    Calls Tryz.prog 166 #[tv vr vl t, .func (.func 167) #[] #[], .func (.func F) #[] cap] w (TellT t' w) := by
  have eg := hc.enter
  have f0 : Frm [] w (w.alloc (.cells (tc vr vl t).toArray 27)) := (Frm.refl [] w).alloc _
  have f1 : Frm [] (w.alloc (.cells (tc vr vl t).toArray 27)) ((w.alloc (.cells (tc vr vl t).toArray 27)).alloc (.cells (tc nilS nilS zeroT).toArray 27)) := (Frm.refl [] _).alloc _
  have B1 := Lib.hid ((TB.new w vr vl t).keep0 f1)
  have B2 := Lib.hid (show TB ((w.alloc (.cells (tc vr vl t).toArray 27)).alloc (.cells (tc nilS nilS zeroT).toArray 27)) (w.heap.size + 1) nilS nilS zeroT from heap_alloc_at (by simp))
  have F2 := Lib.hid (f0.trans f1 (by simp))
  have HC := Lib.hid hc
  have HT := Lib.hid h
  have HF := Lib.hid hf
  rw [tcA]
  generalize (tc vr vl t).toArray = A at *
  clear h hf hc f0 f1
  go_enter Tryz.func166, Tryz.ntmps166
  go_upto_region 1 with ((with_reducible (show wpList _ _ _ (Oper.mk _ (Op.alloc 27) _ _ _ _ :: _) _ _)); refine wpList_val rfl (exec_alloc27 rfl _) ?_)
  simp only [World.size_alloc]
  generalize (w.alloc (.cells A 27)).alloc (.cells (tc nilS nilS zeroT).toArray 27) = W at *
  go_upto_region 2 with (first
    | ((with_reducible (show wpList _ _ _ (Oper.mk _ (Op.load 27 _) _ _ _ _ :: _) _ _)); refine wpList_load_g (by rfl) 27 _ rfl _ rfl B1.out.gets.all ?_)
    | (go_at_call 167; refine (tableClone_any vr vl t _ (HT.out.keep0 F2.out) HF.out).mono ?_; rintro r w1 ⟨vr1, vl1, rfl, o1, f1⟩)
    | ((with_reducible (show wpList _ _ _ (Oper.mk _ (Op.store 27 _ _) _ _ _ _ :: _) _ _)); refine wpList_store27 rfl (.tmp 3) (.tmp 9) rfl o1.ones.1 o1.ones.2 (B1.out.keep0 f1) rfl rfl ?_; intro w2 b2 f2))
  have SZ := Lib.hid (show w.heap.size + 1 < W.heap.size from B2.out.lt)
  have f12 : Frm [w.heap.size] W w2 := (f1.mono (by simp)).trans f2 (fun i hi => .inl hi)
  have o2 := o1.keep f2 (fun i hi => .inl (by have := SZ.out; simp at hi; omega))
  have HK := Lib.hid (HC.out.calls W w2 w.heap.size vr1 vl1 (F2.out.trans f12 (fun i hi => .inr (by simp at hi; omega))) (Nat.le_refl _) (by have := SZ.out; omega) b2 o2)
  have F12 := Lib.hid f12
  have R2 := Lib.hid ((B2.out).keep f12 (by simp))
  clear f12 o2 o1 f1 f2 b2
  go_wp2_with (fail)
  refine HK.out.mono ?_
  rintro r w3 ⟨rfl, vr3, vl3, b3, o3, L, f3, hL⟩
  have R3 := Lib.hid (R2.out.keep f3 (fun hm => by have := hL _ hm; have := SZ.out; omega))
  have G3 := Lib.hid b3.gets.all
  go_wp2_with (first
    | ((with_reducible (show wpList _ _ _ (Oper.mk _ (Op.load 27 _) _ _ _ _ :: _) _ _)); refine wpList_load_g (by rfl) 27 _ rfl _ rfl G3.out ?_)
    | ((with_reducible (show wpList _ _ _ (Oper.mk _ (Op.store 27 _ _) _ _ _ _ :: _) _ _)); refine wpList_store27 rfl (.tmp 6) (.tmp 12) rfl o3.ones.1 o3.ones.2 R3.out rfl rfl ?_; intro w4 b4 f4))
  refine bodyPost_ret (results_cell_row (p := 6) rfl _ _ (w.heap.size + 1) 27 _ (0, 0) _ rfl b4 Tryz.underlying27 rfl (by rw [i27]; simp [tc])) rfl ?_
  refine ⟨_, _, rfl, (o3.keep f4 (fun i hi => .inl (by have := SZ.out; simp at hi; omega))).base F2.out.size, ((F2.out.trans F12.out (fun i hi => .inr (by simp at hi; omega))).trans f3 (fun i hi => .inr ?_)).trans f4 (fun i hi => .inr (by simp at hi; omega))⟩
  rcases hL i hi with h | h
  · omega
  · have := SZ.out; omega
end Go.Proofs.YtljhanhipmnioaaGreat.Rd

namespace Go.Proofs.YtljhanhipmnioaaGreat.Rd
open Go.RowKit
set_option linter.unusedVariables false
set_option linter.unusedSimpArgs false
set_option maxRecDepth 100000

open Pt (Pt may enc zeroPt be4 be1 pc pv PtV SlA OwnA BT wpList_load_g heap_alloc_at Ext Grew yieldsIf_ld)
open Kr (OwnE SlE Enco RowTys)

set_option maxHeartbeats 4000000 in
theorem done_any (vr vl fv : Value) (t t' : Tab) (e : Int) (w : World) (h : TabV w vr vl t) (hf : FitT t) (hc : e = 0 → ∃ F cap, fv = .func (.func F) #[] cap ∧ ChT w F cap t t') :
    Calls Tryz.prog 104 #[tv vr vl t, .int .i64 e, fv] w (TellE (if e = 0 then (t', 0) else (zeroT, e)) w) := by
  have f0 : Frm [] w (w.alloc (.cells (tc vr vl t).toArray 27)) := (Frm.refl [] w).alloc _
  have f1 : Frm [] (w.alloc (.cells (tc vr vl t).toArray 27)) ((w.alloc (.cells (tc vr vl t).toArray 27)).alloc (.cells (tc nilS nilS zeroT).toArray 27)) := (Frm.refl [] _).alloc _
  have B1 := Lib.hid ((TB.new w vr vl t).keep0 f1)
  have B2 := Lib.hid (show TB ((w.alloc (.cells (tc vr vl t).toArray 27)).alloc (.cells (tc nilS nilS zeroT).toArray 27)) (w.heap.size + 1) nilS nilS zeroT from heap_alloc_at (by simp))
  have F2 := Lib.hid (f0.trans f1 (by simp))
  have HT := Lib.hid h
  have HF := Lib.hid hf
  rw [tcA]
  generalize (tc vr vl t).toArray = A at *
  clear h hf f0 f1
  by_cases he : e = 0
  · obtain ⟨F, cap, rfl, hch⟩ := hc he
    have HC := Lib.hid hch
    rw [if_pos he]
    subst he
    clear hc hch
    go_enter Tryz.func104, Tryz.ntmps104
    go_upto_region 1 with ((with_reducible (show wpList _ _ _ (Oper.mk _ (Op.alloc 27) _ _ _ _ :: _) _ _)); refine wpList_val rfl (exec_alloc27 rfl _) ?_)
    try simp only [World.size_alloc]
    generalize (w.alloc (.cells A 27)).alloc (.cells (tc nilS nilS zeroT).toArray 27) = W at *
    have SZ := Lib.hid (show w.heap.size + 1 < W.heap.size from B2.out.lt)
    go_wp2_with (first
      | ((with_reducible (show wpList _ _ _ (Oper.mk _ (Op.load 27 _) _ _ _ _ :: _) _ _)); refine wpList_load_g (by rfl) 27 _ rfl _ rfl B1.out.gets.all ?_)
      | (go_at_call 166; refine (owned_any F cap vr vl t t' _ (HT.out.keep0 F2.out) HF.out (HC.out.keep F2.out)).mono ?_; rintro r w1 ⟨vr1, vl1, rfl, o1, f1⟩)
      | ((with_reducible (show wpList _ _ _ (Oper.mk _ (Op.store 27 _ _) _ _ _ _ :: _) _ _)); refine wpList_store27 rfl (.tmp 6) (.tmp 14) rfl o1.ones.1 o1.ones.2 (B2.out.keep0 f1) rfl rfl ?_; intro w2 b2 f2))
    refine bodyPost_ret (results_cell_slot (p := 6) (q := 7) rfl _ _ rfl rfl (run_loadVar_row w2 (w.heap.size + 1) 27 27 _ (0, 0) _ b2 Tryz.underlying27 rfl (by rw [i27]; simp [tc]))) rfl ?_
    exact ⟨_, _, rfl, (o1.keep f2 (fun i hi => .inl (by have := SZ.out; simp at hi; omega))).base F2.out.size, (F2.out.trans f1 (by simp)).trans f2 (fun i hi => .inr (by simp at hi; omega))⟩
  · rw [if_neg he]
    clear hc
    go_enter Tryz.func104, Tryz.ntmps104
    go_upto_region 1 with ((with_reducible (show wpList _ _ _ (Oper.mk _ (Op.alloc 27) _ _ _ _ :: _) _ _)); refine wpList_val rfl (exec_alloc27 rfl _) ?_)
    try simp only [World.size_alloc]
    generalize (w.alloc (.cells A 27)).alloc (.cells (tc nilS nilS zeroT).toArray 27) = W at *
    have SZ := Lib.hid (show w.heap.size + 1 < W.heap.size from B2.out.lt)
    go_wp2_with (first
      | ((with_reducible (show wpList _ _ _ (Oper.mk _ (Op.build 27 _) _ _ _ _ :: _) _ _)); refine wpList_val rfl (exec_bld27z rfl _) ?_)
      | ((with_reducible (show wpList _ _ _ (Oper.mk _ (Op.store 27 _ _) _ _ _ _ :: _) _ _)); refine wpList_store27 rfl (.tmp 6) (.tmp 10) rfl rfl rfl B2.out rfl rfl ?_; intro w2 b2 f2))
    refine bodyPost_ret (results_cell_slot (p := 6) (q := 7) rfl _ _ rfl rfl (run_loadVar_row w2 (w.heap.size + 1) 27 27 _ (0, 0) _ b2 Tryz.underlying27 rfl (by rw [i27]; simp [tc]))) rfl ?_
    exact ⟨nilS, nilS, rfl, OwnTb.zero w w2 (Nat.le_trans F2.out.size f2.size), F2.out.trans f2 (fun i hi => .inr (by simp at hi; omega))⟩
/-- What a maker of a change tells: a closure over a block of its own. -/
def MakR (F : FuncId) (x : Rec) (sp : List Pt.Ad) (w : World) (e : Ending) (w' : World) : Prop := ∃ g v, e = .returned (.func (.func F) #[] #[.pointer (some ⟨g, 0, none⟩)]) ∧ RB w' g v x ∧ SlA w' v x.root.ads sp ∧ Frm [] w w'
set_option maxHeartbeats 1000000 in
theorem put_any (v : Value) (x : Rec) (sp : List Pt.Ad) (w : World) (hA : SlA w v x.root.ads sp) (hs : x.root.s.length = 32) : Calls Tryz.prog 115 #[rv v x] w (MakR 174 x sp w) := by
  have f0 : Frm [] w (w.alloc (.cells (rc v x).toArray 56)) := (Frm.refl [] w).alloc _
  have B0 := Lib.hid (RB.new (w := w) (v := v) hs)
  have F0 := Lib.hid f0
  have HA := Lib.hid (hA.keep f0 (by simp))
  rw [show rv v x = .agg (rc v x).toArray from rfl]
  generalize (rc v x).toArray = A at *
  clear f0 hA
  go_enter Tryz.func115, Tryz.ntmps115
  go_wp2_with (fail)
  go_ret
  exact ⟨_, v, rfl, B0.out, HA.out, F0.out⟩
theorem drop_any (n : ByteArray) (w : World) : Calls Tryz.prog 125 #[.string n] w fun e w' => ∃ g, e = .returned (.func (.func 187) #[] #[.pointer (some ⟨g, 0, none⟩)]) ∧ w'.cell? ⟨g, 0, none⟩ = some (.string n) ∧ g < w'.heap.size ∧ Frm [] w w' := by
  have f0 : Frm [] w (w.alloc (.cells #[.string n] 9)) := (Frm.refl [] w).alloc _
  have F0 := Lib.hid f0
  have C0 := Lib.hid (show (w.alloc (.cells #[.string n] 9)).cell? ⟨w.heap.size, 0, none⟩ = some (.string n) by rw [cell_of_heap (heap_alloc_new _ _)]; rfl)
  have S0 := Lib.hid (show w.heap.size < (w.alloc (.cells #[.string n] 9)).heap.size by simp)
  clear f0
  go_enter Tryz.func125, Tryz.ntmps125
  go_wp2_with (fail)
  go_ret
  exact ⟨_, rfl, C0.out, S0.out, F0.out⟩
theorem rename_any (n m : ByteArray) (w : World) : Calls Tryz.prog 105 #[.string n, .string m] w fun e w' => ∃ g h, e = .returned (.func (.func 168) #[] #[.pointer (some ⟨g, 0, none⟩), .pointer (some ⟨h, 0, none⟩)]) ∧ w'.cell? ⟨g, 0, none⟩ = some (.string n) ∧ w'.cell? ⟨h, 0, none⟩ = some (.string m) ∧ g < w'.heap.size ∧ h < w'.heap.size ∧ Frm [] w w' := by
  have F0 := Lib.hid (show Frm [] w ((w.alloc (.cells #[.string n] 9)).alloc (.cells #[.string m] 9)) from ((Frm.refl [] w).alloc _).alloc _)
  have C0 := Lib.hid (show ((w.alloc (.cells #[.string n] 9)).alloc (.cells #[.string m] 9)).cell? ⟨w.heap.size, 0, none⟩ = some (.string n) by rw [cell_of_heap (((Frm.refl [] _).alloc _).heap (heap_alloc_new w (.cells #[.string n] 9)) (by simp))]; rfl)
  have C1 := Lib.hid (show ((w.alloc (.cells #[.string n] 9)).alloc (.cells #[.string m] 9)).cell? ⟨w.heap.size + 1, 0, none⟩ = some (.string m) by rw [cell_of_heap (heap_alloc_at (by simp))]; rfl)
  have S0 := Lib.hid (show w.heap.size + 1 < ((w.alloc (.cells #[.string n] 9)).alloc (.cells #[.string m] 9)).heap.size by simp)
  go_enter Tryz.func105, Tryz.ntmps105
  go_wp2_with (fail)
  go_ret
  exact ⟨w.heap.size, w.heap.size + 1, by simp, C0.out, C1.out, by have := S0.out; omega, S0.out, F0.out⟩
end Go.Proofs.YtljhanhipmnioaaGreat.Rd

namespace Go.Proofs.YtljhanhipmnioaaGreat.Rd
open Go.RowKit
set_option linter.unusedVariables false
set_option linter.unusedSimpArgs false
set_option maxRecDepth 100000

open Pt (Pt may enc zeroPt be4 be1 pc pv PtV SlA OwnA BT wpList_load_g heap_alloc_at Ext Grew yieldsIf_ld)
open Kr (OwnE SlE Enco RowTys)

/-- A change of a record, where it stands: what it makes of x. -/
structure ChR (w : World) (F : FuncId) (cap : Array Value) (x y : Rec) : Prop where
  enter : ∀ (u : Value) W, (callFunc F (#[u] ++ cap)).run Tryz.prog W = .ok (.enter F (#[u] ++ cap)) W
  calls : ∀ (b o : Nat) (T : TypeId) (pre post : List Value) (v : Value) (W : World), Frm [] w W → w.heap.size ≤ b → Blk W b T (pre ++ (rc v x ++ post)) → pre.length = o → x.root.s.length = 32 → Calls Tryz.prog F (#[.pointer (some ⟨b, o, none⟩)] ++ cap) W (ChgR b T pre post v x y W)
theorem ChR.keep {w w' : World} {F : FuncId} {cap : Array Value} {x y : Rec} (h : ChR w F cap x y) (f : Frm [] w w') : ChR w' F cap x y := ⟨h.enter, fun b o T pre post v W h1 h2 => h.calls b o T pre post v W (f.trans h1 (by simp)) (Nat.le_trans f.size h2)⟩
theorem Tl.set {w0 w w' : World} {g n cap i : Nat} {l : List Rec} {rs : List RowT} {B : List Nat} {sp : List Value} {x y : Rec} {v v' : Value} (h : Tl w0 w (.slice (some ⟨g, 0, none⟩) n cap) l rs B) (ho : OwnE eR 44 56 w (.slice (some ⟨g, 0, none⟩) n cap) rs sp)
    (hi : i < rs.length) (hx : l[i]? = some x) (hr : (rs[i]).1 = rc v x) (hb : Blk w' g 56 (Kr.flt eR (rs.take i) ++ (rc v' y ++ (Kr.flt eR (rs.drop (i + 1)) ++ sp)))) (f : Frm [g] w w') (hy : y.root.s.length = 32) (h0 : w0.heap.size ≤ w.heap.size)
    (hv : (v' = v ∧ y.root = x.root) ∨ ∃ a cap sp, v' = .slice a y.root.ads.length cap ∧ OwnA 148 w' v' y.root.ads sp ∧ ∀ i ∈ blk v', w.heap.size ≤ i) :
    ∃ rs' B', Tl w0 w' (.slice (some ⟨g, 0, none⟩) n cap) (l.set i y) rs' B' ∧ ∀ q ∈ B', q ∈ B ∨ w.heap.size ≤ q := by
  have hgB : g ∈ B := h.inv g (by simp [blk])
  have hri : rs[i]? = some rs[i] := List.getElem?_eq_getElem hi
  have hO := h.row i rs[i] x hri hx
  have hlen := h.len
  obtain ⟨q1, q2, q3, q4⟩ := OwnE.caps encRow ho
  have hone : v'.oneCell' = true := by
    rcases hv with ⟨rfl, _⟩ | ⟨a, c, s, rfl, _⟩
    · obtain ⟨a, c, s, e, _⟩ := hO
      rw [hr] at e
      have : v' = .slice a x.root.ads.length c := by have := congrArg (·[4]?) e; simpa [rc, pc] using this
      rw [this]; rfl
    · rfl
  have hrow : RowO w' (rowR v' hone y hy) y ∧ ((rb (rowR v' hone y hy) = rb rs[i]) ∨ ∀ q ∈ rb (rowR v' hone y hy), w.heap.size ≤ q) := by
    rcases hv with ⟨rfl, e2⟩ | ⟨a, c, s, rfl, hA, hF⟩
    · refine ⟨?_, .inl ?_⟩
      · obtain ⟨a, c, s, e, hA, hw⟩ := hO
        rw [hr] at e
        have e3 : v' = .slice a x.root.ads.length c := by have := congrArg (·[4]?) e; simpa [rc, pc] using this
        subst e3
        refine ⟨a, c, s, by rw [e2]; rfl, ?_, hy⟩
        rw [e2]
        exact hA.keep f (fun q hq hm => h.vsep i _ hri q (by rw [rb_rc hr]; exact hq) (by simp at hm; simp [blk, hm]))
      · rw [rb_rc rfl, rb_rc hr]
    · exact ⟨⟨a, c, s, rfl, hA, hy⟩, .inr (fun q hq => hF q (by rw [rb_rc rfl] at hq; exact hq))⟩
  generalize hrr : rowR v' hone y hy = row at *
  have hrow1 : row.1 = rc v' y := by rw [← hrr]; rfl
  obtain ⟨hR, hBk⟩ := hrow
  have old : ∀ (j : Nat) r, (rs.set i row)[j]? = some r → (j = i ∧ r = row) ∨ (j ≠ i ∧ rs[j]? = some r) := fun j r hj => by
    by_cases e : j = i
    · subst e
      rw [List.getElem?_set_self hi] at hj; injection hj with hj
      exact .inl ⟨rfl, hj.symm⟩
    · rw [List.getElem?_set_ne (Ne.symm e)] at hj; exact .inr ⟨e, hj⟩
  have hgw := (h.lo g hgB).2
  have rbB : ∀ q ∈ rb row, q ∈ B ∨ w.heap.size ≤ q := fun q hq => by
    rcases hBk with e | e
    · rw [e] at hq; exact .inl (h.inr i _ hri q hq)
    · exact .inr (e q hq)
  have rbS : ∀ (j : Nat) r, j ≠ i → rs[j]? = some r → ∀ q ∈ rb row, q ∉ rb r := fun j r hj h1 q hq hm => by
    rcases hBk with e | e
    · rw [e] at hq; exact h.sep i j _ r (Ne.symm hj) hri h1 q hq hm
    · have := e q hq; have := (h.lo q (h.inr j r h1 q hm)).2; omega
  refine ⟨rs.set i row, B ++ rb row, ⟨⟨sp, Kr.OwnE.of_heap encRow ?_ (by simpa using q1) (by omega) (by simpa using q3) q4⟩, by simpa using hlen, fun j r u h1 h2 => ?_, fun j k r s hjk h1 h2 => ?_, fun j r h1 => ?_, fun q hq => List.mem_append_left _ (h.inv q hq), fun j r h1 => ?_, fun q hq => ?_⟩, fun q hq => ?_⟩
  · rw [flt_setrow rs i hi row]
    have := hb
    unfold Blk at this
    rw [this, show eR row = rc v' y from hrow1]
    simp
  · rcases old j r h1 with ⟨rfl, rfl⟩ | ⟨e, h1⟩
    · rw [List.getElem?_set_self (by omega)] at h2; injection h2 with h2; subst h2; exact hR
    · rw [List.getElem?_set_ne (Ne.symm e)] at h2
      exact (h.row j r u h1 h2).keep f (fun q hq hm => h.vsep j r h1 q hq (by simp at hm; simp [blk, hm]))
  · rcases old j r h1 with ⟨e1, rfl⟩ | ⟨e1, h5⟩ <;> rcases old k s h2 with ⟨e2, rfl⟩ | ⟨e2, h6⟩
    · exact absurd (e1.trans e2.symm) hjk
    · exact rbS k s e2 h6
    · exact fun q hq hm => rbS j r e1 h5 q hm hq
    · exact h.sep j k r s hjk h5 h6
  · rcases old j r h1 with ⟨e1, rfl⟩ | ⟨e1, h5⟩
    · intro q hq hm
      rcases hBk with e | e
      · rw [e] at hq; exact h.vsep i _ hri q hq hm
      · have := e q hq; simp [blk] at hm; omega
    · exact h.vsep j r h5
  · rcases old j r h1 with ⟨e1, rfl⟩ | ⟨e1, h5⟩
    · exact fun q hq => List.mem_append_right _ hq
    · exact fun q hq => List.mem_append_left _ (h.inr j r h5 q hq)
  · have hs := f.size
    rcases List.mem_append.1 hq with hq | hq
    · have := h.lo q hq; exact ⟨this.1, by omega⟩
    · have hl := hR.lt q hq
      rcases rbB q hq with h9 | h9
      · exact ⟨(h.lo q h9).1, hl⟩
      · exact ⟨by omega, hl⟩
  · rcases List.mem_append.1 hq with hq | hq
    · exact .inl hq
    · exact rbB q hq
end Go.Proofs.YtljhanhipmnioaaGreat.Rd

namespace Go.Proofs.YtljhanhipmnioaaGreat.Rd
open Go.RowKit
set_option linter.unusedVariables false
set_option linter.unusedSimpArgs false
set_option maxRecDepth 100000

open Pt (Pt may enc zeroPt be4 be1 pc pv PtV SlA OwnA BT wpList_load_g heap_alloc_at Ext Grew yieldsIf_ld)
open Kr (OwnE SlE Enco RowTys)

set_option maxHeartbeats 4000000 in
theorem set1_any (w : World) (g1 g2 i : Nat) (n : ByteArray) (F : FuncId) (cap : Array Value) (t : Tab) (x y : Rec) (hn : w.cell? ⟨g1, 0, none⟩ = some (.string n)) (hF : w.cell? ⟨g2, 0, none⟩ = some (.func (.func F) #[] cap))
    (hi : fnd n t.recs = some i) (hx : t.recs[i]? = some x) (hc : ChR w F cap x y) (hl : t.recs.length ≤ 1000) : ChT w 172 #[.pointer (some ⟨g1, 0, none⟩), .pointer (some ⟨g2, 0, none⟩)] t { t with recs := t.recs.set i y } := by
  refine ⟨fun u z => enter_of Tryz.func172 (by kernel_rfl) (by kernel_rfl) _ z, fun w0 W g vr vl f hg hg0 hT hO => ?_⟩
  have eg := hc.enter
  have l1 : g1 < w.heap.size := World.block_lt_of_cell? w _ hn
  have l2 : g2 < w.heap.size := World.block_lt_of_cell? w _ hF
  have hV := hO.v
  obtain ⟨rs, B, spl, hTl, hL, hLB⟩ := hO
  obtain ⟨sp, ho⟩ := hTl.own
  have hlen := hTl.len
  have hil : i < t.recs.length := (List.getElem?_eq_some_iff.1 hx).1
  have hir : i < rs.length := by omega
  have hB0 := fun q hq => (hTl.lo q hq).1
  obtain ⟨va, vc, rfl⟩ := hTl.form
  obtain ⟨b, off, e⟩ := ho.sl.at (by omega)
  subst e
  have hoff : off = 0 := by
    obtain ⟨_, ⟨h2, _⟩ | ⟨g', c', h2, _⟩⟩ := ho
    · cases h2
    · injection h2 with e1; injection e1 with e1; injection e1
  subst hoff
  have hbB : b ∈ B := hTl.inv b (by simp [blk])
  have hb0 := hB0 b hbB
  obtain ⟨xa, xc, xsp, hxe, hxo, hxw⟩ := hTl.row i rs[i] x (List.getElem?_eq_getElem hir) hx
  have h32 := hxw
  have hblk : Blk W b 56 (Kr.flt eR (rs.take i) ++ (rc (.slice xa x.root.ads.length xc) x ++ (Kr.flt eR (rs.drop (i + 1)) ++ sp))) := by
    have := OwnE.heap ho
    rw [flt_split rs i hir, show eR rs[i] = rc (.slice xa x.root.ads.length xc) x from hxe] at this
    unfold Blk
    rw [this]
    simp
  have hpl : (Kr.flt eR (rs.take i)).length = i * 44 := by rw [Kr.flt_length encRow, List.length_take, Nat.min_eq_left (by omega)]
  have hil9 : (i : Int) < (t.recs.length : Int) := by omega
  have hi9 : (i : Int) ≤ 1000 := by omega
  have HCF := Lib.hid (fun z (fz : Frm [] W z) => hc.calls b (i * 44) 56 _ _ _ z (f.trans fz (by simp)) (by omega) (hblk.keep0 fz) hpl hxw)
  have HFD := Lib.hid (fun z (fz : Frm [] W z) => FindP_any (.slice (some ⟨b, 0, none⟩) t.recs.length vc) vl t n z ((hTl.us).keep0 fz) hl)
  have HFV := Lib.hid (show fndV n t.recs = .tuple #[.int .i64 i, .bool true] by unfold fndV; rw [hi])
  rw [HFV.out] at HFD
  have C1 := Lib.hid (fun z (fz : Frm [] W z) => (f.trans fz (by simp)).cell hn (by simp))
  have C2 := Lib.hid (fun z (fz : Frm [] W z) => (f.trans fz (by simp)).cell hF (by simp))
  have BT := Lib.hid hT
  have NE := Lib.hid (show b ≠ g1 ∧ b ≠ g2 ∧ b ≠ g ∧ g < w0.heap.size ∧ w0.heap.size ≤ b from ⟨by omega, by omega, by omega, hg0, hb0⟩)
  have HTl := Lib.hid hTl
  have HO := Lib.hid ho
  have HX := Lib.hid hx
  have HXE := Lib.hid (show ∃ h : i < rs.length, (rs[i]).1 = rc (.slice xa x.root.ads.length xc) x from ⟨hir, hxe⟩)
  have HL := Lib.hid hL
  have HLB := Lib.hid hLB
  have SZ := Lib.hid (show w0.heap.size ≤ W.heap.size from Nat.le_of_lt (Nat.lt_of_le_of_lt hb0 (hTl.lo b hbB).2))
  clear hn hF hi hx hc hl hT hTl hL hLB hV ho hlen hil hir hB0 hbB hb0 hxe hxo hxw hblk hpl l1 l2 hg hg0 f
  show Calls Tryz.prog 172 #[.pointer (some ⟨g, 0, none⟩), .pointer (some ⟨g1, 0, none⟩), .pointer (some ⟨g2, 0, none⟩)] W _
  go_enter Tryz.func172, Tryz.ntmps172
  go_upto_region 0 with (fail)
  refine wp_region_held_drew (S := fun z => Frm [] W z) (by kernel_rfl) ((Frm.refl [] W).drew) (fun hHeld => ?_)
  refine wpAnyH_take (i := 0) (oi := ⟨some 7, .move (.tmp 0), _, _, _, none⟩) (v := ?_) rfl (by kernel_rfl) (by kernel_rfl) (by kernel_rfl) (fun _ _ _ h => h) (Or.inl ⟨by rfl, ?_⟩) hHeld ?_
  rotate_left
  focus (intro z hSw; clear hSw; go_simp; try with_reducible rfl)
  try simp only [Act.put, List.setIfInBounds_toArray, List.set_cons_zero, List.set_cons_succ]
  refine wpAnyH_take (i := 1) (oi := ⟨some 8, .nilCheck (.tmp 7), _, _, _, none⟩) (v := ?_) rfl (by kernel_rfl) (by kernel_rfl) (by kernel_rfl) (fun _ _ _ h => h) (Or.inl ⟨by rfl, ?_⟩) hHeld ?_
  rotate_left
  focus (intro z hSw; clear hSw; go_simp; try with_reducible rfl)
  try simp only [Act.put, List.setIfInBounds_toArray, List.set_cons_zero, List.set_cons_succ]
  refine wpAnyH_take (i := 2) (oi := ⟨some 9, .load 27 (.tmp 8), _, _, _, none⟩) rfl (by kernel_rfl) (by kernel_rfl) (by kernel_rfl) (fun _ _ _ h => h) (yieldsIf_ld (by rfl) 27 _ rfl _ rfl (fun z hSw => (BT.out.keep0 hSw).gets.all)) hHeld ?_
  try simp only [Act.put, List.setIfInBounds_toArray, List.set_cons_zero, List.set_cons_succ]
  refine wpAnyH_take (i := 3) (oi := ⟨some 10, .load 9 (.tmp 1), _, _, _, none⟩) (v := ?_) rfl (by kernel_rfl) (by kernel_rfl) (by kernel_rfl) (fun _ _ _ h => h) (Or.inl ⟨by rfl, ?_⟩) hHeld ?_
  rotate_left
  focus (intro z hSw; have q := C1.out z hSw; clear hSw; go_simp; try with_reducible rfl)
  try simp only [Act.put, List.setIfInBounds_toArray, List.set_cons_zero, List.set_cons_succ]
  refine wpAnyH_ready (rs := [4]) (by kernel_rfl) (by simp) ?_
  refine AllReadyH.cons (o := ⟨some 11, .call { callee := .value (.func 19), args := #[.tmp 9, .tmp 10], argTypes := #[27, 9] }, _, _, _, none⟩) rfl (fun K hK => ?_) AllReadyH.nil
  go_simp
  refine (HFD.out _ hHeld).mono ?_
  rintro r w3 ⟨rfl, f1⟩
  refine hK.out _ _ ?_ (fun hNext => ?_)
  · exact hHeld.trans f1 (by simp)
  clear hK K hHeld
  have hHeld := hNext
  clear hNext
  try simp only [Act.put, List.setIfInBounds_toArray, List.set_cons_zero, List.set_cons_succ]
  refine wpAnyH_take (i := 5) (oi := ⟨some 6, .move (.tmp 11), _, _, _, none⟩) (v := ?_) rfl (by kernel_rfl) (by kernel_rfl) (by kernel_rfl) (fun _ _ _ h => h) (Or.inl ⟨by rfl, ?_⟩) hHeld ?_
  rotate_left
  focus (intro z hSw; clear hSw; go_simp; try with_reducible rfl)
  try simp only [Act.put, List.setIfInBounds_toArray, List.set_cons_zero, List.set_cons_succ]
  refine wpAnyH_take (i := 6) (oi := ⟨some 12, .extract (.tmp 6) 0, _, _, _, none⟩) (v := ?_) rfl (by kernel_rfl) (by kernel_rfl) (by kernel_rfl) (fun _ _ _ h => h) (Or.inl ⟨by rfl, ?_⟩) hHeld ?_
  rotate_left
  focus (intro z hSw; clear hSw; go_simp; try with_reducible rfl)
  try simp only [Act.put, List.setIfInBounds_toArray, List.set_cons_zero, List.set_cons_succ]
  refine wpAnyH_take (i := 7) (oi := ⟨some 13, .extract (.tmp 6) 1, _, _, _, none⟩) (v := ?_) rfl (by kernel_rfl) (by kernel_rfl) (by kernel_rfl) (fun _ _ _ h => h) (Or.inl ⟨by rfl, ?_⟩) hHeld ?_
  rotate_left
  focus (intro z hSw; clear hSw; go_simp; try with_reducible rfl)
  try simp only [Act.put, List.setIfInBounds_toArray, List.set_cons_zero, List.set_cons_succ]
  refine wpAnyH_take (i := 8) (oi := ⟨some 4, .assign (.tmp 12), _, _, _, none⟩) (v := ?_) rfl (by kernel_rfl) (by kernel_rfl) (by kernel_rfl) (fun _ _ _ h => h) (Or.inl ⟨by rfl, ?_⟩) hHeld ?_
  rotate_left
  focus (intro z hSw; clear hSw; go_simp; try with_reducible rfl)
  try simp only [Act.put, List.setIfInBounds_toArray, List.set_cons_zero, List.set_cons_succ]
  refine wpAnyH_take (i := 9) (oi := ⟨some 5, .assign (.tmp 13), _, _, _, none⟩) (v := ?_) rfl (by kernel_rfl) (by kernel_rfl) (by kernel_rfl) (fun _ _ _ h => h) (Or.inl ⟨by rfl, ?_⟩) hHeld ?_
  rotate_left
  focus (intro z hSw; clear hSw; go_simp; try with_reducible rfl)
  try simp only [Act.put, List.setIfInBounds_toArray, List.set_cons_zero, List.set_cons_succ]
  refine wpAnyH_done (by kernel_rfl) ?_ _
  have FW5 := Lib.hid (show Frm [] W w3.drew from hHeld.drew)
  clear hHeld
  go_upto_region 1 with (fail)
  refine wp_region_held_drew (S := fun z => z.cell? ⟨g2, 0, none⟩ = some (.func (.func F) #[] cap) ∧ z.cell? ⟨g, 1, none⟩ = some (.slice (some ⟨b, 0, none⟩) t.recs.length vc)) (by kernel_rfl) (⟨C2.out _ FW5.out, (BT.out.keep0 FW5.out).gets.recs⟩) (fun hHeld => ?_)
  refine wpAnyH_take (i := 0) (oi := ⟨some 14, .load 135 (.tmp 2), _, _, _, none⟩) (v := ?_) rfl (by kernel_rfl) (by kernel_rfl) (by kernel_rfl) (fun _ _ _ h => h) (Or.inl ⟨by rfl, ?_⟩) hHeld ?_
  rotate_left
  focus (intro z hSw; have q1 := hSw.1; have q2 := hSw.2; clear hSw; go_simp; try with_reducible rfl)
  try simp only [Act.put, List.setIfInBounds_toArray, List.set_cons_zero, List.set_cons_succ]
  refine wpAnyH_take (i := 1) (oi := ⟨some 15, .move (.tmp 0), _, _, _, none⟩) (v := ?_) rfl (by kernel_rfl) (by kernel_rfl) (by kernel_rfl) (fun _ _ _ h => h) (Or.inl ⟨by rfl, ?_⟩) hHeld ?_
  rotate_left
  focus (intro z hSw; clear hSw; go_simp; try with_reducible rfl)
  try simp only [Act.put, List.setIfInBounds_toArray, List.set_cons_zero, List.set_cons_succ]
  refine wpAnyH_take (i := 2) (oi := ⟨some 16, .nilCheck (.tmp 15), _, _, _, none⟩) (v := ?_) rfl (by kernel_rfl) (by kernel_rfl) (by kernel_rfl) (fun _ _ _ h => h) (Or.inl ⟨by rfl, ?_⟩) hHeld ?_
  rotate_left
  focus (intro z hSw; clear hSw; go_simp; try with_reducible rfl)
  try simp only [Act.put, List.setIfInBounds_toArray, List.set_cons_zero, List.set_cons_succ]
  refine wpAnyH_take (i := 3) (oi := ⟨some 17, .fieldAddr 27 (.tmp 16) 1, _, _, _, none⟩) (v := ?_) rfl (by kernel_rfl) (by kernel_rfl) (by kernel_rfl) (fun _ _ _ h => h) (Or.inl ⟨by rfl, ?_⟩) hHeld ?_
  rotate_left
  focus (intro z hSw; clear hSw; go_simp; try with_reducible rfl)
  try simp only [Act.put, List.setIfInBounds_toArray, List.set_cons_zero, List.set_cons_succ]
  refine wpAnyH_take (i := 4) (oi := ⟨some 18, .load 22 (.tmp 17), _, _, _, none⟩) (v := ?_) rfl (by kernel_rfl) (by kernel_rfl) (by kernel_rfl) (fun _ _ _ h => h) (Or.inl ⟨by rfl, ?_⟩) hHeld ?_
  rotate_left
  focus (intro z hSw; have q1 := hSw.1; have q2 := hSw.2; clear hSw; go_simp; try with_reducible rfl)
  try simp only [Act.put, List.setIfInBounds_toArray, List.set_cons_zero, List.set_cons_succ]
  refine wpAnyH_take (i := 5) (oi := ⟨some 19, .move (.tmp 4), _, _, _, none⟩) (v := ?_) rfl (by kernel_rfl) (by kernel_rfl) (by kernel_rfl) (fun _ _ _ h => h) (Or.inl ⟨by rfl, ?_⟩) hHeld ?_
  rotate_left
  focus (intro z hSw; clear hSw; go_simp; try with_reducible rfl)
  try simp only [Act.put, List.setIfInBounds_toArray, List.set_cons_zero, List.set_cons_succ]
  refine wpAnyH_take (i := 6) (oi := ⟨some 20, .indexAddr 22 (.tmp 18) (.tmp 19), _, _, _, none⟩) (v := ?_) rfl (by kernel_rfl) (by kernel_rfl) (by kernel_rfl) (fun _ _ _ h => h) (Or.inl ⟨by rfl, ?_⟩) hHeld ?_
  rotate_left
  focus (intro z hSw; clear hSw; go_simp; try with_reducible rfl)
  try simp only [Act.put, List.setIfInBounds_toArray, List.set_cons_zero, List.set_cons_succ]
  refine wpAnyH_ready (rs := [7]) (by kernel_rfl) (by simp) ?_
  refine AllReadyH.cons (o := ⟨some 21, .call { callee := .value (.tmp 14), args := #[.tmp 20], argTypes := #[134] }, _, _, _, none⟩) rfl (fun K hK => ?_) AllReadyH.nil
  go_simp
  refine (HCF.out _ FW5.out).mono ?_
  rintro r w6 ⟨rfl, hpost⟩
  have hff : Frm [b] w3.drew w6 := by obtain ⟨_, _, h, _⟩ := hpost; exact h
  refine hK.out _ _ ?_ (fun hNext => ?_)
  · exact ⟨hff.cell hHeld.1 (by have := NE.out; simp; omega), hff.cell hHeld.2 (by have := NE.out; simp; omega)⟩
  clear hK K hHeld
  have hHeld := hNext
  clear hNext
  try simp only [Act.put, List.setIfInBounds_toArray, List.set_cons_zero, List.set_cons_succ]
  refine wpAnyH_done (by kernel_rfl) ?_ _
  go_end0
  obtain ⟨vf, hbf, ff, hyf, hvf⟩ := hpost
  obtain ⟨hir, hxe⟩ := HXE.out
  obtain ⟨rs', B', hT', hB'⟩ := Tl.set (HTl.out.keep0 FW5.out) (HO.out.keep0 FW5.out) hir HX.out hxe hbf ff hyf (Nat.le_trans SZ.out FW5.out.size) hvf
  refine ⟨rfl, .slice (some ⟨b, 0, none⟩) t.recs.length vc, vl, ?_, ⟨rs', B', spl, ?_, ?_, fun q hq => ⟨(HLB.out q hq).1, fun hm => ?_⟩⟩, [b], (FW5.out.mono (by simp)).trans ff (fun j hj => .inl hj), fun j hj => ?_⟩
  · exact (BT.out.keep0 FW5.out).keep ff (by have := NE.out; simp; omega)
  · exact hT'
  · exact (HL.out.keep0 FW5.out).keep ff (fun q hq hm => (HLB.out q hq).2 (by simp at hm; subst hm; exact HTl.out.inv _ (by simp [blk])))
  · rcases hB' q hm with h | h
    · exact (HLB.out q hq).2 h
    · have := HL.out.lt q hq; have := FW5.out.size; omega
  · simp at hj; subst hj; exact .inr NE.out.2.2.2.2
end Go.Proofs.YtljhanhipmnioaaGreat.Rd

namespace Go.Proofs.YtljhanhipmnioaaGreat.Rd
open Go.RowKit
set_option linter.unusedVariables false
set_option linter.unusedSimpArgs false
set_option maxRecDepth 100000

open Pt (Pt may enc zeroPt be4 be1 pc pv PtV SlA OwnA BT wpList_load_g heap_alloc_at Ext Grew yieldsIf_ld)
open Kr (OwnE SlE Enco RowTys)

theorem set_any (n : ByteArray) (F : FuncId) (cap : Array Value) (w : World) : Calls Tryz.prog 108 #[.string n, .func (.func F) #[] cap] w fun e w' => ∃ g h, e = .returned (.func (.func 172) #[] #[.pointer (some ⟨g, 0, none⟩), .pointer (some ⟨h, 0, none⟩)]) ∧ w'.cell? ⟨g, 0, none⟩ = some (.string n) ∧ w'.cell? ⟨h, 0, none⟩ = some (.func (.func F) #[] cap) ∧ Frm [] w w' := by
  have F0 := Lib.hid (show Frm [] w ((w.alloc (.cells #[.string n] 9)).alloc (.cells #[.func (.func F) #[] cap] 135)) from ((Frm.refl [] w).alloc _).alloc _)
  have C0 := Lib.hid (show ((w.alloc (.cells #[.string n] 9)).alloc (.cells #[.func (.func F) #[] cap] 135)).cell? ⟨w.heap.size, 0, none⟩ = some (.string n) by rw [cell_of_heap (((Frm.refl [] _).alloc _).heap (heap_alloc_new w (.cells #[.string n] 9)) (by simp))]; rfl)
  have C1 := Lib.hid (show ((w.alloc (.cells #[.string n] 9)).alloc (.cells #[.func (.func F) #[] cap] 135)).cell? ⟨w.heap.size + 1, 0, none⟩ = some (.func (.func F) #[] cap) by rw [cell_of_heap (heap_alloc_at (by simp))]; rfl)
  go_enter Tryz.func108, Tryz.ntmps108
  go_wp2_with (fail)
  go_ret
  exact ⟨w.heap.size, w.heap.size + 1, by simp, C0.out, C1.out, F0.out⟩
end Go.Proofs.YtljhanhipmnioaaGreat.Rd

namespace Go.Proofs.YtljhanhipmnioaaGreat.Rd
open Go.RowKit
set_option linter.unusedVariables false
set_option linter.unusedSimpArgs false
set_option maxRecDepth 100000

open Pt (Pt may enc zeroPt be4 be1 pc pv PtV SlA OwnA BT wpList_load_g heap_alloc_at Ext Grew yieldsIf_ld)
open Kr (OwnE SlE Enco RowTys)

/-- A table whose record of a name is changed. -/
def updR (t : Tab) (n : ByteArray) (f : Rec → Rec) : Tab := { t with recs := match fnd n t.recs with | some i => t.recs.set i (f (fndR n t.recs)) | none => t.recs }
theorem writeC_found {t : Tab} {n : ByteArray} {b : Bool} (h : writeC t n b = 0) : ∃ i x, fnd n t.recs = some i ∧ t.recs[i]? = some x ∧ fndR n t.recs = x := by
  cases hf : fnd n t.recs with
  | some i =>
    obtain ⟨x, hx, _⟩ := fnd_some hf
    exact ⟨i, x, rfl, hx, by simp [fndR, hf, hx]⟩
  | none =>
    exfalso
    have hi : isF n t.recs = false := by simp [isF, hf]
    unfold writeC at h
    rw [hi] at h
    simp only [orL, unl] at h
    revert h
    split <;> simp_all
theorem resize1_ch (w : World) (g : Nat) (x : Rec) (m : Int) (hg : w.cell? ⟨g, 0, none⟩ = some (.int .i64 m)) : ChR w 109 #[.pointer (some ⟨g, 0, none⟩)] x (withSize x m) :=
  ⟨fun u z => enter_of Tryz.func109 (by kernel_rfl) (by kernel_rfl) _ z, fun b o T pre post v W f hb h hp hs => resize1_any b o g T pre post v x m W h hp hs (f.cell hg (by simp))⟩
def sizeT (t : Tab) (n : ByteArray) (m : Int) : Tab × Int := if writeC t n (wi m 1 64) = 0 then (updR t n (fun x => withSize x m), 0) else (zeroT, writeC t n (wi m 1 64))
set_option maxHeartbeats 4000000 in
theorem Resize_any (vr vl : Value) (t : Tab) (n : ByteArray) (m : Int) (w : World) (h : TabV w vr vl t) (hf : FitT t) (hn : n.size ≤ 1000) : Calls Tryz.prog 49 #[tv vr vl t, .string n, .int .i64 m] w (TellE (sizeT t n m) w) := by
  have F0 := Lib.hid (show Frm [] w (((w.alloc (.cells (tc vr vl t).toArray 27)).alloc (.cells #[.int .i64 m] 3)).alloc (.cells (tc nilS nilS zeroT).toArray 27)) from (((Frm.refl [] w).alloc _).alloc _).alloc _)
  have BT := Lib.hid (((TB.new w vr vl t).keep0 ((Frm.refl [] _).alloc (.cells #[.int .i64 m] 3))).keep0 ((Frm.refl [] _).alloc (.cells (tc nilS nilS zeroT).toArray 27)))
  have C5 := Lib.hid (show (((w.alloc (.cells (tc vr vl t).toArray 27)).alloc (.cells #[.int .i64 m] 3)).alloc (.cells (tc nilS nilS zeroT).toArray 27)).cell? ⟨w.heap.size + 1, 0, none⟩ = some (.int .i64 m) by
    have : ((w.alloc (.cells (tc vr vl t).toArray 27)).alloc (.cells #[.int .i64 m] 3)).cell? ⟨w.heap.size + 1, 0, none⟩ = some (.int .i64 m) := by rw [cell_of_heap (heap_alloc_at (by simp))]; rfl
    exact ((Frm.refl [] _).alloc _).cell this (by simp))
  have R6 := Lib.hid (show TB (((w.alloc (.cells (tc vr vl t).toArray 27)).alloc (.cells #[.int .i64 m] 3)).alloc (.cells (tc nilS nilS zeroT).toArray 27)) (w.heap.size + 2) nilS nilS zeroT from heap_alloc_at (by simp))
  have HT := Lib.hid h
  have HF := Lib.hid hf
  have HNS := Lib.hid hn
  rw [tcA]
  generalize (tc vr vl t).toArray = A at *
  clear h hf hn
  go_enter Tryz.func49, Tryz.ntmps49
  go_upto_region 1 with ((with_reducible (show wpList _ _ _ (Oper.mk _ (Op.alloc 27) _ _ _ _ :: _) _ _)); refine wpList_val rfl (exec_alloc27 rfl _) ?_)
  try simp only [World.size_alloc]
  generalize ((w.alloc (.cells A 27)).alloc (.cells #[.int .i64 m] 3)).alloc (.cells (tc nilS nilS zeroT).toArray 27) = W at *
  refine wp_region_held_drew (S := fun z => Frm [] W z) (by kernel_rfl) ((Frm.refl [] W).drew) (fun hHeld => ?_)
  refine wpAnyH_take (i := 0) (oi := ⟨some 9, .load 27 (.tmp 3), _, _, _, none⟩) rfl (by kernel_rfl) (by kernel_rfl) (by kernel_rfl) (fun _ _ _ h => h) (yieldsIf_ld (by rfl) 27 _ rfl _ rfl (fun z hSw => (BT.out.keep0 hSw).gets.all)) hHeld ?_
  try simp only [Act.put, List.setIfInBounds_toArray, List.set_cons_zero, List.set_cons_succ]
  refine wpAnyH_take (i := 1) (oi := ⟨some 10, .move (.tmp 1), _, _, _, none⟩) (v := ?_) rfl (by kernel_rfl) (by kernel_rfl) (by kernel_rfl) (fun _ _ _ h => h) (Or.inl ⟨by rfl, ?_⟩) hHeld ?_
  rotate_left
  focus (intro z hSw; clear hSw; go_simp; try with_reducible rfl)
  try simp only [Act.put, List.setIfInBounds_toArray, List.set_cons_zero, List.set_cons_succ]
  refine wpAnyH_take (i := 2) (oi := ⟨some 11, .load 3 (.tmp 5), _, _, _, none⟩) (v := ?_) rfl (by kernel_rfl) (by kernel_rfl) (by kernel_rfl) (fun _ _ _ h => h) (Or.inl ⟨by rfl, ?_⟩) hHeld ?_
  rotate_left
  focus (intro z hSw; have q := hSw.cell C5.out (by simp); clear hSw; go_simp; try with_reducible rfl)
  try simp only [Act.put, List.setIfInBounds_toArray, List.set_cons_zero, List.set_cons_succ]
  refine wpAnyH_ready (rs := [3]) (by kernel_rfl) (by simp) ?_
  refine AllReadyH.cons (o := ⟨some 12, .call { callee := .value (.func 107), args := #[.tmp 11], argTypes := #[3] }, _, _, _, none⟩) rfl (fun K hK => ?_) AllReadyH.nil
  go_simp
  refine (maySize_any _ _).mono ?_
  rintro r w1 ⟨rfl, rfl⟩
  refine hK.out _ _ ?_ (fun hNext => ?_)
  · exact hHeld
  clear hK K hHeld
  have hHeld := hNext
  clear hNext
  try simp only [Act.put, List.setIfInBounds_toArray, List.set_cons_zero, List.set_cons_succ]
  refine wpAnyH_ready (rs := [4]) (by kernel_rfl) (by simp) ?_
  refine AllReadyH.cons (o := ⟨some 13, .call { callee := .value (.func 106), args := #[.tmp 9, .tmp 10, .tmp 12], argTypes := #[27, 9, 4] }, _, _, _, none⟩) rfl (fun K hK => ?_) AllReadyH.nil
  go_simp
  refine (mayWrite_any vr vl t n _ _ (HT.out.keep0 (F0.out.trans hHeld (by simp))) HF.out HNS.out).mono ?_
  rintro r w2 ⟨rfl, f2⟩
  refine hK.out _ _ ?_ (fun hNext => ?_)
  · exact hHeld.trans f2 (by simp)
  clear hK K hHeld
  have hHeld := hNext
  clear hNext
  try simp only [Act.put, List.setIfInBounds_toArray, List.set_cons_zero, List.set_cons_succ]
  refine wpAnyH_take (i := 5) (oi := ⟨some 8, .assign (.tmp 13), _, _, _, none⟩) (v := ?_) rfl (by kernel_rfl) (by kernel_rfl) (by kernel_rfl) (fun _ _ _ h => h) (Or.inl ⟨by rfl, ?_⟩) hHeld ?_
  rotate_left
  focus (intro z hSw; clear hSw; go_simp; try with_reducible rfl)
  try simp only [Act.put, List.setIfInBounds_toArray, List.set_cons_zero, List.set_cons_succ]
  refine wpAnyH_done (by kernel_rfl) ?_ _
  have FW := Lib.hid hHeld
  have HE := Lib.hid (show sizeT t n m = if writeC t n (wi m 1 64) = 0 then (updR t n (fun x => withSize x m), 0) else (zeroT, writeC t n (wi m 1 64)) from rfl)
  have HW := Lib.hid (fun (e : writeC t n (wi m 1 64) = 0) => writeC_found e)
  generalize sizeT t n m = res at *
  generalize writeC t n (wi m 1 64) = ec at *
  clear hHeld
  try clear f2
  go_upto_region 2 with (fail)
  refine wp_region_late 8 (S := fun z => Frm [] W z) (by kernel_rfl) (FW.out.drew) (fun hHeld => ?_)
  refine wpAnyL_take (i := 0) (oi := ⟨some 14, .load 27 (.tmp 3), _, _, _, none⟩) rfl (by kernel_rfl) (by kernel_rfl) (by kernel_rfl) (fun _ _ _ h => h) (yieldsIf_ld (by rfl) 27 _ rfl _ rfl (fun z hSw => (BT.out.keep0 hSw).gets.all)) hHeld ?_
  try simp only [Act.put, List.setIfInBounds_toArray, List.set_cons_zero, List.set_cons_succ]
  refine wpAnyL_takeP (i := 1) (oi := ⟨some 15, .move (.tmp 8), _, _, _, none⟩) (v := ?_) rfl (by kernel_rfl) (by kernel_rfl) (by kernel_rfl) (fun _ _ _ h => h) (Or.inl ⟨by rfl, ?_⟩) hHeld ?_
  rotate_left
  focus (intro z hSw; clear hSw; go_simp; try with_reducible rfl)
  try simp only [Act.put, List.setIfInBounds_toArray, List.set_cons_zero, List.set_cons_succ]
  refine wpAnyL_takeP (i := 2) (oi := ⟨some 16, .move (.tmp 1), _, _, _, none⟩) (v := ?_) rfl (by kernel_rfl) (by kernel_rfl) (by kernel_rfl) (fun _ _ _ h => h) (Or.inl ⟨by rfl, ?_⟩) hHeld ?_
  rotate_left
  focus (intro z hSw; clear hSw; go_simp; try with_reducible rfl)
  try simp only [Act.put, List.setIfInBounds_toArray, List.set_cons_zero, List.set_cons_succ]
  refine wpAnyL_takeP (i := 3) (oi := ⟨some 17, .makeFunc (Fn.func 109) #[] #[.tmp 5], _, _, _, none⟩) (v := ?_) rfl (by kernel_rfl) (by kernel_rfl) (by kernel_rfl) (fun _ _ _ h => h) (Or.inl ⟨by rfl, ?_⟩) hHeld ?_
  rotate_left
  focus (intro z hSw; clear hSw; go_simp; try with_reducible rfl)
  try simp only [Act.put, List.setIfInBounds_toArray, List.set_cons_zero, List.set_cons_succ]
  refine wpAnyL_one (i := 4) (o := ⟨some 18, .call { callee := .value (.func 108), args := #[.tmp 16, .tmp 17], argTypes := #[9, 135] }, _, _, _, none⟩) (by kernel_rfl) rfl (fun K hK => ?_)
  go_simp
  refine (set_any n 109 _ _).mono ?_
  rintro r w3 ⟨g, h, rfl, cg, ch, f3⟩
  refine hK.out _ _ ?_ (fun hNext => ?_)
  · exact hHeld.trans f3 (by simp)
  clear hK K hHeld
  have hHeld := hNext
  clear hNext
  try simp only [Act.put, List.setIfInBounds_toArray, List.set_cons_zero, List.set_cons_succ]
  refine wpAnyL_one (i := 5) (o := ⟨some 19, .call { callee := .value (.func 104), args := #[.tmp 14, .tmp 15, .tmp 18], argTypes := #[27, 32, 128] }, _, _, _, none⟩) (by kernel_rfl) rfl (fun K hK => ?_)
  have F34 := Lib.hid hHeld
  have hch : ec = 0 → ∃ F cap, Value.func (.func 172) #[] #[.pointer (some ⟨g, 0, none⟩), .pointer (some ⟨h, 0, none⟩)] = .func (.func F) #[] cap ∧ ChT w3 F cap t (updR t n (fun x => withSize x m)) := fun e => by
    obtain ⟨i, x, h1, h2, h3⟩ := HW.out e
    refine ⟨172, _, rfl, ?_⟩
    have := set1_any w3 g h i n 109 #[.pointer (some ⟨w.heap.size + 1, 0, none⟩)] t x (withSize x m) cg ch h1 h2 (resize1_ch w3 _ x m (F34.out.cell C5.out (by simp))) HF.out.recs
    unfold updR
    rw [h1, h3]
    exact this
  have hd := done_any vr vl _ t _ ec w3 (HT.out.keep0 (F0.out.trans hHeld (by simp))) HF.out hch
  rw [← HE.out] at hd
  have HD := Lib.hid hd
  clear hd hch
  go_simp
  refine HD.out.mono ?_
  rintro r w4 ⟨vr4, vl4, rfl, o4, f4⟩
  refine hK.out _ _ ?_ (fun hNext => ?_)
  · exact hHeld.trans f4 (by simp)
  clear hK K hHeld
  have hHeld := hNext
  clear hNext
  try simp only [Act.put, List.setIfInBounds_toArray, List.set_cons_zero, List.set_cons_succ]
  refine wpAnyL_takeP (i := 6) (oi := ⟨some 20, .extract (.tmp 19) 0, _, _, _, none⟩) (v := ?_) rfl (by kernel_rfl) (by kernel_rfl) (by kernel_rfl) (fun _ _ _ h => h) (Or.inl ⟨by rfl, ?_⟩) hHeld ?_
  rotate_left
  focus (intro z hSw; clear hSw; go_simp; try with_reducible rfl)
  try simp only [Act.put, List.setIfInBounds_toArray, List.set_cons_zero, List.set_cons_succ]
  refine wpAnyL_takeP (i := 7) (oi := ⟨some 21, .extract (.tmp 19) 1, _, _, _, none⟩) (v := ?_) rfl (by kernel_rfl) (by kernel_rfl) (by kernel_rfl) (fun _ _ _ h => h) (Or.inl ⟨by rfl, ?_⟩) hHeld ?_
  rotate_left
  focus (intro z hSw; clear hSw; go_simp; try with_reducible rfl)
  try simp only [Act.put, List.setIfInBounds_toArray, List.set_cons_zero, List.set_cons_succ]
  refine wpAnyL_last (o := ⟨none, .store 27 (.tmp 6) (.tmp 20), _, _, _, none⟩) (by kernel_rfl) rfl (by simp) (fun K hK => ?_)
  refine step_store27 rfl (.tmp 6) (.tmp 20) rfl o4.ones.1 o4.ones.2 (R6.out.keep0 (F34.out.trans f4 (by simp))) rfl rfl (fun w8 B8 f8 => ?_)
  refine hK.out _ _ ?_
  clear hK K hHeld
  try simp only [Act.put, List.setIfInBounds_toArray, List.set_cons_zero, List.set_cons_succ]
  refine wpAny_take (i := 9) (oi := ⟨some 7, .assign (.tmp 21), _, _, _, none⟩) (v := ?_) rfl (by kernel_rfl) (by kernel_rfl) (by kernel_rfl) (fun _ _ _ h => h) (Or.inl ⟨by rfl, ?_⟩) ?_
  rotate_left
  focus (intro z; go_simp; try with_reducible rfl)
  try simp only [Act.put, List.setIfInBounds_toArray, List.set_cons_zero, List.set_cons_succ]
  refine wpAny_done (by kernel_rfl) ?_ _
  have b8 := B8
  have SZ := Lib.hid (show w.heap.size + 2 < W.heap.size from R6.out.lt)
  go_wp2_with fail
  refine bodyPost_ret (results_cell_slot (p := 6) (q := 7) rfl _ _ rfl rfl (run_loadVar_row w8 (w.heap.size + 2) 27 27 _ (0, 0) _ b8 Tryz.underlying27 rfl (by rw [i27]; simp [tc]))) rfl ?_
  exact ⟨_, _, rfl, (o4.keep f8 (fun i hi => .inl (by have := SZ.out; have := F34.out.size; simp at hi; omega))).base (Nat.le_trans F0.out.size F34.out.size), ((F0.out.trans F34.out (by simp)).trans f4 (by simp)).trans f8 (fun i hi => .inr (by simp at hi; omega))⟩
end Go.Proofs.YtljhanhipmnioaaGreat.Rd

namespace Go.Proofs.YtljhanhipmnioaaGreat.Rd
open Go.RowKit
set_option linter.unusedVariables false
set_option linter.unusedSimpArgs false
set_option maxRecDepth 100000

open Pt (Pt may enc zeroPt be4 be1 pc pv PtV SlA OwnA BT wpList_load_g heap_alloc_at Ext Grew yieldsIf_ld)
open Kr (OwnE SlE Enco RowTys)

/-- How a record stands to a name. -/
def agB (x : Rec) (n : ByteArray) : Int := if lessS x.name n = true then -1 else if lessS n x.name = true then 1 else 0
set_option maxHeartbeats 2000000 in
theorem against_any (u : Value) (x : Rec) (n : ByteArray) (w : World) (h : RecV w u x) (hx : x.name.size ≤ 1000) (hn : n.size ≤ 1000) : Calls Tryz.prog 213 #[u, .string n] w fun e w' => e = .returned (.int .i64 (agB x n)) ∧ Frm [] w w' := by
  obtain ⟨a, rfl, hs, _, _⟩ := h.box
  have F0 := Lib.hid (show Frm [] w (w.alloc (.cells (rc a x).toArray 56)) from (Frm.refl [] w).alloc _)
  have BO := Lib.hid (RB.new (w := w) (v := a) hs)
  have L1 := Lib.hid (fun z => Less_any x.name n hx hn z)
  have L2 := Lib.hid (fun z => Less_any n x.name hn hx z)
  have HA := Lib.hid (show agB x n = if lessS x.name n = true then -1 else if lessS n x.name = true then 1 else 0 from rfl)
  generalize agB x n = ab at *
  generalize lessS x.name n = b1 at *
  generalize lessS n x.name = b2 at *
  generalize (rc a x).toArray = A at *
  clear h hs
  go_enter Tryz.func213, Tryz.ntmps213
  go_upto_region 1 with (fail)
  generalize w.alloc (.cells A 56) = W at *
  have GN := Lib.hid (fun z (f : Frm [] W z) => (BO.out.keep0 f).gets.name)
  have k0 := GN.out W (Frm.refl _ _)
  cases b1 with
  | true =>
    have hab : ab = -1 := HA.out
    clear HA
    subst hab
    go_wp2_with (go_at_call 193; refine (L1.out _).mono ?_; rintro r w1 ⟨rfl, f1⟩)
    go_ret
    exact ⟨rfl, F0.out.trans f1 (by simp)⟩
  | false =>
    cases b2 with
    | true =>
      have hab : ab = 1 := HA.out
      clear HA
      subst hab
      go_upto_region 3 with (go_at_call 193; refine (L1.out _).mono ?_; rintro r w1 ⟨rfl, f1⟩)
      have k1 := GN.out _ f1
      go_wp2_with (go_at_call 193; refine (L2.out _).mono ?_; rintro r w2 ⟨rfl, f2⟩)
      go_ret
      exact ⟨rfl, (F0.out.trans f1 (by simp)).trans f2 (by simp)⟩
    | false =>
      have hab : ab = 0 := HA.out
      clear HA
      subst hab
      go_upto_region 3 with (go_at_call 193; refine (L1.out _).mono ?_; rintro r w1 ⟨rfl, f1⟩)
      have k1 := GN.out _ f1
      go_wp2_with (go_at_call 193; refine (L2.out _).mono ?_; rintro r w2 ⟨rfl, f2⟩)
      go_ret
      exact ⟨rfl, (F0.out.trans f1 (by simp)).trans f2 (by simp)⟩
end Go.Proofs.YtljhanhipmnioaaGreat.Rd

namespace Go.Proofs.YtljhanhipmnioaaGreat.Rd
open Go.RowKit
set_option linter.unusedVariables false
set_option linter.unusedSimpArgs false
set_option maxRecDepth 100000

open Pt (Pt may enc zeroPt be4 be1 pc pv PtV SlA OwnA BT wpList_load_g heap_alloc_at Ext Grew yieldsIf_ld)
open Kr (OwnE SlE Enco RowTys)

/-- Where a name is to stand. -/
def BsP (rs : List Rec) (n : ByteArray) (k : Nat) : Prop := k ≤ rs.length ∧ (∀ j (h : j < rs.length), j < k → agB rs[j] n < 0) ∧ ∀ j (h : j < rs.length), k ≤ j → 0 ≤ agB rs[j] n
def BsRel (rs : List Rec) (n : ByteArray) (w : World) (c9 c10 _ : Value) (wr : World) : Prop := ∃ i j : Nat, c9 = .int .i64 i ∧ c10 = .int .i64 j ∧ i ≤ j ∧ j ≤ rs.length ∧ (∀ k (h : k < rs.length), k < i → agB rs[k] n < 0) ∧ (∀ k (h : k < rs.length), j ≤ k → 0 ≤ agB rs[k] n) ∧ Frm [] w wr
set_option maxHeartbeats 4000000 in
theorem BSearch_any (v : Value) (rs : List Rec) (n : ByteArray) (w : World) (h : Rs w v rs) (hl : rs.length ≤ 1000) (hn : n.size ≤ 1000) (hf : ∀ x ∈ rs, FitR x)
    (hm : ∀ i j (hi : i < rs.length) (hj : j < rs.length), i ≤ j → agB rs[j] n < 0 → agB rs[i] n < 0) :
    Calls Tryz.prog 212 #[v, .string n, .func (.func 213) #[] #[]] w fun e w' => ∃ (k : Nat) (b : Bool), e = .returned (.tuple #[.int .i64 k, .bool b]) ∧ BsP rs n k ∧ Frm [] w w' := by
  have hl9 : (rs.length : Int) ≤ 1000 := by omega
  have H := Lib.hid (fun z (f : Frm [] w z) => h.keep0 f)
  obtain ⟨va, vc, rfl⟩ := h.form
  have HM := Lib.hid hm
  have HF := Lib.hid hf
  clear h hm hf
  go_enter Tryz.func212, Tryz.ntmps212
  go_upto_region 3 with (fail)
  go_loopw [9, 10, 11] (BsRel rs n w) (fun c9 c10 _ _ => (intOf c10).toNat - (intOf c9).toNat)
  case atStart => exact ⟨0, rs.length, rfl, rfl, Nat.zero_le _, Nat.le_refl _, fun k _ hk => absurd hk (Nat.not_lt_zero _), fun k h hk => absurd hk (by omega), Frm.refl _ _⟩
  case round =>
    obtain ⟨i, j, rfl, rfl, hij, hj, hlo, hhi, f⟩ := hrel
    have HLO := Lib.hid hlo
    have HHI := Lib.hid hhi
    have FW := Lib.hid f
    clear hlo hhi f
    by_cases hlt : i < j
    · have hlt9 : (i : Int) < (j : Int) := by omega
      have hj9 : (j : Int) ≤ (rs.length : Int) := by omega
      have hi9 : (0 : Int) ≤ (i : Int) := by omega
      go_upto_region 5 with (fail)
      obtain ⟨m, hmm⟩ : ∃ m : Nat, ((i : Int) + (j : Int)) / 2 = (m : Int) := ⟨(i + j) / 2, by omega⟩
      have h1 : i ≤ m := by omega
      have h2 : m < j := by omega
      rw [hmm]
      clear hmm
      have hml : m < rs.length := by omega
      have hml9 : (m : Int) < (rs.length : Int) := by omega
      have hm9 : (0 : Int) ≤ (m : Int) := by omega
      obtain ⟨b, off, cp, e⟩ := (H.out wr FW.out).at (by omega)
      cases e
      obtain ⟨xa, xc, G, XV⟩ := (H.out wr FW.out).gets m hml
      have GA := Lib.hid G.all
      have HC := Lib.hid (against_any _ rs[m] n wr XV (HF.out _ (List.getElem_mem hml)).name hn)
      have HLT := Lib.hid (fun (e : agB rs[m] n < 0) => (show ∀ k (h : k < rs.length), k < m + 1 → agB rs[k] n < 0 from fun k h hk => HM.out k m h hml (by omega) e))
      have HGE := Lib.hid (fun (e : ¬ agB rs[m] n < 0) => (show ∀ k (h : k < rs.length), m ≤ k → 0 ≤ agB rs[k] n from fun k h hk => by
        rcases Int.lt_or_le (agB rs[k] n) 0 with q | q
        · exact absurd (HM.out m k hml h hk q) e
        · exact q))
      clear G XV
      generalize agB rs[m] n = ag at *
      by_cases hag : ag < 0
      · have HL := Lib.hid (HLT.out hag)
        clear HLT HGE
        go_wp2_with (first
          | ((with_reducible (show wpList _ _ _ (Oper.mk _ (Op.load 56 _) _ _ _ _ :: _) _ _)); refine wpList_load_g (by rfl) 56 _ rfl _ rfl GA.out ?_)
          | (go_at_call 213; refine HC.out.mono ?_; rintro r w1 ⟨rfl, f1⟩))
        go_roundw
        case rel => exact ⟨m + 1, j, by go_num, rfl, by omega, hj, HL.out, HHI.out, FW.out.trans f1 (by simp)⟩
        case measure => simp [intOf]; omega
      · have HL := Lib.hid (HGE.out hag)
        clear HLT HGE
        go_wp2_with (first
          | ((with_reducible (show wpList _ _ _ (Oper.mk _ (Op.load 56 _) _ _ _ _ :: _) _ _)); refine wpList_load_g (by rfl) 56 _ rfl _ rfl GA.out ?_)
          | (go_at_call 213; refine HC.out.mono ?_; rintro r w1 ⟨rfl, f1⟩))
        go_roundw
        case rel => exact ⟨i, m, rfl, rfl, by omega, by omega, HLO.out, HL.out, FW.out.trans f1 (by simp)⟩
        case measure => simp [intOf]; omega
    · obtain rfl : i = j := by omega
      have HP := Lib.hid (show BsP rs n i from ⟨hj, HLO.out, HHI.out⟩)
      by_cases hir : i < rs.length
      · have hir9 : (i : Int) < (rs.length : Int) := by omega
        have hi9 : (0 : Int) ≤ (i : Int) := by omega
        obtain ⟨b, off, cp, e⟩ := (H.out wr FW.out).at (by omega)
        cases e
        obtain ⟨xa, xc, G, XV⟩ := (H.out wr FW.out).gets i hir
        have GA := Lib.hid G.all
        have HC := Lib.hid (against_any _ rs[i] n wr XV (HF.out _ (List.getElem_mem hir)).name hn)
        clear G XV
        generalize agB rs[i] n = ag at *
        go_wp2_with (first
          | ((with_reducible (show wpList _ _ _ (Oper.mk _ (Op.load 56 _) _ _ _ _ :: _) _ _)); refine wpList_load_g (by rfl) 56 _ rfl _ rfl GA.out ?_)
          | (go_at_call 213; refine HC.out.mono ?_; rintro r w1 ⟨rfl, f1⟩))
        all_goals go_ret2
        all_goals exact ⟨i, _, rfl, HP.out, FW.out.trans f1 (by simp)⟩
      · have hir9 : ¬ (i : Int) < (rs.length : Int) := by omega
        go_wp2_with (fail)
        go_ret2
        refine ⟨i, ?_, HP.out, FW.out⟩
        first | exact ⟨_, rfl⟩ | exact Or.inl rfl | exact Or.inr rfl
end Go.Proofs.YtljhanhipmnioaaGreat.Rd
