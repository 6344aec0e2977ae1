/-
  The records of a table, of the document. No conditions but those that each theorem names. Check, the program and the document. No conditions but those that each theorem names. Boxes of records, field by field. No conditions but those that each theorem names.
-/
import Derived.Test.YtljhanhipmnioaaGreatMRa1
import Derived.Test.YtljhanhipmnioaaGreatMRa2
import Derived.Test.YtljhanhipmnioaaGreatMRa3
import Derived.Test.YtljhanhipmnioaaGreatMRa4
import Derived.Test.YtljhanhipmnioaaGreatMRa5
import Derived.Test.YtljhanhipmnioaaGreatMRa6
import Derived.Test.YtljhanhipmnioaaGreatMRa7
import Derived.Test.YtljhanhipmnioaaGreatMRa8
import Derived.Test.YtljhanhipmnioaaGreatMRa9
import Derived.Test.YtljhanhipmnioaaGreatMRa10
import Derived.Test.YtljhanhipmnioaaGreatMRb1
import Derived.Test.YtljhanhipmnioaaGreatMRf1
import Derived.OrdersHeld
import Derived.WalkKit
import Derived.WalkSpells
import Derived.WalkLawsBesides
import Derived.Deep.AppendSrc
import Derived.Laws.CopyOwn
import Derived.Laws.BytesArg
import Derived.Carry
import Derived.Laws.BytesString
import Derived.Deep.SlicePairs
import Derived.Deep.Cut
import Derived.Lib.Hide
import Derived.Test.YtljhanhipmnioaaGreatChecked
import Derived.ChangeKeysEq
import Derived.Deep.MidRow
import Derived.Deep.RegionHeld3
import Derived.OpenShut
import Derived.WalkHide
import Derived.IntWalk
import Derived.StillTailTactics
import Derived.Deep.RegionLaw
import Derived.Deep.RegionWith
import Derived.Deep.QuietTactic
import Derived.BigQuiet
import Derived.Deep.CutBlock
import Derived.Deep.DeepCutAuto
import Derived.Deep.Slices
import Derived.Defers
import Derived.Recover
import Derived.Deep.WholeRow
import Derived.Lib.Bytealg
import Derived.Lib.TrimUEq
import Derived.Lib.MinMaxS
import Derived.LaidEqlPtr
import Derived.Lib.OthersKept
import Derived.Deep.Draws
import Derived.WalkMore
import Derived.Deep.LoopGhost
import Derived.Lib.BufferWrite
import Derived.Lib.UnsafeStr
import Derived.Laws.MakeOwn
import Derived.Laws.Strings3
import Derived.BigRegion
import Derived.Lib.Walk
import Derived.Great.Walk
namespace Go.Proofs.YtljhanhipmnioaaGreat.Rd
open Go.RowKit
set_option linter.unusedVariables false
set_option linter.unusedSimpArgs false
set_option maxRecDepth 100000

open Pt (Pt may enc readPt readE zeroPt be4 be1 pc pv PtV SlA OwnA BT wpList_load_g heap_alloc_at lst_slB one_slB Ext Grew exec_slice_lh yieldsIf_ld)
open Kr (OwnE SlE Enco RowTys)

theorem allB_no {next : Int} {rs : List Rec} {i : Nat} (h : i < rs.length) (hs : stand next rs i rs[i] = false) : allB next rs = false := by
  cases hb : allB next rs with
  | false => rfl
  | true => have := allB_rec hb (List.getElem?_eq_getElem h); rw [hs] at this; cases this
theorem allB_yes {next : Int} {rs : List Rec} (h : ∀ i (h : i < rs.length), stand next rs i rs[i] = true) : allB next rs = true :=
  allB_iff.2 fun i x hx => by
    obtain ⟨h1, h2⟩ := List.getElem?_eq_some_iff.1 hx
    rw [← h2]; exact h i h1
def RecsRel (next : Int) (rs : List Rec) (w0 : World) (cv : Value) (wr : World) : Prop := ∃ k : Nat, k ≤ rs.length ∧ cv = .int .i64 k ∧ (∀ j (h : j < rs.length), j < k → stand next rs j rs[j] = true) ∧ Frm [] w0 wr
def InnRel (rs : List Rec) (i : Nat) (id : Int) (w0 : World) (cv : Value) (wr : World) : Prop := ∃ k : Nat, k ≤ i ∧ cv = .int .i64 k ∧ (∀ j (h : j < rs.length), j < k → (rs[j]).id ≠ id) ∧ Frm [] w0 wr
theorem uniq_yes {rs : List Rec} {i : Nat} {id : Int} (hi : i ≤ rs.length) (h : ∀ j (h : j < rs.length), j < i → (rs[j]).id ≠ id) : ((rs.take i).all fun y => y.id != id) = true := by
  rw [List.all_eq_true]
  intro y hy
  obtain ⟨j, hj, rfl⟩ := List.getElem_of_mem hy
  have hj' : j < i := by simp at hj; omega
  have := h j (by omega) hj'
  simpa using this
theorem uniq_no {rs : List Rec} {i j : Nat} {id : Int} (hj : j < rs.length) (hji : j < i) (h : (rs[j]).id = id) : ((rs.take i).all fun y => y.id != id) = false := by
  rw [List.all_eq_false]
  refine ⟨rs[j], List.mem_of_getElem? (i := j) (by rw [List.getElem?_take_of_lt hji]; exact List.getElem?_eq_getElem hj), by simp [h]⟩
set_option maxHeartbeats 8000000 in
theorem records_any (vr vl : Value) (t : Tab) (w : World) (hR : Rs w vr t.recs) (hl : t.recs.length ≤ 1000) (hf : ∀ x ∈ t.recs, FitR x) : Calls Tryz.prog 70 #[tv vr vl t] w fun e w' => e = .returned (.bool (allB t.next t.recs)) ∧ Frm [] w w' := by
  have f0 : Frm [] w (w.alloc (.cells (tc vr vl t).toArray 27)) := (Frm.refl [] w).alloc _
  have B := Lib.hid (TB.new w vr vl t)
  have HKIN := Lib.hid (fun z u x (f : Frm [] w z) (hm : x ∈ t.recs) (h : RecV z u x) => kin_any vr vl u t x z h (hf x hm) (hR.keep0 f) hl)
  unfold tv
  have HTV := Lib.hid (show tv vr vl t = .agg (tc vr vl t).toArray from rfl)
  generalize (tc vr vl t).toArray = A at *
  have HR := Lib.hid (hR.keep0 f0)
  have F := Lib.hid f0
  have HT := Lib.hid (fun z (f : Frm [] (w.alloc (.cells A 27)) z) => (B.out.keep0 f).gets)
  have HF := Lib.hid hf
  have hl9 : (t.recs.length : Int) ≤ 1000 := by omega
  clear hR f0 B hf
  generalize hgz : w.heap.size = g at *
  obtain ⟨av, ac, rfl⟩ := HR.out.form
  go_enter Tryz.func70, Tryz.ntmps70
  go_upto_region 1 with (fail)
  generalize w.alloc (.cells A 27) = W at *
  go_upto_region 2 with (fail)
  go_loopw [3] (RecsRel t.next t.recs W) (fun c _ => t.recs.length - (intOf c).toNat)
  case atStart => exact ⟨0, Nat.zero_le _, rfl, fun j _ hj => by omega, Frm.refl _ _⟩
  case round =>
    obtain ⟨i, hk, rfl, hz, f⟩ := hrel
    have HZ := Lib.hid hz
    have FW := Lib.hid f
    have q1 := (HT.out _ f).recs
    clear f hz
    by_cases hkl : i < t.recs.length
    · have hkl9 : (i : Int) < (t.recs.length : Int) := by omega
      obtain ⟨b, off, cp, e⟩ := HR.out.at (by omega)
      cases e
      obtain ⟨xa, xc, GV⟩ := HR.out.getsF i hkl
      have LX := Lib.hid (GV _ FW.out).1.all
      have HV := Lib.hid (fun z f => (GV z f).2)
      have S1 := Lib.hid (show (t.recs[i]).root.s.length = 32 by obtain ⟨_, _, _, _, _, h⟩ := (GV _ FW.out).2; exact h)
      have HM := Lib.hid (List.getElem_mem hkl)
      have HMAY := Lib.hid (fun z f => RefMay_any _ t.recs[i] z (GV z f).2 (HF.out _ (List.getElem_mem hkl)))
      have HKI := Lib.hid (fun z f => HKIN.out z _ t.recs[i] (F.out.trans f (by simp)) (List.getElem_mem hkl) (GV z f).2)
      have O1 := Lib.hid (show (Value.slice xa (t.recs[i]).root.ads.length xc).oneCell' = true from rfl)
      have HNO0 := Lib.hid (allB_no (next := t.next) hkl)
      have HST := Lib.hid (show stand t.next t.recs i t.recs[i] = (mayR t.recs[i] && (decide ((t.recs[i]).id < t.next) && ((match i with | 0 => true | k + 1 => (match t.recs[k]? with | some y => lessS y.name (t.recs[i]).name | none => false)) && ((t.recs.take i).all (fun y => y.id != (t.recs[i]).id) && kinB t.recs t.recs[i])))) from rfl)
      have HSM := Lib.hid (show stand t.next t.recs i t.recs[i] = true → ∀ j (h : j < t.recs.length), j < i + 1 → stand t.next t.recs j t.recs[j] = true from fun hb j hj hji => by
        by_cases e : j = i
        · subst e; exact hb
        · exact HZ.out j hj (by omega))
      have hpl : ∀ p, i = p + 1 → p < t.recs.length := fun p hp => by omega
      have HPV := Lib.hid (show ∀ p, (hp : i = p + 1) → (match i with | 0 => true | k + 1 => (match t.recs[k]? with | some y => lessS y.name (t.recs[i]).name | none => false)) = lessS (t.recs[p]'(hpl p hp)).name (t.recs[i]).name from fun p hp => by
        subst hp
        simp only [List.getElem?_eq_getElem (show p < t.recs.length by omega)])
      have HPZ := Lib.hid (show i = 0 → (match i with | 0 => true | k + 1 => (match t.recs[k]? with | some y => lessS y.name (t.recs[i]).name | none => false)) = true from fun hp => by subst hp; rfl)
      have HLS := Lib.hid (show ∀ p (hp : i = p + 1) z, Calls Tryz.prog 143 #[.string (t.recs[p]'(hpl p hp)).name, .string (t.recs[i]).name] z fun e w' => e = .returned (.bool (lessS (t.recs[p]'(hpl p hp)).name (t.recs[i]).name)) ∧ Frm [] z w' from fun p hp z => RefLess_any _ _ (HF.out _ (List.getElem_mem _)).name (HF.out _ (List.getElem_mem hkl)).name z)
      have HGP := Lib.hid (show ∀ p (hp : i = p + 1) z, Frm [] W z → z.cell? ⟨b, off + p * 44 + 1, none⟩ = some (.string (t.recs[p]'(hpl p hp)).name) from fun p hp z f => by
        obtain ⟨ya, yc, GY⟩ := HR.out.getsF p (hpl p hp)
        exact (GY z f).1.name)
      have HGI := Lib.hid (show ∀ k (h : k < t.recs.length) z, Frm [] W z → z.cell? ⟨b, off + k * 44, none⟩ = some (.int .i64 (t.recs[k]).id) from fun k h z f => by
        obtain ⟨ya, yc, GY⟩ := HR.out.getsF k h
        exact (GY z f).1.id)
      clear GV HZ
      generalize (match i with | 0 => true | k + 1 => (match t.recs[k]? with | some y => lessS y.name (t.recs[i]).name | none => false)) = pv at *
      generalize stand t.next t.recs i t.recs[i] = sv at *
      generalize mayR t.recs[i] = mb at *
      generalize kinB t.recs t.recs[i] = kb at *
      generalize hub : ((t.recs.take i).all fun y => y.id != (t.recs[i]).id) = ub at *
      have HUY := Lib.hid (show (∀ j (h : j < t.recs.length), j < i → (t.recs[j]).id ≠ (t.recs[i]).id) → ub = true from fun h => by rw [← hub]; exact uniq_yes (by omega) h)
      have HUN := Lib.hid (show ∀ j (h : j < t.recs.length), j < i → (t.recs[j]).id = (t.recs[i]).id → ub = false from fun j h h2 h3 => by rw [← hub]; exact uniq_no h h2 h3)
      clear hub
      generalize t.recs[i] = x at *
      generalize (Value.slice xa x.root.ads.length xc) = vx at *
      go_upto_region 5 with (first
        | ((with_reducible (show wpList _ _ _ (Oper.mk _ (Op.load 56 _) _ _ _ _ :: _) _ _)); refine wpList_load_g (by rfl) 56 _ rfl _ rfl LX.out ?_)
        | ((with_reducible (show wpList _ _ _ (Oper.mk _ (Op.alloc 56) _ _ _ _ :: _) _ _)); refine wpList_lay56 rfl rfl rfl (.tmp 4) (.tmp 17) rfl O1.out S1.out rfl rfl ?_))
      have n1 := RB.new (w := wr) (v := vx) S1.out
      have f1 : Frm [] wr (wr.alloc (.cells (rc vx x).toArray 56)) := (Frm.refl [] _).alloc _
      have hsz := FW.out.size
      obtain ⟨g1, hg1⟩ : ∃ g1, wr.heap.size = g1 := ⟨_, rfl⟩
      rw [hg1] at n1 ⊢
      generalize wr.alloc (.cells (rc vx x).toArray 56) = V1 at *
      have HX := Lib.hid (fun z (f : Frm [] V1 z) => (n1.keep0 f).gets)
      have F3 := Lib.hid (fun z (f : Frm [] V1 z) => (FW.out.trans f1 (by simp)).trans f (by simp))
      clear n1 f1 hsz hg1 q1 O1 S1 LX
      cases mb with
      | false =>
        refine wp_region_held_drew (S := fun z => Frm [] V1 z) (by kernel_rfl) ((Frm.refl [] V1).drew) (fun hHeld => ?_)
        refine wpAnyH_take (i := 0) (oi := ⟨some 18, .load 56 (.tmp 4), _, _, _, none⟩) rfl (by kernel_rfl) (by kernel_rfl) (by kernel_rfl) (fun _ _ _ h => h) (yieldsIf_ld (by rfl) 56 _ rfl _ rfl (fun z hSw => (HX.out z hSw).all)) hHeld ?_
        try simp only [Act.put, List.setIfInBounds_toArray, List.set_cons_zero, List.set_cons_succ]
        refine wpAnyH_ready (rs := [1]) (by kernel_rfl) (by simp) ?_
        refine AllReadyH.cons (o := ⟨some 19, .call { callee := .value (.func 142), args := #[.tmp 18], argTypes := #[56] }, _, _, _, none⟩) rfl (fun K hK => ?_) AllReadyH.nil
        go_simp
        refine (HMAY.out _ (F3.out _ hHeld)).mono ?_
        rintro r wa ⟨rfl, fa⟩
        refine hK.out _ _ ?_ (fun hNext => ?_)
        · exact hHeld.trans fa (by simp)
        clear hK K hHeld
        have hHeld := hNext
        clear hNext
        try simp only [Act.put, List.setIfInBounds_toArray, List.set_cons_zero, List.set_cons_succ]
        refine wpAnyH_take (i := 2) (oi := ⟨some 20, .unOp .not 4 (.tmp 19), _, _, _, none⟩) (v := ?_) rfl (by kernel_rfl) (by kernel_rfl) (by kernel_rfl) (fun _ _ _ h => h) (Or.inl ⟨by rfl, ?_⟩) hHeld ?_
        rotate_left
        focus (intro z hSw; clear hSw; go_simp; try with_reducible rfl)
        try simp only [Act.put, List.setIfInBounds_toArray, List.set_cons_zero, List.set_cons_succ]
        refine wpAnyH_take (i := 3) (oi := ⟨some 21, .move (.tmp 20), _, _, _, none⟩) (v := ?_) rfl (by kernel_rfl) (by kernel_rfl) (by kernel_rfl) (fun _ _ _ h => h) (Or.inl ⟨by rfl, ?_⟩) hHeld ?_
        rotate_left
        focus (intro z hSw; clear hSw; go_simp; try with_reducible rfl)
        try simp only [Act.put, List.setIfInBounds_toArray, List.set_cons_zero, List.set_cons_succ]
        refine wpAnyH_take (i := 4) (oi := ⟨some 22, .fieldAddr 56 (.tmp 4) 0, _, _, _, some (3, false)⟩) (v := undef) rfl (by kernel_rfl) (by kernel_rfl) (by kernel_rfl) (fun _ _ _ h => h) (Or.inr ⟨by rfl, rfl⟩) hHeld ?_
        try simp only [Act.put, List.setIfInBounds_toArray, List.set_cons_zero, List.set_cons_succ]
        refine wpAnyH_take (i := 5) (oi := ⟨some 23, .load 3 (.tmp 22), _, _, _, some (3, false)⟩) (v := undef) rfl (by kernel_rfl) (by kernel_rfl) (by kernel_rfl) (fun _ _ _ h => h) (Or.inr ⟨by rfl, rfl⟩) hHeld ?_
        try simp only [Act.put, List.setIfInBounds_toArray, List.set_cons_zero, List.set_cons_succ]
        refine wpAnyH_take (i := 6) (oi := ⟨some 24, .fieldAddr 27 (.tmp 1) 0, _, _, _, some (3, false)⟩) (v := undef) rfl (by kernel_rfl) (by kernel_rfl) (by kernel_rfl) (fun _ _ _ h => h) (Or.inr ⟨by rfl, rfl⟩) hHeld ?_
        try simp only [Act.put, List.setIfInBounds_toArray, List.set_cons_zero, List.set_cons_succ]
        refine wpAnyH_take (i := 7) (oi := ⟨some 25, .load 3 (.tmp 24), _, _, _, some (3, false)⟩) (v := undef) rfl (by kernel_rfl) (by kernel_rfl) (by kernel_rfl) (fun _ _ _ h => h) (Or.inr ⟨by rfl, rfl⟩) hHeld ?_
        try simp only [Act.put, List.setIfInBounds_toArray, List.set_cons_zero, List.set_cons_succ]
        refine wpAnyH_take (i := 8) (oi := ⟨some 26, .binOp .geq 3 (.tmp 23) (.tmp 25) 3, _, _, _, some (3, false)⟩) (v := undef) rfl (by kernel_rfl) (by kernel_rfl) (by kernel_rfl) (fun _ _ _ h => h) (Or.inr ⟨by rfl, rfl⟩) hHeld ?_
        try simp only [Act.put, List.setIfInBounds_toArray, List.set_cons_zero, List.set_cons_succ]
        refine wpAnyH_take (i := 9) (oi := ⟨some 27, .pick (.tmp 21) (.const (.bool true)) (.tmp 26), _, _, _, none⟩) (v := ?_) rfl (by kernel_rfl) (by kernel_rfl) (by kernel_rfl) (fun _ _ _ h => h) (Or.inl ⟨by rfl, ?_⟩) hHeld ?_
        rotate_left
        focus (intro z hSw; clear hSw; go_simp; try with_reducible rfl)
        try simp only [Act.put, List.setIfInBounds_toArray, List.set_cons_zero, List.set_cons_succ]
        refine wpAnyH_take (i := 10) (oi := ⟨some 28, .move (.tmp 27), _, _, _, none⟩) (v := ?_) rfl (by kernel_rfl) (by kernel_rfl) (by kernel_rfl) (fun _ _ _ h => h) (Or.inl ⟨by rfl, ?_⟩) hHeld ?_
        rotate_left
        focus (intro z hSw; clear hSw; go_simp; try with_reducible rfl)
        try simp only [Act.put, List.setIfInBounds_toArray, List.set_cons_zero, List.set_cons_succ]
        refine wpAnyH_take (i := 11) (oi := ⟨some 29, .move (.tmp 3), _, _, _, some (10, false)⟩) (v := undef) rfl (by kernel_rfl) (by kernel_rfl) (by kernel_rfl) (fun _ _ _ h => h) (Or.inr ⟨by rfl, rfl⟩) hHeld ?_
        try simp only [Act.put, List.setIfInBounds_toArray, List.set_cons_zero, List.set_cons_succ]
        refine wpAnyH_take (i := 12) (oi := ⟨some 30, .binOp .gtr 3 (.tmp 29) (.const (.int .i64 0)) 3, _, _, _, some (10, false)⟩) (v := undef) rfl (by kernel_rfl) (by kernel_rfl) (by kernel_rfl) (fun _ _ _ h => h) (Or.inr ⟨by rfl, rfl⟩) hHeld ?_
        try simp only [Act.put, List.setIfInBounds_toArray, List.set_cons_zero, List.set_cons_succ]
        refine wpAnyH_take (i := 13) (oi := ⟨some 31, .move (.tmp 30), _, _, _, some (10, false)⟩) (v := undef) rfl (by kernel_rfl) (by kernel_rfl) (by kernel_rfl) (fun _ _ _ h => h) (Or.inr ⟨by rfl, rfl⟩) hHeld ?_
        try simp only [Act.put, List.setIfInBounds_toArray, List.set_cons_zero, List.set_cons_succ]
        refine wpAnyH_take (i := 14) (oi := ⟨some 32, .fieldAddr 27 (.tmp 1) 1, _, _, _, some (13, true)⟩) (v := undef) rfl (by kernel_rfl) (by kernel_rfl) (by kernel_rfl) (fun _ _ _ h => h) (Or.inr ⟨by rfl, rfl⟩) hHeld ?_
        try simp only [Act.put, List.setIfInBounds_toArray, List.set_cons_zero, List.set_cons_succ]
        refine wpAnyH_take (i := 15) (oi := ⟨some 33, .load 22 (.tmp 32), _, _, _, some (13, true)⟩) (v := undef) rfl (by kernel_rfl) (by kernel_rfl) (by kernel_rfl) (fun _ _ _ h => h) (Or.inr ⟨by rfl, rfl⟩) hHeld ?_
        try simp only [Act.put, List.setIfInBounds_toArray, List.set_cons_zero, List.set_cons_succ]
        refine wpAnyH_take (i := 16) (oi := ⟨some 34, .move (.tmp 3), _, _, _, some (13, true)⟩) (v := undef) rfl (by kernel_rfl) (by kernel_rfl) (by kernel_rfl) (fun _ _ _ h => h) (Or.inr ⟨by rfl, rfl⟩) hHeld ?_
        try simp only [Act.put, List.setIfInBounds_toArray, List.set_cons_zero, List.set_cons_succ]
        refine wpAnyH_take (i := 17) (oi := ⟨some 35, .binOp .sub 3 (.tmp 34) (.const (.int .i64 1)) 3, _, _, _, some (13, true)⟩) (v := undef) rfl (by kernel_rfl) (by kernel_rfl) (by kernel_rfl) (fun _ _ _ h => h) (Or.inr ⟨by rfl, rfl⟩) hHeld ?_
        try simp only [Act.put, List.setIfInBounds_toArray, List.set_cons_zero, List.set_cons_succ]
        refine wpAnyH_take (i := 18) (oi := ⟨some 36, .indexAddr 22 (.tmp 33) (.tmp 35), _, _, _, some (13, true)⟩) (v := undef) rfl (by kernel_rfl) (by kernel_rfl) (by kernel_rfl) (fun _ _ _ h => h) (Or.inr ⟨by rfl, rfl⟩) hHeld ?_
        try simp only [Act.put, List.setIfInBounds_toArray, List.set_cons_zero, List.set_cons_succ]
        refine wpAnyH_take (i := 19) (oi := ⟨some 37, .fieldAddr 56 (.tmp 36) 1, _, _, _, some (13, true)⟩) (v := undef) rfl (by kernel_rfl) (by kernel_rfl) (by kernel_rfl) (fun _ _ _ h => h) (Or.inr ⟨by rfl, rfl⟩) hHeld ?_
        try simp only [Act.put, List.setIfInBounds_toArray, List.set_cons_zero, List.set_cons_succ]
        refine wpAnyH_take (i := 20) (oi := ⟨some 38, .load 9 (.tmp 37), _, _, _, some (13, true)⟩) (v := undef) rfl (by kernel_rfl) (by kernel_rfl) (by kernel_rfl) (fun _ _ _ h => h) (Or.inr ⟨by rfl, rfl⟩) hHeld ?_
        try simp only [Act.put, List.setIfInBounds_toArray, List.set_cons_zero, List.set_cons_succ]
        refine wpAnyH_take (i := 21) (oi := ⟨some 39, .fieldAddr 56 (.tmp 4) 1, _, _, _, some (13, true)⟩) (v := undef) rfl (by kernel_rfl) (by kernel_rfl) (by kernel_rfl) (fun _ _ _ h => h) (Or.inr ⟨by rfl, rfl⟩) hHeld ?_
        try simp only [Act.put, List.setIfInBounds_toArray, List.set_cons_zero, List.set_cons_succ]
        refine wpAnyH_take (i := 22) (oi := ⟨some 40, .load 9 (.tmp 39), _, _, _, some (13, true)⟩) (v := undef) rfl (by kernel_rfl) (by kernel_rfl) (by kernel_rfl) (fun _ _ _ h => h) (Or.inr ⟨by rfl, rfl⟩) hHeld ?_
        try simp only [Act.put, List.setIfInBounds_toArray, List.set_cons_zero, List.set_cons_succ]
        refine wpAnyH_take (i := 23) (oi := ⟨some 41, .call { callee := .value (.func 143), args := #[.tmp 38, .tmp 40], argTypes := #[9, 9] }, _, _, _, some (13, true)⟩) (v := undef) rfl (by kernel_rfl) (by kernel_rfl) (by kernel_rfl) (fun _ _ _ h => h) (Or.inr ⟨by rfl, rfl⟩) hHeld ?_
        try simp only [Act.put, List.setIfInBounds_toArray, List.set_cons_zero, List.set_cons_succ]
        refine wpAnyH_take (i := 24) (oi := ⟨some 42, .unOp .not 4 (.tmp 41), _, _, _, some (13, true)⟩) (v := undef) rfl (by kernel_rfl) (by kernel_rfl) (by kernel_rfl) (fun _ _ _ h => h) (Or.inr ⟨by rfl, rfl⟩) hHeld ?_
        try simp only [Act.put, List.setIfInBounds_toArray, List.set_cons_zero, List.set_cons_succ]
        refine wpAnyH_take (i := 25) (oi := ⟨some 43, .pick (.tmp 31) (.tmp 42) (.const (.bool false)), _, _, _, some (10, false)⟩) (v := undef) rfl (by kernel_rfl) (by kernel_rfl) (by kernel_rfl) (fun _ _ _ h => h) (Or.inr ⟨by rfl, rfl⟩) hHeld ?_
        try simp only [Act.put, List.setIfInBounds_toArray, List.set_cons_zero, List.set_cons_succ]
        refine wpAnyH_take (i := 26) (oi := ⟨some 44, .pick (.tmp 28) (.const (.bool true)) (.tmp 43), _, _, _, none⟩) (v := ?_) rfl (by kernel_rfl) (by kernel_rfl) (by kernel_rfl) (fun _ _ _ h => h) (Or.inl ⟨by rfl, ?_⟩) hHeld ?_
        rotate_left
        focus (intro z hSw; clear hSw; go_simp; try with_reducible rfl)
        try simp only [Act.put, List.setIfInBounds_toArray, List.set_cons_zero, List.set_cons_succ]
        refine wpAnyH_done (by kernel_rfl) ?_ _
        have en := HNO0.out (by rw [HST.out]; rfl)
        go_wp2_with fail
        go_ret
        exact ⟨by first | rfl | (rw [en]; rfl) | simp [en], F.out.trans (F3.out _ hHeld) (by simp)⟩
      | true =>
        by_cases hid : t.next ≤ x.id
        · have hdi : decide (t.next ≤ x.id) = true := by simpa using hid
          refine wp_region_held_drew (S := fun z => Frm [] V1 z) (by kernel_rfl) ((Frm.refl [] V1).drew) (fun hHeld => ?_)
          refine wpAnyH_take (i := 0) (oi := ⟨some 18, .load 56 (.tmp 4), _, _, _, none⟩) rfl (by kernel_rfl) (by kernel_rfl) (by kernel_rfl) (fun _ _ _ h => h) (yieldsIf_ld (by rfl) 56 _ rfl _ rfl (fun z hSw => (HX.out z hSw).all)) hHeld ?_
          try simp only [Act.put, List.setIfInBounds_toArray, List.set_cons_zero, List.set_cons_succ]
          refine wpAnyH_ready (rs := [1]) (by kernel_rfl) (by simp) ?_
          refine AllReadyH.cons (o := ⟨some 19, .call { callee := .value (.func 142), args := #[.tmp 18], argTypes := #[56] }, _, _, _, none⟩) rfl (fun K hK => ?_) AllReadyH.nil
          go_simp
          refine (HMAY.out _ (F3.out _ hHeld)).mono ?_
          rintro r wa ⟨rfl, fa⟩
          refine hK.out _ _ ?_ (fun hNext => ?_)
          · exact hHeld.trans fa (by simp)
          clear hK K hHeld
          have hHeld := hNext
          clear hNext
          try simp only [Act.put, List.setIfInBounds_toArray, List.set_cons_zero, List.set_cons_succ]
          refine wpAnyH_take (i := 2) (oi := ⟨some 20, .unOp .not 4 (.tmp 19), _, _, _, none⟩) (v := ?_) rfl (by kernel_rfl) (by kernel_rfl) (by kernel_rfl) (fun _ _ _ h => h) (Or.inl ⟨by rfl, ?_⟩) hHeld ?_
          rotate_left
          focus (intro z hSw; clear hSw; go_simp; try with_reducible rfl)
          try simp only [Act.put, List.setIfInBounds_toArray, List.set_cons_zero, List.set_cons_succ]
          refine wpAnyH_take (i := 3) (oi := ⟨some 21, .move (.tmp 20), _, _, _, none⟩) (v := ?_) rfl (by kernel_rfl) (by kernel_rfl) (by kernel_rfl) (fun _ _ _ h => h) (Or.inl ⟨by rfl, ?_⟩) hHeld ?_
          rotate_left
          focus (intro z hSw; clear hSw; go_simp; try with_reducible rfl)
          try simp only [Act.put, List.setIfInBounds_toArray, List.set_cons_zero, List.set_cons_succ]
          refine wpAnyH_take (i := 4) (oi := ⟨some 22, .fieldAddr 56 (.tmp 4) 0, _, _, _, some (3, false)⟩) (v := ?_) rfl (by kernel_rfl) (by kernel_rfl) (by kernel_rfl) (fun _ _ _ h => h) (Or.inl ⟨by rfl, ?_⟩) hHeld ?_
          rotate_left
          focus (intro z hSw; clear hSw; go_simp; try with_reducible rfl)
          try simp only [Act.put, List.setIfInBounds_toArray, List.set_cons_zero, List.set_cons_succ]
          refine wpAnyH_take (i := 5) (oi := ⟨some 23, .load 3 (.tmp 22), _, _, _, some (3, false)⟩) (v := ?_) rfl (by kernel_rfl) (by kernel_rfl) (by kernel_rfl) (fun _ _ _ h => h) (Or.inl ⟨by rfl, ?_⟩) hHeld ?_
          rotate_left
          focus (intro z hSw; have q0 := (HX.out z hSw).id; have q1 := (HX.out z hSw).name; have q2 := (HT.out z (F3.out z hSw)).next; have q3 := (HT.out z (F3.out z hSw)).recs; clear hSw; go_simp; try with_reducible rfl)
          try simp only [Act.put, List.setIfInBounds_toArray, List.set_cons_zero, List.set_cons_succ]
          refine wpAnyH_take (i := 6) (oi := ⟨some 24, .fieldAddr 27 (.tmp 1) 0, _, _, _, some (3, false)⟩) (v := ?_) rfl (by kernel_rfl) (by kernel_rfl) (by kernel_rfl) (fun _ _ _ h => h) (Or.inl ⟨by rfl, ?_⟩) hHeld ?_
          rotate_left
          focus (intro z hSw; clear hSw; go_simp; try with_reducible rfl)
          try simp only [Act.put, List.setIfInBounds_toArray, List.set_cons_zero, List.set_cons_succ]
          refine wpAnyH_take (i := 7) (oi := ⟨some 25, .load 3 (.tmp 24), _, _, _, some (3, false)⟩) (v := ?_) rfl (by kernel_rfl) (by kernel_rfl) (by kernel_rfl) (fun _ _ _ h => h) (Or.inl ⟨by rfl, ?_⟩) hHeld ?_
          rotate_left
          focus (intro z hSw; have q0 := (HX.out z hSw).id; have q1 := (HX.out z hSw).name; have q2 := (HT.out z (F3.out z hSw)).next; have q3 := (HT.out z (F3.out z hSw)).recs; clear hSw; go_simp; try with_reducible rfl)
          try simp only [Act.put, List.setIfInBounds_toArray, List.set_cons_zero, List.set_cons_succ]
          refine wpAnyH_take (i := 8) (oi := ⟨some 26, .binOp .geq 3 (.tmp 23) (.tmp 25) 3, _, _, _, some (3, false)⟩) (v := ?_) rfl (by kernel_rfl) (by kernel_rfl) (by kernel_rfl) (fun _ _ _ h => h) (Or.inl ⟨by rfl, ?_⟩) hHeld ?_
          rotate_left
          focus (intro z hSw; clear hSw; go_simp; try with_reducible rfl)
          try simp only [Act.put, List.setIfInBounds_toArray, List.set_cons_zero, List.set_cons_succ]
          refine wpAnyH_take (i := 9) (oi := ⟨some 27, .pick (.tmp 21) (.const (.bool true)) (.tmp 26), _, _, _, none⟩) (v := ?_) rfl (by kernel_rfl) (by kernel_rfl) (by kernel_rfl) (fun _ _ _ h => h) (Or.inl ⟨by rfl, ?_⟩) hHeld ?_
          rotate_left
          focus (intro z hSw; clear hSw; go_simp; try with_reducible rfl)
          try simp only [Act.put, List.setIfInBounds_toArray, List.set_cons_zero, List.set_cons_succ]
          refine wpAnyH_take (i := 10) (oi := ⟨some 28, .move (.tmp 27), _, _, _, none⟩) (v := ?_) rfl (by kernel_rfl) (by kernel_rfl) (by kernel_rfl) (fun _ _ _ h => h) (Or.inl ⟨by rfl, ?_⟩) hHeld ?_
          rotate_left
          focus (intro z hSw; clear hSw; go_simp; try with_reducible rfl)
          try simp only [Act.put, List.setIfInBounds_toArray, List.set_cons_zero, List.set_cons_succ]
          refine wpAnyH_take (i := 11) (oi := ⟨some 29, .move (.tmp 3), _, _, _, some (10, false)⟩) (v := undef) rfl (by kernel_rfl) (by kernel_rfl) (by kernel_rfl) (fun _ _ _ h => h) (Or.inr ⟨by rfl, rfl⟩) hHeld ?_
          try simp only [Act.put, List.setIfInBounds_toArray, List.set_cons_zero, List.set_cons_succ]
          refine wpAnyH_take (i := 12) (oi := ⟨some 30, .binOp .gtr 3 (.tmp 29) (.const (.int .i64 0)) 3, _, _, _, some (10, false)⟩) (v := undef) rfl (by kernel_rfl) (by kernel_rfl) (by kernel_rfl) (fun _ _ _ h => h) (Or.inr ⟨by rfl, rfl⟩) hHeld ?_
          try simp only [Act.put, List.setIfInBounds_toArray, List.set_cons_zero, List.set_cons_succ]
          refine wpAnyH_take (i := 13) (oi := ⟨some 31, .move (.tmp 30), _, _, _, some (10, false)⟩) (v := undef) rfl (by kernel_rfl) (by kernel_rfl) (by kernel_rfl) (fun _ _ _ h => h) (Or.inr ⟨by rfl, rfl⟩) hHeld ?_
          try simp only [Act.put, List.setIfInBounds_toArray, List.set_cons_zero, List.set_cons_succ]
          refine wpAnyH_take (i := 14) (oi := ⟨some 32, .fieldAddr 27 (.tmp 1) 1, _, _, _, some (13, true)⟩) (v := undef) rfl (by kernel_rfl) (by kernel_rfl) (by kernel_rfl) (fun _ _ _ h => h) (Or.inr ⟨by rfl, rfl⟩) hHeld ?_
          try simp only [Act.put, List.setIfInBounds_toArray, List.set_cons_zero, List.set_cons_succ]
          refine wpAnyH_take (i := 15) (oi := ⟨some 33, .load 22 (.tmp 32), _, _, _, some (13, true)⟩) (v := undef) rfl (by kernel_rfl) (by kernel_rfl) (by kernel_rfl) (fun _ _ _ h => h) (Or.inr ⟨by rfl, rfl⟩) hHeld ?_
          try simp only [Act.put, List.setIfInBounds_toArray, List.set_cons_zero, List.set_cons_succ]
          refine wpAnyH_take (i := 16) (oi := ⟨some 34, .move (.tmp 3), _, _, _, some (13, true)⟩) (v := undef) rfl (by kernel_rfl) (by kernel_rfl) (by kernel_rfl) (fun _ _ _ h => h) (Or.inr ⟨by rfl, rfl⟩) hHeld ?_
          try simp only [Act.put, List.setIfInBounds_toArray, List.set_cons_zero, List.set_cons_succ]
          refine wpAnyH_take (i := 17) (oi := ⟨some 35, .binOp .sub 3 (.tmp 34) (.const (.int .i64 1)) 3, _, _, _, some (13, true)⟩) (v := undef) rfl (by kernel_rfl) (by kernel_rfl) (by kernel_rfl) (fun _ _ _ h => h) (Or.inr ⟨by rfl, rfl⟩) hHeld ?_
          try simp only [Act.put, List.setIfInBounds_toArray, List.set_cons_zero, List.set_cons_succ]
          refine wpAnyH_take (i := 18) (oi := ⟨some 36, .indexAddr 22 (.tmp 33) (.tmp 35), _, _, _, some (13, true)⟩) (v := undef) rfl (by kernel_rfl) (by kernel_rfl) (by kernel_rfl) (fun _ _ _ h => h) (Or.inr ⟨by rfl, rfl⟩) hHeld ?_
          try simp only [Act.put, List.setIfInBounds_toArray, List.set_cons_zero, List.set_cons_succ]
          refine wpAnyH_take (i := 19) (oi := ⟨some 37, .fieldAddr 56 (.tmp 36) 1, _, _, _, some (13, true)⟩) (v := undef) rfl (by kernel_rfl) (by kernel_rfl) (by kernel_rfl) (fun _ _ _ h => h) (Or.inr ⟨by rfl, rfl⟩) hHeld ?_
          try simp only [Act.put, List.setIfInBounds_toArray, List.set_cons_zero, List.set_cons_succ]
          refine wpAnyH_take (i := 20) (oi := ⟨some 38, .load 9 (.tmp 37), _, _, _, some (13, true)⟩) (v := undef) rfl (by kernel_rfl) (by kernel_rfl) (by kernel_rfl) (fun _ _ _ h => h) (Or.inr ⟨by rfl, rfl⟩) hHeld ?_
          try simp only [Act.put, List.setIfInBounds_toArray, List.set_cons_zero, List.set_cons_succ]
          refine wpAnyH_take (i := 21) (oi := ⟨some 39, .fieldAddr 56 (.tmp 4) 1, _, _, _, some (13, true)⟩) (v := undef) rfl (by kernel_rfl) (by kernel_rfl) (by kernel_rfl) (fun _ _ _ h => h) (Or.inr ⟨by rfl, rfl⟩) hHeld ?_
          try simp only [Act.put, List.setIfInBounds_toArray, List.set_cons_zero, List.set_cons_succ]
          refine wpAnyH_take (i := 22) (oi := ⟨some 40, .load 9 (.tmp 39), _, _, _, some (13, true)⟩) (v := undef) rfl (by kernel_rfl) (by kernel_rfl) (by kernel_rfl) (fun _ _ _ h => h) (Or.inr ⟨by rfl, rfl⟩) hHeld ?_
          try simp only [Act.put, List.setIfInBounds_toArray, List.set_cons_zero, List.set_cons_succ]
          refine wpAnyH_take (i := 23) (oi := ⟨some 41, .call { callee := .value (.func 143), args := #[.tmp 38, .tmp 40], argTypes := #[9, 9] }, _, _, _, some (13, true)⟩) (v := undef) rfl (by kernel_rfl) (by kernel_rfl) (by kernel_rfl) (fun _ _ _ h => h) (Or.inr ⟨by rfl, rfl⟩) hHeld ?_
          try simp only [Act.put, List.setIfInBounds_toArray, List.set_cons_zero, List.set_cons_succ]
          refine wpAnyH_take (i := 24) (oi := ⟨some 42, .unOp .not 4 (.tmp 41), _, _, _, some (13, true)⟩) (v := undef) rfl (by kernel_rfl) (by kernel_rfl) (by kernel_rfl) (fun _ _ _ h => h) (Or.inr ⟨by rfl, rfl⟩) hHeld ?_
          try simp only [Act.put, List.setIfInBounds_toArray, List.set_cons_zero, List.set_cons_succ]
          refine wpAnyH_take (i := 25) (oi := ⟨some 43, .pick (.tmp 31) (.tmp 42) (.const (.bool false)), _, _, _, some (10, false)⟩) (v := undef) rfl (by kernel_rfl) (by kernel_rfl) (by kernel_rfl) (fun _ _ _ h => h) (Or.inr ⟨by rfl, rfl⟩) hHeld ?_
          try simp only [Act.put, List.setIfInBounds_toArray, List.set_cons_zero, List.set_cons_succ]
          refine wpAnyH_take (i := 26) (oi := ⟨some 44, .pick (.tmp 28) (.const (.bool true)) (.tmp 43), _, _, _, none⟩) (v := ?_) rfl (by kernel_rfl) (by kernel_rfl) (by kernel_rfl) (fun _ _ _ h => h) (Or.inl ⟨by rfl, ?_⟩) hHeld ?_
          rotate_left
          focus (intro z hSw; clear hSw; go_simp; try with_reducible rfl)
          try simp only [Act.put, List.setIfInBounds_toArray, List.set_cons_zero, List.set_cons_succ]
          refine wpAnyH_done (by kernel_rfl) ?_ _
          have en := HNO0.out (by rw [HST.out]; have : ¬ x.id < t.next := by omega
                                  simp [this])
          go_wp2_with fail
          go_ret
          exact ⟨by first | rfl | (rw [en]; rfl) | simp [en], F.out.trans (F3.out _ hHeld) (by simp)⟩
        · have hdi : decide (t.next ≤ x.id) = false := by simpa using hid
          have hdn : decide (x.id < t.next) = true := by simp; omega
          rw [hdn] at HST
          rcases Nat.eq_zero_or_pos i with hz0 | hpos
          · have hgtN : decide (0 < i) = false := by simp; omega
            have hgt : ¬ (0 : Int) < (i : Int) := by omega
            have HPVT := Lib.hid (HPZ.out hz0)
            clear hz0
            refine wp_region_held_drew (S := fun z => Frm [] V1 z) (by kernel_rfl) ((Frm.refl [] V1).drew) (fun hHeld => ?_)
            refine wpAnyH_take (i := 0) (oi := ⟨some 18, .load 56 (.tmp 4), _, _, _, none⟩) rfl (by kernel_rfl) (by kernel_rfl) (by kernel_rfl) (fun _ _ _ h => h) (yieldsIf_ld (by rfl) 56 _ rfl _ rfl (fun z hSw => (HX.out z hSw).all)) hHeld ?_
            try simp only [Act.put, List.setIfInBounds_toArray, List.set_cons_zero, List.set_cons_succ]
            refine wpAnyH_ready (rs := [1]) (by kernel_rfl) (by simp) ?_
            refine AllReadyH.cons (o := ⟨some 19, .call { callee := .value (.func 142), args := #[.tmp 18], argTypes := #[56] }, _, _, _, none⟩) rfl (fun K hK => ?_) AllReadyH.nil
            go_simp
            refine (HMAY.out _ (F3.out _ hHeld)).mono ?_
            rintro r wa ⟨rfl, fa⟩
            refine hK.out _ _ ?_ (fun hNext => ?_)
            · exact hHeld.trans fa (by simp)
            clear hK K hHeld
            have hHeld := hNext
            clear hNext
            try simp only [Act.put, List.setIfInBounds_toArray, List.set_cons_zero, List.set_cons_succ]
            refine wpAnyH_take (i := 2) (oi := ⟨some 20, .unOp .not 4 (.tmp 19), _, _, _, none⟩) (v := ?_) rfl (by kernel_rfl) (by kernel_rfl) (by kernel_rfl) (fun _ _ _ h => h) (Or.inl ⟨by rfl, ?_⟩) hHeld ?_
            rotate_left
            focus (intro z hSw; clear hSw; go_simp; try with_reducible rfl)
            try simp only [Act.put, List.setIfInBounds_toArray, List.set_cons_zero, List.set_cons_succ]
            refine wpAnyH_take (i := 3) (oi := ⟨some 21, .move (.tmp 20), _, _, _, none⟩) (v := ?_) rfl (by kernel_rfl) (by kernel_rfl) (by kernel_rfl) (fun _ _ _ h => h) (Or.inl ⟨by rfl, ?_⟩) hHeld ?_
            rotate_left
            focus (intro z hSw; clear hSw; go_simp; try with_reducible rfl)
            try simp only [Act.put, List.setIfInBounds_toArray, List.set_cons_zero, List.set_cons_succ]
            refine wpAnyH_take (i := 4) (oi := ⟨some 22, .fieldAddr 56 (.tmp 4) 0, _, _, _, some (3, false)⟩) (v := ?_) rfl (by kernel_rfl) (by kernel_rfl) (by kernel_rfl) (fun _ _ _ h => h) (Or.inl ⟨by rfl, ?_⟩) hHeld ?_
            rotate_left
            focus (intro z hSw; clear hSw; go_simp; try with_reducible rfl)
            try simp only [Act.put, List.setIfInBounds_toArray, List.set_cons_zero, List.set_cons_succ]
            refine wpAnyH_take (i := 5) (oi := ⟨some 23, .load 3 (.tmp 22), _, _, _, some (3, false)⟩) (v := ?_) rfl (by kernel_rfl) (by kernel_rfl) (by kernel_rfl) (fun _ _ _ h => h) (Or.inl ⟨by rfl, ?_⟩) hHeld ?_
            rotate_left
            focus (intro z hSw; have q0 := (HX.out z hSw).id; have q1 := (HX.out z hSw).name; have q2 := (HT.out z (F3.out z hSw)).next; have q3 := (HT.out z (F3.out z hSw)).recs; clear hSw; go_simp; try with_reducible rfl)
            try simp only [Act.put, List.setIfInBounds_toArray, List.set_cons_zero, List.set_cons_succ]
            refine wpAnyH_take (i := 6) (oi := ⟨some 24, .fieldAddr 27 (.tmp 1) 0, _, _, _, some (3, false)⟩) (v := ?_) rfl (by kernel_rfl) (by kernel_rfl) (by kernel_rfl) (fun _ _ _ h => h) (Or.inl ⟨by rfl, ?_⟩) hHeld ?_
            rotate_left
            focus (intro z hSw; clear hSw; go_simp; try with_reducible rfl)
            try simp only [Act.put, List.setIfInBounds_toArray, List.set_cons_zero, List.set_cons_succ]
            refine wpAnyH_take (i := 7) (oi := ⟨some 25, .load 3 (.tmp 24), _, _, _, some (3, false)⟩) (v := ?_) rfl (by kernel_rfl) (by kernel_rfl) (by kernel_rfl) (fun _ _ _ h => h) (Or.inl ⟨by rfl, ?_⟩) hHeld ?_
            rotate_left
            focus (intro z hSw; have q0 := (HX.out z hSw).id; have q1 := (HX.out z hSw).name; have q2 := (HT.out z (F3.out z hSw)).next; have q3 := (HT.out z (F3.out z hSw)).recs; clear hSw; go_simp; try with_reducible rfl)
            try simp only [Act.put, List.setIfInBounds_toArray, List.set_cons_zero, List.set_cons_succ]
            refine wpAnyH_take (i := 8) (oi := ⟨some 26, .binOp .geq 3 (.tmp 23) (.tmp 25) 3, _, _, _, some (3, false)⟩) (v := ?_) rfl (by kernel_rfl) (by kernel_rfl) (by kernel_rfl) (fun _ _ _ h => h) (Or.inl ⟨by rfl, ?_⟩) hHeld ?_
            rotate_left
            focus (intro z hSw; clear hSw; go_simp; try with_reducible rfl)
            try simp only [Act.put, List.setIfInBounds_toArray, List.set_cons_zero, List.set_cons_succ]
            refine wpAnyH_take (i := 9) (oi := ⟨some 27, .pick (.tmp 21) (.const (.bool true)) (.tmp 26), _, _, _, none⟩) (v := ?_) rfl (by kernel_rfl) (by kernel_rfl) (by kernel_rfl) (fun _ _ _ h => h) (Or.inl ⟨by rfl, ?_⟩) hHeld ?_
            rotate_left
            focus (intro z hSw; clear hSw; go_simp; try with_reducible rfl)
            try simp only [Act.put, List.setIfInBounds_toArray, List.set_cons_zero, List.set_cons_succ]
            refine wpAnyH_take (i := 10) (oi := ⟨some 28, .move (.tmp 27), _, _, _, none⟩) (v := ?_) rfl (by kernel_rfl) (by kernel_rfl) (by kernel_rfl) (fun _ _ _ h => h) (Or.inl ⟨by rfl, ?_⟩) hHeld ?_
            rotate_left
            focus (intro z hSw; clear hSw; go_simp; try with_reducible rfl)
            try simp only [Act.put, List.setIfInBounds_toArray, List.set_cons_zero, List.set_cons_succ]
            refine wpAnyH_take (i := 11) (oi := ⟨some 29, .move (.tmp 3), _, _, _, some (10, false)⟩) (v := ?_) rfl (by kernel_rfl) (by kernel_rfl) (by kernel_rfl) (fun _ _ _ h => h) (Or.inl ⟨by rfl, ?_⟩) hHeld ?_
            rotate_left
            focus (intro z hSw; clear hSw; go_simp; try with_reducible rfl)
            try simp only [Act.put, List.setIfInBounds_toArray, List.set_cons_zero, List.set_cons_succ]
            refine wpAnyH_take (i := 12) (oi := ⟨some 30, .binOp .gtr 3 (.tmp 29) (.const (.int .i64 0)) 3, _, _, _, some (10, false)⟩) (v := ?_) rfl (by kernel_rfl) (by kernel_rfl) (by kernel_rfl) (fun _ _ _ h => h) (Or.inl ⟨by rfl, ?_⟩) hHeld ?_
            rotate_left
            focus (intro z hSw; clear hSw; go_simp; try with_reducible rfl)
            try simp only [Act.put, List.setIfInBounds_toArray, List.set_cons_zero, List.set_cons_succ]
            try simp only [hgtN]
            refine wpAnyH_take (i := 13) (oi := ⟨some 31, .move (.tmp 30), _, _, _, some (10, false)⟩) (v := ?_) rfl (by kernel_rfl) (by kernel_rfl) (by kernel_rfl) (fun _ _ _ h => h) (Or.inl ⟨by rfl, ?_⟩) hHeld ?_
            rotate_left
            focus (intro z hSw; clear hSw; go_simp; try with_reducible rfl)
            try simp only [Act.put, List.setIfInBounds_toArray, List.set_cons_zero, List.set_cons_succ]
            refine wpAnyH_take (i := 14) (oi := ⟨some 32, .fieldAddr 27 (.tmp 1) 1, _, _, _, some (13, true)⟩) (v := undef) rfl (by kernel_rfl) (by kernel_rfl) (by kernel_rfl) (fun _ _ _ h => h) (Or.inr ⟨by rfl, rfl⟩) hHeld ?_
            try simp only [Act.put, List.setIfInBounds_toArray, List.set_cons_zero, List.set_cons_succ]
            refine wpAnyH_take (i := 15) (oi := ⟨some 33, .load 22 (.tmp 32), _, _, _, some (13, true)⟩) (v := undef) rfl (by kernel_rfl) (by kernel_rfl) (by kernel_rfl) (fun _ _ _ h => h) (Or.inr ⟨by rfl, rfl⟩) hHeld ?_
            try simp only [Act.put, List.setIfInBounds_toArray, List.set_cons_zero, List.set_cons_succ]
            refine wpAnyH_take (i := 16) (oi := ⟨some 34, .move (.tmp 3), _, _, _, some (13, true)⟩) (v := undef) rfl (by kernel_rfl) (by kernel_rfl) (by kernel_rfl) (fun _ _ _ h => h) (Or.inr ⟨by rfl, rfl⟩) hHeld ?_
            try simp only [Act.put, List.setIfInBounds_toArray, List.set_cons_zero, List.set_cons_succ]
            refine wpAnyH_take (i := 17) (oi := ⟨some 35, .binOp .sub 3 (.tmp 34) (.const (.int .i64 1)) 3, _, _, _, some (13, true)⟩) (v := undef) rfl (by kernel_rfl) (by kernel_rfl) (by kernel_rfl) (fun _ _ _ h => h) (Or.inr ⟨by rfl, rfl⟩) hHeld ?_
            try simp only [Act.put, List.setIfInBounds_toArray, List.set_cons_zero, List.set_cons_succ]
            refine wpAnyH_take (i := 18) (oi := ⟨some 36, .indexAddr 22 (.tmp 33) (.tmp 35), _, _, _, some (13, true)⟩) (v := undef) rfl (by kernel_rfl) (by kernel_rfl) (by kernel_rfl) (fun _ _ _ h => h) (Or.inr ⟨by rfl, rfl⟩) hHeld ?_
            try simp only [Act.put, List.setIfInBounds_toArray, List.set_cons_zero, List.set_cons_succ]
            refine wpAnyH_take (i := 19) (oi := ⟨some 37, .fieldAddr 56 (.tmp 36) 1, _, _, _, some (13, true)⟩) (v := undef) rfl (by kernel_rfl) (by kernel_rfl) (by kernel_rfl) (fun _ _ _ h => h) (Or.inr ⟨by rfl, rfl⟩) hHeld ?_
            try simp only [Act.put, List.setIfInBounds_toArray, List.set_cons_zero, List.set_cons_succ]
            refine wpAnyH_take (i := 20) (oi := ⟨some 38, .load 9 (.tmp 37), _, _, _, some (13, true)⟩) (v := undef) rfl (by kernel_rfl) (by kernel_rfl) (by kernel_rfl) (fun _ _ _ h => h) (Or.inr ⟨by rfl, rfl⟩) hHeld ?_
            try simp only [Act.put, List.setIfInBounds_toArray, List.set_cons_zero, List.set_cons_succ]
            refine wpAnyH_take (i := 21) (oi := ⟨some 39, .fieldAddr 56 (.tmp 4) 1, _, _, _, some (13, true)⟩) (v := undef) rfl (by kernel_rfl) (by kernel_rfl) (by kernel_rfl) (fun _ _ _ h => h) (Or.inr ⟨by rfl, rfl⟩) hHeld ?_
            try simp only [Act.put, List.setIfInBounds_toArray, List.set_cons_zero, List.set_cons_succ]
            refine wpAnyH_take (i := 22) (oi := ⟨some 40, .load 9 (.tmp 39), _, _, _, some (13, true)⟩) (v := undef) rfl (by kernel_rfl) (by kernel_rfl) (by kernel_rfl) (fun _ _ _ h => h) (Or.inr ⟨by rfl, rfl⟩) hHeld ?_
            try simp only [Act.put, List.setIfInBounds_toArray, List.set_cons_zero, List.set_cons_succ]
            refine wpAnyH_take (i := 23) (oi := ⟨some 41, .call { callee := .value (.func 143), args := #[.tmp 38, .tmp 40], argTypes := #[9, 9] }, _, _, _, some (13, true)⟩) (v := undef) rfl (by kernel_rfl) (by kernel_rfl) (by kernel_rfl) (fun _ _ _ h => h) (Or.inr ⟨by rfl, rfl⟩) hHeld ?_
            try simp only [Act.put, List.setIfInBounds_toArray, List.set_cons_zero, List.set_cons_succ]
            refine wpAnyH_take (i := 24) (oi := ⟨some 42, .unOp .not 4 (.tmp 41), _, _, _, some (13, true)⟩) (v := undef) rfl (by kernel_rfl) (by kernel_rfl) (by kernel_rfl) (fun _ _ _ h => h) (Or.inr ⟨by rfl, rfl⟩) hHeld ?_
            try simp only [Act.put, List.setIfInBounds_toArray, List.set_cons_zero, List.set_cons_succ]
            refine wpAnyH_take (i := 25) (oi := ⟨some 43, .pick (.tmp 31) (.tmp 42) (.const (.bool false)), _, _, _, some (10, false)⟩) (v := ?_) rfl (by kernel_rfl) (by kernel_rfl) (by kernel_rfl) (fun _ _ _ h => h) (Or.inl ⟨by rfl, ?_⟩) hHeld ?_
            rotate_left
            focus (intro z hSw; clear hSw; go_simp; try with_reducible rfl)
            try simp only [Act.put, List.setIfInBounds_toArray, List.set_cons_zero, List.set_cons_succ]
            refine wpAnyH_take (i := 26) (oi := ⟨some 44, .pick (.tmp 28) (.const (.bool true)) (.tmp 43), _, _, _, none⟩) (v := ?_) rfl (by kernel_rfl) (by kernel_rfl) (by kernel_rfl) (fun _ _ _ h => h) (Or.inl ⟨by rfl, ?_⟩) hHeld ?_
            rotate_left
            focus (intro z hSw; clear hSw; go_simp; try with_reducible rfl)
            try simp only [Act.put, List.setIfInBounds_toArray, List.set_cons_zero, List.set_cons_succ]
            refine wpAnyH_done (by kernel_rfl) ?_ _
            clear hgt hgtN
            go_wp2_with fail
            go_loopw [5] (InnRel t.recs i x.id V1) (fun c _ => i - (intOf c).toNat)
            case atStart => exact ⟨0, Nat.zero_le _, rfl, fun j _ hj => by omega, hHeld⟩
            case round =>
              obtain ⟨k, hk2, rfl, hz2, f2⟩ := hrel
              have HZ2 := Lib.hid hz2
              have F2 := Lib.hid f2
              have r1 := (HT.out _ (F3.out _ f2)).recs
              have r2 := (HX.out _ f2).id
              clear hz2 f2
              by_cases hki : k < i
              · have hkl2 : k < t.recs.length := by omega
                have hkl8 : (k : Int) < (t.recs.length : Int) := by omega
                have hki9 : (k : Int) < (i : Int) := by omega
                have r3 := HGI.out k hkl2 _ (F3.out _ F2.out)
                have HU1 := Lib.hid (HUN.out k hkl2 hki)
                have HU2 := Lib.hid (show (t.recs[k]).id ≠ x.id → ∀ j (h : j < t.recs.length), j < k + 1 → (t.recs[j]).id ≠ x.id from fun hb j hj hjk => by
                  by_cases e : j = k
                  · subst e; exact hb
                  · exact HZ2.out j hj (by omega))
                generalize (t.recs[k]).id = yid at *
                go_wp2_with fail
                go_quiet (fail)
                by_cases hq : yid = x.id
                · have e1 : (yid == x.id) = true := by simpa using hq
                  have hub := HU1.out hq
                  have en := HNO0.out (by rw [HST.out, hub]; simp)
                  clear hub
                  go_wp2_with fail
                  go_ret
                  exact ⟨by first | rfl | (rw [en]; rfl) | simp [en], F.out.trans (F3.out _ (F2.out.drewN _)) (by simp)⟩
                · have e1 : (yid == x.id) = false := by simpa using hq
                  go_wp2_with fail
                  go_roundw
                  case rel => exact ⟨k + 1, by omega, by go_num, HU2.out hq, F2.out.drewN _⟩
                  case measure => simp [intOf]; omega
              · obtain rfl : k = i := by omega
                have hub := HUY.out HZ2.out
                have LT := Lib.hid (HT.out _ (F3.out _ F2.out)).all
                have LX2 := Lib.hid (HX.out _ F2.out).all
                have HKC := Lib.hid (HKI.out _ (F3.out _ F2.out))
                have HUB := Lib.hid hub
                clear hub
                cases kb with
                | false =>
                  have en := HNO0.out (by rw [HST.out]; simp)
                  go_wp2_with (first
                    | ((with_reducible (show wpList _ _ _ (Oper.mk _ (Op.load 27 _) _ _ _ _ :: _) _ _)); refine wpList_load_g (by rfl) 27 _ rfl _ rfl LT.out ?_)
                    | ((with_reducible (show wpList _ _ _ (Oper.mk _ (Op.load 56 _) _ _ _ _ :: _) _ _)); refine wpList_load_g (by rfl) 56 _ rfl _ rfl LX2.out ?_)
                    | (go_at_call 144; refine HKC.out.mono ?_; rintro e wk ⟨rfl, fk⟩))
                  go_ret
                  exact ⟨by first | rfl | (rw [en]; rfl) | simp [en], F.out.trans (F3.out _ (F2.out.trans fk (by simp))) (by simp)⟩
                | true =>
                  have HY := Lib.hid (HSM.out (by rw [HST.out, HUB.out, HPVT.out]; rfl))
                  go_wp2_with (first
                    | ((with_reducible (show wpList _ _ _ (Oper.mk _ (Op.load 27 _) _ _ _ _ :: _) _ _)); refine wpList_load_g (by rfl) 27 _ rfl _ rfl LT.out ?_)
                    | ((with_reducible (show wpList _ _ _ (Oper.mk _ (Op.load 56 _) _ _ _ _ :: _) _ _)); refine wpList_load_g (by rfl) 56 _ rfl _ rfl LX2.out ?_)
                    | (go_at_call 144; refine HKC.out.mono ?_; rintro e wk ⟨rfl, fk⟩))
                  go_roundw
                  case rel => exact ⟨k + 1, by omega, by go_num, HY.out, F3.out _ (F2.out.trans fk (by simp))⟩
                  case measure => simp [intOf]; omega
          · obtain ⟨p, hp⟩ : ∃ p, i = p + 1 := ⟨i - 1, by omega⟩
            have hgt : (0 : Int) < (i : Int) := by omega
            have hgtN : decide (0 < i) = true := by simp; omega
            have hwp : wrap64 ((i : Int) - 1) = (p : Int) := by rw [IntWalk.wrap64_in _ (by omega)]; omega
            have hwp1 : IntKind.i64.wrap ((i : Int) - 1) = (p : Int) := by rw [IntWalk.i64_in _ (by omega)]; omega
            have hpl9 : (p : Int) < (t.recs.length : Int) := by omega
            have HPVQ := Lib.hid (HPV.out p hp)
            have HLQ := Lib.hid (HLS.out p hp)
            have HGQ := Lib.hid (HGP.out p hp)
            generalize (t.recs[p]'(by omega)).name = yn at *
            generalize lessS yn x.name = lb at *
            have HPP := Lib.hid hp
            clear hp
            cases lb with
            | false =>
              refine wp_region_held_drew (S := fun z => Frm [] V1 z) (by kernel_rfl) ((Frm.refl [] V1).drew) (fun hHeld => ?_)
              refine wpAnyH_take (i := 0) (oi := ⟨some 18, .load 56 (.tmp 4), _, _, _, none⟩) rfl (by kernel_rfl) (by kernel_rfl) (by kernel_rfl) (fun _ _ _ h => h) (yieldsIf_ld (by rfl) 56 _ rfl _ rfl (fun z hSw => (HX.out z hSw).all)) hHeld ?_
              try simp only [Act.put, List.setIfInBounds_toArray, List.set_cons_zero, List.set_cons_succ]
              refine wpAnyH_ready (rs := [1]) (by kernel_rfl) (by simp) ?_
              refine AllReadyH.cons (o := ⟨some 19, .call { callee := .value (.func 142), args := #[.tmp 18], argTypes := #[56] }, _, _, _, none⟩) rfl (fun K hK => ?_) AllReadyH.nil
              go_simp
              refine (HMAY.out _ (F3.out _ hHeld)).mono ?_
              rintro r wa ⟨rfl, fa⟩
              refine hK.out _ _ ?_ (fun hNext => ?_)
              · exact hHeld.trans fa (by simp)
              clear hK K hHeld
              have hHeld := hNext
              clear hNext
              try simp only [Act.put, List.setIfInBounds_toArray, List.set_cons_zero, List.set_cons_succ]
              refine wpAnyH_take (i := 2) (oi := ⟨some 20, .unOp .not 4 (.tmp 19), _, _, _, none⟩) (v := ?_) rfl (by kernel_rfl) (by kernel_rfl) (by kernel_rfl) (fun _ _ _ h => h) (Or.inl ⟨by rfl, ?_⟩) hHeld ?_
              rotate_left
              focus (intro z hSw; clear hSw; go_simp; try with_reducible rfl)
              try simp only [Act.put, List.setIfInBounds_toArray, List.set_cons_zero, List.set_cons_succ]
              refine wpAnyH_take (i := 3) (oi := ⟨some 21, .move (.tmp 20), _, _, _, none⟩) (v := ?_) rfl (by kernel_rfl) (by kernel_rfl) (by kernel_rfl) (fun _ _ _ h => h) (Or.inl ⟨by rfl, ?_⟩) hHeld ?_
              rotate_left
              focus (intro z hSw; clear hSw; go_simp; try with_reducible rfl)
              try simp only [Act.put, List.setIfInBounds_toArray, List.set_cons_zero, List.set_cons_succ]
              refine wpAnyH_take (i := 4) (oi := ⟨some 22, .fieldAddr 56 (.tmp 4) 0, _, _, _, some (3, false)⟩) (v := ?_) rfl (by kernel_rfl) (by kernel_rfl) (by kernel_rfl) (fun _ _ _ h => h) (Or.inl ⟨by rfl, ?_⟩) hHeld ?_
              rotate_left
              focus (intro z hSw; clear hSw; go_simp; try with_reducible rfl)
              try simp only [Act.put, List.setIfInBounds_toArray, List.set_cons_zero, List.set_cons_succ]
              refine wpAnyH_take (i := 5) (oi := ⟨some 23, .load 3 (.tmp 22), _, _, _, some (3, false)⟩) (v := ?_) rfl (by kernel_rfl) (by kernel_rfl) (by kernel_rfl) (fun _ _ _ h => h) (Or.inl ⟨by rfl, ?_⟩) hHeld ?_
              rotate_left
              focus (intro z hSw; have q0 := (HX.out z hSw).id; have q1 := (HX.out z hSw).name; have q2 := (HT.out z (F3.out z hSw)).next; have q3 := (HT.out z (F3.out z hSw)).recs; have q4 := HGQ.out z (F3.out z hSw); clear hSw; go_simp; try with_reducible rfl)
              try simp only [Act.put, List.setIfInBounds_toArray, List.set_cons_zero, List.set_cons_succ]
              refine wpAnyH_take (i := 6) (oi := ⟨some 24, .fieldAddr 27 (.tmp 1) 0, _, _, _, some (3, false)⟩) (v := ?_) rfl (by kernel_rfl) (by kernel_rfl) (by kernel_rfl) (fun _ _ _ h => h) (Or.inl ⟨by rfl, ?_⟩) hHeld ?_
              rotate_left
              focus (intro z hSw; clear hSw; go_simp; try with_reducible rfl)
              try simp only [Act.put, List.setIfInBounds_toArray, List.set_cons_zero, List.set_cons_succ]
              refine wpAnyH_take (i := 7) (oi := ⟨some 25, .load 3 (.tmp 24), _, _, _, some (3, false)⟩) (v := ?_) rfl (by kernel_rfl) (by kernel_rfl) (by kernel_rfl) (fun _ _ _ h => h) (Or.inl ⟨by rfl, ?_⟩) hHeld ?_
              rotate_left
              focus (intro z hSw; have q0 := (HX.out z hSw).id; have q1 := (HX.out z hSw).name; have q2 := (HT.out z (F3.out z hSw)).next; have q3 := (HT.out z (F3.out z hSw)).recs; have q4 := HGQ.out z (F3.out z hSw); clear hSw; go_simp; try with_reducible rfl)
              try simp only [Act.put, List.setIfInBounds_toArray, List.set_cons_zero, List.set_cons_succ]
              refine wpAnyH_take (i := 8) (oi := ⟨some 26, .binOp .geq 3 (.tmp 23) (.tmp 25) 3, _, _, _, some (3, false)⟩) (v := ?_) rfl (by kernel_rfl) (by kernel_rfl) (by kernel_rfl) (fun _ _ _ h => h) (Or.inl ⟨by rfl, ?_⟩) hHeld ?_
              rotate_left
              focus (intro z hSw; clear hSw; go_simp; try with_reducible rfl)
              try simp only [Act.put, List.setIfInBounds_toArray, List.set_cons_zero, List.set_cons_succ]
              refine wpAnyH_take (i := 9) (oi := ⟨some 27, .pick (.tmp 21) (.const (.bool true)) (.tmp 26), _, _, _, none⟩) (v := ?_) rfl (by kernel_rfl) (by kernel_rfl) (by kernel_rfl) (fun _ _ _ h => h) (Or.inl ⟨by rfl, ?_⟩) hHeld ?_
              rotate_left
              focus (intro z hSw; clear hSw; go_simp; try with_reducible rfl)
              try simp only [Act.put, List.setIfInBounds_toArray, List.set_cons_zero, List.set_cons_succ]
              refine wpAnyH_take (i := 10) (oi := ⟨some 28, .move (.tmp 27), _, _, _, none⟩) (v := ?_) rfl (by kernel_rfl) (by kernel_rfl) (by kernel_rfl) (fun _ _ _ h => h) (Or.inl ⟨by rfl, ?_⟩) hHeld ?_
              rotate_left
              focus (intro z hSw; clear hSw; go_simp; try with_reducible rfl)
              try simp only [Act.put, List.setIfInBounds_toArray, List.set_cons_zero, List.set_cons_succ]
              refine wpAnyH_take (i := 11) (oi := ⟨some 29, .move (.tmp 3), _, _, _, some (10, false)⟩) (v := ?_) rfl (by kernel_rfl) (by kernel_rfl) (by kernel_rfl) (fun _ _ _ h => h) (Or.inl ⟨by rfl, ?_⟩) hHeld ?_
              rotate_left
              focus (intro z hSw; clear hSw; go_simp; try with_reducible rfl)
              try simp only [Act.put, List.setIfInBounds_toArray, List.set_cons_zero, List.set_cons_succ]
              refine wpAnyH_take (i := 12) (oi := ⟨some 30, .binOp .gtr 3 (.tmp 29) (.const (.int .i64 0)) 3, _, _, _, some (10, false)⟩) (v := ?_) rfl (by kernel_rfl) (by kernel_rfl) (by kernel_rfl) (fun _ _ _ h => h) (Or.inl ⟨by rfl, ?_⟩) hHeld ?_
              rotate_left
              focus (intro z hSw; clear hSw; go_simp; try with_reducible rfl)
              try simp only [Act.put, List.setIfInBounds_toArray, List.set_cons_zero, List.set_cons_succ]
              try simp only [hgtN]
              refine wpAnyH_take (i := 13) (oi := ⟨some 31, .move (.tmp 30), _, _, _, some (10, false)⟩) (v := ?_) rfl (by kernel_rfl) (by kernel_rfl) (by kernel_rfl) (fun _ _ _ h => h) (Or.inl ⟨by rfl, ?_⟩) hHeld ?_
              rotate_left
              focus (intro z hSw; clear hSw; go_simp; try with_reducible rfl)
              try simp only [Act.put, List.setIfInBounds_toArray, List.set_cons_zero, List.set_cons_succ]
              refine wpAnyH_take (i := 14) (oi := ⟨some 32, .fieldAddr 27 (.tmp 1) 1, _, _, _, some (13, true)⟩) (v := ?_) rfl (by kernel_rfl) (by kernel_rfl) (by kernel_rfl) (fun _ _ _ h => h) (Or.inl ⟨by rfl, ?_⟩) hHeld ?_
              rotate_left
              focus (intro z hSw; clear hSw; go_simp; try with_reducible rfl)
              try simp only [Act.put, List.setIfInBounds_toArray, List.set_cons_zero, List.set_cons_succ]
              refine wpAnyH_take (i := 15) (oi := ⟨some 33, .load 22 (.tmp 32), _, _, _, some (13, true)⟩) (v := ?_) rfl (by kernel_rfl) (by kernel_rfl) (by kernel_rfl) (fun _ _ _ h => h) (Or.inl ⟨by rfl, ?_⟩) hHeld ?_
              rotate_left
              focus (intro z hSw; have q0 := (HX.out z hSw).id; have q1 := (HX.out z hSw).name; have q2 := (HT.out z (F3.out z hSw)).next; have q3 := (HT.out z (F3.out z hSw)).recs; have q4 := HGQ.out z (F3.out z hSw); clear hSw; go_simp; try with_reducible rfl)
              try simp only [Act.put, List.setIfInBounds_toArray, List.set_cons_zero, List.set_cons_succ]
              refine wpAnyH_take (i := 16) (oi := ⟨some 34, .move (.tmp 3), _, _, _, some (13, true)⟩) (v := ?_) rfl (by kernel_rfl) (by kernel_rfl) (by kernel_rfl) (fun _ _ _ h => h) (Or.inl ⟨by rfl, ?_⟩) hHeld ?_
              rotate_left
              focus (intro z hSw; clear hSw; go_simp; try with_reducible rfl)
              try simp only [Act.put, List.setIfInBounds_toArray, List.set_cons_zero, List.set_cons_succ]
              refine wpAnyH_take (i := 17) (oi := ⟨some 35, .binOp .sub 3 (.tmp 34) (.const (.int .i64 1)) 3, _, _, _, some (13, true)⟩) (v := ?_) rfl (by kernel_rfl) (by kernel_rfl) (by kernel_rfl) (fun _ _ _ h => h) (Or.inl ⟨by rfl, ?_⟩) hHeld ?_
              rotate_left
              focus (intro z hSw; clear hSw; go_simp; try with_reducible rfl)
              try simp only [Act.put, List.setIfInBounds_toArray, List.set_cons_zero, List.set_cons_succ]
              refine wpAnyH_take (i := 18) (oi := ⟨some 36, .indexAddr 22 (.tmp 33) (.tmp 35), _, _, _, some (13, true)⟩) (v := ?_) rfl (by kernel_rfl) (by kernel_rfl) (by kernel_rfl) (fun _ _ _ h => h) (Or.inl ⟨by rfl, ?_⟩) hHeld ?_
              rotate_left
              focus (intro z hSw; clear hSw; go_simp; try with_reducible rfl)
              try simp only [Act.put, List.setIfInBounds_toArray, List.set_cons_zero, List.set_cons_succ]
              refine wpAnyH_take (i := 19) (oi := ⟨some 37, .fieldAddr 56 (.tmp 36) 1, _, _, _, some (13, true)⟩) (v := ?_) rfl (by kernel_rfl) (by kernel_rfl) (by kernel_rfl) (fun _ _ _ h => h) (Or.inl ⟨by rfl, ?_⟩) hHeld ?_
              rotate_left
              focus (intro z hSw; clear hSw; go_simp; try with_reducible rfl)
              try simp only [Act.put, List.setIfInBounds_toArray, List.set_cons_zero, List.set_cons_succ]
              refine wpAnyH_take (i := 20) (oi := ⟨some 38, .load 9 (.tmp 37), _, _, _, some (13, true)⟩) (v := ?_) rfl (by kernel_rfl) (by kernel_rfl) (by kernel_rfl) (fun _ _ _ h => h) (Or.inl ⟨by rfl, ?_⟩) hHeld ?_
              rotate_left
              focus (intro z hSw; have q0 := (HX.out z hSw).id; have q1 := (HX.out z hSw).name; have q2 := (HT.out z (F3.out z hSw)).next; have q3 := (HT.out z (F3.out z hSw)).recs; have q4 := HGQ.out z (F3.out z hSw); clear hSw; go_simp; try with_reducible rfl)
              try simp only [Act.put, List.setIfInBounds_toArray, List.set_cons_zero, List.set_cons_succ]
              refine wpAnyH_take (i := 21) (oi := ⟨some 39, .fieldAddr 56 (.tmp 4) 1, _, _, _, some (13, true)⟩) (v := ?_) rfl (by kernel_rfl) (by kernel_rfl) (by kernel_rfl) (fun _ _ _ h => h) (Or.inl ⟨by rfl, ?_⟩) hHeld ?_
              rotate_left
              focus (intro z hSw; clear hSw; go_simp; try with_reducible rfl)
              try simp only [Act.put, List.setIfInBounds_toArray, List.set_cons_zero, List.set_cons_succ]
              refine wpAnyH_take (i := 22) (oi := ⟨some 40, .load 9 (.tmp 39), _, _, _, some (13, true)⟩) (v := ?_) rfl (by kernel_rfl) (by kernel_rfl) (by kernel_rfl) (fun _ _ _ h => h) (Or.inl ⟨by rfl, ?_⟩) hHeld ?_
              rotate_left
              focus (intro z hSw; have q0 := (HX.out z hSw).id; have q1 := (HX.out z hSw).name; have q2 := (HT.out z (F3.out z hSw)).next; have q3 := (HT.out z (F3.out z hSw)).recs; have q4 := HGQ.out z (F3.out z hSw); clear hSw; go_simp; try with_reducible rfl)
              try simp only [Act.put, List.setIfInBounds_toArray, List.set_cons_zero, List.set_cons_succ]
              refine wpAnyH_ready (rs := [23]) (by kernel_rfl) (by simp) ?_
              refine AllReadyH.cons (o := ⟨some 41, .call { callee := .value (.func 143), args := #[.tmp 38, .tmp 40], argTypes := #[9, 9] }, _, _, _, some (13, true)⟩) rfl (fun K hK => ?_) AllReadyH.nil
              go_simp
              refine (HLQ.out _).mono ?_
              rintro r wb ⟨rfl, fb⟩
              refine hK.out _ _ ?_ (fun hNext => ?_)
              · exact hHeld.trans fb (by simp)
              clear hK K hHeld
              have hHeld := hNext
              clear hNext
              try simp only [Act.put, List.setIfInBounds_toArray, List.set_cons_zero, List.set_cons_succ]
              refine wpAnyH_take (i := 24) (oi := ⟨some 42, .unOp .not 4 (.tmp 41), _, _, _, some (13, true)⟩) (v := ?_) rfl (by kernel_rfl) (by kernel_rfl) (by kernel_rfl) (fun _ _ _ h => h) (Or.inl ⟨by rfl, ?_⟩) hHeld ?_
              rotate_left
              focus (intro z hSw; clear hSw; go_simp; try with_reducible rfl)
              try simp only [Act.put, List.setIfInBounds_toArray, List.set_cons_zero, List.set_cons_succ]
              refine wpAnyH_take (i := 25) (oi := ⟨some 43, .pick (.tmp 31) (.tmp 42) (.const (.bool false)), _, _, _, some (10, false)⟩) (v := ?_) rfl (by kernel_rfl) (by kernel_rfl) (by kernel_rfl) (fun _ _ _ h => h) (Or.inl ⟨by rfl, ?_⟩) hHeld ?_
              rotate_left
              focus (intro z hSw; clear hSw; go_simp; try with_reducible rfl)
              try simp only [Act.put, List.setIfInBounds_toArray, List.set_cons_zero, List.set_cons_succ]
              refine wpAnyH_take (i := 26) (oi := ⟨some 44, .pick (.tmp 28) (.const (.bool true)) (.tmp 43), _, _, _, none⟩) (v := ?_) rfl (by kernel_rfl) (by kernel_rfl) (by kernel_rfl) (fun _ _ _ h => h) (Or.inl ⟨by rfl, ?_⟩) hHeld ?_
              rotate_left
              focus (intro z hSw; clear hSw; go_simp; try with_reducible rfl)
              try simp only [Act.put, List.setIfInBounds_toArray, List.set_cons_zero, List.set_cons_succ]
              refine wpAnyH_done (by kernel_rfl) ?_ _
              have en := HNO0.out (by rw [HST.out, HPVQ.out]; rfl)
              go_wp2_with fail
              go_ret
              exact ⟨by first | rfl | (rw [en]; rfl) | simp [en], F.out.trans (F3.out _ hHeld) (by simp)⟩
            | true =>
              refine wp_region_held_drew (S := fun z => Frm [] V1 z) (by kernel_rfl) ((Frm.refl [] V1).drew) (fun hHeld => ?_)
              refine wpAnyH_take (i := 0) (oi := ⟨some 18, .load 56 (.tmp 4), _, _, _, none⟩) rfl (by kernel_rfl) (by kernel_rfl) (by kernel_rfl) (fun _ _ _ h => h) (yieldsIf_ld (by rfl) 56 _ rfl _ rfl (fun z hSw => (HX.out z hSw).all)) hHeld ?_
              try simp only [Act.put, List.setIfInBounds_toArray, List.set_cons_zero, List.set_cons_succ]
              refine wpAnyH_ready (rs := [1]) (by kernel_rfl) (by simp) ?_
              refine AllReadyH.cons (o := ⟨some 19, .call { callee := .value (.func 142), args := #[.tmp 18], argTypes := #[56] }, _, _, _, none⟩) rfl (fun K hK => ?_) AllReadyH.nil
              go_simp
              refine (HMAY.out _ (F3.out _ hHeld)).mono ?_
              rintro r wa ⟨rfl, fa⟩
              refine hK.out _ _ ?_ (fun hNext => ?_)
              · exact hHeld.trans fa (by simp)
              clear hK K hHeld
              have hHeld := hNext
              clear hNext
              try simp only [Act.put, List.setIfInBounds_toArray, List.set_cons_zero, List.set_cons_succ]
              refine wpAnyH_take (i := 2) (oi := ⟨some 20, .unOp .not 4 (.tmp 19), _, _, _, none⟩) (v := ?_) rfl (by kernel_rfl) (by kernel_rfl) (by kernel_rfl) (fun _ _ _ h => h) (Or.inl ⟨by rfl, ?_⟩) hHeld ?_
              rotate_left
              focus (intro z hSw; clear hSw; go_simp; try with_reducible rfl)
              try simp only [Act.put, List.setIfInBounds_toArray, List.set_cons_zero, List.set_cons_succ]
              refine wpAnyH_take (i := 3) (oi := ⟨some 21, .move (.tmp 20), _, _, _, none⟩) (v := ?_) rfl (by kernel_rfl) (by kernel_rfl) (by kernel_rfl) (fun _ _ _ h => h) (Or.inl ⟨by rfl, ?_⟩) hHeld ?_
              rotate_left
              focus (intro z hSw; clear hSw; go_simp; try with_reducible rfl)
              try simp only [Act.put, List.setIfInBounds_toArray, List.set_cons_zero, List.set_cons_succ]
              refine wpAnyH_take (i := 4) (oi := ⟨some 22, .fieldAddr 56 (.tmp 4) 0, _, _, _, some (3, false)⟩) (v := ?_) rfl (by kernel_rfl) (by kernel_rfl) (by kernel_rfl) (fun _ _ _ h => h) (Or.inl ⟨by rfl, ?_⟩) hHeld ?_
              rotate_left
              focus (intro z hSw; clear hSw; go_simp; try with_reducible rfl)
              try simp only [Act.put, List.setIfInBounds_toArray, List.set_cons_zero, List.set_cons_succ]
              refine wpAnyH_take (i := 5) (oi := ⟨some 23, .load 3 (.tmp 22), _, _, _, some (3, false)⟩) (v := ?_) rfl (by kernel_rfl) (by kernel_rfl) (by kernel_rfl) (fun _ _ _ h => h) (Or.inl ⟨by rfl, ?_⟩) hHeld ?_
              rotate_left
              focus (intro z hSw; have q0 := (HX.out z hSw).id; have q1 := (HX.out z hSw).name; have q2 := (HT.out z (F3.out z hSw)).next; have q3 := (HT.out z (F3.out z hSw)).recs; have q4 := HGQ.out z (F3.out z hSw); clear hSw; go_simp; try with_reducible rfl)
              try simp only [Act.put, List.setIfInBounds_toArray, List.set_cons_zero, List.set_cons_succ]
              refine wpAnyH_take (i := 6) (oi := ⟨some 24, .fieldAddr 27 (.tmp 1) 0, _, _, _, some (3, false)⟩) (v := ?_) rfl (by kernel_rfl) (by kernel_rfl) (by kernel_rfl) (fun _ _ _ h => h) (Or.inl ⟨by rfl, ?_⟩) hHeld ?_
              rotate_left
              focus (intro z hSw; clear hSw; go_simp; try with_reducible rfl)
              try simp only [Act.put, List.setIfInBounds_toArray, List.set_cons_zero, List.set_cons_succ]
              refine wpAnyH_take (i := 7) (oi := ⟨some 25, .load 3 (.tmp 24), _, _, _, some (3, false)⟩) (v := ?_) rfl (by kernel_rfl) (by kernel_rfl) (by kernel_rfl) (fun _ _ _ h => h) (Or.inl ⟨by rfl, ?_⟩) hHeld ?_
              rotate_left
              focus (intro z hSw; have q0 := (HX.out z hSw).id; have q1 := (HX.out z hSw).name; have q2 := (HT.out z (F3.out z hSw)).next; have q3 := (HT.out z (F3.out z hSw)).recs; have q4 := HGQ.out z (F3.out z hSw); clear hSw; go_simp; try with_reducible rfl)
              try simp only [Act.put, List.setIfInBounds_toArray, List.set_cons_zero, List.set_cons_succ]
              refine wpAnyH_take (i := 8) (oi := ⟨some 26, .binOp .geq 3 (.tmp 23) (.tmp 25) 3, _, _, _, some (3, false)⟩) (v := ?_) rfl (by kernel_rfl) (by kernel_rfl) (by kernel_rfl) (fun _ _ _ h => h) (Or.inl ⟨by rfl, ?_⟩) hHeld ?_
              rotate_left
              focus (intro z hSw; clear hSw; go_simp; try with_reducible rfl)
              try simp only [Act.put, List.setIfInBounds_toArray, List.set_cons_zero, List.set_cons_succ]
              refine wpAnyH_take (i := 9) (oi := ⟨some 27, .pick (.tmp 21) (.const (.bool true)) (.tmp 26), _, _, _, none⟩) (v := ?_) rfl (by kernel_rfl) (by kernel_rfl) (by kernel_rfl) (fun _ _ _ h => h) (Or.inl ⟨by rfl, ?_⟩) hHeld ?_
              rotate_left
              focus (intro z hSw; clear hSw; go_simp; try with_reducible rfl)
              try simp only [Act.put, List.setIfInBounds_toArray, List.set_cons_zero, List.set_cons_succ]
              refine wpAnyH_take (i := 10) (oi := ⟨some 28, .move (.tmp 27), _, _, _, none⟩) (v := ?_) rfl (by kernel_rfl) (by kernel_rfl) (by kernel_rfl) (fun _ _ _ h => h) (Or.inl ⟨by rfl, ?_⟩) hHeld ?_
              rotate_left
              focus (intro z hSw; clear hSw; go_simp; try with_reducible rfl)
              try simp only [Act.put, List.setIfInBounds_toArray, List.set_cons_zero, List.set_cons_succ]
              refine wpAnyH_take (i := 11) (oi := ⟨some 29, .move (.tmp 3), _, _, _, some (10, false)⟩) (v := ?_) rfl (by kernel_rfl) (by kernel_rfl) (by kernel_rfl) (fun _ _ _ h => h) (Or.inl ⟨by rfl, ?_⟩) hHeld ?_
              rotate_left
              focus (intro z hSw; clear hSw; go_simp; try with_reducible rfl)
              try simp only [Act.put, List.setIfInBounds_toArray, List.set_cons_zero, List.set_cons_succ]
              refine wpAnyH_take (i := 12) (oi := ⟨some 30, .binOp .gtr 3 (.tmp 29) (.const (.int .i64 0)) 3, _, _, _, some (10, false)⟩) (v := ?_) rfl (by kernel_rfl) (by kernel_rfl) (by kernel_rfl) (fun _ _ _ h => h) (Or.inl ⟨by rfl, ?_⟩) hHeld ?_
              rotate_left
              focus (intro z hSw; clear hSw; go_simp; try with_reducible rfl)
              try simp only [Act.put, List.setIfInBounds_toArray, List.set_cons_zero, List.set_cons_succ]
              try simp only [hgtN]
              refine wpAnyH_take (i := 13) (oi := ⟨some 31, .move (.tmp 30), _, _, _, some (10, false)⟩) (v := ?_) rfl (by kernel_rfl) (by kernel_rfl) (by kernel_rfl) (fun _ _ _ h => h) (Or.inl ⟨by rfl, ?_⟩) hHeld ?_
              rotate_left
              focus (intro z hSw; clear hSw; go_simp; try with_reducible rfl)
              try simp only [Act.put, List.setIfInBounds_toArray, List.set_cons_zero, List.set_cons_succ]
              refine wpAnyH_take (i := 14) (oi := ⟨some 32, .fieldAddr 27 (.tmp 1) 1, _, _, _, some (13, true)⟩) (v := ?_) rfl (by kernel_rfl) (by kernel_rfl) (by kernel_rfl) (fun _ _ _ h => h) (Or.inl ⟨by rfl, ?_⟩) hHeld ?_
              rotate_left
              focus (intro z hSw; clear hSw; go_simp; try with_reducible rfl)
              try simp only [Act.put, List.setIfInBounds_toArray, List.set_cons_zero, List.set_cons_succ]
              refine wpAnyH_take (i := 15) (oi := ⟨some 33, .load 22 (.tmp 32), _, _, _, some (13, true)⟩) (v := ?_) rfl (by kernel_rfl) (by kernel_rfl) (by kernel_rfl) (fun _ _ _ h => h) (Or.inl ⟨by rfl, ?_⟩) hHeld ?_
              rotate_left
              focus (intro z hSw; have q0 := (HX.out z hSw).id; have q1 := (HX.out z hSw).name; have q2 := (HT.out z (F3.out z hSw)).next; have q3 := (HT.out z (F3.out z hSw)).recs; have q4 := HGQ.out z (F3.out z hSw); clear hSw; go_simp; try with_reducible rfl)
              try simp only [Act.put, List.setIfInBounds_toArray, List.set_cons_zero, List.set_cons_succ]
              refine wpAnyH_take (i := 16) (oi := ⟨some 34, .move (.tmp 3), _, _, _, some (13, true)⟩) (v := ?_) rfl (by kernel_rfl) (by kernel_rfl) (by kernel_rfl) (fun _ _ _ h => h) (Or.inl ⟨by rfl, ?_⟩) hHeld ?_
              rotate_left
              focus (intro z hSw; clear hSw; go_simp; try with_reducible rfl)
              try simp only [Act.put, List.setIfInBounds_toArray, List.set_cons_zero, List.set_cons_succ]
              refine wpAnyH_take (i := 17) (oi := ⟨some 35, .binOp .sub 3 (.tmp 34) (.const (.int .i64 1)) 3, _, _, _, some (13, true)⟩) (v := ?_) rfl (by kernel_rfl) (by kernel_rfl) (by kernel_rfl) (fun _ _ _ h => h) (Or.inl ⟨by rfl, ?_⟩) hHeld ?_
              rotate_left
              focus (intro z hSw; clear hSw; go_simp; try with_reducible rfl)
              try simp only [Act.put, List.setIfInBounds_toArray, List.set_cons_zero, List.set_cons_succ]
              refine wpAnyH_take (i := 18) (oi := ⟨some 36, .indexAddr 22 (.tmp 33) (.tmp 35), _, _, _, some (13, true)⟩) (v := ?_) rfl (by kernel_rfl) (by kernel_rfl) (by kernel_rfl) (fun _ _ _ h => h) (Or.inl ⟨by rfl, ?_⟩) hHeld ?_
              rotate_left
              focus (intro z hSw; clear hSw; go_simp; try with_reducible rfl)
              try simp only [Act.put, List.setIfInBounds_toArray, List.set_cons_zero, List.set_cons_succ]
              refine wpAnyH_take (i := 19) (oi := ⟨some 37, .fieldAddr 56 (.tmp 36) 1, _, _, _, some (13, true)⟩) (v := ?_) rfl (by kernel_rfl) (by kernel_rfl) (by kernel_rfl) (fun _ _ _ h => h) (Or.inl ⟨by rfl, ?_⟩) hHeld ?_
              rotate_left
              focus (intro z hSw; clear hSw; go_simp; try with_reducible rfl)
              try simp only [Act.put, List.setIfInBounds_toArray, List.set_cons_zero, List.set_cons_succ]
              refine wpAnyH_take (i := 20) (oi := ⟨some 38, .load 9 (.tmp 37), _, _, _, some (13, true)⟩) (v := ?_) rfl (by kernel_rfl) (by kernel_rfl) (by kernel_rfl) (fun _ _ _ h => h) (Or.inl ⟨by rfl, ?_⟩) hHeld ?_
              rotate_left
              focus (intro z hSw; have q0 := (HX.out z hSw).id; have q1 := (HX.out z hSw).name; have q2 := (HT.out z (F3.out z hSw)).next; have q3 := (HT.out z (F3.out z hSw)).recs; have q4 := HGQ.out z (F3.out z hSw); clear hSw; go_simp; try with_reducible rfl)
              try simp only [Act.put, List.setIfInBounds_toArray, List.set_cons_zero, List.set_cons_succ]
              refine wpAnyH_take (i := 21) (oi := ⟨some 39, .fieldAddr 56 (.tmp 4) 1, _, _, _, some (13, true)⟩) (v := ?_) rfl (by kernel_rfl) (by kernel_rfl) (by kernel_rfl) (fun _ _ _ h => h) (Or.inl ⟨by rfl, ?_⟩) hHeld ?_
              rotate_left
              focus (intro z hSw; clear hSw; go_simp; try with_reducible rfl)
              try simp only [Act.put, List.setIfInBounds_toArray, List.set_cons_zero, List.set_cons_succ]
              refine wpAnyH_take (i := 22) (oi := ⟨some 40, .load 9 (.tmp 39), _, _, _, some (13, true)⟩) (v := ?_) rfl (by kernel_rfl) (by kernel_rfl) (by kernel_rfl) (fun _ _ _ h => h) (Or.inl ⟨by rfl, ?_⟩) hHeld ?_
              rotate_left
              focus (intro z hSw; have q0 := (HX.out z hSw).id; have q1 := (HX.out z hSw).name; have q2 := (HT.out z (F3.out z hSw)).next; have q3 := (HT.out z (F3.out z hSw)).recs; have q4 := HGQ.out z (F3.out z hSw); clear hSw; go_simp; try with_reducible rfl)
              try simp only [Act.put, List.setIfInBounds_toArray, List.set_cons_zero, List.set_cons_succ]
              refine wpAnyH_ready (rs := [23]) (by kernel_rfl) (by simp) ?_
              refine AllReadyH.cons (o := ⟨some 41, .call { callee := .value (.func 143), args := #[.tmp 38, .tmp 40], argTypes := #[9, 9] }, _, _, _, some (13, true)⟩) rfl (fun K hK => ?_) AllReadyH.nil
              go_simp
              refine (HLQ.out _).mono ?_
              rintro r wb ⟨rfl, fb⟩
              refine hK.out _ _ ?_ (fun hNext => ?_)
              · exact hHeld.trans fb (by simp)
              clear hK K hHeld
              have hHeld := hNext
              clear hNext
              try simp only [Act.put, List.setIfInBounds_toArray, List.set_cons_zero, List.set_cons_succ]
              refine wpAnyH_take (i := 24) (oi := ⟨some 42, .unOp .not 4 (.tmp 41), _, _, _, some (13, true)⟩) (v := ?_) rfl (by kernel_rfl) (by kernel_rfl) (by kernel_rfl) (fun _ _ _ h => h) (Or.inl ⟨by rfl, ?_⟩) hHeld ?_
              rotate_left
              focus (intro z hSw; clear hSw; go_simp; try with_reducible rfl)
              try simp only [Act.put, List.setIfInBounds_toArray, List.set_cons_zero, List.set_cons_succ]
              refine wpAnyH_take (i := 25) (oi := ⟨some 43, .pick (.tmp 31) (.tmp 42) (.const (.bool false)), _, _, _, some (10, false)⟩) (v := ?_) rfl (by kernel_rfl) (by kernel_rfl) (by kernel_rfl) (fun _ _ _ h => h) (Or.inl ⟨by rfl, ?_⟩) hHeld ?_
              rotate_left
              focus (intro z hSw; clear hSw; go_simp; try with_reducible rfl)
              try simp only [Act.put, List.setIfInBounds_toArray, List.set_cons_zero, List.set_cons_succ]
              refine wpAnyH_take (i := 26) (oi := ⟨some 44, .pick (.tmp 28) (.const (.bool true)) (.tmp 43), _, _, _, none⟩) (v := ?_) rfl (by kernel_rfl) (by kernel_rfl) (by kernel_rfl) (fun _ _ _ h => h) (Or.inl ⟨by rfl, ?_⟩) hHeld ?_
              rotate_left
              focus (intro z hSw; clear hSw; go_simp; try with_reducible rfl)
              try simp only [Act.put, List.setIfInBounds_toArray, List.set_cons_zero, List.set_cons_succ]
              refine wpAnyH_done (by kernel_rfl) ?_ _
              go_wp2_with fail
              go_loopw [5] (InnRel t.recs i x.id V1) (fun c _ => i - (intOf c).toNat)
              case atStart => exact ⟨0, Nat.zero_le _, rfl, fun j _ hj => by omega, hHeld⟩
              case round =>
                obtain ⟨k, hk2, rfl, hz2, f2⟩ := hrel
                have HZ2 := Lib.hid hz2
                have F2 := Lib.hid f2
                have r1 := (HT.out _ (F3.out _ f2)).recs
                have r2 := (HX.out _ f2).id
                clear hz2 f2
                by_cases hki : k < i
                · have hkl2 : k < t.recs.length := by omega
                  have hkl8 : (k : Int) < (t.recs.length : Int) := by omega
                  have hki9 : (k : Int) < (i : Int) := by omega
                  have r3 := HGI.out k hkl2 _ (F3.out _ F2.out)
                  have HU1 := Lib.hid (HUN.out k hkl2 hki)
                  have HU2 := Lib.hid (show (t.recs[k]).id ≠ x.id → ∀ j (h : j < t.recs.length), j < k + 1 → (t.recs[j]).id ≠ x.id from fun hb j hj hjk => by
                    by_cases e : j = k
                    · subst e; exact hb
                    · exact HZ2.out j hj (by omega))
                  generalize (t.recs[k]).id = yid at *
                  go_wp2_with fail
                  go_quiet (fail)
                  by_cases hq : yid = x.id
                  · have e1 : (yid == x.id) = true := by simpa using hq
                    have hub := HU1.out hq
                    have en := HNO0.out (by rw [HST.out, hub]; simp)
                    clear hub
                    go_wp2_with fail
                    go_ret
                    exact ⟨by first | rfl | (rw [en]; rfl) | simp [en], F.out.trans (F3.out _ (F2.out.drewN _)) (by simp)⟩
                  · have e1 : (yid == x.id) = false := by simpa using hq
                    go_wp2_with fail
                    go_roundw
                    case rel => exact ⟨k + 1, by omega, by go_num, HU2.out hq, F2.out.drewN _⟩
                    case measure => simp [intOf]; omega
                · obtain rfl : k = i := by omega
                  have hub := HUY.out HZ2.out
                  have LT := Lib.hid (HT.out _ (F3.out _ F2.out)).all
                  have LX2 := Lib.hid (HX.out _ F2.out).all
                  have HKC := Lib.hid (HKI.out _ (F3.out _ F2.out))
                  have HUB := Lib.hid hub
                  clear hub
                  cases kb with
                  | false =>
                    have en := HNO0.out (by rw [HST.out]; simp)
                    go_wp2_with (first
                      | ((with_reducible (show wpList _ _ _ (Oper.mk _ (Op.load 27 _) _ _ _ _ :: _) _ _)); refine wpList_load_g (by rfl) 27 _ rfl _ rfl LT.out ?_)
                      | ((with_reducible (show wpList _ _ _ (Oper.mk _ (Op.load 56 _) _ _ _ _ :: _) _ _)); refine wpList_load_g (by rfl) 56 _ rfl _ rfl LX2.out ?_)
                      | (go_at_call 144; refine HKC.out.mono ?_; rintro e wk ⟨rfl, fk⟩))
                    go_ret
                    exact ⟨by first | rfl | (rw [en]; rfl) | simp [en], F.out.trans (F3.out _ (F2.out.trans fk (by simp))) (by simp)⟩
                  | true =>
                    have HY := Lib.hid (HSM.out (by rw [HST.out, HUB.out, HPVQ.out]; rfl))
                    go_wp2_with (first
                      | ((with_reducible (show wpList _ _ _ (Oper.mk _ (Op.load 27 _) _ _ _ _ :: _) _ _)); refine wpList_load_g (by rfl) 27 _ rfl _ rfl LT.out ?_)
                      | ((with_reducible (show wpList _ _ _ (Oper.mk _ (Op.load 56 _) _ _ _ _ :: _) _ _)); refine wpList_load_g (by rfl) 56 _ rfl _ rfl LX2.out ?_)
                      | (go_at_call 144; refine HKC.out.mono ?_; rintro e wk ⟨rfl, fk⟩))
                    go_roundw
                    case rel => exact ⟨k + 1, by omega, by go_num, HY.out, F3.out _ (F2.out.trans fk (by simp))⟩
                    case measure => simp [intOf]; omega
    · obtain rfl : i = t.recs.length := by omega
      have e := allB_yes (next := t.next) (rs := t.recs) (fun j hj => HZ.out j hj hj)
      go_wp2_with fail
      go_ret
      exact ⟨by first | rfl | (rw [e]; rfl), F.out.trans FW.out (by simp)⟩
end Go.Proofs.YtljhanhipmnioaaGreat.Rd

namespace Go.Proofs.YtljhanhipmnioaaGreat.Rd
open Go.RowKit
set_option linter.unusedVariables false
set_option linter.unusedSimpArgs false
set_option maxRecDepth 100000

open Pt (Pt may enc readPt readE zeroPt be4 be1 pc pv PtV SlA OwnA BT wpList_load_g heap_alloc_at lst_slB one_slB Ext Grew exec_slice_lh yieldsIf_ld)
open Kr (OwnE SlE Enco RowTys)

set_option maxHeartbeats 4000000 in
theorem cursorD_any (c : Cur) (devs : Int) (w : World) (hd : 0 ≤ devs ∧ devs ≤ 1000) : Calls Tryz.prog 71 #[cv c, .int .i64 devs] w fun e w' => e = .returned (.bool (curB c devs)) ∧ Frm [] w w' := by
  have hs : IntKind.i64.wrap (devs - 1) = devs - 1 := IntWalk.i64_in _ (by omega)
  have hs2 : wrap64 (devs - 1) = devs - 1 := IntWalk.wrap64_in _ (by omega)
  have hq := cur_eql c zeroC
  have hg := cur_guard .eql
  have hz : decide (c = zeroC) = curEq c zeroC := by rw [Bool.eq_iff_iff, curEq_iff, decide_eq_true_eq]
  unfold curB
  rw [hz]
  clear hz
  have f0 : Frm [] w (w.alloc (.cells #[.int .i64 c.kind, .int .i64 c.dev, .int .i64 c.at_, .int .i64 c.txg] 24)) := (Frm.refl [] w).alloc _
  have hb : (w.alloc (.cells #[.int .i64 c.kind, .int .i64 c.dev, .int .i64 c.at_, .int .i64 c.txg] 24)).heap[w.heap.size]? = some (.cells #[.int .i64 c.kind, .int .i64 c.dev, .int .i64 c.at_, .int .i64 c.txg] 24 (0, 0)) := heap_alloc_new _ _
  have c0 : (w.alloc (.cells #[.int .i64 c.kind, .int .i64 c.dev, .int .i64 c.at_, .int .i64 c.txg] 24)).cell? ⟨w.heap.size, 0, none⟩ = some (.int .i64 c.kind) := cell_of_heap hb 0
  have c1 : (w.alloc (.cells #[.int .i64 c.kind, .int .i64 c.dev, .int .i64 c.at_, .int .i64 c.txg] 24)).cell? ⟨w.heap.size, 1, none⟩ = some (.int .i64 c.dev) := cell_of_heap hb 1
  have c2 : (w.alloc (.cells #[.int .i64 c.kind, .int .i64 c.dev, .int .i64 c.at_, .int .i64 c.txg] 24)).cell? ⟨w.heap.size, 2, none⟩ = some (.int .i64 c.at_) := cell_of_heap hb 2
  have c3 : (w.alloc (.cells #[.int .i64 c.kind, .int .i64 c.dev, .int .i64 c.at_, .int .i64 c.txg] 24)).cell? ⟨w.heap.size, 3, none⟩ = some (.int .i64 c.txg) := cell_of_heap hb 3
  obtain ⟨d2, h3, h4⟩ := Option.map_eq_some_iff.1 d24
  have LC := Lib.hid (show (Instr.loadAt 24 (.pointer (some ⟨w.heap.size, 0, none⟩))).run Tryz.prog _ = .ok (cv c) _ from run_loadAt_mid _ w.heap.size 0 24 [.int .i64 c.kind, .int .i64 c.dev, .int .i64 c.at_, .int .i64 c.txg] d2 (fun j u hu => by rw [Nat.zero_add, cell_of_heap hb]; simpa using hu) h3 h4 (by rw [i24]; rfl))
  have F := Lib.hid f0
  clear hb h3 h4 f0
  show Calls Tryz.prog 71 #[.agg #[.int .i64 c.kind, .int .i64 c.dev, .int .i64 c.at_, .int .i64 c.txg], .int .i64 devs] w _
  generalize (#[.int .i64 c.kind, .int .i64 c.dev, .int .i64 c.at_, .int .i64 c.txg] : Array Value) = A at *
  generalize curEq c zeroC = sz at *
  generalize hgz : w.heap.size = g at *
  by_cases k0 : c.kind = 0
  · rw [if_pos k0]
    rw [k0] at c0
    clear k0
    go_enter Tryz.func71, Tryz.ntmps71
    go_upto_region 1 with (fail)
    generalize w.alloc (.cells A 24) = W at *
    go_wp2_with (first
      | ((with_reducible (show wpList _ _ _ (Oper.mk _ (Op.load 24 _) _ _ _ _ :: _) _ _)); refine wpList_load_g (by rfl) 24 _ rfl _ rfl LC.out ?_)
      | ((with_reducible (show wpList _ _ _ (Oper.mk _ (Op.build 24 _) _ _ _ _ :: _) _ _)); refine wpList_val rfl (exec_bld24z rfl _) ?_))
    go_ret
    exact ⟨rfl, F.out⟩
  · rw [if_neg k0]
    have e0 : (c.kind == 0) = false := by simpa using k0
    clear k0
    go_enter Tryz.func71, Tryz.ntmps71
    go_upto_region 1 with (fail)
    generalize w.alloc (.cells A 24) = W at *
    go_wp2_with (go_at_call 69; refine (within_doc _ _ _ _).mono ?_; rintro e w1 ⟨rfl, rfl⟩)
    all_goals go_ret
    all_goals refine ⟨?_, F.out⟩
    all_goals simp_all
    all_goals omega
def LivRel (l : List Int) (w0 : World) (cv : Value) (wr : World) : Prop := ∃ k : Nat, k ≤ l.length ∧ cv = .int .i64 k ∧ (∀ j (h : j < l.length), j < k → wi l[j] 0 2147483647 = true) ∧ Frm [] w0 wr
set_option maxHeartbeats 4000000 in
theorem RefCheckT_any (vr vl : Value) (t : Tab) (w : World) (h : TabV w vr vl t) (hf : FitT t) : Calls Tryz.prog 23 #[tv vr vl t] w fun e w' => e = .returned (.int .i64 (mayTE t)) ∧ Frm [] w w' := by
  obtain ⟨h1, sp, h2⟩ := h
  have HREC := Lib.hid (fun z (f : Frm [] w z) => records_any vr vl t z (h1.keep0 f) hf.recs hf.all)
  have HCUR := Lib.hid (fun z => cursorD_any t.cur (t.lives.length : Int) z (by have := hf.lives; omega))
  have hr9 : (t.recs.length : Int) ≤ 1000 := by have := hf.recs; omega
  have hl9 : (t.lives.length : Int) ≤ 1000 := by have := hf.lives; omega
  unfold mayTE mayT headB
  unfold tv
  have HTV := Lib.hid (show tv vr vl t = .agg (tc vr vl t).toArray from rfl)
  have f0 : Frm [] w (w.alloc (.cells (tc vr vl t).toArray 27)) := (Frm.refl [] w).alloc _
  have B := Lib.hid (TB.new w vr vl t)
  generalize (tc vr vl t).toArray = A at *
  have HT := Lib.hid (fun z (f : Frm [] (w.alloc (.cells A 27)) z) => (B.out.keep0 f).gets)
  have F := Lib.hid f0
  have HL := Lib.hid (h2.keep0 f0)
  obtain ⟨av, ac, rfl⟩ := h1.form
  obtain ⟨lv, lc, rfl, _, _⟩ := h2.form
  have d0 := (HT.out _ (Frm.refl _ _)).next
  have d1 := (HT.out _ (Frm.refl _ _)).recs
  have d6 := (HT.out _ (Frm.refl _ _)).lives
  have HN := Lib.hid (fun z => within_doc t.next 1 2147483648 z)
  have HM := Lib.hid (fun z => within_doc (t.lives.length : Int) 2 8 z)
  generalize wi t.next 1 2147483648 = bn at *
  generalize wi (t.lives.length : Int) 2 8 = bl at *
  generalize allB t.next t.recs = ba at *
  generalize curB t.cur (t.lives.length : Int) = bc at *
  have hb2 : decide (t.recs.length ≤ 16) = !(decide ((16 : Int) < (t.recs.length : Int))) := by
    by_cases h : t.recs.length ≤ 16
    · have : ¬ (16 : Int) < (t.recs.length : Int) := by omega
      simp [h, this]
    · have : (16 : Int) < (t.recs.length : Int) := by omega
      simp [h, this]
  rw [hb2]
  clear h1 h2 hf f0 B hb2
  generalize hgz : w.heap.size = g at *
  by_cases hq : bn = true ∧ (¬ (16 : Int) < (t.recs.length : Int)) ∧ bl = true
  · obtain ⟨q1, q2, q3⟩ := hq
    subst q1 q3
    have q2' : decide ((16 : Int) < (t.recs.length : Int)) = false := by simpa using q2
    rw [q2']
    simp only [Bool.not_false, Bool.true_and]
    have HY := Lib.hid (show (t.lives.all fun n => wi n 0 2147483647) = true → (if ((t.lives.all fun n => wi n 0 2147483647) && (ba && bc)) = true then (0 : Int) else 2) = if (ba && bc) = true then 0 else 2 from fun h => by rw [h, Bool.true_and])
    have HNO := Lib.hid (show (t.lives.all fun n => wi n 0 2147483647) = false → (if ((t.lives.all fun n => wi n 0 2147483647) && (ba && bc)) = true then (0 : Int) else 2) = 2 from fun h => by rw [h]; rfl)
    have HA := Lib.hid (show (∀ j (h : j < t.lives.length), wi t.lives[j] 0 2147483647 = true) → (t.lives.all fun n => wi n 0 2147483647) = true from fun h => by
      rw [List.all_eq_true]; intro n hn; obtain ⟨i, hi, rfl⟩ := List.getElem_of_mem hn; exact h i hi)
    have HB := Lib.hid (show ∀ j (h : j < t.lives.length), wi t.lives[j] 0 2147483647 = false → (t.lives.all fun n => wi n 0 2147483647) = false from fun j h hb => by
      rw [List.all_eq_false]; exact ⟨t.lives[j], List.getElem_mem h, by rw [hb]; simp⟩)
    generalize (if ((t.lives.all fun n => wi n 0 2147483647) && (ba && bc)) = true then (0 : Int) else 2) = res at *
    generalize (t.lives.all fun n => wi n 0 2147483647) = al at *
    go_enter Tryz.func23, Tryz.ntmps23
    go_upto_region 1 with (fail)
    generalize w.alloc (.cells A 27) = W at *
    go_upto_region 4 with (first
      | (go_at_call 69; with_reducible refine (HN.out _).mono ?_; rintro e W ⟨rfl, rfl⟩)
      | (go_at_call 69; with_reducible refine (HM.out _).mono ?_; rintro e W ⟨rfl, rfl⟩))
    clear d0 d1 d6
    go_loopw [3] (LivRel t.lives W) (fun c _ => t.lives.length - (intOf c).toNat)
    case atStart => exact ⟨0, Nat.zero_le _, rfl, fun j _ hj => by omega, Frm.refl _ _⟩
    case round =>
      obtain ⟨k, hk, rfl, hz, f⟩ := hrel
      have HZ := Lib.hid hz
      have FW := Lib.hid f
      have d6 := (HT.out _ f).lives
      clear hz f
      by_cases hkl : k < t.lives.length
      · have hkl9 : (k : Int) < (t.lives.length : Int) := by omega
        obtain ⟨b, off, rfl⟩ := HL.out.at (by omega)
        have c0 := cellI (HL.out.keep0 FW.out) k hkl
        have HX := Lib.hid (show wi t.lives[k] 0 2147483647 = true → ∀ j (h : j < t.lives.length), j < k + 1 → wi t.lives[j] 0 2147483647 = true from fun hb j hj hjk => if e : j = k then by subst e; exact hb else HZ.out j hj (by omega))
        have HBK := Lib.hid (HB.out k hkl)
        have HWK := Lib.hid (fun z => within_doc t.lives[k] 0 2147483647 z)
        generalize wi t.lives[k] 0 2147483647 = wb at *
        generalize t.lives[k] = lk at *
        cases wb with
        | true =>
          go_wp2_with (go_at_call 69; refine (HWK.out _).mono ?_; rintro e w1 ⟨rfl, rfl⟩)
          go_roundw
          case rel => exact ⟨k + 1, by omega, by go_num, HX.out (by simp), FW.out⟩
          case measure => simp [intOf]; omega
        | false =>
          have en := HNO.out (HBK.out (by simp))
          go_wp2_with (go_at_call 69; refine (HWK.out _).mono ?_; rintro e w1 ⟨rfl, rfl⟩)
          go_ret
          exact ⟨by first | rfl | (rw [en]; rfl) | simp [en], F.out.trans FW.out (by simp)⟩
      · obtain rfl : k = t.lives.length := by omega
        have en := HY.out (HA.out (fun j hj => HZ.out j hj hj))
        have EN := Lib.hid en
        have LT := Lib.hid (HT.out _ FW.out).all
        have HRC := Lib.hid (HREC.out _ (F.out.trans FW.out (by simp)))
        clear en
        cases ba with
        | false =>
          go_wp2_with (first
            | ((with_reducible (show wpList _ _ _ (Oper.mk _ (Op.load 27 _) _ _ _ _ :: _) _ _)); refine wpList_load_g (by rfl) 27 _ rfl _ rfl LT.out ?_)
            | (go_at_call 70; refine HRC.out.mono ?_; rintro e w5 ⟨rfl, f5⟩))
          go_ret
          exact ⟨by rw [EN.out]; rfl, (F.out.trans FW.out (by simp)).trans f5 (by simp)⟩
        | true =>
          cases bc with
          | true =>
            go_wp2_with (first
              | ((with_reducible (show wpList _ _ _ (Oper.mk _ (Op.load 27 _) _ _ _ _ :: _) _ _)); refine wpList_load_g (by rfl) 27 _ rfl _ rfl LT.out ?_)
              | ((with_reducible (show wpList _ _ _ (Oper.mk _ (Op.load 24 _) _ _ _ _ :: _) _ _)); refine wpList_load_g (by rfl) 24 _ rfl _ rfl LC.out ?_)
              | (go_at_call 70; refine HRC.out.mono ?_; rintro e w5 ⟨rfl, f5⟩; have F5 := Lib.hid (FW.out.trans f5 (by simp)); have LC := Lib.hid (HT.out _ F5.out).cur; have d6 := (HT.out _ F5.out).lives; clear f5)
              | (go_at_call 71; refine (HCUR.out _).mono ?_; rintro e w6 ⟨rfl, f6⟩))
            go_ret
            exact ⟨by rw [EN.out]; rfl, (F.out.trans F5.out (by simp)).trans f6 (by simp)⟩
          | false =>
            go_wp2_with (first
              | ((with_reducible (show wpList _ _ _ (Oper.mk _ (Op.load 27 _) _ _ _ _ :: _) _ _)); refine wpList_load_g (by rfl) 27 _ rfl _ rfl LT.out ?_)
              | ((with_reducible (show wpList _ _ _ (Oper.mk _ (Op.load 24 _) _ _ _ _ :: _) _ _)); refine wpList_load_g (by rfl) 24 _ rfl _ rfl LC.out ?_)
              | (go_at_call 70; refine HRC.out.mono ?_; rintro e w5 ⟨rfl, f5⟩; have F5 := Lib.hid (FW.out.trans f5 (by simp)); have LC := Lib.hid (HT.out _ F5.out).cur; have d6 := (HT.out _ F5.out).lives; clear f5)
              | (go_at_call 71; refine (HCUR.out _).mono ?_; rintro e w6 ⟨rfl, f6⟩))
            go_ret
            exact ⟨by rw [EN.out]; rfl, (F.out.trans F5.out (by simp)).trans f6 (by simp)⟩
  · have hres : (if (bn && (!(decide ((16 : Int) < (t.recs.length : Int))) && bl) && ((t.lives.all fun n => wi n 0 2147483647) && (ba && bc))) = true then (0 : Int) else 2) = 2 := by
      rw [if_neg]
      intro h
      simp only [Bool.and_eq_true, Bool.not_eq_true', decide_eq_false_iff_not] at h
      exact hq ⟨h.1.1, h.1.2.1, h.1.2.2⟩
    rw [hres]
    clear hres
    have HQ := Lib.hid hq
    clear hq
    go_enter Tryz.func23, Tryz.ntmps23
    go_upto_region 1 with (fail)
    generalize w.alloc (.cells A 27) = W at *
    cases bn with
    | false =>
      go_wp2_with (go_at_call 69; with_reducible refine (HN.out _).mono ?_; rintro e w1 ⟨rfl, rfl⟩)
      go_ret
      exact ⟨rfl, F.out⟩
    | true =>
      by_cases q2 : (16 : Int) < (t.recs.length : Int)
      · go_wp2_with (go_at_call 69; with_reducible refine (HN.out _).mono ?_; rintro e w1 ⟨rfl, rfl⟩)
        go_ret
        exact ⟨rfl, F.out⟩
      · have q3 : bl = false := by
          cases bl with
          | false => rfl
          | true => exact absurd ⟨rfl, q2, rfl⟩ HQ.out
        subst q3
        go_wp2_with (first
          | (go_at_call 69; with_reducible refine (HN.out _).mono ?_; rintro e w1 ⟨rfl, rfl⟩)
          | (go_at_call 69; with_reducible refine (HM.out _).mono ?_; rintro e w1 ⟨rfl, rfl⟩))
        go_ret
        exact ⟨rfl, F.out⟩
end Go.Proofs.YtljhanhipmnioaaGreat.Rd

namespace Go.Proofs.YtljhanhipmnioaaGreat.Rd
open Go.RowKit
set_option linter.unusedVariables false
set_option linter.unusedSimpArgs false
set_option maxRecDepth 100000

open Pt (Pt may enc readPt readE zeroPt be4 be1 pc pv PtV SlA OwnA BT wpList_load_g heap_alloc_at lst_slB one_slB Ext Grew exec_slice_lh yieldsIf_ld)
open Kr (OwnE SlE Enco RowTys)
section
variable {w w' : World} {g : Nat} {T : TypeId} {cs pre row post : List Value} {o : Nat} {L : List Nat}
end

theorem RB.setRoot {w : World} {g : Nat} {v v' : Value} {x : Rec} (h : RB w g v x) (p : Pt) (hp : p.s.length = 32) : RB (w.setCells g 4 (pc v' p.b p.l p.s)) g v' (withRoot x p) := by
  have hb : Blk w g 56 ([.int .i64 x.id, .string x.name, .int .i64 x.kind, .int .i64 x.size] ++ (pc v x.root.b x.root.l x.root.s ++ [.int .i64 x.made, .int .i64 x.of, .int .i64 x.origin, .int .i64 x.quota, .int .i64 x.reserve])) := h.1
  exact ⟨hb.put (o := 4) rfl (by simp [pc, bvs_length, hp, h.2]), hp⟩
end Go.Proofs.YtljhanhipmnioaaGreat.Rd
