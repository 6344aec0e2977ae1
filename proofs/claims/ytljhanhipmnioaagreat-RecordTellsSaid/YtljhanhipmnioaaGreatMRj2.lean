/-
  Bytes of a table, of the document. No conditions but those that each theorem names.
-/
import Derived.Test.YtljhanhipmnioaaGreatMRa1
import Derived.Test.YtljhanhipmnioaaGreatMRa2
import Derived.Test.YtljhanhipmnioaaGreatMRa3
import Derived.Test.YtljhanhipmnioaaGreatMRa4
import Derived.Test.YtljhanhipmnioaaGreatMRa5
import Derived.Test.YtljhanhipmnioaaGreatMRa6
import Derived.Test.YtljhanhipmnioaaGreatMRa7
import Derived.Test.YtljhanhipmnioaaGreatMRa8
import Derived.Test.YtljhanhipmnioaaGreatMRa9
import Derived.Test.YtljhanhipmnioaaGreatMRa10
import Derived.Test.YtljhanhipmnioaaGreatMRb1
import Derived.Test.YtljhanhipmnioaaGreatMRd1
import Derived.Test.YtljhanhipmnioaaGreatMRf1
import Derived.Test.YtljhanhipmnioaaGreatMRf2
import Derived.Test.YtljhanhipmnioaaGreatMRg1
import Derived.Test.YtljhanhipmnioaaGreatMRj1
import Derived.OrdersHeld
import Derived.WalkKit
import Derived.WalkSpells
import Derived.WalkLawsBesides
import Derived.Deep.AppendSrc
import Derived.Laws.CopyOwn
import Derived.Laws.BytesArg
import Derived.Carry
import Derived.Laws.BytesString
import Derived.Deep.SlicePairs
import Derived.Deep.Cut
import Derived.Lib.Hide
import Derived.Test.YtljhanhipmnioaaGreatChecked
import Derived.ChangeKeysEq
import Derived.Deep.MidRow
import Derived.Deep.RegionHeld3
import Derived.OpenShut
import Derived.WalkHide
import Derived.IntWalk
import Derived.StillTailTactics
import Derived.Deep.RegionLaw
import Derived.Deep.RegionWith
import Derived.Deep.QuietTactic
import Derived.BigQuiet
import Derived.Deep.CutBlock
import Derived.Deep.DeepCutAuto
import Derived.Deep.Slices
import Derived.Defers
import Derived.Recover
import Derived.Deep.WholeRow
import Derived.Lib.Bytealg
import Derived.Lib.TrimUEq
import Derived.Lib.MinMaxS
import Derived.LaidEqlPtr
import Derived.Lib.OthersKept
import Derived.Deep.Draws
import Derived.WalkMore
import Derived.Deep.LoopGhost
import Derived.Lib.BufferWrite
import Derived.Lib.UnsafeStr
import Derived.Laws.MakeOwn
import Derived.Laws.Strings3
import Derived.BigRegion
import Derived.Lib.Walk
import Derived.Great.Walk
namespace Go.Proofs.YtljhanhipmnioaaGreat.Rd
open Go.RowKit
set_option linter.unusedVariables false
set_option linter.unusedSimpArgs false
set_option maxRecDepth 100000

open Pt (Pt may enc readPt readE zeroPt be4 be1 pc pv PtV SlA OwnA BT wpList_load_g heap_alloc_at lst_slB one_slB Ext Grew exec_slice_lh yieldsIf_ld)
open Kr (OwnE SlE Enco RowTys)

theorem Rs.getsP {w : World} {b off n cap : Nat} {l : List Rec} (h : Rs w (.slice (some ⟨b, off, none⟩) n cap) l) (i : Nat) (hi : i < l.length) :
    ∃ a c, ∀ z, Frm [] w z → GetsR z b (off + i * 44) (.slice a (l[i]).root.ads.length c) l[i] ∧ PtV z (pv (.slice a (l[i]).root.ads.length c) (l[i]).root.b (l[i]).root.l (l[i]).root.s) (l[i]).root := by
  obtain ⟨rs, sp, hs, hl, hr⟩ := h
  have hi2 : i < rs.length := by omega
  obtain ⟨a, c, s, e, hA, hw⟩ := hr i rs[i] l[i] (List.getElem?_eq_getElem _) (List.getElem?_eq_getElem _)
  refine ⟨a, c, fun z f => ⟨gets_of hw fun j u hu => ?_, a, c, s, rfl, hA.keep f (by simp), hw⟩⟩
  have := SlE.cell encRow (hs.keep0 f) i hi2 j (u := u) (by rw [show eR rs[i] = (rs[i]).1 from rfl, e]; exact hu)
  rw [Nat.add_assoc]; exact this
def DocRel (W : World) (l : List UInt8) (rs : List Rec) (vv cv : Value) (wr : World) : Prop := ∃ k : Nat, k ≤ rs.length ∧ cv = .int .i64 k ∧ Wr W wr vv (l ++ (rs.take k).flatMap encR)
def DocLiv (W : World) (l : List UInt8) (ls : List Int) (vv cv : Value) (wr : World) : Prop := ∃ k : Nat, k ≤ ls.length ∧ cv = .int .i64 k ∧ Wr W wr vv (l ++ (ls.take k).flatMap fun n => be4 n.toNat)
set_option maxHeartbeats 16000000 in
theorem RefBytesT_any (vr vl : Value) (t : Tab) (w : World) (h : TabV w vr vl t) (hf : FitT t) : Calls Tryz.prog 18 #[tv vr vl t] w (BytesT t w) := by
  have HK := Lib.hid (fun z (f : Frm [] w z) => RefCheckT_any vr vl t z (h.keep0 f) hf)
  have f0 : Frm [] w (w.alloc (.cells (tc vr vl t).toArray 27)) := (Frm.refl [] w).alloc _
  have B := Lib.hid (TB.new w vr vl t)
  have LT := Lib.hid B.out.gets.all
  have F0 := Lib.hid f0
  cases hm : mayT t with
  | false =>
    obtain ⟨e1, e2⟩ := packT_no hm
    rw [e2] at HK
    have HP := Lib.hid (And.intro e1 e2)
    have HTV := Lib.hid (show tv vr vl t = .agg (tc vr vl t).toArray from rfl)
    rw [HTV.out]
    generalize (tc vr vl t).toArray = A at *
    clear e1 e2 hm h hf B f0
    go_enter Tryz.func18, Tryz.ntmps18
    go_upto_region 1 with (fail)
    generalize w.alloc (.cells A 27) = W at *
    go_wp2_with (first
      | ((with_reducible (show wpList _ _ _ (Oper.mk _ (Op.load 27 _) _ _ _ _ :: _) _ _)); refine wpList_load_g (by rfl) 27 _ rfl _ rfl LT.out ?_)
      | (go_at_call 23; refine (HK.out _ F0.out).mono ?_; rintro e w1 ⟨rfl, f1⟩))
    go_ret2
    exact ⟨none, 0, [], by rw [HP.out.1, HP.out.2]; rfl, by rw [HP.out.1]; exact OwnB.nil _ _, F0.out.trans f1 (by simp), by simp [blk]⟩
  | true =>
    obtain ⟨e1, e2⟩ := packT_yes hm
    rw [e2] at HK
    have HP := Lib.hid (And.intro e1 e2)
    have M := mayT_iff.1 hm
    obtain ⟨hr, sp, hli⟩ := h
    obtain ⟨⟨k0, k1⟩, ⟨d0, d1⟩, ⟨a0, a1⟩, ⟨x0, x1⟩⟩ := cur_wf (by have := M.l1; omega) M.cur
    have n0 := M.n0
    have n1 := M.n1
    have hmany := M.many
    have hl1 := M.l1
    have HWX := Lib.hid (show ∀ x ∈ t.recs, WfR x ∧ x.root.ads.length ≤ 1000000 from fun x hx => ⟨mayR_wf (M.one hx) (hr.sums x hx), (hf.all x hx).ads⟩)
    have HWS := Lib.hid (show ∀ x ∈ t.recs, WfR x ∧ x.root.s.length = 32 from fun x hx => ⟨(HWX.out x hx).1, hr.sums x hx⟩)
    have hfl := flat_len HWS.out
    have HLX := Lib.hid (show ∀ n ∈ t.lives, 0 ≤ n ∧ n < 4294967296 from fun n hn => by have := M.lives n hn; omega)
    have HLL := Lib.hid (show t.lives.length ≤ 8 by omega)
    have HMANY := Lib.hid hmany
    have hr9 : (t.recs.length : Int) ≤ 16 := by omega
    have hl9 : (t.lives.length : Int) ≤ 8 := by omega
    have hE : encT t = [] ++ be4 t.next.toNat ++ [UInt8.ofNat t.recs.length] ++ t.recs.flatMap encR ++ [UInt8.ofNat t.cur.kind.toNat, UInt8.ofNat t.cur.dev.toNat] ++ be4 t.cur.at_.toNat ++ be4 t.cur.txg.toNat ++ [UInt8.ofNat t.lives.length] ++ t.lives.flatMap fun n => be4 n.toNat := by simp [encT, encC, encL, be1, List.append_assoc]
    have HTV := Lib.hid (show tv vr vl t = .agg (tc vr vl t).toArray from rfl)
    rw [HTV.out]
    have HT0 := Lib.hid (show ∀ z, Frm [] (w.alloc (.cells (tc vr vl t).toArray 27)) z → BxT z w.heap.size vr vl t from fun z f => (B.out.keep0 f).gets)
    generalize (tc vr vl t).toArray = A at *
    have HR0 := Lib.hid (hr.keep0 f0)
    have HLV0 := Lib.hid (hli.keep0 f0)
    have HFIN0 := Lib.hid (show ∀ z v', Wr (w.alloc (.cells A 27)) z v' (encT t) → BytesT t w (.returned (.tuple #[v', .int .i64 0])) z from fun z v' h => by
      obtain ⟨a5, c5, e5⟩ := h.form
      obtain ⟨sp5, o5⟩ := h.own
      subst e5
      exact ⟨a5, c5, sp5, by rw [HP.out.1, HP.out.2], by rw [HP.out.1]; exact o5, f0.trans h.frm (by simp), by rw [HP.out.1]; exact fun i hi => by have := h.new i hi; simp at this; omega⟩)
    rw [hE] at HFIN0
    clear hE
    have KR := Lib.hid (show ((t.recs.length : Nat) : Int) % 256 = ((UInt8.ofNat t.recs.length).toNat : Int) by rw [UInt8.toNat_ofNat']; omega)
    have KL := Lib.hid (show ((t.lives.length : Nat) : Int) = ((UInt8.ofNat t.lives.length).toNat : Int) by rw [UInt8.toNat_ofNat']; omega)
    have KC1 := Lib.hid (byte_of k0)
    have KC2 := Lib.hid (byte_of d0)
    have b0 : ([] ++ be4 t.next.toNat).length = 4 := by rw [List.length_append, be4_len]; rfl
    have H1 := Lib.hid (fun W (z : World) v1 (h1 : Wr W z v1 []) => fourDW W v1 [] t.next z h1 (by simp) ⟨by omega, by omega⟩)
    generalize ([] ++ be4 t.next.toNat) = A0 at *
    have Q1 := Lib.hid (show A0.length + [UInt8.ofNat t.recs.length].length ≤ 140737488355328 by simp only [List.length_cons, List.length_nil]; omega)
    have HA1 := Lib.hid (show (A0 ++ [UInt8.ofNat t.recs.length]).length ≤ 10 by rw [List.length_append]; simp only [List.length_cons, List.length_nil]; omega)
    generalize hA1 : (A0 ++ [UInt8.ofNat t.recs.length]) = A1 at *
    have HA1e := Lib.hid hA1
    clear hA1
    have b2 : (A1 ++ t.recs.flatMap encR).length ≤ 10000 := by have := HA1.out; rw [List.length_append]; omega
    have QC1 := Lib.hid (show (A1 ++ t.recs.flatMap encR).length + [UInt8.ofNat t.cur.kind.toNat, UInt8.ofNat t.cur.dev.toNat].length ≤ 140737488355328 by simp only [List.length_cons, List.length_nil]; omega)
    have b3 : (A1 ++ t.recs.flatMap encR ++ [UInt8.ofNat t.cur.kind.toNat, UInt8.ofNat t.cur.dev.toNat]).length ≤ 10002 := by rw [List.length_append]; simp only [List.length_cons, List.length_nil]; omega
    have H3 := Lib.hid (fun W (z : World) v1 (h1 : Wr W z v1 (A1 ++ t.recs.flatMap encR ++ [UInt8.ofNat t.cur.kind.toNat, UInt8.ofNat t.cur.dev.toNat])) => fourDW W v1 _ t.cur.at_ z h1 (by omega) ⟨a0, a1⟩)
    have b4 : (A1 ++ t.recs.flatMap encR ++ [UInt8.ofNat t.cur.kind.toNat, UInt8.ofNat t.cur.dev.toNat] ++ be4 t.cur.at_.toNat).length ≤ 10006 := by rw [List.length_append, be4_len]; omega
    have H4 := Lib.hid (fun W (z : World) v1 (h1 : Wr W z v1 (A1 ++ t.recs.flatMap encR ++ [UInt8.ofNat t.cur.kind.toNat, UInt8.ofNat t.cur.dev.toNat] ++ be4 t.cur.at_.toNat)) => fourDW W v1 _ t.cur.txg z h1 (by omega) ⟨x0, x1⟩)
    have b5 : (A1 ++ t.recs.flatMap encR ++ [UInt8.ofNat t.cur.kind.toNat, UInt8.ofNat t.cur.dev.toNat] ++ be4 t.cur.at_.toNat ++ be4 t.cur.txg.toNat).length ≤ 10010 := by rw [List.length_append, be4_len]; omega
    have QC4 := Lib.hid (show (A1 ++ t.recs.flatMap encR ++ [UInt8.ofNat t.cur.kind.toNat, UInt8.ofNat t.cur.dev.toNat] ++ be4 t.cur.at_.toNat ++ be4 t.cur.txg.toNat).length + [UInt8.ofNat t.lives.length].length ≤ 140737488355328 by simp only [List.length_cons, List.length_nil]; omega)
    have HA5 := Lib.hid (show (A1 ++ t.recs.flatMap encR ++ [UInt8.ofNat t.cur.kind.toNat, UInt8.ofNat t.cur.dev.toNat] ++ be4 t.cur.at_.toNat ++ be4 t.cur.txg.toNat ++ [UInt8.ofNat t.lives.length]).length ≤ 10020 by rw [List.length_append]; simp only [List.length_cons, List.length_nil]; omega)
    generalize hA5 : (A1 ++ t.recs.flatMap encR ++ [UInt8.ofNat t.cur.kind.toNat, UInt8.ofNat t.cur.dev.toNat] ++ be4 t.cur.at_.toNat ++ be4 t.cur.txg.toNat ++ [UInt8.ofNat t.lives.length]) = A5 at *
    generalize hA4 : (A1 ++ t.recs.flatMap encR ++ [UInt8.ofNat t.cur.kind.toNat, UInt8.ofNat t.cur.dev.toNat] ++ be4 t.cur.at_.toNat ++ be4 t.cur.txg.toNat) = A4 at *
    generalize hA3 : (A1 ++ t.recs.flatMap encR ++ [UInt8.ofNat t.cur.kind.toNat, UInt8.ofNat t.cur.dev.toNat] ++ be4 t.cur.at_.toNat) = A3 at *
    generalize hA2b : (A1 ++ t.recs.flatMap encR ++ [UInt8.ofNat t.cur.kind.toNat, UInt8.ofNat t.cur.dev.toNat]) = A2b at *
    obtain ⟨av, ac, rfl⟩ := hr.form
    obtain ⟨lv, lc, rfl, _, _⟩ := hli.form
    generalize hgz : w.heap.size = g at *
    clear e1 e2 hm hf B f0 M hr hli k0 k1 d0 d1 a0 a1 x0 x1 n0 n1 hmany hl1 hfl b0 b2 b3 b4 b5
    go_enter Tryz.func18, Tryz.ntmps18
    go_upto_region 1 with (fail)
    generalize w.alloc (.cells A 27) = W0 at *
    go_upto_region 3 with (first
      | ((with_reducible (show wpList _ _ _ (Oper.mk _ (Op.load 27 _) _ _ _ _ :: _) _ _)); refine wpList_load_g (by rfl) 27 _ rfl _ rfl LT.out ?_)
      | (go_at_call 23; refine (HK.out _ F0.out).mono ?_; rintro e W ⟨rfl, f1⟩))
    have HT := Lib.hid (fun z (f : Frm [] W z) => HT0.out z (f1.trans f (by simp)))
    have HR := Lib.hid (HR0.out.keep0 f1)
    have HLV := Lib.hid (HLV0.out.keep0 f1)
    have HFIN := Lib.hid (fun z v' (h : Wr W z v' (A5 ++ t.lives.flatMap fun n => be4 n.toNat)) => HFIN0.out z v' (h.base f1))
    have HA2b := Lib.hid hA2b
    have HA5e := Lib.hid hA5
    have WN := Lib.hid (show Wr W W.drew (.slice none 0 0) [] from ⟨⟨[], OwnB.nil _ _⟩, (Frm.refl [] W).drew, by simp [blk]⟩)
    clear f1 HT0 HR0 HLV0 HFIN0 hA2b hA5 hA3 hA4 HK LT
    refine wp_region_held_drew (S := fun z => Frm [] W z) (by kernel_rfl) ((Frm.refl [] W).drew) (fun hHeld => ?_)
    refine wpAnyH_take (i := 0) (oi := ⟨some 13, .fieldAddr 27 (.tmp 1) 0, _, _, _, none⟩) (v := ?_) rfl (by kernel_rfl) (by kernel_rfl) (by kernel_rfl) (fun _ _ _ h => h) (Or.inl ⟨by rfl, ?_⟩) hHeld ?_
    rotate_left
    focus (intro z hSw; clear hSw; go_simp; try with_reducible rfl)
    try simp only [Act.put, List.setIfInBounds_toArray, List.set_cons_zero, List.set_cons_succ]
    refine wpAnyH_take (i := 1) (oi := ⟨some 14, .load 3 (.tmp 13), _, _, _, none⟩) (v := ?_) rfl (by kernel_rfl) (by kernel_rfl) (by kernel_rfl) (fun _ _ _ h => h) (Or.inl ⟨by rfl, ?_⟩) hHeld ?_
    rotate_left
    focus (intro z hSw; have q0 := (HT.out z hSw).next; have q1 := (HT.out z hSw).recs; clear hSw; go_simp; try with_reducible rfl)
    try simp only [Act.put, List.setIfInBounds_toArray, List.set_cons_zero, List.set_cons_succ]
    refine wpAnyH_take (i := 3) (oi := ⟨some 16, .fieldAddr 27 (.tmp 1) 1, _, _, _, none⟩) (v := ?_) rfl (by kernel_rfl) (by kernel_rfl) (by kernel_rfl) (fun _ _ _ h => h) (Or.inl ⟨by rfl, ?_⟩) hHeld ?_
    rotate_left
    focus (intro z hSw; clear hSw; go_simp; try with_reducible rfl)
    try simp only [Act.put, List.setIfInBounds_toArray, List.set_cons_zero, List.set_cons_succ]
    refine wpAnyH_take (i := 4) (oi := ⟨some 17, .load 22 (.tmp 16), _, _, _, none⟩) (v := ?_) rfl (by kernel_rfl) (by kernel_rfl) (by kernel_rfl) (fun _ _ _ h => h) (Or.inl ⟨by rfl, ?_⟩) hHeld ?_
    rotate_left
    focus (intro z hSw; have q0 := (HT.out z hSw).next; have q1 := (HT.out z hSw).recs; clear hSw; go_simp; try with_reducible rfl)
    try simp only [Act.put, List.setIfInBounds_toArray, List.set_cons_zero, List.set_cons_succ]
    refine wpAnyH_take (i := 5) (oi := ⟨some 18, .call { callee := .builtin .len, args := #[.tmp 17], argTypes := #[22] }, _, _, _, none⟩) (v := ?_) rfl (by kernel_rfl) (by kernel_rfl) (by kernel_rfl) (fun _ _ _ h => h) (Or.inl ⟨by rfl, ?_⟩) hHeld ?_
    rotate_left
    focus (intro z hSw; clear hSw; go_simp; try with_reducible rfl)
    try simp only [Act.put, List.setIfInBounds_toArray, List.set_cons_zero, List.set_cons_succ]
    refine wpAnyH_take (i := 6) (oi := ⟨some 19, .convert 3 5 (.tmp 18), _, _, _, none⟩) (v := ?_) rfl (by kernel_rfl) (by kernel_rfl) (by kernel_rfl) (fun _ _ _ h => h) (Or.inl ⟨by rfl, ?_⟩) hHeld ?_
    rotate_left
    focus (intro z hSw; clear hSw; go_simp; try with_reducible rfl)
    try simp only [Act.put, List.setIfInBounds_toArray, List.set_cons_zero, List.set_cons_succ]
    refine wpAnyH_ready (rs := [2, 7]) (by kernel_rfl) (by simp) ?_
    refine AllReadyH.cons (o := ⟨some 15, .call { callee := .value (.func 64), args := #[.const (.slice none 0 0), .tmp 14], argTypes := #[31, 3] }, _, _, _, none⟩) rfl (fun K hK => ?_) ?_
    · go_simp
      refine (H1.out W _ _ (WN.out)).mono ?_
      rintro r w2 ⟨v2, rfl, h2, g2⟩
      refine hK.out _ _ ?_ (fun hNext => ?_)
      · exact h2.frm
      clear hK K hHeld
      have hHeld := hNext
      clear hNext
      try simp only [Act.put, List.setIfInBounds_toArray, List.set_cons_zero, List.set_cons_succ]
      refine wpAnyH_ready (rs := [7]) (by kernel_rfl) (by simp) ?_
      refine AllReadyH.cons (o := ⟨some 20, .buildSlice 31 1 #[(0, .tmp 19)], _, _, _, none⟩) rfl (fun K hK => ?_) ?_
      · refine step_b1 rfl (.tmp 19) rfl rfl (fun g7 w7 hg7 f7 n7 => ?_)
        refine hK.out _ _ ?_ (fun hNext => ?_)
        · exact hHeld.trans f7 (by simp)
        clear hK K hHeld
        have hHeld := hNext
        clear hNext
        try simp only [Act.put, List.setIfInBounds_toArray, List.set_cons_zero, List.set_cons_succ]
        refine wpAnyH_ready (rs := [8]) (by kernel_rfl) (by simp) ?_
        refine AllReadyH.cons (o := ⟨some 21, .call { callee := .builtin .append, args := #[.tmp 15, .tmp 20], argTypes := #[31, 31] }, _, _, _, none⟩) rfl (fun K hK => ?_) ?_
        · refine step_appW BT (h2.keep0 f7) (one_slB (b := UInt8.ofNat t.recs.length) (hg7) KR.out) Q1.out rfl (.tmp 15) (.tmp 20) rfl rfl rfl ?_
          intro v3 w3 h3 g3
          refine hK.out _ _ ?_ (fun hNext => ?_)
          · exact h3.frm
          clear hK K hHeld
          have hHeld := hNext
          clear hNext
          try simp only [Act.put, List.setIfInBounds_toArray, List.set_cons_zero, List.set_cons_succ]
          refine wpAnyH_take (i := 9) (oi := ⟨some 4, .assign (.tmp 21), _, _, _, none⟩) (v := ?_) rfl (by kernel_rfl) (by kernel_rfl) (by kernel_rfl) (fun _ _ _ h => h) (Or.inl ⟨by rfl, ?_⟩) hHeld ?_
          rotate_left
          focus (intro z hSw; clear hSw; go_simp; try with_reducible rfl)
          try simp only [Act.put, List.setIfInBounds_toArray, List.set_cons_zero, List.set_cons_succ]
          refine wpAnyH_done (by kernel_rfl) ?_ _
          rw [HA1e.out] at h3
          have W3 := Lib.hid h3
          generalize IntKind.u8.wrap ((t.recs.length : Nat) : Int) = s19 at *
          clear h3 g3 h2 g2 hg7 f7 n7 hHeld
          
          go_upto_region 5 with (fail)
          go_loopw [4, 5] (DocRel W A1 t.recs) (fun _ c _ => t.recs.length - (intOf c).toNat)
          case atStart => exact ⟨0, Nat.zero_le _, rfl, by simpa using W3.out⟩
          case round =>
            obtain ⟨k, hk, rfl, hW⟩ := hrel
            have d1 := (HT.out _ hW.frm).recs
            by_cases hkl : k < t.recs.length
            · have hkl9 : (k : Int) < (t.recs.length : Int) := by omega
              obtain ⟨b, off, cp, e⟩ := HR.out.at (by omega)
              cases e
              obtain ⟨xa, xc, GV⟩ := HR.out.getsP k hkl
              have L1 := Lib.hid (GV _ hW.frm).1.all
              have hs : (t.recs[k]).root.s.length = 32 := (HWS.out _ (List.getElem_mem hkl)).2
              have O1 := Lib.hid (show (Value.slice xa (t.recs[k]).root.ads.length xc).oneCell' = true from rfl)
              have S1 := Lib.hid hs
              have hwx := HWX.out _ (List.getElem_mem hkl)
              have hob := outB_len hwx.1.r hs
              have hnm := hwx.1.nm
              have hnm2 : (t.recs[k]).name.size < 256 := by rw [Lib.size_eq]; exact hnm
              have hfl := flat_len (rs := t.recs.take k) (fun x hx => HWS.out x (List.mem_of_mem_take hx))
              have hlen : (A1 ++ (t.recs.take k).flatMap encR).length ≤ 100000 := by
                have := HA1.out
                rw [List.length_append]
                rw [List.length_take] at hfl
                have h2 := HMANY.out
                have : min k t.recs.length ≤ 16 := by omega
                omega
              have HRB := Lib.hid (fun z (f : Frm [] W z) => Pt.RefBytes_any (pv (Value.slice xa (t.recs[k]).root.ads.length xc) (t.recs[k]).root.b (t.recs[k]).root.l (t.recs[k]).root.s) (t.recs[k]).root z (GV z f).2 hwx.2)
              have hE : A1 ++ (t.recs.take (k + 1)).flatMap encR = A1 ++ (t.recs.take k).flatMap encR ++ be4 (t.recs[k]).id.toNat ++ [UInt8.ofNat (t.recs[k]).name.data.toList.length] ++ (t.recs[k]).name.data.toList ++ [UInt8.ofNat (t.recs[k]).kind.toNat, UInt8.ofNat (t.recs[k]).size.toNat] ++ Pt.outB (t.recs[k]).root ++ be4 (t.recs[k]).made.toNat ++ be4 (t.recs[k]).of.toNat ++ be4 (t.recs[k]).origin.toNat ++ [UInt8.ofNat (t.recs[k]).quota.toNat, UInt8.ofNat (t.recs[k]).reserve.toNat] := by
                rw [flat_snoc hkl, hob.2]; simp [encR, be1, List.append_assoc]
              have HN := Lib.hid (show ∀ z v', Wr W z v' (A1 ++ (t.recs.take (k + 1)).flatMap encR) → DocRel W A1 t.recs v' (.int .i64 ((k : Int) + 1)) z from fun z v' h => ⟨k + 1, by omega, by go_num, h⟩)
              rw [hE] at HN
              clear hE
              generalize t.recs[k] = x at *
              generalize hL0 : A1 ++ (t.recs.take k).flatMap encR = m at *
              have HB9 := Lib.hid (show ((x.name.size : Nat) : Int) % 256 = ((UInt8.ofNat x.name.data.toList.length).toNat : Int) by rw [← Lib.size_eq, UInt8.toNat_ofNat']; omega)
              have HK1 := Lib.hid (byte_of hwx.1.k0)
              have HK2 := Lib.hid (byte_of hwx.1.s0)
              have HK3 := Lib.hid (byte_of hwx.1.q0)
              have HK4 := Lib.hid (byte_of hwx.1.v0)
              have b0 : (m ++ be4 x.id.toNat).length ≤ 100004 := by rw [List.length_append, be4_len]; omega
              have H1 := Lib.hid (fun z v1 (h1 : Wr W z v1 m) => fourDW W v1 m x.id z h1 (by omega) ⟨hwx.1.id0, hwx.1.id1⟩)
              generalize (m ++ be4 x.id.toNat) = m0 at *
              have HQ1 := Lib.hid (show m0.length + [UInt8.ofNat x.name.data.toList.length].length ≤ 140737488355328 by simp only [List.length_cons, List.length_nil]; omega)
              have b1 : (m0 ++ [UInt8.ofNat x.name.data.toList.length]).length ≤ 100005 := by rw [List.length_append]; simp only [List.length_cons, List.length_nil]; omega
              generalize hM1 : (m0 ++ [UInt8.ofNat x.name.data.toList.length]) = m1 at *
              have HM1 := Lib.hid hM1
              clear hM1
              have HQ2 := Lib.hid (show m1.length + x.name.data.toList.length ≤ 140737488355328 by omega)
              have b2 : (m1 ++ x.name.data.toList).length ≤ 100300 := by rw [List.length_append]; omega
              generalize hM2 : (m1 ++ x.name.data.toList) = m2 at *
              have HM2 := Lib.hid hM2
              clear hM2
              have HQ3 := Lib.hid (show m2.length + [UInt8.ofNat x.kind.toNat, UInt8.ofNat x.size.toNat].length ≤ 140737488355328 by simp only [List.length_cons, List.length_nil]; omega)
              have b3 : (m2 ++ [UInt8.ofNat x.kind.toNat, UInt8.ofNat x.size.toNat]).length ≤ 100302 := by rw [List.length_append]; simp only [List.length_cons, List.length_nil]; omega
              generalize hM3 : (m2 ++ [UInt8.ofNat x.kind.toNat, UInt8.ofNat x.size.toNat]) = m3 at *
              have HM3 := Lib.hid hM3
              clear hM3
              have ho47 := hob.1
              unfold Pt.BytesP at HRB
              generalize Pt.outB x.root = ob at *
              generalize Pt.chk x.root = ck at *
              have HQ4 := Lib.hid (show m3.length + ob.length ≤ 140737488355328 by omega)
              have b4 : (m3 ++ ob).length ≤ 100400 := by rw [List.length_append]; omega
              generalize hM4 : (m3 ++ ob) = m4 at *
              have HM4 := Lib.hid hM4
              clear hM4
              have H5 := Lib.hid (fun z v1 (h1 : Wr W z v1 m4) => fourDW W v1 m4 x.made z h1 (by omega) ⟨hwx.1.m0, hwx.1.m1⟩)
              have b5 : (m4 ++ be4 x.made.toNat).length ≤ 100404 := by rw [List.length_append, be4_len]; omega
              generalize (m4 ++ be4 x.made.toNat) = m5 at *
              have H6 := Lib.hid (fun z v1 (h1 : Wr W z v1 m5) => fourDW W v1 m5 x.of z h1 (by omega) ⟨hwx.1.o0, hwx.1.o1⟩)
              have b6 : (m5 ++ be4 x.of.toNat).length ≤ 100408 := by rw [List.length_append, be4_len]; omega
              generalize (m5 ++ be4 x.of.toNat) = m6 at *
              have H7 := Lib.hid (fun z v1 (h1 : Wr W z v1 m6) => fourDW W v1 m6 x.origin z h1 (by omega) ⟨hwx.1.g0, hwx.1.g1⟩)
              have b7 : (m6 ++ be4 x.origin.toNat).length ≤ 100412 := by rw [List.length_append, be4_len]; omega
              generalize (m6 ++ be4 x.origin.toNat) = m7 at *
              have HQ8 := Lib.hid (show m7.length + [UInt8.ofNat x.quota.toNat, UInt8.ofNat x.reserve.toNat].length ≤ 140737488355328 by simp only [List.length_cons, List.length_nil]; omega)
              generalize hM8 : (m7 ++ [UInt8.ofNat x.quota.toNat, UInt8.ofNat x.reserve.toNat]) = m8 at *
              have HM8 := Lib.hid hM8
              clear hM8
              have WK := Lib.hid hW
              clear hL0 GV hwx hob hs hnm hfl hlen b0 b1 b2 b3 b4 b5 b6 b7 ho47 hnm2 hW
              generalize (Value.slice xa x.root.ads.length xc) = vx at *
              go_upto_region 8 with (first
                | ((with_reducible (show wpList _ _ _ (Oper.mk _ (Op.load 56 _) _ _ _ _ :: _) _ _)); refine wpList_load_g (by rfl) 56 _ rfl _ rfl L1.out ?_)
                | ((with_reducible (show wpList _ _ _ (Oper.mk _ (Op.alloc 56) _ _ _ _ :: _) _ _)); refine wpList_lay56 rfl rfl rfl (.tmp 6) (.tmp 33) rfl O1.out S1.out rfl rfl ?_))
              have f6 : Frm [] wr (wr.alloc (.cells (rc vx x).toArray 56)) := (Frm.refl [] wr).alloc _
              have hnb : wr.heap.size ∉ blk u4 := fun hm => by obtain ⟨sp, ho⟩ := WK.out.own; have := ho.lt _ hm; omega
              have WB6 := Lib.hid (show Wb W (wr.alloc (.cells (rc vx x).toArray 56)) wr.heap.size (.cells (rc vx x).toArray 56 (0, 0)) u4 m from ⟨WK.out.keep0 f6, heap_alloc_new _ _, hnb⟩)
              have HX := Lib.hid (show ∀ z : World, z.heap[wr.heap.size]? = some (.cells (rc vx x).toArray 56 (0, 0)) → BxR z wr.heap.size vx x from fun z hz => RB.gets ⟨hz, S1.out⟩)
              obtain ⟨g6, hg6⟩ : ∃ g6, wr.heap.size = g6 := ⟨_, rfl⟩
              rw [hg6] at WB6 HX ⊢
              generalize wr.alloc (.cells (rc vx x).toArray 56) = w6 at *
              generalize hOBJ : (Obj.cells (rc vx x).toArray 56 (0, 0)) = OBJ at *
              have LR := Lib.hid (HX.out _ WB6.out.box).root
              clear f6 hnb hg6 WK L1 hOBJ O1 S1 d1
              go_upto_region 9 with (first
                | ((with_reducible (show wpList _ _ _ (Oper.mk _ (Op.load 54 _) _ _ _ _ :: _) _ _)); refine wpList_load_g (by rfl) 54 _ rfl _ rfl LR.out ?_)
                | (go_at_call 65; refine (HRB.out _ WB6.out.wr.frm).mono ?_; rintro e w8 ⟨ra, rcp, rsp, rfl, ro, fr, rn⟩))
              have WB8 := Lib.hid (show Wb W w8.drew g6 OBJ u4 m from ⟨WB6.out.wr.keep0 fr.drew, fr.heap WB6.out.box (by simp), WB6.out.out⟩)
              have SD8 := Lib.hid (show Sd w8.drew u4 (.slice ra ob.length rcp) ob from ⟨⟨rsp, ro.sl⟩, fun k hk hm => by
                have h1 := rn k hk
                obtain ⟨sp, ho⟩ := WB6.out.wr.own
                have h2 := ho.lt k hm
                omega, ro.lt⟩)
              clear ro fr rn HRB LR WB6
              generalize (Value.slice ra ob.length rcp) = yr at *
              refine wp_region_held_drew (S := fun z => z.heap[g6]? = some OBJ) (by kernel_rfl) (WB8.out.box) (fun hHeld => ?_)
              refine wpAnyH_take (i := 0) (oi := ⟨some 40, .move (.tmp 4), _, _, _, none⟩) (v := ?_) rfl (by kernel_rfl) (by kernel_rfl) (by kernel_rfl) (fun _ _ _ h => h) (Or.inl ⟨by rfl, ?_⟩) hHeld ?_
              rotate_left
              focus (intro z hSw; clear hSw; go_simp; try with_reducible rfl)
              try simp only [Act.put, List.setIfInBounds_toArray, List.set_cons_zero, List.set_cons_succ]
              refine wpAnyH_take (i := 1) (oi := ⟨some 41, .fieldAddr 56 (.tmp 6) 0, _, _, _, none⟩) (v := ?_) rfl (by kernel_rfl) (by kernel_rfl) (by kernel_rfl) (fun _ _ _ h => h) (Or.inl ⟨by rfl, ?_⟩) hHeld ?_
              rotate_left
              focus (intro z hSw; clear hSw; go_simp; try with_reducible rfl)
              try simp only [Act.put, List.setIfInBounds_toArray, List.set_cons_zero, List.set_cons_succ]
              refine wpAnyH_take (i := 2) (oi := ⟨some 42, .load 3 (.tmp 41), _, _, _, none⟩) (v := ?_) rfl (by kernel_rfl) (by kernel_rfl) (by kernel_rfl) (fun _ _ _ h => h) (Or.inl ⟨by rfl, ?_⟩) hHeld ?_
              rotate_left
              focus (intro z hSw; have q0 := (HX.out z hSw).id; have q1 := (HX.out z hSw).name; clear hSw; go_simp; try with_reducible rfl)
              try simp only [Act.put, List.setIfInBounds_toArray, List.set_cons_zero, List.set_cons_succ]
              refine wpAnyH_take (i := 4) (oi := ⟨some 44, .fieldAddr 56 (.tmp 6) 1, _, _, _, none⟩) (v := ?_) rfl (by kernel_rfl) (by kernel_rfl) (by kernel_rfl) (fun _ _ _ h => h) (Or.inl ⟨by rfl, ?_⟩) hHeld ?_
              rotate_left
              focus (intro z hSw; clear hSw; go_simp; try with_reducible rfl)
              try simp only [Act.put, List.setIfInBounds_toArray, List.set_cons_zero, List.set_cons_succ]
              refine wpAnyH_take (i := 5) (oi := ⟨some 45, .load 9 (.tmp 44), _, _, _, none⟩) (v := ?_) rfl (by kernel_rfl) (by kernel_rfl) (by kernel_rfl) (fun _ _ _ h => h) (Or.inl ⟨by rfl, ?_⟩) hHeld ?_
              rotate_left
              focus (intro z hSw; have q0 := (HX.out z hSw).id; have q1 := (HX.out z hSw).name; clear hSw; go_simp; try with_reducible rfl)
              try simp only [Act.put, List.setIfInBounds_toArray, List.set_cons_zero, List.set_cons_succ]
              refine wpAnyH_take (i := 6) (oi := ⟨some 46, .call { callee := .builtin .len, args := #[.tmp 45], argTypes := #[9] }, _, _, _, none⟩) (v := ?_) rfl (by kernel_rfl) (by kernel_rfl) (by kernel_rfl) (fun _ _ _ h => h) (Or.inl ⟨by rfl, ?_⟩) hHeld ?_
              rotate_left
              focus (intro z hSw; clear hSw; go_simp; try with_reducible rfl)
              try simp only [Act.put, List.setIfInBounds_toArray, List.set_cons_zero, List.set_cons_succ]
              refine wpAnyH_take (i := 7) (oi := ⟨some 47, .convert 3 5 (.tmp 46), _, _, _, none⟩) (v := ?_) rfl (by kernel_rfl) (by kernel_rfl) (by kernel_rfl) (fun _ _ _ h => h) (Or.inl ⟨by rfl, ?_⟩) hHeld ?_
              rotate_left
              focus (intro z hSw; clear hSw; go_simp; try with_reducible rfl)
              try simp only [Act.put, List.setIfInBounds_toArray, List.set_cons_zero, List.set_cons_succ]
              refine wpAnyH_ready (rs := [3, 8]) (by kernel_rfl) (by simp) ?_
              refine AllReadyH.cons (o := ⟨some 43, .call { callee := .value (.func 64), args := #[.tmp 40, .tmp 42], argTypes := #[31, 3] }, _, _, _, none⟩) rfl (fun K hK => ?_) ?_
              · go_simp
                refine (H1.out _ _ WB8.out.wr).mono ?_
                rintro r w3 ⟨v3, rfl, h3, g3⟩
                have WBa := Lib.hid (WB8.out.next h3 g3)
                have SDa := Lib.hid (SD8.out.next g3)
                refine hK.out _ _ ?_ (fun hNext => ?_)
                · exact WBa.out.box
                clear hK K hHeld
                have hHeld := hNext
                clear hNext
                try simp only [Act.put, List.setIfInBounds_toArray, List.set_cons_zero, List.set_cons_succ]
                refine wpAnyH_ready (rs := [8]) (by kernel_rfl) (by simp) ?_
                refine AllReadyH.cons (o := ⟨some 48, .buildSlice 31 1 #[(0, .tmp 47)], _, _, _, none⟩) rfl (fun K hK => ?_) ?_
                · refine step_b1 rfl (.tmp 47) rfl rfl (fun g8 w8b hg8 f8 n8 => ?_)
                  refine hK.out _ _ ?_ (fun hNext => ?_)
                  · exact f8.heap WBa.out.box (by simp)
                  clear hK K hHeld
                  have hHeld := hNext
                  clear hNext
                  try simp only [Act.put, List.setIfInBounds_toArray, List.set_cons_zero, List.set_cons_succ]
                  refine wpAnyH_ready (rs := [9]) (by kernel_rfl) (by simp) ?_
                  refine AllReadyH.cons (o := ⟨some 49, .call { callee := .builtin .append, args := #[.tmp 43, .tmp 48], argTypes := #[31, 31] }, _, _, _, none⟩) rfl (fun K hK => ?_) ?_
                  · refine step_appW BT (WBa.out.wr.keep0 f8) (one_slB (b := UInt8.ofNat x.name.data.toList.length) hg8 HB9.out) HQ1.out rfl (.tmp 43) (.tmp 48) rfl rfl rfl ?_
                    intro v9 w9 h9 g9
                    rw [HM1.out] at h9
                    have WB9 := Lib.hid ((WBa.out.keep0 f8).next h9 g9)
                    have SD9 := Lib.hid ((SDa.out.keep0 f8).next g9)
                    refine hK.out _ _ ?_ (fun hNext => ?_)
                    · exact WB9.out.box
                    clear hK K hHeld
                    have hHeld := hNext
                    clear hNext
                    try simp only [Act.put, List.setIfInBounds_toArray, List.set_cons_zero, List.set_cons_succ]
                    refine wpAnyH_take (i := 10) (oi := ⟨some 4, .assign (.tmp 49), _, _, _, none⟩) (v := ?_) rfl (by kernel_rfl) (by kernel_rfl) (by kernel_rfl) (fun _ _ _ h => h) (Or.inl ⟨by rfl, ?_⟩) hHeld ?_
                    rotate_left
                    focus (intro z hSw; clear hSw; go_simp; try with_reducible rfl)
                    try simp only [Act.put, List.setIfInBounds_toArray, List.set_cons_zero, List.set_cons_succ]
                    refine wpAnyH_done (by kernel_rfl) ?_ _
                    clear h9 g9 h3 g3 hg8 f8 n8 WBa SDa WB8 SD8 hHeld
                    have q1 := (HX.out _ WB9.out.box).name
                    go_upto_region 11 with (first
                      | (at_builtin; refine wpList_appS BT WB9.out.wr (src_string Tryz.underlying9 _ _) HQ2.out rfl (.tmp 50) (.tmp 52) rfl rfl rfl ?_; intro v10 w10 h10 g10))
                    rw [HM2.out] at h10
                    have WB10 := Lib.hid (WB9.out.next h10 g10)
                    have SD10 := Lib.hid (SD9.out.next g10)
                    clear h10 g10 WB9 SD9
                    have q2 := (HX.out _ WB10.out.box).kind
                    have q3 := (HX.out _ WB10.out.box).size
                    go_upto_region 12 with (at_builtin; refine wpList_appW BT (WB10.out.wr.keep0 ((Frm.refl [] _).alloc _)) (two_slB (b := UInt8.ofNat x.kind.toNat) (c := UInt8.ofNat x.size.toNat) (heap_alloc_at rfl) HK1.out HK2.out) HQ3.out rfl (.tmp 54) (.tmp 61) rfl rfl rfl ?_; intro v11 w11 h11 g11)
                    rw [HM3.out] at h11
                    have WB11 := Lib.hid ((WB10.out.keep0 ((Frm.refl [] _).alloc _)).next h11 g11)
                    have SD11 := Lib.hid ((SD10.out.keep0 ((Frm.refl [] _).alloc _)).next g11)
                    clear h11 g11 q2 q3 WB10 SD10
                    obtain ⟨rsp, rsl⟩ := SD11.out.sl
                    have RSL := Lib.hid rsl
                    clear rsl
                    go_upto_region 13 with (at_builtin; refine wpList_appW BT WB11.out.wr RSL.out HQ4.out rfl (.tmp 63) (.tmp 64) rfl rfl rfl ?_; intro v12 w12 h12 g12)
                    rw [HM4.out] at h12
                    have WB12 := Lib.hid (WB11.out.next h12 g12)
                    clear h12 g12 WB11 SD11 RSL
                    have WBd := Lib.hid (show Wb W w12.drew g6 OBJ v12 m4 from ⟨WB12.out.wr.keep0 ((Frm.refl [] _).drew), WB12.out.box, WB12.out.out⟩)
                    refine wp_region_held_drew (S := fun z => z.heap[g6]? = some OBJ) (by kernel_rfl) (WBd.out.box) (fun hHeld => ?_)
                    refine wpAnyH_take (i := 0) (oi := ⟨some 66, .move (.tmp 4), _, _, _, none⟩) (v := ?_) rfl (by kernel_rfl) (by kernel_rfl) (by kernel_rfl) (fun _ _ _ h => h) (Or.inl ⟨by rfl, ?_⟩) hHeld ?_
                    rotate_left
                    focus (intro z hSw; clear hSw; go_simp; try with_reducible rfl)
                    try simp only [Act.put, List.setIfInBounds_toArray, List.set_cons_zero, List.set_cons_succ]
                    refine wpAnyH_take (i := 1) (oi := ⟨some 67, .fieldAddr 56 (.tmp 6) 5, _, _, _, none⟩) (v := ?_) rfl (by kernel_rfl) (by kernel_rfl) (by kernel_rfl) (fun _ _ _ h => h) (Or.inl ⟨by rfl, ?_⟩) hHeld ?_
                    rotate_left
                    focus (intro z hSw; clear hSw; go_simp; try with_reducible rfl)
                    try simp only [Act.put, List.setIfInBounds_toArray, List.set_cons_zero, List.set_cons_succ]
                    refine wpAnyH_take (i := 2) (oi := ⟨some 68, .load 3 (.tmp 67), _, _, _, none⟩) (v := ?_) rfl (by kernel_rfl) (by kernel_rfl) (by kernel_rfl) (fun _ _ _ h => h) (Or.inl ⟨by rfl, ?_⟩) hHeld ?_
                    rotate_left
                    focus (intro z hSw; have q0 := (HX.out z hSw).made; have q1 := (HX.out z hSw).of; have q2 := (HX.out z hSw).origin; clear hSw; go_simp; try with_reducible rfl)
                    try simp only [Act.put, List.setIfInBounds_toArray, List.set_cons_zero, List.set_cons_succ]
                    refine wpAnyH_take (i := 4) (oi := ⟨some 70, .fieldAddr 56 (.tmp 6) 6, _, _, _, none⟩) (v := ?_) rfl (by kernel_rfl) (by kernel_rfl) (by kernel_rfl) (fun _ _ _ h => h) (Or.inl ⟨by rfl, ?_⟩) hHeld ?_
                    rotate_left
                    focus (intro z hSw; clear hSw; go_simp; try with_reducible rfl)
                    try simp only [Act.put, List.setIfInBounds_toArray, List.set_cons_zero, List.set_cons_succ]
                    refine wpAnyH_take (i := 5) (oi := ⟨some 71, .load 3 (.tmp 70), _, _, _, none⟩) (v := ?_) rfl (by kernel_rfl) (by kernel_rfl) (by kernel_rfl) (fun _ _ _ h => h) (Or.inl ⟨by rfl, ?_⟩) hHeld ?_
                    rotate_left
                    focus (intro z hSw; have q0 := (HX.out z hSw).made; have q1 := (HX.out z hSw).of; have q2 := (HX.out z hSw).origin; clear hSw; go_simp; try with_reducible rfl)
                    try simp only [Act.put, List.setIfInBounds_toArray, List.set_cons_zero, List.set_cons_succ]
                    refine wpAnyH_take (i := 7) (oi := ⟨some 73, .fieldAddr 56 (.tmp 6) 7, _, _, _, none⟩) (v := ?_) rfl (by kernel_rfl) (by kernel_rfl) (by kernel_rfl) (fun _ _ _ h => h) (Or.inl ⟨by rfl, ?_⟩) hHeld ?_
                    rotate_left
                    focus (intro z hSw; clear hSw; go_simp; try with_reducible rfl)
                    try simp only [Act.put, List.setIfInBounds_toArray, List.set_cons_zero, List.set_cons_succ]
                    refine wpAnyH_take (i := 8) (oi := ⟨some 74, .load 3 (.tmp 73), _, _, _, none⟩) (v := ?_) rfl (by kernel_rfl) (by kernel_rfl) (by kernel_rfl) (fun _ _ _ h => h) (Or.inl ⟨by rfl, ?_⟩) hHeld ?_
                    rotate_left
                    focus (intro z hSw; have q0 := (HX.out z hSw).made; have q1 := (HX.out z hSw).of; have q2 := (HX.out z hSw).origin; clear hSw; go_simp; try with_reducible rfl)
                    try simp only [Act.put, List.setIfInBounds_toArray, List.set_cons_zero, List.set_cons_succ]
                    refine wpAnyH_ready (rs := [3]) (by kernel_rfl) (by simp) ?_
                    refine AllReadyH.cons (o := ⟨some 69, .call { callee := .value (.func 64), args := #[.tmp 66, .tmp 68], argTypes := #[31, 3] }, _, _, _, none⟩) rfl (fun K hK => ?_) AllReadyH.nil
                    go_simp
                    refine (H5.out _ _ WBd.out.wr).mono ?_
                    rintro r w131 ⟨v131, rfl, h1, g1⟩
                    have WC1 := Lib.hid (WBd.out.next h1 g1)
                    clear h1 g1
                    refine hK.out _ _ ?_ (fun hNext => ?_)
                    · exact WC1.out.box
                    clear hK K hHeld
                    have hHeld := hNext
                    clear hNext
                    try simp only [Act.put, List.setIfInBounds_toArray, List.set_cons_zero, List.set_cons_succ]
                    refine wpAnyH_ready (rs := [6]) (by kernel_rfl) (by simp) ?_
                    refine AllReadyH.cons (o := ⟨some 72, .call { callee := .value (.func 64), args := #[.tmp 69, .tmp 71], argTypes := #[31, 3] }, _, _, _, none⟩) rfl (fun K hK => ?_) AllReadyH.nil
                    go_simp
                    refine (H6.out _ _ WC1.out.wr).mono ?_
                    rintro r w132 ⟨v132, rfl, h2, g2⟩
                    have WC2 := Lib.hid (WC1.out.next h2 g2)
                    clear h2 g2
                    refine hK.out _ _ ?_ (fun hNext => ?_)
                    · exact WC2.out.box
                    clear hK K hHeld
                    have hHeld := hNext
                    clear hNext
                    try simp only [Act.put, List.setIfInBounds_toArray, List.set_cons_zero, List.set_cons_succ]
                    refine wpAnyH_ready (rs := [9]) (by kernel_rfl) (by simp) ?_
                    refine AllReadyH.cons (o := ⟨some 75, .call { callee := .value (.func 64), args := #[.tmp 72, .tmp 74], argTypes := #[31, 3] }, _, _, _, none⟩) rfl (fun K hK => ?_) AllReadyH.nil
                    go_simp
                    refine (H7.out _ _ WC2.out.wr).mono ?_
                    rintro r w133 ⟨v133, rfl, h3, g3⟩
                    have WC3 := Lib.hid (WC2.out.next h3 g3)
                    clear h3 g3
                    refine hK.out _ _ ?_ (fun hNext => ?_)
                    · exact WC3.out.box
                    clear hK K hHeld
                    have hHeld := hNext
                    clear hNext
                    try simp only [Act.put, List.setIfInBounds_toArray, List.set_cons_zero, List.set_cons_succ]
                    refine wpAnyH_take (i := 10) (oi := ⟨some 4, .assign (.tmp 75), _, _, _, none⟩) (v := ?_) rfl (by kernel_rfl) (by kernel_rfl) (by kernel_rfl) (fun _ _ _ h => h) (Or.inl ⟨by rfl, ?_⟩) hHeld ?_
                    rotate_left
                    focus (intro z hSw; clear hSw; go_simp; try with_reducible rfl)
                    try simp only [Act.put, List.setIfInBounds_toArray, List.set_cons_zero, List.set_cons_succ]
                    refine wpAnyH_done (by kernel_rfl) ?_ _
                    have q8 := (HX.out _ WC3.out.box).quota
                    have q9 := (HX.out _ WC3.out.box).reserve
                    go_upto_region 6 with (at_builtin; refine wpList_appW BT (WC3.out.wr.keep0 ((Frm.refl [] _).alloc _)) (two_slB (b := UInt8.ofNat x.quota.toNat) (c := UInt8.ofNat x.reserve.toNat) (heap_alloc_at rfl) HK3.out HK4.out) HQ8.out rfl (.tmp 76) (.tmp 83) rfl rfl rfl ?_; intro v14 w14 h14 g14)
                    rw [HM8.out] at h14
                    have HNN := Lib.hid (HN.out _ _ h14)
                    clear h14 g14 q8 q9
                    go_wp2_with fail
                    go_roundw
                    case rel => exact HNN.out
                    case measure => simp [intOf]; omega
                  exact AllReadyH.nil
                exact AllReadyH.nil
              refine AllReadyH.cons (o := ⟨some 48, .buildSlice 31 1 #[(0, .tmp 47)], _, _, _, none⟩) rfl (fun K hK => ?_) ?_
              · refine step_b1 rfl (.tmp 47) rfl rfl (fun g8 w8b hg8 f8 n8 => ?_)
                refine hK.out _ _ ?_ (fun hNext => ?_)
                · exact f8.heap WB8.out.box (by simp)
                clear hK K hHeld
                have hHeld := hNext
                clear hNext
                try simp only [Act.put, List.setIfInBounds_toArray, List.set_cons_zero, List.set_cons_succ]
                refine wpAnyH_ready (rs := [3]) (by kernel_rfl) (by simp) ?_
                refine AllReadyH.cons (o := ⟨some 43, .call { callee := .value (.func 64), args := #[.tmp 40, .tmp 42], argTypes := #[31, 3] }, _, _, _, none⟩) rfl (fun K hK => ?_) ?_
                · have WBk := Lib.hid (WB8.out.keep0 f8)
                  have SDk := Lib.hid (SD8.out.keep0 f8)
                  go_simp
                  refine (H1.out _ _ WBk.out.wr).mono ?_
                  rintro r w3 ⟨v3, rfl, h3, g3⟩
                  have WBa := Lib.hid (WBk.out.next h3 g3)
                  have SDa := Lib.hid (SDk.out.next g3)
                  refine hK.out _ _ ?_ (fun hNext => ?_)
                  · exact WBa.out.box
                  clear hK K hHeld
                  have hHeld := hNext
                  clear hNext
                  try simp only [Act.put, List.setIfInBounds_toArray, List.set_cons_zero, List.set_cons_succ]
                  refine wpAnyH_ready (rs := [9]) (by kernel_rfl) (by simp) ?_
                  refine AllReadyH.cons (o := ⟨some 49, .call { callee := .builtin .append, args := #[.tmp 43, .tmp 48], argTypes := #[31, 31] }, _, _, _, none⟩) rfl (fun K hK => ?_) ?_
                  · have hg8b := (grew_heap g3 hg8 (fun hm => by obtain ⟨sp, ho⟩ := WB8.out.wr.own; have := ho.lt _ hm; omega)).1
                    refine step_appW BT (WBa.out.wr) (one_slB (b := UInt8.ofNat x.name.data.toList.length) hg8b HB9.out) HQ1.out rfl (.tmp 43) (.tmp 48) rfl rfl rfl ?_
                    intro v9 w9 h9 g9
                    rw [HM1.out] at h9
                    have WB9 := Lib.hid ((WBa.out).next h9 g9)
                    have SD9 := Lib.hid ((SDa.out).next g9)
                    refine hK.out _ _ ?_ (fun hNext => ?_)
                    · exact WB9.out.box
                    clear hK K hHeld
                    have hHeld := hNext
                    clear hNext
                    try simp only [Act.put, List.setIfInBounds_toArray, List.set_cons_zero, List.set_cons_succ]
                    refine wpAnyH_take (i := 10) (oi := ⟨some 4, .assign (.tmp 49), _, _, _, none⟩) (v := ?_) rfl (by kernel_rfl) (by kernel_rfl) (by kernel_rfl) (fun _ _ _ h => h) (Or.inl ⟨by rfl, ?_⟩) hHeld ?_
                    rotate_left
                    focus (intro z hSw; clear hSw; go_simp; try with_reducible rfl)
                    try simp only [Act.put, List.setIfInBounds_toArray, List.set_cons_zero, List.set_cons_succ]
                    refine wpAnyH_done (by kernel_rfl) ?_ _
                    clear h9 g9 h3 g3 hg8 f8 n8 WBa SDa WB8 SD8 hHeld
                    have q1 := (HX.out _ WB9.out.box).name
                    go_upto_region 11 with (first
                      | (at_builtin; refine wpList_appS BT WB9.out.wr (src_string Tryz.underlying9 _ _) HQ2.out rfl (.tmp 50) (.tmp 52) rfl rfl rfl ?_; intro v10 w10 h10 g10))
                    rw [HM2.out] at h10
                    have WB10 := Lib.hid (WB9.out.next h10 g10)
                    have SD10 := Lib.hid (SD9.out.next g10)
                    clear h10 g10 WB9 SD9
                    have q2 := (HX.out _ WB10.out.box).kind
                    have q3 := (HX.out _ WB10.out.box).size
                    go_upto_region 12 with (at_builtin; refine wpList_appW BT (WB10.out.wr.keep0 ((Frm.refl [] _).alloc _)) (two_slB (b := UInt8.ofNat x.kind.toNat) (c := UInt8.ofNat x.size.toNat) (heap_alloc_at rfl) HK1.out HK2.out) HQ3.out rfl (.tmp 54) (.tmp 61) rfl rfl rfl ?_; intro v11 w11 h11 g11)
                    rw [HM3.out] at h11
                    have WB11 := Lib.hid ((WB10.out.keep0 ((Frm.refl [] _).alloc _)).next h11 g11)
                    have SD11 := Lib.hid ((SD10.out.keep0 ((Frm.refl [] _).alloc _)).next g11)
                    clear h11 g11 q2 q3 WB10 SD10
                    obtain ⟨rsp, rsl⟩ := SD11.out.sl
                    have RSL := Lib.hid rsl
                    clear rsl
                    go_upto_region 13 with (at_builtin; refine wpList_appW BT WB11.out.wr RSL.out HQ4.out rfl (.tmp 63) (.tmp 64) rfl rfl rfl ?_; intro v12 w12 h12 g12)
                    rw [HM4.out] at h12
                    have WB12 := Lib.hid (WB11.out.next h12 g12)
                    clear h12 g12 WB11 SD11 RSL
                    have WBd := Lib.hid (show Wb W w12.drew g6 OBJ v12 m4 from ⟨WB12.out.wr.keep0 ((Frm.refl [] _).drew), WB12.out.box, WB12.out.out⟩)
                    refine wp_region_held_drew (S := fun z => z.heap[g6]? = some OBJ) (by kernel_rfl) (WBd.out.box) (fun hHeld => ?_)
                    refine wpAnyH_take (i := 0) (oi := ⟨some 66, .move (.tmp 4), _, _, _, none⟩) (v := ?_) rfl (by kernel_rfl) (by kernel_rfl) (by kernel_rfl) (fun _ _ _ h => h) (Or.inl ⟨by rfl, ?_⟩) hHeld ?_
                    rotate_left
                    focus (intro z hSw; clear hSw; go_simp; try with_reducible rfl)
                    try simp only [Act.put, List.setIfInBounds_toArray, List.set_cons_zero, List.set_cons_succ]
                    refine wpAnyH_take (i := 1) (oi := ⟨some 67, .fieldAddr 56 (.tmp 6) 5, _, _, _, none⟩) (v := ?_) rfl (by kernel_rfl) (by kernel_rfl) (by kernel_rfl) (fun _ _ _ h => h) (Or.inl ⟨by rfl, ?_⟩) hHeld ?_
                    rotate_left
                    focus (intro z hSw; clear hSw; go_simp; try with_reducible rfl)
                    try simp only [Act.put, List.setIfInBounds_toArray, List.set_cons_zero, List.set_cons_succ]
                    refine wpAnyH_take (i := 2) (oi := ⟨some 68, .load 3 (.tmp 67), _, _, _, none⟩) (v := ?_) rfl (by kernel_rfl) (by kernel_rfl) (by kernel_rfl) (fun _ _ _ h => h) (Or.inl ⟨by rfl, ?_⟩) hHeld ?_
                    rotate_left
                    focus (intro z hSw; have q0 := (HX.out z hSw).made; have q1 := (HX.out z hSw).of; have q2 := (HX.out z hSw).origin; clear hSw; go_simp; try with_reducible rfl)
                    try simp only [Act.put, List.setIfInBounds_toArray, List.set_cons_zero, List.set_cons_succ]
                    refine wpAnyH_take (i := 4) (oi := ⟨some 70, .fieldAddr 56 (.tmp 6) 6, _, _, _, none⟩) (v := ?_) rfl (by kernel_rfl) (by kernel_rfl) (by kernel_rfl) (fun _ _ _ h => h) (Or.inl ⟨by rfl, ?_⟩) hHeld ?_
                    rotate_left
                    focus (intro z hSw; clear hSw; go_simp; try with_reducible rfl)
                    try simp only [Act.put, List.setIfInBounds_toArray, List.set_cons_zero, List.set_cons_succ]
                    refine wpAnyH_take (i := 5) (oi := ⟨some 71, .load 3 (.tmp 70), _, _, _, none⟩) (v := ?_) rfl (by kernel_rfl) (by kernel_rfl) (by kernel_rfl) (fun _ _ _ h => h) (Or.inl ⟨by rfl, ?_⟩) hHeld ?_
                    rotate_left
                    focus (intro z hSw; have q0 := (HX.out z hSw).made; have q1 := (HX.out z hSw).of; have q2 := (HX.out z hSw).origin; clear hSw; go_simp; try with_reducible rfl)
                    try simp only [Act.put, List.setIfInBounds_toArray, List.set_cons_zero, List.set_cons_succ]
                    refine wpAnyH_take (i := 7) (oi := ⟨some 73, .fieldAddr 56 (.tmp 6) 7, _, _, _, none⟩) (v := ?_) rfl (by kernel_rfl) (by kernel_rfl) (by kernel_rfl) (fun _ _ _ h => h) (Or.inl ⟨by rfl, ?_⟩) hHeld ?_
                    rotate_left
                    focus (intro z hSw; clear hSw; go_simp; try with_reducible rfl)
                    try simp only [Act.put, List.setIfInBounds_toArray, List.set_cons_zero, List.set_cons_succ]
                    refine wpAnyH_take (i := 8) (oi := ⟨some 74, .load 3 (.tmp 73), _, _, _, none⟩) (v := ?_) rfl (by kernel_rfl) (by kernel_rfl) (by kernel_rfl) (fun _ _ _ h => h) (Or.inl ⟨by rfl, ?_⟩) hHeld ?_
                    rotate_left
                    focus (intro z hSw; have q0 := (HX.out z hSw).made; have q1 := (HX.out z hSw).of; have q2 := (HX.out z hSw).origin; clear hSw; go_simp; try with_reducible rfl)
                    try simp only [Act.put, List.setIfInBounds_toArray, List.set_cons_zero, List.set_cons_succ]
                    refine wpAnyH_ready (rs := [3]) (by kernel_rfl) (by simp) ?_
                    refine AllReadyH.cons (o := ⟨some 69, .call { callee := .value (.func 64), args := #[.tmp 66, .tmp 68], argTypes := #[31, 3] }, _, _, _, none⟩) rfl (fun K hK => ?_) AllReadyH.nil
                    go_simp
                    refine (H5.out _ _ WBd.out.wr).mono ?_
                    rintro r w131 ⟨v131, rfl, h1, g1⟩
                    have WC1 := Lib.hid (WBd.out.next h1 g1)
                    clear h1 g1
                    refine hK.out _ _ ?_ (fun hNext => ?_)
                    · exact WC1.out.box
                    clear hK K hHeld
                    have hHeld := hNext
                    clear hNext
                    try simp only [Act.put, List.setIfInBounds_toArray, List.set_cons_zero, List.set_cons_succ]
                    refine wpAnyH_ready (rs := [6]) (by kernel_rfl) (by simp) ?_
                    refine AllReadyH.cons (o := ⟨some 72, .call { callee := .value (.func 64), args := #[.tmp 69, .tmp 71], argTypes := #[31, 3] }, _, _, _, none⟩) rfl (fun K hK => ?_) AllReadyH.nil
                    go_simp
                    refine (H6.out _ _ WC1.out.wr).mono ?_
                    rintro r w132 ⟨v132, rfl, h2, g2⟩
                    have WC2 := Lib.hid (WC1.out.next h2 g2)
                    clear h2 g2
                    refine hK.out _ _ ?_ (fun hNext => ?_)
                    · exact WC2.out.box
                    clear hK K hHeld
                    have hHeld := hNext
                    clear hNext
                    try simp only [Act.put, List.setIfInBounds_toArray, List.set_cons_zero, List.set_cons_succ]
                    refine wpAnyH_ready (rs := [9]) (by kernel_rfl) (by simp) ?_
                    refine AllReadyH.cons (o := ⟨some 75, .call { callee := .value (.func 64), args := #[.tmp 72, .tmp 74], argTypes := #[31, 3] }, _, _, _, none⟩) rfl (fun K hK => ?_) AllReadyH.nil
                    go_simp
                    refine (H7.out _ _ WC2.out.wr).mono ?_
                    rintro r w133 ⟨v133, rfl, h3, g3⟩
                    have WC3 := Lib.hid (WC2.out.next h3 g3)
                    clear h3 g3
                    refine hK.out _ _ ?_ (fun hNext => ?_)
                    · exact WC3.out.box
                    clear hK K hHeld
                    have hHeld := hNext
                    clear hNext
                    try simp only [Act.put, List.setIfInBounds_toArray, List.set_cons_zero, List.set_cons_succ]
                    refine wpAnyH_take (i := 10) (oi := ⟨some 4, .assign (.tmp 75), _, _, _, none⟩) (v := ?_) rfl (by kernel_rfl) (by kernel_rfl) (by kernel_rfl) (fun _ _ _ h => h) (Or.inl ⟨by rfl, ?_⟩) hHeld ?_
                    rotate_left
                    focus (intro z hSw; clear hSw; go_simp; try with_reducible rfl)
                    try simp only [Act.put, List.setIfInBounds_toArray, List.set_cons_zero, List.set_cons_succ]
                    refine wpAnyH_done (by kernel_rfl) ?_ _
                    have q8 := (HX.out _ WC3.out.box).quota
                    have q9 := (HX.out _ WC3.out.box).reserve
                    go_upto_region 6 with (at_builtin; refine wpList_appW BT (WC3.out.wr.keep0 ((Frm.refl [] _).alloc _)) (two_slB (b := UInt8.ofNat x.quota.toNat) (c := UInt8.ofNat x.reserve.toNat) (heap_alloc_at rfl) HK3.out HK4.out) HQ8.out rfl (.tmp 76) (.tmp 83) rfl rfl rfl ?_; intro v14 w14 h14 g14)
                    rw [HM8.out] at h14
                    have HNN := Lib.hid (HN.out _ _ h14)
                    clear h14 g14 q8 q9
                    go_wp2_with fail
                    go_roundw
                    case rel => exact HNN.out
                    case measure => simp [intOf]; omega
                  exact AllReadyH.nil
                exact AllReadyH.nil
              exact AllReadyH.nil
            · obtain rfl : k = t.recs.length := by omega
              rw [List.take_length] at hW
              have W5 := Lib.hid hW
              have c2 := (HT.out _ hW.frm).kind
              have c3 := (HT.out _ hW.frm).dev
              clear hW
              go_upto_region 16 with (at_builtin; refine wpList_appW BT (W5.out.keep0 ((Frm.refl [] _).alloc _)) (two_slB (b := UInt8.ofNat t.cur.kind.toNat) (c := UInt8.ofNat t.cur.dev.toNat) (heap_alloc_at rfl) KC1.out KC2.out) QC1.out rfl (.tmp 85) (.tmp 94) rfl rfl rfl ?_; intro v15 w15 h15 g15)
              rw [HA2b.out] at h15
              have W15 := Lib.hid (h15.keep0 ((Frm.refl [] _).drew))
              clear h15 g15 c2 c3 W5
              refine wp_region_held_drew (S := fun z => Frm [] W z) (by kernel_rfl) (W15.out.frm) (fun hHeld => ?_)
              refine wpAnyH_take (i := 0) (oi := ⟨some 96, .move (.tmp 4), _, _, _, none⟩) (v := ?_) rfl (by kernel_rfl) (by kernel_rfl) (by kernel_rfl) (fun _ _ _ h => h) (Or.inl ⟨by rfl, ?_⟩) hHeld ?_
              rotate_left
              focus (intro z hSw; clear hSw; go_simp; try with_reducible rfl)
              try simp only [Act.put, List.setIfInBounds_toArray, List.set_cons_zero, List.set_cons_succ]
              refine wpAnyH_take (i := 1) (oi := ⟨some 97, .fieldAddr 27 (.tmp 1) 2, _, _, _, none⟩) (v := ?_) rfl (by kernel_rfl) (by kernel_rfl) (by kernel_rfl) (fun _ _ _ h => h) (Or.inl ⟨by rfl, ?_⟩) hHeld ?_
              rotate_left
              focus (intro z hSw; clear hSw; go_simp; try with_reducible rfl)
              try simp only [Act.put, List.setIfInBounds_toArray, List.set_cons_zero, List.set_cons_succ]
              refine wpAnyH_take (i := 2) (oi := ⟨some 98, .fieldAddr 24 (.tmp 97) 2, _, _, _, none⟩) (v := ?_) rfl (by kernel_rfl) (by kernel_rfl) (by kernel_rfl) (fun _ _ _ h => h) (Or.inl ⟨by rfl, ?_⟩) hHeld ?_
              rotate_left
              focus (intro z hSw; clear hSw; go_simp; try with_reducible rfl)
              try simp only [Act.put, List.setIfInBounds_toArray, List.set_cons_zero, List.set_cons_succ]
              refine wpAnyH_take (i := 3) (oi := ⟨some 99, .load 3 (.tmp 98), _, _, _, none⟩) (v := ?_) rfl (by kernel_rfl) (by kernel_rfl) (by kernel_rfl) (fun _ _ _ h => h) (Or.inl ⟨by rfl, ?_⟩) hHeld ?_
              rotate_left
              focus (intro z hSw; have q0 := (HT.out z hSw).at_; have q1 := (HT.out z hSw).txg; clear hSw; go_simp; try with_reducible rfl)
              try simp only [Act.put, List.setIfInBounds_toArray, List.set_cons_zero, List.set_cons_succ]
              refine wpAnyH_take (i := 5) (oi := ⟨some 101, .fieldAddr 27 (.tmp 1) 2, _, _, _, none⟩) (v := ?_) rfl (by kernel_rfl) (by kernel_rfl) (by kernel_rfl) (fun _ _ _ h => h) (Or.inl ⟨by rfl, ?_⟩) hHeld ?_
              rotate_left
              focus (intro z hSw; clear hSw; go_simp; try with_reducible rfl)
              try simp only [Act.put, List.setIfInBounds_toArray, List.set_cons_zero, List.set_cons_succ]
              refine wpAnyH_take (i := 6) (oi := ⟨some 102, .fieldAddr 24 (.tmp 101) 3, _, _, _, none⟩) (v := ?_) rfl (by kernel_rfl) (by kernel_rfl) (by kernel_rfl) (fun _ _ _ h => h) (Or.inl ⟨by rfl, ?_⟩) hHeld ?_
              rotate_left
              focus (intro z hSw; clear hSw; go_simp; try with_reducible rfl)
              try simp only [Act.put, List.setIfInBounds_toArray, List.set_cons_zero, List.set_cons_succ]
              refine wpAnyH_take (i := 7) (oi := ⟨some 103, .load 3 (.tmp 102), _, _, _, none⟩) (v := ?_) rfl (by kernel_rfl) (by kernel_rfl) (by kernel_rfl) (fun _ _ _ h => h) (Or.inl ⟨by rfl, ?_⟩) hHeld ?_
              rotate_left
              focus (intro z hSw; have q0 := (HT.out z hSw).at_; have q1 := (HT.out z hSw).txg; clear hSw; go_simp; try with_reducible rfl)
              try simp only [Act.put, List.setIfInBounds_toArray, List.set_cons_zero, List.set_cons_succ]
              refine wpAnyH_ready (rs := [4]) (by kernel_rfl) (by simp) ?_
              refine AllReadyH.cons (o := ⟨some 100, .call { callee := .value (.func 64), args := #[.tmp 96, .tmp 99], argTypes := #[31, 3] }, _, _, _, none⟩) rfl (fun K hK => ?_) AllReadyH.nil
              go_simp
              refine (H3.out W _ _ W15.out).mono ?_
              rintro r w16 ⟨v16, rfl, h16, g16⟩
              have X1 := Lib.hid h16
              clear h16 g16
              refine hK.out _ _ ?_ (fun hNext => ?_)
              · exact X1.out.frm
              clear hK K hHeld
              have hHeld := hNext
              clear hNext
              try simp only [Act.put, List.setIfInBounds_toArray, List.set_cons_zero, List.set_cons_succ]
              refine wpAnyH_ready (rs := [8]) (by kernel_rfl) (by simp) ?_
              refine AllReadyH.cons (o := ⟨some 104, .call { callee := .value (.func 64), args := #[.tmp 100, .tmp 103], argTypes := #[31, 3] }, _, _, _, none⟩) rfl (fun K hK => ?_) AllReadyH.nil
              go_simp
              refine (H4.out W _ _ X1.out).mono ?_
              rintro r w16b ⟨v16b, rfl, h16, g16⟩
              have X2 := Lib.hid h16
              clear h16 g16
              refine hK.out _ _ ?_ (fun hNext => ?_)
              · exact X2.out.frm
              clear hK K hHeld
              have hHeld := hNext
              clear hNext
              try simp only [Act.put, List.setIfInBounds_toArray, List.set_cons_zero, List.set_cons_succ]
              refine wpAnyH_take (i := 9) (oi := ⟨some 4, .assign (.tmp 104), _, _, _, none⟩) (v := ?_) rfl (by kernel_rfl) (by kernel_rfl) (by kernel_rfl) (fun _ _ _ h => h) (Or.inl ⟨by rfl, ?_⟩) hHeld ?_
              rotate_left
              focus (intro z hSw; clear hSw; go_simp; try with_reducible rfl)
              try simp only [Act.put, List.setIfInBounds_toArray, List.set_cons_zero, List.set_cons_succ]
              refine wpAnyH_done (by kernel_rfl) ?_ _
              have c6 := (HT.out _ X2.out.frm).lives
              go_upto_region 18 with (at_builtin; refine wpList_appW BT (X2.out.keep0 ((Frm.refl [] _).alloc _)) (one_slB (b := UInt8.ofNat t.lives.length) (heap_alloc_at rfl) KL.out) QC4.out rfl (.tmp 105) (.tmp 110) rfl rfl rfl ?_; intro v17 w17 h17 g17)
              rw [HA5e.out] at h17
              have W17 := Lib.hid h17
              clear h17 g17 c6
              go_upto_region 19 with (fail)
              generalize wr = wrA at *
              go_loopw [4, 9] (DocLiv W A5 t.lives) (fun _ c _ => t.lives.length - (intOf c).toNat)
              case atStart => exact ⟨0, Nat.zero_le _, rfl, by simpa using W17.out⟩
              case round =>
                obtain ⟨k, hk, rfl, hW⟩ := hrel
                have c6 := (HT.out _ hW.frm).lives
                by_cases hkl : k < t.lives.length
                · have hkl9 : (k : Int) < (t.lives.length : Int) := by omega
                  obtain ⟨b, off, rfl⟩ := HLV.out.at (by omega)
                  have c0 := cellI (HLV.out.keep0 hW.frm) k hkl
                  have hlen : (A5 ++ (t.lives.take k).flatMap fun n => be4 n.toNat).length ≤ 900000 := by
                    have h2 := HA5.out
                    rw [List.length_append, liv_len, List.length_take]
                    have := HLL.out
                    omega
                  have hfin : (A5 ++ (t.lives.take k).flatMap fun n => be4 n.toNat) ++ be4 (t.lives[k]).toNat = A5 ++ (t.lives.take (k + 1)).flatMap fun n => be4 n.toNat := by
                    rw [List.take_succ_eq_append_getElem hkl, List.flatMap_append, List.append_assoc]
                    simp [List.flatMap_cons]
                  have hb := HLX.out _ (List.getElem_mem hkl)
                  have HRC := Lib.hid (fourDW W _ _ t.lives[k] wr hW hlen (by omega))
                  rw [hfin] at HRC
                  have HN := Lib.hid (show ∀ z v', Wr W z v' (A5 ++ (t.lives.take (k + 1)).flatMap fun n => be4 n.toNat) → DocLiv W A5 t.lives v' (.int .i64 ((k : Int) + 1)) z from fun z v' h => ⟨k + 1, by omega, by go_num, h⟩)
                  clear hlen hfin hW hb
                  generalize (A5 ++ (t.lives.take (k + 1)).flatMap fun n => be4 n.toNat) = l3 at *
                  generalize (A5 ++ (t.lives.take k).flatMap fun n => be4 n.toNat) = l2 at *
                  generalize t.lives[k] = x at *
                  go_wp2_with (go_at_call 64; refine HRC.out.mono ?_; rintro e w5 ⟨v5, rfl, h5, g5⟩; have N5 := Lib.hid (HN.out _ _ h5); clear h5 g5)
                  go_roundw
                  case rel => exact N5.out
                  case measure => simp [intOf]; omega
                · obtain rfl : k = t.lives.length := by omega
                  rw [List.take_length] at hW
                  have W9 := Lib.hid hW
                  clear hW
                  go_wp2_with fail
                  go_ret2
                  exact HFIN.out _ _ W9.out
        exact AllReadyH.nil
      exact AllReadyH.nil
    refine AllReadyH.cons (o := ⟨some 20, .buildSlice 31 1 #[(0, .tmp 19)], _, _, _, none⟩) rfl (fun K hK => ?_) ?_
    · refine step_b1 rfl (.tmp 19) rfl rfl (fun g7 w7 hg7 f7 n7 => ?_)
      refine hK.out _ _ ?_ (fun hNext => ?_)
      · exact hHeld.trans f7 (by simp)
      clear hK K hHeld
      have hHeld := hNext
      clear hNext
      try simp only [Act.put, List.setIfInBounds_toArray, List.set_cons_zero, List.set_cons_succ]
      refine wpAnyH_ready (rs := [2]) (by kernel_rfl) (by simp) ?_
      refine AllReadyH.cons (o := ⟨some 15, .call { callee := .value (.func 64), args := #[.const (.slice none 0 0), .tmp 14], argTypes := #[31, 3] }, _, _, _, none⟩) rfl (fun K hK => ?_) ?_
      · go_simp
        refine (H1.out W _ _ (WN.out.keep0 f7)).mono ?_
        rintro r w2 ⟨v2, rfl, h2, g2⟩
        refine hK.out _ _ ?_ (fun hNext => ?_)
        · exact h2.frm
        clear hK K hHeld
        have hHeld := hNext
        clear hNext
        try simp only [Act.put, List.setIfInBounds_toArray, List.set_cons_zero, List.set_cons_succ]
        refine wpAnyH_ready (rs := [8]) (by kernel_rfl) (by simp) ?_
        refine AllReadyH.cons (o := ⟨some 21, .call { callee := .builtin .append, args := #[.tmp 15, .tmp 20], argTypes := #[31, 31] }, _, _, _, none⟩) rfl (fun K hK => ?_) ?_
        · refine step_appW BT (h2) (one_slB (b := UInt8.ofNat t.recs.length) ((grew_heap g2 hg7 (by simp [blk])).1) KR.out) Q1.out rfl (.tmp 15) (.tmp 20) rfl rfl rfl ?_
          intro v3 w3 h3 g3
          refine hK.out _ _ ?_ (fun hNext => ?_)
          · exact h3.frm
          clear hK K hHeld
          have hHeld := hNext
          clear hNext
          try simp only [Act.put, List.setIfInBounds_toArray, List.set_cons_zero, List.set_cons_succ]
          refine wpAnyH_take (i := 9) (oi := ⟨some 4, .assign (.tmp 21), _, _, _, none⟩) (v := ?_) rfl (by kernel_rfl) (by kernel_rfl) (by kernel_rfl) (fun _ _ _ h => h) (Or.inl ⟨by rfl, ?_⟩) hHeld ?_
          rotate_left
          focus (intro z hSw; clear hSw; go_simp; try with_reducible rfl)
          try simp only [Act.put, List.setIfInBounds_toArray, List.set_cons_zero, List.set_cons_succ]
          refine wpAnyH_done (by kernel_rfl) ?_ _
          rw [HA1e.out] at h3
          have W3 := Lib.hid h3
          generalize IntKind.u8.wrap ((t.recs.length : Nat) : Int) = s19 at *
          clear h3 g3 h2 g2 hg7 f7 n7 hHeld
          
          go_upto_region 5 with (fail)
          go_loopw [4, 5] (DocRel W A1 t.recs) (fun _ c _ => t.recs.length - (intOf c).toNat)
          case atStart => exact ⟨0, Nat.zero_le _, rfl, by simpa using W3.out⟩
          case round =>
            obtain ⟨k, hk, rfl, hW⟩ := hrel
            have d1 := (HT.out _ hW.frm).recs
            by_cases hkl : k < t.recs.length
            · have hkl9 : (k : Int) < (t.recs.length : Int) := by omega
              obtain ⟨b, off, cp, e⟩ := HR.out.at (by omega)
              cases e
              obtain ⟨xa, xc, GV⟩ := HR.out.getsP k hkl
              have L1 := Lib.hid (GV _ hW.frm).1.all
              have hs : (t.recs[k]).root.s.length = 32 := (HWS.out _ (List.getElem_mem hkl)).2
              have O1 := Lib.hid (show (Value.slice xa (t.recs[k]).root.ads.length xc).oneCell' = true from rfl)
              have S1 := Lib.hid hs
              have hwx := HWX.out _ (List.getElem_mem hkl)
              have hob := outB_len hwx.1.r hs
              have hnm := hwx.1.nm
              have hnm2 : (t.recs[k]).name.size < 256 := by rw [Lib.size_eq]; exact hnm
              have hfl := flat_len (rs := t.recs.take k) (fun x hx => HWS.out x (List.mem_of_mem_take hx))
              have hlen : (A1 ++ (t.recs.take k).flatMap encR).length ≤ 100000 := by
                have := HA1.out
                rw [List.length_append]
                rw [List.length_take] at hfl
                have h2 := HMANY.out
                have : min k t.recs.length ≤ 16 := by omega
                omega
              have HRB := Lib.hid (fun z (f : Frm [] W z) => Pt.RefBytes_any (pv (Value.slice xa (t.recs[k]).root.ads.length xc) (t.recs[k]).root.b (t.recs[k]).root.l (t.recs[k]).root.s) (t.recs[k]).root z (GV z f).2 hwx.2)
              have hE : A1 ++ (t.recs.take (k + 1)).flatMap encR = A1 ++ (t.recs.take k).flatMap encR ++ be4 (t.recs[k]).id.toNat ++ [UInt8.ofNat (t.recs[k]).name.data.toList.length] ++ (t.recs[k]).name.data.toList ++ [UInt8.ofNat (t.recs[k]).kind.toNat, UInt8.ofNat (t.recs[k]).size.toNat] ++ Pt.outB (t.recs[k]).root ++ be4 (t.recs[k]).made.toNat ++ be4 (t.recs[k]).of.toNat ++ be4 (t.recs[k]).origin.toNat ++ [UInt8.ofNat (t.recs[k]).quota.toNat, UInt8.ofNat (t.recs[k]).reserve.toNat] := by
                rw [flat_snoc hkl, hob.2]; simp [encR, be1, List.append_assoc]
              have HN := Lib.hid (show ∀ z v', Wr W z v' (A1 ++ (t.recs.take (k + 1)).flatMap encR) → DocRel W A1 t.recs v' (.int .i64 ((k : Int) + 1)) z from fun z v' h => ⟨k + 1, by omega, by go_num, h⟩)
              rw [hE] at HN
              clear hE
              generalize t.recs[k] = x at *
              generalize hL0 : A1 ++ (t.recs.take k).flatMap encR = m at *
              have HB9 := Lib.hid (show ((x.name.size : Nat) : Int) % 256 = ((UInt8.ofNat x.name.data.toList.length).toNat : Int) by rw [← Lib.size_eq, UInt8.toNat_ofNat']; omega)
              have HK1 := Lib.hid (byte_of hwx.1.k0)
              have HK2 := Lib.hid (byte_of hwx.1.s0)
              have HK3 := Lib.hid (byte_of hwx.1.q0)
              have HK4 := Lib.hid (byte_of hwx.1.v0)
              have b0 : (m ++ be4 x.id.toNat).length ≤ 100004 := by rw [List.length_append, be4_len]; omega
              have H1 := Lib.hid (fun z v1 (h1 : Wr W z v1 m) => fourDW W v1 m x.id z h1 (by omega) ⟨hwx.1.id0, hwx.1.id1⟩)
              generalize (m ++ be4 x.id.toNat) = m0 at *
              have HQ1 := Lib.hid (show m0.length + [UInt8.ofNat x.name.data.toList.length].length ≤ 140737488355328 by simp only [List.length_cons, List.length_nil]; omega)
              have b1 : (m0 ++ [UInt8.ofNat x.name.data.toList.length]).length ≤ 100005 := by rw [List.length_append]; simp only [List.length_cons, List.length_nil]; omega
              generalize hM1 : (m0 ++ [UInt8.ofNat x.name.data.toList.length]) = m1 at *
              have HM1 := Lib.hid hM1
              clear hM1
              have HQ2 := Lib.hid (show m1.length + x.name.data.toList.length ≤ 140737488355328 by omega)
              have b2 : (m1 ++ x.name.data.toList).length ≤ 100300 := by rw [List.length_append]; omega
              generalize hM2 : (m1 ++ x.name.data.toList) = m2 at *
              have HM2 := Lib.hid hM2
              clear hM2
              have HQ3 := Lib.hid (show m2.length + [UInt8.ofNat x.kind.toNat, UInt8.ofNat x.size.toNat].length ≤ 140737488355328 by simp only [List.length_cons, List.length_nil]; omega)
              have b3 : (m2 ++ [UInt8.ofNat x.kind.toNat, UInt8.ofNat x.size.toNat]).length ≤ 100302 := by rw [List.length_append]; simp only [List.length_cons, List.length_nil]; omega
              generalize hM3 : (m2 ++ [UInt8.ofNat x.kind.toNat, UInt8.ofNat x.size.toNat]) = m3 at *
              have HM3 := Lib.hid hM3
              clear hM3
              have ho47 := hob.1
              unfold Pt.BytesP at HRB
              generalize Pt.outB x.root = ob at *
              generalize Pt.chk x.root = ck at *
              have HQ4 := Lib.hid (show m3.length + ob.length ≤ 140737488355328 by omega)
              have b4 : (m3 ++ ob).length ≤ 100400 := by rw [List.length_append]; omega
              generalize hM4 : (m3 ++ ob) = m4 at *
              have HM4 := Lib.hid hM4
              clear hM4
              have H5 := Lib.hid (fun z v1 (h1 : Wr W z v1 m4) => fourDW W v1 m4 x.made z h1 (by omega) ⟨hwx.1.m0, hwx.1.m1⟩)
              have b5 : (m4 ++ be4 x.made.toNat).length ≤ 100404 := by rw [List.length_append, be4_len]; omega
              generalize (m4 ++ be4 x.made.toNat) = m5 at *
              have H6 := Lib.hid (fun z v1 (h1 : Wr W z v1 m5) => fourDW W v1 m5 x.of z h1 (by omega) ⟨hwx.1.o0, hwx.1.o1⟩)
              have b6 : (m5 ++ be4 x.of.toNat).length ≤ 100408 := by rw [List.length_append, be4_len]; omega
              generalize (m5 ++ be4 x.of.toNat) = m6 at *
              have H7 := Lib.hid (fun z v1 (h1 : Wr W z v1 m6) => fourDW W v1 m6 x.origin z h1 (by omega) ⟨hwx.1.g0, hwx.1.g1⟩)
              have b7 : (m6 ++ be4 x.origin.toNat).length ≤ 100412 := by rw [List.length_append, be4_len]; omega
              generalize (m6 ++ be4 x.origin.toNat) = m7 at *
              have HQ8 := Lib.hid (show m7.length + [UInt8.ofNat x.quota.toNat, UInt8.ofNat x.reserve.toNat].length ≤ 140737488355328 by simp only [List.length_cons, List.length_nil]; omega)
              generalize hM8 : (m7 ++ [UInt8.ofNat x.quota.toNat, UInt8.ofNat x.reserve.toNat]) = m8 at *
              have HM8 := Lib.hid hM8
              clear hM8
              have WK := Lib.hid hW
              clear hL0 GV hwx hob hs hnm hfl hlen b0 b1 b2 b3 b4 b5 b6 b7 ho47 hnm2 hW
              generalize (Value.slice xa x.root.ads.length xc) = vx at *
              go_upto_region 8 with (first
                | ((with_reducible (show wpList _ _ _ (Oper.mk _ (Op.load 56 _) _ _ _ _ :: _) _ _)); refine wpList_load_g (by rfl) 56 _ rfl _ rfl L1.out ?_)
                | ((with_reducible (show wpList _ _ _ (Oper.mk _ (Op.alloc 56) _ _ _ _ :: _) _ _)); refine wpList_lay56 rfl rfl rfl (.tmp 6) (.tmp 33) rfl O1.out S1.out rfl rfl ?_))
              have f6 : Frm [] wr (wr.alloc (.cells (rc vx x).toArray 56)) := (Frm.refl [] wr).alloc _
              have hnb : wr.heap.size ∉ blk u4 := fun hm => by obtain ⟨sp, ho⟩ := WK.out.own; have := ho.lt _ hm; omega
              have WB6 := Lib.hid (show Wb W (wr.alloc (.cells (rc vx x).toArray 56)) wr.heap.size (.cells (rc vx x).toArray 56 (0, 0)) u4 m from ⟨WK.out.keep0 f6, heap_alloc_new _ _, hnb⟩)
              have HX := Lib.hid (show ∀ z : World, z.heap[wr.heap.size]? = some (.cells (rc vx x).toArray 56 (0, 0)) → BxR z wr.heap.size vx x from fun z hz => RB.gets ⟨hz, S1.out⟩)
              obtain ⟨g6, hg6⟩ : ∃ g6, wr.heap.size = g6 := ⟨_, rfl⟩
              rw [hg6] at WB6 HX ⊢
              generalize wr.alloc (.cells (rc vx x).toArray 56) = w6 at *
              generalize hOBJ : (Obj.cells (rc vx x).toArray 56 (0, 0)) = OBJ at *
              have LR := Lib.hid (HX.out _ WB6.out.box).root
              clear f6 hnb hg6 WK L1 hOBJ O1 S1 d1
              go_upto_region 9 with (first
                | ((with_reducible (show wpList _ _ _ (Oper.mk _ (Op.load 54 _) _ _ _ _ :: _) _ _)); refine wpList_load_g (by rfl) 54 _ rfl _ rfl LR.out ?_)
                | (go_at_call 65; refine (HRB.out _ WB6.out.wr.frm).mono ?_; rintro e w8 ⟨ra, rcp, rsp, rfl, ro, fr, rn⟩))
              have WB8 := Lib.hid (show Wb W w8.drew g6 OBJ u4 m from ⟨WB6.out.wr.keep0 fr.drew, fr.heap WB6.out.box (by simp), WB6.out.out⟩)
              have SD8 := Lib.hid (show Sd w8.drew u4 (.slice ra ob.length rcp) ob from ⟨⟨rsp, ro.sl⟩, fun k hk hm => by
                have h1 := rn k hk
                obtain ⟨sp, ho⟩ := WB6.out.wr.own
                have h2 := ho.lt k hm
                omega, ro.lt⟩)
              clear ro fr rn HRB LR WB6
              generalize (Value.slice ra ob.length rcp) = yr at *
              refine wp_region_held_drew (S := fun z => z.heap[g6]? = some OBJ) (by kernel_rfl) (WB8.out.box) (fun hHeld => ?_)
              refine wpAnyH_take (i := 0) (oi := ⟨some 40, .move (.tmp 4), _, _, _, none⟩) (v := ?_) rfl (by kernel_rfl) (by kernel_rfl) (by kernel_rfl) (fun _ _ _ h => h) (Or.inl ⟨by rfl, ?_⟩) hHeld ?_
              rotate_left
              focus (intro z hSw; clear hSw; go_simp; try with_reducible rfl)
              try simp only [Act.put, List.setIfInBounds_toArray, List.set_cons_zero, List.set_cons_succ]
              refine wpAnyH_take (i := 1) (oi := ⟨some 41, .fieldAddr 56 (.tmp 6) 0, _, _, _, none⟩) (v := ?_) rfl (by kernel_rfl) (by kernel_rfl) (by kernel_rfl) (fun _ _ _ h => h) (Or.inl ⟨by rfl, ?_⟩) hHeld ?_
              rotate_left
              focus (intro z hSw; clear hSw; go_simp; try with_reducible rfl)
              try simp only [Act.put, List.setIfInBounds_toArray, List.set_cons_zero, List.set_cons_succ]
              refine wpAnyH_take (i := 2) (oi := ⟨some 42, .load 3 (.tmp 41), _, _, _, none⟩) (v := ?_) rfl (by kernel_rfl) (by kernel_rfl) (by kernel_rfl) (fun _ _ _ h => h) (Or.inl ⟨by rfl, ?_⟩) hHeld ?_
              rotate_left
              focus (intro z hSw; have q0 := (HX.out z hSw).id; have q1 := (HX.out z hSw).name; clear hSw; go_simp; try with_reducible rfl)
              try simp only [Act.put, List.setIfInBounds_toArray, List.set_cons_zero, List.set_cons_succ]
              refine wpAnyH_take (i := 4) (oi := ⟨some 44, .fieldAddr 56 (.tmp 6) 1, _, _, _, none⟩) (v := ?_) rfl (by kernel_rfl) (by kernel_rfl) (by kernel_rfl) (fun _ _ _ h => h) (Or.inl ⟨by rfl, ?_⟩) hHeld ?_
              rotate_left
              focus (intro z hSw; clear hSw; go_simp; try with_reducible rfl)
              try simp only [Act.put, List.setIfInBounds_toArray, List.set_cons_zero, List.set_cons_succ]
              refine wpAnyH_take (i := 5) (oi := ⟨some 45, .load 9 (.tmp 44), _, _, _, none⟩) (v := ?_) rfl (by kernel_rfl) (by kernel_rfl) (by kernel_rfl) (fun _ _ _ h => h) (Or.inl ⟨by rfl, ?_⟩) hHeld ?_
              rotate_left
              focus (intro z hSw; have q0 := (HX.out z hSw).id; have q1 := (HX.out z hSw).name; clear hSw; go_simp; try with_reducible rfl)
              try simp only [Act.put, List.setIfInBounds_toArray, List.set_cons_zero, List.set_cons_succ]
              refine wpAnyH_take (i := 6) (oi := ⟨some 46, .call { callee := .builtin .len, args := #[.tmp 45], argTypes := #[9] }, _, _, _, none⟩) (v := ?_) rfl (by kernel_rfl) (by kernel_rfl) (by kernel_rfl) (fun _ _ _ h => h) (Or.inl ⟨by rfl, ?_⟩) hHeld ?_
              rotate_left
              focus (intro z hSw; clear hSw; go_simp; try with_reducible rfl)
              try simp only [Act.put, List.setIfInBounds_toArray, List.set_cons_zero, List.set_cons_succ]
              refine wpAnyH_take (i := 7) (oi := ⟨some 47, .convert 3 5 (.tmp 46), _, _, _, none⟩) (v := ?_) rfl (by kernel_rfl) (by kernel_rfl) (by kernel_rfl) (fun _ _ _ h => h) (Or.inl ⟨by rfl, ?_⟩) hHeld ?_
              rotate_left
              focus (intro z hSw; clear hSw; go_simp; try with_reducible rfl)
              try simp only [Act.put, List.setIfInBounds_toArray, List.set_cons_zero, List.set_cons_succ]
              refine wpAnyH_ready (rs := [3, 8]) (by kernel_rfl) (by simp) ?_
              refine AllReadyH.cons (o := ⟨some 43, .call { callee := .value (.func 64), args := #[.tmp 40, .tmp 42], argTypes := #[31, 3] }, _, _, _, none⟩) rfl (fun K hK => ?_) ?_
              · go_simp
                refine (H1.out _ _ WB8.out.wr).mono ?_
                rintro r w3 ⟨v3, rfl, h3, g3⟩
                have WBa := Lib.hid (WB8.out.next h3 g3)
                have SDa := Lib.hid (SD8.out.next g3)
                refine hK.out _ _ ?_ (fun hNext => ?_)
                · exact WBa.out.box
                clear hK K hHeld
                have hHeld := hNext
                clear hNext
                try simp only [Act.put, List.setIfInBounds_toArray, List.set_cons_zero, List.set_cons_succ]
                refine wpAnyH_ready (rs := [8]) (by kernel_rfl) (by simp) ?_
                refine AllReadyH.cons (o := ⟨some 48, .buildSlice 31 1 #[(0, .tmp 47)], _, _, _, none⟩) rfl (fun K hK => ?_) ?_
                · refine step_b1 rfl (.tmp 47) rfl rfl (fun g8 w8b hg8 f8 n8 => ?_)
                  refine hK.out _ _ ?_ (fun hNext => ?_)
                  · exact f8.heap WBa.out.box (by simp)
                  clear hK K hHeld
                  have hHeld := hNext
                  clear hNext
                  try simp only [Act.put, List.setIfInBounds_toArray, List.set_cons_zero, List.set_cons_succ]
                  refine wpAnyH_ready (rs := [9]) (by kernel_rfl) (by simp) ?_
                  refine AllReadyH.cons (o := ⟨some 49, .call { callee := .builtin .append, args := #[.tmp 43, .tmp 48], argTypes := #[31, 31] }, _, _, _, none⟩) rfl (fun K hK => ?_) ?_
                  · refine step_appW BT (WBa.out.wr.keep0 f8) (one_slB (b := UInt8.ofNat x.name.data.toList.length) hg8 HB9.out) HQ1.out rfl (.tmp 43) (.tmp 48) rfl rfl rfl ?_
                    intro v9 w9 h9 g9
                    rw [HM1.out] at h9
                    have WB9 := Lib.hid ((WBa.out.keep0 f8).next h9 g9)
                    have SD9 := Lib.hid ((SDa.out.keep0 f8).next g9)
                    refine hK.out _ _ ?_ (fun hNext => ?_)
                    · exact WB9.out.box
                    clear hK K hHeld
                    have hHeld := hNext
                    clear hNext
                    try simp only [Act.put, List.setIfInBounds_toArray, List.set_cons_zero, List.set_cons_succ]
                    refine wpAnyH_take (i := 10) (oi := ⟨some 4, .assign (.tmp 49), _, _, _, none⟩) (v := ?_) rfl (by kernel_rfl) (by kernel_rfl) (by kernel_rfl) (fun _ _ _ h => h) (Or.inl ⟨by rfl, ?_⟩) hHeld ?_
                    rotate_left
                    focus (intro z hSw; clear hSw; go_simp; try with_reducible rfl)
                    try simp only [Act.put, List.setIfInBounds_toArray, List.set_cons_zero, List.set_cons_succ]
                    refine wpAnyH_done (by kernel_rfl) ?_ _
                    clear h9 g9 h3 g3 hg8 f8 n8 WBa SDa WB8 SD8 hHeld
                    have q1 := (HX.out _ WB9.out.box).name
                    go_upto_region 11 with (first
                      | (at_builtin; refine wpList_appS BT WB9.out.wr (src_string Tryz.underlying9 _ _) HQ2.out rfl (.tmp 50) (.tmp 52) rfl rfl rfl ?_; intro v10 w10 h10 g10))
                    rw [HM2.out] at h10
                    have WB10 := Lib.hid (WB9.out.next h10 g10)
                    have SD10 := Lib.hid (SD9.out.next g10)
                    clear h10 g10 WB9 SD9
                    have q2 := (HX.out _ WB10.out.box).kind
                    have q3 := (HX.out _ WB10.out.box).size
                    go_upto_region 12 with (at_builtin; refine wpList_appW BT (WB10.out.wr.keep0 ((Frm.refl [] _).alloc _)) (two_slB (b := UInt8.ofNat x.kind.toNat) (c := UInt8.ofNat x.size.toNat) (heap_alloc_at rfl) HK1.out HK2.out) HQ3.out rfl (.tmp 54) (.tmp 61) rfl rfl rfl ?_; intro v11 w11 h11 g11)
                    rw [HM3.out] at h11
                    have WB11 := Lib.hid ((WB10.out.keep0 ((Frm.refl [] _).alloc _)).next h11 g11)
                    have SD11 := Lib.hid ((SD10.out.keep0 ((Frm.refl [] _).alloc _)).next g11)
                    clear h11 g11 q2 q3 WB10 SD10
                    obtain ⟨rsp, rsl⟩ := SD11.out.sl
                    have RSL := Lib.hid rsl
                    clear rsl
                    go_upto_region 13 with (at_builtin; refine wpList_appW BT WB11.out.wr RSL.out HQ4.out rfl (.tmp 63) (.tmp 64) rfl rfl rfl ?_; intro v12 w12 h12 g12)
                    rw [HM4.out] at h12
                    have WB12 := Lib.hid (WB11.out.next h12 g12)
                    clear h12 g12 WB11 SD11 RSL
                    have WBd := Lib.hid (show Wb W w12.drew g6 OBJ v12 m4 from ⟨WB12.out.wr.keep0 ((Frm.refl [] _).drew), WB12.out.box, WB12.out.out⟩)
                    refine wp_region_held_drew (S := fun z => z.heap[g6]? = some OBJ) (by kernel_rfl) (WBd.out.box) (fun hHeld => ?_)
                    refine wpAnyH_take (i := 0) (oi := ⟨some 66, .move (.tmp 4), _, _, _, none⟩) (v := ?_) rfl (by kernel_rfl) (by kernel_rfl) (by kernel_rfl) (fun _ _ _ h => h) (Or.inl ⟨by rfl, ?_⟩) hHeld ?_
                    rotate_left
                    focus (intro z hSw; clear hSw; go_simp; try with_reducible rfl)
                    try simp only [Act.put, List.setIfInBounds_toArray, List.set_cons_zero, List.set_cons_succ]
                    refine wpAnyH_take (i := 1) (oi := ⟨some 67, .fieldAddr 56 (.tmp 6) 5, _, _, _, none⟩) (v := ?_) rfl (by kernel_rfl) (by kernel_rfl) (by kernel_rfl) (fun _ _ _ h => h) (Or.inl ⟨by rfl, ?_⟩) hHeld ?_
                    rotate_left
                    focus (intro z hSw; clear hSw; go_simp; try with_reducible rfl)
                    try simp only [Act.put, List.setIfInBounds_toArray, List.set_cons_zero, List.set_cons_succ]
                    refine wpAnyH_take (i := 2) (oi := ⟨some 68, .load 3 (.tmp 67), _, _, _, none⟩) (v := ?_) rfl (by kernel_rfl) (by kernel_rfl) (by kernel_rfl) (fun _ _ _ h => h) (Or.inl ⟨by rfl, ?_⟩) hHeld ?_
                    rotate_left
                    focus (intro z hSw; have q0 := (HX.out z hSw).made; have q1 := (HX.out z hSw).of; have q2 := (HX.out z hSw).origin; clear hSw; go_simp; try with_reducible rfl)
                    try simp only [Act.put, List.setIfInBounds_toArray, List.set_cons_zero, List.set_cons_succ]
                    refine wpAnyH_take (i := 4) (oi := ⟨some 70, .fieldAddr 56 (.tmp 6) 6, _, _, _, none⟩) (v := ?_) rfl (by kernel_rfl) (by kernel_rfl) (by kernel_rfl) (fun _ _ _ h => h) (Or.inl ⟨by rfl, ?_⟩) hHeld ?_
                    rotate_left
                    focus (intro z hSw; clear hSw; go_simp; try with_reducible rfl)
                    try simp only [Act.put, List.setIfInBounds_toArray, List.set_cons_zero, List.set_cons_succ]
                    refine wpAnyH_take (i := 5) (oi := ⟨some 71, .load 3 (.tmp 70), _, _, _, none⟩) (v := ?_) rfl (by kernel_rfl) (by kernel_rfl) (by kernel_rfl) (fun _ _ _ h => h) (Or.inl ⟨by rfl, ?_⟩) hHeld ?_
                    rotate_left
                    focus (intro z hSw; have q0 := (HX.out z hSw).made; have q1 := (HX.out z hSw).of; have q2 := (HX.out z hSw).origin; clear hSw; go_simp; try with_reducible rfl)
                    try simp only [Act.put, List.setIfInBounds_toArray, List.set_cons_zero, List.set_cons_succ]
                    refine wpAnyH_take (i := 7) (oi := ⟨some 73, .fieldAddr 56 (.tmp 6) 7, _, _, _, none⟩) (v := ?_) rfl (by kernel_rfl) (by kernel_rfl) (by kernel_rfl) (fun _ _ _ h => h) (Or.inl ⟨by rfl, ?_⟩) hHeld ?_
                    rotate_left
                    focus (intro z hSw; clear hSw; go_simp; try with_reducible rfl)
                    try simp only [Act.put, List.setIfInBounds_toArray, List.set_cons_zero, List.set_cons_succ]
                    refine wpAnyH_take (i := 8) (oi := ⟨some 74, .load 3 (.tmp 73), _, _, _, none⟩) (v := ?_) rfl (by kernel_rfl) (by kernel_rfl) (by kernel_rfl) (fun _ _ _ h => h) (Or.inl ⟨by rfl, ?_⟩) hHeld ?_
                    rotate_left
                    focus (intro z hSw; have q0 := (HX.out z hSw).made; have q1 := (HX.out z hSw).of; have q2 := (HX.out z hSw).origin; clear hSw; go_simp; try with_reducible rfl)
                    try simp only [Act.put, List.setIfInBounds_toArray, List.set_cons_zero, List.set_cons_succ]
                    refine wpAnyH_ready (rs := [3]) (by kernel_rfl) (by simp) ?_
                    refine AllReadyH.cons (o := ⟨some 69, .call { callee := .value (.func 64), args := #[.tmp 66, .tmp 68], argTypes := #[31, 3] }, _, _, _, none⟩) rfl (fun K hK => ?_) AllReadyH.nil
                    go_simp
                    refine (H5.out _ _ WBd.out.wr).mono ?_
                    rintro r w131 ⟨v131, rfl, h1, g1⟩
                    have WC1 := Lib.hid (WBd.out.next h1 g1)
                    clear h1 g1
                    refine hK.out _ _ ?_ (fun hNext => ?_)
                    · exact WC1.out.box
                    clear hK K hHeld
                    have hHeld := hNext
                    clear hNext
                    try simp only [Act.put, List.setIfInBounds_toArray, List.set_cons_zero, List.set_cons_succ]
                    refine wpAnyH_ready (rs := [6]) (by kernel_rfl) (by simp) ?_
                    refine AllReadyH.cons (o := ⟨some 72, .call { callee := .value (.func 64), args := #[.tmp 69, .tmp 71], argTypes := #[31, 3] }, _, _, _, none⟩) rfl (fun K hK => ?_) AllReadyH.nil
                    go_simp
                    refine (H6.out _ _ WC1.out.wr).mono ?_
                    rintro r w132 ⟨v132, rfl, h2, g2⟩
                    have WC2 := Lib.hid (WC1.out.next h2 g2)
                    clear h2 g2
                    refine hK.out _ _ ?_ (fun hNext => ?_)
                    · exact WC2.out.box
                    clear hK K hHeld
                    have hHeld := hNext
                    clear hNext
                    try simp only [Act.put, List.setIfInBounds_toArray, List.set_cons_zero, List.set_cons_succ]
                    refine wpAnyH_ready (rs := [9]) (by kernel_rfl) (by simp) ?_
                    refine AllReadyH.cons (o := ⟨some 75, .call { callee := .value (.func 64), args := #[.tmp 72, .tmp 74], argTypes := #[31, 3] }, _, _, _, none⟩) rfl (fun K hK => ?_) AllReadyH.nil
                    go_simp
                    refine (H7.out _ _ WC2.out.wr).mono ?_
                    rintro r w133 ⟨v133, rfl, h3, g3⟩
                    have WC3 := Lib.hid (WC2.out.next h3 g3)
                    clear h3 g3
                    refine hK.out _ _ ?_ (fun hNext => ?_)
                    · exact WC3.out.box
                    clear hK K hHeld
                    have hHeld := hNext
                    clear hNext
                    try simp only [Act.put, List.setIfInBounds_toArray, List.set_cons_zero, List.set_cons_succ]
                    refine wpAnyH_take (i := 10) (oi := ⟨some 4, .assign (.tmp 75), _, _, _, none⟩) (v := ?_) rfl (by kernel_rfl) (by kernel_rfl) (by kernel_rfl) (fun _ _ _ h => h) (Or.inl ⟨by rfl, ?_⟩) hHeld ?_
                    rotate_left
                    focus (intro z hSw; clear hSw; go_simp; try with_reducible rfl)
                    try simp only [Act.put, List.setIfInBounds_toArray, List.set_cons_zero, List.set_cons_succ]
                    refine wpAnyH_done (by kernel_rfl) ?_ _
                    have q8 := (HX.out _ WC3.out.box).quota
                    have q9 := (HX.out _ WC3.out.box).reserve
                    go_upto_region 6 with (at_builtin; refine wpList_appW BT (WC3.out.wr.keep0 ((Frm.refl [] _).alloc _)) (two_slB (b := UInt8.ofNat x.quota.toNat) (c := UInt8.ofNat x.reserve.toNat) (heap_alloc_at rfl) HK3.out HK4.out) HQ8.out rfl (.tmp 76) (.tmp 83) rfl rfl rfl ?_; intro v14 w14 h14 g14)
                    rw [HM8.out] at h14
                    have HNN := Lib.hid (HN.out _ _ h14)
                    clear h14 g14 q8 q9
                    go_wp2_with fail
                    go_roundw
                    case rel => exact HNN.out
                    case measure => simp [intOf]; omega
                  exact AllReadyH.nil
                exact AllReadyH.nil
              refine AllReadyH.cons (o := ⟨some 48, .buildSlice 31 1 #[(0, .tmp 47)], _, _, _, none⟩) rfl (fun K hK => ?_) ?_
              · refine step_b1 rfl (.tmp 47) rfl rfl (fun g8 w8b hg8 f8 n8 => ?_)
                refine hK.out _ _ ?_ (fun hNext => ?_)
                · exact f8.heap WB8.out.box (by simp)
                clear hK K hHeld
                have hHeld := hNext
                clear hNext
                try simp only [Act.put, List.setIfInBounds_toArray, List.set_cons_zero, List.set_cons_succ]
                refine wpAnyH_ready (rs := [3]) (by kernel_rfl) (by simp) ?_
                refine AllReadyH.cons (o := ⟨some 43, .call { callee := .value (.func 64), args := #[.tmp 40, .tmp 42], argTypes := #[31, 3] }, _, _, _, none⟩) rfl (fun K hK => ?_) ?_
                · have WBk := Lib.hid (WB8.out.keep0 f8)
                  have SDk := Lib.hid (SD8.out.keep0 f8)
                  go_simp
                  refine (H1.out _ _ WBk.out.wr).mono ?_
                  rintro r w3 ⟨v3, rfl, h3, g3⟩
                  have WBa := Lib.hid (WBk.out.next h3 g3)
                  have SDa := Lib.hid (SDk.out.next g3)
                  refine hK.out _ _ ?_ (fun hNext => ?_)
                  · exact WBa.out.box
                  clear hK K hHeld
                  have hHeld := hNext
                  clear hNext
                  try simp only [Act.put, List.setIfInBounds_toArray, List.set_cons_zero, List.set_cons_succ]
                  refine wpAnyH_ready (rs := [9]) (by kernel_rfl) (by simp) ?_
                  refine AllReadyH.cons (o := ⟨some 49, .call { callee := .builtin .append, args := #[.tmp 43, .tmp 48], argTypes := #[31, 31] }, _, _, _, none⟩) rfl (fun K hK => ?_) ?_
                  · have hg8b := (grew_heap g3 hg8 (fun hm => by obtain ⟨sp, ho⟩ := WB8.out.wr.own; have := ho.lt _ hm; omega)).1
                    refine step_appW BT (WBa.out.wr) (one_slB (b := UInt8.ofNat x.name.data.toList.length) hg8b HB9.out) HQ1.out rfl (.tmp 43) (.tmp 48) rfl rfl rfl ?_
                    intro v9 w9 h9 g9
                    rw [HM1.out] at h9
                    have WB9 := Lib.hid ((WBa.out).next h9 g9)
                    have SD9 := Lib.hid ((SDa.out).next g9)
                    refine hK.out _ _ ?_ (fun hNext => ?_)
                    · exact WB9.out.box
                    clear hK K hHeld
                    have hHeld := hNext
                    clear hNext
                    try simp only [Act.put, List.setIfInBounds_toArray, List.set_cons_zero, List.set_cons_succ]
                    refine wpAnyH_take (i := 10) (oi := ⟨some 4, .assign (.tmp 49), _, _, _, none⟩) (v := ?_) rfl (by kernel_rfl) (by kernel_rfl) (by kernel_rfl) (fun _ _ _ h => h) (Or.inl ⟨by rfl, ?_⟩) hHeld ?_
                    rotate_left
                    focus (intro z hSw; clear hSw; go_simp; try with_reducible rfl)
                    try simp only [Act.put, List.setIfInBounds_toArray, List.set_cons_zero, List.set_cons_succ]
                    refine wpAnyH_done (by kernel_rfl) ?_ _
                    clear h9 g9 h3 g3 hg8 f8 n8 WBa SDa WB8 SD8 hHeld
                    have q1 := (HX.out _ WB9.out.box).name
                    go_upto_region 11 with (first
                      | (at_builtin; refine wpList_appS BT WB9.out.wr (src_string Tryz.underlying9 _ _) HQ2.out rfl (.tmp 50) (.tmp 52) rfl rfl rfl ?_; intro v10 w10 h10 g10))
                    rw [HM2.out] at h10
                    have WB10 := Lib.hid (WB9.out.next h10 g10)
                    have SD10 := Lib.hid (SD9.out.next g10)
                    clear h10 g10 WB9 SD9
                    have q2 := (HX.out _ WB10.out.box).kind
                    have q3 := (HX.out _ WB10.out.box).size
                    go_upto_region 12 with (at_builtin; refine wpList_appW BT (WB10.out.wr.keep0 ((Frm.refl [] _).alloc _)) (two_slB (b := UInt8.ofNat x.kind.toNat) (c := UInt8.ofNat x.size.toNat) (heap_alloc_at rfl) HK1.out HK2.out) HQ3.out rfl (.tmp 54) (.tmp 61) rfl rfl rfl ?_; intro v11 w11 h11 g11)
                    rw [HM3.out] at h11
                    have WB11 := Lib.hid ((WB10.out.keep0 ((Frm.refl [] _).alloc _)).next h11 g11)
                    have SD11 := Lib.hid ((SD10.out.keep0 ((Frm.refl [] _).alloc _)).next g11)
                    clear h11 g11 q2 q3 WB10 SD10
                    obtain ⟨rsp, rsl⟩ := SD11.out.sl
                    have RSL := Lib.hid rsl
                    clear rsl
                    go_upto_region 13 with (at_builtin; refine wpList_appW BT WB11.out.wr RSL.out HQ4.out rfl (.tmp 63) (.tmp 64) rfl rfl rfl ?_; intro v12 w12 h12 g12)
                    rw [HM4.out] at h12
                    have WB12 := Lib.hid (WB11.out.next h12 g12)
                    clear h12 g12 WB11 SD11 RSL
                    have WBd := Lib.hid (show Wb W w12.drew g6 OBJ v12 m4 from ⟨WB12.out.wr.keep0 ((Frm.refl [] _).drew), WB12.out.box, WB12.out.out⟩)
                    refine wp_region_held_drew (S := fun z => z.heap[g6]? = some OBJ) (by kernel_rfl) (WBd.out.box) (fun hHeld => ?_)
                    refine wpAnyH_take (i := 0) (oi := ⟨some 66, .move (.tmp 4), _, _, _, none⟩) (v := ?_) rfl (by kernel_rfl) (by kernel_rfl) (by kernel_rfl) (fun _ _ _ h => h) (Or.inl ⟨by rfl, ?_⟩) hHeld ?_
                    rotate_left
                    focus (intro z hSw; clear hSw; go_simp; try with_reducible rfl)
                    try simp only [Act.put, List.setIfInBounds_toArray, List.set_cons_zero, List.set_cons_succ]
                    refine wpAnyH_take (i := 1) (oi := ⟨some 67, .fieldAddr 56 (.tmp 6) 5, _, _, _, none⟩) (v := ?_) rfl (by kernel_rfl) (by kernel_rfl) (by kernel_rfl) (fun _ _ _ h => h) (Or.inl ⟨by rfl, ?_⟩) hHeld ?_
                    rotate_left
                    focus (intro z hSw; clear hSw; go_simp; try with_reducible rfl)
                    try simp only [Act.put, List.setIfInBounds_toArray, List.set_cons_zero, List.set_cons_succ]
                    refine wpAnyH_take (i := 2) (oi := ⟨some 68, .load 3 (.tmp 67), _, _, _, none⟩) (v := ?_) rfl (by kernel_rfl) (by kernel_rfl) (by kernel_rfl) (fun _ _ _ h => h) (Or.inl ⟨by rfl, ?_⟩) hHeld ?_
                    rotate_left
                    focus (intro z hSw; have q0 := (HX.out z hSw).made; have q1 := (HX.out z hSw).of; have q2 := (HX.out z hSw).origin; clear hSw; go_simp; try with_reducible rfl)
                    try simp only [Act.put, List.setIfInBounds_toArray, List.set_cons_zero, List.set_cons_succ]
                    refine wpAnyH_take (i := 4) (oi := ⟨some 70, .fieldAddr 56 (.tmp 6) 6, _, _, _, none⟩) (v := ?_) rfl (by kernel_rfl) (by kernel_rfl) (by kernel_rfl) (fun _ _ _ h => h) (Or.inl ⟨by rfl, ?_⟩) hHeld ?_
                    rotate_left
                    focus (intro z hSw; clear hSw; go_simp; try with_reducible rfl)
                    try simp only [Act.put, List.setIfInBounds_toArray, List.set_cons_zero, List.set_cons_succ]
                    refine wpAnyH_take (i := 5) (oi := ⟨some 71, .load 3 (.tmp 70), _, _, _, none⟩) (v := ?_) rfl (by kernel_rfl) (by kernel_rfl) (by kernel_rfl) (fun _ _ _ h => h) (Or.inl ⟨by rfl, ?_⟩) hHeld ?_
                    rotate_left
                    focus (intro z hSw; have q0 := (HX.out z hSw).made; have q1 := (HX.out z hSw).of; have q2 := (HX.out z hSw).origin; clear hSw; go_simp; try with_reducible rfl)
                    try simp only [Act.put, List.setIfInBounds_toArray, List.set_cons_zero, List.set_cons_succ]
                    refine wpAnyH_take (i := 7) (oi := ⟨some 73, .fieldAddr 56 (.tmp 6) 7, _, _, _, none⟩) (v := ?_) rfl (by kernel_rfl) (by kernel_rfl) (by kernel_rfl) (fun _ _ _ h => h) (Or.inl ⟨by rfl, ?_⟩) hHeld ?_
                    rotate_left
                    focus (intro z hSw; clear hSw; go_simp; try with_reducible rfl)
                    try simp only [Act.put, List.setIfInBounds_toArray, List.set_cons_zero, List.set_cons_succ]
                    refine wpAnyH_take (i := 8) (oi := ⟨some 74, .load 3 (.tmp 73), _, _, _, none⟩) (v := ?_) rfl (by kernel_rfl) (by kernel_rfl) (by kernel_rfl) (fun _ _ _ h => h) (Or.inl ⟨by rfl, ?_⟩) hHeld ?_
                    rotate_left
                    focus (intro z hSw; have q0 := (HX.out z hSw).made; have q1 := (HX.out z hSw).of; have q2 := (HX.out z hSw).origin; clear hSw; go_simp; try with_reducible rfl)
                    try simp only [Act.put, List.setIfInBounds_toArray, List.set_cons_zero, List.set_cons_succ]
                    refine wpAnyH_ready (rs := [3]) (by kernel_rfl) (by simp) ?_
                    refine AllReadyH.cons (o := ⟨some 69, .call { callee := .value (.func 64), args := #[.tmp 66, .tmp 68], argTypes := #[31, 3] }, _, _, _, none⟩) rfl (fun K hK => ?_) AllReadyH.nil
                    go_simp
                    refine (H5.out _ _ WBd.out.wr).mono ?_
                    rintro r w131 ⟨v131, rfl, h1, g1⟩
                    have WC1 := Lib.hid (WBd.out.next h1 g1)
                    clear h1 g1
                    refine hK.out _ _ ?_ (fun hNext => ?_)
                    · exact WC1.out.box
                    clear hK K hHeld
                    have hHeld := hNext
                    clear hNext
                    try simp only [Act.put, List.setIfInBounds_toArray, List.set_cons_zero, List.set_cons_succ]
                    refine wpAnyH_ready (rs := [6]) (by kernel_rfl) (by simp) ?_
                    refine AllReadyH.cons (o := ⟨some 72, .call { callee := .value (.func 64), args := #[.tmp 69, .tmp 71], argTypes := #[31, 3] }, _, _, _, none⟩) rfl (fun K hK => ?_) AllReadyH.nil
                    go_simp
                    refine (H6.out _ _ WC1.out.wr).mono ?_
                    rintro r w132 ⟨v132, rfl, h2, g2⟩
                    have WC2 := Lib.hid (WC1.out.next h2 g2)
                    clear h2 g2
                    refine hK.out _ _ ?_ (fun hNext => ?_)
                    · exact WC2.out.box
                    clear hK K hHeld
                    have hHeld := hNext
                    clear hNext
                    try simp only [Act.put, List.setIfInBounds_toArray, List.set_cons_zero, List.set_cons_succ]
                    refine wpAnyH_ready (rs := [9]) (by kernel_rfl) (by simp) ?_
                    refine AllReadyH.cons (o := ⟨some 75, .call { callee := .value (.func 64), args := #[.tmp 72, .tmp 74], argTypes := #[31, 3] }, _, _, _, none⟩) rfl (fun K hK => ?_) AllReadyH.nil
                    go_simp
                    refine (H7.out _ _ WC2.out.wr).mono ?_
                    rintro r w133 ⟨v133, rfl, h3, g3⟩
                    have WC3 := Lib.hid (WC2.out.next h3 g3)
                    clear h3 g3
                    refine hK.out _ _ ?_ (fun hNext => ?_)
                    · exact WC3.out.box
                    clear hK K hHeld
                    have hHeld := hNext
                    clear hNext
                    try simp only [Act.put, List.setIfInBounds_toArray, List.set_cons_zero, List.set_cons_succ]
                    refine wpAnyH_take (i := 10) (oi := ⟨some 4, .assign (.tmp 75), _, _, _, none⟩) (v := ?_) rfl (by kernel_rfl) (by kernel_rfl) (by kernel_rfl) (fun _ _ _ h => h) (Or.inl ⟨by rfl, ?_⟩) hHeld ?_
                    rotate_left
                    focus (intro z hSw; clear hSw; go_simp; try with_reducible rfl)
                    try simp only [Act.put, List.setIfInBounds_toArray, List.set_cons_zero, List.set_cons_succ]
                    refine wpAnyH_done (by kernel_rfl) ?_ _
                    have q8 := (HX.out _ WC3.out.box).quota
                    have q9 := (HX.out _ WC3.out.box).reserve
                    go_upto_region 6 with (at_builtin; refine wpList_appW BT (WC3.out.wr.keep0 ((Frm.refl [] _).alloc _)) (two_slB (b := UInt8.ofNat x.quota.toNat) (c := UInt8.ofNat x.reserve.toNat) (heap_alloc_at rfl) HK3.out HK4.out) HQ8.out rfl (.tmp 76) (.tmp 83) rfl rfl rfl ?_; intro v14 w14 h14 g14)
                    rw [HM8.out] at h14
                    have HNN := Lib.hid (HN.out _ _ h14)
                    clear h14 g14 q8 q9
                    go_wp2_with fail
                    go_roundw
                    case rel => exact HNN.out
                    case measure => simp [intOf]; omega
                  exact AllReadyH.nil
                exact AllReadyH.nil
              exact AllReadyH.nil
            · obtain rfl : k = t.recs.length := by omega
              rw [List.take_length] at hW
              have W5 := Lib.hid hW
              have c2 := (HT.out _ hW.frm).kind
              have c3 := (HT.out _ hW.frm).dev
              clear hW
              go_upto_region 16 with (at_builtin; refine wpList_appW BT (W5.out.keep0 ((Frm.refl [] _).alloc _)) (two_slB (b := UInt8.ofNat t.cur.kind.toNat) (c := UInt8.ofNat t.cur.dev.toNat) (heap_alloc_at rfl) KC1.out KC2.out) QC1.out rfl (.tmp 85) (.tmp 94) rfl rfl rfl ?_; intro v15 w15 h15 g15)
              rw [HA2b.out] at h15
              have W15 := Lib.hid (h15.keep0 ((Frm.refl [] _).drew))
              clear h15 g15 c2 c3 W5
              refine wp_region_held_drew (S := fun z => Frm [] W z) (by kernel_rfl) (W15.out.frm) (fun hHeld => ?_)
              refine wpAnyH_take (i := 0) (oi := ⟨some 96, .move (.tmp 4), _, _, _, none⟩) (v := ?_) rfl (by kernel_rfl) (by kernel_rfl) (by kernel_rfl) (fun _ _ _ h => h) (Or.inl ⟨by rfl, ?_⟩) hHeld ?_
              rotate_left
              focus (intro z hSw; clear hSw; go_simp; try with_reducible rfl)
              try simp only [Act.put, List.setIfInBounds_toArray, List.set_cons_zero, List.set_cons_succ]
              refine wpAnyH_take (i := 1) (oi := ⟨some 97, .fieldAddr 27 (.tmp 1) 2, _, _, _, none⟩) (v := ?_) rfl (by kernel_rfl) (by kernel_rfl) (by kernel_rfl) (fun _ _ _ h => h) (Or.inl ⟨by rfl, ?_⟩) hHeld ?_
              rotate_left
              focus (intro z hSw; clear hSw; go_simp; try with_reducible rfl)
              try simp only [Act.put, List.setIfInBounds_toArray, List.set_cons_zero, List.set_cons_succ]
              refine wpAnyH_take (i := 2) (oi := ⟨some 98, .fieldAddr 24 (.tmp 97) 2, _, _, _, none⟩) (v := ?_) rfl (by kernel_rfl) (by kernel_rfl) (by kernel_rfl) (fun _ _ _ h => h) (Or.inl ⟨by rfl, ?_⟩) hHeld ?_
              rotate_left
              focus (intro z hSw; clear hSw; go_simp; try with_reducible rfl)
              try simp only [Act.put, List.setIfInBounds_toArray, List.set_cons_zero, List.set_cons_succ]
              refine wpAnyH_take (i := 3) (oi := ⟨some 99, .load 3 (.tmp 98), _, _, _, none⟩) (v := ?_) rfl (by kernel_rfl) (by kernel_rfl) (by kernel_rfl) (fun _ _ _ h => h) (Or.inl ⟨by rfl, ?_⟩) hHeld ?_
              rotate_left
              focus (intro z hSw; have q0 := (HT.out z hSw).at_; have q1 := (HT.out z hSw).txg; clear hSw; go_simp; try with_reducible rfl)
              try simp only [Act.put, List.setIfInBounds_toArray, List.set_cons_zero, List.set_cons_succ]
              refine wpAnyH_take (i := 5) (oi := ⟨some 101, .fieldAddr 27 (.tmp 1) 2, _, _, _, none⟩) (v := ?_) rfl (by kernel_rfl) (by kernel_rfl) (by kernel_rfl) (fun _ _ _ h => h) (Or.inl ⟨by rfl, ?_⟩) hHeld ?_
              rotate_left
              focus (intro z hSw; clear hSw; go_simp; try with_reducible rfl)
              try simp only [Act.put, List.setIfInBounds_toArray, List.set_cons_zero, List.set_cons_succ]
              refine wpAnyH_take (i := 6) (oi := ⟨some 102, .fieldAddr 24 (.tmp 101) 3, _, _, _, none⟩) (v := ?_) rfl (by kernel_rfl) (by kernel_rfl) (by kernel_rfl) (fun _ _ _ h => h) (Or.inl ⟨by rfl, ?_⟩) hHeld ?_
              rotate_left
              focus (intro z hSw; clear hSw; go_simp; try with_reducible rfl)
              try simp only [Act.put, List.setIfInBounds_toArray, List.set_cons_zero, List.set_cons_succ]
              refine wpAnyH_take (i := 7) (oi := ⟨some 103, .load 3 (.tmp 102), _, _, _, none⟩) (v := ?_) rfl (by kernel_rfl) (by kernel_rfl) (by kernel_rfl) (fun _ _ _ h => h) (Or.inl ⟨by rfl, ?_⟩) hHeld ?_
              rotate_left
              focus (intro z hSw; have q0 := (HT.out z hSw).at_; have q1 := (HT.out z hSw).txg; clear hSw; go_simp; try with_reducible rfl)
              try simp only [Act.put, List.setIfInBounds_toArray, List.set_cons_zero, List.set_cons_succ]
              refine wpAnyH_ready (rs := [4]) (by kernel_rfl) (by simp) ?_
              refine AllReadyH.cons (o := ⟨some 100, .call { callee := .value (.func 64), args := #[.tmp 96, .tmp 99], argTypes := #[31, 3] }, _, _, _, none⟩) rfl (fun K hK => ?_) AllReadyH.nil
              go_simp
              refine (H3.out W _ _ W15.out).mono ?_
              rintro r w16 ⟨v16, rfl, h16, g16⟩
              have X1 := Lib.hid h16
              clear h16 g16
              refine hK.out _ _ ?_ (fun hNext => ?_)
              · exact X1.out.frm
              clear hK K hHeld
              have hHeld := hNext
              clear hNext
              try simp only [Act.put, List.setIfInBounds_toArray, List.set_cons_zero, List.set_cons_succ]
              refine wpAnyH_ready (rs := [8]) (by kernel_rfl) (by simp) ?_
              refine AllReadyH.cons (o := ⟨some 104, .call { callee := .value (.func 64), args := #[.tmp 100, .tmp 103], argTypes := #[31, 3] }, _, _, _, none⟩) rfl (fun K hK => ?_) AllReadyH.nil
              go_simp
              refine (H4.out W _ _ X1.out).mono ?_
              rintro r w16b ⟨v16b, rfl, h16, g16⟩
              have X2 := Lib.hid h16
              clear h16 g16
              refine hK.out _ _ ?_ (fun hNext => ?_)
              · exact X2.out.frm
              clear hK K hHeld
              have hHeld := hNext
              clear hNext
              try simp only [Act.put, List.setIfInBounds_toArray, List.set_cons_zero, List.set_cons_succ]
              refine wpAnyH_take (i := 9) (oi := ⟨some 4, .assign (.tmp 104), _, _, _, none⟩) (v := ?_) rfl (by kernel_rfl) (by kernel_rfl) (by kernel_rfl) (fun _ _ _ h => h) (Or.inl ⟨by rfl, ?_⟩) hHeld ?_
              rotate_left
              focus (intro z hSw; clear hSw; go_simp; try with_reducible rfl)
              try simp only [Act.put, List.setIfInBounds_toArray, List.set_cons_zero, List.set_cons_succ]
              refine wpAnyH_done (by kernel_rfl) ?_ _
              have c6 := (HT.out _ X2.out.frm).lives
              go_upto_region 18 with (at_builtin; refine wpList_appW BT (X2.out.keep0 ((Frm.refl [] _).alloc _)) (one_slB (b := UInt8.ofNat t.lives.length) (heap_alloc_at rfl) KL.out) QC4.out rfl (.tmp 105) (.tmp 110) rfl rfl rfl ?_; intro v17 w17 h17 g17)
              rw [HA5e.out] at h17
              have W17 := Lib.hid h17
              clear h17 g17 c6
              go_upto_region 19 with (fail)
              generalize wr = wrA at *
              go_loopw [4, 9] (DocLiv W A5 t.lives) (fun _ c _ => t.lives.length - (intOf c).toNat)
              case atStart => exact ⟨0, Nat.zero_le _, rfl, by simpa using W17.out⟩
              case round =>
                obtain ⟨k, hk, rfl, hW⟩ := hrel
                have c6 := (HT.out _ hW.frm).lives
                by_cases hkl : k < t.lives.length
                · have hkl9 : (k : Int) < (t.lives.length : Int) := by omega
                  obtain ⟨b, off, rfl⟩ := HLV.out.at (by omega)
                  have c0 := cellI (HLV.out.keep0 hW.frm) k hkl
                  have hlen : (A5 ++ (t.lives.take k).flatMap fun n => be4 n.toNat).length ≤ 900000 := by
                    have h2 := HA5.out
                    rw [List.length_append, liv_len, List.length_take]
                    have := HLL.out
                    omega
                  have hfin : (A5 ++ (t.lives.take k).flatMap fun n => be4 n.toNat) ++ be4 (t.lives[k]).toNat = A5 ++ (t.lives.take (k + 1)).flatMap fun n => be4 n.toNat := by
                    rw [List.take_succ_eq_append_getElem hkl, List.flatMap_append, List.append_assoc]
                    simp [List.flatMap_cons]
                  have hb := HLX.out _ (List.getElem_mem hkl)
                  have HRC := Lib.hid (fourDW W _ _ t.lives[k] wr hW hlen (by omega))
                  rw [hfin] at HRC
                  have HN := Lib.hid (show ∀ z v', Wr W z v' (A5 ++ (t.lives.take (k + 1)).flatMap fun n => be4 n.toNat) → DocLiv W A5 t.lives v' (.int .i64 ((k : Int) + 1)) z from fun z v' h => ⟨k + 1, by omega, by go_num, h⟩)
                  clear hlen hfin hW hb
                  generalize (A5 ++ (t.lives.take (k + 1)).flatMap fun n => be4 n.toNat) = l3 at *
                  generalize (A5 ++ (t.lives.take k).flatMap fun n => be4 n.toNat) = l2 at *
                  generalize t.lives[k] = x at *
                  go_wp2_with (go_at_call 64; refine HRC.out.mono ?_; rintro e w5 ⟨v5, rfl, h5, g5⟩; have N5 := Lib.hid (HN.out _ _ h5); clear h5 g5)
                  go_roundw
                  case rel => exact N5.out
                  case measure => simp [intOf]; omega
                · obtain rfl : k = t.lives.length := by omega
                  rw [List.take_length] at hW
                  have W9 := Lib.hid hW
                  clear hW
                  go_wp2_with fail
                  go_ret2
                  exact HFIN.out _ _ W9.out
        exact AllReadyH.nil
      exact AllReadyH.nil
    exact AllReadyH.nil
end Go.Proofs.YtljhanhipmnioaaGreat.Rd
