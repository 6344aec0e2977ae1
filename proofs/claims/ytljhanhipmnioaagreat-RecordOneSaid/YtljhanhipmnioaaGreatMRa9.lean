/-
  The reader of the program: its end. No conditions but those that each theorem names. The reader of the program: what is told. No conditions but those that each theorem names. The reader of the program: lives. No conditions but those that each theorem names. The reader of the program: records. No conditions but those that each theorem names. The program reads a table. No conditions but those that each theorem names. Same of tables. No conditions but those that each theorem names. The examples of the chapter: tables. No conditions but those that each theorem names. The examples of the chapter: awake. No conditions but those that each theorem names. Contract of OverAddrs. No conditions but those that each theorem names. A table is written over. No conditions but those that each theorem names.
-/
import Derived.Test.YtljhanhipmnioaaGreatMRa1
import Derived.Test.YtljhanhipmnioaaGreatMRa2
import Derived.Test.YtljhanhipmnioaaGreatMRa3
import Derived.Test.YtljhanhipmnioaaGreatMRa4
import Derived.Test.YtljhanhipmnioaaGreatMRa5
import Derived.Test.YtljhanhipmnioaaGreatMRa6
import Derived.Test.YtljhanhipmnioaaGreatMRa7
import Derived.Test.YtljhanhipmnioaaGreatMRa8
import Derived.OrdersHeld
import Derived.StillTailTactics
import Derived.Lib.Hide
import Derived.WalkKit
import Derived.WalkSpells
import Derived.WalkLawsBesides
import Derived.Deep.AppendSrc
import Derived.Laws.CopyOwn
import Derived.Laws.BytesArg
import Derived.Carry
import Derived.Laws.BytesString
import Derived.Deep.SlicePairs
import Derived.Deep.Cut
import Derived.Test.YtljhanhipmnioaaGreatChecked
import Derived.ChangeKeysEq
import Derived.Deep.MidRow
import Derived.Deep.RegionHeld3
import Derived.OpenShut
import Derived.WalkHide
import Derived.IntWalk
import Derived.Deep.RegionLaw
import Derived.Deep.RegionWith
import Derived.Deep.QuietTactic
import Derived.BigQuiet
import Derived.Deep.CutBlock
import Derived.Deep.DeepCutAuto
import Derived.Deep.Slices
import Derived.Defers
import Derived.Recover
import Derived.Deep.WholeRow
import Derived.Lib.Bytealg
import Derived.Lib.TrimUEq
import Derived.Lib.MinMaxS
import Derived.LaidEqlPtr
import Derived.Lib.OthersKept
import Derived.Deep.Draws
import Derived.WalkMore
import Derived.Deep.LoopGhost
import Derived.Lib.BufferWrite
import Derived.Lib.UnsafeStr
import Derived.Laws.MakeOwn
import Derived.Laws.Strings3
import Derived.BigRegion
import Derived.Lib.Walk
import Derived.Great.Walk
namespace Go.Proofs.YtljhanhipmnioaaGreat.Rd
open Go.RowKit
set_option linter.unusedVariables false
set_option linter.unusedSimpArgs false
set_option maxRecDepth 100000

open Pt (Pt may enc readPt readE zeroPt be4 be1 pc pv PtV SlA OwnA BT wpList_load_g heap_alloc_at lst_slB one_slB Ext Grew exec_slice_lh yieldsIf_ld)
open Kr (OwnE SlE Enco RowTys)

/-- A reader that has come to its end: its fault. -/
def EndS (w : World) (g N : Nat) (l : List UInt8) (e a : Int) : Prop := ∃ a1 c1 vr, RgB w g (.slice a1 l.length c1) vr e a ∧ Rb N w (.slice a1 l.length c1) l
def endE (l : List UInt8) (at_ : Nat) (sh : Bool) : Int := if sh = true then 4 else if at_ < l.length then 4 else 0
def endA (l : List UInt8) (at_ : Nat) (sh : Bool) : Int := if sh = true then l.length else if at_ < l.length then at_ else 0
set_option maxHeartbeats 4000000 in
theorem end_pr (g N : Nat) (l : List UInt8) (at_ : Nat) (sh : Bool) (w : World) (h : RgS w g N l at_ sh) : Calls Tryz.prog 82 #[.pointer (some ⟨g, 0, none⟩)] w fun r w' => r = .returned (.pointer (some ⟨g, 0, none⟩)) ∧ Frm [g] w w' ∧ EndS w' g N l (endE l at_ sh) (endA l at_ sh) := by
  obtain ⟨a1, c1, a2, c2, h1, h2, h3⟩ := h.blkv
  have hl9 : (l.length : Int) ≤ 1000000 := by have := h.small; omega
  have hr9 : ((l.length - at_ : Nat) : Int) ≤ 1000000 := by have := h.small; omega
  have HLE := Lib.hid h.le
  have HNG := Lib.hid h.ng
  have H1 := Lib.hid h1
  have H2 := Lib.hid h2
  have k0 := h1.c0
  have k1 := h1.c1
  obtain ⟨E, hE⟩ : ∃ E, E = endE l at_ sh := ⟨_, rfl⟩
  obtain ⟨A, hA⟩ : ∃ A, A = endA l at_ sh := ⟨_, rfl⟩
  rw [← hE, ← hA]
  have HE := Lib.hid (And.intro hE hA)
  clear hE hA h1 h2 h3 h
  go_enter Tryz.func82, Tryz.ntmps82
  go_upto_region 1 with (fail)
  go_still_tail 18, (by kernel_rfl)
  change wpList _ _ _ _ _ w.drew
  have fD : Frm [] w w.drew := (Frm.refl [] w).drew
  generalize w.drew = w1 at *
  go_wp2_with (go_at_call 150; refine (demand_any g _ _ _ _ _ _ _ w1 (H1.out.keep fD (by simp))).mono ?_; rintro r w2 ⟨rfl, f2, h2⟩)
  go_ret
  refine ⟨rfl, (fD.mono (by simp)).trans f2 (by simp), a1, c1, .slice a2 (l.length - at_) c2, ?_, (H2.out.keep fD (by simp)).keep f2 (by simpa using HNG.out)⟩
  have hle := HLE.out
  rw [HE.out.1, HE.out.2]
  unfold endE endA
  cases sh with
  | true => simpa using h2
  | false =>
    by_cases hq : at_ < l.length
    · have e : ((((l.length - at_ : Nat) : Int)) == 0) = false := by simp; omega
      have e2 : (l.length : Int) - ((l.length - at_ : Nat) : Int) = at_ := by omega
      rw [e, e2] at h2
      simpa [hq] using h2
    · have e : ((((l.length - at_ : Nat) : Int)) == 0) = true := by simp; omega
      rw [e] at h2
      simpa [hq] using h2
theorem begin_pr (N : Nat) (v : Value) (l : List UInt8) (w : World) (h : Rb N w v l) (hN : N ≤ w.heap.size) (hl : l.length ≤ 1000000) : Calls Tryz.prog 77 #[v] w fun r w' => r = .returned (.pointer (some ⟨w.heap.size, 0, none⟩)) ∧ Frm [] w w' ∧ RgS w' w.heap.size N l 0 false := by
  obtain ⟨a, c, rfl, _, _⟩ := h.form
  have H := Lib.hid h
  have HL := Lib.hid (And.intro hN hl)
  clear h hN hl
  go_enter Tryz.func77, Tryz.ntmps77
  go_wp2_with (fail)
  go_ret
  have f : Frm [] w (w.alloc (.cells #[.slice a l.length c, .slice a l.length c, .int .i64 0, .int .i64 0] 112)) := (Frm.refl [] w).alloc _
  exact ⟨rfl, f, ⟨a, c, a, c, heap_alloc_new _ _, H.out.keep f (by simp), H.out.keep f (by simp)⟩, Nat.zero_le _, HL.out.2, HL.out.1⟩
end Go.Proofs.YtljhanhipmnioaaGreat.Rd

namespace Go.Proofs.YtljhanhipmnioaaGreat.Rd
open Go.RowKit
set_option linter.unusedVariables false
set_option linter.unusedSimpArgs false
set_option maxRecDepth 100000

open Pt (Pt may enc readPt readE zeroPt be4 be1 pc pv PtV SlA OwnA BT wpList_load_g heap_alloc_at lst_slB one_slB Ext Grew exec_slice_lh yieldsIf_ld)
open Kr (OwnE SlE Enco RowTys)

set_option maxHeartbeats 4000000 in
theorem told_pr (g N gt : Nat) (vr vl : Value) (t : Tab) (l : List UInt8) (e a : Int) (w : World) (hE : EndS w g N l e a) (hB : TB w gt vr vl t) (hT : TabV w vr vl t) (hf : FitT t) (hNG : N ≤ g) : Calls Tryz.prog 83 #[.pointer (some ⟨g, 0, none⟩), .pointer (some ⟨gt, 0, none⟩)] w fun r w' => r = .returned (.pointer (some ⟨g, 0, none⟩)) ∧ Frm [g] w w' ∧ EndS w' g N l (if (mayT t = true ∧ encT t = l) ∨ e ≠ 0 then e else 2) (if (mayT t = true ∧ encT t = l) ∨ e ≠ 0 then a else 0) := by
  have HBY := Lib.hid (BytesT_any vr vl t w hT hf)
  have LT := Lib.hid hB.gets.all
  obtain ⟨a1, c1, vx, hG, hR⟩ := hE
  have HG := Lib.hid hG
  have HR := Lib.hid hR
  have HN := Lib.hid hNG
  obtain ⟨E, hE⟩ : ∃ E, E = if (mayT t = true ∧ encT t = l) ∨ e ≠ 0 then e else 2 := ⟨_, rfl⟩
  obtain ⟨A, hA⟩ : ∃ A, A = if (mayT t = true ∧ encT t = l) ∨ e ≠ 0 then a else 0 := ⟨_, rfl⟩
  rw [← hE, ← hA]
  have HE := Lib.hid (And.intro hE hA)
  clear hE hA hG hR hT hf hB hNG
  unfold BytesT at HBY
  cases hm : mayT t with
  | true =>
    rw [(packT_yes hm).1, (packT_yes hm).2] at HBY
    have HM := Lib.hid hm
    clear hm
    go_enter Tryz.func83, Tryz.ntmps83
    go_upto_region 2 with (first
      | ((with_reducible (show wpList _ _ _ (Oper.mk _ (Op.load 27 _) _ _ _ _ :: _) _ _)); refine wpList_load_g (by rfl) 27 _ rfl _ rfl LT.out ?_)
      | (go_at_call 17; refine HBY.out.mono ?_; rintro r w1 ⟨xa, xc, xsp, rfl, ox, f1, n1⟩))
    have G1 := Lib.hid (HG.out.keep f1 (by simp))
    have R1 := Lib.hid (HR.out.keep f1 (by simp))
    have k0 := G1.out.c0
    obtain ⟨rsp, rs, _⟩ := id R1.out
    go_wp2_with (first
      | (go_at_call 151; refine (Pt.bytesEqual_any _ _ _ _ _ _ w1 ox.sl rs).mono ?_; rintro r w2 ⟨rfl, rfl⟩)
      | (go_at_call 150; refine (demand_any g _ _ _ _ _ _ _ _ G1.out).mono ?_; rintro r w3 ⟨rfl, f3, h3⟩))
    go_ret
    refine ⟨rfl, (f1.mono (by simp)).trans f3 (by simp), a1, c1, vx, ?_, R1.out.keep f3 (by simpa using HN.out)⟩
    rw [HE.out.1, HE.out.2]
    simpa [HM.out] using h3
  | false =>
    rw [(packT_no hm).1, (packT_no hm).2] at HBY
    have HM := Lib.hid hm
    clear hm
    go_enter Tryz.func83, Tryz.ntmps83
    go_upto_region 2 with (first
      | ((with_reducible (show wpList _ _ _ (Oper.mk _ (Op.load 27 _) _ _ _ _ :: _) _ _)); refine wpList_load_g (by rfl) 27 _ rfl _ rfl LT.out ?_)
      | (go_at_call 17; refine HBY.out.mono ?_; rintro r w1 ⟨xa, xc, xsp, rfl, ox, f1, n1⟩))
    have G1 := Lib.hid (HG.out.keep f1 (by simp))
    have R1 := Lib.hid (HR.out.keep f1 (by simp))
    go_wp2_with (go_at_call 150; refine (demand_any g _ _ _ _ _ _ _ _ G1.out).mono ?_; rintro r w3 ⟨rfl, f3, h3⟩)
    go_ret
    refine ⟨rfl, (f1.mono (by simp)).trans f3 (by simp), a1, c1, vx, ?_, R1.out.keep f3 (by simpa using HN.out)⟩
    rw [HE.out.1, HE.out.2]
    simpa [HM.out] using h3
end Go.Proofs.YtljhanhipmnioaaGreat.Rd

namespace Go.Proofs.YtljhanhipmnioaaGreat.Rd
open Go.RowKit
set_option linter.unusedVariables false
set_option linter.unusedSimpArgs false
set_option maxRecDepth 100000

open Pt (Pt may enc readPt readE zeroPt be4 be1 pc pv PtV SlA OwnA BT wpList_load_g heap_alloc_at lst_slB one_slB Ext Grew exec_slice_lh yieldsIf_ld)
open Kr (OwnE SlE Enco RowTys)

/-- What the reading of lives tells, of the program. -/
def LvO (g N gt : Nat) (vr : Value) (t : Tab) (l : List UInt8) (at_ : Nat) (sh : Bool) (w : World) (r : Ending) (w' : World) : Prop :=
  r = .returned (.pointer (some ⟨g, 0, none⟩)) ∧ ∃ (vl : Value) (ys : List Nat) (sp : List Value) (n at1 at2 : Nat) (sh1 sh2 : Bool), Frm [g, gt] w w' ∧ TB w' gt vr vl ⟨t.next, t.recs, t.cur, ys.map Int.ofNat⟩ ∧ OwnE eI 1 3 w' vl (ys.map Int.ofNat) sp ∧ (∀ k ∈ blk vl, w.heap.size ≤ k) ∧ ys.length ≤ 255 ∧ RgS w' g N l at2 sh2 ∧ Runs (num 1) l at_ sh n at1 sh1 ∧ Runs (many (num 4) n) l at1 sh1 ys at2 sh2
def LvQ (w0 W : World) (g N gt : Nat) (vr : Value) (t : Tab) (l : List UInt8) (n at1 : Nat) (sh1 : Bool) (cv : Value) (wr : World) : Prop :=
  ∃ (i : Nat) (ys : List Nat) (sp : List Value) (at_ : Nat) (sh : Bool) (vl : Value), i ≤ n ∧ cv = .int .i64 i ∧ ys.length = i ∧ RgS wr g N l at_ sh ∧ TB wr gt vr vl ⟨t.next, t.recs, t.cur, ys.map Int.ofNat⟩ ∧ OwnE eI 1 3 wr vl (ys.map Int.ofNat) sp ∧ (∀ k ∈ blk vl, w0.heap.size ≤ k) ∧ Runs (many (num 4) i) l at1 sh1 ys at_ sh ∧ Frm [g, gt] w0 wr
set_option maxHeartbeats 8000000 in
theorem lives_pr (g N gt : Nat) (vr : Value) (t : Tab) (l : List UInt8) (at0 : Nat) (sh0 : Bool) (w : World) (h : RgS w g N l at0 sh0) (hb : TB w gt vr nilS t) (hl0 : t.lives = []) (hbg : gt ≠ g) (hNb : N ≤ gt) : Calls Tryz.prog 81 #[.pointer (some ⟨g, 0, none⟩), .pointer (some ⟨gt, 6, none⟩)] w (LvO g N gt vr t l at0 sh0 w) := by
  have f0 : Frm [] w (w.alloc (.cells #[.int .i64 0] 3)) := (Frm.refl [] w).alloc _
  have HB := Lib.hid (show gt ≠ g ∧ N ≤ gt ∧ N ≤ g ∧ g < w.heap.size ∧ gt < w.heap.size from ⟨hbg, hNb, h.ng, h.lt, hb.lt⟩)
  have H1 := Lib.hid (one_pr g N w.heap.size 0 #[.int .i64 0] 3 l at0 sh0 _ (h.keep f0 (by simp)) (heap_alloc_new _ _) rfl (by have := h.lt; omega) (by have := HB.out; omega))
  have B0 := Lib.hid (hb.keep0 f0)
  have F0 := Lib.hid f0
  have HL0 := Lib.hid hl0
  have u1 := Lib.hid (runs_num 1 l at0 sh0 h.le)
  have hq : bn (nxt l at0 1 sh0) < 256 := by have := bn_lt (nxt l at0 1 sh0); rw [nxt_len] at this; omega
  unfold SetP at H1
  clear h hb hl0 hbg hNb f0
  generalize bn (nxt l at0 1 sh0) = n at *
  generalize nAt l at0 1 sh0 = at1 at *
  generalize (!okN l at0 1 sh0) = sh1 at *
  have hn9 : (n : Int) < 256 := by omega
  go_enter Tryz.func81, Tryz.ntmps81
  go_upto_region 3 with (go_at_call 148; refine H1.out.mono ?_; rintro e w1 ⟨rfl, f1, t1, r1⟩)
  have n1 : w1.cell? ⟨w.heap.size, 0, none⟩ = some (.int .i64 n) := by rw [cell_of_heap t1]; rfl
  have R1 := Lib.hid r1
  have B1 := Lib.hid (B0.out.keep f1 (by have := HB.out; simp; omega))
  have F1 := Lib.hid (show Frm [g, gt] w w1 from (F0.out.mono (by simp)).trans f1 (fun k hk => by simp at hk; rcases hk with rfl | rfl <;> simp))
  clear f1 r1 t1 H1
  go_upto_region 4 with (fail)
  go_loopw [10] (LvQ w w1 g N gt vr t l n at1 sh1) (fun c _ => n - (intOf c).toNat)
  case atStart => exact ⟨0, [], [], at1, sh1, nilS, Nat.zero_le _, rfl, rfl, R1.out, by have := B1.out; unfold TB tc at *; simpa [HL0.out] using this, OwnE.nil _ _ _ _, by simp [nilS, blk], Runs.start R1.out.le, F1.out⟩
  case round =>
    obtain ⟨i, ys, sp, at_, sh, vl, hi, rfl, hy, hR, hB, hO, hv, hu, hF⟩ := hrel
    by_cases hin : i < n
    · have hin9 : (i : Int) < (n : Int) := by omega
      have fa : Frm [] wr (wr.alloc (.cells #[.int .i64 0] 3)) := (Frm.refl [] wr).alloc _
      have HV := Lib.hid hv
      have HY := Lib.hid hy
      have HLW := Lib.hid (show w.heap.size ≤ wr.heap.size from hF.size)
      have H4 := Lib.hid (four_pr g N wr.heap.size 0 #[.int .i64 0] 3 l at_ sh _ (hR.keep fa (by simp)) (heap_alloc_new _ _) rfl (by have := hR.lt; omega) (by have := HB.out; have := HLW.out; omega))
      have B2 := Lib.hid (hB.keep0 fa)
      have O2 := Lib.hid (hO.keep0 fa)
      have F2 := Lib.hid (hF.trans fa (by simp))
      have U2 := Lib.hid hu
      have u4 := Lib.hid (runs_num 4 l at_ sh hR.le)
      have OL := Lib.hid (show ∀ k ∈ blk vl, k < wr.heap.size from fun k hk => hO.lt k hk)
      unfold SetP at H4
      clear hR hB hO hv hu hF hy fa
      generalize bn (nxt l at_ 4 sh) = nv at *
      generalize nAt l at_ 4 sh = at2 at *
      generalize (!okN l at_ 4 sh) = sh2 at *
      go_upto_region 7 with (go_at_call 78; refine H4.out.mono ?_; rintro e w2 ⟨rfl, f2, t2, r2⟩)
      have B3 := Lib.hid ((B2.out.keep f2 (by have := HB.out; have := HLW.out; simp; omega)).keep0 (Frm.refl [] w2).drew)
      have O3 := Lib.hid ((O2.out.keep f2 (fun k hk hm => by have h1 := OL.out k hk; have h2 := HV.out k hk; have := HB.out; simp at hm; omega)).keep0 (Frm.refl [] w2).drew)
      have F3 := Lib.hid (show Frm [g, gt] w w2.drew from (F2.out.trans f2 (fun k hk => by simp at hk; rcases hk with rfl | rfl; exact .inl (by simp); exact .inr HLW.out)).trans (Frm.refl [] w2).drew (by simp))
      have U3 := Lib.hid (U2.out.snoc u4.out r2.le)
      have R3 := Lib.hid (r2.keep (Frm.refl [] w2).drew (by simp))
      have c0 : (w2.drew).cell? ⟨wr.heap.size, 0, none⟩ = some (.int .i64 nv) := ((Frm.refl [] w2).drew).cell (by rw [cell_of_heap t2]; rfl) (by simp)
      have q6 := B3.out.gets.lives
      have SZ := Lib.hid (show wr.heap.size < w2.drew.heap.size from Nat.lt_of_lt_of_le (lt_heap t2) ((Frm.refl [] w2).drew).size)
      clear f2 r2 t2 H4 B2 O2 F2 U2 u4
      have FA : Frm [] w2.drew (w2.drew.alloc (.cells #[.int .i64 nv] 3)) := (Frm.refl [] _).alloc _
      have S19 := Lib.hid (show SlE eI 1 (w2.drew.alloc (.cells #[.int .i64 nv] 3)) (.slice (some ⟨w2.drew.heap.size, 0, none⟩) 1 1) [(nv : Int)] [] from Kr.SlE.of_block (T := 3) encI (by simpa [Kr.flt, eI] using heap_alloc_new w2.drew (.cells #[.int .i64 nv] 3)) rfl (by decide))
      have O4 := Lib.hid (O3.out.keep0 FA)
      have B4 := Lib.hid (B3.out.keep0 FA)
      have q6b := B4.out.gets.lives
      have q6c : (w2.alloc (.cells #[.int .i64 nv] 3)).cell? ⟨gt, 6, none⟩ = some vl := q6b
      have HFA := Lib.hid FA
      have hl6 : (ys.map Int.ofNat).length + [(nv : Int)].length = ys.length + 1 := by simp
      clear FA
      generalize hgz : wr.heap.size = gl at *
      refine wp_region_held_drew (S := fun z => z.cell? ⟨gl, 0, none⟩ = some (.int .i64 nv)) (by kernel_rfl) (c0) (fun hHeld => ?_)
      refine wpAnyH_take (i := 0) (oi := ⟨some 14, .move (.tmp 1), _, _, _, none⟩) (v := ?_) rfl (by kernel_rfl) (by kernel_rfl) (by kernel_rfl) (fun _ _ _ h => h) (Or.inl ⟨by rfl, ?_⟩) hHeld ?_
      rotate_left
      focus (intro z hSw; clear hSw; go_simp; try with_reducible rfl)
      try simp only [Act.put, List.setIfInBounds_toArray, List.set_cons_zero, List.set_cons_succ]
      refine wpAnyH_take (i := 1) (oi := ⟨some 15, .move (.tmp 1), _, _, _, none⟩) (v := ?_) rfl (by kernel_rfl) (by kernel_rfl) (by kernel_rfl) (fun _ _ _ h => h) (Or.inl ⟨by rfl, ?_⟩) hHeld ?_
      rotate_left
      focus (intro z hSw; clear hSw; go_simp; try with_reducible rfl)
      try simp only [Act.put, List.setIfInBounds_toArray, List.set_cons_zero, List.set_cons_succ]
      refine wpAnyH_take (i := 2) (oi := ⟨some 16, .nilCheck (.tmp 15), _, _, _, none⟩) (v := ?_) rfl (by kernel_rfl) (by kernel_rfl) (by kernel_rfl) (fun _ _ _ h => h) (Or.inl ⟨by rfl, ?_⟩) hHeld ?_
      rotate_left
      focus (intro z hSw; clear hSw; go_simp; try with_reducible rfl)
      try simp only [Act.put, List.setIfInBounds_toArray, List.set_cons_zero, List.set_cons_succ]
      refine wpAnyH_take (i := 4) (oi := ⟨some 18, .load 3 (.tmp 6), _, _, _, none⟩) (v := ?_) rfl (by kernel_rfl) (by kernel_rfl) (by kernel_rfl) (fun _ _ _ h => h) (Or.inl ⟨by rfl, ?_⟩) hHeld ?_
      rotate_left
      focus (intro z hSw; have q := hSw; clear hSw; go_simp; try with_reducible rfl)
      try simp only [Act.put, List.setIfInBounds_toArray, List.set_cons_zero, List.set_cons_succ]
      refine wpAnyH_ready (rs := [3, 5]) (by kernel_rfl) (by simp) ?_
      refine AllReadyH.cons (o := ⟨some 17, .load 25 (.tmp 16), _, _, _, none⟩) rfl (fun K hK => ?_) ?_
      · go_simp
        refine hK.out _ _ ?_ (fun hNext => ?_)
        · exact hHeld
        clear hK K hHeld
        have hHeld := hNext
        clear hNext
        try simp only [Act.put, List.setIfInBounds_toArray, List.set_cons_zero, List.set_cons_succ]
        refine wpAnyH_ready (rs := [5]) (by kernel_rfl) (by simp) ?_
        refine AllReadyH.cons (o := ⟨some 19, .buildSlice 25 1 #[(0, .tmp 18)], _, _, _, none⟩) rfl (fun K hK => ?_) ?_
        · go_simp
          refine hK.out _ _ ?_ (fun hNext => ?_)
          · exact HFA.out.cell hHeld (by simp)
          clear hK K hHeld
          have hHeld := hNext
          clear hNext
          try simp only [Act.put, List.setIfInBounds_toArray, List.set_cons_zero, List.set_cons_succ]
          refine wpAnyH_ready (rs := [6]) (by kernel_rfl) (by simp) ?_
          refine AllReadyH.cons (o := ⟨some 20, .call { callee := .builtin .append, args := #[.tmp 17, .tmp 19], argTypes := #[25, 25] }, _, _, _, none⟩) rfl (fun K hK => ?_) ?_
          · refine Kr.step_append_e encI tysI O4.out S19.out (by simp; have := HY.out; omega) (by decide) rfl (.tmp 17) (.tmp 19) rfl rfl rfl ?_
            intro a6 c6 w6 sp6 o6 f6 n6
            rw [hl6] at o6 n6 ⊢
            have b6 := B4.out.keep f6 (fun hm => by have := HV.out _ hm; have := HB.out; omega)
            have z6 := frozen_of_heap b6 6
            have e6 := b6.gets.lives
            refine hK.out _ _ ?_ (fun hNext => ?_)
            · exact f6.cell hHeld (fun hm => by have hm2 : gl < gl := OL.out _ hm; omega)
            clear hK K hHeld
            have hHeld := hNext
            clear hNext
            try simp only [Act.put, List.setIfInBounds_toArray, List.set_cons_zero, List.set_cons_succ]
            refine wpAnyH_take (i := 7) (oi := ⟨some 21, .nilCheck (.tmp 14), _, _, _, none⟩) (v := ?_) rfl (by kernel_rfl) (by kernel_rfl) (by kernel_rfl) (fun _ _ _ h => h) (Or.inl ⟨by rfl, ?_⟩) hHeld ?_
            rotate_left
            focus (intro z hSw; clear hSw; go_simp; try with_reducible rfl)
            try simp only [Act.put, List.setIfInBounds_toArray, List.set_cons_zero, List.set_cons_succ]
            refine wpAnyH_ready (rs := [8]) (by kernel_rfl) (by simp) ?_
            refine AllReadyH.cons (o := ⟨none, .store 25 (.tmp 21) (.tmp 20), _, _, _, none⟩) rfl (fun K hK => ?_) ?_
            · go_simp
              refine hK.out _ _ ?_ (fun hNext => ?_)
              · exact ((Frm.refl [gt] w6).setCell _ _ (.inl (by simp))).cell hHeld (by have := HLW.out; have := HB.out; simp; omega)
              clear hK K hHeld
              have hHeld := hNext
              clear hNext
              try simp only [Act.put, List.setIfInBounds_toArray, List.set_cons_zero, List.set_cons_succ]
              refine wpAnyH_done (by kernel_rfl) ?_ _
              clear hHeld
              go_wp2_with (fail)
              go_roundw
              case rel =>
                have hset : Frm [gt] w6 (w6.setCell ⟨gt, 6, none⟩ (.slice a6 (ys.length + 1) c6)) := (Frm.refl [gt] w6).setCell _ _ (.inl (by simp))
                have hlo : ∀ j ∈ blk (.slice a6 (ys.length + 1) c6), w.heap.size ≤ j := fun j hj => by
                  rcases n6 j hj with h | h
                  · exact HV.out j h
                  · exact Nat.le_trans (Nat.le_trans F3.out.size HFA.out.size) h
                have hF6 : Frm [g, gt] w (w6.setCell ⟨gt, 6, none⟩ (.slice a6 (ys.length + 1) c6)) := ((F3.out.trans HFA.out (by simp)).trans f6 (fun j hj => .inr (HV.out j hj))).trans hset (by simp)
                refine ⟨i + 1, ys ++ [nv], sp6, at2, sh2, .slice a6 (ys.length + 1) c6, by omega, by go_num, by simp [HY.out], ?_, ?_, ?_, hlo, U3.out, hF6⟩
                · exact ((R3.out.keep HFA.out (by simp)).keep f6 (fun j hj => by have := HV.out j hj; have := HB.out; omega)).keep hset (by have := HB.out; simp; omega)
                · have := TB.setLives b6 (.slice a6 (ys.length + 1) c6) ((ys ++ [nv]).map Int.ofNat)
                  simpa using this
                · have := o6.keep hset (fun j hj hm => by have := hlo j hj; have := HB.out; simp at hm; omega)
                  simpa using this
              case measure => simp [intOf]; omega
            exact AllReadyH.nil
          exact AllReadyH.nil
        exact AllReadyH.nil
      refine AllReadyH.cons (o := ⟨some 19, .buildSlice 25 1 #[(0, .tmp 18)], _, _, _, none⟩) rfl (fun K hK => ?_) ?_
      · go_simp
        refine hK.out _ _ ?_ (fun hNext => ?_)
        · exact HFA.out.cell hHeld (by simp)
        clear hK K hHeld
        have hHeld := hNext
        clear hNext
        try simp only [Act.put, List.setIfInBounds_toArray, List.set_cons_zero, List.set_cons_succ]
        refine wpAnyH_ready (rs := [3]) (by kernel_rfl) (by simp) ?_
        refine AllReadyH.cons (o := ⟨some 17, .load 25 (.tmp 16), _, _, _, none⟩) rfl (fun K hK => ?_) ?_
        · go_simp
          refine hK.out _ _ ?_ (fun hNext => ?_)
          · exact hHeld
          clear hK K hHeld
          have hHeld := hNext
          clear hNext
          try simp only [Act.put, List.setIfInBounds_toArray, List.set_cons_zero, List.set_cons_succ]
          refine wpAnyH_ready (rs := [6]) (by kernel_rfl) (by simp) ?_
          refine AllReadyH.cons (o := ⟨some 20, .call { callee := .builtin .append, args := #[.tmp 17, .tmp 19], argTypes := #[25, 25] }, _, _, _, none⟩) rfl (fun K hK => ?_) ?_
          · refine Kr.step_append_e encI tysI O4.out S19.out (by simp; have := HY.out; omega) (by decide) rfl (.tmp 17) (.tmp 19) rfl rfl rfl ?_
            intro a6 c6 w6 sp6 o6 f6 n6
            rw [hl6] at o6 n6 ⊢
            have b6 := B4.out.keep f6 (fun hm => by have := HV.out _ hm; have := HB.out; omega)
            have z6 := frozen_of_heap b6 6
            have e6 := b6.gets.lives
            refine hK.out _ _ ?_ (fun hNext => ?_)
            · exact f6.cell hHeld (fun hm => by have hm2 : gl < gl := OL.out _ hm; omega)
            clear hK K hHeld
            have hHeld := hNext
            clear hNext
            try simp only [Act.put, List.setIfInBounds_toArray, List.set_cons_zero, List.set_cons_succ]
            refine wpAnyH_take (i := 7) (oi := ⟨some 21, .nilCheck (.tmp 14), _, _, _, none⟩) (v := ?_) rfl (by kernel_rfl) (by kernel_rfl) (by kernel_rfl) (fun _ _ _ h => h) (Or.inl ⟨by rfl, ?_⟩) hHeld ?_
            rotate_left
            focus (intro z hSw; clear hSw; go_simp; try with_reducible rfl)
            try simp only [Act.put, List.setIfInBounds_toArray, List.set_cons_zero, List.set_cons_succ]
            refine wpAnyH_ready (rs := [8]) (by kernel_rfl) (by simp) ?_
            refine AllReadyH.cons (o := ⟨none, .store 25 (.tmp 21) (.tmp 20), _, _, _, none⟩) rfl (fun K hK => ?_) ?_
            · go_simp
              refine hK.out _ _ ?_ (fun hNext => ?_)
              · exact ((Frm.refl [gt] w6).setCell _ _ (.inl (by simp))).cell hHeld (by have := HLW.out; have := HB.out; simp; omega)
              clear hK K hHeld
              have hHeld := hNext
              clear hNext
              try simp only [Act.put, List.setIfInBounds_toArray, List.set_cons_zero, List.set_cons_succ]
              refine wpAnyH_done (by kernel_rfl) ?_ _
              clear hHeld
              go_wp2_with (fail)
              go_roundw
              case rel =>
                have hset : Frm [gt] w6 (w6.setCell ⟨gt, 6, none⟩ (.slice a6 (ys.length + 1) c6)) := (Frm.refl [gt] w6).setCell _ _ (.inl (by simp))
                have hlo : ∀ j ∈ blk (.slice a6 (ys.length + 1) c6), w.heap.size ≤ j := fun j hj => by
                  rcases n6 j hj with h | h
                  · exact HV.out j h
                  · exact Nat.le_trans (Nat.le_trans F3.out.size HFA.out.size) h
                have hF6 : Frm [g, gt] w (w6.setCell ⟨gt, 6, none⟩ (.slice a6 (ys.length + 1) c6)) := ((F3.out.trans HFA.out (by simp)).trans f6 (fun j hj => .inr (HV.out j hj))).trans hset (by simp)
                refine ⟨i + 1, ys ++ [nv], sp6, at2, sh2, .slice a6 (ys.length + 1) c6, by omega, by go_num, by simp [HY.out], ?_, ?_, ?_, hlo, U3.out, hF6⟩
                · exact ((R3.out.keep HFA.out (by simp)).keep f6 (fun j hj => by have := HV.out j hj; have := HB.out; omega)).keep hset (by have := HB.out; simp; omega)
                · have := TB.setLives b6 (.slice a6 (ys.length + 1) c6) ((ys ++ [nv]).map Int.ofNat)
                  simpa using this
                · have := o6.keep hset (fun j hj hm => by have := hlo j hj; have := HB.out; simp at hm; omega)
                  simpa using this
              case measure => simp [intOf]; omega
            exact AllReadyH.nil
          exact AllReadyH.nil
        exact AllReadyH.nil
      exact AllReadyH.nil
    · obtain rfl : i = n := by omega
      have HR := Lib.hid hR
      have HB2 := Lib.hid hB
      have HO := Lib.hid hO
      have HV := Lib.hid hv
      have HU := Lib.hid hu
      have HF := Lib.hid hF
      clear hR hB hO hv hu hF
      go_wp2_with (fail)
      go_ret
      exact ⟨rfl, vl, ys, sp, _, at1, at_, sh1, sh, HF.out, HB2.out, HO.out, HV.out, by omega, HR.out, u1.out, HU.out⟩
end Go.Proofs.YtljhanhipmnioaaGreat.Rd

namespace Go.Proofs.YtljhanhipmnioaaGreat.Rd
open Go.RowKit
set_option linter.unusedVariables false
set_option linter.unusedSimpArgs false
set_option maxRecDepth 100000

open Pt (Pt may enc readPt readE zeroPt be4 be1 pc pv PtV SlA OwnA BT wpList_load_g heap_alloc_at lst_slB one_slB Ext Grew exec_slice_lh yieldsIf_ld)
open Kr (OwnE SlE Enco RowTys)

section
variable {ops : Array Oper} {o : Oper} {a : Act} {w : World} {K : Act → World → Prop} {Q : Exit → Act → World → Prop} {E : Prop}
theorem step_bs22 (hw : Region.wanted o (yielded ops a.tmps) = true) (len : Nat) (parts : Array (Nat × Operand)) (ho : o.op = .buildSlice 22 len parts) (cells : Array Value)
    (hf : Tryz.prog.builtSlice 56 len (parts.map fun (i, x) => (i, a.eval x)).toList = some cells) (h : K (a.put o.dst (.slice (some ⟨w.heap.size, 0, none⟩) len len)) (w.alloc (.cells cells 56))) :
    if Region.wanted o (yielded ops a.tmps) = true then Oper.wp Tryz.prog o a w K Q else E := by
  rw [if_pos hw]
  unfold Program.builtSlice at hf
  cases hie : Tryz.prog.info? 56 with
  | none => simp [hie] at hf
  | some ie =>
    simp only [hie] at hf
    cases hz : ie.zero with
    | none => simp [hz] at hf
    | some z =>
      simp only [hz] at hf
      by_cases hc : len * ie.size > 2 ^ 24 ∨ len * ie.size = 0
      · simp [hc] at hf
      · rw [if_neg hc] at hf
        exact wp_buildSlice 22 56 len parts ho cells ie z Tryz.underlying22 hie hz (fun h' => hc (Or.inl h')) (fun h' => hc (Or.inr h')) hf h
theorem step_rec1 (hg : o.guard = none) (p : Operand) (ho : o.op = .buildSlice 22 1 #[(0, p)]) {r : RowT} (hp : a.eval p = .agg r.1.toArray)
    (k : ∀ v' w', SlE eR 44 w' v' [r] [] → Frm [] w w' → (∀ i ∈ blk v', w.heap.size ≤ i ∧ i < w'.heap.size) → K (a.put o.dst v') w') : if Region.wanted o (yielded ops a.tmps) = true then Oper.wp Tryz.prog o a w K Q else E := by
  have f : Frm [] w (w.alloc (.cells r.1.toArray 56)) := (Frm.refl [] w).alloc _
  exact step_bs22 (by simp [Region.wanted, hg]) 1 _ ho r.1.toArray (by simp only [List.map_toArray, List.map_cons, List.map_nil, hp]; exact built56 r.2.1) (k _ _ (Kr.SlE.of_block (T := 56) encRow (by rw [Kr.flt_one]; exact heap_alloc_new _ _) rfl (by decide)) f (fun i hi => by simp [blk] at hi; subst hi; simp))
end
/-- What the reading of records tells, of the program. -/
def RcO (g N gt : Nat) (vl : Value) (t : Tab) (l : List UInt8) (at_ : Nat) (sh : Bool) (w : World) (r : Ending) (w' : World) : Prop :=
  r = .returned (.pointer (some ⟨g, 0, none⟩)) ∧ ∃ (vr : Value) (xs : List (Rec × Bool)) (rs : List RowT) (B : List Nat) (n at1 at2 : Nat) (sh1 sh2 : Bool), Frm [g, gt] w w' ∧ TB w' gt vr vl ⟨t.next, xs.map (·.1), t.cur, t.lives⟩ ∧ Tl w w' vr (xs.map (·.1)) rs B ∧ (∀ x ∈ xs, x.1.root.ads.length ≤ 3 ∧ x.1.name.size ≤ 255) ∧ xs.length ≤ 255 ∧ RgS w' g N l at2 sh2 ∧ Runs (num 1) l at_ sh n at1 sh1 ∧ Runs (many recP n) l at1 sh1 xs at2 sh2
def RcQ (w0 W : World) (g N gt : Nat) (vl : Value) (t : Tab) (l : List UInt8) (n at1 : Nat) (sh1 : Bool) (cv : Value) (wr : World) : Prop :=
  ∃ (i : Nat) (xs : List (Rec × Bool)) (rs : List RowT) (B : List Nat) (at_ : Nat) (sh : Bool) (vr : Value), i ≤ n ∧ cv = .int .i64 i ∧ xs.length = i ∧ RgS wr g N l at_ sh ∧ TB wr gt vr vl ⟨t.next, xs.map (·.1), t.cur, t.lives⟩ ∧ Tl w0 wr vr (xs.map (·.1)) rs B ∧ Runs (many recP i) l at1 sh1 xs at_ sh ∧ (∀ x ∈ xs, x.1.root.ads.length ≤ 3 ∧ x.1.name.size ≤ 255) ∧ Frm [g, gt] w0 wr
set_option maxHeartbeats 16000000 in
theorem records_pr (g N gt : Nat) (vl : Value) (t : Tab) (l : List UInt8) (at0 : Nat) (sh0 : Bool) (w : World) (h : RgS w g N l at0 sh0) (hb : TB w gt nilS vl t) (hr0 : t.recs = []) (hbg : gt ≠ g) (hNb : N ≤ gt) : Calls Tryz.prog 79 #[.pointer (some ⟨g, 0, none⟩), .pointer (some ⟨gt, 1, none⟩)] w (RcO g N gt vl t l at0 sh0 w) := by
  have f0 : Frm [] w (w.alloc (.cells #[.int .i64 0] 3)) := (Frm.refl [] w).alloc _
  have HB := Lib.hid (show gt ≠ g ∧ N ≤ gt ∧ N ≤ g ∧ g < w.heap.size ∧ gt < w.heap.size from ⟨hbg, hNb, h.ng, h.lt, hb.lt⟩)
  have H1 := Lib.hid (one_pr g N w.heap.size 0 #[.int .i64 0] 3 l at0 sh0 _ (h.keep f0 (by simp)) (heap_alloc_new _ _) rfl (by have := h.lt; omega) (by have := HB.out; omega))
  have B0 := Lib.hid (hb.keep0 f0)
  have F0 := Lib.hid f0
  have HR0 := Lib.hid hr0
  have u1 := Lib.hid (runs_num 1 l at0 sh0 h.le)
  have hq : bn (nxt l at0 1 sh0) < 256 := by have := bn_lt (nxt l at0 1 sh0); rw [nxt_len] at this; omega
  unfold SetP at H1
  clear h hb hr0 hbg hNb f0
  generalize bn (nxt l at0 1 sh0) = n at *
  generalize nAt l at0 1 sh0 = at1 at *
  generalize (!okN l at0 1 sh0) = sh1 at *
  have hn9 : (n : Int) < 256 := by omega
  go_enter Tryz.func79, Tryz.ntmps79
  go_upto_region 3 with (go_at_call 148; refine H1.out.mono ?_; rintro e w1 ⟨rfl, f1, t1, r1⟩)
  have n1 : w1.cell? ⟨w.heap.size, 0, none⟩ = some (.int .i64 n) := by rw [cell_of_heap t1]; rfl
  have R1 := Lib.hid r1
  have B1 := Lib.hid (B0.out.keep f1 (by have := HB.out; simp; omega))
  have F1 := Lib.hid (show Frm [g, gt] w w1 from (F0.out.mono (by simp)).trans f1 (fun k hk => by simp at hk; rcases hk with rfl | rfl <;> simp))
  clear f1 r1 t1 H1
  go_upto_region 4 with (fail)
  go_loopw [10] (RcQ w w1 g N gt vl t l n at1 sh1) (fun c _ => n - (intOf c).toNat)
  case atStart => exact ⟨0, [], [], [], at1, sh1, nilS, Nat.zero_le _, rfl, rfl, R1.out, by have := B1.out; unfold TB tc at *; simpa [HR0.out] using this, (Tl.nil w1).base F1.out.size, Runs.start R1.out.le, by simp, F1.out⟩
  case round =>
    obtain ⟨i, xs, rs, B, at_, sh, vr, hi, rfl, hy, hR, hB, hT, hu, hx, hF⟩ := hrel
    by_cases hin : i < n
    · have hin9 : (i : Int) < (n : Int) := by omega
      have fa : Frm [] wr (wr.alloc (.cells (rc nilS zeroR).toArray 56)) := (Frm.refl [] wr).alloc _
      have HX := Lib.hid hx
      have HY := Lib.hid hy
      have HLW := Lib.hid (show w.heap.size ≤ wr.heap.size from hF.size)
      have H4 := Lib.hid (record_pr g N wr.heap.size l at_ sh _ (hR.keep fa (by simp)) (RB.new zeroR_s) (by have := hR.lt; omega) (by have := HB.out; have := HLW.out; omega))
      have B2 := Lib.hid (hB.keep0 fa)
      have T2 := Lib.hid (hT.keep0 fa)
      have F2 := Lib.hid (hF.trans fa (by simp))
      have U2 := Lib.hid hu
      have OL := Lib.hid (show ∀ k ∈ B, w.heap.size ≤ k ∧ k < wr.heap.size from hT.lo)
      have OV := Lib.hid (show ∀ k ∈ blk vr, k ∈ B from hT.inv)
      unfold RecO at H4
      clear hR hB hT hu hF hy hx fa
      go_upto_region 7 with (first
        | ((with_reducible (show wpList _ _ _ (Oper.mk (some 6) (Op.alloc 56) _ _ _ _ :: _) _ _)); refine wpList_val rfl (exec_alloc56 rfl _) ?_)
        | (go_at_call 149; refine H4.out.mono ?_; rintro e w2 ⟨rfl, a2, c2, sp2, x, od, at2, sh2, f2, t2, ow2, fit2, new2, r2, run2⟩))
      have HS := Lib.hid t2.2
      have B3 := Lib.hid ((B2.out.keep f2 (by have := HB.out; have := HLW.out; simp; omega)).keep0 (Frm.refl [] w2).drew)
      have T3 := Lib.hid ((T2.out.keep f2 (fun k hk hm => by have h1 := OL.out k hm; have := HB.out; simp at hk; omega)).keep0 (Frm.refl [] w2).drew)
      have F3 := Lib.hid (show Frm [g, gt] w w2.drew from (F2.out.trans f2 (fun k hk => by simp at hk; rcases hk with rfl | rfl; exact .inl (by simp); exact .inr HLW.out)).trans (Frm.refl [] w2).drew (by simp))
      have U3 := Lib.hid (U2.out.snoc run2 r2.le)
      have R3 := Lib.hid (r2.keep (Frm.refl [] w2).drew (by simp))
      have c0 : RB w2.drew wr.heap.size (.slice a2 x.root.ads.length c2) x := t2.keep0 (Frm.refl [] w2).drew
      have OW := Lib.hid (ow2.keep (Frm.refl [] w2).drew (by simp))
      have NW := Lib.hid (show ∀ k ∈ blk (.slice a2 x.root.ads.length c2), wr.heap.size < k from fun k hk => by have := new2 k hk; simp at this; omega)
      have FIT := Lib.hid fit2
      have q1 := B3.out.gets.recs
      clear f2 r2 t2 H4 B2 T2 F2 U2 ow2 new2 fit2 run2
      generalize hgz : wr.heap.size = gl at *
      refine wp_region_held_drew (S := fun z => RB z gl (.slice a2 x.root.ads.length c2) x) (by kernel_rfl) (c0) (fun hHeld => ?_)
      refine wpAnyH_take (i := 0) (oi := ⟨some 14, .move (.tmp 1), _, _, _, none⟩) (v := ?_) rfl (by kernel_rfl) (by kernel_rfl) (by kernel_rfl) (fun _ _ _ h => h) (Or.inl ⟨by rfl, ?_⟩) hHeld ?_
      rotate_left
      focus (intro z hSw; clear hSw; go_simp; try with_reducible rfl)
      try simp only [Act.put, List.setIfInBounds_toArray, List.set_cons_zero, List.set_cons_succ]
      refine wpAnyH_take (i := 1) (oi := ⟨some 15, .move (.tmp 1), _, _, _, none⟩) (v := ?_) rfl (by kernel_rfl) (by kernel_rfl) (by kernel_rfl) (fun _ _ _ h => h) (Or.inl ⟨by rfl, ?_⟩) hHeld ?_
      rotate_left
      focus (intro z hSw; clear hSw; go_simp; try with_reducible rfl)
      try simp only [Act.put, List.setIfInBounds_toArray, List.set_cons_zero, List.set_cons_succ]
      refine wpAnyH_take (i := 2) (oi := ⟨some 16, .nilCheck (.tmp 15), _, _, _, none⟩) (v := ?_) rfl (by kernel_rfl) (by kernel_rfl) (by kernel_rfl) (fun _ _ _ h => h) (Or.inl ⟨by rfl, ?_⟩) hHeld ?_
      rotate_left
      focus (intro z hSw; clear hSw; go_simp; try with_reducible rfl)
      try simp only [Act.put, List.setIfInBounds_toArray, List.set_cons_zero, List.set_cons_succ]
      refine wpAnyH_take (i := 4) (oi := ⟨some 18, .load 56 (.tmp 6), _, _, _, none⟩) rfl (by kernel_rfl) (by kernel_rfl) (by kernel_rfl) (fun _ _ _ h => h) (yieldsIf_ld (by rfl) 56 _ rfl _ rfl (fun z hSw => hSw.gets.all)) hHeld ?_
      try simp only [Act.put, List.setIfInBounds_toArray, List.set_cons_zero, List.set_cons_succ]
      refine wpAnyH_ready (rs := [3, 5]) (by kernel_rfl) (by simp) ?_
      refine AllReadyH.cons (o := ⟨some 17, .load 22 (.tmp 16), _, _, _, none⟩) rfl (fun K hK => ?_) ?_
      · go_simp
        refine hK.out _ _ ?_ (fun hNext => ?_)
        · exact hHeld
        clear hK K hHeld
        have hHeld := hNext
        clear hNext
        try simp only [Act.put, List.setIfInBounds_toArray, List.set_cons_zero, List.set_cons_succ]
        refine wpAnyH_ready (rs := [5]) (by kernel_rfl) (by simp) ?_
        refine AllReadyH.cons (o := ⟨some 19, .buildSlice 22 1 #[(0, .tmp 18)], _, _, _, none⟩) rfl (fun K hK => ?_) ?_
        · refine step_rec1 (r := rowR (.slice a2 x.root.ads.length c2) rfl x HS.out) rfl (.tmp 18) rfl rfl ?_
          intro v5 w5 s5 f5 n5
          have e5 := (B3.out.keep0 f5).gets.recs
          refine hK.out _ _ ?_ (fun hNext => ?_)
          · exact hHeld.keep0 f5
          clear hK K hHeld
          have hHeld := hNext
          clear hNext
          try simp only [Act.put, List.setIfInBounds_toArray, List.set_cons_zero, List.set_cons_succ]
          refine wpAnyH_ready (rs := [6]) (by kernel_rfl) (by simp) ?_
          refine AllReadyH.cons (o := ⟨some 20, .call { callee := .builtin .append, args := #[.tmp 17, .tmp 19], argTypes := #[22, 22] }, _, _, _, none⟩) rfl (fun K hK => ?_) ?_
          · obtain ⟨spv, hO⟩ := T3.out.own
            have hl6 : rs.length + [rowR (.slice a2 x.root.ads.length c2) rfl x HS.out].length = xs.length + 1 := by have := T3.out.len; simp at this; simp [this]
            refine Kr.step_append_e encRow tysRec (hO.keep0 f5) s5 (by rw [hl6]; have := HY.out; omega) (by decide) rfl (.tmp 17) (.tmp 19) rfl rfl rfl ?_
            intro a6 c6 w6 sp6 o6 f6 n6
            rw [hl6] at o6 n6 ⊢
            have b6 := (B3.out.keep0 f5).keep f6 (fun hm => by have := OL.out _ (OV.out _ hm); have := HB.out; omega)
            have z6 := frozen_of_heap b6 1
            have e6 := b6.gets.recs
            refine hK.out _ _ ?_ (fun hNext => ?_)
            · exact hHeld.keep f6 (fun hm => by have := OL.out _ (OV.out _ hm); omega)
            clear hK K hHeld
            have hHeld := hNext
            clear hNext
            try simp only [Act.put, List.setIfInBounds_toArray, List.set_cons_zero, List.set_cons_succ]
            refine wpAnyH_take (i := 7) (oi := ⟨some 21, .nilCheck (.tmp 14), _, _, _, none⟩) (v := ?_) rfl (by kernel_rfl) (by kernel_rfl) (by kernel_rfl) (fun _ _ _ h => h) (Or.inl ⟨by rfl, ?_⟩) hHeld ?_
            rotate_left
            focus (intro z hSw; clear hSw; go_simp; try with_reducible rfl)
            try simp only [Act.put, List.setIfInBounds_toArray, List.set_cons_zero, List.set_cons_succ]
            refine wpAnyH_ready (rs := [8]) (by kernel_rfl) (by simp) ?_
            refine AllReadyH.cons (o := ⟨none, .store 22 (.tmp 21) (.tmp 20), _, _, _, none⟩) rfl (fun K hK => ?_) ?_
            · go_simp
              refine hK.out _ _ ?_ (fun hNext => ?_)
              · exact hHeld.keep ((Frm.refl [gt] w6).setCell _ _ (.inl (by simp))) (by have := HLW.out; have := HB.out; simp; omega)
              clear hK K hHeld
              have hHeld := hNext
              clear hNext
              try simp only [Act.put, List.setIfInBounds_toArray, List.set_cons_zero, List.set_cons_succ]
              refine wpAnyH_done (by kernel_rfl) ?_ _
              clear hHeld
              go_wp2_with (fail)
              go_roundw
              case rel =>
                have hlv : ∀ j ∈ blk vr, w.heap.size ≤ j := fun j hj => (OL.out j (OV.out j hj)).1
                have hset : Frm [gt] w6 (w6.setCell ⟨gt, 1, none⟩ (.slice a6 (xs.length + 1) c6)) := (Frm.refl [gt] w6).setCell _ _ (.inl (by simp))
                have f56 : Frm (blk vr) w2.drew w6 := (f5.mono (by simp)).trans f6 (fun j hj => .inl hj)
                have hT6 := T3.out.more f56 o6 (fun j hj => (n6 j hj).imp id (fun h => Nat.le_trans f5.size h)) (⟨a2, c2, sp2, rfl, OW.out, HS.out⟩ : RowO w2.drew (rowR (.slice a2 x.root.ads.length c2) rfl x HS.out) x) (fun k hk hm => by have h1 := NW.out k hk; have h2 := OL.out k hm; omega) (fun k hk => by have h1 := NW.out k hk; have := HLW.out; omega) F3.out.size
                have hF6 : Frm [g, gt] w (w6.setCell ⟨gt, 1, none⟩ (.slice a6 (xs.length + 1) c6)) := (F3.out.trans f56 (fun j hj => .inr (hlv j hj))).trans hset (by simp)
                refine ⟨i + 1, xs ++ [(x, od)], rs ++ [rowR (.slice a2 x.root.ads.length c2) rfl x HS.out], rb (rowR (.slice a2 x.root.ads.length c2) rfl x HS.out) ++ blk (.slice a6 (xs.length + 1) c6) ++ B, at2, sh2, .slice a6 (xs.length + 1) c6, by omega, by go_num, by simp [HY.out], ?_, ?_, ?_, U3.out, ?_, hF6⟩
                · exact ((R3.out.keep f5 (by simp)).keep f6 (fun j hj => by have := hlv j hj; have := HB.out; omega)).keep hset (by have := HB.out; simp; omega)
                · have := TB.setRecs b6 (.slice a6 (xs.length + 1) c6) ((xs ++ [(x, od)]).map (·.1))
                  simpa using this
                · have := hT6.keep hset (fun j hj hm => by have := (hT6.lo j hm).1; have := HB.out; simp at hj; omega)
                  simpa using this
                · intro y hy
                  rcases List.mem_append.1 hy with hy | hy
                  · exact HX.out y hy
                  · rw [List.mem_singleton.1 hy]; exact FIT.out
              case measure => simp [intOf]; omega
            exact AllReadyH.nil
          exact AllReadyH.nil
        exact AllReadyH.nil
      refine AllReadyH.cons (o := ⟨some 19, .buildSlice 22 1 #[(0, .tmp 18)], _, _, _, none⟩) rfl (fun K hK => ?_) ?_
      · refine step_rec1 (r := rowR (.slice a2 x.root.ads.length c2) rfl x HS.out) rfl (.tmp 18) rfl rfl ?_
        intro v5 w5 s5 f5 n5
        have e5 := (B3.out.keep0 f5).gets.recs
        refine hK.out _ _ ?_ (fun hNext => ?_)
        · exact hHeld.keep0 f5
        clear hK K hHeld
        have hHeld := hNext
        clear hNext
        try simp only [Act.put, List.setIfInBounds_toArray, List.set_cons_zero, List.set_cons_succ]
        refine wpAnyH_ready (rs := [3]) (by kernel_rfl) (by simp) ?_
        refine AllReadyH.cons (o := ⟨some 17, .load 22 (.tmp 16), _, _, _, none⟩) rfl (fun K hK => ?_) ?_
        · go_simp
          refine hK.out _ _ ?_ (fun hNext => ?_)
          · exact hHeld
          clear hK K hHeld
          have hHeld := hNext
          clear hNext
          try simp only [Act.put, List.setIfInBounds_toArray, List.set_cons_zero, List.set_cons_succ]
          refine wpAnyH_ready (rs := [6]) (by kernel_rfl) (by simp) ?_
          refine AllReadyH.cons (o := ⟨some 20, .call { callee := .builtin .append, args := #[.tmp 17, .tmp 19], argTypes := #[22, 22] }, _, _, _, none⟩) rfl (fun K hK => ?_) ?_
          · obtain ⟨spv, hO⟩ := T3.out.own
            have hl6 : rs.length + [rowR (.slice a2 x.root.ads.length c2) rfl x HS.out].length = xs.length + 1 := by have := T3.out.len; simp at this; simp [this]
            refine Kr.step_append_e encRow tysRec (hO.keep0 f5) s5 (by rw [hl6]; have := HY.out; omega) (by decide) rfl (.tmp 17) (.tmp 19) rfl rfl rfl ?_
            intro a6 c6 w6 sp6 o6 f6 n6
            rw [hl6] at o6 n6 ⊢
            have b6 := (B3.out.keep0 f5).keep f6 (fun hm => by have := OL.out _ (OV.out _ hm); have := HB.out; omega)
            have z6 := frozen_of_heap b6 1
            have e6 := b6.gets.recs
            refine hK.out _ _ ?_ (fun hNext => ?_)
            · exact hHeld.keep f6 (fun hm => by have := OL.out _ (OV.out _ hm); omega)
            clear hK K hHeld
            have hHeld := hNext
            clear hNext
            try simp only [Act.put, List.setIfInBounds_toArray, List.set_cons_zero, List.set_cons_succ]
            refine wpAnyH_take (i := 7) (oi := ⟨some 21, .nilCheck (.tmp 14), _, _, _, none⟩) (v := ?_) rfl (by kernel_rfl) (by kernel_rfl) (by kernel_rfl) (fun _ _ _ h => h) (Or.inl ⟨by rfl, ?_⟩) hHeld ?_
            rotate_left
            focus (intro z hSw; clear hSw; go_simp; try with_reducible rfl)
            try simp only [Act.put, List.setIfInBounds_toArray, List.set_cons_zero, List.set_cons_succ]
            refine wpAnyH_ready (rs := [8]) (by kernel_rfl) (by simp) ?_
            refine AllReadyH.cons (o := ⟨none, .store 22 (.tmp 21) (.tmp 20), _, _, _, none⟩) rfl (fun K hK => ?_) ?_
            · go_simp
              refine hK.out _ _ ?_ (fun hNext => ?_)
              · exact hHeld.keep ((Frm.refl [gt] w6).setCell _ _ (.inl (by simp))) (by have := HLW.out; have := HB.out; simp; omega)
              clear hK K hHeld
              have hHeld := hNext
              clear hNext
              try simp only [Act.put, List.setIfInBounds_toArray, List.set_cons_zero, List.set_cons_succ]
              refine wpAnyH_done (by kernel_rfl) ?_ _
              clear hHeld
              go_wp2_with (fail)
              go_roundw
              case rel =>
                have hlv : ∀ j ∈ blk vr, w.heap.size ≤ j := fun j hj => (OL.out j (OV.out j hj)).1
                have hset : Frm [gt] w6 (w6.setCell ⟨gt, 1, none⟩ (.slice a6 (xs.length + 1) c6)) := (Frm.refl [gt] w6).setCell _ _ (.inl (by simp))
                have f56 : Frm (blk vr) w2.drew w6 := (f5.mono (by simp)).trans f6 (fun j hj => .inl hj)
                have hT6 := T3.out.more f56 o6 (fun j hj => (n6 j hj).imp id (fun h => Nat.le_trans f5.size h)) (⟨a2, c2, sp2, rfl, OW.out, HS.out⟩ : RowO w2.drew (rowR (.slice a2 x.root.ads.length c2) rfl x HS.out) x) (fun k hk hm => by have h1 := NW.out k hk; have h2 := OL.out k hm; omega) (fun k hk => by have h1 := NW.out k hk; have := HLW.out; omega) F3.out.size
                have hF6 : Frm [g, gt] w (w6.setCell ⟨gt, 1, none⟩ (.slice a6 (xs.length + 1) c6)) := (F3.out.trans f56 (fun j hj => .inr (hlv j hj))).trans hset (by simp)
                refine ⟨i + 1, xs ++ [(x, od)], rs ++ [rowR (.slice a2 x.root.ads.length c2) rfl x HS.out], rb (rowR (.slice a2 x.root.ads.length c2) rfl x HS.out) ++ blk (.slice a6 (xs.length + 1) c6) ++ B, at2, sh2, .slice a6 (xs.length + 1) c6, by omega, by go_num, by simp [HY.out], ?_, ?_, ?_, U3.out, ?_, hF6⟩
                · exact ((R3.out.keep f5 (by simp)).keep f6 (fun j hj => by have := hlv j hj; have := HB.out; omega)).keep hset (by have := HB.out; simp; omega)
                · have := TB.setRecs b6 (.slice a6 (xs.length + 1) c6) ((xs ++ [(x, od)]).map (·.1))
                  simpa using this
                · have := hT6.keep hset (fun j hj hm => by have := (hT6.lo j hm).1; have := HB.out; simp at hj; omega)
                  simpa using this
                · intro y hy
                  rcases List.mem_append.1 hy with hy | hy
                  · exact HX.out y hy
                  · rw [List.mem_singleton.1 hy]; exact FIT.out
              case measure => simp [intOf]; omega
            exact AllReadyH.nil
          exact AllReadyH.nil
        exact AllReadyH.nil
      exact AllReadyH.nil
    · obtain rfl : i = n := by omega
      have HR := Lib.hid hR
      have HB2 := Lib.hid hB
      have HT := Lib.hid hT
      have HX := Lib.hid hx
      have HU := Lib.hid hu
      have HF := Lib.hid hF
      have HY := Lib.hid hy
      clear hR hB hT hx hu hF hy
      go_wp2_with (fail)
      go_ret
      exact ⟨rfl, vr, xs, rs, B, i, at1, at_, sh1, sh, HF.out, HB2.out, HT.out, HX.out, by have := HY.out; omega, HR.out, u1.out, HU.out⟩
end Go.Proofs.YtljhanhipmnioaaGreat.Rd

namespace Go.Proofs.YtljhanhipmnioaaGreat.Rd
open Go.RowKit
set_option linter.unusedVariables false
set_option linter.unusedSimpArgs false
set_option maxRecDepth 100000

open Pt (Pt may enc readPt readE zeroPt be4 be1 pc pv PtV SlA OwnA BT wpList_load_g heap_alloc_at lst_slB one_slB Ext Grew exec_slice_lh yieldsIf_ld)
open Kr (OwnE SlE Enco RowTys)

theorem RgB.f44 {w : World} {g : Nat} {va vr : Value} {e a : Int} (h : RgB w g va vr e a) : (Instr.loadAt 44 (.pointer (some ⟨g, 2, none⟩))).run Tryz.prog w = .ok (.agg #[.int .i64 e, .int .i64 a]) w :=
  Blk.load (pre := [va, vr]) (row := [.int .i64 e, .int .i64 a]) (post := []) (T := 112) h rfl (by kernel_rfl) (by rw [Pt.d40]; rfl)
/-- What the end of the reading means. -/
theorem told_is {l : List UInt8} {T : Tab} {od : Bool} {at_ : Nat} {sh : Bool} {E A : Int} (U : Runs tabP l 0 false (T, od) at_ sh) (hs : Sums T)
    (hE : E = if (mayT T = true ∧ encT T = l) ∨ endE l at_ sh ≠ 0 then endE l at_ sh else 2) (hA : A = if (mayT T = true ∧ encT T = l) ∨ endE l at_ sh ≠ 0 then endA l at_ sh else 0) :
    (E ≠ 0 → readT l = (zeroT, E, A)) ∧ (E = 0 → readT l = (T, 0, 0)) := by
  cases sh with
  | true =>
    have e0 : endE l at_ true = 4 := rfl
    have a0 : endA l at_ true = l.length := rfl
    rw [e0, if_pos (.inr (by decide))] at hE
    rw [e0, a0, if_pos (.inr (by decide))] at hA
    subst hE; subst hA
    exact ⟨fun _ => readT_no U, fun h => by cases h⟩
  | false =>
    by_cases hlt : at_ < l.length
    · have e0 : endE l at_ false = 4 := by simp [endE, hlt]
      have a0 : endA l at_ false = at_ := by simp [endA, hlt]
      rw [e0, if_pos (.inr (by decide))] at hE
      rw [e0, a0, if_pos (.inr (by decide))] at hA
      subst hE; subst hA
      exact ⟨fun _ => readT_more U hlt, fun h => by cases h⟩
    · have e0 : endE l at_ false = 0 := by simp [endE, hlt]
      have a0 : endA l at_ false = 0 := by simp [endA, hlt]
      rw [e0] at hE
      rw [e0, a0] at hA
      obtain ⟨h1, h2⟩ := U.some'
      have hd : l.drop at_ = [] := List.drop_eq_nil_of_le (by omega)
      rw [hd] at h1
      have hA0 : A = 0 := by rw [hA]; split <;> rfl
      subst hA0
      cases od with
      | false =>
        obtain ⟨h3, _⟩ := tab_back h1
        rw [List.append_nil] at h3
        cases hm : mayT T with
        | true =>
          rw [if_pos (.inl ⟨hm, h3.symm⟩)] at hE
          subst hE
          exact ⟨fun h => absurd rfl h, fun _ => readT_ok U hlt rfl hm⟩
        | false =>
          rw [if_neg (by rw [hm]; simp)] at hE
          subst hE
          exact ⟨fun _ => readT_bad U hlt (.inr hm), fun h => by cases h⟩
      | true =>
        have hn : ¬ ((mayT T = true ∧ encT T = l) ∨ (0 : Int) ≠ 0) := by
          rintro (⟨hm, he⟩ | h)
          · have := tab_app (mayT_iff.1 hm) hs []
            rw [List.append_nil, he, h1] at this
            simp at this
          · exact absurd rfl h
        rw [if_neg hn] at hE
        subst hE
        exact ⟨fun _ => readT_bad U hlt (.inl rfl), fun h => by cases h⟩
theorem Tl.sums {w0 w : World} {v : Value} {l : List Rec} {rs : List RowT} {B : List Nat} (h : Tl w0 w v l rs B) : ∀ x ∈ l, x.root.s.length = 32 := by
  intro x hx
  obtain ⟨i, hi⟩ := List.getElem?_of_mem hx
  have hl : i < rs.length := by have := (List.getElem?_eq_some_iff.1 hi).1; rw [h.len]; exact this
  obtain ⟨_, _, _, _, _, hs⟩ := h.row i rs[i] x (List.getElem?_eq_getElem hl) hi
  exact hs
/-- What the program's reading of a table tells: a table of the call's own. -/
def ReadO (l : List UInt8) (w : World) (r : Ending) (w' : World) : Prop := ∃ (vr vl : Value) (rs : List RowT) (B : List Nat) (sp : List Value), r = .returned (.tuple #[tv vr vl (readT l).1, .agg #[.int .i64 (readT l).2.1, .int .i64 (readT l).2.2]]) ∧ Tl w w' vr (readT l).1.recs rs B ∧ OwnE eI 1 3 w' vl (readT l).1.lives sp ∧ (∀ k ∈ blk vl, w.heap.size ≤ k ∧ k ∉ B) ∧ FitT (readT l).1 ∧ Frm [] w w'
theorem fit_zero : FitT zeroT := ⟨Nat.zero_le _, Nat.zero_le _, by simp [zeroT]⟩
set_option maxHeartbeats 16000000 in
theorem Read_any (v : Value) (l sp : List UInt8) (w : World) (hS : SlB w v l sp) (hl : l.length ≤ 1000000) : Calls Tryz.prog 29 #[v] w (ReadO l w) := by
  obtain ⟨a, cap, rfl, _, _⟩ := hS.form
  have HS := Lib.hid (RV.rb (RV.of hS))
  have HL := Lib.hid hl
  clear hS hl
  go_enter Tryz.func29, Tryz.ntmps29
  go_upto_region 2 with (first
    | ((with_reducible (show wpList _ _ _ (Oper.mk (some 2) (Op.alloc 27) _ _ _ _ :: _) _ _)); refine wpList_val rfl (exec_alloc27 rfl _) ?_; have n1 := TB.new w nilS nilS zeroT; have k1 : Frm [] w (w.alloc (.cells (tc nilS nilS zeroT).toArray 27)) := (Frm.refl [] w).alloc _; obtain ⟨V1, hV1⟩ : ∃ V1, w.alloc (.cells (tc nilS nilS zeroT).toArray 27) = V1 := ⟨_, rfl⟩; rw [hV1] at n1 k1 ⊢; clear hV1)
    | ((with_reducible (show wpList _ _ _ (Oper.mk (some 4) (Op.alloc 27) _ _ _ _ :: _) _ _)); refine wpList_val rfl (exec_alloc27 rfl _) ?_))
  simp only [World.size_alloc]
  have FC : Frm [] V1 (V1.alloc (.cells #[.int .i64 0, .int .i64 0] 44)) := (Frm.refl [] V1).alloc _
  have FD : Frm [] (V1.alloc (.cells #[.int .i64 0, .int .i64 0] 44)) ((V1.alloc (.cells #[.int .i64 0, .int .i64 0] 44)).alloc (.cells (tc nilS nilS zeroT).toArray 27)) := (Frm.refl [] _).alloc _
  have h3 : ((V1.alloc (.cells #[.int .i64 0, .int .i64 0] 44)).alloc (.cells (tc nilS nilS zeroT).toArray 27)).heap[V1.heap.size]? = some (.cells #[.int .i64 0, .int .i64 0] 44 (0, 0)) := FD.heap (heap_alloc_new _ _) (by simp)
  have hG : TB ((V1.alloc (.cells #[.int .i64 0, .int .i64 0] 44)).alloc (.cells (tc nilS nilS zeroT).toArray 27)) (V1.heap.size + 1) nilS nilS zeroT := heap_alloc_at (by simp)
  have hlt := n1.lt
  have F0 := Lib.hid (show Frm [] w ((V1.alloc (.cells #[.int .i64 0, .int .i64 0] 44)).alloc (.cells (tc nilS nilS zeroT).toArray 27)) from (k1.trans FC (by simp)).trans FD (by simp))
  have C0 := Lib.hid (show TB ((V1.alloc (.cells #[.int .i64 0, .int .i64 0] 44)).alloc (.cells (tc nilS nilS zeroT).toArray 27)) w.heap.size nilS nilS zeroT ∧ ((V1.alloc (.cells #[.int .i64 0, .int .i64 0] 44)).alloc (.cells (tc nilS nilS zeroT).toArray 27)).heap[V1.heap.size]? = some (.cells #[.int .i64 0, .int .i64 0] 44 (0, 0)) from ⟨(n1.keep0 FC).keep0 FD, h3⟩)
  have G0 := Lib.hid hG
  have SZ0 := Lib.hid hG.lt
  have RB0 := Lib.hid (HS.out.keep F0.out (by simp))
  clear FC FD h3 hG n1 k1 HS
  generalize ((V1.alloc (.cells #[.int .i64 0, .int .i64 0] 44)).alloc (.cells (tc nilS nilS zeroT).toArray 27)) = W0 at *
  obtain ⟨gt, hgt⟩ : ∃ gt, V1.heap.size + 1 = gt := ⟨_, rfl⟩
  rw [hgt] at G0 SZ0 ⊢
  obtain ⟨g3, hg3⟩ : ∃ g3, V1.heap.size = g3 := ⟨_, rfl⟩
  rw [hg3] at C0 hgt hlt ⊢
  obtain ⟨g2, hg2⟩ : ∃ g2, w.heap.size = g2 := ⟨_, rfl⟩
  rw [hg2] at C0 hlt ⊢
  have HBG := begin_pr w.heap.size (.slice a l.length cap) l W0 RB0.out F0.out.size HL.out
  obtain ⟨g, hg⟩ : ∃ g, W0.heap.size = g := ⟨_, rfl⟩
  rw [hg] at HBG SZ0
  have HB := Lib.hid HBG
  have GG := Lib.hid (show g2 < g3 ∧ g3 < gt ∧ gt < g ∧ w.heap.size = g2 from ⟨hlt, by omega, SZ0.out, hg2⟩)
  have WG := Lib.hid (show W0.heap.size = g from hg)
  clear HBG hg hgt hg3 hg2 hlt RB0 SZ0
  go_upto_region 3 with (first
    | (go_at_call 77; refine HB.out.mono ?_; rintro e y1 ⟨rfl, f1, r1⟩; have t1 := G0.out.keep0 f1; have u1 := Lib.hid (runs_num 4 l 0 false r1.le))
    | (go_at_call 78; refine (four_pr g w.heap.size gt 0 _ 27 l 0 false _ r1 t1 rfl (by have := GG.out; omega) (by have := GG.out; omega)).mono ?_; rintro e y2 ⟨rfl, f2, t2', r2⟩; have t2 := t1.toNext t2'; clear t2'; generalize bn (nxt l 0 4 false) = nx at *; generalize nAt l 0 4 false = p1 at *; generalize (!okN l 0 4 false) = s1 at *)
    | (go_at_call 79; refine (records_pr g w.heap.size gt nilS _ l p1 s1 _ r2 t2 rfl (by have := GG.out; omega) (by have := GG.out; omega)).mono ?_; rintro e y3 ⟨rfl, vr, xs, rs, B, m, p2, p3, s2, s3, f3, t3, T3, fit3, len3, r3, u2, u3⟩)
    | (go_at_call 80; refine (cursor_pr g w.heap.size gt vr nilS _ l p3 s3 _ r3 t3 rfl (by have := GG.out; omega) (by have := GG.out; omega)).mono ?_; rintro e y4 ⟨rfl, ck, cd, ca, cx, p7, s7, f4, t4, r4, p4, p5, p6, s4, s5, s6, u4, u5, u6, u7⟩)
    | (go_at_call 81; refine (lives_pr g w.heap.size gt vr _ l p7 s7 _ r4 t4 rfl (by have := GG.out; omega) (by have := GG.out; omega)).mono ?_; rintro e y5 ⟨rfl, vl, ys, spl, n5, p8, p9, s8, s9, f5, t5, o5, b5, len5, r5, u8, u9⟩)
    | (go_at_call 82; refine (end_pr g w.heap.size l p9 s9 _ r5).mono ?_; rintro e y6 ⟨rfl, f6, e6⟩; obtain ⟨T, hTT⟩ : ∃ T : Tab, T = ⟨nx, xs.map (·.1), ⟨ck, cd, ca, cx⟩, ys.map Int.ofNat⟩ := ⟨_, rfl⟩;
        have T6 : Tl w y6 vr T.recs rs B := by {
          rw [hTT]
          refine (((T3.keep f4 ?_).keep f5 ?_).keep f6 ?_).base (Nat.le_trans (Nat.le_trans F0.out.size f1.size) f2.size)
          all_goals (intro i hi hm; have h1 := (T3.lo i hm).1; have h9 := r1.lt; have h2 := f2.size; have h3 := f1.size; have := GG.out; have := WG.out; simp at hi; omega) };
        have O6 : OwnE eI 1 3 y6 vl T.lives spl := by {
          rw [hTT]
          exact o5.keep f6 (fun i hi hm => by have h1 := b5 i hi; have h9 := r1.lt; have h2 := f4.size; have h3 := f3.size; have h4 := f2.size; have h5 := f1.size; have := GG.out; have := WG.out; simp at hm; omega) };
        have B6 : TB y6 gt vr vl T := by { rw [hTT]; exact t5.keep f6 (by have := GG.out; simp; omega) };
        have V6 : TabV y6 vr vl T := ⟨T6.us, _, O6.sl⟩;
        have FT6 : FitT T := by {
          rw [hTT]
          refine ⟨by simp; omega, by simp; omega, fun x hx => ?_⟩
          obtain ⟨y, hy, rfl⟩ := List.mem_map.1 hx
          have := fit3 y hy
          exact ⟨by omega, by omega⟩ };
        have UT : Runs tabP l 0 false (T, xs.any (·.2)) p9 s9 := by { rw [hTT]; exact u1.out.bnd (u2.bnd (u3.bnd (u4.bnd (u5.bnd (u6.bnd (u7.bnd (u8.bnd (u9.bnd (Runs.ret _ _ _ _ r5.le))))))))) };
        have N6 : ∀ k ∈ blk vl, w.heap.size ≤ k ∧ k ∉ B := fun k hk => by {
          have h1 := b5 k hk
          have h2 := f4.size; have h3 := f3.size; have h4 := f2.size; have h5 := f1.size; have h6 := F0.out.size
          refine ⟨by omega, fun hm => ?_⟩
          have h7 := (T3.lo k hm).2
          omega })
    | (go_at_call 83; refine (told_pr g w.heap.size gt vr vl T l _ _ _ e6 B6 V6 FT6 (by have := GG.out; omega)).mono ?_; rintro e y7 ⟨rfl, f7, e7⟩))
  have hfr : Frm [] w y7 := by
    have q : ∀ {L : List Nat} {W W' : World}, (∀ i ∈ L, i = g ∨ i = gt) → Frm L W W' → Frm [g, gt] W W' := fun hL f => f.mono (fun i hi => .inl (by simpa using hL i hi))
    have f27 : Frm [g, gt] y1 y7 := (((((f2.trans f3 (by simp)).trans f4 (by simp)).trans f5 (by simp)).trans (q (by simp) f6) (by simp)).trans (q (by simp) f7) (by simp))
    exact (F0.out.trans f1 (by simp)).trans f27 (fun i hi => by have := GG.out; simp at hi; omega)
  have HFR := Lib.hid hfr
  have HT7 := Lib.hid (T6.keep f7 (fun i hi hm => by have h1 := (T3.lo i hm).1; have h9 := r1.lt; have h2 := f2.size; have h3 := f1.size; have := GG.out; have := WG.out; simp at hi; omega))
  have HO7 := Lib.hid (O6.keep f7 (fun i hi hm => by have h1 := b5 i hi; have h9 := r1.lt; have h2 := f4.size; have h3 := f3.size; have h4 := f2.size; have h5 := f1.size; have := GG.out; have := WG.out; simp at hm; omega))
  have HB7 := Lib.hid (B6.keep f7 (by have := GG.out; simp; omega)).gets.all
  have CF := Lib.hid (show TB y7 g2 nilS nilS zeroT ∧ y7.heap[g3]? = some (.cells #[.int .i64 0, .int .i64 0] 44 (0, 0)) from by
    have k : ∀ {i : Nat}, i < g → i ≠ gt → i ∉ [g, gt] := fun h1 h2 => by simp; omega
    have hg2 : g2 ∉ [g, gt] := k (by have := GG.out; omega) (by have := GG.out; omega)
    have hg3 : g3 ∉ [g, gt] := k (by have := GG.out; omega) (by have := GG.out; omega)
    have q : ∀ {L : List Nat} {W W' : World}, (∀ i ∈ L, i = g ∨ i = gt) → Frm L W W' → Frm [g, gt] W W' := fun hL f => f.mono (fun i hi => .inl (by simpa using hL i hi))
    have f27 : Frm [g, gt] y1 y7 := (((((f2.trans f3 (by simp)).trans f4 (by simp)).trans f5 (by simp)).trans (q (by simp) f6) (by simp)).trans (q (by simp) f7) (by simp))
    exact ⟨(C0.out.1.keep0 f1).keep f27 hg2, f27.heap (f1.heap C0.out.2 (by simp)) hg3⟩)
  have HLO := Lib.hid (show (∀ k ∈ B, g ≤ k) ∧ (∀ k ∈ blk vl, g ≤ k) from ⟨fun k hk => by have h1 := (T3.lo k hk).1; have h2 := f2.size; have h3 := f1.size; have := WG.out; omega, fun k hk => by have h1 := b5 k hk; have h2 := f4.size; have h3 := f3.size; have h4 := f2.size; have h5 := f1.size; have := WG.out; omega⟩)
  have HN := Lib.hid N6
  have HFT := Lib.hid FT6
  obtain ⟨E, hE⟩ : ∃ E, E = if (mayT T = true ∧ encT T = l) ∨ endE l p9 s9 ≠ 0 then endE l p9 s9 else 2 := ⟨_, rfl⟩
  obtain ⟨A, hA⟩ : ∃ A, A = if (mayT T = true ∧ encT T = l) ∨ endE l p9 s9 ≠ 0 then endA l p9 s9 else 0 := ⟨_, rfl⟩
  rw [← hE, ← hA] at e7
  have HTI := Lib.hid (told_is UT (fun x hx => T6.sums x hx) hE hA)
  have HOV := Lib.hid (show vr.oneCell' = true ∧ vl.oneCell' = true from ⟨by obtain ⟨_, _, e⟩ := T6.form; rw [e]; rfl, by obtain ⟨_, _, e, _⟩ := O6.sl.form; rw [e]; rfl⟩)
  obtain ⟨va, vc, vq, hrg, _⟩ := e7
  have HRG := Lib.hid hrg
  have c2 := hrg.c2
  clear hE hA hrg UT hfr f1 r1 t1 u1 f2 t2 r2 f3 t3 T3 fit3 len3 r3 u2 u3 f4 t4 r4 u4 u5 u6 u7 f5 t5 o5 b5 len5 r5 u8 u9 f6 e6 f7 T6 O6 B6 V6 FT6 N6 HB G0 C0 F0 hTT
  by_cases hE0 : E = 0
  · subst hE0
    go_wp2_with (first
      | ((with_reducible (show wpList _ _ _ (Oper.mk _ (Op.load 27 _) _ _ _ _ :: _) _ _)); refine wpList_load_g (by rfl) 27 _ rfl _ rfl HB7.out ?_)
      | (refine wpList_finT (t := T) rfl rfl (.tmp 2) (.tmp 3) (.tmp 29) (.tmp 30) rfl rfl HOV.out.1 HOV.out.2 CF.out.1 CF.out.2 (by have := GG.out; omega) rfl rfl rfl rfl ?_; intro V b3 b4 f3))
    refine bodyPost_ret (Pt.results_two (p := 2) (q := 3) rfl _ _ rfl rfl (run_loadVar_row V g2 27 27 _ (0, 0) _ b3 Tryz.underlying27 rfl (by rw [i27]; simp [tc])) (run_loadVar_row V g3 44 44 _ (0, 0) _ b4 Tryz.underlying44 rfl (by rw [Pt.d40]; rfl))) rfl ?_
    have hrt := HTI.out.2 (by first | rfl | trivial)
    have hB2 : ∀ i ∈ [g2, g3], i ∉ B ∧ i ∉ blk vl := fun i hi => by
      have := GG.out; simp at hi; exact ⟨fun hm => by have := HLO.out.1 i hm; omega, fun hm => by have := HLO.out.2 i hm; omega⟩
    refine ⟨vr, vl, rs, B, spl, by rw [hrt]; rfl, by rw [hrt]; exact HT7.out.keep f3 (fun i hi => (hB2 i hi).1), by rw [hrt]; exact HO7.out.keep f3 (fun i hi hm => (hB2 i hm).2 hi), HN.out, by rw [hrt]; exact HFT.out, HFR.out.trans f3 (fun i hi => by have := GG.out; simp at hi; omega)⟩
  · have hE9 : (E != 0) = true := by simpa using hE0
    have HE0 := Lib.hid hE0
    clear hE0
    go_upto_region 4 with (fail)
    refine wp_region_held_drew (S := fun z => RgB z g (.slice va l.length vc) vq E A) (by kernel_rfl) (HRG.out.keep ((Frm.refl [] y7).drew) (by simp)) (fun hHeld => ?_)
    refine wpAnyH_take (i := 0) (oi := ⟨some 24, .build 27 #[], _, _, _, none⟩) rfl (by kernel_rfl) (by kernel_rfl) (by kernel_rfl) (fun _ _ _ h => h) (Or.inl ⟨by rfl, fun z hSw => exec_bld27z rfl z⟩) hHeld ?_
    try simp only [Act.put, List.setIfInBounds_toArray, List.set_cons_zero, List.set_cons_succ]
    refine wpAnyH_take (i := 1) (oi := ⟨some 25, .move (.tmp 5), _, _, _, none⟩) (v := ?_) rfl (by kernel_rfl) (by kernel_rfl) (by kernel_rfl) (fun _ _ _ h => h) (Or.inl ⟨by rfl, ?_⟩) hHeld ?_
    rotate_left
    focus (intro z hSw; clear hSw; go_simp; try with_reducible rfl)
    try simp only [Act.put, List.setIfInBounds_toArray, List.set_cons_zero, List.set_cons_succ]
    refine wpAnyH_take (i := 2) (oi := ⟨some 26, .nilCheck (.tmp 25), _, _, _, none⟩) (v := ?_) rfl (by kernel_rfl) (by kernel_rfl) (by kernel_rfl) (fun _ _ _ h => h) (Or.inl ⟨by rfl, ?_⟩) hHeld ?_
    rotate_left
    focus (intro z hSw; clear hSw; go_simp; try with_reducible rfl)
    try simp only [Act.put, List.setIfInBounds_toArray, List.set_cons_zero, List.set_cons_succ]
    refine wpAnyH_take (i := 3) (oi := ⟨some 27, .fieldAddr 112 (.tmp 26) 2, _, _, _, none⟩) (v := ?_) rfl (by kernel_rfl) (by kernel_rfl) (by kernel_rfl) (fun _ _ _ h => h) (Or.inl ⟨by rfl, ?_⟩) hHeld ?_
    rotate_left
    focus (intro z hSw; clear hSw; go_simp; try with_reducible rfl)
    try simp only [Act.put, List.setIfInBounds_toArray, List.set_cons_zero, List.set_cons_succ]
    refine wpAnyH_take (i := 4) (oi := ⟨some 28, .load 44 (.tmp 27), _, _, _, none⟩) rfl (by kernel_rfl) (by kernel_rfl) (by kernel_rfl) (fun _ _ _ h => h) (yieldsIf_ld (by rfl) 44 _ rfl _ rfl (fun z hSw => hSw.f44)) hHeld ?_
    try simp only [Act.put, List.setIfInBounds_toArray, List.set_cons_zero, List.set_cons_succ]
    refine wpAnyH_ready (rs := [5]) (by kernel_rfl) (by simp) ?_
    refine AllReadyH.cons (o := ⟨none, .store 27 (.tmp 2) (.tmp 24), _, _, _, none⟩) rfl (fun K hK => ?_) AllReadyH.nil
    refine step_store27 rfl (.tmp 2) (.tmp 24) rfl (vr := nilS) (vl := nilS) (t := zeroT) rfl rfl (CF.out.1.keep0 ((Frm.refl [] y7).drew)) rfl rfl (fun w6 m6 f6 => ?_)
    refine hK.out _ _ ?_ (fun hNext => ?_)
    · exact hHeld.keep f6 (by have := GG.out; simp; omega)
    clear hK K hHeld
    have hHeld := hNext
    clear hNext
    try simp only [Act.put, List.setIfInBounds_toArray, List.set_cons_zero, List.set_cons_succ]
    refine wpAnyH_ready (rs := [6]) (by kernel_rfl) (by simp) ?_
    refine AllReadyH.cons (o := ⟨none, .store 44 (.tmp 3) (.tmp 28), _, _, _, none⟩) rfl (fun K hK => ?_) AllReadyH.nil
    refine step_store44 rfl (.tmp 3) (.tmp 28) rfl (f6.heap (((Frm.refl [] y7).drew).heap CF.out.2 (by simp)) (by have := GG.out; simp; omega)) rfl rfl (fun w7 h7 f7 => ?_)
    refine hK.out _ _ ?_ (fun hNext => ?_)
    · exact hHeld.keep f7 (by have := GG.out; simp; omega)
    clear hK K hHeld
    have hHeld := hNext
    clear hNext
    try simp only [Act.put, List.setIfInBounds_toArray, List.set_cons_zero, List.set_cons_succ]
    refine wpAnyH_done (by kernel_rfl) ?_ _
    go_wp2_with (fail)
    have b3 := m6.keep f7 (by have := GG.out; simp; omega)
    refine bodyPost_ret (Pt.results_two (p := 2) (q := 3) rfl _ _ rfl rfl (run_loadVar_row w7 g2 27 27 _ (0, 0) _ b3 Tryz.underlying27 rfl (by rw [i27]; simp [tc])) (run_loadVar_row w7 g3 44 44 _ (0, 0) _ h7 Tryz.underlying44 rfl (by rw [Pt.d40]; rfl))) rfl ?_
    have hrt := HTI.out.1 HE0.out
    have hF7 : Frm [] w w7 := ((HFR.out.trans ((Frm.refl [] y7).drew) (by simp)).trans f6 (fun k hk => by have := GG.out; simp at hk; omega)).trans f7 (fun k hk => by have := GG.out; simp at hk; omega)
    exact ⟨nilS, nilS, [], [], [], by rw [hrt]; rfl, by rw [hrt]; exact (Tl.nil w7).base hF7.size, by rw [hrt]; exact OwnE.nil _ _ _ _, by simp [nilS, blk], by rw [hrt]; exact fit_zero, hF7⟩
end Go.Proofs.YtljhanhipmnioaaGreat.Rd

namespace Go.Proofs.YtljhanhipmnioaaGreat.Rd
open Go.RowKit
set_option linter.unusedVariables false
set_option linter.unusedSimpArgs false
set_option maxRecDepth 100000

open Pt (Pt may enc readPt readE zeroPt be4 be1 pc pv PtV SlA OwnA BT wpList_load_g heap_alloc_at lst_slB one_slB Ext Grew exec_slice_lh yieldsIf_ld)
open Kr (OwnE SlE Enco RowTys)

set_option maxHeartbeats 4000000 in
theorem Same_any (vr vl xr xl : Value) (t u : Tab) (w : World) (h : TabV w vr vl t) (k : TabV w xr xl u) (hf : FitT t) :
    Calls Tryz.prog 24 #[tv vr vl t, tv xr xl u] w fun e w' => e = .returned (.bool (sameT t u)) ∧ Frm [] w w' := by
  obtain ⟨h1, sp, h2⟩ := h
  obtain ⟨k1, sp2, k2⟩ := k
  have HE := Lib.hid (fun z (f : Frm [] w z) => EqualFunc_any vr xr t.recs u.recs z (h1.keep0 f) (k1.keep0 f) hf.recs hf.all)
  have HI := Lib.hid (fun z (f : Frm [] w z) => EqualI_any vl xl t.lives u.lives sp sp2 z (h2.keep0 f) (k2.keep0 f) (by have := hf.lives; omega))
  unfold sameT
  generalize all2 sameR t.recs u.recs = sr at *
  generalize (t.lives == u.lives) = si at *
  have hq := cur_eql t.cur u.cur
  have hg := cur_guard .eql
  clear h1 h2 k1 k2 hf

  unfold tv
  have f0 : Frm [] w (w.alloc (.cells (tc vr vl t).toArray 27)) := (Frm.refl [] w).alloc _
  have B := Lib.hid (TB.new w vr vl t)
  generalize (tc vr vl t).toArray = A at *
  have f1 : Frm [] w ((w.alloc (.cells A 27)).alloc (.cells (tc xr xl u).toArray 27)) := f0.alloc _
  have B1 := Lib.hid (B.out.keep0 ((Frm.refl [] _).alloc (.cells (tc xr xl u).toArray 27)))
  have B2 := Lib.hid (TB.new (w.alloc (.cells A 27)) xr xl u)
  rw [show (w.alloc (.cells A 27)).heap.size = w.heap.size + 1 by simp] at B2
  generalize (tc xr xl u).toArray = A2 at *
  have HB1 := Lib.hid (fun z (f : Frm [] ((w.alloc (.cells A 27)).alloc (.cells A2 27)) z) => (B1.out.keep0 f).gets)
  have HB2 := Lib.hid (fun z (f : Frm [] ((w.alloc (.cells A 27)).alloc (.cells A2 27)) z) => (B2.out.keep0 f).gets)
  have F := Lib.hid f1
  clear f0 f1 B
  have G1 := HB1.out _ (Frm.refl _ _)
  have G2 := HB2.out _ (Frm.refl _ _)
  have a0 := G1.next
  have b0 := G2.next
  have a1 := G1.recs
  have b1 := G2.recs

  clear G1 G2 B1 B2
  generalize curEq t.cur u.cur = sc at *
  go_enter Tryz.func24, Tryz.ntmps24
  go_upto_region 1 with (fail)
  generalize w.heap.size = g at *
  generalize (w.alloc (.cells A 27)).alloc (.cells A2 27) = W at *
  go_wp2_with (first
    | ((with_reducible (show wpList _ _ _ (Oper.mk (some 19) (Op.load 24 _) _ _ _ _ :: _) _ _)); refine wpList_load_g (by rfl) 24 _ rfl _ rfl (HB1.out _ f1).cur ?_)
    | ((with_reducible (show wpList _ _ _ (Oper.mk (some 21) (Op.load 24 _) _ _ _ _ :: _) _ _)); refine wpList_load_g (by rfl) 24 _ rfl _ rfl (HB2.out _ f1).cur ?_)
    | (go_at_call 72; refine (HE.out _ F.out).mono ?_; rintro e w1 ⟨rfl, f1⟩; have c6 := (HB1.out _ f1).lives; have d6 := (HB2.out _ f1).lives)
    | (go_at_call 74; refine (HI.out _ (F.out.trans f1 (by simp))).mono ?_; rintro e w2 ⟨rfl, f2⟩))
  all_goals go_ret
  all_goals first
    | exact ⟨by simp_all, (F.out.trans f1 (by simp)).trans f2 (by simp)⟩
    | exact ⟨by simp_all, F.out.trans f1 (by simp)⟩
    | exact ⟨by simp_all, F.out⟩

set_option maxHeartbeats 4000000 in
theorem SameTable_any (vr vl xr xl : Value) (t u : Tab) (w : World) (h : TabV w vr vl t) (k : TabV w xr xl u) (hf : FitT t) :
    Calls Tryz.prog 27 #[tv vr vl t, tv xr xl u] w fun e w' => e = .returned (.bool (sameT t u)) ∧ Frm [] w w' := by
  obtain ⟨h1, sp, h2⟩ := h
  obtain ⟨k1, sp2, k2⟩ := k
  have HI := Lib.hid (fun z (f : Frm [] w z) => SameInts_any vl xl t.lives u.lives sp sp2 z (h2.keep0 f) (k2.keep0 f) (by have := hf.lives; omega))
  have HF := Lib.hid hf
  have H1 := Lib.hid h1
  have K1 := Lib.hid k1
  have H2 := Lib.hid h2
  have K2 := Lib.hid k2
  have hl9 : (t.recs.length : Int) ≤ 1000 := by have := hf.recs; omega
  have hm9 : (t.lives.length : Int) ≤ 1000 := by have := hf.lives; omega
  obtain ⟨av, ac, rfl⟩ := h1.form
  obtain ⟨bv, bc, rfl⟩ := k1.form
  obtain ⟨lv, lc, rfl, _, _⟩ := h2.form
  obtain ⟨mv, mc, rfl, _, _⟩ := k2.form
  have hq := cur_neq t.cur u.cur
  have hg := cur_guard .neq
  clear h1 h2 k1 k2 hf

  unfold tv
  have f0 : Frm [] w (w.alloc (.cells (tc (.slice av t.recs.length ac) (.slice lv t.lives.length lc) t).toArray 27)) := (Frm.refl [] w).alloc _
  have B := Lib.hid (TB.new w (.slice av t.recs.length ac) (.slice lv t.lives.length lc) t)
  generalize (tc (.slice av t.recs.length ac) (.slice lv t.lives.length lc) t).toArray = A at *
  have f1 : Frm [] w ((w.alloc (.cells A 27)).alloc (.cells (tc (.slice bv u.recs.length bc) (.slice mv u.lives.length mc) u).toArray 27)) := f0.alloc _
  have B1 := Lib.hid (B.out.keep0 ((Frm.refl [] _).alloc (.cells (tc (.slice bv u.recs.length bc) (.slice mv u.lives.length mc) u).toArray 27)))
  have B2 := Lib.hid (TB.new (w.alloc (.cells A 27)) (.slice bv u.recs.length bc) (.slice mv u.lives.length mc) u)
  rw [show (w.alloc (.cells A 27)).heap.size = w.heap.size + 1 by simp] at B2
  generalize (tc (.slice bv u.recs.length bc) (.slice mv u.lives.length mc) u).toArray = A2 at *
  have HB1 := Lib.hid (fun z (f : Frm [] ((w.alloc (.cells A 27)).alloc (.cells A2 27)) z) => (B1.out.keep0 f).gets)
  have HB2 := Lib.hid (fun z (f : Frm [] ((w.alloc (.cells A 27)).alloc (.cells A2 27)) z) => (B2.out.keep0 f).gets)
  have F := Lib.hid f1
  clear f0 f1 B
  have G1 := HB1.out _ (Frm.refl _ _)
  have G2 := HB2.out _ (Frm.refl _ _)
  have a0 := G1.next
  have b0 := G2.next
  have a1 := G1.recs
  have b1 := G2.recs

  have a6 := G1.lives
  have b6 := G2.lives
  have CA := Lib.hid G1.cur
  have CB := Lib.hid G2.cur
  clear G1 G2 B1 B2
  unfold sameT
  by_cases q0 : t.next = u.next
  rotate_left
  · have e0 : (t.next == u.next) = false := by simpa using q0
    have e1 : (t.next != u.next) = true := by simpa [bne] using q0
    rw [e0]
    clear q0 e0
    go_enter Tryz.func27, Tryz.ntmps27
    go_upto_region 1 with (fail)
    generalize w.heap.size = g at *
    generalize (w.alloc (.cells A 27)).alloc (.cells A2 27) = W at *
    go_wp2_with (first
          | ((with_reducible (show wpList _ _ _ (Oper.mk (some 13) (Op.load 24 _) _ _ _ _ :: _) _ _)); refine wpList_load_g (by rfl) 24 _ rfl _ rfl CA.out ?_)
          | ((with_reducible (show wpList _ _ _ (Oper.mk (some 15) (Op.load 24 _) _ _ _ _ :: _) _ _)); refine wpList_load_g (by rfl) 24 _ rfl _ rfl CB.out ?_)
          | (go_at_call 76; refine (HI.out _ F.out).mono ?_; rintro e w1 ⟨rfl, f1⟩))
    go_ret
    exact ⟨by simp_all, F.out⟩
  have e0 : (t.next == u.next) = true := by simpa using q0
  have e0' : (t.next != u.next) = false := by simpa [bne] using q0
  clear q0
  cases q1 : curEq t.cur u.cur with
  | false =>
    rw [q1] at hq
    rw [e0]
    clear e0
    go_enter Tryz.func27, Tryz.ntmps27
    go_upto_region 1 with (fail)
    generalize w.heap.size = g at *
    generalize (w.alloc (.cells A 27)).alloc (.cells A2 27) = W at *
    go_wp2_with (first
          | ((with_reducible (show wpList _ _ _ (Oper.mk (some 13) (Op.load 24 _) _ _ _ _ :: _) _ _)); refine wpList_load_g (by rfl) 24 _ rfl _ rfl CA.out ?_)
          | ((with_reducible (show wpList _ _ _ (Oper.mk (some 15) (Op.load 24 _) _ _ _ _ :: _) _ _)); refine wpList_load_g (by rfl) 24 _ rfl _ rfl CB.out ?_)
          | (go_at_call 76; refine (HI.out _ F.out).mono ?_; rintro e w1 ⟨rfl, f1⟩))
    go_ret
    exact ⟨by simp_all, F.out⟩
  | true =>
    rw [q1] at hq
    by_cases q2 : t.recs.length = u.recs.length
    rotate_left
    · have e2 : (((t.recs.length : Nat) : Int) != ((u.recs.length : Nat) : Int)) = true := by simp [bne]; omega
      rw [e0, all2_len q2]
      clear q2 e0
      go_enter Tryz.func27, Tryz.ntmps27
      go_upto_region 1 with (fail)
      generalize w.heap.size = g at *
      generalize (w.alloc (.cells A 27)).alloc (.cells A2 27) = W at *
      go_wp2_with (first
            | ((with_reducible (show wpList _ _ _ (Oper.mk (some 13) (Op.load 24 _) _ _ _ _ :: _) _ _)); refine wpList_load_g (by rfl) 24 _ rfl _ rfl CA.out ?_)
            | ((with_reducible (show wpList _ _ _ (Oper.mk (some 15) (Op.load 24 _) _ _ _ _ :: _) _ _)); refine wpList_load_g (by rfl) 24 _ rfl _ rfl CB.out ?_)
            | (go_at_call 76; refine (HI.out _ F.out).mono ?_; rintro e w1 ⟨rfl, f1⟩))
      go_ret
      exact ⟨by simp_all, F.out⟩
    have e2 : (((t.recs.length : Nat) : Int) != ((u.recs.length : Nat) : Int)) = false := by simp [bne]; omega
    have QL := Lib.hid q2
    clear q2
    cases q3 : (t.lives == u.lives) with
    | false =>
      rw [q3] at HI
      clear q3 e0
      go_enter Tryz.func27, Tryz.ntmps27
      go_upto_region 1 with (fail)
      generalize w.heap.size = g at *
      generalize (w.alloc (.cells A 27)).alloc (.cells A2 27) = W at *
      go_wp2_with (first
            | ((with_reducible (show wpList _ _ _ (Oper.mk (some 13) (Op.load 24 _) _ _ _ _ :: _) _ _)); refine wpList_load_g (by rfl) 24 _ rfl _ rfl CA.out ?_)
            | ((with_reducible (show wpList _ _ _ (Oper.mk (some 15) (Op.load 24 _) _ _ _ _ :: _) _ _)); refine wpList_load_g (by rfl) 24 _ rfl _ rfl CB.out ?_)
            | (go_at_call 76; refine (HI.out _ F.out).mono ?_; rintro e w1 ⟨rfl, f1⟩))
      go_ret
      exact ⟨by simp, F.out.trans f1 (by simp)⟩
    | true =>
      rw [q3] at HI
      rw [e0]
      clear q3 e0
      simp only [Bool.true_and, Bool.and_true]
      go_enter Tryz.func27, Tryz.ntmps27
      go_upto_region 1 with (fail)
      generalize w.heap.size = g at *
      generalize (w.alloc (.cells A 27)).alloc (.cells A2 27) = W at *
      go_upto_region 4 with (first
            | ((with_reducible (show wpList _ _ _ (Oper.mk (some 13) (Op.load 24 _) _ _ _ _ :: _) _ _)); refine wpList_load_g (by rfl) 24 _ rfl _ rfl CA.out ?_)
            | ((with_reducible (show wpList _ _ _ (Oper.mk (some 15) (Op.load 24 _) _ _ _ _ :: _) _ _)); refine wpList_load_g (by rfl) 24 _ rfl _ rfl CB.out ?_)
            | (go_at_call 76; refine (HI.out _ F.out).mono ?_; rintro e w1 ⟨rfl, f1⟩))
      have FB := Lib.hid f1
      clear f1
      go_loopw [5] (A2Rel sameR t.recs u.recs W) (fun c _ => t.recs.length - (intOf c).toNat)
      case atStart => exact ⟨0, Nat.zero_le _, rfl, fun j _ _ hj => by omega, FB.out⟩
      case round =>
        obtain ⟨k, hk, rfl, hz, f⟩ := hrel
        have HZ := Lib.hid hz
        have FW := Lib.hid f
        have c1 := (HB1.out _ f).recs
        have d1 := (HB2.out _ f).recs
        have XA := Lib.hid (fun z (fz : Frm [] wr z) => (HB1.out _ (f.trans fz (by simp))).recs)
        have XB := Lib.hid (fun z (fz : Frm [] wr z) => (HB2.out _ (f.trans fz (by simp))).recs)
        clear hz f a0 b0 a1 b1 a6 b6
        by_cases hkl : k < t.recs.length
        · have hkm : k < u.recs.length := by have := QL.out; omega
          have hkl9 : (k : Int) < (t.recs.length : Int) := by omega
          have hkm9 : (k : Int) < (u.recs.length : Int) := by omega
          obtain ⟨pb, po, pc', e1⟩ := H1.out.at (by omega)
          obtain ⟨rb, ro, rc', e2⟩ := K1.out.at (by omega)
          injection e1 with e1 e1' e1''
          injection e2 with e2 e2' e2''
          subst e1 e2
          have fw : Frm [] w wr := F.out.trans FW.out (by simp)
          obtain ⟨xa, xc, GV1⟩ := (H1.out.keep0 fw).getsF k hkl
          obtain ⟨ya, yc, GV2⟩ := (K1.out.keep0 fw).getsF k hkm
          have L1 := Lib.hid (fun z (f : Frm [] wr z) => (GV1 z f).1.all)
          have L2 := Lib.hid (fun z (f : Frm [] wr z) => (GV2 z f).1.all)
          have HC := Lib.hid (fun z (f : Frm [] wr z) => SameRecord_any _ _ _ _ z (GV1 z f).2 (GV2 z f).2 (HF.out.all _ (List.getElem_mem hkl)))
          have HM := Lib.hid (fun (hb : sameR t.recs[k] u.recs[k] = true) => a2_more HZ.out hkl hkm hb)
          have HNO := Lib.hid (fun (hb : sameR t.recs[k] u.recs[k] = false) => all2_no (f := sameR) hkl hkm hb)
          generalize sameR t.recs[k] u.recs[k] = sb at *
          clear GV1 GV2 fw e1' e1'' e2' e2''
          generalize t.recs[k] = x at *
          generalize u.recs[k] = y at *
          generalize rv (.slice xa x.root.ads.length xc) x = ux at *
          generalize rv (.slice ya y.root.ads.length yc) y = uy at *
          go_wp2_with fail
          refine wp_region_held_drew (S := fun z => Frm [] wr z) (by kernel_rfl) ((Frm.refl [] wr).drew) (fun hHeld => ?_)
          refine wpAnyH_take (i := 0) (oi := ⟨some 42, .fieldAddr 27 (.tmp 2) 1, _, _, _, none⟩) (v := ?_) rfl (by kernel_rfl) (by kernel_rfl) (by kernel_rfl) (fun _ _ _ h => h) (Or.inl ⟨by rfl, ?_⟩) hHeld ?_
          rotate_left
          focus (intro z hSw; clear hSw; go_simp; try with_reducible rfl)
          try simp only [Act.put, List.setIfInBounds_toArray, List.set_cons_zero, List.set_cons_succ]
          refine wpAnyH_take (i := 1) (oi := ⟨some 43, .load 22 (.tmp 42), _, _, _, none⟩) (v := ?_) rfl (by kernel_rfl) (by kernel_rfl) (by kernel_rfl) (fun _ _ _ h => h) (Or.inl ⟨by rfl, ?_⟩) hHeld ?_
          rotate_left
          focus (intro z hSw; have ct := XA.out z hSw; have cq := XB.out z hSw; clear hSw; go_simp; try with_reducible rfl)
          try simp only [Act.put, List.setIfInBounds_toArray, List.set_cons_zero, List.set_cons_succ]
          refine wpAnyH_take (i := 2) (oi := ⟨some 44, .move (.tmp 5), _, _, _, none⟩) (v := ?_) rfl (by kernel_rfl) (by kernel_rfl) (by kernel_rfl) (fun _ _ _ h => h) (Or.inl ⟨by rfl, ?_⟩) hHeld ?_
          rotate_left
          focus (intro z hSw; clear hSw; go_simp; try with_reducible rfl)
          try simp only [Act.put, List.setIfInBounds_toArray, List.set_cons_zero, List.set_cons_succ]
          refine wpAnyH_take (i := 3) (oi := ⟨some 45, .indexAddr 22 (.tmp 43) (.tmp 44), _, _, _, none⟩) (v := ?_) rfl (by kernel_rfl) (by kernel_rfl) (by kernel_rfl) (fun _ _ _ h => h) (Or.inl ⟨by rfl, ?_⟩) hHeld ?_
          rotate_left
          focus (intro z hSw; clear hSw; go_simp; try with_reducible rfl)
          try simp only [Act.put, List.setIfInBounds_toArray, List.set_cons_zero, List.set_cons_succ]
          refine wpAnyH_take (i := 4) (oi := ⟨some 46, .load 56 (.tmp 45), _, _, _, none⟩) rfl (by kernel_rfl) (by kernel_rfl) (by kernel_rfl) (fun _ _ _ h => h) (yieldsIf_ld (by rfl) 56 _ rfl _ rfl (fun z hSw => L1.out z hSw)) hHeld ?_
          try simp only [Act.put, List.setIfInBounds_toArray, List.set_cons_zero, List.set_cons_succ]
          refine wpAnyH_take (i := 5) (oi := ⟨some 47, .fieldAddr 27 (.tmp 3) 1, _, _, _, none⟩) (v := ?_) rfl (by kernel_rfl) (by kernel_rfl) (by kernel_rfl) (fun _ _ _ h => h) (Or.inl ⟨by rfl, ?_⟩) hHeld ?_
          rotate_left
          focus (intro z hSw; clear hSw; go_simp; try with_reducible rfl)
          try simp only [Act.put, List.setIfInBounds_toArray, List.set_cons_zero, List.set_cons_succ]
          refine wpAnyH_take (i := 6) (oi := ⟨some 48, .load 22 (.tmp 47), _, _, _, none⟩) (v := ?_) rfl (by kernel_rfl) (by kernel_rfl) (by kernel_rfl) (fun _ _ _ h => h) (Or.inl ⟨by rfl, ?_⟩) hHeld ?_
          rotate_left
          focus (intro z hSw; have ct := XA.out z hSw; have cq := XB.out z hSw; clear hSw; go_simp; try with_reducible rfl)
          try simp only [Act.put, List.setIfInBounds_toArray, List.set_cons_zero, List.set_cons_succ]
          refine wpAnyH_take (i := 7) (oi := ⟨some 49, .move (.tmp 5), _, _, _, none⟩) (v := ?_) rfl (by kernel_rfl) (by kernel_rfl) (by kernel_rfl) (fun _ _ _ h => h) (Or.inl ⟨by rfl, ?_⟩) hHeld ?_
          rotate_left
          focus (intro z hSw; clear hSw; go_simp; try with_reducible rfl)
          try simp only [Act.put, List.setIfInBounds_toArray, List.set_cons_zero, List.set_cons_succ]
          refine wpAnyH_take (i := 8) (oi := ⟨some 50, .indexAddr 22 (.tmp 48) (.tmp 49), _, _, _, none⟩) (v := ?_) rfl (by kernel_rfl) (by kernel_rfl) (by kernel_rfl) (fun _ _ _ h => h) (Or.inl ⟨by rfl, ?_⟩) hHeld ?_
          rotate_left
          focus (intro z hSw; clear hSw; go_simp; try with_reducible rfl)
          try simp only [Act.put, List.setIfInBounds_toArray, List.set_cons_zero, List.set_cons_succ]
          refine wpAnyH_take (i := 9) (oi := ⟨some 51, .load 56 (.tmp 50), _, _, _, none⟩) rfl (by kernel_rfl) (by kernel_rfl) (by kernel_rfl) (fun _ _ _ h => h) (yieldsIf_ld (by rfl) 56 _ rfl _ rfl (fun z hSw => L2.out z hSw)) hHeld ?_
          try simp only [Act.put, List.setIfInBounds_toArray, List.set_cons_zero, List.set_cons_succ]
          refine wpAnyH_ready (rs := [10]) (by kernel_rfl) (by simp) ?_
          refine AllReadyH.cons (o := ⟨some 52, .call { callee := .value (.func 57), args := #[.tmp 46, .tmp 51], argTypes := #[56, 56] }, _, _, _, none⟩) rfl (fun K hK => ?_) AllReadyH.nil
          go_simp
          refine (HC.out _ hHeld).mono ?_
          rintro r wn ⟨rfl, fn⟩
          refine hK.out _ _ ?_ (fun hNext => ?_)
          · exact hHeld.trans fn (by simp)
          clear hK K hHeld
          have hHeld := hNext
          clear hNext
          try simp only [Act.put, List.setIfInBounds_toArray, List.set_cons_zero, List.set_cons_succ]
          refine wpAnyH_take (i := 11) (oi := ⟨some 53, .unOp .not 4 (.tmp 52), _, _, _, none⟩) (v := ?_) rfl (by kernel_rfl) (by kernel_rfl) (by kernel_rfl) (fun _ _ _ h => h) (Or.inl ⟨by rfl, ?_⟩) hHeld ?_
          rotate_left
          focus (intro z hSw; clear hSw; go_simp; try with_reducible rfl)
          try simp only [Act.put, List.setIfInBounds_toArray, List.set_cons_zero, List.set_cons_succ]
          refine wpAnyH_done (by kernel_rfl) ?_ _
          cases sb with
          | true =>
            go_wp2_with fail
            go_roundw
            case rel => exact ⟨k + 1, by omega, by go_num, HM.out (by simp), FW.out.trans hHeld (by simp)⟩
            case measure => simp [intOf]; omega
          | false =>
            have en := HNO.out (by simp)
            go_wp2_with fail
            go_ret
            exact ⟨by first | rfl | (rw [en]; rfl) | (simp [en]), F.out.trans (FW.out.trans hHeld (by simp)) (by simp)⟩
        · obtain rfl : k = t.recs.length := by omega
          have e := all2_yes QL.out (fun j hj h2 => HZ.out j hj h2 hj)
          go_wp2_with fail
          go_ret
          exact ⟨by first | rfl | (rw [e]; rfl), F.out.trans FW.out (by simp)⟩
end Go.Proofs.YtljhanhipmnioaaGreat.Rd

namespace Go.Proofs.YtljhanhipmnioaaGreat.Rd
open Go.RowKit
set_option linter.unusedVariables false
set_option linter.unusedSimpArgs false
set_option maxRecDepth 100000

open Pt (Pt may enc readPt readE zeroPt be4 be1 pc pv PtV SlA OwnA BT wpList_load_g heap_alloc_at lst_slB one_slB Ext Grew exec_slice_lh yieldsIf_ld)
open Kr (OwnE SlE Enco RowTys)

def bareT : Tab := ⟨2, [], zeroC, [0, 0]⟩
def oneR : Rec := ⟨1, { data := #[97] }, 1, 1, Pt.zeroPt, 1, 0, 0, 0, 0⟩
def oneT : Tab := ⟨2, [oneR], zeroC, [0, 0]⟩
theorem oneR_s : oneR.root.s.length = 32 := by kernel_rfl
theorem bld27b (n : Int) (x : Option Addr) (y z : Nat) (W : World) : (Instr.build 27 #[(0, .int .i64 n), (3, .slice x y z)]).run Tryz.prog W = .ok (tv nilS (.slice x y z) ⟨n, [], zeroC, []⟩) W := by kernel_rfl
theorem exec_bld27b {o : Oper} {a : Act} {n : Int} {x : Option Addr} {y z : Nat} (p r : Operand) (hop : o.op = Op.build 27 #[(0, p), (3, r)]) (h1 : a.eval p = .int .i64 n) (h3 : a.eval r = .slice x y z) (W : World) : (execOp a.eval o).run Tryz.prog W = .ok (.value (tv nilS (.slice x y z) ⟨n, [], zeroC, []⟩)) W := by
  have hb := bld27b n x y z W
  have hm : (#[(0, p), (3, r)].map fun ((i, x) : Nat × Operand) => (i, a.eval x)) = #[(0, .int .i64 n), (3, .slice x y z)] := by simp [h1, h3]
  simp only [execOp, hop, hm, Sem.run_bind, Sem.run_pure, hb, Result.andThen_ok]
/-- The table without records, just so. -/
def BareX (w : World) (e : Ending) (w' : World) : Prop := ∃ gl, e = .returned (tv nilS (.slice (some ⟨gl, 0, none⟩) 2 2) bareT) ∧ w'.heap[gl]? = some (.cells #[.int .i64 0, .int .i64 0] 3 (0, 0)) ∧ w.heap.size ≤ gl ∧ Frm [] w w'
theorem BareX.tell {w w' : World} {e : Ending} (h : BareX w e w') : TellT bareT w e w' := by
  obtain ⟨gl, rfl, h1, h2, f⟩ := h
  exact ⟨nilS, _, rfl, ⟨[], [], [], (Tl.nil w').base f.size, OwnE.of_heap encI (l := [0, 0]) (sp := []) h1 rfl (Nat.le_refl _) rfl (by simp [maxLen]), fun i hi => ⟨by simp [blk] at hi; omega, by simp⟩⟩, f⟩
set_option maxHeartbeats 4000000 in
theorem bareX_any (w : World) : Calls Tryz.prog 33 #[] w (BareX w) := by
  have h0 := TB.new w nilS nilS zeroT
  have f0 : Frm [] w (w.alloc (.cells (tc nilS nilS zeroT).toArray 27)) := (Frm.refl [] w).alloc _
  obtain ⟨W, hW⟩ : ∃ W, w.alloc (.cells (tc nilS nilS zeroT).toArray 27) = W := ⟨_, rfl⟩
  rw [hW] at h0 f0
  have HW := Lib.hid hW
  go_enter Tryz.func33, Tryz.ntmps33
  go_upto_region 1 with ((with_reducible (show wpList _ _ _ (Oper.mk _ (Op.alloc 27) _ _ _ _ :: _) _ _)); refine wpList_val rfl (exec_alloc27 rfl _) ?_)
  rw [HW.out]
  have hlt := h0.lt
  have H0 := Lib.hid h0
  have F0 := Lib.hid f0
  have HLT := Lib.hid hlt
  clear h0 f0 hW hlt
  have f1 : Frm [] W (W.alloc (.cells #[.int .i64 0, .int .i64 0] 3)) := (Frm.refl [] W).alloc _
  have O1 := Lib.hid (show OwnE eI 1 3 (W.alloc (.cells #[.int .i64 0, .int .i64 0] 3)) (.slice (some ⟨W.heap.size, 0, none⟩) 2 2) ([0, 0] : List Int) [] from OwnE.of_heap encI (heap_alloc_new _ _) rfl (Nat.le_refl _) rfl (by simp [maxLen]))
  have F1 := Lib.hid f1
  clear f1
  go_wp2_with (first
    | ((with_reducible (show wpList _ _ _ (Oper.mk _ (Op.build 27 _) _ _ _ _ :: _) _ _)); refine wpList_val rfl (exec_bld27b (.const (.int .i64 2)) (.tmp 1) rfl rfl rfl _) ?_)
    | ((with_reducible (show wpList _ _ _ (Oper.mk _ (Op.store 27 _ _) _ _ _ _ :: _) _ _)); refine wpList_store27 rfl (.tmp 0) (.tmp 2) rfl rfl rfl (H0.out.keep0 F1.out) rfl rfl ?_; intro V m f))
  refine bodyPost_ret (results_cell_row (p := 0) rfl _ _ w.heap.size 27 _ (0, 0) _ rfl m Tryz.underlying27 rfl (by rw [i27]; simp [tc])) rfl ?_
  have hs : w.heap.size ≤ V.heap.size := Nat.le_trans (Nat.le_trans F0.out.size F1.out.size) f.size
  exact ⟨W.heap.size, rfl, f.heap (heap_alloc_new W (.cells #[.int .i64 0, .int .i64 0] 3)) (by have := HLT.out; simp; omega), by have := F0.out.size; omega, ((F0.out.trans F1.out (by simp)).trans f (fun i hi => by simp at hi; omega))⟩
theorem bare_any (w : World) : Calls Tryz.prog 33 #[] w (TellT bareT w) := (bareX_any w).mono fun _ _ h => h.tell
theorem bld56o (W : World) : (Instr.build 56 #[(0, .int .i64 1), (1, .string { data := #[97] }), (2, .int .i64 1), (3, .int .i64 1), (5, .int .i64 1)]).run Tryz.prog W = .ok (rv nilS oneR) W := by kernel_rfl
theorem exec_bld56o {o : Oper} {a : Act} (s1 s2 s3 s4 s5 : Operand) (hop : o.op = Op.build 56 #[(0, s1), (1, s2), (2, s3), (3, s4), (5, s5)]) (h1 : a.eval s1 = .int .i64 1) (h2 : a.eval s2 = .string { data := #[97] }) (h3 : a.eval s3 = .int .i64 1) (h4 : a.eval s4 = .int .i64 1) (h5 : a.eval s5 = .int .i64 1) (W : World) : (execOp a.eval o).run Tryz.prog W = .ok (.value (rv nilS oneR)) W := by
  have hb := bld56o W
  have hm : (#[(0, s1), (1, s2), (2, s3), (3, s4), (5, s5)].map fun ((i, x) : Nat × Operand) => (i, a.eval x)) = #[(0, .int .i64 1), (1, .string { data := #[97] }), (2, .int .i64 1), (3, .int .i64 1), (5, .int .i64 1)] := by simp [h1, h2, h3, h4, h5]
  simp only [execOp, hop, hm, Sem.run_bind, Sem.run_pure, hb, Result.andThen_ok]
/-- A list of one record without addresses, in a block of its own. -/
theorem Tl.single {w0 w : World} {g : Nat} {x : Rec} (hx : x.root.ads = []) (hs : x.root.s.length = 32) (h : w.heap[g]? = some (.cells (rowR nilS rfl x hs).1.toArray 56 (0, 0))) (h0 : w0.heap.size ≤ g) : Tl w0 w (.slice (some ⟨g, 0, none⟩) 1 1) [x] [rowR nilS rfl x hs] [g] where
  own := ⟨[], OwnE.of_heap encRow (by rw [Kr.flt_one, List.append_nil]; exact h) rfl (Nat.le_refl _) (by simp) (by simp [maxLen])⟩
  len := rfl
  row i r u h1 h2 := by
    match i with
    | 0 =>
      simp at h1 h2
      subst h1; subst h2
      exact ⟨none, 0, [], by rw [hx]; rfl, by rw [hx]; exact OwnA.nil _ _, hs⟩
    | i + 1 => simp at h1
  sep i j r s hij h1 h2 := by
    match i, j with
    | 0, 0 => exact absurd rfl hij
    | i + 1, _ => simp at h1
    | 0, j + 1 => simp at h2
  vsep i r h1 k hk := by
    match i with
    | 0 =>
      simp at h1
      subst h1
      rw [rb_rc (v := nilS) (u := x) rfl] at hk
      simp [nilS, blk] at hk
    | i + 1 => simp at h1
  inv k hk := by simpa [blk] using hk
  inr i r h1 k hk := by
    match i with
    | 0 =>
      simp at h1
      subst h1
      rw [rb_rc (v := nilS) (u := x) rfl] at hk
      simp [nilS, blk] at hk
    | i + 1 => simp at h1
  lo k hk := by
    simp at hk
    subst hk
    exact ⟨h0, lt_heap h⟩
/-- The table with a volume, just so. -/
def OneX (w : World) (e : Ending) (w' : World) : Prop := ∃ gb gl, e = .returned (tv (.slice (some ⟨gb, 0, none⟩) 1 1) (.slice (some ⟨gl, 0, none⟩) 2 2) oneT) ∧ RB w' gb nilS oneR ∧ w'.heap[gl]? = some (.cells #[.int .i64 0, .int .i64 0] 3 (0, 0)) ∧ w.heap.size ≤ gl ∧ gl < gb ∧ Frm [] w w'
theorem OneX.tell {w w' : World} {e : Ending} (h : OneX w e w') : TellT oneT w e w' := by
  obtain ⟨gb, gl, rfl, h1, h2, h3, h4, f⟩ := h
  exact ⟨_, _, rfl, ⟨_, _, [], Tl.single rfl h1.2 h1.1 (by omega), OwnE.of_heap encI (l := [0, 0]) (sp := []) h2 rfl (Nat.le_refl _) rfl (by simp [maxLen]), fun i hi => ⟨by simp [blk] at hi; omega, by simp [blk] at hi; simp; omega⟩⟩, f⟩
set_option maxHeartbeats 8000000 in
theorem oneX_any (w : World) : Calls Tryz.prog 34 #[] w (OneX w) := by
  have h0 := TB.new w nilS nilS zeroT
  have f0 : Frm [] w (w.alloc (.cells (tc nilS nilS zeroT).toArray 27)) := (Frm.refl [] w).alloc _
  obtain ⟨W, hW⟩ : ∃ W, w.alloc (.cells (tc nilS nilS zeroT).toArray 27) = W := ⟨_, rfl⟩
  rw [hW] at h0 f0
  have HW := Lib.hid hW
  go_enter Tryz.func34, Tryz.ntmps34
  go_upto_region 1 with ((with_reducible (show wpList _ _ _ (Oper.mk _ (Op.alloc 27) _ _ _ _ :: _) _ _)); refine wpList_val rfl (exec_alloc27 rfl _) ?_)
  rw [HW.out]
  have HLT := Lib.hid h0.lt
  have H0 := Lib.hid h0
  have F0 := Lib.hid f0
  have HBA := Lib.hid (bareX_any W)
  unfold BareX at HBA
  clear h0 f0 hW
  go_upto_region 2 with (first
    | (go_at_call 33; refine HBA.out.mono ?_; rintro e w1 ⟨gl, rfl, own1, ngl, f1⟩; have a1 := TB.new w1 nilS nilS zeroT; have k1 : Frm [] w1 (w1.alloc (.cells (tc nilS nilS zeroT).toArray 27)) := (Frm.refl [] w1).alloc _; obtain ⟨V1, hV1⟩ : ∃ V1, w1.alloc (.cells (tc nilS nilS zeroT).toArray 27) = V1 := ⟨_, rfl⟩)
    | ((with_reducible (show wpList _ _ _ (Oper.mk _ (Op.alloc 27) _ _ _ _ :: _) _ _)); refine wpList_val rfl (exec_alloc27 rfl _) ?_; rw [hV1] at a1 k1 ⊢; clear hV1)
    | ((with_reducible (show wpList _ _ _ (Oper.mk _ (Op.store 27 _ _) _ _ _ _ :: _) _ _)); refine wpList_store27 (vr := nilS) (vl := .slice (some ⟨gl, 0, none⟩) 2 2) (t := bareT) rfl (.tmp 1) (.tmp 2) rfl rfl rfl a1 rfl rfl ?_; intro V2 m2 f2))
  have f12 : Frm [w1.heap.size] w1 V2 := (k1.mono (by simp)).trans f2 (by simp)
  have OL := Lib.hid (f12.heap own1 (by have := lt_heap own1; simp; omega))
  have NL := Lib.hid (show W.heap.size ≤ gl ∧ gl < w1.heap.size from ⟨ngl, lt_heap own1⟩)
  have F12 := Lib.hid f12
  have F1 := Lib.hid f1
  have M2 := Lib.hid m2
  clear f12 f2 k1 a1 f1 own1 ngl m2
  obtain ⟨V3, hV3⟩ : ∃ V3, V2.alloc (.cells (rc nilS oneR).toArray 56) = V3 := ⟨_, rfl⟩
  have k3 : Frm [] V2 V3 := by rw [← hV3]; exact (Frm.refl [] V2).alloc _
  have h3 : V3.heap[V2.heap.size]? = some (.cells (rowR nilS rfl oneR oneR_s).1.toArray 56 (0, 0)) := by rw [← hV3]; exact heap_alloc_new _ _
  have m3 := M2.out.keep0 k3
  have e3 := m3.gets.recs
  have z3 := m3.fz 1
  have HV3 := Lib.hid hV3
  have K3 := Lib.hid k3
  have H3 := Lib.hid h3
  have M3 := Lib.hid m3
  clear hV3 k3 h3 m3
  go_upto_region 3 with (first
    | ((with_reducible (show wpList _ _ _ (Oper.mk _ (Op.build 56 _) _ _ _ _ :: _) _ _)); refine wpList_val rfl (exec_bld56o (.const (.int .i64 1)) _ _ _ _ rfl rfl rfl rfl rfl rfl _) ?_)
    | ((with_reducible (show wpList _ _ _ (Oper.mk _ (Op.buildSlice 22 1 _) _ _ _ _ :: _) _ _)); refine Great.wpList_buildSliceTo rfl 22 56 1 #[(0, .tmp 3)] rfl V2.heap.size rfl (some 4) rfl Tryz.underlying22 (rc nilS oneR).toArray (by simp only [List.map_toArray, List.map_cons, List.map_nil]; exact built56 (rc_length oneR_s)) ?_; rw [HV3.out]))
  have f4 : Frm [w1.heap.size] V3 (V3.setCell ⟨w1.heap.size, 1, none⟩ (.slice (some ⟨V2.heap.size, 0, none⟩) 1 1)) := (Frm.refl _ _).setCell _ _ (.inl (by simp))
  have m4 : TB (V3.setCell ⟨w1.heap.size, 1, none⟩ (.slice (some ⟨V2.heap.size, 0, none⟩) 1 1)) w1.heap.size (.slice (some ⟨V2.heap.size, 0, none⟩) 1 1) (.slice (some ⟨gl, 0, none⟩) 2 2) oneT := TB.setRecs M3.out _ [oneR]
  have LA := Lib.hid m4.gets.all
  have F4 := Lib.hid f4
  have LTS := Lib.hid (show w.heap.size < W.heap.size ∧ W.heap.size ≤ w1.heap.size ∧ w1.heap.size < V2.heap.size ∧ V2.heap.size < V3.heap.size from ⟨HLT.out, F1.out.size, M2.out.lt, lt_heap H3.out⟩)
  have R0 := Lib.hid ((((H0.out.keep0 F1.out).keep F12.out (by have := LTS.out; simp; omega)).keep0 K3.out).keep f4 (by have := LTS.out; simp; omega))
  have H4 := Lib.hid (f4.heap H3.out (by have := LTS.out; simp; omega))
  have OL4 := Lib.hid (f4.heap (K3.out.heap OL.out (by simp)) (by have := NL.out; simp; omega))
  clear f4 m4 e3 z3
  generalize V3.setCell ⟨w1.heap.size, 1, none⟩ (.slice (some ⟨V2.heap.size, 0, none⟩) 1 1) = V4 at *
  go_wp2_with (first
    | ((with_reducible (show wpList _ _ _ (Oper.mk _ (Op.load 27 _) _ _ _ _ :: _) _ _)); refine wpList_load_g (by rfl) 27 _ rfl _ rfl LA.out ?_)
    | ((with_reducible (show wpList _ _ _ (Oper.mk _ (Op.store 27 _ _) _ _ _ _ :: _) _ _)); refine wpList_store27 (vr := .slice (some ⟨V2.heap.size, 0, none⟩) 1 1) (vl := .slice (some ⟨gl, 0, none⟩) 2 2) (t := oneT) rfl (.tmp 0) (.tmp 6) rfl rfl rfl R0.out rfl rfl ?_; intro V m f))
  refine bodyPost_ret (results_cell_row (p := 0) rfl _ _ w.heap.size 27 _ (0, 0) _ rfl m Tryz.underlying27 rfl (by rw [i27]; simp [tc])) rfl ?_
  refine ⟨V2.heap.size, gl, rfl, ⟨f.heap H4.out (by have := LTS.out; simp; omega), oneR_s⟩, f.heap OL4.out (by have := NL.out; have := LTS.out; simp; omega), by have := NL.out; have := LTS.out; omega, by have := NL.out; have := LTS.out; omega, ?_⟩
  exact (((((F0.out.trans F1.out (by simp)).trans F12.out (fun i hi => by have := LTS.out; simp at hi; omega)).trans K3.out (by simp)).trans F4.out (fun i hi => by have := LTS.out; simp at hi; omega)).trans f (fun i hi => by simp at hi; omega))
theorem oneT_any (w : World) : Calls Tryz.prog 34 #[] w (TellT oneT w) := (oneX_any w).mono fun _ _ h => h.tell
theorem alloc44 (W : World) : (Instr.alloc 44 true (.tuple #[])).run Tryz.prog W = .ok (.pointer (some ⟨W.heap.size, 0, none⟩)) (W.alloc (.cells #[.int .i64 0, .int .i64 0] 44)) := by kernel_rfl
theorem exec_alloc44 {o : Oper} {a : Act} (hop : o.op = Op.alloc 44) (W : World) : (execOp a.eval o).run Tryz.prog W = .ok (.value (.pointer (some ⟨W.heap.size, 0, none⟩))) (W.alloc (.cells #[.int .i64 0, .int .i64 0] 44)) := by
  have h := alloc44 W
  generalize W.alloc (.cells #[.int .i64 0, .int .i64 0] 44) = W2 at *
  simp only [execOp, hop, Sem.run_bind, Sem.run_pure, h, Result.andThen_ok]
/-- What a call of Read tells, laid into two variables. -/
theorem wpList_layTF {ops : Array Oper} {rest : List Oper} {o1 o2 o3 o4 : Oper} {a : Act} {W : World} {Q : Exit → Act → World → Prop} (g1 : o1.guard = none) (g2 : o2.guard = none) (g3 : o3.guard = none) (g4 : o4.guard = none)
    (h1 : o1.op = .alloc 27) (h2 : o2.op = .alloc 44) (p q x y : Operand) (h3 : o3.op = .store 27 p x) (h4 : o4.op = .store 44 q y) {vr vl : Value} {t : Tab} {e f : Int} (k1 : vr.oneCell' = true) (k2 : vl.oneCell' = true)
    (e1 : ((a.put o1.dst (.pointer (some ⟨W.heap.size, 0, none⟩))).put o2.dst (.pointer (some ⟨W.heap.size + 1, 0, none⟩))).eval p = .pointer (some ⟨W.heap.size, 0, none⟩))
    (e2 : ((a.put o1.dst (.pointer (some ⟨W.heap.size, 0, none⟩))).put o2.dst (.pointer (some ⟨W.heap.size + 1, 0, none⟩))).eval x = tv vr vl t)
    (e3 : (((a.put o1.dst (.pointer (some ⟨W.heap.size, 0, none⟩))).put o2.dst (.pointer (some ⟨W.heap.size + 1, 0, none⟩))).put o3.dst undef).eval q = .pointer (some ⟨W.heap.size + 1, 0, none⟩))
    (e4 : (((a.put o1.dst (.pointer (some ⟨W.heap.size, 0, none⟩))).put o2.dst (.pointer (some ⟨W.heap.size + 1, 0, none⟩))).put o3.dst undef).eval y = .agg #[.int .i64 e, .int .i64 f])
    (k : ∀ V, TB V W.heap.size vr vl t → V.heap[W.heap.size + 1]? = some (.cells #[.int .i64 e, .int .i64 f] 44 (0, 0)) → Frm [] W V → wpList Tryz.prog ops Q rest ((((a.put o1.dst (.pointer (some ⟨W.heap.size, 0, none⟩))).put o2.dst (.pointer (some ⟨W.heap.size + 1, 0, none⟩))).put o3.dst undef).put o4.dst undef) V) :
    wpList Tryz.prog ops Q (o1 :: o2 :: o3 :: o4 :: rest) a W := by
  refine wpList_val g1 (exec_alloc27 h1 _) ?_
  refine wpList_val g2 (exec_alloc44 h2 _) ?_
  have hsz : (W.alloc (.cells (tc nilS nilS zeroT).toArray 27)).heap.size = W.heap.size + 1 := by simp
  rw [hsz]
  have fa : Frm [] W (W.alloc (.cells (tc nilS nilS zeroT).toArray 27)) := (Frm.refl [] W).alloc _
  have fb : Frm [] (W.alloc (.cells (tc nilS nilS zeroT).toArray 27)) ((W.alloc (.cells (tc nilS nilS zeroT).toArray 27)).alloc (.cells #[.int .i64 0, .int .i64 0] 44)) := (Frm.refl [] _).alloc _
  refine wpList_finT (t := t) (t0 := zeroT) (vr0 := nilS) (vl0 := nilS) (e0 := 0) (f0 := 0) (g1 := W.heap.size) (g2 := W.heap.size + 1) g3 g4 p q x y h3 h4 k1 k2 ((TB.new W nilS nilS zeroT).keep0 fb) (heap_alloc_at hsz.symm) (by omega) e1 e2 e3 e4 ?_
  intro V b1 b2 f
  exact k V b1 b2 ((fa.trans fb (by simp)).trans f (fun i hi => by simp at hi; omega))
theorem wpList_val_g {P : Program} {w w' : World} {ops : Array Oper} {rest : List Oper} {o : Oper} {a : Act} {Q : Exit → Act → World → Prop} {v : Value} (hw : Region.wanted o (yielded ops a.tmps) = true)
    (h : (execOp a.eval o).run P w = .ok (.value v) w') (k : wpList P ops Q rest (a.put o.dst v) w') : wpList P ops Q (o :: rest) a w :=
  wpList_step fun K hK => by
    rw [if_pos hw]
    unfold Oper.wp
    rw [h]
    exact hK _ _ k
set_option maxHeartbeats 8000000 in
theorem fails_yes (v : Value) (l sp : List UInt8) (e f : Int) (w : World) (hS : SlB w v l sp) (hl : l.length ≤ 1000000) (hr : readT l = (zeroT, e, f)) : Calls Tryz.prog 36 #[v, .int .i64 e, .int .i64 f] w fun r w' => r = .returned (.bool true) ∧ Frm [] w w' := by
  obtain ⟨a, cap, rfl, _, _⟩ := hS.form
  have hR := Read_any (.slice a l.length cap) l sp w hS hl
  unfold ReadO at hR
  rw [hr] at hR
  have HR := Lib.hid hR
  have hst : sameT zeroT zeroT = true := by kernel_rfl
  have HST := Lib.hid hst
  clear hS hl hr hR hst
  go_enter Tryz.func36, Tryz.ntmps36
  go_upto_region 2 with (first
    | (go_at_call 29; refine HR.out.mono ?_; rintro r w1 ⟨vr, vl, rs, B, spl, rfl, hT, hO, _, _, f1⟩)
    | (refine wpList_layTF rfl rfl rfl rfl rfl rfl (.tmp 7) (.tmp 8) (.tmp 12) (.tmp 13) rfl rfl (t := zeroT) (e := e) (f := f) (by obtain ⟨_, _, q⟩ := hT.form; rw [q]; rfl) (by obtain ⟨_, _, q, _⟩ := hO.sl.form; rw [q]; rfl) rfl rfl rfl rfl ?_; intro V b1 b2 f2))
  have LA := Lib.hid b1.gets.all
  have c0 : V.cell? ⟨w1.heap.size + 1, 0, none⟩ = some (.int .i64 e) := by rw [cell_of_heap b2]; rfl
  have c1 : V.cell? ⟨w1.heap.size + 1, 1, none⟩ = some (.int .i64 f) := by rw [cell_of_heap b2]; rfl
  have FV := Lib.hid (f1.trans f2 (by simp))
  have HS := Lib.hid (SameTable_any vr vl nilS nilS zeroT zeroT V ⟨(hT.keep0 f2).us, spl, (hO.keep0 f2).sl⟩ (TabV.zero V) fit_zero)
  rw [HST.out] at HS
  clear b1 b2 f1 f2 hT hO
  go_wp2_with (first
    | ((with_reducible (show wpList _ _ _ (Oper.mk _ (Op.load 27 _) _ _ _ _ :: _) _ _)); refine wpList_load_g (by rfl) 27 _ rfl _ rfl LA.out ?_)
    | ((with_reducible (show wpList _ _ _ (Oper.mk _ (Op.build 27 _) _ _ _ _ :: _) _ _)); refine wpList_val_g (by rfl) (exec_bld27z rfl _) ?_)
    | (go_at_call 27; refine HS.out.mono ?_; rintro r w3 ⟨rfl, f3⟩))
  go_ret
  exact ⟨rfl, FV.out.trans f3 (by simp)⟩
end Go.Proofs.YtljhanhipmnioaaGreat.Rd

namespace Go.Proofs.YtljhanhipmnioaaGreat.Rd
open Go.RowKit
set_option linter.unusedVariables false
set_option linter.unusedSimpArgs false
set_option maxRecDepth 100000

open Pt (Pt may enc readPt readE zeroPt be4 be1 pc pv PtV SlA OwnA BT wpList_load_g heap_alloc_at lst_slB one_slB Ext Grew exec_slice_lh yieldsIf_ld)
open Kr (OwnE SlE Enco RowTys)

open Pt (slice_h slice_l slice_lh exec_slice_hA exec_slice_lA)
/-- A yes that leaves all as it was. -/
def Yes (w : World) (e : Ending) (w' : World) : Prop := e = .returned (.bool true) ∧ Frm [] w w'
theorem bare_may : mayT bareT = true := by kernel_rfl
theorem one_may : mayT oneT = true := by kernel_rfl
theorem enc_bare : encT bareT = [0, 0, 0, 2, 0, 0, 0, 0, 0, 0, 0, 0, 0, 0, 0, 2, 0, 0, 0, 0, 0, 0, 0, 0] := by kernel_rfl
theorem enc_one : (encT oneT).length = 93 := by kernel_rfl
theorem fnd_a : fndV { data := #[97] } oneT.recs = .tuple #[.int .i64 0, .bool true] := by kernel_rfl
theorem fnd_b : fndV { data := #[98] } oneT.recs = .tuple #[.int .i64 0, .bool false] := by kernel_rfl
theorem read_nil : readT [] = (zeroT, 4, 0) := by kernel_rfl
theorem fit_bare : FitT bareT := ⟨by decide, by decide, by simp [bareT]⟩
theorem fit_one : FitT oneT := ⟨by decide, by decide, by intro x hx; simp [oneT] at hx; subst hx; exact ⟨by decide, by decide⟩⟩
set_option maxHeartbeats 8000000 in
theorem awake_any (w : World) : Calls Tryz.prog 15 #[] w (Yes w) := by
  have hB := Lib.hid (fun W vr vl (h : TabV W vr vl bareT) => BytesT_any vr vl bareT W h fit_bare)
  unfold BytesT at hB
  rw [(packT_yes bare_may).1, (packT_yes bare_may).2] at hB
  have hO := Lib.hid (fun W vr vl (h : TabV W vr vl oneT) => BytesT_any vr vl oneT W h fit_one)
  unfold BytesT at hO
  rw [(packT_yes one_may).1, (packT_yes one_may).2, enc_one] at hO
  have hFa := Lib.hid (fun W vr vl (h : TabV W vr vl oneT) => FindP_any vr vl oneT { data := #[97] } W h.1 fit_one.recs)
  rw [fnd_a] at hFa
  have hFb := Lib.hid (fun W vr vl (h : TabV W vr vl oneT) => FindP_any vr vl oneT { data := #[98] } W h.1 fit_one.recs)
  rw [fnd_b] at hFb
  have hlen : (encT bareT).length = 24 := by rw [enc_bare]; rfl
  have ht1 : (encT bareT).take 5 = [0, 0, 0, 2, 0] := by rw [enc_bare]; rfl
  have ht2 : (encT bareT).drop 15 = [2, 0, 0, 0, 0, 0, 0, 0, 0] := by rw [enc_bare]; rfl
  rw [hlen] at hB
  generalize encT bareT = le at *
  generalize encT oneT = lo at *
  have HLEN := Lib.hid hlen
  have HT1 := Lib.hid ht1
  have HT2 := Lib.hid ht2
  clear hlen ht1 ht2
  go_enter Tryz.func15, Tryz.ntmps15
  go_upto_region 2 with (first | (go_at_call 33; refine (bare_any _).mono ?_; rintro r w1 ⟨ar, al, rfl, o1, f1⟩) | (go_at_call 17; refine (hB.out _ _ _ o1.v).mono ?_; rintro r w2 ⟨a2, c2, sp2, rfl, o2, f2, n2⟩))
  have F2 := Lib.hid (f1.trans f2 (by simp))
  obtain ⟨a3, c3, hs3, S3⟩ := slice_h BT o2.sl 5 (by rw [HLEN.out]; omega)
  obtain ⟨a4, c4, hs4, S4⟩ := slice_l BT o2.sl 15 (by rw [HLEN.out]; omega)
  rw [HT1.out] at S3
  rw [HT2.out] at S4
  rw [HLEN.out] at hs4 S4
  have H3 := Lib.hid (fun wx => hs3 5 wx rfl)
  have H4 := Lib.hid (fun wx => hs4 15 wx rfl)
  have SS3 := Lib.hid S3
  have SS4 := Lib.hid S4
  clear hs3 hs4 S3 S4 o1 o2 f1 f2 n2
  go_upto_region 3 with (first | (go_at_call 34; refine (oneT_any _).mono ?_; rintro r w3 ⟨br, bl, rfl, o3, f3⟩) | (go_at_call 17; refine (hO.out _ _ _ o3.v).mono ?_; rintro r w4 ⟨a5, c5, sp5, rfl, o4, f4, n4⟩))
  have F4 := Lib.hid (f3.trans f4 (by simp))
  clear o3 o4 f3 f4 n4
  go_upto_region 4 with (first | (go_at_call 34; refine (oneT_any _).mono ?_; rintro r w5 ⟨cr, cl, rfl, o5, f5⟩) | (go_at_call 19; refine (hFa.out _ _ _ o5.v).mono ?_; rintro r w6 ⟨rfl, f6⟩))
  have F6 := Lib.hid (F4.out.trans (f5.trans f6 (by simp)) (by simp))
  clear o5 f5 f6
  go_upto_region 5 with (first | (go_at_call 34; refine (oneT_any _).mono ?_; rintro r w7 ⟨dr, dl, rfl, o7, f7⟩) | (go_at_call 19; refine (hFb.out _ _ _ o7.v).mono ?_; rintro r w8 ⟨rfl, f8⟩))
  have F8 := Lib.hid (F6.out.trans (f7.trans f8 (by simp)) (by simp))
  clear o7 f7 f8
  go_wp2_with (first
    | ((with_reducible (show wpList _ _ _ (Oper.mk _ (Op.slice 31 (.tmp 37) _ _ _) _ _ _ _ :: _) _ _)); refine wpList_val_g (by rfl) (exec_slice_hA (.tmp 37) (.const (.int .i64 5)) rfl rfl rfl BT.sl (H3.out _)) ?_)
    | ((with_reducible (show wpList _ _ _ (Oper.mk _ (Op.slice 31 (.tmp 43) _ _ _) _ _ _ _ :: _) _ _)); refine wpList_val_g (by rfl) (exec_slice_lA (.tmp 43) (.const (.int .i64 15)) rfl rfl rfl BT.sl (H4.out _)) ?_)
    | (go_at_call 21; first | (refine (Pt.SameBytes_any (.slice a3 5 c3) _ [0, 0, 0, 2, 0] _ [0, 0, 0, 2, 0] [] _ (SS3.out.keep (F8.out.trans ((Frm.refl [] _).alloc _) (by simp)) (by simp)) (lst_slB (heap_alloc_at rfl) rfl rfl (by simp))).mono ?_; rintro r w9 ⟨rfl, rfl⟩) | (refine (Pt.SameBytes_any (.slice a4 (24 - 15) c4) _ [2, 0, 0, 0, 0, 0, 0, 0, 0] _ [2, 0, 0, 0, 0, 0, 0, 0, 0] [] _ (SS4.out.keep (F8.out.trans (((Frm.refl [] w8).alloc _).alloc _) (by simp)) (by simp)) (lst_slB (heap_alloc_at (by simp)) rfl rfl (by simp))).mono ?_; rintro r w10 ⟨rfl, rfl⟩))
    | (go_at_call 36; refine (fails_yes _ [] [] 4 0 _ (SlB.nil _) (by simp) read_nil).mono ?_; rintro r w11 ⟨rfl, f11⟩))
  go_ret
  exact ⟨rfl, (F2.out.trans F8.out (by simp)).trans ((((Frm.refl [] w8).alloc _).alloc _).trans f11 (by simp)) (by simp)⟩
end Go.Proofs.YtljhanhipmnioaaGreat.Rd

namespace Go.Proofs.YtljhanhipmnioaaGreat.Pt
open Go.RowKit
set_option linter.unusedVariables false
set_option linter.unusedSimpArgs false
set_option maxRecDepth 100000

theorem eas_set : ∀ (l : List Ad) (i : Nat) (x : Ad), eas (l.set i x) = ((eas l).set (i * 2) (.int .i64 x.1)).set (i * 2 + 1) (.int .i64 x.2)
  | [], i, x => by simp [eas]
  | y :: r, 0, x => by simp [eas_cons]
  | y :: r, i + 1, x => by
    rw [List.set_cons_succ, eas_cons, eas_set r i x, eas_cons, show (i + 1) * 2 = i * 2 + 1 + 1 by omega]
    simp [List.set_cons_succ]
theorem OwnA.store {T : TypeId} {w : World} {g n cap : Nat} {l sp : List Ad} (h : OwnA T w (.slice (some ⟨g, 0, none⟩) n cap) l sp) (i : Nat) (hi : i < l.length) (x : Ad) :
    OwnA T ((w.setCell ⟨g, i * 2, none⟩ (.int .i64 x.1)).setCell ⟨g, i * 2 + 1, none⟩ (.int .i64 x.2)) (.slice (some ⟨g, 0, none⟩) n cap) (l.set i x) sp := by
  obtain ⟨h1, h2, h3⟩ := h.caps
  refine OwnA.of_heap ?_ (by simpa using h1) (by simpa using h2) h3
  rw [heap_setCell_same _ (heap_setCell_same _ h.heap)]
  congr 2
  apply Array.ext'
  simp only [Array.toList_setIfInBounds, eas_append, eas_set]
  have hl := eas_length l
  rw [List.set_append_left _ _ (by omega), List.set_append_left _ _ (by simp; omega)]
end Go.Proofs.YtljhanhipmnioaaGreat.Pt

namespace Go.Proofs.YtljhanhipmnioaaGreat.Rd
open Go.RowKit
set_option linter.unusedVariables false
set_option linter.unusedSimpArgs false
set_option maxRecDepth 100000

open Pt (Pt may enc readPt readE zeroPt be4 be1 pc pv PtV SlA OwnA BT wpList_load_g heap_alloc_at lst_slB one_slB Ext Grew exec_slice_lh yieldsIf_ld)
open Kr (OwnE SlE Enco RowTys)

theorem flt_split (rs : List RowT) (k : Nat) (hk : k < rs.length) : Kr.flt eR rs = Kr.flt eR (rs.take k) ++ (eR rs[k] ++ Kr.flt eR (rs.drop (k + 1))) := by
  conv => lhs; rw [← List.take_append_drop k rs, List.drop_eq_getElem_cons hk]
  rw [Kr.flt_append, Kr.flt_cons]
theorem flt_setrow (rs : List RowT) (k : Nat) (hk : k < rs.length) (x : RowT) : Kr.flt eR (rs.set k x) = Kr.flt eR (rs.take k) ++ (eR x ++ Kr.flt eR (rs.drop (k + 1))) := by
  rw [flt_split (rs.set k x) k (by simpa using hk)]
  have e1 : (rs.set k x).take k = rs.take k := by rw [List.take_set, List.set_eq_of_length_le (by simp; omega)]
  have e2 : (rs.set k x).drop (k + 1) = rs.drop (k + 1) := by rw [List.drop_set, if_pos (by omega)]
  rw [e1, e2]
  simp
theorem OwnR.put {w : World} {g n cap : Nat} {rs : List RowT} {sp : List Value} (h : OwnE eR 44 56 w (.slice (some ⟨g, 0, none⟩) n cap) rs sp) (k : Nat) (hk : k < rs.length) (x : RowT) :
    OwnE eR 44 56 (w.setCells g (k * 44) x.1) (.slice (some ⟨g, 0, none⟩) n cap) (rs.set k x) sp := by
  obtain ⟨h1, h2, h3, h4⟩ := OwnE.caps encRow h
  have hb : Blk w g 56 (Kr.flt eR (rs.take k) ++ (eR rs[k] ++ (Kr.flt eR (rs.drop (k + 1)) ++ sp))) := by
    have := OwnE.heap h
    rw [flt_split rs k hk] at this
    show w.heap[g]? = _
    rw [this]
    simp
  have hp := hb.put (o := k * 44) (row' := x.1) (by rw [Kr.flt_length encRow, List.length_take, Nat.min_eq_left (by omega)]) (by rw [show eR rs[k] = (rs[k]).1 from rfl, x.2.1, (rs[k]).2.1])
  refine OwnE.of_heap encRow ?_ (by simpa using h1) (by omega) (by simpa using h3) h4
  rw [flt_setrow rs k hk]
  have e : Kr.flt eR (rs.take k) ++ (eR x ++ Kr.flt eR (rs.drop (k + 1))) ++ sp = Kr.flt eR (rs.take k) ++ (x.1 ++ (Kr.flt eR (rs.drop (k + 1)) ++ sp)) := by simp [eR]
  rw [e]
  exact hp
end Go.Proofs.YtljhanhipmnioaaGreat.Rd
