/-
  Plain facts of tables: which may be, their bytes, what bytes are read as; of no program. No conditions but those that each theorem names. Plain facts of tables: bytes there and back, cut short; places of names. No conditions but those that each theorem names. Back. No conditions but those that each theorem names.
-/
import Derived.Test.YtljhanhipmnioaaGreatMRa1
import Derived.Test.YtljhanhipmnioaaGreatMRa2
import Derived.Test.YtljhanhipmnioaaGreatMRa3
import Derived.Test.YtljhanhipmnioaaGreatMRa4
import Derived.Test.YtljhanhipmnioaaGreatMRa5
import Derived.Test.YtljhanhipmnioaaGreatMRa6
import Derived.Test.YtljhanhipmnioaaGreatMRa7
import Derived.Test.YtljhanhipmnioaaGreatMRa8
import Derived.Test.YtljhanhipmnioaaGreatMRa9
import Derived.Test.YtljhanhipmnioaaGreatMRa10
import Derived.Test.YtljhanhipmnioaaGreatMRb1
import Derived.Test.YtljhanhipmnioaaGreatMRc1
import Derived.Test.YtljhanhipmnioaaGreatMRd1
import Derived.Test.YtljhanhipmnioaaGreatMRe1
import Derived.Test.YtljhanhipmnioaaGreatMRh1
import Derived.OrdersHeld
import Derived.WalkKit
import Derived.WalkSpells
import Derived.WalkLawsBesides
import Derived.Deep.AppendSrc
import Derived.Laws.CopyOwn
import Derived.Laws.BytesArg
import Derived.Carry
import Derived.Laws.BytesString
import Derived.Deep.SlicePairs
import Derived.Deep.Cut
import Derived.Lib.Hide
import Derived.Test.YtljhanhipmnioaaGreatChecked
import Derived.ChangeKeysEq
import Derived.Deep.MidRow
import Derived.Deep.RegionHeld3
import Derived.OpenShut
import Derived.WalkHide
import Derived.IntWalk
import Derived.StillTailTactics
import Derived.Deep.RegionLaw
import Derived.Deep.RegionWith
import Derived.Deep.QuietTactic
import Derived.BigQuiet
import Derived.Deep.CutBlock
import Derived.Deep.DeepCutAuto
import Derived.Deep.Slices
import Derived.Defers
import Derived.Recover
import Derived.Deep.WholeRow
import Derived.Lib.Bytealg
import Derived.Lib.TrimUEq
import Derived.Lib.MinMaxS
import Derived.LaidEqlPtr
import Derived.Lib.OthersKept
import Derived.Deep.Draws
import Derived.WalkMore
import Derived.Deep.LoopGhost
import Derived.Lib.BufferWrite
import Derived.Lib.UnsafeStr
import Derived.Laws.MakeOwn
import Derived.Laws.Strings3
import Derived.BigRegion
import Derived.Lib.Walk
import Derived.Great.Walk
namespace Go.Proofs.YtljhanhipmnioaaGreat.Rd
open Go.RowKit
set_option linter.unusedVariables false
set_option linter.unusedSimpArgs false
set_option maxRecDepth 100000

open Pt (Pt may enc readPt readE zeroPt be4 be1)
/-- A parser takes what stands ahead, whatever stands behind it, and no less. -/
def Whole {α : Type} (p : P α) : Prop := ∀ l x r, p l = some (x, r) → ∃ a, l = a ++ r ∧ (∀ r', p (a ++ r') = some (x, r')) ∧ ∀ n, n < a.length → p (a.take n) = none
theorem whole_ret {α : Type} (x : α) : Whole (ret x) := by
  intro l y r h
  cases h
  exact ⟨[], rfl, fun r' => rfl, fun n hn => absurd hn (by simp)⟩
theorem whole_tk (n : Nat) : Whole (tk n) := by
  intro l x r h
  unfold tk at h
  split at h
  · cases h
  · cases h
    refine ⟨l.take n, (List.take_append_drop n l).symm, fun r' => ?_, fun m hm => ?_⟩
    · unfold tk
      rw [if_neg (by simp; omega), List.take_append_of_le_length (by simp; omega), List.drop_append_of_le_length (by simp; omega)]
      simp [List.take_take]
    · unfold tk
      rw [if_pos]
      simp at hm ⊢
      omega
theorem whole_bnd {α β : Type} {p : P α} {f : α → P β} (hp : Whole p) (hf : ∀ x, Whole (f x)) : Whole (bnd p f) := by
  intro l y r h
  unfold bnd at h
  cases hq : p l with
  | none => rw [hq] at h; cases h
  | some z =>
    rw [hq] at h
    obtain ⟨x, s⟩ := z
    obtain ⟨a, rfl, ha, hn⟩ := hp _ _ _ hq
    obtain ⟨b, rfl, hb, hm⟩ := hf x _ _ _ h
    refine ⟨a ++ b, by simp, fun r' => ?_, fun n hlt => ?_⟩
    · unfold bnd
      rw [List.append_assoc, ha]
      exact hb r'
    · unfold bnd
      by_cases h1 : n < a.length
      · rw [List.take_append_of_le_length (by omega), hn n h1]; rfl
      · have e : (a ++ b).take n = a ++ b.take (n - a.length) := by rw [List.take_append, List.take_of_length_le (by omega)]
        rw [e, ha]
        exact hm _ (by simp at hlt; omega)
theorem whole_num (k : Nat) : Whole (num k) := whole_bnd (whole_tk k) fun _ => whole_ret _
theorem whole_rec : Whole recP :=
  whole_bnd (whole_num 4) fun _ => whole_bnd (whole_num 1) fun _ => whole_bnd (whole_tk _) fun _ => whole_bnd (whole_num 1) fun _ => whole_bnd (whole_num 1) fun _ => whole_bnd (whole_tk 47) fun _ => whole_bnd (whole_num 4) fun _ => whole_bnd (whole_num 4) fun _ => whole_bnd (whole_num 4) fun _ => whole_bnd (whole_num 1) fun _ => whole_bnd (whole_num 1) fun _ => whole_ret _
theorem whole_many {α : Type} {p : P α} (h : Whole p) : ∀ n, Whole (many p n)
  | 0 => whole_ret _
  | n + 1 => whole_bnd h fun _ => whole_bnd (whole_many h n) fun _ => whole_ret _
theorem whole_tab : Whole tabP :=
  whole_bnd (whole_num 4) fun _ => whole_bnd (whole_num 1) fun _ => whole_bnd (whole_many whole_rec _) fun _ => whole_bnd (whole_num 1) fun _ => whole_bnd (whole_num 1) fun _ => whole_bnd (whole_num 4) fun _ => whole_bnd (whole_num 4) fun _ => whole_bnd (whole_num 1) fun _ => whole_bnd (whole_many (whole_num 4) _) fun _ => whole_ret _
end Go.Proofs.YtljhanhipmnioaaGreat.Rd

namespace Go.Proofs.YtljhanhipmnioaaGreat.Rd
open Go.RowKit
set_option linter.unusedVariables false
set_option linter.unusedSimpArgs false
set_option maxRecDepth 100000

open Pt (Pt may enc readPt readE zeroPt be4 be1)

theorem encL_length (l : List Int) : (encL l).length = 1 + 4 * l.length := by
  have : ∀ l : List Int, (l.flatMap fun n => be4 n.toNat).length = 4 * l.length := by
    intro l
    induction l with
    | nil => rfl
    | cons x r ih => rw [List.flatMap_cons, List.length_append, ih, be4_len, List.length_cons]; omega
  unfold encL
  rw [List.length_append, this, be1_len]
theorem encT_length {t : Tab} (h : MayT t) : 24 ≤ (encT t).length := by
  have := h.l0
  unfold encT
  simp only [List.length_append, encL_length, encC_length, be4_len, be1_len]
  omega
/-- Bytes of a table that are cut short are none. -/
theorem read_cut {t : Tab} (h : MayT t) (hs : Sums t) {n : Nat} (hn : n < (encT t).length) : readT ((encT t).take n) = (zeroT, 4, (n : Int)) := by
  have e := tab_app h hs []
  obtain ⟨a, ha, _, hc⟩ := whole_tab _ _ _ e
  simp only [List.append_nil] at ha
  unfold readT
  have := hc n (by rw [← ha]; exact hn)
  rw [← ha] at this
  rw [this]
  simp
  omega
end Go.Proofs.YtljhanhipmnioaaGreat.Rd

namespace Go.Proofs.YtljhanhipmnioaaGreat.Rd
open Go.RowKit
set_option linter.unusedVariables false
set_option linter.unusedSimpArgs false
set_option maxRecDepth 100000

open Pt (Pt may enc readPt readE zeroPt be4 be1 pc pv PtV SlA OwnA BT wpList_load_g heap_alloc_at lst_slB one_slB Ext Grew exec_slice_lh yieldsIf_ld)
open Kr (OwnE SlE Enco RowTys)

open Pt (slice_h slice_l slice_lh exec_slice_hA exec_slice_lA)
theorem Pick_any (n : Int) (k : Nat) (hk : 1 ≤ k) (hk2 : k ≤ 4294967296) (w : World) :
    Calls Tryz.prog 37 #[.int .i64 n, .int .i64 (k : Int)] w fun r w' => ∃ j : Nat, j < k ∧ r = .returned (.int .i64 (j : Int)) ∧ w' = w := by
  have h1 : -(k : Int) < n.tmod k := by
    rcases Int.le_total 0 n with h | h
    · have := Int.tmod_nonneg (k : Int) h; omega
    · have h3 := Int.tmod_nonneg (k : Int) (a := -n) (by omega)
      have h4 := Int.tmod_lt_of_pos (-n) (b := (k : Int)) (by omega)
      rw [Int.neg_tmod] at h3 h4
      omega
  have h2 : n.tmod k < (k : Int) := Int.tmod_lt_of_pos n (by omega)
  have hk9 : (k : Int) ≤ 4294967296 := by omega
  have hk1 : (1 : Int) ≤ (k : Int) := by omega
  have hk0 : ((k : Int) == 0) = false := by simp; omega
  have hw : IntKind.i64.wrap (n.tmod k) = n.tmod k := IntWalk.i64_in _ (by omega)
  generalize hm : n.tmod k = m at *
  go_enter Tryz.func37, Tryz.ntmps37
  by_cases hneg : m < 0
  · go_wp2_with fail
    go_ret
    refine ⟨(m + k).toNat, by omega, ?_, rfl⟩
    rw [Int.toNat_of_nonneg (by omega)]; rfl
  · go_wp2_with fail
    go_ret
    refine ⟨m.toNat, by omega, ?_, rfl⟩
    rw [Int.toNat_of_nonneg (by omega)]; rfl
theorem flat_le {α β : Type} (f : α → List β) (c : Nat) : ∀ l : List α, (∀ x ∈ l, (f x).length ≤ c) → (l.flatMap f).length ≤ l.length * c
  | [], _ => by simp
  | x :: l, h => by
    have h1 := h x (by simp)
    have h2 := flat_le f c l (fun y hy => h y (by simp [hy]))
    rw [List.flatMap_cons, List.length_append, List.length_cons, Nat.add_mul]
    omega
theorem encR_le {x : Rec} (hx : mayR x = true) (hs : x.root.s.length = 32) : (encR x).length ≤ 2000 := by
  have w := mayR_wf hx hs
  have h1 := Pt.enc_len w.r hs
  have h2 := w.nm
  unfold encR
  simp only [List.length_append, be4_len, be1_len, h1]
  omega
theorem encT_le {t : Tab} (h : MayT t) (hs : Sums t) : (encT t).length ≤ 1000000 := by
  have h1 := flat_le encR 2000 t.recs (fun x hx => encR_le (h.one hx) (hs x hx))
  have h2 := h.many
  have h3 := h.l1
  unfold encT
  simp only [List.length_append, encL_length, encC_length, be4_len, be1_len]
  have : t.recs.length * 2000 ≤ 16 * 2000 := Nat.mul_le_mul_right _ h2
  omega
set_option maxHeartbeats 16000000 in
theorem back_law (vr vl : Value) (t : Tab) (v : Value) (l sp : List UInt8) (n : Int) (w : World) (hT : TabV w vr vl t) (hS : SlB w v l sp) : Calls Tryz.prog 6 #[tv vr vl t, v, .int .i64 n] w (Yes w) := by
  obtain ⟨a, cap, rfl, _, hc⟩ := hS.form
  have hc9 : (l.length : Int) ≤ 9223372036854775807 := by simp only [maxLen] at hc; omega
  have HT := Lib.hid (fun z (f : Frm [] w z) => hT.keep0 f)
  have HS := Lib.hid (fun z (f : Frm [] w z) => hS.keep f (by simp))
  have HSM := Lib.hid (show Sums t from hT.1.sums)
  have f0 : Frm [] w (w.alloc (.cells (tc vr vl t).toArray 27)) := (Frm.refl [] w).alloc _
  have BT := Lib.hid (TB.new w vr vl t)
  have F0 := Lib.hid f0
  rw [tcA]
  clear f0 hc hT hS
  generalize (tc vr vl t).toArray = A at *
  go_enter Tryz.func6, Tryz.ntmps6
  go_upto_region 1 with (fail)
  generalize w.alloc (.cells A 27) = W at *
  have LAt := Lib.hid (fun z (f : Frm [] W z) => (BT.out.keep0 f).gets.all)
  have HLt := Lib.hid (fun z (f : Frm [] W z) => LongT_any vr vl t z (HT.out z (F0.out.trans f (by simp))))
  unfold LongT at HLt
  clear BT
  go_upto_region 2 with (go_at_call 5; refine (known_law _).mono ?_; rintro r w1 ⟨rfl, f1⟩)
  have F1 := Lib.hid f1
  clear f1
  cases hbt : longB t with
  | true =>
    rw [hbt] at HLt
    clear hbt
    go_wp2_with (first
      | ((with_reducible (show wpList _ _ _ (Oper.mk _ (Op.load 27 (Operand.tmp 3)) _ _ _ _ :: _) _ _)); refine wpList_load_g (by rfl) 27 _ rfl _ rfl (LAt.out _ F1.out) ?_)
      | (go_at_call 14; refine (HLt.out _ F1.out).mono ?_; rintro r w2 ⟨rfl, f2⟩))
    go_ret
    exact ⟨rfl, (F0.out.trans F1.out (by simp)).trans f2 (by simp)⟩
  | false =>
    rw [hbt] at HLt
    have ST := Lib.hid (longB_small hbt)
    clear hbt
    by_cases hbig : 5000 < l.length
    · have hb9 : (5000 : Int) < (l.length : Int) := by omega
      clear hbig
      go_wp2_with (first
        | ((with_reducible (show wpList _ _ _ (Oper.mk _ (Op.load 27 (Operand.tmp 3)) _ _ _ _ :: _) _ _)); refine wpList_load_g (by rfl) 27 _ rfl _ rfl (LAt.out _ F1.out) ?_)
        | (go_at_call 14; refine (HLt.out _ F1.out).mono ?_; rintro r w2 ⟨rfl, f2⟩))
      go_ret
      exact ⟨rfl, (F0.out.trans F1.out (by simp)).trans f2 (by simp)⟩
    · have hb9 : ¬ (5000 : Int) < (l.length : Int) := by omega
      have HLB := Lib.hid (show l.length ≤ 1000000 by omega)
      clear hbig
      have FT := Lib.hid ST.out.fit
      have HBY := Lib.hid (fun z (f : Frm [] W z) => BytesT_any vr vl t z (HT.out z (F0.out.trans f (by simp))) FT.out)
      have HCK := Lib.hid (fun z (f : Frm [] W z) => CheckT_any vr vl t z (HT.out z (F0.out.trans f (by simp))) FT.out)
      unfold BytesT at HBY
      go_upto_region 4 with (first
        | ((with_reducible (show wpList _ _ _ (Oper.mk _ (Op.load 27 (Operand.tmp 3)) _ _ _ _ :: _) _ _)); refine wpList_load_g (by rfl) 27 _ rfl _ rfl (LAt.out _ F1.out) ?_)
        | (go_at_call 14; refine (HLt.out _ F1.out).mono ?_; rintro r w2 ⟨rfl, f2⟩))
      have F2 := Lib.hid (F1.out.trans f2 (by simp))
      clear f2 F1
      cases hm : mayT t with
      | false =>
        have hme : mayTE t = 2 := (packT_no hm).2
        rw [(packT_no hm).1, hme] at HBY
        rw [hme] at HCK
        clear hm hme
        go_upto_region 14 with (first
          | ((with_reducible (show wpList _ _ _ (Oper.mk _ (Op.load 27 (Operand.tmp 3)) _ _ _ _ :: _) _ _)); first | (refine wpList_load_g (by rfl) 27 _ rfl _ rfl (LAt.out _ F3) ?_) | (refine wpList_load_g (by rfl) 27 _ rfl _ rfl (LAt.out _ F2.out) ?_))
          | (go_at_call 17; refine (HBY.out _ F2.out).mono ?_; rintro r w3 ⟨a3, c3, sp3, rfl, o3, f3, n3⟩; have F3 := F2.out.trans f3 (by simp))
          | (go_at_call 22; refine (HCK.out _ F3).mono ?_; rintro r w4 ⟨rfl, f4⟩))
        have F4 := Lib.hid (F3.trans f4 (by simp))
        clear o3 f3 n3 f4 F3
        have HRB := Lib.hid (Read_any (.slice a l.length cap) l sp w4 (HS.out w4 (F0.out.trans F4.out (by simp))) HLB.out)
        have FZ := Lib.hid (F0.out.trans F4.out (by simp))
        go_upto_region 15 with (first
          | (go_at_call 29; refine HRB.out.mono ?_; rintro r z2 hro; obtain ⟨ur, ul, rfl, uw, ft, g1⟩ := hro.own)
          | (refine wpList_layTF rfl rfl rfl rfl rfl rfl (.tmp 12) (.tmp 13) (.tmp 74) (.tmp 75) rfl rfl (t := (readT l).1) (e := (readT l).2.1) (f := (readT l).2.2) uw.ones.1 uw.ones.2 rfl rfl rfl rfl ?_; intro V b5 d5 g2))
        have UW := Lib.hid (uw.keep0 g2)
        have FTU := Lib.hid ft
        have G2 := Lib.hid (FZ.out.trans (g1.trans g2 (by simp)) (by simp))
        have LU := Lib.hid (fun z (f : Frm [] V z) => (b5.keep0 f).gets.all)
        have c0 : V.cell? ⟨z2.heap.size + 1, 0, none⟩ = some (.int .i64 (readT l).2.1) := by rw [cell_of_heap d5]; rfl
        have c1 : V.cell? ⟨z2.heap.size + 1, 1, none⟩ = some (.int .i64 (readT l).2.2) := by rw [cell_of_heap d5]; rfl
        have RC := read_cases l
        clear uw ft g1 g2 b5 d5 hro HRB
        generalize (readT l).2.1 = E at *
        generalize (readT l).2.2 = A at *
        generalize (readT l).1 = U at *
        rcases RC with ⟨hE, hA, hM, henc, hsum⟩ | ⟨hz, hE, hA0, hA1⟩
        · subst hE
          subst hA
          have hmu : mayT U = true := mayT_iff.2 hM
          have HBU := BytesT_any ur ul U V UW.out.v FTU.out
          unfold BytesT at HBU
          rw [(packT_yes hmu).1, (packT_yes hmu).2, henc] at HBU
          have HBU2 := Lib.hid HBU
          have HCU := Lib.hid (fun z (f : Frm [] V z) => by have q := CheckT_any ur ul U z (UW.out.v.keep0 f) FTU.out; rw [(packT_yes hmu).2] at q; exact q)
          clear HBU hM henc hsum hmu c1
          go_upto_region 18 with (first
            | ((with_reducible (show wpList _ _ _ (Oper.mk _ (Op.load 27 (Operand.tmp 12)) _ _ _ _ :: _) _ _)); refine wpList_load_g (by rfl) 27 _ rfl _ rfl (LU.out _ (Frm.refl [] _)) ?_)
            | (go_at_call 17; refine HBU2.out.mono ?_; rintro r z3 ⟨a9, c9, sp9, rfl, o9, g3, n9⟩))
          have SBY := Lib.hid (fun z (f : Frm [] z3 z) => by have q := Pt.SameBytes_any _ (.slice a l.length cap) l sp9 l sp z (o9.sl.keep f (by simp)) (HS.out z ((G2.out.trans g3 (by simp)).trans f (by simp))); rw [beq_self_eq_true] at q; exact q)
          clear o9 n9 c0
          go_wp2_with (first
            | ((with_reducible (show wpList _ _ _ (Oper.mk _ (Op.load 27 (Operand.tmp 12)) _ _ _ _ :: _) _ _)); refine wpList_load_g (by rfl) 27 _ rfl _ rfl (LU.out _ g3) ?_)
            | (go_at_call 22; refine (HCU.out _ g3).mono ?_; rintro r z4 ⟨rfl, g4⟩)
            | (go_at_call 21; refine (SBY.out _ g4).mono ?_; rintro r z5 ⟨rfl, rfl⟩))
          go_ret
          exact ⟨rfl, (G2.out.trans g3 (by simp)).trans g4 (by simp)⟩
        · have hE9 : (E != 0) = true := by rcases hE with h | h <;> (rw [h]; rfl)
          clear hE hz
          go_wp2_with (fail)
          go_ret
          exact ⟨rfl, G2.out⟩
      | true =>
        have hM := mayT_iff.1 hm
        have hle := encT_le hM HSM.out
        have h24 := encT_length hM
        have hre := read_enc hM HSM.out
        have HCUT := Lib.hid (fun k (hk : k < (encT t).length) => read_cut hM HSM.out hk)
        rw [(packT_yes hm).1, (packT_yes hm).2] at HBY
        rw [(packT_yes hm).2] at HCK
        have HRX := Lib.hid (fun v sp z (hS : SlB z v (encT t) sp) => by have q := Read_any v (encT t) sp z hS hle; unfold ReadO at q; rw [hre] at q; exact q)
        have HLX := Lib.hid hle
        have HST := Lib.hid (fun xr xl z (h : TabV z xr xl t) (f : Frm [] W z) => by have q := SameTable_any xr xl vr vl t t z h (HT.out z (F0.out.trans f (by simp))) FT.out; rw [sameT_refl] at q; exact q)
        have HSS := Lib.hid (fun xr xl z (h : TabV z xr xl t) (f : Frm [] W z) => by have q := Same_any xr xl vr vl t t z h (HT.out z (F0.out.trans f (by simp))) FT.out; rw [sameT_refl] at q; exact q)
        have hx9 : ((encT t).length : Int) ≤ 1000000 := by omega
        have hx4 : ¬ ((encT t).length : Int) < 24 := by omega
        have H24 := Lib.hid h24
        clear hm hM hle h24 hre
        generalize encT t = X at *
        go_upto_region 8 with (first
          | ((with_reducible (show wpList _ _ _ (Oper.mk _ (Op.load 27 (Operand.tmp 3)) _ _ _ _ :: _) _ _)); first | (refine wpList_load_g (by rfl) 27 _ rfl _ rfl (LAt.out _ F3) ?_) | (refine wpList_load_g (by rfl) 27 _ rfl _ rfl (LAt.out _ F2.out) ?_))
          | (go_at_call 17; refine (HBY.out _ F2.out).mono ?_; rintro r w3 ⟨a3, c3, sp3, rfl, o3, f3, n3⟩; have F3 := F2.out.trans f3 (by simp))
          | (go_at_call 22; refine (HCK.out _ F3).mono ?_; rintro r w4 ⟨rfl, f4⟩))
        have F4 := Lib.hid (F3.trans f4 (by simp))
        have O4 := Lib.hid (o3.keep f4 (by simp))
        clear o3 f3 n3 f4 F3
        go_upto_region 9 with (first
          | (go_at_call 29; refine (HRX.out _ _ _ O4.out.sl).mono ?_; rintro r w5 ⟨xr, xl, rs, B, spx, rfl, tx, ox, _, _, f5⟩)
          | (refine wpList_layTF rfl rfl rfl rfl rfl rfl (.tmp 10) (.tmp 11) (.tmp 39) (.tmp 40) rfl rfl (t := t) (e := 0) (f := 0) (by obtain ⟨_, _, q⟩ := tx.form; rw [q]; rfl) (by obtain ⟨_, _, q, _⟩ := ox.sl.form; rw [q]; rfl) rfl rfl rfl rfl ?_; intro V6 b6 d6 f6))
        have TX := Lib.hid (show TabV V6 xr xl t from ⟨(tx.keep0 f6).us, spx, (ox.keep0 f6).sl⟩)
        have F46 := Lib.hid (f5.trans f6 (by simp))
        have F6 := Lib.hid (F4.out.trans F46.out (by simp))
        have O6 := Lib.hid (O4.out.keep F46.out (by simp))
        have LX := Lib.hid (fun z (f : Frm [] V6 z) => (b6.keep0 f).gets.all)
        have c0 : V6.cell? ⟨w5.heap.size + 1, 0, none⟩ = some (.int .i64 0) := by rw [cell_of_heap d6]; rfl
        clear tx ox f5 f6 b6 d6 O4
        go_upto_region 11 with (first
          | ((with_reducible (show wpList _ _ _ (Oper.mk (some 45) (Op.load 27 _) _ _ _ _ :: _) _ _)); refine wpList_load_g (by rfl) 27 _ rfl _ rfl (LX.out _ (Frm.refl [] _)) ?_)
          | ((with_reducible (show wpList _ _ _ (Oper.mk (some 46) (Op.load 27 _) _ _ _ _ :: _) _ _)); refine wpList_load_g (by rfl) 27 _ rfl _ rfl (LAt.out _ F6.out) ?_)
          | ((with_reducible (show wpList _ _ _ (Oper.mk (some 51) (Op.load 27 _) _ _ _ _ :: _) _ _)); refine wpList_load_g (by rfl) 27 _ rfl _ rfl (LX.out _ f7) ?_)
          | ((with_reducible (show wpList _ _ _ (Oper.mk (some 52) (Op.load 27 _) _ _ _ _ :: _) _ _)); refine wpList_load_g (by rfl) 27 _ rfl _ rfl (LAt.out _ (F6.out.trans f7 (by simp))) ?_)
          | (go_at_call 27; refine (HST.out xr xl _ TX.out F6.out).mono ?_; rintro r w7 ⟨rfl, f7⟩)
          | (go_at_call 24; refine (HSS.out xr xl _ (TX.out.keep0 f7) (F6.out.trans f7 (by simp))).mono ?_; rintro r w8 ⟨rfl, f8⟩))
        have F68 := Lib.hid (f7.trans f8 (by simp))
        have O8 := Lib.hid (O6.out.keep F68.out (by simp))
        have F8 := Lib.hid (F6.out.trans F68.out (by simp))
        clear f7 f8 O6 c0 TX
        go_upto_region 12 with (go_at_call 37; refine (Pick_any n X.length (by have := H24.out; omega) (by have := HLX.out; omega) _).mono ?_; rintro r w9 ⟨k, hk, rfl, rfl⟩)
        obtain ⟨a10, c10, hs10, S10⟩ := slice_h BT O8.out.sl k (by omega)
        have H10 := Lib.hid (fun wx => hs10 k wx rfl)
        have S10h := Lib.hid S10
        have HCK2 := Lib.hid (HCUT.out k hk)
        have HKL := Lib.hid (show (X.take k).length ≤ 1000000 by rw [List.length_take]; have := HLX.out; omega)
        clear hs10 S10 hk
        go_upto_region 14 with (first
          | ((with_reducible (show wpList _ _ _ (Oper.mk _ (Op.slice 31 (.tmp 65) _ _ _) _ _ _ _ :: _) _ _)); refine wpList_val_g (by rfl) (exec_slice_hA (.tmp 65) (.tmp 66) rfl rfl rfl BT.sl (H10.out _)) ?_)
          | (go_at_call 36; refine (fails_yes _ (X.take k) _ 4 k _ S10h.out HKL.out HCK2.out).mono ?_; rintro r w10 ⟨rfl, f10⟩))
        have F10 := Lib.hid (F8.out.trans f10 (by simp))
        clear f10
        have HRB := Lib.hid (Read_any (.slice a l.length cap) l sp w10 (HS.out w10 (F0.out.trans F10.out (by simp))) HLB.out)
        have FZ := Lib.hid (F0.out.trans F10.out (by simp))
        go_upto_region 15 with (first
          | (go_at_call 29; refine HRB.out.mono ?_; rintro r z2 hro; obtain ⟨ur, ul, rfl, uw, ft, g1⟩ := hro.own)
          | (refine wpList_layTF rfl rfl rfl rfl rfl rfl (.tmp 12) (.tmp 13) (.tmp 74) (.tmp 75) rfl rfl (t := (readT l).1) (e := (readT l).2.1) (f := (readT l).2.2) uw.ones.1 uw.ones.2 rfl rfl rfl rfl ?_; intro V b5 d5 g2))
        have UW := Lib.hid (uw.keep0 g2)
        have FTU := Lib.hid ft
        have G2 := Lib.hid (FZ.out.trans (g1.trans g2 (by simp)) (by simp))
        have LU := Lib.hid (fun z (f : Frm [] V z) => (b5.keep0 f).gets.all)
        have c0 : V.cell? ⟨z2.heap.size + 1, 0, none⟩ = some (.int .i64 (readT l).2.1) := by rw [cell_of_heap d5]; rfl
        have c1 : V.cell? ⟨z2.heap.size + 1, 1, none⟩ = some (.int .i64 (readT l).2.2) := by rw [cell_of_heap d5]; rfl
        have RC := read_cases l
        clear uw ft g1 g2 b5 d5 hro HRB
        generalize (readT l).2.1 = E at *
        generalize (readT l).2.2 = A at *
        generalize (readT l).1 = U at *
        rcases RC with ⟨hE, hA, hM, henc, hsum⟩ | ⟨hz, hE, hA0, hA1⟩
        · subst hE
          subst hA
          have hmu : mayT U = true := mayT_iff.2 hM
          have HBU := BytesT_any ur ul U V UW.out.v FTU.out
          unfold BytesT at HBU
          rw [(packT_yes hmu).1, (packT_yes hmu).2, henc] at HBU
          have HBU2 := Lib.hid HBU
          have HCU := Lib.hid (fun z (f : Frm [] V z) => by have q := CheckT_any ur ul U z (UW.out.v.keep0 f) FTU.out; rw [(packT_yes hmu).2] at q; exact q)
          clear HBU hM henc hsum hmu c1
          go_upto_region 18 with (first
            | ((with_reducible (show wpList _ _ _ (Oper.mk _ (Op.load 27 (Operand.tmp 12)) _ _ _ _ :: _) _ _)); refine wpList_load_g (by rfl) 27 _ rfl _ rfl (LU.out _ (Frm.refl [] _)) ?_)
            | (go_at_call 17; refine HBU2.out.mono ?_; rintro r z3 ⟨a9, c9, sp9, rfl, o9, g3, n9⟩))
          have SBY := Lib.hid (fun z (f : Frm [] z3 z) => by have q := Pt.SameBytes_any _ (.slice a l.length cap) l sp9 l sp z (o9.sl.keep f (by simp)) (HS.out z ((G2.out.trans g3 (by simp)).trans f (by simp))); rw [beq_self_eq_true] at q; exact q)
          clear o9 n9 c0
          go_wp2_with (first
            | ((with_reducible (show wpList _ _ _ (Oper.mk _ (Op.load 27 (Operand.tmp 12)) _ _ _ _ :: _) _ _)); refine wpList_load_g (by rfl) 27 _ rfl _ rfl (LU.out _ g3) ?_)
            | (go_at_call 22; refine (HCU.out _ g3).mono ?_; rintro r z4 ⟨rfl, g4⟩)
            | (go_at_call 21; refine (SBY.out _ g4).mono ?_; rintro r z5 ⟨rfl, rfl⟩))
          go_ret
          exact ⟨rfl, (G2.out.trans g3 (by simp)).trans g4 (by simp)⟩
        · have hE9 : (E != 0) = true := by rcases hE with h | h <;> (rw [h]; rfl)
          clear hE hz
          go_wp2_with (fail)
          go_ret
          exact ⟨rfl, G2.out⟩
end Go.Proofs.YtljhanhipmnioaaGreat.Rd
