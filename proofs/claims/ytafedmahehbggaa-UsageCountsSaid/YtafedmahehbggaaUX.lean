/-
  Contracts of rows of none, of All. No conditions but those that each theorem names.
-/
import Derived.Test.YtafedmahehbggaaUW
import Derived.Test.YtafedmahehbggaaCW
namespace Go.Proofs.Ytafedmahehbggaa
open Go.RowKit Go.Sort Go.Maps
set_option linter.unusedVariables false
set_option linter.unusedSimpArgs false
set_option maxRecDepth 100000

open Kr (OwnE SlE Enco RowTys)
theorem rows_none (v sv : Value) (s : List Int) (ssp : List Value) (w : World) (hS : LsA w v []) (hI : SlI w sv s ssp) (hs : s.length ≤ 1000000) :
    Calls Try.prog 36 #[v, sv] w fun e w' => e = .returned (.slice none 0 0) ∧ Frm [] w w' := by
  obtain ⟨a, cap, rfl, hcap⟩ := hS.form
  obtain ⟨sa, scap, rfl, _, _⟩ := hI.form
  have hs9 : (s.length : Int) ≤ 1000000 := by omega
  have HI := Lib.hid hI
  clear hS hI hs
  go_enter Try.func36, Try.ntmps36
  go_wp2_with fail
  go_loopw [5, 6] (fun all fv wr => fv = .int .i64 0 ∧ all = .slice none 0 0 ∧ Frm [] w wr) (fun _ c _ => (64 - intOf c).toNat)
  case atStart => exact ⟨rfl, rfl, Frm.refl _ _⟩
  case round =>
    obtain ⟨rfl, rfl, f⟩ := hrel
    have F := Lib.hid f
    clear f
    go_wp2_with fail
    go_loopw [30] (fun c wr => ∃ k : Nat, k ≤ s.length ∧ c = .int .i64 k ∧ Frm [] w wr) (fun c _ => s.length - (intOf c).toNat)
    case atStart => exact ⟨0, by omega, rfl, F.out⟩
    case round =>
      obtain ⟨k, hk, rfl, f⟩ := hrel
      by_cases hlt : k < s.length
      · obtain ⟨bs, offs, rfl⟩ := SlE.at (enc := iE) (k := 1) HI.out (by omega)
        have c0 := cellI (HI.out.keep0 f) k hlt
        generalize s[k] = z at *
        have F2 := Lib.hid f
        clear f
        by_cases hz0 : 0 ≤ z
        · have hz1 : ¬ z < 0 := by omega
          go_wp2_with fail
          go_roundw
          case rel => exact ⟨k + 1, by omega, by go_num, F2.out⟩
          case measure => simp [intOf]; omega
        · go_wp2_with fail
          go_roundw
          case rel => exact ⟨k + 1, by omega, by go_num, F2.out⟩
          case measure => simp [intOf]; omega
      · obtain rfl : k = s.length := by omega
        have F2 := Lib.hid f
        clear f
        go_wp2_with fail
        go_ret
        exact ⟨rfl, F2.out⟩
/-- What holders are here: at most 64, of at most 1000 addresses that Go can hold. -/
structure Hs (L : List (List Ad)) : Prop where
  n : L.length ≤ 64
  l : ∀ l ∈ L, l.length ≤ 1000
  w : ∀ l ∈ L, ∀ x ∈ l, WfA x
theorem Hs.wf {L : List (List Ad)} (h : Hs L) {i : Nat} {x : Ad} (hx : x ∈ L.getD i []) : WfA x := h.w _ (getD_mem hx).2 x hx
theorem Hs.lt {L : List (List Ad)} (h : Hs L) (x : Ad) : hb L x L.length < 18446744073709551616 := Nat.lt_of_lt_of_le (hb_lt L x _) (Nat.pow_le_pow_right (by omega) h.n)
theorem Hs.nlt {L : List (List Ad)} (h : Hs L) (s : List Int) : nb L.length s < 18446744073709551616 := Nat.lt_of_lt_of_le (nb_lt L.length s) (Nat.pow_le_pow_right (by omega) h.n)
/-- A list of the call's own, whose set is said. -/
def Got (P : Ad → Prop) (w : World) (v : Value) (wr : World) : Prop := ∃ ss sp, OwnA 25 wr v ss sp ∧ (∀ x, x ∈ ss ↔ P x) ∧ (∀ x ∈ ss, WfA x) ∧ ss.length ≤ 64000 ∧ ∀ i ∈ blk v, w.heap.size ≤ i
theorem Got.keep {P : Ad → Prop} {w wr wr' : World} {v : Value} {L : List Nat} (h : Got P w v wr) (f : Frm L wr wr') (hn : ∀ i ∈ blk v, i ∉ L) : Got P w v wr' := by
  obtain ⟨ss, sp, h1, h2⟩ := h
  exact ⟨ss, sp, h1.keep f hn, h2⟩
theorem anyB {L : List (List Ad)} (h : Hs L) {ss : List Ad} {p : Nat → Bool} {P : Ad → Prop} (h1 : ∀ x, WfA x → (x ∈ ss ↔ hb L x L.length ≠ 0 ∧ p (hb L x L.length) = true)) (h2 : ∀ x ∈ ss, WfA x)
    (hP : ∀ x, (hb L x L.length ≠ 0 ∧ p (hb L x L.length) = true) ↔ P x) (hw : ∀ x, P x → WfA x) (x : Ad) : x ∈ ss ↔ P x :=
  ⟨fun hx => (hP x).1 ((h1 x (h2 x hx)).1 hx), fun hx => (h1 x (hw x hx)).2 ((hP x).2 hx)⟩
theorem hb_ne {L : List (List Ad)} {x : Ad} : hb L x L.length ≠ 0 ↔ ∃ i, x ∈ L.getD i [] := by
  have := bits_any (L := L) (x := x) (k := L.length)
  rw [← bne_iff_ne, this, decide_eq_true_eq]
  exact ⟨fun ⟨i, _, h⟩ => ⟨i, h⟩, fun ⟨i, h⟩ => ⟨i, (getD_mem h).1, h⟩⟩
theorem tell_eq {L : List (List Ad)} {p : Ad → Bool} {ss : List Ad} (h : ∀ x, x ∈ ss ↔ (∃ i, x ∈ L.getD i []) ∧ p x = true) : srt ss = tell L p :=
  srt_eq (rises_srt ss) (fun x => mem_srt.trans ((h x).trans (by rw [List.mem_filter, mem_all])))
def inL (L : List (List Ad)) (x : Ad) : Prop := ∃ i, x ∈ L.getD i []
def AlRel (L : List (List Ad)) (v : Value) (z g : Nat) (w : World) (all cv : Value) (wr : World) : Prop :=
  Row1 wr g v z ∧ Frm [] w wr ∧ ((cv = .int .i64 0 ∧ all = .slice none 0 0) ∨ (cv = .int .i64 1 ∧ Got (inL L) w all wr))
set_option maxHeartbeats 4000000 in
theorem All_any (L : List (List Ad)) (v : Value) (w : World) (hS : LsA w v L) (hL : Hs L) : Calls Try.prog 12 #[v] w (Told w (allU L)) := by
  have e39 : ∀ args w, (callFunc 39 args).run Try.prog w = .ok (.enter 39 args) w := enters_of Try.func39 (by kernel_rfl) rfl
  by_cases h0 : L.length = 0
  · obtain rfl : L = [] := List.eq_nil_of_length_eq_zero h0
    have HR := Lib.hid (rows_none v (.slice none 0 0) [] [] w hS (SlE.nil _ _ _) (by simp))
    clear hS hL h0
    go_enter Try.func12, Try.ntmps12
    go_wp2_with fail
    refine HR.out.mono ?_
    rintro e w1 ⟨rfl, f1⟩
    have F1 := Lib.hid f1
    clear f1 HR
    go_wp2_with fail
    go_loopw [3, 9] (fun all c wr => all = .slice none 0 0 ∧ c = .int .i64 0 ∧ wr = w1) (fun _ c _ => 0)
    case atStart => exact ⟨rfl, rfl, rfl⟩
    case round =>
      obtain ⟨rfl, rfl, rfl⟩ := hrel
      go_wp2_with fail
      refine (Sort_any _ [] [] _ (SlA.nil _) (by simp) (by simp)).mono ?_
      rintro e w2 ⟨v2, sp2, rfl, o2, f2, n2⟩
      have hk : srt [] = allU [] := rfl
      rw [hk] at o2
      go_wp2_with fail
      go_ret
      exact ⟨v2, sp2, rfl, o2, F1.out.trans f2 (by simp), fun i hi => by have := n2 i hi; have := F1.out.size; omega⟩
  · have HR := Lib.hid (rows_any L v (.slice none 0 0) [] [] w hS hL.n (by omega) (SlE.nil _ _ _) (by simp))
    have HS := Lib.hid hS
    have HL := Lib.hid hL
    obtain ⟨a, cap, rfl, hcap⟩ := hS.form
    clear hS hL hcap
    go_enter Try.func12, Try.ntmps12
    go_wp2_with fail
    refine HR.out.mono ?_
    rintro e w1 ⟨g, c1, rfl, hr, f1, ng⟩
    have R1 := Lib.hid hr
    have F1 := Lib.hid f1
    have NG := Lib.hid ng
    clear hr f1 ng HR
    go_wp2_with fail
    go_loopw [3, 9] (AlRel L (.slice a L.length cap) (nb L.length []) g w) (fun _ c _ => 1 - (intOf c).toNat)
    case atStart => exact ⟨R1.out, F1.out, .inl ⟨rfl, rfl⟩⟩
    case round =>
      obtain ⟨hr, f, ⟨rfl, rfl⟩ | ⟨rfl, hg⟩⟩ := hrel
      · obtain ⟨c0, c1, c2, _⟩ := hr.cell
        have F := Lib.hid f
        have R := Lib.hid hr
        clear f hr
        generalize ((nb L.length [] : Nat) : Int) = z at *
        go_upto_region 5 with (fail)
        have f3 : Frm [] wr (wr.alloc (.cells #[.int .i64 0, .slice a L.length cap, .int .u64 z] 53)) := (Frm.refl [] wr).alloc _
        have h3 := heap_alloc_new wr (.cells #[.int .i64 0, .slice a L.length cap, .int .u64 z] 53)
        have R3 := Lib.hid (R.out.keep f3 (by simp))
        have F3 := Lib.hid (F.out.trans f3 (by simp))
        generalize wr.alloc (.cells #[.int .i64 0, .slice a L.length cap, .int .u64 z] 53) = w3 at *
        obtain ⟨g3, hg3⟩ : ∃ g3, wr.heap.size = g3 := ⟨_, rfl⟩
        rw [hg3] at h3 ⊢
        have d0 : w3.cell? ⟨g3, 0, none⟩ = some (.int .i64 0) := by rw [cell_of_heap h3]; rfl
        have d1 : w3.cell? ⟨g3, 1, none⟩ = some (.slice a L.length cap) := by rw [cell_of_heap h3]; rfl
        have d2 : w3.cell? ⟨g3, 2, none⟩ = some (.int .u64 z) := by rw [cell_of_heap h3]; rfl
        clear c0 c1 c2 f3 h3 hg3
        go_wp2_with fail
        refine (count_any L _ _ _ _ (HS.out.keep0 F3.out) HL.out.n HL.out.l HL.out.w).mono ?_
        rintro e w4 ⟨b, n, rfl, hB, hn, f4, nb4⟩
        have B4 := Lib.hid hB
        have N4 := Lib.hid hn
        have F4 := Lib.hid (F3.out.trans f4 (by simp))
        have R4 := Lib.hid (R3.out.keep f4 (by simp))
        clear hB hn f4 nb4
        go_wp2_with fail
        refine (where0_any (fun n => n != 0) 39 e39 _ HL.out.lt b n _ (fun n W _ _ => bany_any n W) B4.out (by have := N4.out; omega)).mono ?_
        rintro e w5 ⟨v5, ss, sp5, rfl, o5, m5, w5f, l5, f5, n5⟩
        obtain ⟨a5, c5, rfl, _, _⟩ := o5.sl.form
        have O5 := Lib.hid o5
        have M5 := Lib.hid (anyB HL.out (p := fun n => n != 0) (P := inL L) m5 w5f (fun x => by simp only [bne_iff_ne, inL]; rw [hb_ne]; simp) (fun x ⟨i, h⟩ => HL.out.wf h))
        have W5 := Lib.hid w5f
        have L5 := Lib.hid (show ss.length ≤ 64000 by have := N4.out; omega)
        have F5 := Lib.hid (F4.out.trans f5 (by simp))
        have R5 := Lib.hid (R4.out.keep f5 (by simp))
        clear o5 m5 w5f l5 f5 n5
        go_wp2_with (at_builtin; refine wpList_append_ads AT' (OwnA.nil 25 _) O5.out.sl (by have := L5.out; simp; omega) rfl (.tmp 13) (.tmp 16) rfl rfl rfl ?_; intro a6 cap6 w6 sp6 o6 f6 n6)
        have hf6 : Frm [] w5 w6 := f6
        have G6 := Lib.hid (show Got (inL L) w (.slice a6 (0 + ss.length) cap6) w6 from ⟨ss, sp6, by simpa using o6, M5.out, W5.out, L5.out, fun i hi => by
          rcases n6 i (by simpa using hi) with h | h
          · simp [blk] at h
          · have := F5.out.size; omega⟩)
        have F6 := Lib.hid (F5.out.trans hf6 (by simp))
        have R6 := Lib.hid (R5.out.keep hf6 (by simp))
        clear o6 f6 n6 hf6
        go_wp2_with fail
        go_roundw
        case rel => exact ⟨R6.out, F6.out, .inr ⟨rfl, by simpa using G6.out⟩⟩
        case measure => decide
      · obtain ⟨ss, sp, o, m, wf, l, nf⟩ := hg
        have F := Lib.hid f
        have NF := Lib.hid nf
        have M := Lib.hid m
        clear f nf m hr
        go_wp2_with fail
        refine (Sort_any _ ss sp _ o.sl (by omega) wf).mono ?_
        rintro e w2 ⟨v2, sp2, rfl, o2, f2, n2⟩
        have hk : srt ss = allU L := tell_eq fun x => by rw [M.out x]; simp [inL]
        rw [hk] at o2
        have O2 := Lib.hid o2
        have F2 := Lib.hid f2
        have N2 := Lib.hid n2
        clear o2 f2 n2 hk
        go_wp2_with fail
        go_ret
        exact ⟨v2, sp2, rfl, O2.out, F.out.trans F2.out (by simp), fun i hi => by have := N2.out i hi; have := F.out.size; omega⟩
end Go.Proofs.Ytafedmahehbggaa
