/-
  Contracts of Freed, Unique. No conditions but those that each theorem names.
-/
import Derived.Test.YtafedmahehbggaaUX
namespace Go.Proofs.Ytafedmahehbggaa
open Go.RowKit Go.Sort Go.Maps
set_option linter.unusedVariables false
set_option linter.unusedSimpArgs false
set_option maxRecDepth 100000

open Kr (OwnE SlE Enco RowTys)
theorem hb_some {L : List (List Ad)} {s : List Int} {x : Ad} : (hb L x L.length ≠ 0 ∧ ((hb L x L.length &&& nb L.length s) != 0) = true) ↔ inU L s x = true := by
  rw [bits_some (Nat.le_refl _), hb_ne, inU]
  simp only [decide_eq_true_eq]
  exact ⟨fun h => h.2, fun ⟨i, h1, h2, h3⟩ => ⟨⟨i, h3⟩, ⟨i, h1, h2, h3⟩⟩⟩
theorem hb_else {L : List (List Ad)} {s : List Int} {x : Ad} (h : L.length ≤ 64) : (hb L x L.length ≠ 0 ∧ ((hb L x L.length &&& (18446744073709551615 - nb L.length s)) != 0) = true) ↔ outU L s x = true := by
  rw [bits_else (Nat.le_refl _) h, hb_ne, outU]
  simp only [decide_eq_true_eq]
  exact ⟨fun h => h.2, fun ⟨i, h1, h2, h3⟩ => ⟨⟨i, h3⟩, ⟨i, h1, h2, h3⟩⟩⟩
theorem inU_wf {L : List (List Ad)} (h : Hs L) {s : List Int} {x : Ad} (hx : inU L s x = true) : WfA x := by
  simp only [inU, decide_eq_true_eq] at hx
  obtain ⟨i, _, _, h3⟩ := hx
  exact h.wf h3
theorem outU_wf {L : List (List Ad)} (h : Hs L) {s : List Int} {x : Ad} (hx : outU L s x = true) : WfA x := by
  simp only [outU, decide_eq_true_eq] at hx
  obtain ⟨i, _, _, h3⟩ := hx
  exact h.wf h3
theorem freed_eq {L : List (List Ad)} {s : List Int} {A B : List Ad} (hA : ∀ x, x ∈ A ↔ inU L s x = true) (hB : ∀ x, x ∈ B ↔ outU L s x = true) : srt (minA A B) = freedU L s := by
  refine tell_eq fun x => ?_
  unfold minA
  rw [List.mem_filter, hA x]
  have hx : (!decide (x ∈ B)) = !outU L s x := by
    by_cases h : x ∈ B
    · rw [decide_eq_true h, (hB x).1 h]
    · have : outU L s x = false := by
        cases hc : outU L s x
        · rfl
        · exact absurd ((hB x).2 hc) h
      rw [decide_eq_false h, this]
  rw [hx, Bool.and_eq_true]
  constructor
  · rintro ⟨h1, h2⟩
    refine ⟨?_, h1, h2⟩
    simp only [inU, decide_eq_true_eq] at h1
    obtain ⟨i, _, _, h3⟩ := h1
    exact ⟨i, h3⟩
  · rintro ⟨_, h1, h2⟩
    exact ⟨h1, h2⟩
def FrRel (L : List (List Ad)) (s : List Int) (v : Value) (g : Nat) (w : World) (d k cv : Value) (wr : World) : Prop :=
  Row1 wr g v (nb L.length s) ∧ Frm [] w wr ∧ ((cv = .int .i64 0 ∧ d = .slice none 0 0 ∧ k = .slice none 0 0) ∨ (cv = .int .i64 1 ∧ Got (fun x => inU L s x = true) w d wr ∧ Got (fun x => outU L s x = true) w k wr))
set_option maxHeartbeats 8000000 in
theorem Freed_any (L : List (List Ad)) (v sv : Value) (s : List Int) (ssp : List Value) (w : World) (hS : LsA w v L) (hL : Hs L) (hI : SlI w sv s ssp) (hs : s.length ≤ 1000000) :
    Calls Try.prog 13 #[v, sv] w (Told w (freedU L s)) := by
  have e40 : ∀ args w, (callFunc 40 args).run Try.prog w = .ok (.enter 40 args) w := enters_of Try.func40 (by kernel_rfl) rfl
  have e41 : ∀ args w, (callFunc 41 args).run Try.prog w = .ok (.enter 41 args) w := enters_of Try.func41 (by kernel_rfl) rfl
  have hmf : ∀ (fn : Fn) (first cap : Array Value) (w : World), (Instr.makeFunc fn first cap).run Try.prog w = .ok (.func fn first cap) w := fun _ _ _ _ => rfl
  by_cases h0 : L.length = 0
  · obtain rfl : L = [] := List.eq_nil_of_length_eq_zero h0
    have HR := Lib.hid (rows_none v sv s ssp w hS hI hs)
    clear hS hL h0 hI hs
    go_enter Try.func13, Try.ntmps13
    go_wp2_with fail
    refine HR.out.mono ?_
    rintro e w1 ⟨rfl, f1⟩
    have F1 := Lib.hid f1
    clear f1 HR
    go_wp2_with fail
    go_loopw [5, 6, 14] (fun d k c wr => d = .slice none 0 0 ∧ k = .slice none 0 0 ∧ c = .int .i64 0 ∧ wr = w1) (fun _ _ c _ => 0)
    case atStart => exact ⟨rfl, rfl, rfl, rfl⟩
    case round =>
      obtain ⟨rfl, rfl, rfl, rfl⟩ := hrel
      go_wp2_with fail
      refine (Minus_any _ _ [] [] [] [] _ (SlA.nil _) (by simp) (by simp) (SlA.nil _) (by simp) (by simp)).mono ?_
      rintro e w2 ⟨v2, sp2, rfl, o2, f2, n2⟩
      have hk : srt (minA [] []) = freedU [] s := rfl
      rw [hk] at o2
      go_wp2_with fail
      go_ret
      exact ⟨v2, sp2, rfl, o2, F1.out.trans f2 (by simp), fun i hi => by have := n2 i hi; have := F1.out.size; omega⟩
  · have HR := Lib.hid (rows_any L v sv s ssp w hS hL.n (by omega) hI hs)
    have HS := Lib.hid hS
    have HL := Lib.hid hL
    obtain ⟨a, cap, rfl, hcap⟩ := hS.form
    clear hS hL hcap hI hs
    go_enter Try.func13, Try.ntmps13
    go_wp2_with fail
    refine HR.out.mono ?_
    rintro e w1 ⟨g, c1, rfl, hr, f1, ng⟩
    have R1 := Lib.hid hr
    have F1 := Lib.hid f1
    have NG := Lib.hid ng
    clear hr f1 ng HR
    go_wp2_with fail
    go_loopw [5, 6, 14] (FrRel L s (.slice a L.length cap) g w) (fun _ _ c _ => 1 - (intOf c).toNat)
    case atStart => exact ⟨R1.out, F1.out, .inl ⟨rfl, rfl, rfl⟩⟩
    case round =>
      obtain ⟨hr, f, ⟨rfl, rfl, rfl⟩ | ⟨rfl, hg, hk⟩⟩ := hrel
      · obtain ⟨c0, c1, c2, _⟩ := hr.cell
        have F := Lib.hid f
        have R := Lib.hid hr
        clear f hr
        obtain ⟨z, hz⟩ : ∃ z, ((nb L.length s : Nat) : Int) = z := ⟨_, rfl⟩
        have HZ := Lib.hid hz
        rw [hz] at c2
        clear hz
        go_upto_region 5 with (fail)
        have f3 : Frm [] wr (wr.alloc (.cells #[.int .i64 0, .slice a L.length cap, .int .u64 z] 53)) := (Frm.refl [] wr).alloc _
        have h3 := heap_alloc_new wr (.cells #[.int .i64 0, .slice a L.length cap, .int .u64 z] 53)
        have R3 := Lib.hid (R.out.keep f3 (by simp))
        have F3 := Lib.hid (F.out.trans f3 (by simp))
        generalize wr.alloc (.cells #[.int .i64 0, .slice a L.length cap, .int .u64 z] 53) = w3 at *
        obtain ⟨g3, hg3⟩ : ∃ g3, wr.heap.size = g3 := ⟨_, rfl⟩
        rw [hg3] at h3 ⊢
        have H3 := Lib.hid h3
        have d0 : w3.cell? ⟨g3, 0, none⟩ = some (.int .i64 0) := by rw [cell_of_heap h3]; rfl
        have d1 : w3.cell? ⟨g3, 1, none⟩ = some (.slice a L.length cap) := by rw [cell_of_heap h3]; rfl
        have d2 : w3.cell? ⟨g3, 2, none⟩ = some (.int .u64 z) := by rw [cell_of_heap h3]; rfl
        clear c0 c1 c2 f3 h3 hg3
        go_wp2_with fail
        refine (count_any L _ _ _ _ (HS.out.keep0 F3.out) HL.out.n HL.out.l HL.out.w).mono ?_
        rintro e w4 ⟨b, n, rfl, hB, hn, f4, nb4⟩
        have B4 := Lib.hid hB
        have N4 := Lib.hid hn
        have F4 := Lib.hid (F3.out.trans f4 (by simp))
        have R4 := Lib.hid (R3.out.keep f4 (by simp))
        have H4 := Lib.hid (f4.heap H3.out (by simp))
        clear hB hn f4 nb4 d0 d1 d2
        go_wp2_with fail
        refine (where_any (fun n => (n &&& nb L.length s) != 0) 40 g3 e40 _ HL.out.lt b n _ (fun n W hn hf => bsome_any n _ g3 hn (HL.out.nlt s) W (by rw [cell_of_heap (hf.heap H4.out (by simp)), HZ.out]; rfl)) B4.out (by have := N4.out; omega)).mono ?_
        rintro e w5 ⟨v5, ss, sp5, rfl, o5, m5, w5f, l5, f5, n5⟩
        obtain ⟨a5, c5, rfl, _, _⟩ := o5.sl.form
        have O5 := Lib.hid o5
        have M5 := Lib.hid (anyB HL.out (p := fun n => (n &&& nb L.length s) != 0) (P := fun x => inU L s x = true) m5 w5f (fun x => hb_some) (fun x h => inU_wf HL.out h))
        have W5 := Lib.hid w5f
        have L5 := Lib.hid (show ss.length ≤ 64000 by have := N4.out; omega)
        have F5 := Lib.hid (F4.out.trans f5 (by simp))
        have R5 := Lib.hid (R4.out.keep f5 (by simp))
        have B5 := Lib.hid (B4.out.keep f5 (by simp))
        have H5 := Lib.hid (f5.heap H4.out (by simp))
        clear o5 m5 w5f l5 f5 n5
        go_upto_region 7 with (at_builtin; refine wpList_append_ads AT' (OwnA.nil 25 _) O5.out.sl (by have := L5.out; simp; omega) rfl (.tmp 20) (.tmp 23) rfl rfl rfl ?_; intro a6 cap6 w6 sp6 o6 f6 n6)
        have hf6 : Frm [] w5 w6 := f6
        have G6 := Lib.hid (show Got (fun x => inU L s x = true) w (.slice a6 (0 + ss.length) cap6) w6 from ⟨ss, sp6, by simpa using o6, M5.out, W5.out, L5.out, fun i hi => by
          rcases n6 i (by simpa using hi) with h | h
          · simp [blk] at h
          · have := F5.out.size; omega⟩)
        have F6 := Lib.hid (F5.out.trans hf6 (by simp))
        have R6 := Lib.hid (R5.out.keep hf6 (by simp))
        have B6 := Lib.hid (B5.out.keep hf6 (by simp))
        have H6 := Lib.hid (hf6.heap H5.out (by simp))
        clear o6 f6 n6 hf6
        go_wp2_with fail
        refine (where_any (fun n => (n &&& (18446744073709551615 - nb L.length s)) != 0) 41 g3 e41 _ HL.out.lt b n _ (fun n W hn hf => belse_any n _ g3 hn (HL.out.nlt s) W (by rw [cell_of_heap (hf.heap H6.out (by simp)), HZ.out]; rfl)) B6.out (by have := N4.out; omega)).mono ?_
        rintro e w7 ⟨v7, ts, sp7, rfl, o7, m7, w7f, l7, f7, n7⟩
        obtain ⟨a7, c7, rfl, _, _⟩ := o7.sl.form
        have O7 := Lib.hid o7
        have M7 := Lib.hid (anyB HL.out (p := fun n => (n &&& (18446744073709551615 - nb L.length s)) != 0) (P := fun x => outU L s x = true) m7 w7f (fun x => hb_else HL.out.n) (fun x h => outU_wf HL.out h))
        have W7 := Lib.hid w7f
        have L7 := Lib.hid (show ts.length ≤ 64000 by have := N4.out; omega)
        have F7 := Lib.hid (F6.out.trans f7 (by simp))
        have R7 := Lib.hid (R6.out.keep f7 (by simp))
        have G7 := Lib.hid (G6.out.keep f7 (by simp))
        clear o7 m7 w7f l7 f7 n7
        go_wp2_with (at_builtin; refine wpList_append_ads AT' (OwnA.nil 25 _) O7.out.sl (by have := L7.out; simp; omega) rfl (.tmp 25) (.tmp 28) rfl rfl rfl ?_; intro a8 cap8 w8 sp8 o8 f8 n8)
        have hf8 : Frm [] w7 w8 := f8
        have K8 := Lib.hid (show Got (fun x => outU L s x = true) w (.slice a8 (0 + ts.length) cap8) w8 from ⟨ts, sp8, by simpa using o8, M7.out, W7.out, L7.out, fun i hi => by
          rcases n8 i (by simpa using hi) with h | h
          · simp [blk] at h
          · have := F7.out.size; omega⟩)
        have F8 := Lib.hid (F7.out.trans hf8 (by simp))
        have R8 := Lib.hid (R7.out.keep hf8 (by simp))
        have G8 := Lib.hid (G7.out.keep hf8 (by simp))
        clear o8 f8 n8 hf8
        go_wp2_with fail
        go_roundw
        case rel => exact ⟨R8.out, F8.out, .inr ⟨rfl, by simpa using G8.out, by simpa using K8.out⟩⟩
        case measure => decide
      · obtain ⟨ss, sp, o, m, wf, l, nf⟩ := hg
        obtain ⟨ts, tp, ot, mt, wt, lt, nt⟩ := hk
        have F := Lib.hid f
        have M := Lib.hid (And.intro m mt)
        clear f nf nt m mt hr
        go_wp2_with fail
        refine (Minus_any _ _ ss sp ts tp _ o.sl (by omega) wf ot.sl (by omega) wt).mono ?_
        rintro e w2 ⟨v2, sp2, rfl, o2, f2, n2⟩
        rw [freed_eq M.out.1 M.out.2] at o2
        have O2 := Lib.hid o2
        have F2 := Lib.hid f2
        have N2 := Lib.hid n2
        clear o2 f2 n2
        go_wp2_with fail
        go_ret
        exact ⟨v2, sp2, rfl, O2.out, F.out.trans F2.out (by simp), fun i hi => by have := N2.out i hi; have := F.out.size; omega⟩
/-- A list of one number that a call makes. -/
theorem one_int (w : World) (z : Int) : SlI (w.alloc (.cells #[.int .i64 z] 3)) (.slice (some ⟨w.heap.size, 0, none⟩) 1 1) [z] [] :=
  OwnE.sl (T := 3) (OwnI.of_heap (n := 1) (cap := 1) (heap_alloc_new _ _) rfl rfl (by decide))
theorem Unique_any (L : List (List Ad)) (v : Value) (i : Int) (w : World) (hS : LsA w v L) (hL : Hs L) :
    Calls Try.prog 11 #[v, .int .i64 i] w (Told w (freedU L [i])) := by
  have f0 : Frm [] w (w.alloc (.cells #[.int .i64 i] 3)) := (Frm.refl [] w).alloc _
  have HC := Lib.hid (Freed_any L v (.slice (some ⟨w.heap.size, 0, none⟩) 1 1) [i] [] _ (hS.keep0 f0) hL (one_int w i) (by simp))
  have F0 := Lib.hid f0
  clear f0 hS hL
  go_enter Try.func11, Try.ntmps11
  go_wp2_with fail
  refine HC.out.mono ?_
  rintro e w2 ⟨v2, sp2, rfl, o2, f2, n2⟩
  go_wp2_with fail
  go_ret
  exact ⟨v2, sp2, rfl, o2, F0.out.trans f2 (by simp), fun i hi => by have := n2 i hi; have := F0.out.size; omega⟩
end Go.Proofs.Ytafedmahehbggaa
