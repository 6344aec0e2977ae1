/-
  Contracts of the document's Check and Same of uberblocks. No conditions but those that each theorem names.
-/
import Derived.Test.YtjdejhgfkjeeiaaGreatDoorUD
namespace Go.Proofs.YtjdejhgfkjeeiaaGreatDoor
open Go.RowKit
set_option linter.unusedVariables false
set_option linter.unusedSimpArgs false
set_option maxRecDepth 100000

open Pt (Pt may enc readPt readE zeroPt pc pv PtV SlA OwnA)
theorem ret_int {a b : Int} (h : a = b) : Ending.returned (.int .i64 a) = .returned (.int .i64 b) := by rw [h]
set_option maxHeartbeats 4000000 in
theorem RefUCheck_any (x : Value) (u : Ub) (w : World) (h : UbV w x u) (hl : u.root.ads.length ≤ 1000000) : Calls Tryz.prog 20 #[x] w fun r w' => r = .returned (.int .i64 (mayE u)) ∧ Frm [] w w' := by
  obtain ⟨a, cap, sp, rfl, hS, hw⟩ := id h
  have HC := Lib.hid (fun W (f : Frm [] w W) => Pt.RefCheck_any _ u.root W (h.root.keep0 f) hl)
  have HH := Lib.hid (fun W (f : Frm [] w W) => Pt.RefHole_any _ u.root W (h.root.keep0 f))
  have b0 := UB.new w (.slice a u.root.ads.length cap) hw
  have f0 : Frm [] w (w.alloc (.cells (uc (.slice a u.root.ads.length cap) u).toArray 28)) := (Frm.refl [] w).alloc _
  have g0 := b0.gets
  have HM := Lib.hid (show mayE u = if (decide (1 ≤ u.txg ∧ u.txg ≤ 2147483648) && ((Pt.hole u.root || (Pt.mayB u.root && (u.root.l == 3 && decide (u.root.b ≤ u.txg)))) && decide (0 ≤ u.len ∧ u.len ≤ 16384))) = true then 0 else 2 from rfl)
  have hhm : Pt.hole u.root = true → Pt.mayB u.root = true := fun e => (Pt.mayB_iff _).2 (.inl e)
  have HB := Lib.hid b0
  have G0 := Lib.hid g0.root
  have c0 := g0.c0
  have c36 := g0.c36
  have c2 : (w.alloc (.cells (uc (.slice a u.root.ads.length cap) u).toArray 28)).cell? ⟨w.heap.size, 2, none⟩ = some (.int .i64 u.root.b) := b0.1.cell 2 rfl
  have c3 : (w.alloc (.cells (uc (.slice a u.root.ads.length cap) u).toArray 28)).cell? ⟨w.heap.size, 3, none⟩ = some (.int .i64 u.root.l) := b0.1.cell 3 rfl
  clear b0 g0 h hS
  rw [uv_box]
  unfold Pt.chk at HC
  generalize hA : (uc (.slice a u.root.ads.length cap) u).toArray = A at *
  generalize hq : Pt.hole u.root = q at *
  generalize hm : Pt.mayB u.root = m at *
  go_enter Tryz.func20, Tryz.ntmps20
  go_upto_region 1 with fail
  generalize w.alloc (.cells A 28) = W at *
  have F0 := Lib.hid f0
  clear f0 hA hq hm
  have HQM := Lib.hid hhm
  clear hhm
  by_cases h1 : u.txg < 1
  · go_wp2_with fail
    go_ret
    refine ⟨ret_int ?_, F0.out⟩
    rw [HM.out, if_neg (by simp; intro; omega)]
  by_cases h2 : (2147483648 : Int) < u.txg
  · go_wp2_with fail
    go_ret
    refine ⟨ret_int ?_, F0.out⟩
    rw [HM.out, if_neg (by simp; intro; omega)]
  by_cases h3 : u.len < 0
  · go_wp2_with fail
    go_ret
    refine ⟨ret_int ?_, F0.out⟩
    rw [HM.out, if_neg (by simp; intros; omega)]
  by_cases h4 : (16384 : Int) < u.len
  · go_wp2_with fail
    go_ret
    refine ⟨ret_int ?_, F0.out⟩
    rw [HM.out, if_neg (by simp; intros; omega)]
  cases m with
  | false =>
    rw [if_neg (by simp)] at HC
    go_wp2_with (first
      | ((with_reducible (show wpList _ _ _ (Oper.mk _ (Op.load 26 _) _ _ _ _ :: _) _ _)); refine wpList_load_g (by rfl) 26 _ rfl _ rfl G0.out ?_)
      | (go_at_call 58; refine (HC.out _ F0.out).mono ?_; rintro r w1 ⟨rfl, f1⟩))
    go_ret
    refine ⟨ret_int ?_, F0.out.trans f1 (by simp)⟩
    rw [HM.out]
    have := HQM.out
    cases q <;> simp at this ⊢
  | true =>
    rw [if_pos rfl] at HC
    go_upto_region 3 with (first
      | ((with_reducible (show wpList _ _ _ (Oper.mk _ (Op.load 26 _) _ _ _ _ :: _) _ _)); refine wpList_load_g (by rfl) 26 _ rfl _ rfl G0.out ?_)
      | (go_at_call 58; refine (HC.out _ F0.out).mono ?_; rintro r w1 ⟨rfl, f1⟩))
    have F1 := Lib.hid (F0.out.trans f1 (by simp))
    have B1 := Lib.hid (HB.out.keep0 f1)
    have G1 := Lib.hid B1.out.gets.root
    clear f1 c0 c36 c2 c3 G0 HB F0
    cases q with
    | true =>
      go_wp2_with (first
        | ((with_reducible (show wpList _ _ _ (Oper.mk _ (Op.load 26 _) _ _ _ _ :: _) _ _)); refine wpList_load_g (by rfl) 26 _ rfl _ rfl G1.out ?_)
        | (go_at_call 59; refine (HH.out _ F1.out).mono ?_; rintro r w2 ⟨rfl, f2⟩))
      go_ret
      refine ⟨ret_int ?_, F1.out.trans f2 (by simp)⟩
      rw [HM.out, if_pos (by simp; omega)]
    | false =>
      by_cases h5 : u.root.l = 3
      · have H5 := Lib.hid h5
        clear h5
        by_cases h6 : u.txg < u.root.b
        · go_wp2_with (first
            | ((with_reducible (show wpList _ _ _ (Oper.mk _ (Op.load 26 _) _ _ _ _ :: _) _ _)); refine wpList_load_g (by rfl) 26 _ rfl _ rfl G1.out ?_)
            | (go_at_call 59; refine (HH.out _ F1.out).mono ?_; rintro r w2 ⟨rfl, f2⟩; have B2 := B1.out.keep0 f2; have c0 := B2.gets.c0; have c2 : w2.cell? ⟨w.heap.size, 2, none⟩ = some (.int .i64 u.root.b) := B2.1.cell 2 rfl; have c3 : w2.cell? ⟨w.heap.size, 3, none⟩ = some (.int .i64 u.root.l) := B2.1.cell 3 rfl; rw [H5.out] at c3; clear B2))
          go_ret
          refine ⟨ret_int ?_, F1.out.trans f2 (by simp)⟩
          rw [HM.out, if_neg (by simp; intros; omega)]
        · go_wp2_with (first
            | ((with_reducible (show wpList _ _ _ (Oper.mk _ (Op.load 26 _) _ _ _ _ :: _) _ _)); refine wpList_load_g (by rfl) 26 _ rfl _ rfl G1.out ?_)
            | (go_at_call 59; refine (HH.out _ F1.out).mono ?_; rintro r w2 ⟨rfl, f2⟩; have B2 := B1.out.keep0 f2; have c0 := B2.gets.c0; have c2 : w2.cell? ⟨w.heap.size, 2, none⟩ = some (.int .i64 u.root.b) := B2.1.cell 2 rfl; have c3 : w2.cell? ⟨w.heap.size, 3, none⟩ = some (.int .i64 u.root.l) := B2.1.cell 3 rfl; rw [H5.out] at c3; clear B2))
          go_ret
          refine ⟨ret_int ?_, F1.out.trans f2 (by simp)⟩
          rw [HM.out, if_pos (by simp [H5.out]; omega)]
      · have h5' : (u.root.l == 3) = false := beq_eq_false_iff_ne.2 h5
        go_wp2_with (first
          | ((with_reducible (show wpList _ _ _ (Oper.mk _ (Op.load 26 _) _ _ _ _ :: _) _ _)); refine wpList_load_g (by rfl) 26 _ rfl _ rfl G1.out ?_)
          | (go_at_call 59; refine (HH.out _ F1.out).mono ?_; rintro r w2 ⟨rfl, f2⟩; have B2 := B1.out.keep0 f2; have c0 := B2.gets.c0; have c2 : w2.cell? ⟨w.heap.size, 2, none⟩ = some (.int .i64 u.root.b) := B2.1.cell 2 rfl; have c3 : w2.cell? ⟨w.heap.size, 3, none⟩ = some (.int .i64 u.root.l) := B2.1.cell 3 rfl; clear B2))
        go_ret
        refine ⟨ret_int ?_, F1.out.trans f2 (by simp)⟩
        rw [HM.out, if_neg (by simp [h5])]
end Go.Proofs.YtjdejhgfkjeeiaaGreatDoor
