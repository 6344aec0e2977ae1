/-
  Contracts of heap's down, up and Fix at a queue. No conditions but those that each theorem names.
-/
import Derived.Test.YtjdejhgfkjeeiaaGreatDoorGS
namespace Go.Proofs.YtjdejhgfkjeeiaaGreatDoor
open Go.RowKit
set_option linter.unusedVariables false
set_option linter.unusedSimpArgs false
set_option maxRecDepth 100000

/-- A queue whose row has been changed in place. -/
def Mv (g : Nat) (v : Value) (l' : List En) (sp : List Value) (w w' : World) : Prop := Qu w' g v l' sp ∧ Frm (blk v) w w'
theorem Qu.swap {w w' : World} {g : Nat} {v : Value} {l l' : List En} {sp : List Value} (h : Qu w g v l sp) (ho : OwnQ w' v l' sp) (f : Frm (blk v) w w') : Qu w' g v l' sp :=
  ⟨f.heap h.box (fun hm => h.ne _ hm rfl), ho, h.ne⟩
theorem Qu.form {w : World} {g : Nat} {v : Value} {l : List En} {sp : List Value} (h : Qu w g v l sp) : ∃ a cap, v = .slice a l.length cap := by
  obtain ⟨a, cap, e, _, _⟩ := h.own.sl.form
  exact ⟨a, cap, e⟩
def DnRel (g : Nat) (v : Value) (l : List En) (sp : List Value) (i : Nat) (w : World) (cv : Value) (wr : World) : Prop :=
  ∃ (k : Nat) (lk : List En), cv = .int .i64 k ∧ Qu wr g v lk sp ∧ downL lk k = downL l i ∧ lk.length = l.length ∧ k ≤ l.length ∧ Frm (blk v) w wr
theorem LessQ_int (a b : Int) (v : Value) (l : List En) (sp : List Value) (i j : Nat) (w : World) (h : OwnQ w v l sp) (hi : i < l.length) (hj : j < l.length) (ha : a = (i : Int)) (hb : b = (j : Int)) :
    Calls Tryz.prog 201 #[v, .int .i64 a, .int .i64 b] w fun e w' => e = .returned (.bool (ltE (en l i) (en l j))) ∧ Frm [] w w' := by
  subst ha; subst hb; exact LessQ_any v l sp i j w h hi hj
theorem SwapQ_int (a b : Int) (v : Value) (l : List En) (sp : List Value) (i j : Nat) (w : World) (h : OwnQ w v l sp) (hi : i < l.length) (hj : j < l.length) (ha : a = (i : Int)) (hb : b = (j : Int)) :
    Calls Tryz.prog 125 #[v, .int .i64 a, .int .i64 b] w fun e w' => e = .returned (.tuple #[]) ∧ OwnQ w' v (swp l i j) sp ∧ Frm (blk v) w w' := by
  subst ha; subst hb; exact SwapQ_any v l sp i j w h hi hj
set_option maxHeartbeats 4000000 in
theorem down_any (g : Nat) (v : Value) (l : List En) (sp : List Value) (i : Nat) (w : World) (h : Qu w g v l sp) (hi : i ≤ l.length) (hl : l.length ≤ 1000000) :
    Calls Tryz.prog 163 #[.iface 114 (.pointer (some ⟨g, 0, none⟩)), .int .i64 i, .int .i64 l.length] w fun e w' => e = .returned (.bool (decide (i < (downL l i).2))) ∧ Mv g v (downL l i).1 sp w w' := by
  have hl9 : (l.length : Int) ≤ 1000000 := by omega
  obtain ⟨n, hn⟩ : ∃ n, n = l.length := ⟨_, rfl⟩
  have HN := Lib.hid hn
  rw [← hn] at hl9 hi ⊢
  have H := Lib.hid h
  have HI := Lib.hid hi
  clear h hi hl hn
  go_enter Tryz.func163, Tryz.ntmps163
  go_wp2_with fail
  go_loopw [7] (DnRel g v l sp i w) (fun cv _ => n - (intOf cv).toNat)
  case atStart => exact ⟨i, l, rfl, H.out, rfl, rfl, by rw [← HN.out]; exact HI.out, Frm.refl _ _⟩
  case round =>
    obtain ⟨k, lk, rfl, q, hd, hlk, hkl, f⟩ := hrel
    rw [← HN.out] at hlk hkl
    have Q := Lib.hid q
    have F := Lib.hid f
    have HD := Lib.hid hd
    have HLK := Lib.hid hlk
    have hk9 : (k : Int) ≤ (n : Int) := by omega
    have ml := mLess g wr v q.cell
    clear q f hd hlk H HI
    by_cases h1 : 2 * k + 1 < n
    · have h1' : 2 * (k : Int) + 1 < (n : Int) := by omega
      by_cases h2 : 2 * k + 2 < n
      · have h2' : 2 * (k : Int) + 1 + 1 < (n : Int) := by omega
        have HL1 := Lib.hid (LessQ_int (2 * (k : Int) + 1 + 1) (2 * (k : Int) + 1) v lk sp (2 * k + 2) (2 * k + 1) wr Q.out.own (by rw [HLK.out]; omega) (by rw [HLK.out]; omega) (by omega) (by omega))
        obtain ⟨b1, hb1⟩ : ∃ b1, ltE (en lk (2 * k + 2)) (en lk (2 * k + 1)) = b1 := ⟨_, rfl⟩
        rw [hb1] at HL1
        have HB1 := Lib.hid hb1
        clear hb1
        cases b1 with
        | true =>
          go_upto_region 8 with (fail)
          refine HL1.out.mono ?_
          rintro r w1 ⟨rfl, f1⟩
          have Q1 := Lib.hid (Q.out.keep0 f1)
          have F1 := Lib.hid (F.out.trans f1 (by simp))
          clear f1
          go_upto_region 8 with (fail)
          obtain ⟨j, hj⟩ : ∃ j, kid lk k = j := ⟨_, rfl⟩
          have HJ := Lib.hid hj
          have hje : (2 * k + 2) = j := by rw [← hj]; unfold kid; rw [if_pos ⟨by rw [HLK.out]; omega, HB1.out⟩]
          have hjn : j < lk.length := by rw [← hj]; exact kid_lt (by rw [HLK.out]; omega)
          subst hje
          have HJN := Lib.hid hjn
          clear hj hjn
          have ml1 := mLess g w1 v Q1.out.cell
          have HMS := Lib.hid (fun (W : World) (f : Frm [] w1 W) => mSwap g W v (Q1.out.keep0 f).cell)
          have HL2 := Lib.hid (LessQ_int (2 * (k : Int) + 1 + 1) k v lk sp (2 * k + 2) k w1 Q1.out.own HJN.out (by rw [HLK.out]; omega) (by omega) rfl)
          obtain ⟨b2, hb2⟩ : ∃ b2, ltE (en lk (2 * k + 2)) (en lk k) = b2 := ⟨_, rfl⟩
          rw [hb2] at HL2
          have HB2 := Lib.hid hb2
          clear hb2
          cases b2 with
          | false =>
            go_wp2_with fail
            refine HL2.out.mono ?_
            rintro r w2 ⟨rfl, f2⟩
            go_wp2_with fail
            go_ret
            have e := HD.out
            rw [downL_stop (.inr (by rw [HJ.out]; exact HB2.out))] at e
            rw [← e]
            exact ⟨by simp, Q1.out.keep0 f2, F1.out.trans f2 (by simp)⟩
          | true =>
            go_wp2_with fail
            refine HL2.out.mono ?_
            rintro r w2 ⟨rfl, f2⟩
            have ms2 := HMS.out w2 f2
            have HS := Lib.hid (SwapQ_int k (2 * (k : Int) + 1 + 1) v lk sp k (2 * k + 2) w2 (Q1.out.keep0 f2).own (by rw [HLK.out]; omega) HJN.out rfl (by omega))
            have Q2 := Lib.hid (Q1.out.keep0 f2)
            have F2 := Lib.hid (F1.out.trans f2 (by simp))
            clear f2
            go_wp2_with fail
            refine HS.out.mono ?_
            rintro r w3 ⟨rfl, o3, f3⟩
            go_wp2_with fail
            go_roundw
            case rel =>
              refine ⟨2 * k + 2, swp lk k (2 * k + 2), congrArg (Value.int .i64) (by omega), Q2.out.swap o3 f3, ?_, by rw [swp_len]; exact HLK.out.trans HN.out, by have := HJN.out; rw [HLK.out, HN.out] at this; omega, F2.out.trans f3 (fun i hi => .inl hi)⟩
              have e := HD.out
              rw [downL_step (by rw [HLK.out]; omega) (by rw [HJ.out]; exact HB2.out), HJ.out] at e
              exact e
            case measure => simp [intOf]; omega
        | false =>
          go_upto_region 8 with (fail)
          refine HL1.out.mono ?_
          rintro r w1 ⟨rfl, f1⟩
          have Q1 := Lib.hid (Q.out.keep0 f1)
          have F1 := Lib.hid (F.out.trans f1 (by simp))
          clear f1
          go_upto_region 8 with (fail)
          obtain ⟨j, hj⟩ : ∃ j, kid lk k = j := ⟨_, rfl⟩
          have HJ := Lib.hid hj
          have hje : (2 * k + 1) = j := by rw [← hj]; unfold kid; rw [if_neg (fun h => by rw [HB1.out] at h; exact absurd h.2 (by decide))]
          have hjn : j < lk.length := by rw [← hj]; exact kid_lt (by rw [HLK.out]; omega)
          subst hje
          have HJN := Lib.hid hjn
          clear hj hjn
          have ml1 := mLess g w1 v Q1.out.cell
          have HMS := Lib.hid (fun (W : World) (f : Frm [] w1 W) => mSwap g W v (Q1.out.keep0 f).cell)
          have HL2 := Lib.hid (LessQ_int (2 * (k : Int) + 1) k v lk sp (2 * k + 1) k w1 Q1.out.own HJN.out (by rw [HLK.out]; omega) (by omega) rfl)
          obtain ⟨b2, hb2⟩ : ∃ b2, ltE (en lk (2 * k + 1)) (en lk k) = b2 := ⟨_, rfl⟩
          rw [hb2] at HL2
          have HB2 := Lib.hid hb2
          clear hb2
          cases b2 with
          | false =>
            go_wp2_with fail
            refine HL2.out.mono ?_
            rintro r w2 ⟨rfl, f2⟩
            go_wp2_with fail
            go_ret
            have e := HD.out
            rw [downL_stop (.inr (by rw [HJ.out]; exact HB2.out))] at e
            rw [← e]
            exact ⟨by simp, Q1.out.keep0 f2, F1.out.trans f2 (by simp)⟩
          | true =>
            go_wp2_with fail
            refine HL2.out.mono ?_
            rintro r w2 ⟨rfl, f2⟩
            have ms2 := HMS.out w2 f2
            have HS := Lib.hid (SwapQ_int k (2 * (k : Int) + 1) v lk sp k (2 * k + 1) w2 (Q1.out.keep0 f2).own (by rw [HLK.out]; omega) HJN.out rfl (by omega))
            have Q2 := Lib.hid (Q1.out.keep0 f2)
            have F2 := Lib.hid (F1.out.trans f2 (by simp))
            clear f2
            go_wp2_with fail
            refine HS.out.mono ?_
            rintro r w3 ⟨rfl, o3, f3⟩
            go_wp2_with fail
            go_roundw
            case rel =>
              refine ⟨2 * k + 1, swp lk k (2 * k + 1), congrArg (Value.int .i64) (by omega), Q2.out.swap o3 f3, ?_, by rw [swp_len]; exact HLK.out.trans HN.out, by have := HJN.out; rw [HLK.out, HN.out] at this; omega, F2.out.trans f3 (fun i hi => .inl hi)⟩
              have e := HD.out
              rw [downL_step (by rw [HLK.out]; omega) (by rw [HJ.out]; exact HB2.out), HJ.out] at e
              exact e
            case measure => simp [intOf]; omega
      · have h2' : (n : Int) ≤ 2 * (k : Int) + 1 + 1 := by omega
        obtain ⟨j, hj⟩ : ∃ j, kid lk k = j := ⟨_, rfl⟩
        have HJ := Lib.hid hj
        have hje : (2 * k + 1) = j := by rw [← hj]; unfold kid; rw [if_neg (fun h => by rw [HLK.out] at h; omega)]
        have hjn : j < lk.length := by rw [← hj]; exact kid_lt (by rw [HLK.out]; omega)
        subst hje
        have HJN := Lib.hid hjn
        clear hj hjn
        have HMS := Lib.hid (fun (W : World) (f : Frm [] wr W) => mSwap g W v (Q.out.keep0 f).cell)
        have HL2 := Lib.hid (LessQ_int (2 * (k : Int) + 1) k v lk sp (2 * k + 1) k wr Q.out.own HJN.out (by rw [HLK.out]; omega) (by omega) rfl)
        obtain ⟨b2, hb2⟩ : ∃ b2, ltE (en lk (2 * k + 1)) (en lk k) = b2 := ⟨_, rfl⟩
        rw [hb2] at HL2
        have HB2 := Lib.hid hb2
        clear hb2
        cases b2 with
        | false =>
          go_wp2_with fail
          refine HL2.out.mono ?_
          rintro r w2 ⟨rfl, f2⟩
          go_wp2_with fail
          go_ret
          have e := HD.out
          rw [downL_stop (.inr (by rw [HJ.out]; exact HB2.out))] at e
          rw [← e]
          exact ⟨by simp, Q.out.keep0 f2, F.out.trans f2 (by simp)⟩
        | true =>
          go_wp2_with fail
          refine HL2.out.mono ?_
          rintro r w2 ⟨rfl, f2⟩
          have ms2 := HMS.out w2 f2
          have HS := Lib.hid (SwapQ_int k (2 * (k : Int) + 1) v lk sp k (2 * k + 1) w2 (Q.out.keep0 f2).own (by rw [HLK.out]; omega) HJN.out rfl (by omega))
          have Q2 := Lib.hid (Q.out.keep0 f2)
          have F2 := Lib.hid (F.out.trans f2 (by simp))
          clear f2
          go_wp2_with fail
          refine HS.out.mono ?_
          rintro r w3 ⟨rfl, o3, f3⟩
          go_wp2_with fail
          go_roundw
          case rel =>
            refine ⟨2 * k + 1, swp lk k (2 * k + 1), congrArg (Value.int .i64) (by omega), Q2.out.swap o3 f3, ?_, by rw [swp_len]; exact HLK.out.trans HN.out, by have := HJN.out; rw [HLK.out, HN.out] at this; omega, F2.out.trans f3 (fun i hi => .inl hi)⟩
            have e := HD.out
            rw [downL_step (by rw [HLK.out]; omega) (by rw [HJ.out]; exact HB2.out), HJ.out] at e
            exact e
          case measure => simp [intOf]; omega
    · have h1' : (n : Int) ≤ 2 * (k : Int) + 1 := by omega
      go_wp2_with fail
      go_ret
      have e := HD.out
      rw [downL_stop (.inl (by rw [HLK.out]; omega))] at e
      rw [← e]
      exact ⟨by simp, Q.out, F.out⟩
end Go.Proofs.YtjdejhgfkjeeiaaGreatDoor
