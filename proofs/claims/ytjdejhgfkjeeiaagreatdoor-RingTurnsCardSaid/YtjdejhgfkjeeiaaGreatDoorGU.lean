/-
  Contracts of heap's up and Fix at a queue. No conditions but those that each theorem names.
-/
import Derived.Test.YtjdejhgfkjeeiaaGreatDoorGT
namespace Go.Proofs.YtjdejhgfkjeeiaaGreatDoor
open Go.RowKit
set_option linter.unusedVariables false
set_option linter.unusedSimpArgs false
set_option maxRecDepth 100000

def UpRel (g : Nat) (v : Value) (l : List En) (sp : List Value) (j : Nat) (w : World) (cv : Value) (wr : World) : Prop :=
  ∃ (k : Nat) (lk : List En), cv = .int .i64 k ∧ Qu wr g v lk sp ∧ upL lk k = upL l j ∧ lk.length = l.length ∧ (k = 0 ∨ k < l.length) ∧ Frm (blk v) w wr
set_option maxHeartbeats 4000000 in
theorem up_any (g : Nat) (v : Value) (l : List En) (sp : List Value) (j : Nat) (w : World) (h : Qu w g v l sp) (hj : j = 0 ∨ j < l.length) (hl : l.length ≤ 1000000) :
    Calls Tryz.prog 164 #[.iface 114 (.pointer (some ⟨g, 0, none⟩)), .int .i64 j] w fun e w' => e = .returned (.tuple #[]) ∧ Mv g v (upL l j) sp w w' := by
  have H := Lib.hid h
  have HJ := Lib.hid hj
  have HL := Lib.hid hl
  clear h hj hl
  go_enter Tryz.func164, Tryz.ntmps164
  go_wp2_with fail
  go_loopw [1] (UpRel g v l sp j w) (fun cv _ => (intOf cv).toNat)
  case atStart => exact ⟨j, l, rfl, H.out, rfl, rfl, HJ.out, Frm.refl _ _⟩
  case round =>
    obtain ⟨k, lk, rfl, q, hd, hlk, hkl, f⟩ := hrel
    have Q := Lib.hid q
    have F := Lib.hid f
    have HD := Lib.hid hd
    have HLK := Lib.hid hlk
    have HKL := Lib.hid hkl
    have ml := mLess g wr v q.cell
    have HMS := Lib.hid (fun (W : World) (f : Frm [] wr W) => mSwap g W v (Q.out.keep0 f).cell)
    clear q f hd hlk hkl H HJ
    by_cases h0 : k = 0
    · subst h0
      go_wp2_with fail
      go_end0
      have e := HD.out
      rw [upL_stop (.inl rfl)] at e
      exact ⟨rfl, by rw [← e]; exact Q.out, F.out⟩
    · have hk9 : (k : Int) ≤ 1000000 := by have := HKL.out; have := HL.out; omega
      have hk1 : (1 : Int) ≤ (k : Int) := by omega
      obtain ⟨p, hp⟩ : ∃ p, par k = p := ⟨_, rfl⟩
      have hpk : p < k := by rw [← hp]; exact par_lt (by omega)
      have hq : ((k : Int) - 1).tdiv 2 = (p : Int) := by
        rw [Int.tdiv_eq_ediv_of_nonneg (by omega)]
        unfold par at hp
        omega
      have hne : ¬ (p : Int) = (k : Int) := by omega
      have hwq : IntKind.i64.wrap (p : Int) = (p : Int) := IntWalk.i64_in _ (by omega)
      have HP := Lib.hid (And.intro hp hpk)
      have hkn : k < lk.length := by have := HKL.out; rw [HLK.out]; omega
      have HL2 := Lib.hid (LessQ_any v lk sp k p wr Q.out.own hkn (by omega))
      obtain ⟨b2, hb2⟩ : ∃ b2, ltE (en lk k) (en lk p) = b2 := ⟨_, rfl⟩
      rw [hb2] at HL2
      have HB2 := Lib.hid hb2
      have HKN := Lib.hid hkn
      clear hb2 hp hkn
      cases b2 with
      | false =>
        go_wp2_with fail
        refine HL2.out.mono ?_
        rintro r w2 ⟨rfl, f2⟩
        go_wp2_with fail
        go_end0
        have e := HD.out
        rw [upL_stop (.inr (by rw [HP.out.1]; exact HB2.out))] at e
        exact ⟨rfl, by rw [← e]; exact Q.out.keep0 f2, F.out.trans f2 (by simp)⟩
      | true =>
        go_wp2_with fail
        refine HL2.out.mono ?_
        rintro r w2 ⟨rfl, f2⟩
        have ms2 := HMS.out w2 f2
        have HS := Lib.hid (SwapQ_any v lk sp p k w2 (Q.out.keep0 f2).own (by have := HKN.out; have := HP.out.2; omega) HKN.out)
        have Q2 := Lib.hid (Q.out.keep0 f2)
        have F2 := Lib.hid (F.out.trans f2 (by simp))
        clear f2
        go_wp2_with fail
        refine HS.out.mono ?_
        rintro r w3 ⟨rfl, o3, f3⟩
        go_wp2_with fail
        go_roundw
        case rel =>
          refine ⟨p, swp lk p k, rfl, Q2.out.swap o3 f3, ?_, by rw [swp_len]; exact HLK.out, .inr (by have := HKN.out; rw [HLK.out] at this; have := HP.out.2; omega), F2.out.trans f3 (fun i hi => .inl hi)⟩
          have e := HD.out
          rw [upL_step (by have := HP.out; omega) (by rw [HP.out.1]; exact HB2.out), HP.out.1] at e
          exact e
        case measure => simp [intOf]; have := HP.out.2; omega
end Go.Proofs.YtjdejhgfkjeeiaaGreatDoor
