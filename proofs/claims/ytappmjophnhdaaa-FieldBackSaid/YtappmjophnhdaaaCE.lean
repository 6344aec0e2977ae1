/-
  Contract of the document's reader's Num; no conditions but those that each theorem names.
-/
import Derived.Test.YtappmjophnhdaaaCD
namespace Go.Proofs.Ytappmjophnhdaaa
open Go.RowKit
set_option linter.unusedVariables false
set_option linter.unusedSimpArgs false

theorem Rv.cells {w : World} {b : Nat} {v : Value} {l sp : List UInt8} {p : Nat} {fe fa : Int} (h : Rv w b v l sp (p, fe, fa)) :
    w.cell? ⟨b, 0, none⟩ = some v ∧ w.cell? ⟨b, 1, none⟩ = some (.int .i64 p) ∧ w.cell? ⟨b, 2, none⟩ = some (.int .i64 fe) ∧ w.cell? ⟨b, 3, none⟩ = some (.int .i64 fa) ∧ ∀ i, w.frozen? ⟨b, i, none⟩ = false := by
  refine ⟨?_, ?_, ?_, ?_, fun i => frozen_of_heap h.1 i⟩ <;> rw [cell_of_heap h.1] <;> rfl
/-- The place is set. -/
theorem Rv.place {w : World} {b : Nat} {v : Value} {l sp : List UInt8} {p : Nat} {fe fa : Int} (h : Rv w b v l sp (p, fe, fa)) (q : Nat) (u : Value) (hu : u = .int .i64 q) : RvTo w b v l sp (q, fe, fa) (w.setCell ⟨b, 1, none⟩ u) := by
  subst hu
  have F : Frm [b] w (w.setCell ⟨b, 1, none⟩ (.int .i64 q)) := (Frm.refl [b] w).setCell _ _ (by simp)
  refine ⟨⟨?_, h.2.1.keepR F (fun k hk => by simp; rintro rfl; exact h.2.2 hk), h.2.2⟩, F⟩
  rw [heap_setCell_same _ h.1]
  rfl
theorem RvTo.drewN {w w' : World} {b : Nat} {v : Value} {l sp : List UInt8} {s : Nat × Int × Int} (h : RvTo w b v l sp s w') (n : Nat) : RvTo w b v l sp s (w'.drewN n) :=
  ⟨h.1.keep ((Frm.refl [] w').drewN n) (by simp) (by simp), h.2.drewN n⟩
theorem RvTo.behind {w w1 w2 : World} {b : Nat} {v : Value} {l sp : List UInt8} {s : Nat × Int × Int} (f : Frm [] w w1) (h : RvTo w1 b v l sp s w2) : RvTo w b v l sp s w2 := ⟨h.1, (f.mono (by simp)).trans h.2 (by simp)⟩
def VNumRel (w : World) (l : List UInt8) (p z : Nat) (n c : Value) (wr : World) : Prop := ∃ k m : Nat, k ≤ z ∧ c = .int .i64 k ∧ n = .int .i64 m ∧ m = beNat ((l.drop p).take k) ∧ m < 256 ^ k ∧ Frm [] w wr
set_option maxHeartbeats 2000000 in
theorem VNum_bad (b : Nat) (v : Value) (l sp : List UInt8) (p : Nat) (fe fa size low high : Int) (w : World) (hR : Rv w b v l sp (p, fe, fa)) (hp : p ≤ l.length) (hl : l.length ≤ 1000000000) (h : fe ≠ 0 ∨ isSizeB size = false) :
    Calls Try.prog 50 #[.pointer (some ⟨b, 0, none⟩), .int .i64 size, .int .i64 low, .int .i64 high] w fun r w' => r = .returned (.int .i64 0) ∧ RvTo w b v l sp (failS (p, fe, fa) 2 p) w' := by
  obtain ⟨c0, c1, c2, c3, z⟩ := hR.cells
  have HR := Lib.hid hR
  by_cases hs : isSizeB size = false
  · clear h hR z
    go_enter Try.func50, Try.ntmps50
    go_wp2_with fail
    refine (size_any _ _).mono ?_
    rw [hs]
    rintro r w0 ⟨rfl, hw0⟩
    subst hw0
    go_wp2_with fail
    refine (vfail_any b v l sp (p, fe, fa) 2 p _ HR.out).mono ?_
    rintro r w1 ⟨rfl, h1⟩
    have hne : (failS (p, fe, fa) 2 p).2.1 ≠ 0 := by
      unfold failS
      split
      · simp
      · assumption
    go_wp2_with fail
    refine (vsome_bad b v _ l sp _ _ h1.1 hne).mono ?_
    rintro r w2 ⟨rfl, kk, rfl⟩
    go_wp2
    go_ret
    exact ⟨rfl, h1.drewN kk⟩
  · have hs' : isSizeB size = true := by simpa using hs
    have hfe : fe ≠ 0 := by simpa [hs] using h
    have HFE := Lib.hid hfe
    clear h hs hfe hR z
    have hr : failS (p, fe, fa) 2 p = (p, fe, fa) := by simp [failS, HFE.out]
    rw [hr]
    clear hr
    go_enter Try.func50, Try.ntmps50
    go_wp2_with fail
    refine (size_any _ _).mono ?_
    rw [hs']
    rintro r w0 ⟨rfl, hw0⟩
    subst hw0
    go_wp2_with fail
    refine (vsome_bad b v _ l sp _ _ HR.out HFE.out).mono ?_
    rintro r w2 ⟨rfl, kk, rfl⟩
    go_wp2
    go_ret
    exact ⟨rfl, RvTo.same HR.out ((Frm.refl [] _).drewN kk)⟩
set_option maxRecDepth 100000 in
set_option maxHeartbeats 2000000 in
theorem VNum_any (b : Nat) (v : Value) (l sp : List UInt8) (s : Nat × Int × Int) (size low high : Int) (w : World) (hR : Rv w b v l sp s) (hp : s.1 ≤ l.length) (hl : l.length ≤ 1000000000) :
    Calls Try.prog 50 #[.pointer (some ⟨b, 0, none⟩), .int .i64 size, .int .i64 low, .int .i64 high] w fun r w' => r = .returned (.int .i64 (rNum l s size low high).1) ∧ RvTo w b v l sp (rNum l s size low high).2 w' := by
  obtain ⟨p, fe, fa⟩ := s
  simp only at hp
  by_cases hbad : fe ≠ 0 ∨ isSizeB size = false
  · have hr : rNum l (p, fe, fa) size low high = (0, failS (p, fe, fa) 2 p) := by
      by_cases hfe : fe = 0
      · have hs : isSizeB size = false := by simpa [hfe] using hbad
        simp [rNum, stepR, failS, numRead, hfe, hs]
      · simp [rNum, stepR, failS, hfe]
    rw [hr]
    exact VNum_bad b v l sp p fe fa size low high w hR hp hl hbad
  · simp only [not_or, Classical.not_not, Bool.not_eq_false] at hbad
    obtain ⟨rfl, hs'⟩ := hbad
    have hb : 1 ≤ size ∧ size ≤ 7 := by simpa [isSizeB] using hs'
    obtain ⟨hb1, hb2⟩ := hb
    obtain ⟨z, rfl⟩ := Int.eq_ofNat_of_zero_le (show 0 ≤ size by omega)
    by_cases hlt : l.length < p + z
    · have hr : rNum l (p, 0, fa) z low high = (0, p, 4, (l.length : Int)) := by simp [rNum, stepR, numRead, hs', hlt]
      have hd : decide ((z : Int) ≤ (l.length : Int) - p) = false := by simp; omega
      have hs4 : someS l (p, 0, fa) z = (p, 4, (l.length : Int)) := by unfold someS; rw [if_pos (by simp; omega)]; simp [failS]
      rw [hr]
      have HR := Lib.hid hR
      have H4 := Lib.hid hs4
      clear hr hlt hR hs4
      go_enter Try.func50, Try.ntmps50
      go_wp2_with fail
      refine (size_any _ _).mono ?_
      rw [hs']
      rintro r w0 ⟨rfl, hw0⟩
      subst hw0
      go_wp2_with fail
      refine (vsome_ok b v l sp p fa z _ HR.out hp hl).mono ?_
      rw [hd, H4.out]
      rintro r w1 ⟨rfl, h1⟩
      go_wp2
      go_ret
      exact ⟨rfl, h1⟩
    · have hd : decide ((z : Int) ≤ (l.length : Int) - p) = true := by simp; omega
      have hs0 : someS l (p, 0, fa) z = (p, 0, fa) := by unfold someS; rw [if_neg (by simp; omega)]
      have HR := Lib.hid hR
      have H4 := Lib.hid hs0
      have hle : p + z ≤ l.length := by omega
      have hz7 : z ≤ 7 := by omega
      clear hlt hR hs0
      go_enter Try.func50, Try.ntmps50
      go_wp2_with fail
      refine (size_any _ _).mono ?_
      rw [hs']
      rintro r w0 ⟨rfl, hw0⟩
      subst hw0
      go_wp2_with fail
      refine (vsome_ok b v l sp p fa z _ HR.out hp hl).mono ?_
      rw [hd, H4.out]
      rintro r w1 ⟨rfl, h1⟩
      have R1 := h1.1
      have F1 := h1.2
      obtain ⟨a, cap, rfl, hc1, hc2⟩ := R1.2.1.form
      clear h1
      go_wp2_with fail
      go_loopw [9, 10] (VNumRel w1 l p z) (fun _ c _ => z - (intOf c).toNat)
      case atStart => exact ⟨0, 0, Nat.zero_le _, rfl, rfl, by simp [beNat], by simp, Frm.refl _ _⟩
      case round =>
        obtain ⟨k, m, hk, rfl, rfl, hm, hlt, F2⟩ := hrel
        have R2 := R1.keep F2 (by simp) (by simp)
        obtain ⟨q0, q1, q2, q3, qz⟩ := R2.cells
        by_cases hkz : k < z
        · obtain ⟨q, hq⟩ : ∃ q, q = p + k := ⟨_, rfl⟩
          have hql : q < l.length := by omega
          obtain ⟨b0, off, rfl⟩ : ∃ b0 off, a = some ⟨b0, off, none⟩ := by
            rcases R2.2.1.cases with ⟨h, h2⟩ | ⟨_, _, h⟩ | ⟨b0, off, cap, h, _⟩
            · rw [h2] at hql; simp at hql
            · rw [h] at hql; simp at hql
            · cases h; exact ⟨b0, off, rfl⟩
          have hc := R2.2.1.cellAt q hql
          have hm6 : m < 256 ^ 6 := Nat.lt_of_lt_of_le hlt (Nat.pow_le_pow_right (by omega) (by omega))
          have hu := l[q].toNat_lt
          generalize hx : l[q] = x at *
          have w1' : IntKind.i64.wrap (256 * (m : Int)) = 256 * (m : Int) := IntWalk.i64_in _ (by omega)
          have w2' : IntKind.i64.wrap ((p : Int) + (k : Int)) = (q : Int) := by rw [IntWalk.i64_in _ (by omega)]; omega
          have w3' : IntKind.i64.wrap (x.toNat : Int) = (x.toNat : Int) := IntWalk.i64_in _ (by omega)
          have w4' : IntKind.i64.wrap (256 * (m : Int) + (x.toNat : Int)) = ((m * 256 + x.toNat : Nat) : Int) := by rw [IntWalk.i64_in _ (by omega)]; omega
          have hi1 : (0 : Int) ≤ (q : Int) := by omega
          have hi2 : (q : Int) < (l.length : Int) := by omega
          have HX := Lib.hid hx
          have HQ := Lib.hid hq
          have HM := Lib.hid hm
          have HL := Lib.hid hlt
          have W1 := Lib.hid w1'
          have W2 := Lib.hid w2'
          have W3 := Lib.hid w3'
          have W4 := Lib.hid w4'
          clear hx hq hm hlt w1' w2' w3' w4' hm6
          go_wp2_with fail
          have w1' := W1.out
          have w2' := W2.out
          have w3' := W3.out
          have w4' := W4.out
          go_quiet (fail)
          clear w1' w2' w3' w4'
          go_wp2_with fail
          refine ⟨⟨k + 1, m * 256 + x.toNat, by omega, by go_num, by simp, ?_, ?_, F2.drewN _⟩, by simp [intOf]; omega⟩
          · rw [List.take_succ_eq_append_getElem (by simp; omega), beNat_snoc, ← HM.out, List.getElem_drop]
            have h9 := HX.out
            have h8 := HQ.out
            subst h8
            rw [h9]
          · have := HL.out
            rw [Nat.pow_succ]; omega
        · obtain rfl : k = z := by omega
          have HM := Lib.hid hm
          have hmle : (m : Int) ≤ 9223372036854775807 := by
            have : m < 256 ^ 7 := Nat.lt_of_lt_of_le hlt (Nat.pow_le_pow_right (by omega) hz7)
            omega
          have hrr : rNum l (p, 0, fa) k low high = if (m : Int) < low ∨ high < (m : Int) then (0, p, 5, (p : Int)) else ((m : Int), p + k, (0 : Int), fa) := by
            have : ¬ l.length < p + k := by omega
            unfold rNum numRead
            simp only [hs', Int.toNat_natCast, this, if_false, Bool.true_eq_false, ← hm]
            split <;> simp [stepR]
          have HRR := Lib.hid hrr
          clear hm hlt hkz hrr
          by_cases hlow : (m : Int) < low
          · go_wp2_with fail
            refine (vfail_any b _ l sp (p, 0, fa) 5 p _ R2).mono ?_
            rintro r w2 ⟨rfl, h2⟩
            go_wp2
            go_ret
            rw [HRR.out, if_pos (.inl hlow)]
            refine ⟨rfl, ?_⟩
            have h3 : RvTo wr b (.slice a l.length cap) l sp (p, 5, (p : Int)) w2 := by simpa [failS] using h2
            exact ⟨h3.1, (F1.trans F2 (by simp)).trans h3.2 (by simp)⟩
          · by_cases hhi : high < (m : Int)
            · go_wp2_with fail
              refine (vfail_any b _ l sp (p, 0, fa) 5 p _ R2).mono ?_
              rintro r w2 ⟨rfl, h2⟩
              go_wp2
              go_ret
              rw [HRR.out, if_pos (.inr hhi)]
              refine ⟨rfl, ?_⟩
              have h3 : RvTo wr b (.slice a l.length cap) l sp (p, 5, (p : Int)) w2 := by simpa [failS] using h2
              exact ⟨h3.1, (F1.trans F2 (by simp)).trans h3.2 (by simp)⟩
            · go_wp2_with fail
              go_ret
              rw [HRR.out, if_neg (by omega)]
              have h3 := R2.place (p + k) (.int .i64 ((p : Int) + (k : Int))) (by simp)
              exact ⟨rfl, h3.1, (F1.trans F2 (by simp)).trans h3.2 (by simp)⟩
end Go.Proofs.Ytappmjophnhdaaa
