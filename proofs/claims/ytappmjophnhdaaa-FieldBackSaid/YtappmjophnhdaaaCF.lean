/-
  Contract of the document's reader's Text; no conditions but those that each theorem names.
-/
import Derived.Test.YtappmjophnhdaaaCE
namespace Go.Proofs.Ytappmjophnhdaaa
open Go.RowKit
set_option linter.unusedVariables false
set_option linter.unusedSimpArgs false

set_option maxHeartbeats 2000000 in
theorem VText_bad (b : Nat) (v : Value) (l sp : List UInt8) (p : Nat) (fe fa most : Int) (w : World) (hR : Rv w b v l sp (p, fe, fa)) (h : fe ≠ 0 ∨ isMostB most = false) :
    Calls Try.prog 51 #[.pointer (some ⟨b, 0, none⟩), .int .i64 most] w fun r w' => r = .returned (.string ByteArray.empty) ∧ RvTo w b v l sp (failS (p, fe, fa) 2 p) w' := by
  obtain ⟨c0, c1, c2, c3, z⟩ := hR.cells
  have HR := Lib.hid hR
  by_cases hs : isMostB most = false
  · have hor : most < 0 ∨ ¬ most < 0 ∧ 255 < most := by
      simp [isMostB] at hs; omega
    clear h hR z hs
    rcases hor with h0 | ⟨h0, h1⟩
    all_goals
      go_enter Try.func51, Try.ntmps51
      go_wp2_with fail
      refine (vfail_any b v l sp (p, fe, fa) 2 p _ HR.out).mono ?_
      rintro r w1 ⟨rfl, h1⟩
      have hne : (failS (p, fe, fa) 2 p).2.1 ≠ 0 := by
        unfold failS
        split
        · simp
        · assumption
      have HN := Lib.hid hne
      clear hne
      go_wp2_with fail
      refine (vsome_bad b v _ l sp _ _ h1.1 HN.out).mono ?_
      rintro r w2 ⟨rfl, kk, rfl⟩
      go_wp2
      go_ret
      exact ⟨rfl, h1.drewN kk⟩
  · have hs' : isMostB most = true := by simpa using hs
    have hb : 0 ≤ most ∧ most ≤ 255 := by simpa [isMostB] using hs'
    obtain ⟨hb1, hb2⟩ := hb
    have hfe : fe ≠ 0 := by simpa [hs] using h
    have HFE := Lib.hid hfe
    clear h hs hfe hR z hs'
    have hr : failS (p, fe, fa) 2 p = (p, fe, fa) := by simp [failS, HFE.out]
    rw [hr]
    clear hr
    go_enter Try.func51, Try.ntmps51
    go_wp2_with fail
    refine (vsome_bad b v _ l sp _ _ HR.out HFE.out).mono ?_
    rintro r w2 ⟨rfl, kk, rfl⟩
    go_wp2
    go_ret
    exact ⟨rfl, RvTo.same HR.out ((Frm.refl [] _).drewN kk)⟩
theorem room_cases (l : List UInt8) (p z : Nat) (h : p + (1 + z) ≤ l.length) : ∃ x r, (l.drop p).take (1 + z) = x :: r ∧ r.length = z ∧ l[p]'(by omega) = x ∧ (∀ j (hj : j < z), r[j]? = some (l[p + 1 + j]'(by omega))) := by
  have h1 : (l.drop p).take (1 + z) = l[p]'(by omega) :: (l.drop (p + 1)).take z := by
    rw [List.drop_eq_getElem_cons (by omega), Nat.add_comm 1 z, List.take_succ_cons]
  refine ⟨_, _, h1, by simp; omega, rfl, fun j hj => ?_⟩
  rw [List.getElem?_take_of_lt hj, List.getElem?_drop, List.getElem?_eq_getElem]
def VTextRel (r : List UInt8) (n z : Nat) (c : Value) : Prop := ∃ k : Nat, n ≤ k ∧ k ≤ z ∧ c = .int .i64 k ∧ ∀ j, n ≤ j → j < k → r[j]? = some 0
theorem firstNot_drop_none {r : List UInt8} {n : Nat} (h : ∀ j, n ≤ j → j < r.length → r[j]? = some 0) : firstNot (r.drop n) = -1 :=
  firstNot_none fun j hj => by
    rw [List.getElem?_drop]
    exact h (n + j) (by omega) (by simp at hj; omega)
theorem firstNot_drop_some {r : List UInt8} {n k : Nat} (hk : n ≤ k) (hl : k < r.length) (h : ∀ j, n ≤ j → j < k → r[j]? = some 0) (h0 : r[k] ≠ 0) : firstNot (r.drop n) = (k : Int) - n := by
  have := firstNot_some (l := r.drop n) (k := k - n) (by simp; omega) (fun j hj => by
    rw [List.getElem?_drop]
    exact h (n + j) (by omega) (by omega)) (by rw [List.getElem_drop]; simpa [show n + (k - n) = k by omega] using h0)
  rw [this]; omega
theorem slice_lhB {P : Program} {tS T : TypeId} (B : ByteTys P tS T) {w : World} {a : Option Addr} {n cap : Nat} {l sp : List UInt8} (h : SlB w (.slice a n cap) l sp) (lo hi : Nat) (h1 : lo ≤ hi) (h2 : hi ≤ l.length) :
    ∃ a' c', (∀ (x y : Int) (wx : World), x = lo → y = hi → (Instr.slice tS (.slice a n cap) (some (.int .i64 x)) (some (.int .i64 y)) none).run P wx = .ok (.slice a' (hi - lo) c') wx) ∧
      SlB w (.slice a' (hi - lo) c') ((l.drop lo).take (hi - lo)) (l.drop hi ++ sp) ∧ ∀ i ∈ blkR (.slice a' (hi - lo) c'), i ∈ blkR (.slice a n cap) := by
  obtain ⟨a2, c2, e, hle, hm⟩ := h.form
  cases e
  refine ⟨_, _, fun x y wx hx hy => ?_, h.cut lo hi h1 h2, ?_⟩
  · subst hx
    subst hy
    obtain ⟨i, hi', hz, hs, hby⟩ := info_parts B.info
    have he : P.elem tS = T := by simp [Program.elem, B.sl]
    have hsz : (sizeOf (P.elem tS)).run P wx = .ok 1 wx := by rw [he]; simp [sizeOf, typeInfo, hi', hs]
    rw [run_slice_lh (P := P) wx tS a l.length cap (by rw [he]; exact B.sl) .i64 .i64 lo hi (by omega) (by omega) (by omega), hsz]
    simp [Result.andThen, sliced]
  · intro i hi3
    cases a with
    | none => simp [blkR] at hi3
    | some a =>
      by_cases hc : cap = lo
      · simp [blkR, hc] at hi3
      · by_cases h0 : cap = 0
        · subst h0
          rw [if_neg hc] at hi3
          simp [blkR] at hi3
        · rw [if_neg hc] at hi3
          simp only [blkR, Option.map_some] at hi3 ⊢
          rw [if_neg h0]
          split at hi3
          · cases hi3
          · have he : (a.add (lo * 1)).block = a.block := by unfold Addr.add; split <;> rfl
            rw [List.mem_singleton] at hi3 ⊢
            rw [hi3, he]
set_option maxRecDepth 100000 in
set_option maxHeartbeats 2000000 in
theorem VText_ok (b : Nat) (v : Value) (l sp : List UInt8) (p : Nat) (fa : Int) (z : Nat) (w : World) (hR : Rv w b v l sp (p, 0, fa)) (hp : p ≤ l.length) (hl : l.length ≤ 1000000000) (hz : z ≤ 255) (hle : p + (1 + z) ≤ l.length) :
    Calls Try.prog 51 #[.pointer (some ⟨b, 0, none⟩), .int .i64 z] w fun r w' => r = .returned (.string ⟨(rText l (p, 0, fa) z).1.toArray⟩) ∧ RvTo w b v l sp (rText l (p, 0, fa) z).2 w' := by
  obtain ⟨x, r, hroom, hrl, hx, hr⟩ := room_cases l p z hle
  have hmost : isMostB (z : Int) = true := by simp [isMostB]; omega
  have hrt : rText l (p, 0, fa) z = if (z : Int) < x.toNat then ([], p, 3, (p : Int)) else if 0 ≤ firstNot (r.drop x.toNat) then ([], p, 4, ((p + 1 + x.toNat : Nat) : Int) + firstNot (r.drop x.toNat)) else (r.take x.toNat, p + (1 + z), (0 : Int), fa) := by
    have : ¬ l.length < p + (1 + z) := by omega
    unfold rText textRead
    simp only [hmost, Int.toNat_natCast, this, if_false, Bool.true_eq_false, hroom]
    split
    · simp [stepR]
    · split <;> simp [stepR]
  have HRT := Lib.hid hrt
  have hd : decide (1 + (z : Int) ≤ (l.length : Int) - p) = true := by simp; omega
  have hs0 : someS l (p, 0, fa) (1 + (z : Int)) = (p, 0, fa) := by unfold someS; rw [if_neg (by simp; omega)]
  have HR := Lib.hid hR
  have H4 := Lib.hid hs0
  have HX := Lib.hid hx
  have HRR := Lib.hid hr
  have HRL := Lib.hid hrl
  have hz0 : (0 : Int) ≤ (z : Int) := by omega
  have hz1 : (z : Int) ≤ 255 := by omega
  clear hrt hs0 hR hx hr hrl hroom hmost
  go_enter Try.func51, Try.ntmps51
  go_wp2_with fail
  refine (vsome_ok b v l sp p fa (1 + (z : Int)) _ HR.out hp hl).mono ?_
  rw [hd, H4.out]
  rintro rr w1 ⟨rfl, h1⟩
  have R1 := h1.1
  have F1 := h1.2
  obtain ⟨a, cap, rfl, hc1, hc2⟩ := R1.2.1.form
  obtain ⟨q0, q1, q2, q3, qz⟩ := R1.cells
  have hpl : p < l.length := by omega
  obtain ⟨b0, off, rfl⟩ : ∃ b0 off, a = some ⟨b0, off, none⟩ := by
    rcases R1.2.1.cases with ⟨h, h2⟩ | ⟨_, _, h⟩ | ⟨b0, off, cap, h, _⟩
    · rw [h2] at hpl; simp at hpl
    · rw [h] at hpl; simp at hpl
    · cases h; exact ⟨b0, off, rfl⟩
  have hc := R1.2.1.cellAt p hpl
  rw [HX.out] at hc
  have hu := x.toNat_lt
  have w3' : IntKind.i64.wrap (x.toNat : Int) = (x.toNat : Int) := IntWalk.i64_in _ (by omega)
  have hi1 : (0 : Int) ≤ (p : Int) := by omega
  have hi2 : (p : Int) < (l.length : Int) := by omega
  have W3 := Lib.hid w3'
  have R1H := Lib.hid R1
  clear h1 w3' R1
  go_wp2_with fail
  have w3' := W3.out
  go_quiet (fail)
  clear w3'
  by_cases hbig : (z : Int) < (x.toNat : Int)
  · go_wp2_with fail
    refine (vfail_any b _ l sp (p, 0, fa) 3 p _ (R1H.out.keep ((Frm.refl [] _).drewN _) (by simp) (by simp))).mono ?_
    rintro rr w2 ⟨rfl, h2⟩
    go_wp2
    go_ret
    rw [HRT.out, if_pos hbig]
    refine ⟨rfl, ?_⟩
    have h3 := h2
    simp only [failS, if_true] at h3
    exact ⟨h3.1, (F1.drewN _).trans h3.2 (by simp)⟩
  · have hbz : x.toNat ≤ z := by omega
    have hbz2 : (x.toNat : Int) ≤ (z : Int) := by omega
    go_wp2_with fail
    go_loop [7] (VTextRel r x.toNat z) (fun c => z - (intOf c).toNat)
    case atStart => exact ⟨x.toNat, Nat.le_refl _, hbz, rfl, fun j h1 h2 => by omega⟩
    case round =>
      obtain ⟨k, hk1, hk2, rfl, hz⟩ := hrel
      have HZ := Lib.hid hz
      clear hz
      by_cases hkz : k < z
      · have hql : p + 1 + k < l.length := by omega
        have hc2 := R1H.out.2.1.cellAt (p + 1 + k) hql
        have hrk := HRR.out k hkz
        have hkl : k < r.length := by rw [HRL.out]; exact hkz
        generalize hy : l[p + 1 + k] = y at *
        have hi3 : (p : Int) + 1 + (k : Int) < (l.length : Int) := by omega
        have htn : ((p : Int) + 1 + (k : Int)).toNat = p + 1 + k := by omega
        have hrk' : r[k] = y := by rw [List.getElem?_eq_getElem hkl] at hrk; simpa using hrk
        have HRK := Lib.hid hrk'
        have HKL := Lib.hid hkl
        have HTN := Lib.hid htn
        by_cases hy0 : y = 0
        · have hb0 : ((y.toNat : Int) != 0) = false := by rw [bne_cast]; simp [hy0]
          have HY0 := Lib.hid hy0
          clear hy hrk hrk' hy0 htn
          go_wp2_with fail
          refine ⟨⟨k + 1, by omega, by omega, by go_num, fun j h1 h2 => ?_⟩, by simp [intOf]; omega⟩
          rcases Nat.lt_or_ge j k with h | h
          · exact HZ.out j h1 h
          · obtain rfl : j = k := by omega
            rw [List.getElem?_eq_getElem hkl, HRK.out, HY0.out]
        · have hb0 : ((y.toNat : Int) != 0) = true := by rw [bne_cast]; simp [hy0]
          have HY0 := Lib.hid hy0
          clear hy hrk hrk' hy0 htn
          go_wp2_with fail
          refine (vfail_any b _ l sp (p, 0, fa) 4 _ _ (R1H.out.keep ((Frm.refl [] _).drewN _) (by simp) (by simp))).mono ?_
          rintro rr w2 ⟨rfl, h2⟩
          go_wp2
          go_ret
          have hfn : firstNot (r.drop x.toNat) = (k : Int) - x.toNat := firstNot_drop_some hk1 hkl HZ.out (by rw [HRK.out]; exact HY0.out)
          rw [HRT.out, if_neg (by omega), if_pos (by rw [hfn]; omega), hfn]
          refine ⟨rfl, ?_⟩
          rw [show ((p + 1 + x.toNat : Nat) : Int) + ((k : Int) - x.toNat) = (p : Int) + 1 + (k : Int) by omega]
          refine ⟨?_, (F1.drewN _).trans h2.2 (by simp)⟩
          simpa [failS] using h2.1
      · obtain rfl : k = z := by omega
        obtain ⟨a4, c4, hsl4, s4, hbl⟩ := slice_lhB BT R1H.out.2.1 (p + 1) (p + 1 + x.toNat) (by omega) (by omega)
        have hsl4' := fun wx => hsl4 ((p : Int) + 1) ((p : Int) + 1 + (x.toNat : Int)) wx (by omega) (by omega)
        rw [show p + 1 + x.toNat - (p + 1) = x.toNat by omega] at hsl4' s4 hbl
        have F4 : ∀ n u, Frm [b] w1 ((w1.drewN n).setCell ⟨b, 1, none⟩ u) := fun n u => (((Frm.refl [b] w1).drewN n).setCell _ _ (by simp))
        have hnb : b ∉ blkR (.slice a4 x.toNat c4) := fun hm => R1H.out.2.2 (hbl b hm)
        have s4' : ∀ n u, SlB ((w1.drewN n).setCell ⟨b, 1, none⟩ u) (.slice a4 x.toNat c4) (List.take x.toNat (List.drop (p + 1) l)) (List.drop (p + 1 + x.toNat) l ++ sp) := fun n u => s4.keepR (F4 n u) (fun k hk => by simp; rintro rfl; exact hnb hk)
        have cv := fun n u => convert_bytes BT (s4' n u) Try.underlying9
        have hx9 : (p : Int) + 1 + (x.toNat : Int) ≤ (cap : Int) := by omega
        have HS := Lib.hid s4'
        have HF4 := Lib.hid F4
        clear hsl4 s4 s4' F4 hbl hnb
        go_wp2_with fail
        go_ret
        have hfn : firstNot (r.drop x.toNat) = -1 := firstNot_drop_none fun j h1 h2 => HZ.out j h1 (by rw [HRL.out] at h2; exact h2)
        rw [HRT.out, if_neg (by omega), if_neg (by rw [hfn]; omega)]
        have hrr : List.take x.toNat (List.drop (p + 1) l) = r.take x.toNat := by
          have hr9 : r = (l.drop (p + 1)).take k := by
            apply List.ext_getElem?
            intro j
            by_cases hj : j < k
            · rw [HRR.out j hj, List.getElem?_take_of_lt hj, List.getElem?_drop, List.getElem?_eq_getElem]
            · rw [List.getElem?_eq_none (by rw [HRL.out]; omega), List.getElem?_eq_none (by simp; omega)]
          rw [hr9, List.take_take, Nat.min_eq_left hbz]
        rw [hrr]
        refine ⟨rfl, ?_⟩
        have h3 := fun n => (R1H.out.keep ((Frm.refl [] w1).drewN n) (by simp) (by simp)).place (p + (1 + k)) (.int .i64 ((p : Int) + 1 + (k : Int))) (by congr 1; omega)
        exact ⟨(h3 _).1, (F1.drewN _).trans (h3 _).2 (by simp)⟩
theorem VText_any (b : Nat) (v : Value) (l sp : List UInt8) (s : Nat × Int × Int) (most : Int) (w : World) (hR : Rv w b v l sp s) (hp : s.1 ≤ l.length) (hl : l.length ≤ 1000000000) :
    Calls Try.prog 51 #[.pointer (some ⟨b, 0, none⟩), .int .i64 most] w fun r w' => r = .returned (.string ⟨(rText l s most).1.toArray⟩) ∧ RvTo w b v l sp (rText l s most).2 w' := by
  obtain ⟨p, fe, fa⟩ := s
  simp only at hp
  by_cases hbad : fe ≠ 0 ∨ isMostB most = false
  · have hr : rText l (p, fe, fa) most = ([], failS (p, fe, fa) 2 p) := by
      by_cases hfe : fe = 0
      · have hs : isMostB most = false := by simpa [hfe] using hbad
        simp [rText, stepR, failS, textRead, hfe, hs]
      · simp [rText, stepR, failS, hfe]
    rw [hr, empty_bytes]
    exact VText_bad b v l sp p fe fa most w hR hbad
  · simp only [not_or, Classical.not_not, Bool.not_eq_false] at hbad
    obtain ⟨rfl, hs'⟩ := hbad
    have hb : 0 ≤ most ∧ most ≤ 255 := by simpa [isMostB] using hs'
    obtain ⟨hb1, hb2⟩ := hb
    obtain ⟨z, rfl⟩ := Int.eq_ofNat_of_zero_le hb1
    by_cases hlt : l.length < p + (1 + z)
    · have hr : rText l (p, 0, fa) z = ([], p, 4, (l.length : Int)) := by simp [rText, stepR, textRead, hs', hlt]
      have hd : decide (1 + (z : Int) ≤ (l.length : Int) - p) = false := by simp; omega
      have hs4 : someS l (p, 0, fa) (1 + (z : Int)) = (p, 4, (l.length : Int)) := by unfold someS; rw [if_pos (by simp; omega)]; simp [failS]
      rw [hr, empty_bytes]
      have HR := Lib.hid hR
      have H4 := Lib.hid hs4
      clear hr hlt hR hs4 hs'
      go_enter Try.func51, Try.ntmps51
      go_wp2_with fail
      refine (vsome_ok b v l sp p fa (1 + (z : Int)) _ HR.out hp hl).mono ?_
      rw [hd, H4.out]
      rintro r w1 ⟨rfl, h1⟩
      go_wp2
      go_ret
      exact ⟨rfl, h1⟩
    · exact VText_ok b v l sp p fa z w hR hp hl (by omega) (by omega)
end Go.Proofs.Ytappmjophnhdaaa
