/-
  Plain facts: a pointer's bytes are read as it. No conditions but those that each theorem names.
-/
import Derived.Test.YtjjcjocomanohaaPN
namespace Go.Proofs.Ytjjcjocomanohaa
set_option linter.unusedVariables false
set_option linter.unusedSimpArgs false
set_option maxRecDepth 100000

theorem be1_nat (n : Nat) (h : n < 256) : beNat [UInt8.ofNat n] = n := by simp [beNat]; omega
theorem be2_nat (n : Nat) (h : n < 65536) : beNat [UInt8.ofNat (n / 256), UInt8.ofNat n] = n := by simp [beNat]; omega
theorem be4_nat (n : Nat) (h : n < 4294967296) : beNat [UInt8.ofNat (n / 16777216), UInt8.ofNat (n / 65536), UInt8.ofNat (n / 256), UInt8.ofNat n] = n := by simp [beNat]; omega
theorem ptB_cons (L : List (Nat × Nat)) (b lv : Nat) (s : List UInt8) : ptB L b lv s = UInt8.ofNat L.length :: ((pad3 L).flatMap adB ++ (be4 b ++ (UInt8.ofNat lv :: s))) := by simp [ptB, addrsB, be1]
theorem raw_ptB (L : List (Nat × Nat)) (b lv : Nat) (s : List UInt8) (hs : s.length = 32) (h3 : L.length ≤ 3) (hb : ∀ x ∈ L, x.1 < 8 ∧ x.2 < 4096) (hb4 : b ≤ 2147483648) (hlv : lv ≤ 3) :
    (ptB L b lv s).length = 47 ∧ rawN (ptB L b lv s) ≤ 3 ∧ rawPt (ptB L b lv s) = ptN L b lv s := by
  have e1 : ∀ n, n ≤ 3 → beNat [UInt8.ofNat n] = n := fun n h => be1_nat n (by omega)
  have e4 := be4_nat b (by omega)
  match L, h3, hb with
  | [], _, hb =>
    refine ⟨by simp [ptB_cons, pad3, adB, be1, be2, be4, hs], by simp [ptB_cons, rawN]; exact e1 0 (by omega) ▸ (by omega), ?_⟩
    have hn : rawN (ptB [] b lv s) = 0 := by simp only [ptB_cons, rawN, List.take_succ_cons, List.take_zero]; exact e1 0 (by omega)
    refine Pt.ext' ?_ ?_ ?_ ?_
    · simp only [rawPt, hn]; rfl
    · simp [rawPt, ptB_cons, pad3, adB, be1, be2, be4, e4, ptN]
    · simp [rawPt, ptB_cons, pad3, adB, be1, be2, be4, e1 lv hlv, ptN]
    · simp [rawPt, ptB_cons, pad3, adB, be1, be2, be4, ptN]
  | [x0], _, hb => 
    have k0 := hb x0 (by simp)
    have a0 := be1_nat x0.1 (by omega)
    have c0 := be2_nat x0.2 (by omega)
    have hn : rawN (ptB [x0] b lv s) = 1 := by simp only [ptB_cons, rawN, List.take_succ_cons, List.take_zero]; exact e1 1 (by omega)
    refine ⟨by simp [ptB_cons, pad3, adB, be1, be2, be4, hs], by omega, ?_⟩
    refine Pt.ext' ?_ ?_ ?_ ?_
    · simp only [rawPt, hn]; simp [List.range_succ, rawAd, ptB_cons, pad3, adB, be1, be2, be4, ptN, adI, a0, c0]
    · simp [rawPt, ptB_cons, pad3, adB, be1, be2, be4, e4, ptN]
    · simp [rawPt, ptB_cons, pad3, adB, be1, be2, be4, e1 lv hlv, ptN]
    · simp [rawPt, ptB_cons, pad3, adB, be1, be2, be4, ptN]
  | [x0, x1], _, hb =>
    have k0 := hb x0 (by simp)
    have a0 := be1_nat x0.1 (by omega)
    have c0 := be2_nat x0.2 (by omega)
    have k1 := hb x1 (by simp)
    have a1 := be1_nat x1.1 (by omega)
    have c1 := be2_nat x1.2 (by omega)
    have hn : rawN (ptB [x0, x1] b lv s) = 2 := by simp only [ptB_cons, rawN, List.take_succ_cons, List.take_zero]; exact e1 2 (by omega)
    refine ⟨by simp [ptB_cons, pad3, adB, be1, be2, be4, hs], by omega, ?_⟩
    refine Pt.ext' ?_ ?_ ?_ ?_
    · simp only [rawPt, hn]; simp [List.range_succ, rawAd, ptB_cons, pad3, adB, be1, be2, be4, ptN, adI, a0, c0, a1, c1]
    · simp [rawPt, ptB_cons, pad3, adB, be1, be2, be4, e4, ptN]
    · simp [rawPt, ptB_cons, pad3, adB, be1, be2, be4, e1 lv hlv, ptN]
    · simp [rawPt, ptB_cons, pad3, adB, be1, be2, be4, ptN]
  | [x0, x1, x2], _, hb =>
    have k0 := hb x0 (by simp)
    have a0 := be1_nat x0.1 (by omega)
    have c0 := be2_nat x0.2 (by omega)
    have k1 := hb x1 (by simp)
    have a1 := be1_nat x1.1 (by omega)
    have c1 := be2_nat x1.2 (by omega)
    have k2 := hb x2 (by simp)
    have a2 := be1_nat x2.1 (by omega)
    have c2 := be2_nat x2.2 (by omega)
    have hn : rawN (ptB [x0, x1, x2] b lv s) = 3 := by simp only [ptB_cons, rawN, List.take_succ_cons, List.take_zero]; exact e1 3 (by omega)
    refine ⟨by simp [ptB_cons, pad3, adB, be1, be2, be4, hs], by omega, ?_⟩
    refine Pt.ext' ?_ ?_ ?_ ?_
    · simp only [rawPt, hn]; simp [List.range_succ, rawAd, ptB_cons, pad3, adB, be1, be2, be4, ptN, adI, a0, c0, a1, c1, a2, c2]
    · simp [rawPt, ptB_cons, pad3, adB, be1, be2, be4, e4, ptN]
    · simp [rawPt, ptB_cons, pad3, adB, be1, be2, be4, e1 lv hlv, ptN]
    · simp [rawPt, ptB_cons, pad3, adB, be1, be2, be4, ptN]
  | _ :: _ :: _ :: _ :: _, h, _ => simp at h
/-- A pointer's bytes are read as it. -/
theorem enc_good {p : Pt} (h : may p) (hs : p.s.length = 32) : goodB (enc p) = true ∧ rawPt (enc p) = p := by
  obtain ⟨L, b, lv, e1, e2, h3, hb, hb4, hlv⟩ := may_nat h
  obtain ⟨r1, r2, r3⟩ := raw_ptB L b lv p.s hs h3 hb hb4 hlv
  rw [← e2] at r1 r2 r3
  rw [← e1] at r3
  refine ⟨(goodB_iff _).2 ⟨r1, r2, by rw [r3]; exact h, by rw [r3]⟩, r3⟩
theorem enc_inj {p q : Pt} (hp : may p) (hq : may q) (h1 : p.s.length = 32) (h2 : q.s.length = 32) (h : enc p = enc q) : p = q := by
  rw [← (enc_good hp h1).2, h, (enc_good hq h2).2]
theorem enc_len {p : Pt} (h : may p) (hs : p.s.length = 32) : (enc p).length = 47 := ((goodB_iff _).1 (enc_good h hs).1).1
end Go.Proofs.Ytjjcjocomanohaa
