/-
  Contract of symMergeCmpFunc at rows of edges, whole. No conditions but those that each theorem names.
-/
import Derived.Test.YtgbgpmdhlocjhaaD6
namespace Go.Proofs.Ytgbgpmdhlocjhaa
open Go.RowKit Go.Sort
set_option linter.unusedVariables false
set_option linter.unusedSimpArgs false
set_option maxRecDepth 100000

theorem rotF_id (f : Nat → Ed) {s m e : Nat} (h1 : s ≤ m) (h2 : m ≤ e) (h : ¬ (s < m ∧ m < e)) (x : Nat) : f x = rotF f s m e x := by
  unfold rotF
  split
  · congr 1; omega
  · split
    · congr 1; omega
    · rfl
/-- What stands behind the rotation, behind the first call of itself. -/
def P1 (w0 : World) (g a b s m e : Nat) (dk d : Array Ed) (W : World) : Prop := d.size = dk.size ∧ SW w0 g d W ∧ PermIn a b dk d ∧ ∀ x, d[x]! = rotF (at' dk) s m e x
def P2 (w0 : World) (g a b s m e mid : Nat) (dk d : Array Ed) (W : World) : Prop := ∃ d1, (d1.size = dk.size ∧ PermIn a b dk d1 ∧ ∀ x, d1[x]! = rotF (at' dk) s m e x) ∧ d.size = dk.size ∧ SW w0 g d W ∧ PermIn a mid d1 d ∧ Srt (key d) a mid
section
variable {w0 : World} {g a b s m e mid : Nat} {dk : Array Ed} {W : World}
theorem key_rot {d1 : Array Ed} (h : ∀ x, d1[x]! = rotF (at' dk) s m e x) : key d1 = rotK (key dk) s m e := funext fun x => by unfold key; rw [h x]; exact rotF_key dk s m e x
theorem p1_parts {d1 : Array Ed} (C : Cut (key dk) a s m e b) (k1 : Srt (key dk) a m) (k2 : Srt (key dk) m b) (hmid : mid = s + (e - m)) (h : ∀ x, d1[x]! = rotF (at' dk) s m e x) : Srt (key d1) a s ∧ Srt (key d1) s mid ∧ Srt (key d1) mid e ∧ Srt (key d1) e b := by
  rw [key_rot h, hmid]
  exact C.parts k1 k2
theorem p1_skip {d1 : Array Ed} (C : Cut (key dk) a s m e b) (k1 : Srt (key dk) a m) (k2 : Srt (key dk) m b) (hmid : mid = s + (e - m)) (hn : ¬ (a < s ∧ s < mid)) (h : P1 w0 g a b s m e dk d1 W) : P2 w0 g a b s m e mid dk d1 W := by
  obtain ⟨z1, q1, p1, x1⟩ := h
  obtain ⟨r1, r2, r3, r4⟩ := p1_parts C k1 k2 hmid x1
  refine ⟨d1, ⟨z1, p1, x1⟩, z1, q1, permIn_refl _ _ _, ?_⟩
  have := C.has
  by_cases e1 : a < s
  · have e2 : s = mid := by omega
    rw [← e2]; exact r1
  · have e2 : a = s := by omega
    rw [e2]; exact r2
theorem p2_skip {d2 : Array Ed} (C : Cut (key dk) a s m e b) (k1 : Srt (key dk) a m) (k2 : Srt (key dk) m b) (hmid : mid = s + (e - m)) (hb : b ≤ dk.size) (hn : ¬ (mid < e ∧ e < b)) (h : P2 w0 g a b s m e mid dk d2 W) : SymPost w0 g a b dk (.returned (.tuple #[])) W := by
  obtain ⟨d1, ⟨z1, p1, x1⟩, z2, q2, p2, s2⟩ := h
  obtain ⟨r1, r2, r3, r4⟩ := p1_parts C k1 k2 hmid x1
  have c1 := C.sm
  have c2 := C.me
  have c3 := C.eb
  have hk : ∀ x, mid ≤ x → x < b → key d2 x = key d1 x := fun x h _ => by unfold key; rw [p2.2.1 x (.inr h)]
  have s3 : Srt (key d2) mid b := by
    by_cases e1 : mid < e
    · have e2 : e = b := by omega
      rw [e2] at r3; exact r3.congr hk
    · have e2 : mid = e := by omega
      rw [← e2] at r4; exact r4.congr hk
  obtain ⟨t1, t2⟩ := merge_end C k1 k2 hmid hb z1 x1 p1 z2 p2 s2 z2 (permIn_refl _ _ _) s3
  exact ⟨rfl, d2, z2, q2, t1, t2⟩
theorem p2_call {d2 : Array Ed} (C : Cut (key dk) a s m e b) (k1 : Srt (key dk) a m) (k2 : Srt (key dk) m b) (hmid : mid = s + (e - m)) (h : P2 w0 g a b s m e mid dk d2 W) : Srt (key d2) mid e ∧ Srt (key d2) e b := by
  obtain ⟨d1, ⟨z1, p1, x1⟩, z2, q2, p2, s2⟩ := h
  obtain ⟨r1, r2, r3, r4⟩ := p1_parts C k1 k2 hmid x1
  have c1 := C.sm
  have c2 := C.me
  exact ⟨r3.congr fun x h _ => by unfold key; rw [p2.2.1 x (.inr h)], r4.congr fun x h _ => by unfold key; rw [p2.2.1 x (.inr (by omega))]⟩
theorem p2_end {d2 d3 : Array Ed} {W' : World} (C : Cut (key dk) a s m e b) (k1 : Srt (key dk) a m) (k2 : Srt (key dk) m b) (hmid : mid = s + (e - m)) (hb : b ≤ dk.size) (h : P2 w0 g a b s m e mid dk d2 W) (z3 : d3.size = d2.size) (q3 : SW w0 g d3 W') (p3 : PermIn mid b d2 d3) (s3 : Srt (key d3) mid b) : SymPost w0 g a b dk (.returned (.tuple #[])) W' := by
  obtain ⟨d1, ⟨z1, p1, x1⟩, z2, q2, p2, s2⟩ := h
  obtain ⟨t1, t2⟩ := merge_end C k1 k2 hmid hb z1 x1 p1 z2 p2 s2 (z3.trans z2) p3 s3
  exact ⟨rfl, d3, z3.trans z2, q3, t1, t2⟩
end
def S5Rel (w0 : World) (g S0 R0 p : Nat) (dk : Array Ed) (iv jv : Value) (wr : World) : Prop := ∃ s r : Nat, iv = .int .i64 s ∧ jv = .int .i64 r ∧ S0 ≤ s ∧ s ≤ r ∧ r ≤ R0 ∧ SW w0 g dk wr ∧ (S0 < s → key dk (s - 1) ≤ key dk (p - (s - 1))) ∧ (r < R0 → key dk (p - r) < key dk r)
set_option maxHeartbeats 16000000 in
theorem sym_three (w0 : World) (g cap : Nat) (d0 : Array Ed) (R : Row0 w0 g d0) (h4 : d0.size ≤ 1000000) (a m b : Nat) (dk : Array Ed) (W : World) (h1 : a < m) (h2 : m < b) (h3 : b ≤ dk.size) (hs : dk.size = d0.size) (h : SW w0 g dk W) (k1 : Srt (key dk) a m) (k2 : Srt (key dk) m b) (hc1 : ¬ m - a = 1) (hc2 : ¬ b - m = 1) (N : Nat) (hN : b - a ≤ N + 1)
    (IH0 : ∀ (a m b : Nat) (dk : Array Ed) (W : World), b - a ≤ N → a < m → m < b → b ≤ dk.size → dk.size = d0.size → SW w0 g dk W → Srt (key dk) a m → Srt (key dk) m b →
      Calls Try.prog 59 #[.slice (some ⟨g, 0, none⟩) d0.size cap, .int .i64 a, .int .i64 m, .int .i64 b, cmpV] W (SymPost w0 g a b dk)) :
    Calls Try.prog 59 #[.slice (some ⟨g, 0, none⟩) d0.size cap, .int .i64 a, .int .i64 m, .int .i64 b, cmpV] W (SymPost w0 g a b dk) := by
  have IH := Lib.hid IH0
  have RR := Lib.hid R
  have HS := Lib.hid hs
  have SS := Lib.hid h
  have K1 := Lib.hid k1
  have K2 := Lib.hid k2
  obtain ⟨mid, hmid⟩ : ∃ mid : Nat, ((a : Int) + (b : Int)) / 2 = (mid : Int) := ⟨(a + b) / 2, by omega⟩
  have hm1 : 2 * mid ≤ a + b ∧ a + b ≤ 2 * mid + 1 := by omega
  have HB := Lib.hid (show a < m ∧ m < b ∧ b ≤ dk.size ∧ dk.size = d0.size ∧ d0.size ≤ 1000000 ∧ b - a ≤ N + 1 ∧ 2 * mid ≤ a + b ∧ a + b ≤ 2 * mid + 1 ∧ a + 1 < m ∧ m + 1 < b from ⟨h1, h2, h3, hs, h4, hN, hm1.1, hm1.2, by omega, by omega⟩)
  have w1 : IntKind.i64.wrap ((m : Int) - (a : Int)) = (m : Int) - (a : Int) := IntWalk.i64_in _ (by omega)
  have w2 : IntKind.i64.wrap ((b : Int) - (m : Int)) = (b : Int) - (m : Int) := IntWalk.i64_in _ (by omega)
  have w3 : IntKind.i64.wrap ((a : Int) + (b : Int)) = (a : Int) + (b : Int) := IntWalk.i64_in _ (by omega)
  have e1 : ((m : Int) - (a : Int) == 1) = false := by simp; omega
  have e2 : ((b : Int) - (m : Int) == 1) = false := by simp; omega
  obtain ⟨n, hn⟩ : ∃ n, n = mid + m := ⟨_, rfl⟩
  have w4 : IntKind.i64.wrap ((mid : Int) + (m : Int)) = (n : Int) := by rw [IntWalk.i64_in _ (by omega)]; omega
  have w3u : IntKind.u64.wrap ((a : Int) + (b : Int)) = (a : Int) + (b : Int) := by rw [IntKind.wrap_u64]; omega
  have w3m : IntKind.i64.wrap (mid : Int) = (mid : Int) := IntWalk.i64_in _ (by omega)
  have w6 : IntKind.i64.wrap ((n : Int) - 1) = ((n - 1 : Nat) : Int) := by rw [IntWalk.i64_in _ (by omega)]; omega
  have hmix : Try.prog.follows .mixedOrders = true := by kernel_rfl
  have HN := Lib.hid hn
  have hsz9 : (d0.size : Int) ≤ 1000000 := by omega
  obtain ⟨S0, hS0⟩ : ∃ S0, S0 = if mid < m then n - b else a := ⟨_, rfl⟩
  obtain ⟨R0, hR0⟩ : ∃ R0, R0 = if mid < m then mid else m := ⟨_, rfl⟩
  have HS0 := Lib.hid (show (mid < m ∧ S0 = n - b ∧ R0 = mid) ∨ (¬ mid < m ∧ S0 = a ∧ R0 = m) by
    by_cases q : mid < m
    · exact .inl ⟨q, by rw [hS0, if_pos q], by rw [hR0, if_pos q]⟩
    · exact .inr ⟨q, by rw [hS0, if_neg q], by rw [hR0, if_neg q]⟩)
  have hent : ((mid < m) ∧ S0 = n - b ∧ R0 = mid) ∨ (¬ (mid < m) ∧ S0 = a ∧ R0 = m) := HS0.out
  clear R h4 h k1 k2 hs h1 h2 h3 hc1 hc2 hN hm1 hn hS0 hR0 IH0
  rcases hent with ⟨hq, hS, hR⟩ | ⟨hq, hS, hR⟩
  · have hq9 : (mid : Int) < (m : Int) := by omega
    have hb := HB.out
    have hn := HN.out
    have w5 : IntKind.i64.wrap ((n : Int) - (b : Int)) = (S0 : Int) := by rw [IntWalk.i64_in _ (by omega)]; omega
    clear hq hS hb hn
    go_enter Try.func59, Try.ntmps59
    subst R0
    go_upto_region 32 with (fail)
    clear hq9
    go_wp2_with fail
    clear w1 w2 w3 w4 w5 w6 e1 e2 hmid w3u w3m
    go_loopw [20, 21] (S5Rel w0 g S0 mid (n - 1) dk) (fun iv jv _ => (intOf jv).toNat - (intOf iv).toNat)
    case atStart =>
      have := HB.out
      have := HS0.out
      have := HN.out
      exact ⟨S0, mid, rfl, rfl, Nat.le_refl _, by omega, Nat.le_refl _, SS.out, fun h => absurd h (Nat.lt_irrefl _), fun h => absurd h (Nat.lt_irrefl _)⟩
    case round =>
      obtain ⟨s, r, rfl, rfl, hsl, hsr, hrl, hsw, hlo, hhi⟩ := hrel
      have hb := HB.out
      have hs0 := HS0.out
      have hnn := HN.out
      by_cases hlt : s < r
      · have hlt9 : (s : Int) < (r : Int) := by omega
        have wij : IntKind.i64.wrap ((s : Int) + (r : Int)) = (s : Int) + (r : Int) := IntWalk.i64_in _ (by omega)
        obtain ⟨c, hh⟩ : ∃ c : Nat, ((s : Int) + (r : Int)) / 2 = (c : Int) := ⟨(s + r) / 2, by omega⟩
        have hh1 : s ≤ c ∧ c < r := by omega
        have wpc : IntKind.i64.wrap (((n - 1 : Nat) : Int) - (c : Int)) = ((n - 1 - c : Nat) : Int) := by rw [IntWalk.i64_in _ (by omega)]; omega
        go_upto_region 35 with (fail)
        have hsg := SW.grownCells hsw RR.out HS.out c (by omega)
        have hsg2 := SW.grownCells hsw RR.out HS.out (n - 1 - c) (by omega)
        have hcg := fun nn os => cmp_grown dk[n - 1 - c]! dk[c]! wr nn os
        have hkey : cfD dk[n - 1 - c]! dk[c]! < 0 ↔ key dk (n - 1 - c) < key dk c := cfD_neg _ _
        have hlt1 : (c : Int) < (d0.size : Int) := by omega
        have hlt2 : ((n - 1 - c : Nat) : Int) < (d0.size : Int) := by omega
        have wh : IntKind.i64.wrap ((c : Int) + 1) = (c : Int) + 1 := IntWalk.i64_in _ (by omega)
        have HKEY := Lib.hid hkey
        have HPC := Lib.hid (show n - 1 - c = n - 1 - c from rfl)
        generalize hpp : n - 1 - c = pc at *
        have HPP := Lib.hid hpp
        have lh0 := fun n os => (hsg n os).1
        have lh1 := fun n os => (hsg n os).2.1
        have lh2 := fun n os => (hsg n os).2.2
        have la0 := fun n os => (hsg2 n os).1
        have la1 := fun n os => (hsg2 n os).2.1
        have la2 := fun n os => (hsg2 n os).2.2
        generalize dk[c]! = x at *
        generalize dk[pc]! = y at *
        generalize cfD y x = v at *
        have GR := Lib.hid (fun n os => SWK.grown hsw n os)
        have HCG := Lib.hid hcg
        have HH1 := Lib.hid hh1
        have HR := Lib.hid (And.intro hsl (And.intro hsr hrl))
        have HLO := Lib.hid hlo
        have HHI := Lib.hid hhi
        clear hsg hsg2 hcg hsw hb hh hh1 hlo hhi hsl hsr hrl wij hpp hkey hs0 hnn
        by_cases hc : v < 0
        · have HK := Lib.hid (HKEY.out.1 hc)
          go_wp2_with fail
          go_quiet_grown (exact HCG.out _ _)
          go_wp2_with fail
          exact ⟨⟨s, c, rfl, rfl, HR.out.1, HH1.out.1, by have := HH1.out; have := HR.out; omega, GR.out _ _, HLO.out, fun _ => by rw [HPP.out]; exact HK.out⟩, by have := HH1.out; simp [intOf]; omega⟩
        · have HK := Lib.hid (show ¬ key dk pc < key dk c from fun h' => hc (HKEY.out.2 h'))
          go_wp2_with fail
          go_quiet_grown (exact HCG.out _ _)
          go_wp2_with fail
          any_goals (rename_i hq; exfalso; simp at hq; omega)
          go_roundw
          case rel => exact ⟨c + 1, r, by go_num, rfl, by have := HH1.out; have := HR.out; omega, by have := HH1.out; omega, HR.out.2.2, GR.out _ _, fun _ => by rw [Nat.add_sub_cancel, HPP.out]; have := HK.out; omega, HHI.out⟩
          case measure => have := HH1.out; simp [intOf]; omega
      · obtain rfl : s = r := by omega
        obtain ⟨e, he⟩ : ∃ e, e = n - s := ⟨_, rfl⟩
        have we : IntKind.i64.wrap ((n : Int) - (s : Int)) = (e : Int) := by rw [IntWalk.i64_in _ (by omega)]; omega
        have hC : Cut (key dk) a s m e b := cut_of K1.out K2.out (by omega) (by omega) (by omega) (by omega) (fun q1 q2 => by
            have := hhi (by omega)
            have e3 : n - 1 - s = e - 1 := by omega
            rw [e3] at this; omega) (fun q1 q2 => by
            have := hlo (by omega)
            have e3 : n - 1 - (s - 1) = e := by omega
            rw [e3] at this; omega)
        have hme : mid = s + (e - m) := by omega
        have HC := Lib.hid hC
        have HME := Lib.hid hme
        have HSW := Lib.hid hsw
        have HE := Lib.hid (show a ≤ s ∧ s ≤ m ∧ m ≤ e ∧ e ≤ b ∧ s ≤ mid ∧ mid ≤ e from ⟨by omega, by omega, by omega, by omega, by omega, by omega⟩)
        have HSY1 := Lib.hid (fun (q1 : a < s) (q2 : s < mid) d1 W1 (p : P1 w0 g a b s m e dk d1 W1) => IH.out a s mid d1 W1 (by omega) q1 q2 (by rw [p.1]; omega) (by rw [p.1]; exact HS.out) p.2.1 (p1_parts HC.out K1.out K2.out HME.out p.2.2.2).1 (p1_parts HC.out K1.out K2.out HME.out p.2.2.2).2.1)
        have HSY2 := Lib.hid (fun (q1 : mid < e) (q2 : e < b) d2 W2 (p : P2 w0 g a b s m e mid dk d2 W2) => IH.out mid e b d2 W2 (by omega) q1 q2 (by obtain ⟨_, _, z, _⟩ := p; rw [z]; omega) (by obtain ⟨_, _, z, _⟩ := p; rw [z]; exact HS.out) (by obtain ⟨_, _, _, z, _⟩ := p; exact z) (p2_call HC.out K1.out K2.out HME.out p).1 (p2_call HC.out K1.out K2.out HME.out p).2)
        have HSY1N := Lib.hid (fun (q : ¬ (a < s ∧ s < mid)) d1 W1 (p : P1 w0 g a b s m e dk d1 W1) => p1_skip HC.out K1.out K2.out HME.out q p)
        have HSY2N := Lib.hid (fun (q : ¬ (mid < e ∧ e < b)) d2 W2 (p : P2 w0 g a b s m e mid dk d2 W2) => p2_skip HC.out K1.out K2.out HME.out (by omega) q p)
        have HEND := Lib.hid (fun d2 d3 W2 W3 (p : P2 w0 g a b s m e mid dk d2 W2) z3 q3 p3 s3 => p2_end (d3 := d3) (W' := W3) HC.out K1.out K2.out HME.out (by omega) p z3 q3 p3 s3)
        have HROT := Lib.hid (fun (q1 : s < m) (q2 : m < e) => rotate_any w0 g d0.size cap s m e dk d0 wr cmpV HSW.out RR.out HS.out HS.out.symm q1 q2 (by omega) (by omega))
        have HRN := Lib.hid (fun (q : ¬ (s < m ∧ m < e)) => show P1 w0 g a b s m e dk dk wr from ⟨rfl, HSW.out, permIn_refl _ _ _, fun x => rotF_id (at' dk) HE.out.2.1 HE.out.2.2.1 q x⟩)
        have HB2 := Lib.hid (show s ≤ m ∧ e ≤ b ∧ b ≤ dk.size ∧ a ≤ s by omega)
        clear hsw hlo hhi hsl hsr hrl hb hs0 hnn hlt he hC hme
        by_cases c1 : s < m ∧ m < e
        · obtain ⟨u1, u2⟩ := c1
          have v1 : (s : Int) < (m : Int) := by omega
          have v2 : (m : Int) < (e : Int) := by omega
          have HR1 := Lib.hid (HROT.out u1 u2)
          go_upto_region 41 with (go_at_call 60; refine (HR1.out).mono ?_; rintro ee W1 ⟨rfl, d1, z1, q1, p1, x1⟩)
          have hp1 : P1 w0 g a b s m e dk d1 W1 := ⟨z1, q1, permIn_mono _ _ s e a b HB2.out.2.2.2 HB2.out.2.1 HB2.out.2.2.1 p1, x1⟩
          clear z1 q1 p1 x1 u1 u2 v1 v2
          have HP1 := Lib.hid hp1
          clear hp1
          by_cases c2 : a < s ∧ s < mid
          · obtain ⟨u1, u2⟩ := c2
            have v1 : (a : Int) < (s : Int) := by omega
            have v2 : (s : Int) < (mid : Int) := by omega
            have HSC := Lib.hid (HSY1.out u1 u2 d1 W1 HP1.out)
            go_upto_region 43 with (go_at_call 59; refine (HSC.out).mono ?_; rintro ee W2 ⟨rfl, d2, z2, q2, p2, s2⟩)
            have HP2 := Lib.hid (show P2 w0 g a b s m e mid dk d2 W2 from ⟨d1, ⟨HP1.out.1, HP1.out.2.2.1, HP1.out.2.2.2⟩, z2.trans HP1.out.1, q2, p2, s2⟩)
            clear z2 q2 p2 s2 u1 u2 v1 v2
            by_cases c3 : mid < e ∧ e < b
            · obtain ⟨u1, u2⟩ := c3
              have v1 : (mid : Int) < (e : Int) := by omega
              have v2 : (e : Int) < (b : Int) := by omega
              have HSC2 := Lib.hid (HSY2.out u1 u2 d2 W2 HP2.out)
              go_wp2_with (go_at_call 59; refine (HSC2.out).mono ?_; rintro ee W3 ⟨rfl, d3, z3, q3, p3, s3⟩)
              go_end0
              exact HEND.out d2 d3 W2 W3 HP2.out z3 q3 p3 s3
            · have HF := Lib.hid (HSY2N.out c3 d2 W2 HP2.out)
              have c3' : (mid < e ∧ ¬ e < b) ∨ ¬ mid < e := by omega
              clear c3
              rcases c3' with ⟨u1, u2⟩ | u1
              · have v1 : (mid : Int) < (e : Int) := by omega
                have v2 : ¬ (e : Int) < (b : Int) := by omega
                go_wp2_with fail
                go_end0
                exact HF.out
              · have v1 : ¬ (mid : Int) < (e : Int) := by omega
                go_wp2_with fail
                go_end0
                exact HF.out
          · have HP2 := Lib.hid (HSY1N.out c2 d1 W1 HP1.out)
            have c2' : (a < s ∧ ¬ s < mid) ∨ ¬ a < s := by omega
            obtain ⟨W2, hW2⟩ : ∃ W2, W2 = W1 := ⟨_, rfl⟩
            obtain ⟨d2, hd2⟩ : ∃ d2, d2 = d1 := ⟨_, rfl⟩
            rw [← hW2, ← hd2] at HP2
            clear c2 hd2
            rcases c2' with ⟨u1, u2⟩ | u1
            · have v1 : (a : Int) < (s : Int) := by omega
              have v2 : ¬ (s : Int) < (mid : Int) := by omega
              go_upto_region 43 with (fail)
              rw [← hW2]
              clear u1 u2 v1 v2 hW2
              by_cases c3 : mid < e ∧ e < b
              · obtain ⟨u1, u2⟩ := c3
                have v1 : (mid : Int) < (e : Int) := by omega
                have v2 : (e : Int) < (b : Int) := by omega
                have HSC2 := Lib.hid (HSY2.out u1 u2 d2 W2 HP2.out)
                go_wp2_with (go_at_call 59; refine (HSC2.out).mono ?_; rintro ee W3 ⟨rfl, d3, z3, q3, p3, s3⟩)
                go_end0
                exact HEND.out d2 d3 W2 W3 HP2.out z3 q3 p3 s3
              · have HF := Lib.hid (HSY2N.out c3 d2 W2 HP2.out)
                have c3' : (mid < e ∧ ¬ e < b) ∨ ¬ mid < e := by omega
                clear c3
                rcases c3' with ⟨u1, u2⟩ | u1
                · have v1 : (mid : Int) < (e : Int) := by omega
                  have v2 : ¬ (e : Int) < (b : Int) := by omega
                  go_wp2_with fail
                  go_end0
                  exact HF.out
                · have v1 : ¬ (mid : Int) < (e : Int) := by omega
                  go_wp2_with fail
                  go_end0
                  exact HF.out
            · have v1 : ¬ (a : Int) < (s : Int) := by omega
              go_upto_region 43 with (fail)
              rw [← hW2]
              clear u1 v1 hW2
              by_cases c3 : mid < e ∧ e < b
              · obtain ⟨u1, u2⟩ := c3
                have v1 : (mid : Int) < (e : Int) := by omega
                have v2 : (e : Int) < (b : Int) := by omega
                have HSC2 := Lib.hid (HSY2.out u1 u2 d2 W2 HP2.out)
                go_wp2_with (go_at_call 59; refine (HSC2.out).mono ?_; rintro ee W3 ⟨rfl, d3, z3, q3, p3, s3⟩)
                go_end0
                exact HEND.out d2 d3 W2 W3 HP2.out z3 q3 p3 s3
              · have HF := Lib.hid (HSY2N.out c3 d2 W2 HP2.out)
                have c3' : (mid < e ∧ ¬ e < b) ∨ ¬ mid < e := by omega
                clear c3
                rcases c3' with ⟨u1, u2⟩ | u1
                · have v1 : (mid : Int) < (e : Int) := by omega
                  have v2 : ¬ (e : Int) < (b : Int) := by omega
                  go_wp2_with fail
                  go_end0
                  exact HF.out
                · have v1 : ¬ (mid : Int) < (e : Int) := by omega
                  go_wp2_with fail
                  go_end0
                  exact HF.out
        · have c1' : (s < m ∧ ¬ m < e) ∨ ¬ s < m := by omega
          have hp1 := HRN.out c1
          obtain ⟨W1, hW1⟩ : ∃ W1, W1 = wr := ⟨_, rfl⟩
          obtain ⟨d1, hd1⟩ : ∃ d1, d1 = dk := ⟨_, rfl⟩
          rw [← hW1, ← hd1] at hp1
          have hp1 : P1 w0 g a b s m e dk d1 W1 := by rw [hd1]; rw [hd1] at hp1; exact hp1
          clear hd1
          clear c1
          rcases c1' with ⟨u1, u2⟩ | u1
          · have v1 : (s : Int) < (m : Int) := by omega
            have v2 : ¬ (m : Int) < (e : Int) := by omega
            go_upto_region 41 with (fail)
            rw [← hW1]
            clear u1 u2 v1 v2 hW1
            have HP1 := Lib.hid hp1
            clear hp1
            by_cases c2 : a < s ∧ s < mid
            · obtain ⟨u1, u2⟩ := c2
              have v1 : (a : Int) < (s : Int) := by omega
              have v2 : (s : Int) < (mid : Int) := by omega
              have HSC := Lib.hid (HSY1.out u1 u2 d1 W1 HP1.out)
              go_upto_region 43 with (go_at_call 59; refine (HSC.out).mono ?_; rintro ee W2 ⟨rfl, d2, z2, q2, p2, s2⟩)
              have HP2 := Lib.hid (show P2 w0 g a b s m e mid dk d2 W2 from ⟨d1, ⟨HP1.out.1, HP1.out.2.2.1, HP1.out.2.2.2⟩, z2.trans HP1.out.1, q2, p2, s2⟩)
              clear z2 q2 p2 s2 u1 u2 v1 v2
              by_cases c3 : mid < e ∧ e < b
              · obtain ⟨u1, u2⟩ := c3
                have v1 : (mid : Int) < (e : Int) := by omega
                have v2 : (e : Int) < (b : Int) := by omega
                have HSC2 := Lib.hid (HSY2.out u1 u2 d2 W2 HP2.out)
                go_wp2_with (go_at_call 59; refine (HSC2.out).mono ?_; rintro ee W3 ⟨rfl, d3, z3, q3, p3, s3⟩)
                go_end0
                exact HEND.out d2 d3 W2 W3 HP2.out z3 q3 p3 s3
              · have HF := Lib.hid (HSY2N.out c3 d2 W2 HP2.out)
                have c3' : (mid < e ∧ ¬ e < b) ∨ ¬ mid < e := by omega
                clear c3
                rcases c3' with ⟨u1, u2⟩ | u1
                · have v1 : (mid : Int) < (e : Int) := by omega
                  have v2 : ¬ (e : Int) < (b : Int) := by omega
                  go_wp2_with fail
                  go_end0
                  exact HF.out
                · have v1 : ¬ (mid : Int) < (e : Int) := by omega
                  go_wp2_with fail
                  go_end0
                  exact HF.out
            · have HP2 := Lib.hid (HSY1N.out c2 d1 W1 HP1.out)
              have c2' : (a < s ∧ ¬ s < mid) ∨ ¬ a < s := by omega
              obtain ⟨W2, hW2⟩ : ∃ W2, W2 = W1 := ⟨_, rfl⟩
              obtain ⟨d2, hd2⟩ : ∃ d2, d2 = d1 := ⟨_, rfl⟩
              rw [← hW2, ← hd2] at HP2
              clear c2 hd2
              rcases c2' with ⟨u1, u2⟩ | u1
              · have v1 : (a : Int) < (s : Int) := by omega
                have v2 : ¬ (s : Int) < (mid : Int) := by omega
                go_upto_region 43 with (fail)
                rw [← hW2]
                clear u1 u2 v1 v2 hW2
                by_cases c3 : mid < e ∧ e < b
                · obtain ⟨u1, u2⟩ := c3
                  have v1 : (mid : Int) < (e : Int) := by omega
                  have v2 : (e : Int) < (b : Int) := by omega
                  have HSC2 := Lib.hid (HSY2.out u1 u2 d2 W2 HP2.out)
                  go_wp2_with (go_at_call 59; refine (HSC2.out).mono ?_; rintro ee W3 ⟨rfl, d3, z3, q3, p3, s3⟩)
                  go_end0
                  exact HEND.out d2 d3 W2 W3 HP2.out z3 q3 p3 s3
                · have HF := Lib.hid (HSY2N.out c3 d2 W2 HP2.out)
                  have c3' : (mid < e ∧ ¬ e < b) ∨ ¬ mid < e := by omega
                  clear c3
                  rcases c3' with ⟨u1, u2⟩ | u1
                  · have v1 : (mid : Int) < (e : Int) := by omega
                    have v2 : ¬ (e : Int) < (b : Int) := by omega
                    go_wp2_with fail
                    go_end0
                    exact HF.out
                  · have v1 : ¬ (mid : Int) < (e : Int) := by omega
                    go_wp2_with fail
                    go_end0
                    exact HF.out
              · have v1 : ¬ (a : Int) < (s : Int) := by omega
                go_upto_region 43 with (fail)
                rw [← hW2]
                clear u1 v1 hW2
                by_cases c3 : mid < e ∧ e < b
                · obtain ⟨u1, u2⟩ := c3
                  have v1 : (mid : Int) < (e : Int) := by omega
                  have v2 : (e : Int) < (b : Int) := by omega
                  have HSC2 := Lib.hid (HSY2.out u1 u2 d2 W2 HP2.out)
                  go_wp2_with (go_at_call 59; refine (HSC2.out).mono ?_; rintro ee W3 ⟨rfl, d3, z3, q3, p3, s3⟩)
                  go_end0
                  exact HEND.out d2 d3 W2 W3 HP2.out z3 q3 p3 s3
                · have HF := Lib.hid (HSY2N.out c3 d2 W2 HP2.out)
                  have c3' : (mid < e ∧ ¬ e < b) ∨ ¬ mid < e := by omega
                  clear c3
                  rcases c3' with ⟨u1, u2⟩ | u1
                  · have v1 : (mid : Int) < (e : Int) := by omega
                    have v2 : ¬ (e : Int) < (b : Int) := by omega
                    go_wp2_with fail
                    go_end0
                    exact HF.out
                  · have v1 : ¬ (mid : Int) < (e : Int) := by omega
                    go_wp2_with fail
                    go_end0
                    exact HF.out
          · have v1 : ¬ (s : Int) < (m : Int) := by omega
            go_upto_region 41 with (fail)
            rw [← hW1]
            clear u1 v1 hW1
            have HP1 := Lib.hid hp1
            clear hp1
            by_cases c2 : a < s ∧ s < mid
            · obtain ⟨u1, u2⟩ := c2
              have v1 : (a : Int) < (s : Int) := by omega
              have v2 : (s : Int) < (mid : Int) := by omega
              have HSC := Lib.hid (HSY1.out u1 u2 d1 W1 HP1.out)
              go_upto_region 43 with (go_at_call 59; refine (HSC.out).mono ?_; rintro ee W2 ⟨rfl, d2, z2, q2, p2, s2⟩)
              have HP2 := Lib.hid (show P2 w0 g a b s m e mid dk d2 W2 from ⟨d1, ⟨HP1.out.1, HP1.out.2.2.1, HP1.out.2.2.2⟩, z2.trans HP1.out.1, q2, p2, s2⟩)
              clear z2 q2 p2 s2 u1 u2 v1 v2
              by_cases c3 : mid < e ∧ e < b
              · obtain ⟨u1, u2⟩ := c3
                have v1 : (mid : Int) < (e : Int) := by omega
                have v2 : (e : Int) < (b : Int) := by omega
                have HSC2 := Lib.hid (HSY2.out u1 u2 d2 W2 HP2.out)
                go_wp2_with (go_at_call 59; refine (HSC2.out).mono ?_; rintro ee W3 ⟨rfl, d3, z3, q3, p3, s3⟩)
                go_end0
                exact HEND.out d2 d3 W2 W3 HP2.out z3 q3 p3 s3
              · have HF := Lib.hid (HSY2N.out c3 d2 W2 HP2.out)
                have c3' : (mid < e ∧ ¬ e < b) ∨ ¬ mid < e := by omega
                clear c3
                rcases c3' with ⟨u1, u2⟩ | u1
                · have v1 : (mid : Int) < (e : Int) := by omega
                  have v2 : ¬ (e : Int) < (b : Int) := by omega
                  go_wp2_with fail
                  go_end0
                  exact HF.out
                · have v1 : ¬ (mid : Int) < (e : Int) := by omega
                  go_wp2_with fail
                  go_end0
                  exact HF.out
            · have HP2 := Lib.hid (HSY1N.out c2 d1 W1 HP1.out)
              have c2' : (a < s ∧ ¬ s < mid) ∨ ¬ a < s := by omega
              obtain ⟨W2, hW2⟩ : ∃ W2, W2 = W1 := ⟨_, rfl⟩
              obtain ⟨d2, hd2⟩ : ∃ d2, d2 = d1 := ⟨_, rfl⟩
              rw [← hW2, ← hd2] at HP2
              clear c2 hd2
              rcases c2' with ⟨u1, u2⟩ | u1
              · have v1 : (a : Int) < (s : Int) := by omega
                have v2 : ¬ (s : Int) < (mid : Int) := by omega
                go_upto_region 43 with (fail)
                rw [← hW2]
                clear u1 u2 v1 v2 hW2
                by_cases c3 : mid < e ∧ e < b
                · obtain ⟨u1, u2⟩ := c3
                  have v1 : (mid : Int) < (e : Int) := by omega
                  have v2 : (e : Int) < (b : Int) := by omega
                  have HSC2 := Lib.hid (HSY2.out u1 u2 d2 W2 HP2.out)
                  go_wp2_with (go_at_call 59; refine (HSC2.out).mono ?_; rintro ee W3 ⟨rfl, d3, z3, q3, p3, s3⟩)
                  go_end0
                  exact HEND.out d2 d3 W2 W3 HP2.out z3 q3 p3 s3
                · have HF := Lib.hid (HSY2N.out c3 d2 W2 HP2.out)
                  have c3' : (mid < e ∧ ¬ e < b) ∨ ¬ mid < e := by omega
                  clear c3
                  rcases c3' with ⟨u1, u2⟩ | u1
                  · have v1 : (mid : Int) < (e : Int) := by omega
                    have v2 : ¬ (e : Int) < (b : Int) := by omega
                    go_wp2_with fail
                    go_end0
                    exact HF.out
                  · have v1 : ¬ (mid : Int) < (e : Int) := by omega
                    go_wp2_with fail
                    go_end0
                    exact HF.out
              · have v1 : ¬ (a : Int) < (s : Int) := by omega
                go_upto_region 43 with (fail)
                rw [← hW2]
                clear u1 v1 hW2
                by_cases c3 : mid < e ∧ e < b
                · obtain ⟨u1, u2⟩ := c3
                  have v1 : (mid : Int) < (e : Int) := by omega
                  have v2 : (e : Int) < (b : Int) := by omega
                  have HSC2 := Lib.hid (HSY2.out u1 u2 d2 W2 HP2.out)
                  go_wp2_with (go_at_call 59; refine (HSC2.out).mono ?_; rintro ee W3 ⟨rfl, d3, z3, q3, p3, s3⟩)
                  go_end0
                  exact HEND.out d2 d3 W2 W3 HP2.out z3 q3 p3 s3
                · have HF := Lib.hid (HSY2N.out c3 d2 W2 HP2.out)
                  have c3' : (mid < e ∧ ¬ e < b) ∨ ¬ mid < e := by omega
                  clear c3
                  rcases c3' with ⟨u1, u2⟩ | u1
                  · have v1 : (mid : Int) < (e : Int) := by omega
                    have v2 : ¬ (e : Int) < (b : Int) := by omega
                    go_wp2_with fail
                    go_end0
                    exact HF.out
                  · have v1 : ¬ (mid : Int) < (e : Int) := by omega
                    go_wp2_with fail
                    go_end0
                    exact HF.out
  · have hq9 : ¬ (mid : Int) < (m : Int) := by omega
    subst S0
    subst R0
    clear hq
    go_enter Try.func59, Try.ntmps59
    go_upto_region 32 with (fail)
    clear hq9
    go_wp2_with fail
    clear w1 w2 w3 w4 w6 e1 e2 hmid w3u w3m
    go_loopw [20, 21] (S5Rel w0 g a m (n - 1) dk) (fun iv jv _ => (intOf jv).toNat - (intOf iv).toNat)
    case atStart =>
      have := HB.out
      have := HS0.out
      have := HN.out
      exact ⟨a, m, rfl, rfl, Nat.le_refl _, by omega, Nat.le_refl _, SS.out, fun h => absurd h (Nat.lt_irrefl _), fun h => absurd h (Nat.lt_irrefl _)⟩
    case round =>
      obtain ⟨s, r, rfl, rfl, hsl, hsr, hrl, hsw, hlo, hhi⟩ := hrel
      have hb := HB.out
      have hs0 := HS0.out
      have hnn := HN.out
      by_cases hlt : s < r
      · have hlt9 : (s : Int) < (r : Int) := by omega
        have wij : IntKind.i64.wrap ((s : Int) + (r : Int)) = (s : Int) + (r : Int) := IntWalk.i64_in _ (by omega)
        obtain ⟨c, hh⟩ : ∃ c : Nat, ((s : Int) + (r : Int)) / 2 = (c : Int) := ⟨(s + r) / 2, by omega⟩
        have hh1 : s ≤ c ∧ c < r := by omega
        have wpc : IntKind.i64.wrap (((n - 1 : Nat) : Int) - (c : Int)) = ((n - 1 - c : Nat) : Int) := by rw [IntWalk.i64_in _ (by omega)]; omega
        go_upto_region 35 with (fail)
        have hsg := SW.grownCells hsw RR.out HS.out c (by omega)
        have hsg2 := SW.grownCells hsw RR.out HS.out (n - 1 - c) (by omega)
        have hcg := fun nn os => cmp_grown dk[n - 1 - c]! dk[c]! wr nn os
        have hkey : cfD dk[n - 1 - c]! dk[c]! < 0 ↔ key dk (n - 1 - c) < key dk c := cfD_neg _ _
        have hlt1 : (c : Int) < (d0.size : Int) := by omega
        have hlt2 : ((n - 1 - c : Nat) : Int) < (d0.size : Int) := by omega
        have wh : IntKind.i64.wrap ((c : Int) + 1) = (c : Int) + 1 := IntWalk.i64_in _ (by omega)
        have HKEY := Lib.hid hkey
        have HPC := Lib.hid (show n - 1 - c = n - 1 - c from rfl)
        generalize hpp : n - 1 - c = pc at *
        have HPP := Lib.hid hpp
        have lh0 := fun n os => (hsg n os).1
        have lh1 := fun n os => (hsg n os).2.1
        have lh2 := fun n os => (hsg n os).2.2
        have la0 := fun n os => (hsg2 n os).1
        have la1 := fun n os => (hsg2 n os).2.1
        have la2 := fun n os => (hsg2 n os).2.2
        generalize dk[c]! = x at *
        generalize dk[pc]! = y at *
        generalize cfD y x = v at *
        have GR := Lib.hid (fun n os => SWK.grown hsw n os)
        have HCG := Lib.hid hcg
        have HH1 := Lib.hid hh1
        have HR := Lib.hid (And.intro hsl (And.intro hsr hrl))
        have HLO := Lib.hid hlo
        have HHI := Lib.hid hhi
        clear hsg hsg2 hcg hsw hb hh hh1 hlo hhi hsl hsr hrl wij hpp hkey hs0 hnn
        by_cases hc : v < 0
        · have HK := Lib.hid (HKEY.out.1 hc)
          go_wp2_with fail
          go_quiet_grown (exact HCG.out _ _)
          go_wp2_with fail
          exact ⟨⟨s, c, rfl, rfl, HR.out.1, HH1.out.1, by have := HH1.out; have := HR.out; omega, GR.out _ _, HLO.out, fun _ => by rw [HPP.out]; exact HK.out⟩, by have := HH1.out; simp [intOf]; omega⟩
        · have HK := Lib.hid (show ¬ key dk pc < key dk c from fun h' => hc (HKEY.out.2 h'))
          go_wp2_with fail
          go_quiet_grown (exact HCG.out _ _)
          go_wp2_with fail
          any_goals (rename_i hq; exfalso; simp at hq; omega)
          go_roundw
          case rel => exact ⟨c + 1, r, by go_num, rfl, by have := HH1.out; have := HR.out; omega, by have := HH1.out; omega, HR.out.2.2, GR.out _ _, fun _ => by rw [Nat.add_sub_cancel, HPP.out]; have := HK.out; omega, HHI.out⟩
          case measure => have := HH1.out; simp [intOf]; omega
      · obtain rfl : s = r := by omega
        obtain ⟨e, he⟩ : ∃ e, e = n - s := ⟨_, rfl⟩
        have we : IntKind.i64.wrap ((n : Int) - (s : Int)) = (e : Int) := by rw [IntWalk.i64_in _ (by omega)]; omega
        have hC : Cut (key dk) a s m e b := cut_of K1.out K2.out (by omega) (by omega) (by omega) (by omega) (fun q1 q2 => by
            have := hhi (by omega)
            have e3 : n - 1 - s = e - 1 := by omega
            rw [e3] at this; omega) (fun q1 q2 => by
            have := hlo (by omega)
            have e3 : n - 1 - (s - 1) = e := by omega
            rw [e3] at this; omega)
        have hme : mid = s + (e - m) := by omega
        have HC := Lib.hid hC
        have HME := Lib.hid hme
        have HSW := Lib.hid hsw
        have HE := Lib.hid (show a ≤ s ∧ s ≤ m ∧ m ≤ e ∧ e ≤ b ∧ s ≤ mid ∧ mid ≤ e from ⟨by omega, by omega, by omega, by omega, by omega, by omega⟩)
        have HSY1 := Lib.hid (fun (q1 : a < s) (q2 : s < mid) d1 W1 (p : P1 w0 g a b s m e dk d1 W1) => IH.out a s mid d1 W1 (by omega) q1 q2 (by rw [p.1]; omega) (by rw [p.1]; exact HS.out) p.2.1 (p1_parts HC.out K1.out K2.out HME.out p.2.2.2).1 (p1_parts HC.out K1.out K2.out HME.out p.2.2.2).2.1)
        have HSY2 := Lib.hid (fun (q1 : mid < e) (q2 : e < b) d2 W2 (p : P2 w0 g a b s m e mid dk d2 W2) => IH.out mid e b d2 W2 (by omega) q1 q2 (by obtain ⟨_, _, z, _⟩ := p; rw [z]; omega) (by obtain ⟨_, _, z, _⟩ := p; rw [z]; exact HS.out) (by obtain ⟨_, _, _, z, _⟩ := p; exact z) (p2_call HC.out K1.out K2.out HME.out p).1 (p2_call HC.out K1.out K2.out HME.out p).2)
        have HSY1N := Lib.hid (fun (q : ¬ (a < s ∧ s < mid)) d1 W1 (p : P1 w0 g a b s m e dk d1 W1) => p1_skip HC.out K1.out K2.out HME.out q p)
        have HSY2N := Lib.hid (fun (q : ¬ (mid < e ∧ e < b)) d2 W2 (p : P2 w0 g a b s m e mid dk d2 W2) => p2_skip HC.out K1.out K2.out HME.out (by omega) q p)
        have HEND := Lib.hid (fun d2 d3 W2 W3 (p : P2 w0 g a b s m e mid dk d2 W2) z3 q3 p3 s3 => p2_end (d3 := d3) (W' := W3) HC.out K1.out K2.out HME.out (by omega) p z3 q3 p3 s3)
        have HROT := Lib.hid (fun (q1 : s < m) (q2 : m < e) => rotate_any w0 g d0.size cap s m e dk d0 wr cmpV HSW.out RR.out HS.out HS.out.symm q1 q2 (by omega) (by omega))
        have HRN := Lib.hid (fun (q : ¬ (s < m ∧ m < e)) => show P1 w0 g a b s m e dk dk wr from ⟨rfl, HSW.out, permIn_refl _ _ _, fun x => rotF_id (at' dk) HE.out.2.1 HE.out.2.2.1 q x⟩)
        have HB2 := Lib.hid (show s ≤ m ∧ e ≤ b ∧ b ≤ dk.size ∧ a ≤ s by omega)
        clear hsw hlo hhi hsl hsr hrl hb hs0 hnn hlt he hC hme
        by_cases c1 : s < m ∧ m < e
        · obtain ⟨u1, u2⟩ := c1
          have v1 : (s : Int) < (m : Int) := by omega
          have v2 : (m : Int) < (e : Int) := by omega
          have HR1 := Lib.hid (HROT.out u1 u2)
          go_upto_region 41 with (go_at_call 60; refine (HR1.out).mono ?_; rintro ee W1 ⟨rfl, d1, z1, q1, p1, x1⟩)
          have hp1 : P1 w0 g a b s m e dk d1 W1 := ⟨z1, q1, permIn_mono _ _ s e a b HB2.out.2.2.2 HB2.out.2.1 HB2.out.2.2.1 p1, x1⟩
          clear z1 q1 p1 x1 u1 u2 v1 v2
          have HP1 := Lib.hid hp1
          clear hp1
          by_cases c2 : a < s ∧ s < mid
          · obtain ⟨u1, u2⟩ := c2
            have v1 : (a : Int) < (s : Int) := by omega
            have v2 : (s : Int) < (mid : Int) := by omega
            have HSC := Lib.hid (HSY1.out u1 u2 d1 W1 HP1.out)
            go_upto_region 43 with (go_at_call 59; refine (HSC.out).mono ?_; rintro ee W2 ⟨rfl, d2, z2, q2, p2, s2⟩)
            have HP2 := Lib.hid (show P2 w0 g a b s m e mid dk d2 W2 from ⟨d1, ⟨HP1.out.1, HP1.out.2.2.1, HP1.out.2.2.2⟩, z2.trans HP1.out.1, q2, p2, s2⟩)
            clear z2 q2 p2 s2 u1 u2 v1 v2
            by_cases c3 : mid < e ∧ e < b
            · obtain ⟨u1, u2⟩ := c3
              have v1 : (mid : Int) < (e : Int) := by omega
              have v2 : (e : Int) < (b : Int) := by omega
              have HSC2 := Lib.hid (HSY2.out u1 u2 d2 W2 HP2.out)
              go_wp2_with (go_at_call 59; refine (HSC2.out).mono ?_; rintro ee W3 ⟨rfl, d3, z3, q3, p3, s3⟩)
              go_end0
              exact HEND.out d2 d3 W2 W3 HP2.out z3 q3 p3 s3
            · have HF := Lib.hid (HSY2N.out c3 d2 W2 HP2.out)
              have c3' : (mid < e ∧ ¬ e < b) ∨ ¬ mid < e := by omega
              clear c3
              rcases c3' with ⟨u1, u2⟩ | u1
              · have v1 : (mid : Int) < (e : Int) := by omega
                have v2 : ¬ (e : Int) < (b : Int) := by omega
                go_wp2_with fail
                go_end0
                exact HF.out
              · have v1 : ¬ (mid : Int) < (e : Int) := by omega
                go_wp2_with fail
                go_end0
                exact HF.out
          · have HP2 := Lib.hid (HSY1N.out c2 d1 W1 HP1.out)
            have c2' : (a < s ∧ ¬ s < mid) ∨ ¬ a < s := by omega
            obtain ⟨W2, hW2⟩ : ∃ W2, W2 = W1 := ⟨_, rfl⟩
            obtain ⟨d2, hd2⟩ : ∃ d2, d2 = d1 := ⟨_, rfl⟩
            rw [← hW2, ← hd2] at HP2
            clear c2 hd2
            rcases c2' with ⟨u1, u2⟩ | u1
            · have v1 : (a : Int) < (s : Int) := by omega
              have v2 : ¬ (s : Int) < (mid : Int) := by omega
              go_upto_region 43 with (fail)
              rw [← hW2]
              clear u1 u2 v1 v2 hW2
              by_cases c3 : mid < e ∧ e < b
              · obtain ⟨u1, u2⟩ := c3
                have v1 : (mid : Int) < (e : Int) := by omega
                have v2 : (e : Int) < (b : Int) := by omega
                have HSC2 := Lib.hid (HSY2.out u1 u2 d2 W2 HP2.out)
                go_wp2_with (go_at_call 59; refine (HSC2.out).mono ?_; rintro ee W3 ⟨rfl, d3, z3, q3, p3, s3⟩)
                go_end0
                exact HEND.out d2 d3 W2 W3 HP2.out z3 q3 p3 s3
              · have HF := Lib.hid (HSY2N.out c3 d2 W2 HP2.out)
                have c3' : (mid < e ∧ ¬ e < b) ∨ ¬ mid < e := by omega
                clear c3
                rcases c3' with ⟨u1, u2⟩ | u1
                · have v1 : (mid : Int) < (e : Int) := by omega
                  have v2 : ¬ (e : Int) < (b : Int) := by omega
                  go_wp2_with fail
                  go_end0
                  exact HF.out
                · have v1 : ¬ (mid : Int) < (e : Int) := by omega
                  go_wp2_with fail
                  go_end0
                  exact HF.out
            · have v1 : ¬ (a : Int) < (s : Int) := by omega
              go_upto_region 43 with (fail)
              rw [← hW2]
              clear u1 v1 hW2
              by_cases c3 : mid < e ∧ e < b
              · obtain ⟨u1, u2⟩ := c3
                have v1 : (mid : Int) < (e : Int) := by omega
                have v2 : (e : Int) < (b : Int) := by omega
                have HSC2 := Lib.hid (HSY2.out u1 u2 d2 W2 HP2.out)
                go_wp2_with (go_at_call 59; refine (HSC2.out).mono ?_; rintro ee W3 ⟨rfl, d3, z3, q3, p3, s3⟩)
                go_end0
                exact HEND.out d2 d3 W2 W3 HP2.out z3 q3 p3 s3
              · have HF := Lib.hid (HSY2N.out c3 d2 W2 HP2.out)
                have c3' : (mid < e ∧ ¬ e < b) ∨ ¬ mid < e := by omega
                clear c3
                rcases c3' with ⟨u1, u2⟩ | u1
                · have v1 : (mid : Int) < (e : Int) := by omega
                  have v2 : ¬ (e : Int) < (b : Int) := by omega
                  go_wp2_with fail
                  go_end0
                  exact HF.out
                · have v1 : ¬ (mid : Int) < (e : Int) := by omega
                  go_wp2_with fail
                  go_end0
                  exact HF.out
        · have c1' : (s < m ∧ ¬ m < e) ∨ ¬ s < m := by omega
          have hp1 := HRN.out c1
          obtain ⟨W1, hW1⟩ : ∃ W1, W1 = wr := ⟨_, rfl⟩
          obtain ⟨d1, hd1⟩ : ∃ d1, d1 = dk := ⟨_, rfl⟩
          rw [← hW1, ← hd1] at hp1
          have hp1 : P1 w0 g a b s m e dk d1 W1 := by rw [hd1]; rw [hd1] at hp1; exact hp1
          clear hd1
          clear c1
          rcases c1' with ⟨u1, u2⟩ | u1
          · have v1 : (s : Int) < (m : Int) := by omega
            have v2 : ¬ (m : Int) < (e : Int) := by omega
            go_upto_region 41 with (fail)
            rw [← hW1]
            clear u1 u2 v1 v2 hW1
            have HP1 := Lib.hid hp1
            clear hp1
            by_cases c2 : a < s ∧ s < mid
            · obtain ⟨u1, u2⟩ := c2
              have v1 : (a : Int) < (s : Int) := by omega
              have v2 : (s : Int) < (mid : Int) := by omega
              have HSC := Lib.hid (HSY1.out u1 u2 d1 W1 HP1.out)
              go_upto_region 43 with (go_at_call 59; refine (HSC.out).mono ?_; rintro ee W2 ⟨rfl, d2, z2, q2, p2, s2⟩)
              have HP2 := Lib.hid (show P2 w0 g a b s m e mid dk d2 W2 from ⟨d1, ⟨HP1.out.1, HP1.out.2.2.1, HP1.out.2.2.2⟩, z2.trans HP1.out.1, q2, p2, s2⟩)
              clear z2 q2 p2 s2 u1 u2 v1 v2
              by_cases c3 : mid < e ∧ e < b
              · obtain ⟨u1, u2⟩ := c3
                have v1 : (mid : Int) < (e : Int) := by omega
                have v2 : (e : Int) < (b : Int) := by omega
                have HSC2 := Lib.hid (HSY2.out u1 u2 d2 W2 HP2.out)
                go_wp2_with (go_at_call 59; refine (HSC2.out).mono ?_; rintro ee W3 ⟨rfl, d3, z3, q3, p3, s3⟩)
                go_end0
                exact HEND.out d2 d3 W2 W3 HP2.out z3 q3 p3 s3
              · have HF := Lib.hid (HSY2N.out c3 d2 W2 HP2.out)
                have c3' : (mid < e ∧ ¬ e < b) ∨ ¬ mid < e := by omega
                clear c3
                rcases c3' with ⟨u1, u2⟩ | u1
                · have v1 : (mid : Int) < (e : Int) := by omega
                  have v2 : ¬ (e : Int) < (b : Int) := by omega
                  go_wp2_with fail
                  go_end0
                  exact HF.out
                · have v1 : ¬ (mid : Int) < (e : Int) := by omega
                  go_wp2_with fail
                  go_end0
                  exact HF.out
            · have HP2 := Lib.hid (HSY1N.out c2 d1 W1 HP1.out)
              have c2' : (a < s ∧ ¬ s < mid) ∨ ¬ a < s := by omega
              obtain ⟨W2, hW2⟩ : ∃ W2, W2 = W1 := ⟨_, rfl⟩
              obtain ⟨d2, hd2⟩ : ∃ d2, d2 = d1 := ⟨_, rfl⟩
              rw [← hW2, ← hd2] at HP2
              clear c2 hd2
              rcases c2' with ⟨u1, u2⟩ | u1
              · have v1 : (a : Int) < (s : Int) := by omega
                have v2 : ¬ (s : Int) < (mid : Int) := by omega
                go_upto_region 43 with (fail)
                rw [← hW2]
                clear u1 u2 v1 v2 hW2
                by_cases c3 : mid < e ∧ e < b
                · obtain ⟨u1, u2⟩ := c3
                  have v1 : (mid : Int) < (e : Int) := by omega
                  have v2 : (e : Int) < (b : Int) := by omega
                  have HSC2 := Lib.hid (HSY2.out u1 u2 d2 W2 HP2.out)
                  go_wp2_with (go_at_call 59; refine (HSC2.out).mono ?_; rintro ee W3 ⟨rfl, d3, z3, q3, p3, s3⟩)
                  go_end0
                  exact HEND.out d2 d3 W2 W3 HP2.out z3 q3 p3 s3
                · have HF := Lib.hid (HSY2N.out c3 d2 W2 HP2.out)
                  have c3' : (mid < e ∧ ¬ e < b) ∨ ¬ mid < e := by omega
                  clear c3
                  rcases c3' with ⟨u1, u2⟩ | u1
                  · have v1 : (mid : Int) < (e : Int) := by omega
                    have v2 : ¬ (e : Int) < (b : Int) := by omega
                    go_wp2_with fail
                    go_end0
                    exact HF.out
                  · have v1 : ¬ (mid : Int) < (e : Int) := by omega
                    go_wp2_with fail
                    go_end0
                    exact HF.out
              · have v1 : ¬ (a : Int) < (s : Int) := by omega
                go_upto_region 43 with (fail)
                rw [← hW2]
                clear u1 v1 hW2
                by_cases c3 : mid < e ∧ e < b
                · obtain ⟨u1, u2⟩ := c3
                  have v1 : (mid : Int) < (e : Int) := by omega
                  have v2 : (e : Int) < (b : Int) := by omega
                  have HSC2 := Lib.hid (HSY2.out u1 u2 d2 W2 HP2.out)
                  go_wp2_with (go_at_call 59; refine (HSC2.out).mono ?_; rintro ee W3 ⟨rfl, d3, z3, q3, p3, s3⟩)
                  go_end0
                  exact HEND.out d2 d3 W2 W3 HP2.out z3 q3 p3 s3
                · have HF := Lib.hid (HSY2N.out c3 d2 W2 HP2.out)
                  have c3' : (mid < e ∧ ¬ e < b) ∨ ¬ mid < e := by omega
                  clear c3
                  rcases c3' with ⟨u1, u2⟩ | u1
                  · have v1 : (mid : Int) < (e : Int) := by omega
                    have v2 : ¬ (e : Int) < (b : Int) := by omega
                    go_wp2_with fail
                    go_end0
                    exact HF.out
                  · have v1 : ¬ (mid : Int) < (e : Int) := by omega
                    go_wp2_with fail
                    go_end0
                    exact HF.out
          · have v1 : ¬ (s : Int) < (m : Int) := by omega
            go_upto_region 41 with (fail)
            rw [← hW1]
            clear u1 v1 hW1
            have HP1 := Lib.hid hp1
            clear hp1
            by_cases c2 : a < s ∧ s < mid
            · obtain ⟨u1, u2⟩ := c2
              have v1 : (a : Int) < (s : Int) := by omega
              have v2 : (s : Int) < (mid : Int) := by omega
              have HSC := Lib.hid (HSY1.out u1 u2 d1 W1 HP1.out)
              go_upto_region 43 with (go_at_call 59; refine (HSC.out).mono ?_; rintro ee W2 ⟨rfl, d2, z2, q2, p2, s2⟩)
              have HP2 := Lib.hid (show P2 w0 g a b s m e mid dk d2 W2 from ⟨d1, ⟨HP1.out.1, HP1.out.2.2.1, HP1.out.2.2.2⟩, z2.trans HP1.out.1, q2, p2, s2⟩)
              clear z2 q2 p2 s2 u1 u2 v1 v2
              by_cases c3 : mid < e ∧ e < b
              · obtain ⟨u1, u2⟩ := c3
                have v1 : (mid : Int) < (e : Int) := by omega
                have v2 : (e : Int) < (b : Int) := by omega
                have HSC2 := Lib.hid (HSY2.out u1 u2 d2 W2 HP2.out)
                go_wp2_with (go_at_call 59; refine (HSC2.out).mono ?_; rintro ee W3 ⟨rfl, d3, z3, q3, p3, s3⟩)
                go_end0
                exact HEND.out d2 d3 W2 W3 HP2.out z3 q3 p3 s3
              · have HF := Lib.hid (HSY2N.out c3 d2 W2 HP2.out)
                have c3' : (mid < e ∧ ¬ e < b) ∨ ¬ mid < e := by omega
                clear c3
                rcases c3' with ⟨u1, u2⟩ | u1
                · have v1 : (mid : Int) < (e : Int) := by omega
                  have v2 : ¬ (e : Int) < (b : Int) := by omega
                  go_wp2_with fail
                  go_end0
                  exact HF.out
                · have v1 : ¬ (mid : Int) < (e : Int) := by omega
                  go_wp2_with fail
                  go_end0
                  exact HF.out
            · have HP2 := Lib.hid (HSY1N.out c2 d1 W1 HP1.out)
              have c2' : (a < s ∧ ¬ s < mid) ∨ ¬ a < s := by omega
              obtain ⟨W2, hW2⟩ : ∃ W2, W2 = W1 := ⟨_, rfl⟩
              obtain ⟨d2, hd2⟩ : ∃ d2, d2 = d1 := ⟨_, rfl⟩
              rw [← hW2, ← hd2] at HP2
              clear c2 hd2
              rcases c2' with ⟨u1, u2⟩ | u1
              · have v1 : (a : Int) < (s : Int) := by omega
                have v2 : ¬ (s : Int) < (mid : Int) := by omega
                go_upto_region 43 with (fail)
                rw [← hW2]
                clear u1 u2 v1 v2 hW2
                by_cases c3 : mid < e ∧ e < b
                · obtain ⟨u1, u2⟩ := c3
                  have v1 : (mid : Int) < (e : Int) := by omega
                  have v2 : (e : Int) < (b : Int) := by omega
                  have HSC2 := Lib.hid (HSY2.out u1 u2 d2 W2 HP2.out)
                  go_wp2_with (go_at_call 59; refine (HSC2.out).mono ?_; rintro ee W3 ⟨rfl, d3, z3, q3, p3, s3⟩)
                  go_end0
                  exact HEND.out d2 d3 W2 W3 HP2.out z3 q3 p3 s3
                · have HF := Lib.hid (HSY2N.out c3 d2 W2 HP2.out)
                  have c3' : (mid < e ∧ ¬ e < b) ∨ ¬ mid < e := by omega
                  clear c3
                  rcases c3' with ⟨u1, u2⟩ | u1
                  · have v1 : (mid : Int) < (e : Int) := by omega
                    have v2 : ¬ (e : Int) < (b : Int) := by omega
                    go_wp2_with fail
                    go_end0
                    exact HF.out
                  · have v1 : ¬ (mid : Int) < (e : Int) := by omega
                    go_wp2_with fail
                    go_end0
                    exact HF.out
              · have v1 : ¬ (a : Int) < (s : Int) := by omega
                go_upto_region 43 with (fail)
                rw [← hW2]
                clear u1 v1 hW2
                by_cases c3 : mid < e ∧ e < b
                · obtain ⟨u1, u2⟩ := c3
                  have v1 : (mid : Int) < (e : Int) := by omega
                  have v2 : (e : Int) < (b : Int) := by omega
                  have HSC2 := Lib.hid (HSY2.out u1 u2 d2 W2 HP2.out)
                  go_wp2_with (go_at_call 59; refine (HSC2.out).mono ?_; rintro ee W3 ⟨rfl, d3, z3, q3, p3, s3⟩)
                  go_end0
                  exact HEND.out d2 d3 W2 W3 HP2.out z3 q3 p3 s3
                · have HF := Lib.hid (HSY2N.out c3 d2 W2 HP2.out)
                  have c3' : (mid < e ∧ ¬ e < b) ∨ ¬ mid < e := by omega
                  clear c3
                  rcases c3' with ⟨u1, u2⟩ | u1
                  · have v1 : (mid : Int) < (e : Int) := by omega
                    have v2 : ¬ (e : Int) < (b : Int) := by omega
                    go_wp2_with fail
                    go_end0
                    exact HF.out
                  · have v1 : ¬ (mid : Int) < (e : Int) := by omega
                    go_wp2_with fail
                    go_end0
                    exact HF.out
end Go.Proofs.Ytgbgpmdhlocjhaa
