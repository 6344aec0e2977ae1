/-
  Contract of symMergeCmpFunc where the second list has one element. No conditions but those that each theorem names.
-/
import Derived.Test.YtgbgpmdhlocjhaaD5
namespace Go.Proofs.Ytgbgpmdhlocjhaa
open Go.RowKit Go.Sort
set_option linter.unusedVariables false
set_option linter.unusedSimpArgs false
set_option maxRecDepth 100000

set_option maxHeartbeats 8000000 in
/-- Where the second list has one element. -/
theorem sym_two (w0 : World) (g cap : Nat) (d0 : Array Ed) (R : Row0 w0 g d0) (h4 : d0.size ≤ 1000000) (a m b : Nat) (dk : Array Ed) (W : World) (h1 : a < m) (h2 : m < b) (h3 : b ≤ dk.size) (hs : dk.size = d0.size) (h : SW w0 g dk W) (k1 : Srt (key dk) a m) (k2 : Srt (key dk) m b) (hc1 : ¬ m - a = 1) (hc2 : b - m = 1) :
    Calls Try.prog 59 #[.slice (some ⟨g, 0, none⟩) d0.size cap, .int .i64 a, .int .i64 m, .int .i64 b, cmpV] W (SymPost w0 g a b dk) := by
  have hsz9 : (d0.size : Int) ≤ 1000000 := by omega
  have hb9 : (b : Int) ≤ (d0.size : Int) := by omega
  have hm9 : (m : Int) < (b : Int) := by omega
  have ha9 : (a : Int) < (m : Int) := by omega
  have RR := Lib.hid R
  have HS := Lib.hid hs
  have SS := Lib.hid h
  have K1 := Lib.hid k1
  have K2 := Lib.hid k2
  have HB := Lib.hid (show a < m ∧ m < b ∧ b ≤ dk.size ∧ dk.size = d0.size ∧ d0.size ≤ 1000000 from ⟨h1, h2, h3, hs, h4⟩)
  have w1 : IntKind.i64.wrap ((m : Int) - (a : Int)) = (m : Int) - (a : Int) := IntWalk.i64_in _ (by omega)
  have w2 : IntKind.i64.wrap ((b : Int) - (m : Int)) = (b : Int) - (m : Int) := IntWalk.i64_in _ (by omega)
  have hmix : Try.prog.follows .mixedOrders = true := by kernel_rfl
  clear R h4 h k1 k2 hs
  have e1 : ((m : Int) - (a : Int) == 1) = false := by simp; omega
  have e2 : ((b : Int) - (m : Int) == 1) = true := by simp; omega
  have HC2 := Lib.hid hc2
  clear h1 h2 h3
  go_enter Try.func59, Try.ntmps59
  go_wp2_with fail
  clear w1 w2 e1 e2
  go_loopw [14, 15] (S3Rel w0 g a m dk) (fun iv jv _ => (intOf jv).toNat - (intOf iv).toNat)
  case atStart => exact ⟨a, m, rfl, rfl, Nat.le_refl _, by have := HB.out; omega, Nat.le_refl _, SS.out, fun h => absurd h (Nat.lt_irrefl _), fun h => absurd h (Nat.lt_irrefl _)⟩
  case round =>
    obtain ⟨i, j, rfl, rfl, hmi, hij, hjb, hsw, hlo, hhi⟩ := hrel
    by_cases hlt : i < j
    · have hlt9 : (i : Int) < (j : Int) := by omega
      have wij : IntKind.i64.wrap ((i : Int) + (j : Int)) = (i : Int) + (j : Int) := IntWalk.i64_in _ (by have := HB.out; omega)
      obtain ⟨h, hh⟩ : ∃ h : Nat, ((i : Int) + (j : Int)) / 2 = (h : Int) := ⟨(i + j) / 2, by omega⟩
      have hh1 : i ≤ h ∧ h < j := by omega
      have hb := HB.out
      go_upto_region 17 with (fail)
      have hsg := SW.grownCells hsw RR.out HS.out h (by omega)
      have hsg2 := SW.grownCells hsw RR.out HS.out m (by omega)
      have lh0 := fun n os => (hsg n os).1
      have lh1 := fun n os => (hsg n os).2.1
      have lh2 := fun n os => (hsg n os).2.2
      have la0 := fun n os => (hsg2 n os).1
      have la1 := fun n os => (hsg2 n os).2.1
      have la2 := fun n os => (hsg2 n os).2.2
      have hcg := fun n os => cmp_grown dk[m]! dk[h]! wr n os
      have hlt1 : (h : Int) < (d0.size : Int) := by omega
      have hlt2 : (m : Int) < (d0.size : Int) := by omega
      have wh : IntKind.i64.wrap ((h : Int) + 1) = (h : Int) + 1 := IntWalk.i64_in _ (by omega)
      have hkey : cfD dk[m]! dk[h]! < 0 ↔ key dk m < key dk h := cfD_neg _ _
      generalize dk[h]! = x at *
      generalize dk[m]! = y at *
      generalize cfD y x = c at *
      have GR := Lib.hid (fun n os => SWK.grown hsw n os)
      have HCG := Lib.hid hcg
      have HH1 := Lib.hid hh1
      have HR := Lib.hid (And.intro hmi (And.intro hij hjb))
      have HLO := Lib.hid hlo
      have HHI := Lib.hid hhi
      clear hsg hsg2 hcg hsw hb hh hh1 hlo hhi hmi hij hjb wij
      by_cases hc : c < 0
      · have HK := Lib.hid (hkey.1 hc)
        clear hkey
        go_wp2_with fail
        go_quiet_grown (exact HCG.out _ _)
        go_wp2_with fail
        exact ⟨⟨i, h, rfl, rfl, HR.out.1, HH1.out.1, by have := HH1.out; have := HR.out; omega, GR.out _ _, HLO.out, fun _ => HK.out⟩, by have := HH1.out; simp [intOf]; omega⟩
      · have HK := Lib.hid (show ¬ key dk m < key dk h from fun h' => hc (hkey.2 h'))
        clear hkey
        go_wp2_with fail
        go_quiet_grown (exact HCG.out _ _)
        go_wp2_with fail
        any_goals (rename_i hq; exfalso; simp at hq; omega)
        go_roundw
        case rel => exact ⟨h + 1, j, by go_num, rfl, by have := HH1.out; have := HR.out; omega, by have := HH1.out; omega, HR.out.2.2, GR.out _ _, fun _ => by rw [Nat.add_sub_cancel]; have := HK.out; omega, HHI.out⟩
        case measure => have := HH1.out; simp [intOf]; omega
    · obtain rfl : i = j := by omega
      have hb := HB.out
      have hm1 : b = m + 1 := by have := HC2.out; omega
      subst hm1
      have HSW := Lib.hid hsw
      have HIB := Lib.hid (And.intro hmi hjb)
      have HLO := Lib.hid hlo
      have HHI := Lib.hid hhi
      clear hsw hlo hhi hij hb hmi hjb
      go_wp2_with fail
      go_loopw [17] (S4Rel w0 g a (m + 1) m i dk) (fun kv _ => (intOf kv).toNat)
      case atStart => exact ⟨m, dk, rfl, HIB.out.2, Nat.le_refl _, rfl, HSW.out, permIn_refl _ _ _, rot_same2 dk m⟩
      case round =>
        obtain ⟨k, d, rfl, hk1, hk2, hz, hsw, hp, hx⟩ := hrel
        have hb := HB.out
        have hib := HIB.out
        by_cases hlt2 : i < k
        · obtain ⟨k', rfl⟩ : ∃ k', k = k' + 1 := ⟨k - 1, by omega⟩
          have hlt9 : (i : Int) < (k' : Int) + 1 := by omega
          have wk : IntKind.i64.wrap (((k' + 1 : Nat) : Int) - 1) = (k' : Int) := by rw [IntWalk.i64_in _ (by omega)]; omega
          have wk2 : IntKind.i64.wrap ((k' : Int) + 1 - 1) = (k' : Int) := by rw [IntWalk.i64_in _ (by omega)]; omega
          have ek : ((k' : Int) + 1).toNat = k' + 1 := by omega
          have pk : (0 : Int) ≤ (k' : Int) + 1 := by omega
          obtain ⟨c0, c1, c2, z0, z1, z2⟩ := SW.cells hsw RR.out (by rw [hz]; exact HS.out) k' (by omega)
          obtain ⟨f0, f1, f2, y0, y1, y2⟩ := SW.cells hsw RR.out (by rw [hz]; exact HS.out) (k' + 1) (by omega)
          have bk1 : (k' : Int) < (d0.size : Int) := by omega
          have bk2 : (k' : Int) + 1 < (d0.size : Int) := by omega
          have hne : k' * 3 + 2 < (k' + 1) * 3 := by omega
          have SW1 := Lib.hid (SW.swap6 hsw RR.out (k' + 1) k' (by omega) (by omega))
          have HFIN := Lib.hid (show ∀ W', SW w0 g (swp d (k' + 1) k') W' → S4Rel w0 g a (m + 1) m i dk (.int .i64 (k' : Int)) W' from fun W' q =>
            ⟨k', _, rfl, by omega, by omega, by rw [size_swp, hz], q, permIn_trans _ _ _ _ _ hp (swp_permIn d a (m + 1) (k' + 1) k' (by omega) (by omega) (by omega) (by omega) (by omega)), rot2_step hx (by omega) (by omega)⟩)
          generalize d[k']! = x at *
          generalize d[k' + 1]! = y at *
          clear hsw hp hx hb hib hk1 hk2 hz hlt2
          go_wp2_with fail
          go_big_region_o
          obtain ⟨W2, hW2⟩ : ∃ W2, W2 = (ex6 wr g (k' + 1) k' y x).drew := ⟨_, rfl⟩
          rw [← hW2] at SW1
          unfold ex6 at hW2
          rw [← hW2]
          clear hW2 c0 c1 c2 f0 f1 f2 z0 z1 z2 y0 y1 y2
          go_wp2_with fail
          go_roundw
          case rel => exact HFIN.out _ SW1.out
          case measure => simp [intOf]
        · have hki : k = i := by omega
          subst hki
          have hlt9 : ¬ (k : Int) < (k : Int) := by omega
          have HFIN := Lib.hid (show SymPost w0 g a (m + 1) dk (.returned (.tuple #[])) wr from ⟨rfl, d, hz, hsw, hp, sym2 K1.out hib.1 hib.2 (by omega) HLO.out HHI.out hz hx hp⟩)
          clear hsw hp hx hb hib hk1 hk2 hz hlt2
          go_wp2_with fail
          go_end0
          exact HFIN.out
end Go.Proofs.Ytgbgpmdhlocjhaa
