/-
  Contract of swapRangeCmpFunc at rows of edges. No conditions but those that each theorem names.
-/
import Derived.Test.YtgbgpmdhlocjhaaD1
namespace Go.Proofs.Ytgbgpmdhlocjhaa
open Go.RowKit Go.Sort
set_option linter.unusedVariables false
set_option linter.unusedSimpArgs false
set_option maxRecDepth 100000

/-- n places from a on exchanged with as many from b on. -/
def swr (d : Array Ed) (a b : Nat) : Nat → Array Ed
  | 0 => d
  | n + 1 => swp (swr d a b n) (a + n) (b + n)
theorem swr_size (d : Array Ed) (a b n : Nat) : (swr d a b n).size = d.size := by
  induction n with
  | zero => rfl
  | succ n ih => rw [swr, size_swp, ih]
theorem swr_get (d : Array Ed) (a b : Nat) : ∀ n, a + n ≤ b → b + n ≤ d.size → ∀ x, (swr d a b n)[x]! = if a ≤ x ∧ x < a + n then d[x - a + b]! else if b ≤ x ∧ x < b + n then d[x - b + a]! else d[x]!
  | 0, _, _, x => by rw [swr, if_neg (by omega), if_neg (by omega)]
  | n + 1, h1, h2, x => by
    have ih := swr_get d a b n (by omega) (by omega)
    rw [swr, swp_get _ (by rw [swr_size]; omega) (by rw [swr_size]; omega), ih (a + n), ih (b + n), ih x]
    rw [if_neg (show ¬ (a ≤ a + n ∧ a + n < a + n) by omega), if_neg (show ¬ (b ≤ a + n ∧ a + n < b + n) by omega), if_neg (show ¬ (a ≤ b + n ∧ b + n < a + n) by omega), if_neg (show ¬ (b ≤ b + n ∧ b + n < b + n) by omega)]
    by_cases e1 : x = b + n
    · subst e1
      rw [if_pos rfl, if_neg (by omega), if_pos (by omega)]
      congr 1; omega
    · rw [if_neg e1]
      by_cases e2 : x = a + n
      · subst e2
        rw [if_pos rfl, if_pos (by omega)]
        congr 1; omega
      · rw [if_neg e2]
        by_cases e3 : a ≤ x ∧ x < a + n
        · rw [if_pos e3, if_pos (by omega)]
        · rw [if_neg e3, if_neg (show ¬ (a ≤ x ∧ x < a + (n + 1)) by omega)]
          by_cases e4 : b ≤ x ∧ x < b + n
          · rw [if_pos e4, if_pos (by omega)]
          · rw [if_neg e4, if_neg (by omega)]
/-- The world is one of a sort's, that began at w0: the row in block g holds dk. -/
abbrev SW (w0 : World) (g : Nat) (dk : Array Ed) (W : World) : Prop := SWK eD 3 w0 g 0 dk W
abbrev Row0 (w0 : World) (g : Nat) (d0 : Array Ed) : Prop := RowK eD 3 w0 g 0 d0
theorem SW.cells {w0 W : World} {g : Nat} {dk d0 : Array Ed} (h : SW w0 g dk W) (R : Row0 w0 g d0) (hs : dk.size = d0.size) (i : Nat) (hi : i < dk.size) :
    W.cell? ⟨g, i * 3, none⟩ = some (.int .i64 dk[i]!.1) ∧ W.cell? ⟨g, i * 3 + 1, none⟩ = some (.int .i64 dk[i]!.2.1) ∧ W.cell? ⟨g, i * 3 + 2, none⟩ = some (.bool dk[i]!.2.2) ∧
    W.frozen? ⟨g, i * 3, none⟩ = false ∧ W.frozen? ⟨g, i * 3 + 1, none⟩ = false ∧ W.frozen? ⟨g, i * 3 + 2, none⟩ = false := by
  have hH := h.holds R.hblk R.hH hs
  have hb : i * 3 + 3 ≤ dk.size * 3 := rowK_bnd dk 3 i hi
  have hc := HoldsK.cells hH R.hk hi
  have e := fun j (hj : j < 3) => hH (i * 3 + j) (by simp; omega)
  have c0 := hc 0 _ rfl
  have c1 := hc 1 _ rfl
  have c2 := hc 2 _ rfl
  have z0 := (e 0 (by omega)).2
  have z1 := (e 1 (by omega)).2
  have z2 := (e 2 (by omega)).2
  simp only [Nat.zero_add, Addr.add_lit, Nat.add_zero] at c0 c1 c2 z0 z1 z2
  exact ⟨c0, c1, c2, z0, z1, z2⟩
/-- Two edges exchanged, cell by cell. -/
def ex6 (W : World) (g i j : Nat) (x y : Ed) : World :=
  (((((W.setCell ⟨g, i * 3, none⟩ (.int .i64 y.1)).setCell ⟨g, i * 3 + 1, none⟩ (.int .i64 y.2.1)).setCell ⟨g, i * 3 + 2, none⟩ (.bool y.2.2)).setCell ⟨g, j * 3, none⟩ (.int .i64 x.1)).setCell ⟨g, j * 3 + 1, none⟩ (.int .i64 x.2.1)).setCell ⟨g, j * 3 + 2, none⟩ (.bool x.2.2)
theorem SW.swap6 {w0 W : World} {g : Nat} {dk d0 : Array Ed} (h : SW w0 g dk W) (R : Row0 w0 g d0) (i j : Nat) (hi : i < dk.size) (hj : j < dk.size) : SW w0 g (swp dk i j) (ex6 W g i j dk[i]! dk[j]!).drew := by
  have := (SWK.swap h R.hk R.hblk i j hi hj).drewN 1
  simp only [Nat.zero_add] at this
  exact this
set_option maxHeartbeats 4000000 in
theorem swapRange_any (w0 : World) (g n0 cap a b n : Nat) (dk d0 : Array Ed) (W : World) (cmp : Value) (h : SW w0 g dk W) (R : Row0 w0 g d0) (hs : dk.size = d0.size) (hn0 : n0 = dk.size) (h1 : a + n ≤ b) (h2 : b + n ≤ dk.size) (h3 : dk.size ≤ 1000000) :
    Calls Try.prog 61 #[.slice (some ⟨g, 0, none⟩) n0 cap, .int .i64 a, .int .i64 b, .int .i64 n, cmp] W fun e W' => e = .returned (.tuple #[]) ∧ SW w0 g (swr dk a b n) W' := by
  subst hn0
  have hsz9 : (dk.size : Int) ≤ 1000000 := by omega
  have hbn9 : (b : Int) + (n : Int) ≤ (dk.size : Int) := by omega
  have han9 : (a : Int) + (n : Int) ≤ (b : Int) := by omega
  have S := Lib.hid h
  have RR := Lib.hid R
  have HS := Lib.hid hs
  clear h R hs h3
  go_enter Try.func61, Try.ntmps61
  go_wp2_with fail
  go_loopw [10] (fun cv wr => ∃ i : Nat, i ≤ n ∧ cv = .int .i64 i ∧ SW w0 g (swr dk a b i) wr) (fun cv _ => n - (intOf cv).toNat)
  case atStart => exact ⟨0, by omega, rfl, S.out⟩
  case round =>
    obtain ⟨i, hi, rfl, hsw⟩ := hrel
    have hss := swr_size dk a b i
    by_cases hlt : i < n
    · have hlt9 : (i : Int) < (n : Int) := by omega
      obtain ⟨c0, c1, c2, z0, z1, z2⟩ := SW.cells hsw RR.out (by rw [hss]; exact HS.out) (a + i) (by omega)
      obtain ⟨d0, d1, d2, y0, y1, y2⟩ := SW.cells hsw RR.out (by rw [hss]; exact HS.out) (b + i) (by omega)
      have hw1 : IntKind.i64.wrap ((a : Int) + (i : Int)) = (a : Int) + (i : Int) := IntWalk.i64_in _ (by omega)
      have hw2 : IntKind.i64.wrap ((b : Int) + (i : Int)) = (b : Int) + (i : Int) := IntWalk.i64_in _ (by omega)
      have e1 : ((a : Int) + (i : Int)).toNat = a + i := by omega
      have e2 : ((b : Int) + (i : Int)).toNat = b + i := by omega
      have p1 : (0 : Int) ≤ (a : Int) + (i : Int) := by omega
      have p2 : (0 : Int) ≤ (b : Int) + (i : Int) := by omega
      have b1 : (a : Int) + (i : Int) < (dk.size : Int) := by omega
      have b2 : (b : Int) + (i : Int) < (dk.size : Int) := by omega
      have hne : (a + i) * 3 + 2 < (b + i) * 3 := by omega
      have SW1 := Lib.hid (SW.swap6 hsw RR.out (a + i) (b + i) (by omega) (by omega))
      rw [show swp (swr dk a b i) (a + i) (b + i) = swr dk a b (i + 1) from rfl] at SW1
      generalize (swr dk a b i)[a + i]! = x at *
      generalize (swr dk a b i)[b + i]! = y at *
      clear hsw h1 h2 hss
      go_wp2_with fail
      have hmix : Try.prog.follows .mixedOrders = true := by kernel_rfl
      go_big_region_o
      obtain ⟨W2, hW2⟩ : ∃ W2, W2 = (ex6 wr g (a + i) (b + i) x y).drew := ⟨_, rfl⟩
      rw [← hW2] at SW1
      unfold ex6 at hW2
      rw [← hW2]
      clear hW2 c0 c1 c2 d0 d1 d2 z0 z1 z2 y0 y1 y2
      go_wp2_with fail
      go_roundw
      case rel => exact ⟨i + 1, by omega, by go_num, SW1.out⟩
      case measure => simp [intOf]; omega
    · obtain rfl : i = n := by omega
      have SW1 := Lib.hid hsw
      clear hsw h1 h2 hss
      go_wp2_with fail
      go_end0
      exact ⟨rfl, SW1.out⟩
end Go.Proofs.Ytgbgpmdhlocjhaa
