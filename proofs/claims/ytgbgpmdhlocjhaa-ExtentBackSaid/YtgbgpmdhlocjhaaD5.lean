/-
  Contract of symMergeCmpFunc at rows of edges. No conditions but those that each theorem names.
-/
import Derived.Test.YtgbgpmdhlocjhaaD4
namespace Go.Proofs.Ytgbgpmdhlocjhaa
open Go.RowKit Go.Sort
set_option linter.unusedVariables false
set_option linter.unusedSimpArgs false
set_option maxRecDepth 100000

def SymPost (w0 : World) (g a b : Nat) (dk : Array Ed) (e : Ending) (W' : World) : Prop := e = .returned (.tuple #[]) ∧ ∃ d, d.size = dk.size ∧ SW w0 g d W' ∧ PermIn a b dk d ∧ Srt (key d) a b
abbrev cmpV : Value := .func (.func 54) #[] #[]
theorem cmp_grown (x y : Ed) (w : World) (n : Nat) (os : Array Obj) : Calls Try.prog 54 #[.agg #[.int .i64 x.1, .int .i64 x.2.1, .bool x.2.2], .agg #[.int .i64 y.1, .int .i64 y.2.1, .bool y.2.2]] (grow (w.drewN n) os) fun e w'' => e = .returned (.int .i64 (cfD x y)) ∧ ∃ p : GrownBy, w'' = grow (w.drewN p.n) p.os :=
  Calls.grown_of (cmpD_any x y _)
theorem cfD_neg (x y : Ed) : cfD x y < 0 ↔ x.1 < y.1 := by
  unfold cfD Lib.compareInt
  (repeat' split) <;> omega
/-- The cells of an edge in every world that is a while further. -/
theorem SW.grownCells {w0 W : World} {g : Nat} {dk d0 : Array Ed} (h : SW w0 g dk W) (R : Row0 w0 g d0) (hs : dk.size = d0.size) (i : Nat) (hi : i < dk.size) (n : Nat) (os : Array Obj) :
    (grow (W.drewN n) os).cell? ⟨g, i * 3, none⟩ = some (.int .i64 dk[i]!.1) ∧ (grow (W.drewN n) os).cell? ⟨g, i * 3 + 1, none⟩ = some (.int .i64 dk[i]!.2.1) ∧ (grow (W.drewN n) os).cell? ⟨g, i * 3 + 2, none⟩ = some (.bool dk[i]!.2.2) := by
  obtain ⟨c0, c1, c2, _⟩ := SW.cells (SWK.grown h n os) R hs i hi
  exact ⟨c0, c1, c2⟩
theorem rot1_step {dk d : Array Ed} {a k : Nat} (h : ∀ x, d[x]! = rotF (at' dk) a (a + 1) (k + 1) x) (hk : a ≤ k) (hs : k + 1 < d.size) (x : Nat) : (swp d k (k + 1))[x]! = rotF (at' dk) a (a + 1) (k + 2) x := by
  rw [swp_get d (by omega) hs x, h k, h (k + 1), h x]
  unfold rotF at'
  have e1 : k + 1 - (a + 1) = k - a := by omega
  have e2 : k + 2 - (a + 1) = k + 1 - a := by omega
  rw [e1, e2]
  by_cases h1 : x = k + 1
  · subst h1
    rw [if_pos rfl, if_neg (by omega), if_pos (by omega), if_neg (by omega), if_pos (by omega)]
    congr 1; omega
  · rw [if_neg h1]
    by_cases h2 : x = k
    · subst h2
      rw [if_pos rfl, if_neg (by omega), if_neg (by omega), if_pos (by omega)]
      congr 1; omega
    · rw [if_neg h2]
      by_cases h3 : a ≤ x ∧ x < a + (k - a)
      · rw [if_pos h3, if_pos (by omega)]
      · rw [if_neg h3, if_neg (show ¬ (a + (k - a) ≤ x ∧ x < k + 1) by omega), if_neg (show ¬ (a ≤ x ∧ x < a + (k + 1 - a)) by omega), if_neg (by omega)]
theorem rot2_step {dk d : Array Ed} {m k : Nat} (h : ∀ x, d[x]! = rotF (at' dk) (k + 1) m (m + 1) x) (hk : k + 1 ≤ m) (hs : m < d.size) (x : Nat) : (swp d (k + 1) k)[x]! = rotF (at' dk) k m (m + 1) x := by
  rw [swp_get d (by omega) (by omega) x, h k, h (k + 1), h x]
  unfold rotF at'
  have e1 : m + 1 - m = 1 := by omega
  rw [e1]
  by_cases h1 : x = k
  · subst h1
    rw [if_pos rfl, if_pos (by omega), if_pos (by omega)]
    congr 1; omega
  · rw [if_neg h1]
    by_cases h2 : x = k + 1
    · subst h2
      rw [if_pos rfl, if_neg (by omega), if_neg (by omega), if_neg (by omega), if_pos (by omega)]
      congr 1
    · rw [if_neg h2, if_neg (show ¬ (k + 1 ≤ x ∧ x < k + 1 + 1) by omega), if_neg (show ¬ (k ≤ x ∧ x < k + 1) by omega)]
      by_cases h3 : k + 1 + 1 ≤ x ∧ x < m + 1
      · rw [if_pos h3, if_pos (by omega)]
      · rw [if_neg h3, if_neg (by omega)]
theorem rot_same1 (dk : Array Ed) (a x : Nat) : dk[x]! = rotF (at' dk) a (a + 1) (a + 1) x := by
  unfold rotF at'
  rw [if_neg (by omega)]
  split
  · congr 1; omega
  · rfl
theorem rot_same2 (dk : Array Ed) (m x : Nat) : dk[x]! = rotF (at' dk) m m (m + 1) x := by
  unfold rotF at'
  split
  · congr 1; omega
  · rw [if_neg (by omega)]
theorem sym1 {dk d : Array Ed} {a i b : Nat} (h2 : Srt (key dk) (a + 1) b) (hi : a + 1 ≤ i) (hib : i ≤ b) (hb : b ≤ dk.size) (hlo : a + 1 < i → key dk (i - 1) < key dk a) (hhi : i < b → key dk a ≤ key dk i)
    (hz : d.size = dk.size) (hd : ∀ x, d[x]! = rotF (at' dk) a (a + 1) i x) (hp : PermIn a b dk d) : Srt (key d) a b := by
  have h1 : Srt (key dk) a (a + 1) := Srt.small (by omega)
  have C : Cut (key dk) a a (a + 1) i b := cut_of h1 h2 (Nat.le_refl _) (by omega) hi hib (fun _ h => by have := hlo h; omega) (fun h => by omega)
  have hk1 : ∀ x, key d x = rotK (key dk) a (a + 1) i x := fun x => by unfold key; rw [hd x]; exact rotF_key dk a (a + 1) i x
  obtain ⟨q1, q2, q3, q4⟩ := C.parts h1 h2
  have e : key d = rotK (key dk) a (a + 1) i := funext hk1
  refine (merge_end C h1 h2 rfl hb hz hd hp hz (permIn_refl _ _ _) (by rw [e]; exact q2) hz (permIn_refl _ _ _) ?_).2
  rw [e]
  refine Srt.join q3 q4 fun p q k1 k2 k3 k4 => ?_
  unfold rotK
  rw [if_neg (by omega), if_pos (by omega), if_neg (by omega), if_neg (by omega)]
  have e2 : p - (i - (a + 1)) = a := by omega
  rw [e2]
  have := hhi (by omega)
  have := h2.le (i := i) (j := q) (by omega) k3 k4
  omega
theorem sym2 {dk d : Array Ed} {a i m : Nat} (h1 : Srt (key dk) a m) (hi : a ≤ i) (him : i ≤ m) (hb : m + 1 ≤ dk.size) (hlo : a < i → key dk (i - 1) ≤ key dk m) (hhi : i < m → key dk m < key dk i)
    (hz : d.size = dk.size) (hd : ∀ x, d[x]! = rotF (at' dk) i m (m + 1) x) (hp : PermIn a (m + 1) dk d) : Srt (key d) a (m + 1) := by
  have h2 : Srt (key dk) m (m + 1) := Srt.small (by omega)
  have C : Cut (key dk) a i m (m + 1) (m + 1) := cut_of h1 h2 hi him (by omega) (Nat.le_refl _) (fun h _ => by have := hhi h; simp; omega) (fun _ h => by omega)
  have hk1 : ∀ x, key d x = rotK (key dk) i m (m + 1) x := fun x => by unfold key; rw [hd x]; exact rotF_key dk i m (m + 1) x
  obtain ⟨q1, q2, q3, q4⟩ := C.parts h1 h2
  have e : key d = rotK (key dk) i m (m + 1) := funext hk1
  refine (merge_end C h1 h2 rfl hb hz hd hp hz (permIn_refl _ _ _) ?_ hz (permIn_refl _ _ _) (by rw [e]; exact q3)).2
  rw [e]
  refine Srt.join q1 q2 fun p q k1 k2 k3 k4 => ?_
  unfold rotK
  rw [if_neg (by omega), if_neg (by omega), if_pos (by omega)]
  have e2 : q + (m - i) = m := by omega
  rw [e2]
  have := hlo (by omega)
  have := h1.le (i := p) (j := i - 1) k1 (by omega) (by omega)
  omega
def S2Rel (w0 : World) (g a b i : Nat) (dk : Array Ed) (kv : Value) (wr : World) : Prop := ∃ (k : Nat) (d : Array Ed), kv = .int .i64 k ∧ a ≤ k ∧ k + 1 ≤ i ∧ d.size = dk.size ∧ SW w0 g d wr ∧ PermIn a b dk d ∧ ∀ x, d[x]! = rotF (at' dk) a (a + 1) (k + 1) x
def S3Rel (w0 : World) (g a m : Nat) (dk : Array Ed) (iv jv : Value) (wr : World) : Prop := ∃ i j : Nat, iv = .int .i64 i ∧ jv = .int .i64 j ∧ a ≤ i ∧ i ≤ j ∧ j ≤ m ∧ SW w0 g dk wr ∧ (a < i → key dk (i - 1) ≤ key dk m) ∧ (j < m → key dk m < key dk j)
def S4Rel (w0 : World) (g a b m i : Nat) (dk : Array Ed) (kv : Value) (wr : World) : Prop := ∃ (k : Nat) (d : Array Ed), kv = .int .i64 k ∧ i ≤ k ∧ k ≤ m ∧ d.size = dk.size ∧ SW w0 g d wr ∧ PermIn a b dk d ∧ ∀ x, d[x]! = rotF (at' dk) k m (m + 1) x
def S1Rel (w0 : World) (g a m b : Nat) (dk : Array Ed) (iv jv : Value) (wr : World) : Prop := ∃ i j : Nat, iv = .int .i64 i ∧ jv = .int .i64 j ∧ m ≤ i ∧ i ≤ j ∧ j ≤ b ∧ SW w0 g dk wr ∧ (m < i → key dk (i - 1) < key dk a) ∧ (j < b → key dk a ≤ key dk j)
set_option maxHeartbeats 8000000 in
/-- Where the first list has one element. -/
theorem sym_one (w0 : World) (g cap : Nat) (d0 : Array Ed) (R : Row0 w0 g d0) (h4 : d0.size ≤ 1000000) (a m b : Nat) (dk : Array Ed) (W : World) (h1 : a < m) (h2 : m < b) (h3 : b ≤ dk.size) (hs : dk.size = d0.size) (h : SW w0 g dk W) (k1 : Srt (key dk) a m) (k2 : Srt (key dk) m b) (hc1 : m - a = 1) :
    Calls Try.prog 59 #[.slice (some ⟨g, 0, none⟩) d0.size cap, .int .i64 a, .int .i64 m, .int .i64 b, cmpV] W (SymPost w0 g a b dk) := by
  have hsz9 : (d0.size : Int) ≤ 1000000 := by omega
  have hb9 : (b : Int) ≤ (d0.size : Int) := by omega
  have hm9 : (m : Int) < (b : Int) := by omega
  have ha9 : (a : Int) < (m : Int) := by omega
  have RR := Lib.hid R
  have HS := Lib.hid hs
  have SS := Lib.hid h
  have K1 := Lib.hid k1
  have K2 := Lib.hid k2
  have HB := Lib.hid (show a < m ∧ m < b ∧ b ≤ dk.size ∧ dk.size = d0.size ∧ d0.size ≤ 1000000 from ⟨h1, h2, h3, hs, h4⟩)
  have w1 : IntKind.i64.wrap ((m : Int) - (a : Int)) = (m : Int) - (a : Int) := IntWalk.i64_in _ (by omega)
  have w2 : IntKind.i64.wrap ((b : Int) - (m : Int)) = (b : Int) - (m : Int) := IntWalk.i64_in _ (by omega)
  have hmix : Try.prog.follows .mixedOrders = true := by kernel_rfl
  clear R h4 h k1 k2 hs
  have e1 : ((m : Int) - (a : Int) == 1) = true := by simp; omega
  have HC1 := Lib.hid hc1
  clear h1 h2 h3
  go_enter Try.func59, Try.ntmps59
  go_wp2_with fail
  clear w1 w2 e1
  go_loopw [10, 11] (S1Rel w0 g a m b dk) (fun iv jv _ => (intOf jv).toNat - (intOf iv).toNat)
  case atStart => exact ⟨m, b, rfl, rfl, Nat.le_refl _, by have := HB.out; omega, Nat.le_refl _, SS.out, fun h => absurd h (Nat.lt_irrefl _), fun h => absurd h (Nat.lt_irrefl _)⟩
  case round =>
    obtain ⟨i, j, rfl, rfl, hmi, hij, hjb, hsw, hlo, hhi⟩ := hrel
    by_cases hlt : i < j
    · have hlt9 : (i : Int) < (j : Int) := by omega
      have wij : IntKind.i64.wrap ((i : Int) + (j : Int)) = (i : Int) + (j : Int) := IntWalk.i64_in _ (by have := HB.out; omega)
      obtain ⟨h, hh⟩ : ∃ h : Nat, ((i : Int) + (j : Int)) / 2 = (h : Int) := ⟨(i + j) / 2, by omega⟩
      have hh1 : i ≤ h ∧ h < j := by omega
      have hb := HB.out
      go_upto_region 5 with (fail)
      have hsg := SW.grownCells hsw RR.out HS.out h (by omega)
      have hsg2 := SW.grownCells hsw RR.out HS.out a (by omega)
      have lh0 := fun n os => (hsg n os).1
      have lh1 := fun n os => (hsg n os).2.1
      have lh2 := fun n os => (hsg n os).2.2
      have la0 := fun n os => (hsg2 n os).1
      have la1 := fun n os => (hsg2 n os).2.1
      have la2 := fun n os => (hsg2 n os).2.2
      have hcg := fun n os => cmp_grown dk[h]! dk[a]! wr n os
      have hlt1 : (h : Int) < (d0.size : Int) := by omega
      have hlt2 : (a : Int) < (d0.size : Int) := by omega
      have wh : IntKind.i64.wrap ((h : Int) + 1) = (h : Int) + 1 := IntWalk.i64_in _ (by omega)
      have hkey : cfD dk[h]! dk[a]! < 0 ↔ key dk h < key dk a := cfD_neg _ _
      generalize dk[h]! = x at *
      generalize dk[a]! = y at *
      generalize cfD x y = c at *
      have GR := Lib.hid (fun n os => SWK.grown hsw n os)
      have HCG := Lib.hid hcg
      have HH1 := Lib.hid hh1
      have HR := Lib.hid (And.intro hmi (And.intro hij hjb))
      have HLO := Lib.hid hlo
      have HHI := Lib.hid hhi
      clear hsg hsg2 hcg hsw hb hh hh1 hlo hhi hmi hij hjb wij
      by_cases hc : c < 0
      · have HK := Lib.hid (hkey.1 hc)
        clear hkey
        go_wp2_with fail
        go_quiet_grown (exact HCG.out _ _)
        go_wp2_with fail
        go_roundw
        case rel => exact ⟨h + 1, j, by go_num, rfl, by have := HH1.out; have := HR.out; omega, by have := HH1.out; omega, HR.out.2.2, GR.out _ _, fun _ => by rw [Nat.add_sub_cancel]; exact HK.out, HHI.out⟩
        case measure => have := HH1.out; simp [intOf]; omega
      · have HK := Lib.hid (show ¬ key dk h < key dk a from fun h' => hc (hkey.2 h'))
        clear hkey
        go_wp2_with fail
        go_quiet_grown (exact HCG.out _ _)
        go_wp2_with fail
        go_roundw
        case rel => exact ⟨i, h, rfl, rfl, HR.out.1, HH1.out.1, by have := HH1.out; have := HR.out; omega, GR.out _ _, HLO.out, fun _ => by have := HK.out; omega⟩
        case measure => have := HH1.out; simp [intOf]; omega
    · obtain rfl : i = j := by omega
      have hb := HB.out
      have hm1 : m = a + 1 := by have := HC1.out; omega
      subst hm1
      have hi9 : ((i : Int) - 1) = ((i - 1 : Nat) : Int) := by omega
      have wi : IntKind.i64.wrap ((i : Int) - 1) = ((i - 1 : Nat) : Int) := by rw [IntWalk.i64_in _ (by omega)]; exact hi9
      have HSW := Lib.hid hsw
      have HIB := Lib.hid (And.intro hmi hjb)
      have HLO := Lib.hid hlo
      have HHI := Lib.hid hhi
      clear hsw hlo hhi hij hb hi9 hmi hjb
      go_wp2_with fail
      go_loopw [13] (S2Rel w0 g a b i dk) (fun kv _ => i - (intOf kv).toNat)
      case atStart => exact ⟨a, dk, rfl, Nat.le_refl _, HIB.out.1, rfl, HSW.out, permIn_refl _ _ _, rot_same1 dk a⟩
      case round =>
        obtain ⟨k, d, rfl, hk1, hk2, hz, hsw, hp, hx⟩ := hrel
        have hb := HB.out
        have hib := HIB.out
        by_cases hlt2 : k < i - 1
        · have hlt9 : (k : Int) < ((i - 1 : Nat) : Int) := by omega
          have wk : IntKind.i64.wrap ((k : Int) + 1) = (k : Int) + 1 := IntWalk.i64_in _ (by omega)
          have ek : ((k : Int) + 1).toNat = k + 1 := by omega
          have pk : (0 : Int) ≤ (k : Int) + 1 := by omega
          obtain ⟨c0, c1, c2, z0, z1, z2⟩ := SW.cells hsw RR.out (by rw [hz]; exact HS.out) k (by omega)
          obtain ⟨f0, f1, f2, y0, y1, y2⟩ := SW.cells hsw RR.out (by rw [hz]; exact HS.out) (k + 1) (by omega)
          have bk1 : (k : Int) < (d0.size : Int) := by omega
          have bk2 : (k : Int) + 1 < (d0.size : Int) := by omega
          have hne : k * 3 + 2 < (k + 1) * 3 := by omega
          have SW1 := Lib.hid (SW.swap6 hsw RR.out k (k + 1) (by omega) (by omega))
          have HFIN := Lib.hid (show ∀ W', SW w0 g (swp d k (k + 1)) W' → S2Rel w0 g a b i dk (.int .i64 ((k : Int) + 1)) W' from fun W' q =>
            ⟨k + 1, _, by go_num, by omega, by omega, by rw [size_swp, hz], q, permIn_trans _ _ _ _ _ hp (swp_permIn d a b k (k + 1) hk1 (by omega) (by omega) (by omega) (by omega)), rot1_step hx hk1 (by omega)⟩)
          have HKI := Lib.hid hlt2
          generalize d[k]! = x at *
          generalize d[k + 1]! = y at *
          clear hsw hp hx hb hib hk1 hk2 hz hlt2
          go_wp2_with fail
          go_big_region_o
          obtain ⟨W2, hW2⟩ : ∃ W2, W2 = (ex6 wr g k (k + 1) x y).drew := ⟨_, rfl⟩
          rw [← hW2] at SW1
          unfold ex6 at hW2
          rw [← hW2]
          clear hW2 c0 c1 c2 f0 f1 f2 z0 z1 z2 y0 y1 y2
          go_wp2_with fail
          go_roundw
          case rel => exact HFIN.out _ SW1.out
          case measure => have := HKI.out; simp [intOf]; omega
        · have hki : k + 1 = i := by omega
          have hlt9 : ¬ (k : Int) < ((i - 1 : Nat) : Int) := by omega
          rw [hki] at hx
          have HFIN := Lib.hid (show SymPost w0 g a b dk (.returned (.tuple #[])) wr from ⟨rfl, d, hz, hsw, hp, sym1 K2.out (by omega) (by omega) (by omega) HLO.out HHI.out hz hx hp⟩)
          clear hsw hp hx hb hib hk1 hk2 hz hlt2 hki
          go_wp2_with fail
          go_end0
          exact HFIN.out
end Go.Proofs.Ytgbgpmdhlocjhaa
