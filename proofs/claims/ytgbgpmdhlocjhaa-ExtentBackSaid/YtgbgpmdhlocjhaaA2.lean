/-
  Contracts of SameExtents, CopyExtents, OverExtents, SameInts, rising, among, Pick. No conditions but those that each theorem names.
-/
import Derived.Test.YtgbgpmdhlocjhaaA1
namespace Go.Proofs.Ytgbgpmdhlocjhaa
open Go.RowKit
set_option linter.unusedVariables false
set_option linter.unusedSimpArgs false
set_option maxRecDepth 100000

def CntRel (n : Nat) (w0 : World) (cv : Value) (wr : World) : Prop := ∃ k : Nat, k ≤ n ∧ cv = .int .i64 k ∧ Frm [] w0 wr
set_option maxHeartbeats 1000000 in
theorem SameX_true (v x : Value) (l : List Ex) (sp sp2 : List Value) (w : World) (h1 : SlX w v l sp) (h2 : SlX w x l sp2) (hl : l.length ≤ 1000000) :
    Calls Try.prog 18 #[v, x] w fun e w' => e = .returned (.bool true) ∧ Frm [] w w' := by
  obtain ⟨a, cap, rfl, _, _⟩ := h1.form
  obtain ⟨a2, cap2, rfl, _, _⟩ := h2.form
  have hl9 : ((l.length : Nat) : Int) ≤ 1000000 := by omega
  have H1 := Lib.hid h1
  have H2 := Lib.hid h2
  clear h1 h2 hl
  go_enter Try.func18, Try.ntmps18
  go_wp2_with fail
  go_loopw [5] (CntRel l.length w) (fun cv _ => l.length - (intOf cv).toNat)
  case atStart => exact ⟨0, by omega, rfl, Frm.refl _ _⟩
  case round =>
    obtain ⟨k, hk, rfl, f⟩ := hrel
    by_cases hlt : k < l.length
    · obtain ⟨b0, off, rfl⟩ := H1.out.at (by omega)
      obtain ⟨b1, off1, rfl⟩ := H2.out.at (by omega)
      obtain ⟨c0, c1⟩ := cellsX (H1.out.keep0 f) k hlt
      obtain ⟨d0, d1⟩ := cellsX (H2.out.keep0 f) k hlt
      generalize l[k] = y at *
      have F := Lib.hid f
      clear f
      go_wp2_with fail
      go_quiet (fail)
      go_wp2_with fail
      go_roundw
      case rel => exact ⟨k + 1, by omega, by go_num, F.out.drewN _⟩
      case measure => simp [intOf]; omega
    · obtain rfl : k = l.length := by omega
      have F := Lib.hid f
      clear f
      go_wp2_with fail
      go_ret
      exact ⟨rfl, F.out⟩
set_option maxHeartbeats 1000000 in
theorem SameI_true (v x : Value) (l : List Int) (sp sp2 : List Value) (w : World) (h1 : SlI w v l sp) (h2 : SlI w x l sp2) (hl : l.length ≤ 1000000) :
    Calls Try.prog 17 #[v, x] w fun e w' => e = .returned (.bool true) ∧ Frm [] w w' := by
  obtain ⟨a, cap, rfl, _, _⟩ := h1.form
  obtain ⟨a2, cap2, rfl, _, _⟩ := h2.form
  have hl9 : ((l.length : Nat) : Int) ≤ 1000000 := by omega
  have H1 := Lib.hid h1
  have H2 := Lib.hid h2
  clear h1 h2 hl
  go_enter Try.func17, Try.ntmps17
  go_wp2_with fail
  go_loopw [5] (CntRel l.length w) (fun cv _ => l.length - (intOf cv).toNat)
  case atStart => exact ⟨0, by omega, rfl, Frm.refl _ _⟩
  case round =>
    obtain ⟨k, hk, rfl, f⟩ := hrel
    by_cases hlt : k < l.length
    · obtain ⟨b0, off, rfl⟩ := H1.out.at (by omega)
      obtain ⟨b1, off1, rfl⟩ := H2.out.at (by omega)
      have c0 := cellI (H1.out.keep0 f) k hlt
      have d0 := cellI (H2.out.keep0 f) k hlt
      generalize l[k] = y at *
      have F := Lib.hid f
      clear f
      go_wp2_with fail
      go_quiet (fail)
      go_wp2_with fail
      go_roundw
      case rel => exact ⟨k + 1, by omega, by go_num, F.out.drewN _⟩
      case measure => simp [intOf]; omega
    · obtain rfl : k = l.length := by omega
      have F := Lib.hid f
      clear f
      go_wp2_with fail
      go_ret
      exact ⟨rfl, F.out⟩
/-- What a call tells as one list: new memory. -/
def Told1 (w : World) (l : List Ex) (e : Ending) (w' : World) : Prop := ∃ v sp, e = .returned v ∧ OwnX w' v l sp ∧ Frm [] w w' ∧ ∀ i ∈ blk v, w.heap.size ≤ i
theorem CopyX_any (v : Value) (l : List Ex) (sp : List Value) (w : World) (hS : SlX w v l sp) (hl : l.length ≤ 1000000) : Calls Try.prog 11 #[v] w (Told1 w l) := by
  have o0 : OwnX (w.alloc (.cells #[] 47)) (.slice (some ⟨w.heap.size, 0, none⟩) 0 0) [] [] := OwnE.of_heap encE (heap_alloc_new _ _) rfl (by simp) (by simp) (by simp)
  have f0 : Frm [] w (w.alloc (.cells #[] 47)) := (Frm.refl _ _).alloc _
  have HS := Lib.hid hS
  clear hS
  go_enter Try.func11, Try.ntmps11
  go_wp2_with (at_builtin; refine wpList_append_e encE tysX o0 (HS.out.keep0 f0) (by simp; omega) (by omega) rfl (.tmp 3) (.tmp 4) rfl rfl rfl ?_; intro a' cap' w' sp' o1 f1 b1)
  go_ret
  refine ⟨_, sp', rfl, by simpa using o1, f0.trans f1 (by simp [blk]), fun i hi => ?_⟩
  rcases b1 i (by simpa using hi) with h | h
  · simp [blk] at h; omega
  · simp at h; omega
def OverRel (g n cap : Nat) (sp : List Value) (w0 : World) (cv : Value) (wr : World) : Prop := ∃ (k : Nat) (m : List Ex), k ≤ n ∧ m.length = n ∧ cv = .int .i64 k ∧ OwnX wr (.slice (some ⟨g, 0, none⟩) n cap) m sp ∧ Frm [g] w0 wr
set_option maxHeartbeats 1000000 in
theorem OverX_any (v : Value) (l : List Ex) (sp : List Value) (w : World) (hO : OwnX w v l sp) (hl : l.length ≤ 1000000) :
    Calls Try.prog 23 #[v] w fun e w' => e = .returned (.tuple #[]) ∧ Frm (blk v) w w' := by
  obtain ⟨h1, ⟨rfl, h2, h3⟩ | ⟨g, cap, rfl, h3, h4, h5, h6⟩⟩ := id hO
  · clear hO h1 h3 hl h2
    go_enter Try.func23, Try.ntmps23
    go_wp2_with fail
    refine wp_loop_rounds 1 ?_
    rw [rounds_succ]
    go_wp2
    go_end0
    exact ⟨rfl, Frm.refl _ _⟩
  · have hl9 : ((l.length : Nat) : Int) ≤ 1000000 := by omega
    have HO := Lib.hid hO
    clear hO h1 h6 h5 h3 h4 hl
    go_enter Try.func23, Try.ntmps23
    go_wp2_with fail
    go_loopw [2] (OverRel g l.length cap sp w) (fun cv _ => l.length - (intOf cv).toNat)
    case atStart => exact ⟨0, l, by omega, rfl, rfl, HO.out, Frm.refl _ _⟩
    case round =>
      obtain ⟨k, m, hk, hm, rfl, o, f⟩ := hrel
      by_cases hlt : k < l.length
      · obtain ⟨c0, c1⟩ := cellsX o.sl k (by omega)
        have z0 := frozen_of_heap o.heap (0 + k * 2)
        have z1 := frozen_of_heap o.heap (0 + k * 2 + 1)
        have st1 := OwnE.store encE o k 0 (by omega) (by omega) (-7, m[k].2) (.int .i64 (-7)) rfl
        have hst := OwnE.store encE st1 k 1 (by simp; omega) (by omega) (-7, -7) (.int .i64 (-7)) (by simp [eE])
        simp only [Nat.add_zero] at hst
        rw [Nat.zero_add] at c0 c1 z0 z1
        generalize m[k]'(by omega) = y at *
        have ST := Lib.hid hst
        have F := Lib.hid f
        have HM := Lib.hid hm
        clear hst o f hm st1
        go_wp2_with fail
        exact ⟨⟨k + 1, _, by omega, by simpa using HM.out, by go_num, ST.out, (F.out.setCell _ _ (.inl (by simp))).setCell _ _ (.inl (by simp))⟩, by simp [intOf]; omega⟩
      · obtain rfl : k = l.length := by omega
        have F := Lib.hid f
        clear f o hm
        go_wp2_with fail
        go_end0
        exact ⟨rfl, by simpa [blk] using F.out⟩
theorem inc_lt {l : List Int} (h : Inc l) (k : Nat) (hk : k + 1 < l.length) : l[k] < l[k + 1] := List.pairwise_iff_getElem.1 h k (k + 1) (by omega) hk (by omega)
def RisRel (n : Nat) (w0 : World) (cv : Value) (wr : World) : Prop := ∃ k : Nat, (k + 1 ≤ n ∨ k = 0) ∧ cv = .int .i64 ((k : Int) + 1) ∧ Frm [] w0 wr
set_option maxHeartbeats 1000000 in
theorem rising_true (v : Value) (l : List Int) (sp : List Value) (w : World) (h1 : SlI w v l sp) (hl : l.length ≤ 1000000) (hi : Inc l) :
    Calls Try.prog 37 #[v] w fun e w' => e = .returned (.bool true) ∧ Frm [] w w' := by
  obtain ⟨a, cap, rfl, _, _⟩ := h1.form
  have hl9 : ((l.length : Nat) : Int) ≤ 1000000 := by omega
  have H1 := Lib.hid h1
  have HI := Lib.hid hi
  clear h1 hl hi
  go_enter Try.func37, Try.ntmps37
  go_wp2_with fail
  go_loopw [3] (RisRel l.length w) (fun cv _ => l.length - (intOf cv).toNat)
  case atStart => exact ⟨0, by omega, by go_num, Frm.refl _ _⟩
  case round =>
    obtain ⟨k, hk, rfl, f⟩ := hrel
    have p0 : (0 : Int) ≤ (k : Int) + 1 := by omega
    have e0 : ((k : Int) + 1).toNat = k + 1 := by omega
    have hk8 : (k : Int) ≤ 1000000 := by omega
    have hwp : IntKind.i64.wrap ((k : Int) + 1) = (k : Int) + 1 := IntWalk.i64_in _ (by omega)
    by_cases hlt : k + 1 < l.length
    · obtain ⟨b0, off, rfl⟩ := H1.out.at (by omega)
      have c0 := cellI (H1.out.keep0 f) k (by omega)
      have d0 := cellI (H1.out.keep0 f) (k + 1) hlt
      have hlt' := inc_lt HI.out k hlt
      generalize l[k] = y at *
      generalize l[k + 1] = z at *
      have hzy : ¬ z ≤ y := by omega
      have hk9 : (k : Int) + 1 < (l.length : Int) := by omega
      have F := Lib.hid f
      clear f
      go_wp2_with fail
      go_quiet (fail)
      go_wp2_with fail
      go_roundw
      case rel => exact ⟨k + 1, by omega, by go_num, F.out.drewN _⟩
      case measure => simp [intOf]; omega
    · have hk9 : ¬ (k : Int) + 1 < (l.length : Int) := by omega
      have F := Lib.hid f
      clear f
      go_wp2_with fail
      go_ret
      exact ⟨rfl, F.out⟩
def AmRel (l : List Int) (n : Int) (w0 : World) (cv : Value) (wr : World) : Prop := ∃ k : Nat, k ≤ l.length ∧ (∀ i (h : i < k) (h2 : i < l.length), l[i] ≠ n) ∧ cv = .int .i64 k ∧ Frm [] w0 wr
set_option maxHeartbeats 1000000 in
theorem among_true (v : Value) (l : List Int) (n : Int) (sp : List Value) (w : World) (h1 : SlI w v l sp) (hl : l.length ≤ 1000000) (hn : n ∈ l) :
    Calls Try.prog 38 #[v, .int .i64 n] w fun e w' => e = .returned (.bool true) ∧ Frm [] w w' := by
  obtain ⟨a, cap, rfl, _, _⟩ := h1.form
  have hl9 : ((l.length : Nat) : Int) ≤ 1000000 := by omega
  have H1 := Lib.hid h1
  have HN := Lib.hid hn
  clear h1 hl hn
  go_enter Try.func38, Try.ntmps38
  go_wp2_with fail
  go_loopw [5] (AmRel l n w) (fun cv _ => l.length - (intOf cv).toNat)
  case atStart => exact ⟨0, by omega, by omega, rfl, Frm.refl _ _⟩
  case round =>
    obtain ⟨k, hk, hno, rfl, f⟩ := hrel
    by_cases hlt : k < l.length
    · obtain ⟨b0, off, rfl⟩ := H1.out.at (by omega)
      have c0 := cellI (H1.out.keep0 f) k (by omega)
      have F := Lib.hid f
      by_cases he : l[k] = n
      · rw [he] at c0
        clear f hno he
        go_wp2_with fail
        go_ret
        exact ⟨rfl, F.out⟩
      · have hno' : ∀ i (h : i < k + 1) (h2 : i < l.length), l[i] ≠ n := fun i h h2 => by
          rcases Nat.lt_or_ge i k with h | h
          · exact hno i h h2
          · obtain rfl : i = k := by omega
            exact he
        have HNO := Lib.hid hno'
        have hb : (l[k] == n) = false := by simpa using he
        clear f hno hno'
        generalize l[k] = y at *
        go_wp2_with fail
        go_roundw
        case rel => exact ⟨k + 1, by omega, HNO.out, by go_num, F.out⟩
        case measure => simp [intOf]; omega
    · exfalso
      obtain ⟨i, hi, he⟩ := List.getElem_of_mem HN.out
      exact hno i (by omega) hi he
def pick (x n : Int) : Int := if x.tmod n < 0 then x.tmod n + n else x.tmod n
theorem pick_range (x n : Int) (hn : 0 < n) : 0 ≤ pick x n ∧ pick x n < n := by
  unfold pick
  have h1 := Int.tmod_lt_of_pos x hn
  have h2 := Int.lt_tmod_of_pos x hn
  split <;> omega
set_option maxHeartbeats 1000000 in
theorem Pick_any (x : Int) (hx : (Lit.int .i64 x).wf = true) (w : World) : Calls Try.prog 39 #[.int .i64 x, .int .i64 4201] w fun e w' => e = .returned (.int .i64 (pick x 4201)) ∧ w' = w := by
  have h1 := Int.tmod_lt_of_pos x (show (0 : Int) < 4201 by decide)
  have h2 := Int.lt_tmod_of_pos x (show (0 : Int) < 4201 by decide)
  have hw : IntKind.i64.wrap (x.tmod 4201) = x.tmod 4201 := IntWalk.i64_in _ (by omega)
  have hw4 : IntKind.i64.wrap (x.tmod 4201 + 4201) = x.tmod 4201 + 4201 := IntWalk.i64_in _ (by omega)
  have HP := Lib.hid (show pick x 4201 = if x.tmod 4201 < 0 then x.tmod 4201 + 4201 else x.tmod 4201 from rfl)
  go_enter Try.func39, Try.ntmps39
  go_wp2
  all_goals
    go_ret
    refine ⟨?_, rfl⟩
    rw [HP.out]
    simp
    intro h
    omega
end Go.Proofs.Ytgbgpmdhlocjhaa
