/-
  Contracts of behind, Check (the program's and the document's), counted and Count. No conditions but those that each theorem names.
-/
import Derived.Test.YtgbgpmdhlocjhaaKX
namespace Go.Proofs.Ytgbgpmdhlocjhaa
open Go.RowKit
set_option linter.unusedVariables false
set_option linter.unusedSimpArgs false
set_option maxRecDepth 100000

theorem behind_any (x : Ex) (w : World) (h : -9223372036854775808 ≤ x.1 + x.2 ∧ x.1 + x.2 ≤ 9223372036854775807) :
    Calls Try.prog 40 #[ev x] w fun e w' => e = .returned (.int .i64 (x.1 + x.2)) ∧ w' = w.alloc (.cells #[.int .i64 x.1, .int .i64 x.2] 47) := by
  have hw : IntKind.i64.wrap (x.1 + x.2) = x.1 + x.2 := IntWalk.i64_in _ (by omega)
  unfold ev
  go_enter Try.func40, Try.ntmps40
  go_wp2
  go_ret
  exact ⟨by simp [hw], rfl⟩
def chkE (l : List Ex) : Int := if okF 0 l then 0 else 2
def ChkRel (l : List Ex) (w0 : World) (a cv : Value) (wr : World) : Prop := ∃ (k : Nat) (q : Int), k ≤ l.length ∧ a = .int .i64 q ∧ 0 ≤ q ∧ q ≤ 4097 ∧ cv = .int .i64 k ∧ okF q (l.drop k) = okF 0 l ∧ Frm [] w0 wr
theorem okF_drop (l : List Ex) (q : Int) (k : Nat) (hk : k < l.length) : okF q (l.drop k) = if l[k].1 < q ∨ l[k].2 < 1 ∨ 4096 - l[k].1 < l[k].2 then false else okF (l[k].1 + l[k].2 + 1) (l.drop (k + 1)) := by
  rw [List.drop_eq_getElem_cons hk, okF]
set_option maxHeartbeats 2000000 in
theorem Check_any (v : Value) (l : List Ex) (sp : List Value) (w : World) (hS : SlX w v l sp) (hl : l.length ≤ 1000000000) (hx : ∀ x ∈ l, -9223372036854775808 ≤ x.1 ∧ x.1 ≤ 9223372036854775807) :
    Calls Try.prog 19 #[v] w fun e w' => e = .returned (.int .i64 (chkE l)) ∧ Frm [] w w' := by
  obtain ⟨a, cap, rfl, _, _⟩ := hS.form
  have hl9 : ((l.length : Nat) : Int) ≤ 1000000000 := by omega
  have HS := Lib.hid hS
  have HX := Lib.hid hx
  clear hS hl hx
  go_enter Try.func19, Try.ntmps19
  go_wp2_with fail
  go_loopw [3, 9] (ChkRel l w) (fun _ cv _ => l.length - (intOf cv).toNat)
  case atStart => exact ⟨0, 0, by omega, rfl, by omega, by omega, rfl, rfl, Frm.refl _ _⟩
  case round =>
    obtain ⟨k, q, hk, rfl, hq0, hq1, rfl, hok, f⟩ := hrel
    by_cases hlt : k < l.length
    · obtain ⟨b0, off, rfl⟩ := HS.out.at (by omega)
      obtain ⟨c0, c1⟩ := cellsX (HS.out.keep0 f) k hlt
      rw [okF_drop l q k hlt] at hok
      have hxb := HX.out l[k] (List.getElem_mem _)
      generalize l[k] = x at *
      have F := Lib.hid f
      by_cases hbad : x.1 < q ∨ x.2 < 1 ∨ 4096 - x.1 < x.2
      · rw [if_pos hbad] at hok
        have HB := Lib.hid hbad
        have HOK := Lib.hid hok
        have e1 : chkE l = 2 := by unfold chkE; rw [← hok]; rfl
        have HE := Lib.hid e1
        clear f hok hbad e1
        by_cases h1 : x.1 < q
        · go_wp2_with fail
          go_ret
          exact ⟨by rw [HE.out]; rfl, F.out.alloc _⟩
        · have hw : IntKind.i64.wrap (4096 - x.1) = 4096 - x.1 := IntWalk.i64_in _ (by omega)
          by_cases h2 : x.2 < 1
          · go_wp2_with fail
            go_ret
            exact ⟨by rw [HE.out]; rfl, F.out.alloc _⟩
          · have h3 : 4096 - x.1 < x.2 := by have := HB.out; omega
            go_wp2_with fail
            go_ret
            exact ⟨by rw [HE.out]; rfl, F.out.alloc _⟩
      · rw [if_neg hbad] at hok
        have h1 : ¬ x.1 < q := by omega
        have h2 : ¬ x.2 < 1 := by omega
        have h3 : ¬ 4096 - x.1 < x.2 := by omega
        have hw : IntKind.i64.wrap (4096 - x.1) = 4096 - x.1 := IntWalk.i64_in _ (by omega)
        have hw1 : IntKind.i64.wrap (x.1 + x.2 + 1) = x.1 + x.2 + 1 := IntWalk.i64_in _ (by omega)
        have HOK := Lib.hid hok
        have HB := Lib.hid hbad
        have HBH := Lib.hid (fun W => behind_any x W (by omega))
        clear f hok hbad
        go_wp2_with (go_at_call 40; refine (HBH.out _).mono ?_; rintro e w' ⟨rfl, rfl⟩)
        go_roundw
        case rel => exact ⟨k + 1, x.1 + x.2 + 1, by omega, by go_num, by omega, by omega, by go_num, HOK.out, (F.out.alloc _).alloc _⟩
        case measure => simp [intOf]; omega
    · obtain rfl : k = l.length := by omega
      rw [List.drop_length] at hok
      have e1 : chkE l = 0 := by unfold chkE; rw [← hok]; rfl
      have HE := Lib.hid e1
      have F := Lib.hid f
      clear f hok e1
      go_wp2_with fail
      go_ret
      exact ⟨by rw [HE.out]; rfl, F.out⟩
set_option maxHeartbeats 2000000 in
theorem RefCheck_any (v : Value) (l : List Ex) (sp : List Value) (w : World) (hS : SlX w v l sp) (hl : l.length ≤ 1000000000) (hx : ∀ x ∈ l, -9223372036854775808 ≤ x.1 ∧ x.1 ≤ 9223372036854775807) :
    Calls Try.prog 20 #[v] w fun e w' => e = .returned (.int .i64 (chkE l)) ∧ Frm [] w w' := by
  obtain ⟨a, cap, rfl, _, _⟩ := hS.form
  have hl9 : ((l.length : Nat) : Int) ≤ 1000000000 := by omega
  have HS := Lib.hid hS
  have HX := Lib.hid hx
  clear hS hl hx
  go_enter Try.func20, Try.ntmps20
  go_wp2_with fail
  go_loopw [3, 4] (ChkRel l w) (fun _ cv _ => l.length - (intOf cv).toNat)
  case atStart => exact ⟨0, 0, by omega, rfl, by omega, by omega, rfl, rfl, Frm.refl _ _⟩
  case round =>
    obtain ⟨k, q, hk, rfl, hq0, hq1, rfl, hok, f⟩ := hrel
    by_cases hlt : k < l.length
    · obtain ⟨b0, off, rfl⟩ := HS.out.at (by omega)
      obtain ⟨c0, c1⟩ := cellsX (HS.out.keep0 f) k hlt
      rw [okF_drop l q k hlt] at hok
      have hxb := HX.out l[k] (List.getElem_mem _)
      generalize l[k] = x at *
      have F := Lib.hid f
      by_cases hbad : x.1 < q ∨ x.2 < 1 ∨ 4096 - x.1 < x.2
      · rw [if_pos hbad] at hok
        have HB := Lib.hid hbad
        have HOK := Lib.hid hok
        have e1 : chkE l = 2 := by unfold chkE; rw [← hok]; rfl
        have HE := Lib.hid e1
        clear f hok hbad e1
        by_cases h1 : x.1 < q
        · go_wp2_with fail
          go_ret
          exact ⟨by rw [HE.out]; rfl, F.out.alloc _⟩
        · have hw : IntKind.i64.wrap (4096 - x.1) = 4096 - x.1 := IntWalk.i64_in _ (by omega)
          by_cases h4 : 4096 ≤ x.1
          · go_wp2_with fail
            go_ret
            exact ⟨by rw [HE.out]; rfl, F.out.alloc _⟩
          by_cases h2 : x.2 < 1
          · go_wp2_with fail
            go_ret
            exact ⟨by rw [HE.out]; rfl, F.out.alloc _⟩
          · have h3 : 4096 - x.1 < x.2 := by have := HB.out; omega
            go_wp2_with fail
            go_ret
            exact ⟨by rw [HE.out]; rfl, F.out.alloc _⟩
      · rw [if_neg hbad] at hok
        have h1 : ¬ x.1 < q := by omega
        have h2 : ¬ x.2 < 1 := by omega
        have h3 : ¬ 4096 - x.1 < x.2 := by omega
        have hw : IntKind.i64.wrap (4096 - x.1) = 4096 - x.1 := IntWalk.i64_in _ (by omega)
        have hw1 : IntKind.i64.wrap (x.1 + x.2 + 1) = x.1 + x.2 + 1 := IntWalk.i64_in _ (by omega)
        have HOK := Lib.hid hok
        have HB := Lib.hid hbad
        have h4 : ¬ 4096 ≤ x.1 := by omega
        have hw2 : IntKind.i64.wrap (x.1 + x.2) = x.1 + x.2 := IntWalk.i64_in _ (by omega)
        clear f hok hbad
        go_wp2_with fail
        go_roundw
        case rel => exact ⟨k + 1, x.1 + x.2 + 1, by omega, by go_num, by omega, by omega, by go_num, HOK.out, F.out.alloc _⟩
        case measure => simp [intOf]; omega
    · obtain rfl : k = l.length := by omega
      rw [List.drop_length] at hok
      have e1 : chkE l = 0 := by unfold chkE; rw [← hok]; rfl
      have HE := Lib.hid e1
      have F := Lib.hid f
      clear f hok e1
      go_wp2_with fail
      go_ret
      exact ⟨by rw [HE.out]; rfl, F.out⟩
def CntERel (l : List Ex) (w0 : World) (a cv : Value) (wr : World) : Prop := ∃ k : Nat, k ≤ l.length ∧ a = .int .i64 (cntE (l.take k)) ∧ cv = .int .i64 k ∧ Frm [] w0 wr
theorem cntE_step (l : List Ex) (k : Nat) (hk : k < l.length) : cntE (l.take (k + 1)) = cntE (l.take k) + l[k].2 := by
  rw [List.take_succ_eq_append_getElem hk]; simp only [cntE, List.map_append, List.sum_append, List.map_cons, List.map_nil, List.sum_cons, List.sum_nil]; omega
theorem Good.take {l : List Ex} (h : Good l) (k : Nat) : Good (l.take k) := by
  have : l.take k ++ l.drop k = l := List.take_append_drop _ _
  rw [← this] at h
  exact h.left
set_option maxHeartbeats 2000000 in
theorem counted_any (v : Value) (l : List Ex) (sp : List Value) (w : World) (hS : SlX w v l sp) (hg : Good l) :
    Calls Try.prog 44 #[v] w fun e w' => e = .returned (.int .i64 (cntE l)) ∧ Frm [] w w' := by
  obtain ⟨a, cap, rfl, _, _⟩ := hS.form
  have hl9 : ((l.length : Nat) : Int) ≤ 5000 := by have := hg.len; omega
  have HS := Lib.hid hS
  have HG := Lib.hid hg
  clear hS hg
  go_enter Try.func44, Try.ntmps44
  go_wp2_with fail
  go_loopw [3, 8] (CntERel l w) (fun _ cv _ => l.length - (intOf cv).toNat)
  case atStart => exact ⟨0, by omega, rfl, rfl, Frm.refl _ _⟩
  case round =>
    obtain ⟨k, hk, rfl, rfl, f⟩ := hrel
    by_cases hlt : k < l.length
    · obtain ⟨b0, off, rfl⟩ := HS.out.at (by omega)
      obtain ⟨c0, c1⟩ := cellsX (HS.out.keep0 f) k hlt
      have hst := cntE_step l k hlt
      have hb := cntE_le (HG.out.take (k + 1))
      have hb0 := cntE_le (HG.out.take k)
      rw [hst] at hb
      generalize l[k] = x at *
      generalize cntE (l.take k) = q at *
      have hw : IntKind.i64.wrap (q + x.2) = q + x.2 := IntWalk.i64_in _ (by omega)
      have HST := Lib.hid hst
      have F := Lib.hid f
      clear f hst
      go_wp2_with fail
      go_roundw
      case rel => exact ⟨k + 1, by omega, by rw [HST.out], by go_num, F.out.alloc _⟩
      case measure => simp [intOf]; omega
    · obtain rfl : k = l.length := by omega
      have F := Lib.hid f
      rw [List.take_length] at *
      clear f
      go_wp2_with fail
      go_ret
      exact ⟨rfl, F.out⟩
/-- What Count tells. -/
def numE (l : List Ex) : Int := if Good l then cntE l else 0
theorem chkE_good {l : List Ex} (h : Good l) : chkE l = 0 := by unfold chkE; rw [good_iff.2 h]; rfl
theorem chkE_bad {l : List Ex} (h : ¬ Good l) : chkE l = 2 := by unfold chkE; rw [good_not.2 h]; rfl
theorem Count_any (v : Value) (l : List Ex) (sp : List Value) (w : World) (hS : SlX w v l sp) (hl : l.length ≤ 1000000000) (hx : ∀ x ∈ l, -9223372036854775808 ≤ x.1 ∧ x.1 ≤ 9223372036854775807) :
    Calls Try.prog 21 #[v] w fun e w' => e = .returned (.int .i64 (numE l)) ∧ Frm [] w w' := by
  have hC := fun W (f : Frm [] w W) => Check_any v l sp W (hS.keep0 f) hl hx
  unfold numE
  by_cases hg : Good l
  · rw [if_pos hg]
    have hN := fun W (f : Frm [] w W) => counted_any v l sp W (hS.keep0 f) hg
    rw [chkE_good hg] at hC
    have HC := Lib.hid hC
    have HN := Lib.hid hN
    clear hC hN hS hx hg hl
    go_enter Try.func21, Try.ntmps21
    go_wp2_with (first
      | (go_at_call 19; refine (HC.out _ (Frm.refl _ _)).mono ?_; rintro e w1 ⟨rfl, f1⟩)
      | (go_at_call 44; refine (HN.out _ f1).mono ?_; rintro e w2 ⟨rfl, f2⟩))
    go_ret
    exact ⟨rfl, f1.trans f2 (by simp)⟩
  · rw [if_neg hg]
    rw [chkE_bad hg] at hC
    have HC := Lib.hid hC
    clear hC hS hx hg hl
    go_enter Try.func21, Try.ntmps21
    go_wp2_with (go_at_call 19; refine (HC.out _ (Frm.refl _ _)).mono ?_; rintro e w1 ⟨rfl, f1⟩)
    go_ret
    exact ⟨rfl, f1⟩
end Go.Proofs.Ytgbgpmdhlocjhaa
