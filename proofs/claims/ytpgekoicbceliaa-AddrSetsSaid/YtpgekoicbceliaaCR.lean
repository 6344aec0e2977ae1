/-
  Contracts of rises and within. No conditions but those that each theorem names.
-/
import Derived.Test.YtpgekoicbceliaaPC
import Derived.Test.YtpgekoicbceliaaCQ
namespace Go.Proofs.Ytpgekoicbceliaa
open Go.RowKit Go.Sort Go.Maps
set_option linter.unusedVariables false
set_option linter.unusedSimpArgs false
set_option maxRecDepth 100000

def RiRel (n : Nat) (w0 : World) (cv : Value) (wr : World) : Prop := ∃ k : Nat, (k + 1 ≤ n ∨ k = 0) ∧ cv = .int .i64 ((k : Int) + 1) ∧ Frm [] w0 wr
set_option maxHeartbeats 2000000 in
theorem rises_true (v : Value) (l sp : List Ad) (w : World) (hS : SlA w v l sp) (hl : l.length ≤ 1000) (hr : Rises l) : Calls Try.prog 34 #[v] w (Yes w) := by
  obtain ⟨a, cap, rfl, _, _⟩ := hS.form
  have hl9 : ((l.length : Nat) : Int) ≤ 1000 := by omega
  have l1' : ∀ (x1 x2 y1 y2 : Int) W, Calls Try.prog 11 #[.agg #[.int .i64 x1, .int .i64 x2], .agg #[.int .i64 y1, .int .i64 y2]] W (fun e w' => e = .returned (.bool (ltA (x1, x2) (y1, y2))) ∧ Frm [] W w') := fun x1 x2 y1 y2 W => Less_any (x1, x2) (y1, y2) W
  have L1 := Lib.hid l1'
  have HS := Lib.hid hS
  have HR := Lib.hid hr
  clear hS hr hl l1'
  go_enter Try.func34, Try.ntmps34
  go_wp2_with fail
  go_loopw [3] (RiRel l.length w) (fun cv _ => l.length - (intOf cv).toNat)
  case atStart => exact ⟨0, .inr rfl, rfl, Frm.refl _ _⟩
  case round =>
    obtain ⟨k, hk, rfl, f⟩ := hrel
    by_cases hlt : k + 1 < l.length
    · obtain ⟨b0, off, rfl⟩ := HS.out.at (by omega)
      have hs2 := HS.out.keep f (by simp)
      obtain ⟨c0, c1⟩ := hs2.cells k (by omega)
      obtain ⟨d0, d1⟩ := hs2.cells (k + 1) hlt
      have hlta : ltA (l[k].1, l[k].2) (l[k + 1].1, l[k + 1].2) = true := by
        have := List.pairwise_iff_getElem.1 HR.out k (k + 1) (by omega) hlt (by omega)
        exact this
      generalize l[k]'(by omega) = x at *
      generalize l[k + 1] = y at *
      have e1 : IntKind.i64.wrap (k : Int) = (k : Int) := IntWalk.i64_in _ (by omega)
      have e2 : ((k : Int) + 1).toNat = k + 1 := by omega
      have b1 : (k : Int) < (l.length : Int) := by omega
      have b2 : (k : Int) + 1 < (l.length : Int) := by omega
      have b3 : (0 : Int) ≤ (k : Int) + 1 := by omega
      have F := Lib.hid f
      clear f hs2 hk
      go_wp2_with fail
      refine wp_region_still_tail 9 (by kernel_rfl) (by kernel_rfl) ?_
      simp only [List.take_succ_cons, List.take_zero, List.drop_succ_cons, List.drop_zero]
      change wpStill _ _ (World.drew _) _ _ _
      iterate 9 still_step
      refine wpStill_nil ?_
      change wpList _ _ _ _ _ (World.drew _)
      go_wp2_with fail
      refine (L1.out _ _ _ _ _).mono ?_
      rintro r w1 ⟨rfl, f1⟩
      have F1 := Lib.hid ((F.out.drew).trans f1 (by simp))
      clear f1
      go_wp2_with fail
      go_roundw
      case rel => exact ⟨k + 1, .inl (by omega), by go_num, F1.out⟩
      case measure => simp [intOf]; omega
    · have hb : decide ((k : Int) + 1 < (l.length : Int)) = false := by simp; omega
      have F := Lib.hid f
      clear f hk
      go_wp2_with fail
      go_ret
      exact ⟨rfl, F.out⟩
def WiRel (n : Nat) (w0 : World) (cv : Value) (wr : World) : Prop := ∃ k : Nat, k ≤ n ∧ cv = .int .i64 k ∧ Frm [] w0 wr
set_option maxHeartbeats 2000000 in
theorem within_true (v x : Value) (l m sp msp : List Ad) (w : World) (hS : SlA w v l sp) (hl : l.length ≤ 1000) (hM : SlA w x m msp) (hm : m.length ≤ 1000) (h : ∀ y ∈ l, y ∈ m) : Calls Try.prog 35 #[v, x] w (Yes w) := by
  obtain ⟨a, cap, rfl, _, _⟩ := hS.form
  have hl9 : ((l.length : Nat) : Int) ≤ 1000 := by omega
  have HS := Lib.hid hS
  have HM := Lib.hid hM
  have HH := Lib.hid h
  have HML := Lib.hid hm
  clear hS hM h hl hm
  go_enter Try.func35, Try.ntmps35
  go_wp2_with fail
  go_loopw [5] (WiRel l.length w) (fun cv _ => l.length - (intOf cv).toNat)
  case atStart => exact ⟨0, by omega, rfl, Frm.refl _ _⟩
  case round =>
    obtain ⟨k, hk, rfl, f⟩ := hrel
    by_cases hlt : k < l.length
    · obtain ⟨b0, off, rfl⟩ := HS.out.at (by omega)
      obtain ⟨c0, c1⟩ := (HS.out.keep f (by simp)).cells k hlt
      have hin := HH.out l[k] (List.getElem_mem _)
      generalize l[k] = y at *
      have F := Lib.hid f
      have IN := Lib.hid hin
      clear f hin
      go_wp2_with fail
      refine (Has_yes _ m msp y _ (HM.out.keep F.out (by simp)) HML.out IN.out).mono ?_
      rintro r w1 ⟨rfl, f1⟩
      have F1 := Lib.hid (F.out.trans f1 (by simp))
      clear f1
      go_wp2_with fail
      go_roundw
      case rel => exact ⟨k + 1, by omega, by go_num, F1.out⟩
      case measure => simp [intOf]; omega
    · obtain rfl : k = l.length := by omega
      have F := Lib.hid f
      clear f
      go_wp2_with fail
      go_ret
      exact ⟨rfl, F.out⟩
end Go.Proofs.Ytpgekoicbceliaa
