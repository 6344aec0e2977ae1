/-
  Contracts of Empty, of the program and of the answer of the document. No conditions but those that each theorem names.
-/
import Derived.Test.YtjjcjocomanohaaNC
namespace Go.Proofs.Ytjjcjocomanohaa
open Go.RowKit
set_option linter.unusedVariables false
set_option linter.unusedSimpArgs false
set_option maxRecDepth 100000

/-- Are all of a node's pointers holes? -/
def emptyB (n : Nd) : Bool := n.ps.all hole
theorem empty_no {n : Nd} {i : Nat} {p : Pt} (h : n.ps[i]? = some p) (hs : hole p = false) : emptyB n = false := by
  unfold emptyB
  rw [List.all_eq_false]
  exact ⟨p, List.mem_of_getElem? h, by simp [hs]⟩
theorem empty_yes {n : Nd} (h : ∀ (j : Nat) (p : Pt), j < 4 → n.ps[j]? = some p → hole p = true) (h4 : n.ps.length = 4) : emptyB n = true := by
  unfold emptyB
  rw [List.all_eq_true]
  intro p hp
  obtain ⟨i, hi, rfl⟩ := List.getElem_of_mem hp
  exact h i _ (by omega) (List.getElem?_eq_getElem hi)
def HoleRel (ps : List Pt) (w0 : World) (cv : Value) (wr : World) : Prop := ∃ k : Nat, k ≤ 4 ∧ cv = .int .i64 k ∧ (∀ (j : Nat) (p : Pt), j < k → ps[j]? = some p → hole p = true) ∧ Frm [] w0 wr
set_option maxHeartbeats 4000000 in
theorem nodeEmpty_any (x : Value) (n : Nd) (w : World) (hn : NdV w x n) (hl : ∀ p ∈ n.ps, p.ads.length ≤ 1000000) :
    Calls Try.prog 41 #[x] w fun e w' => e = .returned (.bool (emptyB n)) ∧ Frm [] w w' := by
  obtain ⟨N, rfl, hN, As, hps, hb⟩ := hn.box
  have b0 := hb w
  have f0 : Frm [] w (w.alloc (.cells N 51)) := (Frm.refl [] w).alloc _
  have HPS := Lib.hid hps
  have HL := Lib.hid hl
  clear hb hn hl hps
  go_enter Try.func41, Try.ntmps41
  go_upto_region 1 with (fail)
  generalize w.alloc (.cells N 51) = W at *
  have B0 := Lib.hid b0
  have F0 := Lib.hid f0
  clear b0 f0
  go_wp2_with fail
  go_loopw [7] (HoleRel n.ps W) (fun cv _ => 4 - (intOf cv).toNat)
  case atStart => exact ⟨0, by omega, rfl, fun j p hj => by omega, Frm.refl _ _⟩
  case round =>
    obtain ⟨k, hk, rfl, hst, f⟩ := hrel
    have HST := Lib.hid hst
    have Fk := Lib.hid f
    clear hst f
    by_cases hlt : k < 4
    · obtain ⟨A, p, hA, hp, hv⟩ := HPS.out.get hlt
      have hpl := HL.out p (List.mem_of_getElem? hp)
      have hA2 := ptv_size hv
      have HA2 := Lib.hid hA2
      have LD := Lib.hid ((B0.out.keep0 Fk.out).2.load hA)
      have FF := Lib.hid (F0.out.trans Fk.out (by simp))
      have HM := Lib.hid (fun W (f : Frm [] w W) => Hole_any (.agg A) p W (hv.keep0 f) hpl)
      have BX := Lib.hid (ptv_boxed hv wr)
      have HP := Lib.hid hp
      have fa : Frm [] wr (wr.alloc (.cells A 26)) := (Frm.refl [] wr).alloc _
      have FA := Lib.hid fa
      clear hA hp hv hpl hA2 fa
      go_upto_region 4 with (first
        | ((with_reducible (show wpList _ _ _ (Oper.mk _ (Op.load 26 _) _ _ _ _ :: _) _ _)); refine wpList_load_g (by rfl) 26 (.tmp 10) rfl _ rfl LD.out ?_)
        | ((with_reducible (show wpList _ _ _ (Oper.mk _ (Op.alloc 26) _ _ _ _ :: _) _ _)); refine wpList_layA rfl rfl rfl (.tmp 4) (.tmp 11) rfl HA2.out.1 HA2.out.2 rfl rfl ?_))
      generalize wr.alloc (.cells A 26) = V at *
      generalize hsb : hole p = sb at *
      cases sb with
      | true =>
        go_wp2_with (first
          | ((with_reducible (show wpList _ _ _ (Oper.mk _ (Op.load 26 _) _ _ _ _ :: _) _ _)); refine wpList_load_g (by rfl) 26 _ rfl _ rfl BX.out.load ?_)
          | (go_at_call 20; refine (HM.out _ (FF.out.trans FA.out (by simp))).mono ?_; rintro r wn ⟨rfl, fn⟩))
        go_roundw
        case rel => exact ⟨k + 1, by omega, by go_num, fun j p' hj hp' => by
          rcases Nat.lt_or_ge j k with h | h
          · exact HST.out j p' h hp'
          · obtain rfl : j = k := by omega
            rw [HP.out] at hp'
            cases hp'
            exact hsb, Fk.out.trans (FA.out.trans fn (by simp)) (by simp)⟩
        case measure => simp [intOf]; omega
      | false =>
        have H := Lib.hid (empty_no HP.out hsb)
        go_wp2_with (first
          | ((with_reducible (show wpList _ _ _ (Oper.mk _ (Op.load 26 _) _ _ _ _ :: _) _ _)); refine wpList_load_g (by rfl) 26 _ rfl _ rfl BX.out.load ?_)
          | (go_at_call 20; refine (HM.out _ (FF.out.trans FA.out (by simp))).mono ?_; rintro r wn ⟨rfl, fn⟩))
        go_ret
        exact ⟨by rw [H.out]; rfl, FF.out.trans (FA.out.trans fn (by simp)) (by simp)⟩
    · obtain rfl : k = 4 := by omega
      have H := Lib.hid (empty_yes (n := n) HST.out HPS.out.2.1)
      go_wp2_with fail
      go_ret
      exact ⟨by rw [H.out]; rfl, F0.out.trans Fk.out (by simp)⟩
set_option maxHeartbeats 4000000 in
theorem RefEmpty_any (x : Value) (n : Nd) (w : World) (hn : NdV w x n) :
    Calls Try.prog 42 #[x] w fun e w' => e = .returned (.bool (emptyB n)) ∧ Frm [] w w' := by
  obtain ⟨N, rfl, hN, As, hps, hb⟩ := hn.box
  have b0 := hb w
  have f0 : Frm [] w (w.alloc (.cells N 51)) := (Frm.refl [] w).alloc _
  have HPS := Lib.hid hps
  clear hb hn hps
  go_enter Try.func42, Try.ntmps42
  go_upto_region 1 with (fail)
  generalize w.alloc (.cells N 51) = W at *
  have B0 := Lib.hid b0
  have F0 := Lib.hid f0
  clear b0 f0
  go_wp2_with fail
  go_loopw [3] (HoleRel n.ps W) (fun cv _ => 4 - (intOf cv).toNat)
  case atStart => exact ⟨0, by omega, rfl, fun j p hj => by omega, Frm.refl _ _⟩
  case round =>
    obtain ⟨k, hk, rfl, hst, f⟩ := hrel
    have HST := Lib.hid hst
    have Fk := Lib.hid f
    clear hst f
    by_cases hlt : k < 4
    · obtain ⟨A, p, hA, hp, hv⟩ := HPS.out.get hlt
      have LD := Lib.hid ((B0.out.keep0 Fk.out).2.load hA)
      have FF := Lib.hid (F0.out.trans Fk.out (by simp))
      have HM := Lib.hid (fun W (f : Frm [] w W) => RefHole_any (.agg A) p W (hv.keep0 f))
      have HP := Lib.hid hp
      clear hA hp hv
      generalize hsb : hole p = sb at *
      cases sb with
      | true =>
        go_wp2_with (first
          | ((with_reducible (show wpList _ _ _ (Oper.mk _ (Op.load 26 _) _ _ _ _ :: _) _ _)); refine wpList_load_g (by rfl) 26 (.tmp 10) rfl _ rfl LD.out ?_)
          | (go_at_call 21; refine (HM.out _ FF.out).mono ?_; rintro r wn ⟨rfl, fn⟩))
        go_roundw
        case rel => exact ⟨k + 1, by omega, by go_num, fun j p' hj hp' => by
          rcases Nat.lt_or_ge j k with h | h
          · exact HST.out j p' h hp'
          · obtain rfl : j = k := by omega
            rw [HP.out] at hp'
            cases hp'
            exact hsb, Fk.out.trans fn (by simp)⟩
        case measure => simp [intOf]; omega
      | false =>
        have H := Lib.hid (empty_no HP.out hsb)
        go_wp2_with (first
          | ((with_reducible (show wpList _ _ _ (Oper.mk _ (Op.load 26 _) _ _ _ _ :: _) _ _)); refine wpList_load_g (by rfl) 26 (.tmp 10) rfl _ rfl LD.out ?_)
          | (go_at_call 21; refine (HM.out _ FF.out).mono ?_; rintro r wn ⟨rfl, fn⟩))
        go_ret
        exact ⟨by rw [H.out]; rfl, FF.out.trans fn (by simp)⟩
    · obtain rfl : k = 4 := by omega
      have H := Lib.hid (empty_yes (n := n) HST.out HPS.out.2.1)
      go_wp2_with fail
      go_ret
      exact ⟨by rw [H.out]; rfl, F0.out.trans Fk.out (by simp)⟩
end Go.Proofs.Ytjjcjocomanohaa
