/-
  The walks of the laws NamesTells, NamesBack, NamesOrder, NamesTogether. No conditions but those that each theorem names.
-/
import Derived.Test.YtnpjgccannebpaaN7
namespace Go.Proofs.Ytnpjgccannebpaa
open Go.RowKit
set_option linter.unusedVariables false
set_option linter.unusedSimpArgs false
set_option maxRecDepth 100000

theorem RefVolume_any (s : ByteArray) (hs : s.size ≤ 1000) (w : World) : Calls Try.prog 16 #[.string s] w fun e w' => e = .returned (.bool (partS s)) ∧ Frm [] w w' := by
  have HP := Lib.hid (RefPart_any s hs w)
  go_enter Try.func16, Try.ntmps16
  go_wp2_with (go_at_call 14; refine HP.out.mono ?_; rintro e w' ⟨rfl, f⟩; have F := Lib.hid f; clear f)
  go_ret
  exact ⟨rfl, F.out⟩
set_option maxHeartbeats 8000000 in
theorem tells_law (a b : ByteArray) (w : World) : Calls Try.prog 3 #[.string a, .string b] w (Yes w) := by
  have HA := Lib.hid (fun W => awake_any W)
  unfold Yes at HA
  by_cases ha : (100 : Int) < (a.size : Int)
  · go_enter Try.func3, Try.ntmps3
    go_wp2_with (go_at_call 8; refine (HA.out _).mono ?_; rintro e w2 ⟨rfl, f2⟩; have F := Lib.hid f2; clear f2)
    go_ret
    exact ⟨rfl, F.out⟩
  · by_cases hb : (100 : Int) < (b.size : Int)
    · go_enter Try.func3, Try.ntmps3
      go_wp2_with (go_at_call 8; refine (HA.out _).mono ?_; rintro e w2 ⟨rfl, f2⟩; have F := Lib.hid f2; clear f2)
      go_ret
      exact ⟨rfl, F.out⟩
    · have a1 : a.size ≤ 1000 := by omega
      have b1 : b.size ≤ 1000 := by omega
      have H9 := Lib.hid (fun W => Split_any a a1 W)
      have H10 := Lib.hid (fun W => RefSplit_any a a1 W)
      have H11 := Lib.hid (fun W => Join_any a b W)
      have H12 := Lib.hid (fun W => RefJoin_any a b a1 b1 W)
      have H13 := Lib.hid (fun W => Part_any a W)
      have H14 := Lib.hid (fun W => RefPart_any a a1 W)
      have H15 := Lib.hid (fun W => Volume_any a W)
      have H16 := Lib.hid (fun W => RefVolume_any a a1 W)
      have H17 := Lib.hid (fun W => Snapshot_any a a1 W)
      have H18 := Lib.hid (fun W => RefSnapshot_any a a1 W)
      have H19 := Lib.hid (fun W => Less_any a b a1 b1 W)
      have H20 := Lib.hid (fun W => RefLess_any a b a1 b1 W)
      unfold SplE at H9 H10
      unfold JoiE at H11 H12
      have F := Lib.hid (Frm.refl [] w)
      clear a1 b1
      generalize spl1 a = s1 at *
      generalize spl2 a = s2 at *
      generalize snapS a = s3 at *
      generalize joinS a b = j1 at *
      generalize joins a b = j2 at *
      generalize partS a = x at *
      generalize lessS a b = y at *
      go_enter Try.func3, Try.ntmps3
      go_wp2_with (first
        | (go_at_call 9; refine (H9.out _).mono ?_; rintro e w2 ⟨rfl, f2⟩; replace F := Lib.hid (F.out.trans f2 (by simp)); clear f2)
        | (go_at_call 10; refine (H10.out _).mono ?_; rintro e w2 ⟨rfl, f2⟩; replace F := Lib.hid (F.out.trans f2 (by simp)); clear f2)
        | (go_at_call 11; refine (H11.out _).mono ?_; rintro e w2 ⟨rfl, f2⟩; replace F := Lib.hid (F.out.trans f2 (by simp)); clear f2)
        | (go_at_call 12; refine (H12.out _).mono ?_; rintro e w2 ⟨rfl, f2⟩; replace F := Lib.hid (F.out.trans f2 (by simp)); clear f2)
        | (go_at_call 13; refine (H13.out _).mono ?_; rintro e w2 ⟨rfl, f2⟩; replace F := Lib.hid (F.out.trans f2 (by simp)); clear f2)
        | (go_at_call 14; refine (H14.out _).mono ?_; rintro e w2 ⟨rfl, f2⟩; replace F := Lib.hid (F.out.trans f2 (by simp)); clear f2)
        | (go_at_call 15; refine (H15.out _).mono ?_; rintro e w2 ⟨rfl, f2⟩; replace F := Lib.hid (F.out.trans f2 (by simp)); clear f2)
        | (go_at_call 16; refine (H16.out _).mono ?_; rintro e w2 ⟨rfl, f2⟩; replace F := Lib.hid (F.out.trans f2 (by simp)); clear f2)
        | (go_at_call 17; refine (H17.out _).mono ?_; rintro e w2 ⟨rfl, f2⟩; replace F := Lib.hid (F.out.trans f2 (by simp)); clear f2)
        | (go_at_call 18; refine (H18.out _).mono ?_; rintro e w2 ⟨rfl, f2⟩; replace F := Lib.hid (F.out.trans f2 (by simp)); clear f2)
        | (go_at_call 19; refine (H19.out _).mono ?_; rintro e w2 ⟨rfl, f2⟩; replace F := Lib.hid (F.out.trans f2 (by simp)); clear f2)
        | (go_at_call 20; refine (H20.out _).mono ?_; rintro e w2 ⟨rfl, f2⟩; replace F := Lib.hid (F.out.trans f2 (by simp)); clear f2)
        | (go_at_call 8; refine (HA.out _).mono ?_; rintro e w2 ⟨rfl, f2⟩; replace F := Lib.hid (F.out.trans f2 (by simp)); clear f2))
      go_ret
      exact ⟨by simp, F.out⟩
set_option maxHeartbeats 8000000 in
theorem order_law (a b c : ByteArray) (w : World) : Calls Try.prog 6 #[.string a, .string b, .string c] w (Yes w) := by
  have HK := Lib.hid (fun W => known_any W)
  unfold Yes at HK
  have F := Lib.hid (Frm.refl [] w)
  by_cases ha : (100 : Int) < (a.size : Int) ∨ (100 : Int) < (b.size : Int) ∨ (100 : Int) < (c.size : Int)
  · have ha' : (100 : Int) < (a.size : Int) ∨ (¬ (100 : Int) < (a.size : Int) ∧ (100 : Int) < (b.size : Int)) ∨ (¬ (100 : Int) < (a.size : Int) ∧ ¬ (100 : Int) < (b.size : Int) ∧ (100 : Int) < (c.size : Int)) := by omega
    clear ha
    rcases ha' with h1 | ⟨h1, h2⟩ | ⟨h1, h2, h3⟩
    all_goals
      go_enter Try.func6, Try.ntmps6
      go_wp2_with (go_at_call 4; refine (HK.out _).mono ?_; rintro e w2 ⟨rfl, f2⟩; replace F := Lib.hid (F.out.trans f2 (by simp)); clear f2)
      go_ret
      exact ⟨rfl, F.out⟩
  · obtain ⟨h1, h2, h3⟩ : ¬ (100 : Int) < (a.size : Int) ∧ ¬ (100 : Int) < (b.size : Int) ∧ ¬ (100 : Int) < (c.size : Int) := by omega
    clear ha
    have a1 : a.size ≤ 1000 := by omega
    have b1 : b.size ≤ 1000 := by omega
    have c1 : c.size ≤ 1000 := by omega
    have HAA := Lib.hid (less_c a a false a1 a1 (less_irrefl a))
    have HAB := Lib.hid (less_c a b _ a1 b1 rfl)
    have HBA := Lib.hid (less_c b a _ b1 a1 rfl)
    have HBC := Lib.hid (less_c b c _ b1 c1 rfl)
    have HAC := Lib.hid (less_c a c _ a1 c1 rfl)
    have HT := Lib.hid (fun (h : lessS a b = true) (k : lessS b c = true) => less_trans h k)
    unfold C1 at HAA HAB HBA HBC HAC
    cases hx : lessS a b with
    | true =>
      have hy := less_asymm hx
      have hq : (a.toList == b.toList) = false := by
        rw [Bool.eq_false_iff]
        intro h
        have : a = b := ba_ext (by rw [← Lib.toList_data, ← Lib.toList_data]; exact beq_iff_eq.1 h)
        subst this
        rw [less_irrefl] at hx; cases hx
      rw [hx] at HAB HT
      rw [hy] at HBA
      clear hx hy a1 b1 c1
      generalize lessS a c = t at *
      cases hz : lessS b c with
      | true =>
        rw [hz] at HBC HT
        have ht := HT.out rfl rfl
        subst ht
        clear hz HT
        go_enter Try.func6, Try.ntmps6
        go_wp2_with (first
          | (go_at_call 4; refine (HK.out _).mono ?_; rintro e w2 ⟨rfl, f2⟩; replace F := Lib.hid (F.out.trans f2 (by simp)); clear f2)
          | (go_at_call 19; with_reducible refine Calls.mono (HAA.out _) ?_; rintro e w2 ⟨rfl, f2⟩; replace F := Lib.hid (F.out.trans f2 (by simp)); clear f2)
          | (go_at_call 19; with_reducible refine Calls.mono (HAB.out _) ?_; rintro e w2 ⟨rfl, f2⟩; replace F := Lib.hid (F.out.trans f2 (by simp)); clear f2)
          | (go_at_call 19; with_reducible refine Calls.mono (HBA.out _) ?_; rintro e w2 ⟨rfl, f2⟩; replace F := Lib.hid (F.out.trans f2 (by simp)); clear f2)
          | (go_at_call 19; with_reducible refine Calls.mono (HBC.out _) ?_; rintro e w2 ⟨rfl, f2⟩; replace F := Lib.hid (F.out.trans f2 (by simp)); clear f2)
          | (go_at_call 19; with_reducible refine Calls.mono (HAC.out _) ?_; rintro e w2 ⟨rfl, f2⟩; replace F := Lib.hid (F.out.trans f2 (by simp)); clear f2))
        go_ret
        exact ⟨rfl, F.out⟩
      | false =>
        rw [hz] at HBC
        clear hz HT
        go_enter Try.func6, Try.ntmps6
        go_wp2_with (first
          | (go_at_call 4; refine (HK.out _).mono ?_; rintro e w2 ⟨rfl, f2⟩; replace F := Lib.hid (F.out.trans f2 (by simp)); clear f2)
          | (go_at_call 19; with_reducible refine Calls.mono (HAA.out _) ?_; rintro e w2 ⟨rfl, f2⟩; replace F := Lib.hid (F.out.trans f2 (by simp)); clear f2)
          | (go_at_call 19; with_reducible refine Calls.mono (HAB.out _) ?_; rintro e w2 ⟨rfl, f2⟩; replace F := Lib.hid (F.out.trans f2 (by simp)); clear f2)
          | (go_at_call 19; with_reducible refine Calls.mono (HBA.out _) ?_; rintro e w2 ⟨rfl, f2⟩; replace F := Lib.hid (F.out.trans f2 (by simp)); clear f2)
          | (go_at_call 19; with_reducible refine Calls.mono (HBC.out _) ?_; rintro e w2 ⟨rfl, f2⟩; replace F := Lib.hid (F.out.trans f2 (by simp)); clear f2))
        go_ret
        exact ⟨rfl, F.out⟩
    | false =>
      rw [hx] at HAB
      cases hy : lessS b a with
      | true =>
        rw [hy] at HBA
        have hq : (a.toList == b.toList) = false := by
          rw [Bool.eq_false_iff]
          intro h
          have : a = b := ba_ext (by rw [← Lib.toList_data, ← Lib.toList_data]; exact beq_iff_eq.1 h)
          subst this
          rw [less_irrefl] at hy; cases hy
        clear hx hy HT HBC HAC a1 b1 c1
        go_enter Try.func6, Try.ntmps6
        go_wp2_with (first
          | (go_at_call 4; refine (HK.out _).mono ?_; rintro e w2 ⟨rfl, f2⟩; replace F := Lib.hid (F.out.trans f2 (by simp)); clear f2)
          | (go_at_call 19; with_reducible refine Calls.mono (HAA.out _) ?_; rintro e w2 ⟨rfl, f2⟩; replace F := Lib.hid (F.out.trans f2 (by simp)); clear f2)
          | (go_at_call 19; with_reducible refine Calls.mono (HAB.out _) ?_; rintro e w2 ⟨rfl, f2⟩; replace F := Lib.hid (F.out.trans f2 (by simp)); clear f2)
          | (go_at_call 19; with_reducible refine Calls.mono (HBA.out _) ?_; rintro e w2 ⟨rfl, f2⟩; replace F := Lib.hid (F.out.trans f2 (by simp)); clear f2))
        go_ret
        exact ⟨rfl, F.out⟩
      | false =>
        have hab := less_tri hx hy
        subst hab
        clear hx hy HT HBC HAC HBA HAB a1 b1 c1
        go_enter Try.func6, Try.ntmps6
        go_wp2_with (first
          | (go_at_call 4; refine (HK.out _).mono ?_; rintro e w2 ⟨rfl, f2⟩; replace F := Lib.hid (F.out.trans f2 (by simp)); clear f2)
          | (go_at_call 19; with_reducible refine Calls.mono (HAA.out _) ?_; rintro e w2 ⟨rfl, f2⟩; replace F := Lib.hid (F.out.trans f2 (by simp)); clear f2))
        go_ret
        exact ⟨rfl, F.out⟩
end Go.Proofs.Ytnpjgccannebpaa
