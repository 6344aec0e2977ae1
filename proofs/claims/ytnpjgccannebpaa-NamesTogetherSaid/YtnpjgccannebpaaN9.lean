/-
  The walks of the laws NamesBack and NamesTogether. No conditions but those that each theorem names.
-/
import Derived.Test.YtnpjgccannebpaaN8
namespace Go.Proofs.Ytnpjgccannebpaa
open Go.RowKit
set_option linter.unusedVariables false
set_option linter.unusedSimpArgs false
set_option maxRecDepth 100000

theorem part_c (s : ByteArray) (b : Bool) (h : partS s = b) : C1 13 #[.string s] b := fun W => by subst h; exact Part_any s W
theorem part_size {s : ByteArray} (h : partS s = true) : s.size ≤ 20 := by
  have := part_length h; rw [← Lib.size_eq] at this; exact this
theorem join_size {v p : ByteArray} (h : joins v p = true) : (joinS v p).size ≤ 1000 := by
  have h0 := h
  unfold joins at h0
  simp only [Bool.and_eq_true] at h0
  have h1 := part_size h0.1
  have h2 := part_size h0.2
  unfold joinS
  rw [if_pos h, sB_size, List.length_append, List.length_cons, ← Lib.size_eq, ← Lib.size_eq]
  omega
theorem split_yes {v p : ByteArray} (h : joins v p = true) : splitsB (joinS v p) v p true = true := by
  obtain ⟨h1, h2, h3⟩ := join_back h
  unfold splitsB
  rw [h1, h2, h3]
  simp
set_option maxHeartbeats 16000000 in
theorem back_law (v p s : ByteArray) (w : World) : Calls Try.prog 5 #[.string v, .string p, .string s] w (Yes w) := by
  have HK := Lib.hid (fun W => known_any W)
  unfold Yes at HK
  have F := Lib.hid (Frm.refl [] w)
  by_cases ha : (100 : Int) < (v.size : Int) ∨ (100 : Int) < (p.size : Int) ∨ (100 : Int) < (s.size : Int)
  · have ha' : (100 : Int) < (v.size : Int) ∨ (¬ (100 : Int) < (v.size : Int) ∧ (100 : Int) < (p.size : Int)) ∨ (¬ (100 : Int) < (v.size : Int) ∧ ¬ (100 : Int) < (p.size : Int) ∧ (100 : Int) < (s.size : Int)) := by omega
    clear ha
    rcases ha' with h1 | ⟨h1, h2⟩ | ⟨h1, h2, h3⟩
    all_goals
      go_enter Try.func5, Try.ntmps5
      go_wp2_with (go_at_call 4; refine (HK.out _).mono ?_; rintro e w2 ⟨rfl, f2⟩; replace F := Lib.hid (F.out.trans f2 (by simp)); clear f2)
      go_ret
      exact ⟨rfl, F.out⟩
  · obtain ⟨h1, h2, h3⟩ : ¬ (100 : Int) < (v.size : Int) ∧ ¬ (100 : Int) < (p.size : Int) ∧ ¬ (100 : Int) < (s.size : Int) := by omega
    clear ha
    have s1 : s.size ≤ 1000 := by omega
    have HJ := Lib.hid (join_c v p _ _ rfl rfl)
    have HPV := Lib.hid (part_c v _ rfl)
    have HPP := Lib.hid (part_c p _ rfl)
    have HS := Lib.hid (fun W => Split_any s s1 W)
    have HSS := Lib.hid (snap_c s _ s1 rfl)
    have HVS := Lib.hid (vol_c s _ rfl)
    unfold SplE at HS
    have YJ := Lib.hid (show joins v p = true → C1 21 #[.string (joinS v p), .string v, .string p, .bool true] true ∧ C1 17 #[.string (joinS v p)] true ∧ C1 15 #[.string (joinS v p)] false ∧ C1 19 #[.string v, .string (joinS v p)] true from fun h => by
      have hz := join_size h
      exact ⟨splits_c _ v p true true hz (split_yes h), snap_c _ true hz (join_back h).1, vol_c _ false (snap_part (join_back h).1), less_c v _ true (by omega) hz (less_join h)⟩)
    have YS := Lib.hid (show snapS s = true → (∀ W, Calls Try.prog 11 #[.string (spl1 s), .string (spl2 s)] W fun e w' => e = .returned (.tuple #[.string s, .bool true]) ∧ Frm [] W w') ∧ C1 15 #[.string (spl1 s)] true ∧ C1 13 #[.string (spl2 s)] true ∧ partS s = false from fun h => by
      obtain ⟨b1, b2, b3, b4⟩ := snap_back h
      exact ⟨join_c _ _ s true b2 b1, vol_c _ true b3, part_c _ true b4, snap_part h⟩)
    have NS := Lib.hid (show snapS s = false → spl1 s = ⟨#[]⟩ ∧ spl2 s = ⟨#[]⟩ from fun h => by unfold spl1 spl2; rw [h]; exact ⟨rfl, rfl⟩)
    unfold C1 at *
    unfold joins at *
    generalize joinS v p = J at *
    generalize partS v = x at *
    generalize partS p = y at *
    generalize spl1 s = A at *
    generalize spl2 s = B at *
    generalize snapS s = c at *
    generalize partS s = z at *
    clear s1
    cases c with
    | true =>
      obtain ⟨HJ2, HVA, HPB, hz⟩ := YS.out rfl
      subst hz
      replace HJ2 := Lib.hid HJ2
      replace HVA := Lib.hid HVA
      replace HPB := Lib.hid HPB
      clear YS NS
      cases x <;> cases y
      case true.true =>
        obtain ⟨Y1, Y2, Y3, Y4⟩ := YJ.out rfl
        replace Y1 := Lib.hid Y1
        replace Y2 := Lib.hid Y2
        replace Y3 := Lib.hid Y3
        replace Y4 := Lib.hid Y4
        clear YJ
        go_enter Try.func5, Try.ntmps5
        go_wp2_with (first
          | (go_at_call 4; refine (HK.out _).mono ?_; rintro e w2 ⟨rfl, f2⟩; replace F := Lib.hid (F.out.trans f2 (by simp)); clear f2)
          | (go_at_call 11; with_reducible refine Calls.mono (HJ.out _) ?_; rintro e w2 ⟨rfl, f2⟩; replace F := Lib.hid (F.out.trans f2 (by simp)); clear f2)
          | (go_at_call 11; with_reducible refine Calls.mono (HJ2.out _) ?_; rintro e w2 ⟨rfl, f2⟩; replace F := Lib.hid (F.out.trans f2 (by simp)); clear f2)
          | (go_at_call 21; with_reducible refine Calls.mono (Y1.out _) ?_; rintro e w2 ⟨rfl, f2⟩; replace F := Lib.hid (F.out.trans f2 (by simp)); clear f2)
          | (go_at_call 17; with_reducible refine Calls.mono (Y2.out _) ?_; rintro e w2 ⟨rfl, f2⟩; replace F := Lib.hid (F.out.trans f2 (by simp)); clear f2)
          | (go_at_call 17; with_reducible refine Calls.mono (HSS.out _) ?_; rintro e w2 ⟨rfl, f2⟩; replace F := Lib.hid (F.out.trans f2 (by simp)); clear f2)
          | (go_at_call 15; with_reducible refine Calls.mono (Y3.out _) ?_; rintro e w2 ⟨rfl, f2⟩; replace F := Lib.hid (F.out.trans f2 (by simp)); clear f2)
          | (go_at_call 15; with_reducible refine Calls.mono (HVS.out _) ?_; rintro e w2 ⟨rfl, f2⟩; replace F := Lib.hid (F.out.trans f2 (by simp)); clear f2)
          | (go_at_call 15; with_reducible refine Calls.mono (HVA.out _) ?_; rintro e w2 ⟨rfl, f2⟩; replace F := Lib.hid (F.out.trans f2 (by simp)); clear f2)
          | (go_at_call 19; with_reducible refine Calls.mono (Y4.out _) ?_; rintro e w2 ⟨rfl, f2⟩; replace F := Lib.hid (F.out.trans f2 (by simp)); clear f2)
          | (go_at_call 9; refine (HS.out _).mono ?_; rintro e w2 ⟨rfl, f2⟩; replace F := Lib.hid (F.out.trans f2 (by simp)); clear f2)
          | (go_at_call 13; with_reducible refine Calls.mono (HPV.out _) ?_; rintro e w2 ⟨rfl, f2⟩; replace F := Lib.hid (F.out.trans f2 (by simp)); clear f2)
          | (go_at_call 13; with_reducible refine Calls.mono (HPP.out _) ?_; rintro e w2 ⟨rfl, f2⟩; replace F := Lib.hid (F.out.trans f2 (by simp)); clear f2)
          | (go_at_call 13; with_reducible refine Calls.mono (HPB.out _) ?_; rintro e w2 ⟨rfl, f2⟩; replace F := Lib.hid (F.out.trans f2 (by simp)); clear f2))
        go_ret
        exact ⟨by simp, F.out⟩
      all_goals
        clear YJ
        go_enter Try.func5, Try.ntmps5
        go_wp2_with (first
          | (go_at_call 4; refine (HK.out _).mono ?_; rintro e w2 ⟨rfl, f2⟩; replace F := Lib.hid (F.out.trans f2 (by simp)); clear f2)
          | (go_at_call 11; with_reducible refine Calls.mono (HJ.out _) ?_; rintro e w2 ⟨rfl, f2⟩; replace F := Lib.hid (F.out.trans f2 (by simp)); clear f2)
          | (go_at_call 11; with_reducible refine Calls.mono (HJ2.out _) ?_; rintro e w2 ⟨rfl, f2⟩; replace F := Lib.hid (F.out.trans f2 (by simp)); clear f2)
          | (go_at_call 17; with_reducible refine Calls.mono (HSS.out _) ?_; rintro e w2 ⟨rfl, f2⟩; replace F := Lib.hid (F.out.trans f2 (by simp)); clear f2)
          | (go_at_call 15; with_reducible refine Calls.mono (HVS.out _) ?_; rintro e w2 ⟨rfl, f2⟩; replace F := Lib.hid (F.out.trans f2 (by simp)); clear f2)
          | (go_at_call 15; with_reducible refine Calls.mono (HVA.out _) ?_; rintro e w2 ⟨rfl, f2⟩; replace F := Lib.hid (F.out.trans f2 (by simp)); clear f2)
          | (go_at_call 9; refine (HS.out _).mono ?_; rintro e w2 ⟨rfl, f2⟩; replace F := Lib.hid (F.out.trans f2 (by simp)); clear f2)
          | (go_at_call 13; with_reducible refine Calls.mono (HPV.out _) ?_; rintro e w2 ⟨rfl, f2⟩; replace F := Lib.hid (F.out.trans f2 (by simp)); clear f2)
          | (go_at_call 13; with_reducible refine Calls.mono (HPP.out _) ?_; rintro e w2 ⟨rfl, f2⟩; replace F := Lib.hid (F.out.trans f2 (by simp)); clear f2)
          | (go_at_call 13; with_reducible refine Calls.mono (HPB.out _) ?_; rintro e w2 ⟨rfl, f2⟩; replace F := Lib.hid (F.out.trans f2 (by simp)); clear f2))
        go_ret
        exact ⟨by simp, F.out⟩
    | false =>
      obtain ⟨rfl, rfl⟩ := NS.out rfl
      clear YS NS
      cases x <;> cases y
      case true.true =>
        obtain ⟨Y1, Y2, Y3, Y4⟩ := YJ.out rfl
        replace Y1 := Lib.hid Y1
        replace Y2 := Lib.hid Y2
        replace Y3 := Lib.hid Y3
        replace Y4 := Lib.hid Y4
        clear YJ
        go_enter Try.func5, Try.ntmps5
        go_wp2_with (first
          | (go_at_call 4; refine (HK.out _).mono ?_; rintro e w2 ⟨rfl, f2⟩; replace F := Lib.hid (F.out.trans f2 (by simp)); clear f2)
          | (go_at_call 11; with_reducible refine Calls.mono (HJ.out _) ?_; rintro e w2 ⟨rfl, f2⟩; replace F := Lib.hid (F.out.trans f2 (by simp)); clear f2)
          | (go_at_call 21; with_reducible refine Calls.mono (Y1.out _) ?_; rintro e w2 ⟨rfl, f2⟩; replace F := Lib.hid (F.out.trans f2 (by simp)); clear f2)
          | (go_at_call 17; with_reducible refine Calls.mono (Y2.out _) ?_; rintro e w2 ⟨rfl, f2⟩; replace F := Lib.hid (F.out.trans f2 (by simp)); clear f2)
          | (go_at_call 17; with_reducible refine Calls.mono (HSS.out _) ?_; rintro e w2 ⟨rfl, f2⟩; replace F := Lib.hid (F.out.trans f2 (by simp)); clear f2)
          | (go_at_call 15; with_reducible refine Calls.mono (Y3.out _) ?_; rintro e w2 ⟨rfl, f2⟩; replace F := Lib.hid (F.out.trans f2 (by simp)); clear f2)
          | (go_at_call 19; with_reducible refine Calls.mono (Y4.out _) ?_; rintro e w2 ⟨rfl, f2⟩; replace F := Lib.hid (F.out.trans f2 (by simp)); clear f2)
          | (go_at_call 9; refine (HS.out _).mono ?_; rintro e w2 ⟨rfl, f2⟩; replace F := Lib.hid (F.out.trans f2 (by simp)); clear f2)
          | (go_at_call 13; with_reducible refine Calls.mono (HPV.out _) ?_; rintro e w2 ⟨rfl, f2⟩; replace F := Lib.hid (F.out.trans f2 (by simp)); clear f2)
          | (go_at_call 13; with_reducible refine Calls.mono (HPP.out _) ?_; rintro e w2 ⟨rfl, f2⟩; replace F := Lib.hid (F.out.trans f2 (by simp)); clear f2))
        go_ret
        exact ⟨by simp, F.out⟩
      all_goals
        clear YJ
        go_enter Try.func5, Try.ntmps5
        go_wp2_with (first
          | (go_at_call 4; refine (HK.out _).mono ?_; rintro e w2 ⟨rfl, f2⟩; replace F := Lib.hid (F.out.trans f2 (by simp)); clear f2)
          | (go_at_call 11; with_reducible refine Calls.mono (HJ.out _) ?_; rintro e w2 ⟨rfl, f2⟩; replace F := Lib.hid (F.out.trans f2 (by simp)); clear f2)
          | (go_at_call 17; with_reducible refine Calls.mono (HSS.out _) ?_; rintro e w2 ⟨rfl, f2⟩; replace F := Lib.hid (F.out.trans f2 (by simp)); clear f2)
          | (go_at_call 9; refine (HS.out _).mono ?_; rintro e w2 ⟨rfl, f2⟩; replace F := Lib.hid (F.out.trans f2 (by simp)); clear f2)
          | (go_at_call 13; with_reducible refine Calls.mono (HPV.out _) ?_; rintro e w2 ⟨rfl, f2⟩; replace F := Lib.hid (F.out.trans f2 (by simp)); clear f2)
          | (go_at_call 13; with_reducible refine Calls.mono (HPP.out _) ?_; rintro e w2 ⟨rfl, f2⟩; replace F := Lib.hid (F.out.trans f2 (by simp)); clear f2))
        go_ret
        exact ⟨by simp, F.out⟩
set_option maxHeartbeats 8000000 in
theorem together_law (v p s : ByteArray) (w : World) : Calls Try.prog 7 #[.string v, .string p, .string s] w (Yes w) := by
  have HK := Lib.hid (fun W => awake_any W)
  unfold Yes at HK
  have F := Lib.hid (Frm.refl [] w)
  have HJ := Lib.hid (join_c v p _ _ rfl rfl)
  by_cases hs : (100 : Int) < (s.size : Int)
  · go_enter Try.func7, Try.ntmps7
    go_wp2_with (first
      | (go_at_call 8; refine (HK.out _).mono ?_; rintro e w2 ⟨rfl, f2⟩; replace F := Lib.hid (F.out.trans f2 (by simp)); clear f2)
      | (go_at_call 11; with_reducible refine Calls.mono (HJ.out _) ?_; rintro e w2 ⟨rfl, f2⟩; replace F := Lib.hid (F.out.trans f2 (by simp)); clear f2))
    go_ret
    exact ⟨rfl, F.out⟩
  · have s1 : s.size ≤ 1000 := by omega
    cases hj : joins v p with
    | false =>
      rw [hj] at HJ
      clear hj s1
      go_enter Try.func7, Try.ntmps7
      go_wp2_with (first
        | (go_at_call 8; refine (HK.out _).mono ?_; rintro e w2 ⟨rfl, f2⟩; replace F := Lib.hid (F.out.trans f2 (by simp)); clear f2)
        | (go_at_call 11; with_reducible refine Calls.mono (HJ.out _) ?_; rintro e w2 ⟨rfl, f2⟩; replace F := Lib.hid (F.out.trans f2 (by simp)); clear f2))
      go_ret
      exact ⟨rfl, F.out⟩
    | true =>
      have hz := join_size hj
      have hv : v.size ≤ 20 := part_size (by unfold joins at hj; simp only [Bool.and_eq_true] at hj; exact hj.1)
      have HL1 := Lib.hid (less_c s v _ s1 (by omega) rfl)
      have HL2 := Lib.hid (less_c s (joinS v p) _ s1 hz rfl)
      have HT := Lib.hid (fun h1 h2 => together (v := v) (p := p) (s := s) hj h1 h2)
      rw [hj] at HJ
      unfold C1 at HL1 HL2
      generalize joinS v p = J at *
      generalize lessS s v = l1 at *
      generalize lessS s J = l2 at *
      clear hj hz s1
      have hvI : (v.size : Int) ≤ 20 := by omega
      cases l1 with
      | true =>
        clear HT
        go_enter Try.func7, Try.ntmps7
        go_wp2_with (first
          | (go_at_call 8; refine (HK.out _).mono ?_; rintro e w2 ⟨rfl, f2⟩; replace F := Lib.hid (F.out.trans f2 (by simp)); clear f2)
          | (go_at_call 11; with_reducible refine Calls.mono (HJ.out _) ?_; rintro e w2 ⟨rfl, f2⟩; replace F := Lib.hid (F.out.trans f2 (by simp)); clear f2)
          | (go_at_call 19; with_reducible refine Calls.mono (HL1.out _) ?_; rintro e w2 ⟨rfl, f2⟩; replace F := Lib.hid (F.out.trans f2 (by simp)); clear f2))
        go_ret
        exact ⟨rfl, F.out⟩
      | false =>
        cases l2 with
        | false =>
          clear HT
          go_enter Try.func7, Try.ntmps7
          go_wp2_with (first
            | (go_at_call 8; refine (HK.out _).mono ?_; rintro e w2 ⟨rfl, f2⟩; replace F := Lib.hid (F.out.trans f2 (by simp)); clear f2)
            | (go_at_call 11; with_reducible refine Calls.mono (HJ.out _) ?_; rintro e w2 ⟨rfl, f2⟩; replace F := Lib.hid (F.out.trans f2 (by simp)); clear f2)
            | (go_at_call 19; with_reducible refine Calls.mono (HL1.out _) ?_; rintro e w2 ⟨rfl, f2⟩; replace F := Lib.hid (F.out.trans f2 (by simp)); clear f2)
            | (go_at_call 19; with_reducible refine Calls.mono (HL2.out _) ?_; rintro e w2 ⟨rfl, f2⟩; replace F := Lib.hid (F.out.trans f2 (by simp)); clear f2))
          go_ret
          exact ⟨rfl, F.out⟩
        | true =>
          have ht := HT.out rfl rfl
          clear HT
          by_cases hsv : s = v
          · subst hsv
            clear ht
            go_enter Try.func7, Try.ntmps7
            go_wp2_with (first
              | (go_at_call 8; refine (HK.out _).mono ?_; rintro e w2 ⟨rfl, f2⟩; replace F := Lib.hid (F.out.trans f2 (by simp)); clear f2)
              | (go_at_call 11; with_reducible refine Calls.mono (HJ.out _) ?_; rintro e w2 ⟨rfl, f2⟩; replace F := Lib.hid (F.out.trans f2 (by simp)); clear f2)
              | (go_at_call 19; with_reducible refine Calls.mono (HL1.out _) ?_; rintro e w2 ⟨rfl, f2⟩; replace F := Lib.hid (F.out.trans f2 (by simp)); clear f2)
              | (go_at_call 19; with_reducible refine Calls.mono (HL2.out _) ?_; rintro e w2 ⟨rfl, f2⟩; replace F := Lib.hid (F.out.trans f2 (by simp)); clear f2))
            go_ret
            exact ⟨by simp, F.out⟩
          · rcases ht with ht | ⟨ht1, ht2⟩
            · exact absurd ht hsv
            · have hq : (s.toList == v.toList) = false := by
                rw [Bool.eq_false_iff]
                intro h
                exact hsv (ba_ext (by rw [← Lib.toList_data, ← Lib.toList_data]; exact beq_iff_eq.1 h))
              rw [← Lib.size_eq, ← Lib.size_eq] at ht1
              have k1 : (v.size : Int) < (s.size : Int) := by omega
              have k2 : ¬ 9223372036854775807 < v.size + 1 := by omega
              have e1 : s.extract 0 (v.size + 1) = v ++ (⟨#[64]⟩ : ByteArray) := by
                rw [ext_front]
                apply ba_ext
                rw [sB_list, Lib.size_eq v, ht2]
                simp
              have E1 := Lib.hid e1
              clear hsv ht2 ht1 hv e1
              go_enter Try.func7, Try.ntmps7
              go_wp2_with (first
                | (go_at_call 8; refine (HK.out _).mono ?_; rintro e w2 ⟨rfl, f2⟩; replace F := Lib.hid (F.out.trans f2 (by simp)); clear f2)
                | (go_at_call 11; with_reducible refine Calls.mono (HJ.out _) ?_; rintro e w2 ⟨rfl, f2⟩; replace F := Lib.hid (F.out.trans f2 (by simp)); clear f2)
                | (go_at_call 19; with_reducible refine Calls.mono (HL1.out _) ?_; rintro e w2 ⟨rfl, f2⟩; replace F := Lib.hid (F.out.trans f2 (by simp)); clear f2)
                | (go_at_call 19; with_reducible refine Calls.mono (HL2.out _) ?_; rintro e w2 ⟨rfl, f2⟩; replace F := Lib.hid (F.out.trans f2 (by simp)); clear f2))
              go_ret
              exact ⟨by simp [E1.out], F.out⟩
end Go.Proofs.Ytnpjgccannebpaa
