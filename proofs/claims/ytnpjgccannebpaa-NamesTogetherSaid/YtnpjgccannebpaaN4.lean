/-
  Contracts of Snapshot, Split, Join, and of the document's. No conditions but those that each theorem names.
-/
import Derived.Test.YtnpjgccannebpaaN2
import Derived.Test.YtnpjgccannebpaaN3
import Derived.Deep.Cut
namespace Go.Proofs.Ytnpjgccannebpaa
open Go.RowKit
set_option linter.unusedVariables false
set_option linter.unusedSimpArgs false
set_option maxRecDepth 100000

theorem cutL_len : ∀ l : List UInt8, (cutL l).1.length ≤ l.length ∧ (cutL l).2.1.length ≤ l.length
  | [] => ⟨Nat.le_refl _, Nat.le_refl _⟩
  | c :: r => by
    have ih := cutL_len r
    by_cases hc : c = 64
    · simp [cutL, hc]
    · simp only [cutL, hc, if_false, List.length_cons]; omega
theorem cut1_size (s : ByteArray) : (cut1 s).size ≤ s.size := by unfold cut1; rw [sB_size, Lib.size_eq]; exact (cutL_len _).1
theorem cut2_size (s : ByteArray) : (cut2 s).size ≤ s.size := by unfold cut2; rw [sB_size, Lib.size_eq]; exact (cutL_len _).2
theorem join_form (v p : ByteArray) : v ++ (⟨#[64]⟩ : ByteArray) ++ p = sB (v.data.toList ++ 64 :: p.data.toList) := by
  apply ba_ext
  rw [sB_list]
  simp
set_option maxHeartbeats 1000000 in
theorem Snapshot_any (s : ByteArray) (hs : s.size ≤ 1000) (w : World) : Calls Try.prog 17 #[.string s] w fun e w' => e = .returned (.bool (snapS s)) ∧ Frm [] w w' := by
  rw [snap_eq]
  have HC := Lib.hid (Cut_any s hs w)
  unfold CutE at HC
  have HV := Lib.hid (fun W => Volume_any (cut1 s) W)
  have HP := Lib.hid (fun W => Part_any (cut2 s) W)
  generalize partS (cut1 s) = x at *
  generalize partS (cut2 s) = y at *
  generalize cut1 s = a at *
  generalize cut2 s = b at *
  generalize cutIs s = c at *
  clear hs
  cases x
  all_goals
    go_enter Try.func17, Try.ntmps17
    go_wp2_with (first
      | (go_at_call 22; refine HC.out.mono ?_; rintro e w1 ⟨rfl, f1⟩; have F1 := Lib.hid f1; clear f1)
      | (go_at_call 15; refine (HV.out _).mono ?_; rintro e w2 ⟨rfl, f2⟩; have F2 := Lib.hid (F1.out.trans f2 (by simp)); clear f2)
      | (go_at_call 13; refine (HP.out _).mono ?_; rintro e w3 ⟨rfl, f3⟩; have F3 := Lib.hid (F2.out.trans f3 (by simp)); clear f3))
    go_ret
  · exact ⟨by simp, F2.out⟩
  · exact ⟨by simp, F3.out⟩
def SplE (s : ByteArray) (e : Ending) : Prop := e = .returned (.tuple #[.string (spl1 s), .string (spl2 s), .bool (snapS s)])
set_option maxHeartbeats 1000000 in
theorem Split_any (s : ByteArray) (hs : s.size ≤ 1000) (w : World) : Calls Try.prog 9 #[.string s] w fun e w' => SplE s e ∧ Frm [] w w' := by
  have HS := Lib.hid (Snapshot_any s hs w)
  have HC := Lib.hid (fun W => Cut_any s hs W)
  unfold CutE at HC
  have H1 := Lib.hid (fun W => Clone_any (cut1 s) (Nat.le_trans (cut1_size s) hs) W)
  have H2 := Lib.hid (fun W => Clone_any (cut2 s) (Nat.le_trans (cut2_size s) hs) W)
  unfold SplE spl1 spl2
  generalize cut1 s = a at *
  generalize cut2 s = b at *
  generalize cutIs s = c at *
  generalize snapS s = x at *
  clear hs
  cases x
  · go_enter Try.func9, Try.ntmps9
    go_wp2_with (go_at_call 17; refine HS.out.mono ?_; rintro e w1 ⟨rfl, f1⟩; have F1 := Lib.hid f1; clear f1)
    go_ret3
    exact ⟨rfl, F1.out⟩
  · go_enter Try.func9, Try.ntmps9
    go_upto_region 3 with (go_at_call 17; refine HS.out.mono ?_; rintro e w1 ⟨rfl, f1⟩; have F1 := Lib.hid f1; clear f1)
    go_upto_region 4 with (go_at_call 22; refine (HC.out _).mono ?_; rintro e w2 ⟨rfl, f2⟩; have F2 := Lib.hid (F1.out.trans f2 (by simp)); clear f2)
    go_wp2_with (first
      | (go_at_call 23; refine (H1.out _).mono ?_; rintro e w3 ⟨rfl, f3⟩; have F3 := Lib.hid (F2.out.trans f3 (by simp)); clear f3; clear H1)
      | (go_at_call 23; refine (H2.out _).mono ?_; rintro e w4 ⟨rfl, f4⟩; have F4 := Lib.hid (F3.out.trans f4 (by simp)); clear f4))
    go_ret3
    exact ⟨rfl, F4.out⟩
def JoiE (v p : ByteArray) (e : Ending) : Prop := e = .returned (.tuple #[.string (joinS v p), .bool (joins v p)])
set_option maxHeartbeats 1000000 in
theorem Join_any (v p : ByteArray) (w : World) : Calls Try.prog 11 #[.string v, .string p] w fun e w' => JoiE v p e ∧ Frm [] w w' := by
  have HV := Lib.hid (fun W => Volume_any v W)
  have HP := Lib.hid (fun W => Part_any p W)
  have HF := Lib.hid (join_form v p)
  have HZ := Lib.hid (show joins v p = true → ¬ 9223372036854775807 < v.size + 1 ∧ ¬ 9223372036854775807 < v.size + 1 + p.size from fun h => by
    unfold joins at h; simp only [Bool.and_eq_true] at h
    have h1 := part_length h.1; have h2 := part_length h.2
    rw [← Lib.size_eq] at h1 h2; omega)
  unfold joins at HZ
  unfold JoiE joinS joins
  generalize partS v = x at *
  generalize partS p = y at *
  rw [← HF.out]
  clear HF
  cases x
  · go_enter Try.func11, Try.ntmps11
    go_wp2_with (go_at_call 15; refine (HV.out _).mono ?_; rintro e w1 ⟨rfl, f1⟩; have F1 := Lib.hid f1; clear f1)
    go_ret2
    exact ⟨rfl, F1.out⟩
  · cases y
    · skip
      go_enter Try.func11, Try.ntmps11
      go_wp2_with (first
        | (go_at_call 15; refine (HV.out _).mono ?_; rintro e w1 ⟨rfl, f1⟩; have F1 := Lib.hid f1; clear f1)
        | (go_at_call 13; refine (HP.out _).mono ?_; rintro e w3 ⟨rfl, f3⟩; have F3 := Lib.hid (F1.out.trans f3 (by simp)); clear f3))
      go_ret2
      exact ⟨rfl, F3.out⟩
    · obtain ⟨z1, z2⟩ := HZ.out rfl
      go_enter Try.func11, Try.ntmps11
      go_wp2_with (first
        | (go_at_call 15; refine (HV.out _).mono ?_; rintro e w1 ⟨rfl, f1⟩; have F1 := Lib.hid f1; clear f1)
        | (go_at_call 13; refine (HP.out _).mono ?_; rintro e w3 ⟨rfl, f3⟩; have F3 := Lib.hid (F1.out.trans f3 (by simp)); clear f3))
      go_ret2
      exact ⟨rfl, F3.out⟩
/-! ### the document's -/
set_option maxHeartbeats 1000000 in
theorem RefSplit_any (s : ByteArray) (hs : s.size ≤ 1000) (w : World) : Calls Try.prog 10 #[.string s] w fun e w' => SplE s e ∧ Frm [] w w' := by
  have HC := Lib.hid (fun W => RefCut_any s hs W)
  unfold CutE at HC
  have H1 := Lib.hid (fun W => RefPart_any (cut1 s) (Nat.le_trans (cut1_size s) hs) W)
  have H2 := Lib.hid (fun W => RefPart_any (cut2 s) (Nat.le_trans (cut2_size s) hs) W)
  unfold SplE spl1 spl2 snapS
  generalize partS (cut1 s) = x at *
  generalize partS (cut2 s) = y at *
  generalize cut1 s = a at *
  generalize cut2 s = b at *
  generalize cutIs s = c at *
  clear hs
  cases c <;> cases x <;> cases y
  all_goals
    go_enter Try.func10, Try.ntmps10
    go_upto_region 2 with (go_at_call 24; refine (HC.out _).mono ?_; rintro e w1 ⟨rfl, f1⟩; have F1 := Lib.hid f1; clear f1)
    go_wp2_with (first
      | (go_at_call 14; refine (H1.out _).mono ?_; rintro e w3 ⟨rfl, f3⟩; have F3 := Lib.hid (F1.out.trans f3 (by simp)); clear f3; clear H1)
      | (go_at_call 14; refine (H2.out _).mono ?_; rintro e w4 ⟨rfl, f4⟩; have F4 := Lib.hid (F3.out.trans f4 (by simp)); clear f4))
    go_ret3
    first
      | exact ⟨rfl, F4.out⟩
      | exact ⟨rfl, F3.out⟩
      | exact ⟨rfl, F1.out⟩
theorem RefSnapshot_any (s : ByteArray) (hs : s.size ≤ 1000) (w : World) : Calls Try.prog 18 #[.string s] w fun e w' => e = .returned (.bool (snapS s)) ∧ Frm [] w w' := by
  have HC := Lib.hid (fun W => RefSplit_any s hs W)
  unfold SplE at HC
  go_enter Try.func18, Try.ntmps18
  go_wp2_with (go_at_call 10; refine (HC.out _).mono ?_; rintro e w1 ⟨rfl, f1⟩; have F1 := Lib.hid f1; clear f1)
  go_ret
  exact ⟨rfl, F1.out⟩
set_option maxHeartbeats 1000000 in
theorem RefJoin_any (v p : ByteArray) (hv : v.size ≤ 1000) (hp : p.size ≤ 1000) (w : World) : Calls Try.prog 12 #[.string v, .string p] w fun e w' => JoiE v p e ∧ Frm [] w w' := by
  have HV := Lib.hid (fun W => RefPart_any v hv W)
  have HP := Lib.hid (fun W => RefPart_any p hp W)
  have HF := Lib.hid (join_form v p)
  have HZ := Lib.hid (show joins v p = true → ¬ 9223372036854775807 < v.size + 1 ∧ ¬ 9223372036854775807 < v.size + 1 + p.size from fun h => by
    unfold joins at h; simp only [Bool.and_eq_true] at h
    have h1 := part_length h.1; have h2 := part_length h.2
    rw [← Lib.size_eq] at h1 h2; omega)
  unfold joins at HZ
  unfold JoiE joinS joins
  generalize partS v = x at *
  generalize partS p = y at *
  rw [← HF.out]
  clear HF hv hp
  cases x
  · go_enter Try.func12, Try.ntmps12
    go_wp2_with (go_at_call 14; refine (HV.out _).mono ?_; rintro e w1 ⟨rfl, f1⟩; have F1 := Lib.hid f1; clear f1)
    go_ret2
    exact ⟨rfl, F1.out⟩
  · cases y
    · skip
      go_enter Try.func12, Try.ntmps12
      go_wp2_with (first
        | (go_at_call 14; refine (HV.out _).mono ?_; rintro e w1 ⟨rfl, f1⟩; have F1 := Lib.hid f1; clear f1; clear HV)
        | (go_at_call 14; refine (HP.out _).mono ?_; rintro e w3 ⟨rfl, f3⟩; have F3 := Lib.hid (F1.out.trans f3 (by simp)); clear f3))
      go_ret2
      exact ⟨rfl, F3.out⟩
    · obtain ⟨z1, z2⟩ := HZ.out rfl
      go_enter Try.func12, Try.ntmps12
      go_wp2_with (first
        | (go_at_call 14; refine (HV.out _).mono ?_; rintro e w1 ⟨rfl, f1⟩; have F1 := Lib.hid f1; clear f1; clear HV)
        | (go_at_call 14; refine (HP.out _).mono ?_; rintro e w3 ⟨rfl, f3⟩; have F3 := Lib.hid (F1.out.trans f3 (by simp)); clear f3))
      go_ret2
      exact ⟨rfl, F3.out⟩
end Go.Proofs.Ytnpjgccannebpaa
