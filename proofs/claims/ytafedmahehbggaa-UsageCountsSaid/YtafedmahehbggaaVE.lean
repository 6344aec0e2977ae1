/-
  three, awake. No conditions but those that each theorem names.
-/
import Derived.Test.YtafedmahehbggaaVD
namespace Go.Proofs.Ytafedmahehbggaa
open Go.RowKit Go.Sort Go.Maps
set_option linter.unusedVariables false
set_option linter.unusedSimpArgs false
set_option maxRecDepth 100000

open Kr (OwnE SlE Enco RowTys)
def l1 : List Ad := [(0, 5), (1, 5)]
def l2 : List Ad := [(1, 5), (1, 6), (1, 5)]
def L3 : List (List Ad) := [l1, l2, []]
theorem hs3 : Hs L3 := ⟨by decide, by decide, fun l hl x hx => by
  have h : ∀ l ∈ L3, ∀ x ∈ l, (0 ≤ x.1 ∧ x.1 ≤ 100) ∧ (0 ≤ x.2 ∧ x.2 ≤ 100) := by decide
  have := h l hl x hx
  exact ⟨by omega, by omega⟩⟩
theorem of_lit (l : List Ad) (w : World) (hl : l.length ≤ 100) : Calls Try.prog 29 #[.slice (some ⟨w.heap.size, 0, none⟩) (l.length * 2) (l.length * 2)] (w.alloc (.cells (eas l).toArray 3)) fun e w' => ∃ v sp, e = .returned v ∧ OwnA 25 w' v l sp ∧ Frm [] w w' ∧ ∀ i ∈ blk v, w.heap.size ≤ i := by
  refine (of_any l _ _ _ (heap_alloc_at rfl) rfl (by omega)).mono ?_
  rintro e w1 ⟨v, sp, rfl, o, f, n⟩
  exact ⟨v, sp, rfl, o, ((Frm.refl [] w).alloc _).trans f (by simp), fun i hi => by have := n i hi; simp at this; omega⟩
theorem three_any (w : World) : Calls Try.prog 28 #[] w fun e w' => ∃ v, e = .returned v ∧ LsA w' v L3 ∧ Frm [] w w' := by
  have H1 := Lib.hid (fun W => of_lit l1 W (by decide))
  have H2 := Lib.hid (fun W => of_lit l2 W (by decide))
  go_enter Try.func28, Try.ntmps28
  go_wp2_with fail
  refine (H1.out _).mono ?_
  rintro e w1 ⟨v1, sp1, rfl, o1, f1, n1⟩
  obtain ⟨a1, c1, rfl, _, _⟩ := o1.sl.form
  have O1 := Lib.hid o1
  have F1 := Lib.hid f1
  clear o1 f1 n1
  go_wp2_with fail
  refine (H2.out _).mono ?_
  rintro e w2 ⟨v2, sp2, rfl, o2, f2, n2⟩
  obtain ⟨a2, c2, rfl, _, _⟩ := o2.sl.form
  have O2 := Lib.hid o2
  have F2 := Lib.hid (F1.out.trans f2 (by simp))
  have O12 := Lib.hid (O1.out.keep f2 (by simp))
  clear o2 f2 n2
  go_wp2_with fail
  go_ret
  have f3 : Frm [] w2 (w2.alloc (.cells #[.slice a1 l1.length c1, .slice a2 l2.length c2, .slice none 0 0] 30)) := (Frm.refl [] w2).alloc _
  refine ⟨_, rfl, ⟨[⟨.slice a1 l1.length c1, rfl⟩, ⟨.slice a2 l2.length c2, rfl⟩, ⟨.slice none 0 0, rfl⟩], [], SlE.of_block (T := 30) encC (heap_alloc_new _ _) rfl (by decide), rfl, fun i c l h1 h2 => ?_⟩, F2.out.trans f3 (by simp)⟩
  match i with
  | 0 => simp [L3] at h1 h2; subst h1; subst h2; exact ⟨sp1, O12.out.sl.keep f3 (by simp)⟩
  | 1 => simp [L3] at h1 h2; subst h1; subst h2; exact ⟨sp2, O2.out.sl.keep f3 (by simp)⟩
  | 2 => simp [L3] at h1 h2; subst h1; subst h2; exact ⟨[], SlA.nil _⟩
  | k + 3 => simp [L3] at h2
def Yes (w : World) (e : Ending) (w' : World) : Prop := e = .returned (.bool true) ∧ Frm [] w w'
theorem q1 : (sharedU L3 [1]).length = 2 := by kernel_rfl
theorem q2 : freedU L3 [0] = [(0, 5)] := by kernel_rfl
theorem q3 : allU L3 = [(0, 5), (1, 5), (1, 6)] := by kernel_rfl
theorem q4 : who L3 (1, 5) 3 = [0, 1] := by kernel_rfl
theorem lit_ints (s : List Int) (w : World) (hs : s.length ≤ 1000) : SlI (w.alloc (.cells (s.map (Value.int .i64)).toArray 3)) (.slice (some ⟨w.heap.size, 0, none⟩) s.length s.length) s [] :=
  OwnE.sl (T := 3) (OwnI.of_heap (n := s.length) (cap := s.length) (by rw [heap_alloc_new]; simp) rfl rfl (by simp only [maxLen]; omega))
theorem Freed_lit (s : List Int) (r : List Ad) (h : freedU L3 s = r) (hs : s.length ≤ 1000) (v : Value) (w : World) (hS : LsA w v L3) :
    Calls Try.prog 13 #[v, .slice (some ⟨w.heap.size, 0, none⟩) s.length s.length] (w.alloc (.cells (s.map (Value.int .i64)).toArray 3)) (Told w r) := by
  have f0 : Frm [] w (w.alloc (.cells (s.map (Value.int .i64)).toArray 3)) := (Frm.refl [] w).alloc _
  refine (Freed_any L3 v _ s [] _ (hS.keep0 f0) hs3 (lit_ints s w hs) (by omega)).mono ?_
  rintro e w2 ⟨v2, sp2, rfl, o2, f2, n2⟩
  rw [h] at o2
  exact ⟨v2, sp2, rfl, o2, f0.trans f2 (by simp), fun i hi => by have := n2 i hi; have := f0.size; omega⟩
theorem Shared_lit (s : List Int) (r : List Ad) (h : sharedU L3 s = r) (hs : s.length ≤ 1000) (v : Value) (w : World) (hS : LsA w v L3) :
    Calls Try.prog 14 #[v, .slice (some ⟨w.heap.size, 0, none⟩) s.length s.length] (w.alloc (.cells (s.map (Value.int .i64)).toArray 3)) (Told w r) := by
  have f0 : Frm [] w (w.alloc (.cells (s.map (Value.int .i64)).toArray 3)) := (Frm.refl [] w).alloc _
  refine (Shared_any L3 v _ s [] _ (hS.keep0 f0) hs3 (lit_ints s w hs) (by omega)).mono ?_
  rintro e w2 ⟨v2, sp2, rfl, o2, f2, n2⟩
  rw [h] at o2
  exact ⟨v2, sp2, rfl, o2, f0.trans f2 (by simp), fun i hi => by have := n2 i hi; have := f0.size; omega⟩
theorem Freed_nil (v : Value) (w : World) (hS : LsA w v L3) : Calls Try.prog 13 #[v, .slice none 0 0] w (Told w []) := by
  have := Freed_any L3 v (.slice none 0 0) [] [] w hS hs3 (SlE.nil _ _ _) (by simp)
  rwa [show freedU L3 [] = [] by kernel_rfl] at this
theorem Shared_nil (v : Value) (w : World) (hS : LsA w v L3) : Calls Try.prog 14 #[v, .slice none 0 0] w (Told w []) := by
  have := Shared_any L3 v (.slice none 0 0) [] [] w hS hs3 (SlE.nil _ _ _) (by simp)
  rwa [show sharedU L3 [] = [] by kernel_rfl] at this
theorem Ref_lit (i : Int) (n : Int) (h : ((sharedU L3 [i]).length : Int) = n) (v : Value) (w : World) (hS : LsA w v L3) : Calls Try.prog 22 #[v, .int .i64 i] w fun e w' => e = .returned (.int .i64 n) ∧ Frm [] w w' := by
  have := Referenced_any L3 v i w hS hs3
  rwa [h] at this
theorem Unique_lit (i : Int) (r : List Ad) (h : freedU L3 [i] = r) (v : Value) (w : World) (hS : LsA w v L3) : Calls Try.prog 11 #[v, .int .i64 i] w (Told w r) := by
  have := Unique_any L3 v i w hS hs3
  rwa [h] at this
theorem All_lit (r : List Ad) (h : allU L3 = r) (v : Value) (w : World) (hS : LsA w v L3) : Calls Try.prog 12 #[v] w (Told w r) := by
  have := All_any L3 v w hS hs3
  rwa [h] at this
theorem Holders_lit (x : Ad) (hx : WfA x) (r : List Int) (h : who L3 x 3 = r) (v : Value) (w : World) (hS : LsA w v L3) : Calls Try.prog 21 #[v, .agg #[.int .i64 x.1, .int .i64 x.2]] w (ToldN w r) := by
  have := Holders_any L3 v x w hS hs3 hx
  rwa [show L3.length = 3 from rfl, h] at this
set_option maxHeartbeats 4000000 in
theorem awake_any (w : World) : Calls Try.prog 8 #[] w (Yes w) := by
  go_enter Try.func8, Try.ntmps8
  have F0 := Lib.hid (Frm.refl [] w)
  go_wp2_with fail
  refine (three_any _).mono ?_
  rintro e w1 ⟨v, rfl, ls, f1⟩
  obtain ⟨a, cap, rfl, _⟩ := ls.form
  have L_1 := Lib.hid ls
  clear ls
  have G1 := Lib.hid f1
  have F1 := Lib.hid (F0.out.trans G1.out (by simp))
  clear f1 F0 G1
  go_wp2_with fail
  refine (Ref_lit 1 2 (by kernel_rfl) _ _ L_1.out).mono ?_
  rintro e w2 ⟨rfl, f2⟩
  have G2 := Lib.hid (f2)
  have F2 := Lib.hid (F1.out.trans G2.out (by simp))
  have L_2 := Lib.hid (L_1.out.keep0 G2.out)
  clear L_1
  clear f2 F1 G2
  go_wp2_with fail
  refine (Unique_lit 0 [(0, 5)] (by kernel_rfl) _ _ L_2.out).mono ?_
  rintro e w3 ⟨v3, sp3, rfl, o3, f3, n3⟩
  obtain ⟨a3, c3, rfl, _, _⟩ := o3.sl.form
  have A_3o := Lib.hid o3
  clear o3 n3
  have G3 := Lib.hid (f3)
  have F3 := Lib.hid (F2.out.trans G3.out (by simp))
  have L_3 := Lib.hid (L_2.out.keep0 G3.out)
  clear L_2
  clear f3 F2 G3
  go_wp2_with fail
  refine (of_lit [(0, 5)] _ (by decide)).mono ?_
  rintro e w4 ⟨v4, sp4, rfl, o4, f4, n4⟩
  obtain ⟨a4, c4, rfl, _, _⟩ := o4.sl.form
  have B_4o := Lib.hid o4
  clear o4 n4
  have G4 := Lib.hid (f4)
  have F4 := Lib.hid (F3.out.trans G4.out (by simp))
  have L_4 := Lib.hid (L_3.out.keep0 G4.out)
  clear L_3
  have A_4 := Lib.hid (A_3o.out.keep G4.out (by simp))
  clear A_3o
  clear f4 F3 G4
  go_wp2_with fail
  refine (Same_true _ _ [(0, 5)] _ _ _ A_4.out.sl B_4o.out.sl (by decide)).mono ?_
  rintro e w5 ⟨rfl, f5⟩
  have G5 := Lib.hid (f5)
  have F5 := Lib.hid (F4.out.trans G5.out (by simp))
  have L_5 := Lib.hid (L_4.out.keep0 G5.out)
  clear L_4
  have A_5 := Lib.hid (A_4.out.keep G5.out (by simp))
  clear A_4
  have B_5 := Lib.hid (B_4o.out.keep G5.out (by simp))
  clear B_4o
  clear f5 F4 G5
  clear A_5
  clear B_5
  go_wp2_with fail
  refine (All_lit [(0, 5), (1, 5), (1, 6)] (by kernel_rfl) _ _ L_5.out).mono ?_
  rintro e w6 ⟨v6, sp6, rfl, o6, f6, n6⟩
  obtain ⟨a6, c6, rfl, _, _⟩ := o6.sl.form
  have A_6o := Lib.hid o6
  clear o6 n6
  have G6 := Lib.hid (f6)
  have F6 := Lib.hid (F5.out.trans G6.out (by simp))
  have L_6 := Lib.hid (L_5.out.keep0 G6.out)
  clear L_5
  clear f6 F5 G6
  go_wp2_with fail
  refine (of_lit [(0, 5), (1, 5), (1, 6)] _ (by decide)).mono ?_
  rintro e w7 ⟨v7, sp7, rfl, o7, f7, n7⟩
  obtain ⟨a7, c7, rfl, _, _⟩ := o7.sl.form
  have B_7o := Lib.hid o7
  clear o7 n7
  have G7 := Lib.hid (f7)
  have F7 := Lib.hid (F6.out.trans G7.out (by simp))
  have L_7 := Lib.hid (L_6.out.keep0 G7.out)
  clear L_6
  have A_7 := Lib.hid (A_6o.out.keep G7.out (by simp))
  clear A_6o
  clear f7 F6 G7
  go_wp2_with fail
  refine (Same_true _ _ [(0, 5), (1, 5), (1, 6)] _ _ _ A_7.out.sl B_7o.out.sl (by decide)).mono ?_
  rintro e w8 ⟨rfl, f8⟩
  have G8 := Lib.hid (f8)
  have F8 := Lib.hid (F7.out.trans G8.out (by simp))
  have L_8 := Lib.hid (L_7.out.keep0 G8.out)
  clear L_7
  have A_8 := Lib.hid (A_7.out.keep G8.out (by simp))
  clear A_7
  have B_8 := Lib.hid (B_7o.out.keep G8.out (by simp))
  clear B_7o
  clear f8 F7 G8
  clear A_8
  clear B_8
  go_wp2_with fail
  refine (Holders_lit (1, 5) ⟨by decide, by decide⟩ [0, 1] (by kernel_rfl) _ _ L_8.out).mono ?_
  rintro e w9 ⟨v9, sp9, rfl, o9, f9, n9⟩
  obtain ⟨a9, c9, rfl, _, _⟩ := SlE.form (OwnE.sl o9)
  have I_9o := Lib.hid o9
  clear o9 n9
  have G9 := Lib.hid (f9)
  have F9 := Lib.hid (F8.out.trans G9.out (by simp))
  have L_9 := Lib.hid (L_8.out.keep0 G9.out)
  clear L_8
  clear f9 F8 G9
  go_wp2_with fail
  refine (SameI_true _ _ [0, 1] _ [] _ ((I_9o.out.keep0 ((Frm.refl [] _).alloc _)).sl) (lit_ints [0, 1] _ (by decide)) (by decide)).mono ?_
  rintro e w10 ⟨rfl, f10⟩
  clear I_9o
  have G10 := Lib.hid (((Frm.refl [] w9).alloc (.cells #[.int .i64 0, .int .i64 1] 3)).trans f10 (by simp))
  have F10 := Lib.hid (F9.out.trans G10.out (by simp))
  have L_10 := Lib.hid (L_9.out.keep0 G10.out)
  clear L_9
  clear f10 F9 G10
  go_wp2_with fail
  go_ret
  exact ⟨rfl, F10.out⟩
set_option maxHeartbeats 8000000 in
theorem knownU_any (w : World) : Calls Try.prog 4 #[] w (Yes w) := by
  go_enter Try.func4, Try.ntmps4
  have F0 := Lib.hid (Frm.refl [] w)
  go_wp2_with fail
  refine (three_any _).mono ?_
  rintro e w1 ⟨v, rfl, ls, f1⟩
  obtain ⟨a, cap, rfl, _⟩ := ls.form
  have L_1 := Lib.hid ls
  clear ls
  have G1 := Lib.hid f1
  have F1 := Lib.hid (F0.out.trans G1.out (by simp))
  clear f1 F0 G1
  go_wp2_with fail
  refine (Ref_lit 0 2 (by kernel_rfl) _ _ L_1.out).mono ?_
  rintro e w2 ⟨rfl, f2⟩
  have G2 := Lib.hid (f2)
  have F2 := Lib.hid (F1.out.trans G2.out (by simp))
  have L_2 := Lib.hid (L_1.out.keep0 G2.out)
  clear L_1
  clear f2 F1 G2
  go_wp2_with fail
  refine (Ref_lit 2 0 (by kernel_rfl) _ _ L_2.out).mono ?_
  rintro e w3 ⟨rfl, f3⟩
  have G3 := Lib.hid (f3)
  have F3 := Lib.hid (F2.out.trans G3.out (by simp))
  have L_3 := Lib.hid (L_2.out.keep0 G3.out)
  clear L_2
  clear f3 F2 G3
  go_wp2_with fail
  refine (Ref_lit 3 0 (by kernel_rfl) _ _ L_3.out).mono ?_
  rintro e w4 ⟨rfl, f4⟩
  have G4 := Lib.hid (f4)
  have F4 := Lib.hid (F3.out.trans G4.out (by simp))
  have L_4 := Lib.hid (L_3.out.keep0 G4.out)
  clear L_3
  clear f4 F3 G4
  go_wp2_with fail
  refine (Unique_lit 1 [(1, 6)] (by kernel_rfl) _ _ L_4.out).mono ?_
  rintro e w5 ⟨v5, sp5, rfl, o5, f5, n5⟩
  obtain ⟨a5, c5, rfl, _, _⟩ := o5.sl.form
  have A_5o := Lib.hid o5
  clear o5 n5
  have G5 := Lib.hid (f5)
  have F5 := Lib.hid (F4.out.trans G5.out (by simp))
  have L_5 := Lib.hid (L_4.out.keep0 G5.out)
  clear L_4
  clear f5 F4 G5
  go_wp2_with fail
  refine (of_lit [(1, 6)] _ (by decide)).mono ?_
  rintro e w6 ⟨v6, sp6, rfl, o6, f6, n6⟩
  obtain ⟨a6, c6, rfl, _, _⟩ := o6.sl.form
  have B_6o := Lib.hid o6
  clear o6 n6
  have G6 := Lib.hid (f6)
  have F6 := Lib.hid (F5.out.trans G6.out (by simp))
  have L_6 := Lib.hid (L_5.out.keep0 G6.out)
  clear L_5
  have A_6 := Lib.hid (A_5o.out.keep G6.out (by simp))
  clear A_5o
  clear f6 F5 G6
  go_wp2_with fail
  refine (Same_true _ _ [(1, 6)] _ _ _ A_6.out.sl B_6o.out.sl (by decide)).mono ?_
  rintro e w7 ⟨rfl, f7⟩
  have G7 := Lib.hid (f7)
  have F7 := Lib.hid (F6.out.trans G7.out (by simp))
  have L_7 := Lib.hid (L_6.out.keep0 G7.out)
  clear L_6
  have A_7 := Lib.hid (A_6.out.keep G7.out (by simp))
  clear A_6
  have B_7 := Lib.hid (B_6o.out.keep G7.out (by simp))
  clear B_6o
  clear f7 F6 G7
  clear A_7
  clear B_7
  go_wp2_with fail
  refine (Freed_lit [0] [(0, 5)] (by kernel_rfl) (by decide) _ _ L_7.out).mono ?_
  rintro e w8 ⟨v8, sp8, rfl, o8, f8, n8⟩
  obtain ⟨a8, c8, rfl, _, _⟩ := o8.sl.form
  have A_8o := Lib.hid o8
  clear o8 n8
  have G8 := Lib.hid (f8)
  have F8 := Lib.hid (F7.out.trans G8.out (by simp))
  have L_8 := Lib.hid (L_7.out.keep0 G8.out)
  clear L_7
  clear f8 F7 G8
  go_wp2_with fail
  refine (of_lit [(0, 5)] _ (by decide)).mono ?_
  rintro e w9 ⟨v9, sp9, rfl, o9, f9, n9⟩
  obtain ⟨a9, c9, rfl, _, _⟩ := o9.sl.form
  have B_9o := Lib.hid o9
  clear o9 n9
  have G9 := Lib.hid (f9)
  have F9 := Lib.hid (F8.out.trans G9.out (by simp))
  have L_9 := Lib.hid (L_8.out.keep0 G9.out)
  clear L_8
  have A_9 := Lib.hid (A_8o.out.keep G9.out (by simp))
  clear A_8o
  clear f9 F8 G9
  go_wp2_with fail
  refine (Same_true _ _ [(0, 5)] _ _ _ A_9.out.sl B_9o.out.sl (by decide)).mono ?_
  rintro e w10 ⟨rfl, f10⟩
  have G10 := Lib.hid (f10)
  have F10 := Lib.hid (F9.out.trans G10.out (by simp))
  have L_10 := Lib.hid (L_9.out.keep0 G10.out)
  clear L_9
  have A_10 := Lib.hid (A_9.out.keep G10.out (by simp))
  clear A_9
  have B_10 := Lib.hid (B_9o.out.keep G10.out (by simp))
  clear B_9o
  clear f10 F9 G10
  clear A_10
  clear B_10
  go_wp2_with fail
  refine (Freed_lit [0, 1, 7] [(0, 5), (1, 5), (1, 6)] (by kernel_rfl) (by decide) _ _ L_10.out).mono ?_
  rintro e w11 ⟨v11, sp11, rfl, o11, f11, n11⟩
  obtain ⟨a11, c11, rfl, _, _⟩ := o11.sl.form
  have A_11o := Lib.hid o11
  clear o11 n11
  have G11 := Lib.hid (f11)
  have F11 := Lib.hid (F10.out.trans G11.out (by simp))
  have L_11 := Lib.hid (L_10.out.keep0 G11.out)
  clear L_10
  clear f11 F10 G11
  go_wp2_with fail
  refine (of_lit [(0, 5), (1, 5), (1, 6)] _ (by decide)).mono ?_
  rintro e w12 ⟨v12, sp12, rfl, o12, f12, n12⟩
  obtain ⟨a12, c12, rfl, _, _⟩ := o12.sl.form
  have B_12o := Lib.hid o12
  clear o12 n12
  have G12 := Lib.hid (f12)
  have F12 := Lib.hid (F11.out.trans G12.out (by simp))
  have L_12 := Lib.hid (L_11.out.keep0 G12.out)
  clear L_11
  have A_12 := Lib.hid (A_11o.out.keep G12.out (by simp))
  clear A_11o
  clear f12 F11 G12
  go_wp2_with fail
  refine (Same_true _ _ [(0, 5), (1, 5), (1, 6)] _ _ _ A_12.out.sl B_12o.out.sl (by decide)).mono ?_
  rintro e w13 ⟨rfl, f13⟩
  have G13 := Lib.hid (f13)
  have F13 := Lib.hid (F12.out.trans G13.out (by simp))
  have L_13 := Lib.hid (L_12.out.keep0 G13.out)
  clear L_12
  have A_13 := Lib.hid (A_12.out.keep G13.out (by simp))
  clear A_12
  have B_13 := Lib.hid (B_12o.out.keep G13.out (by simp))
  clear B_12o
  clear f13 F12 G13
  clear A_13
  clear B_13
  go_wp2_with fail
  refine (Freed_nil _ _ L_13.out).mono ?_
  rintro e w14 ⟨v14, sp14, rfl, o14, f14, n14⟩
  obtain ⟨a14, c14, rfl, _, _⟩ := o14.sl.form
  have A_14o := Lib.hid o14
  clear o14 n14
  have G14 := Lib.hid (f14)
  have F14 := Lib.hid (F13.out.trans G14.out (by simp))
  have L_14 := Lib.hid (L_13.out.keep0 G14.out)
  clear L_13
  clear f14 F13 G14
  clear A_14o
  go_wp2_with fail
  refine (Shared_lit [0, 1] [(1, 5)] (by kernel_rfl) (by decide) _ _ L_14.out).mono ?_
  rintro e w15 ⟨v15, sp15, rfl, o15, f15, n15⟩
  obtain ⟨a15, c15, rfl, _, _⟩ := o15.sl.form
  have A_15o := Lib.hid o15
  clear o15 n15
  have G15 := Lib.hid (f15)
  have F15 := Lib.hid (F14.out.trans G15.out (by simp))
  have L_15 := Lib.hid (L_14.out.keep0 G15.out)
  clear L_14
  clear f15 F14 G15
  go_wp2_with fail
  refine (of_lit [(1, 5)] _ (by decide)).mono ?_
  rintro e w16 ⟨v16, sp16, rfl, o16, f16, n16⟩
  obtain ⟨a16, c16, rfl, _, _⟩ := o16.sl.form
  have B_16o := Lib.hid o16
  clear o16 n16
  have G16 := Lib.hid (f16)
  have F16 := Lib.hid (F15.out.trans G16.out (by simp))
  have L_16 := Lib.hid (L_15.out.keep0 G16.out)
  clear L_15
  have A_16 := Lib.hid (A_15o.out.keep G16.out (by simp))
  clear A_15o
  clear f16 F15 G16
  go_wp2_with fail
  refine (Same_true _ _ [(1, 5)] _ _ _ A_16.out.sl B_16o.out.sl (by decide)).mono ?_
  rintro e w17 ⟨rfl, f17⟩
  have G17 := Lib.hid (f17)
  have F17 := Lib.hid (F16.out.trans G17.out (by simp))
  have L_17 := Lib.hid (L_16.out.keep0 G17.out)
  clear L_16
  have A_17 := Lib.hid (A_16.out.keep G17.out (by simp))
  clear A_16
  have B_17 := Lib.hid (B_16o.out.keep G17.out (by simp))
  clear B_16o
  clear f17 F16 G17
  clear A_17
  clear B_17
  go_wp2_with fail
  refine (Shared_lit [0, 2] [] (by kernel_rfl) (by decide) _ _ L_17.out).mono ?_
  rintro e w18 ⟨v18, sp18, rfl, o18, f18, n18⟩
  obtain ⟨a18, c18, rfl, _, _⟩ := o18.sl.form
  have A_18o := Lib.hid o18
  clear o18 n18
  have G18 := Lib.hid (f18)
  have F18 := Lib.hid (F17.out.trans G18.out (by simp))
  have L_18 := Lib.hid (L_17.out.keep0 G18.out)
  clear L_17
  clear f18 F17 G18
  clear A_18o
  go_wp2_with fail
  refine (Shared_lit [0, 9] [(0, 5), (1, 5)] (by kernel_rfl) (by decide) _ _ L_18.out).mono ?_
  rintro e w19 ⟨v19, sp19, rfl, o19, f19, n19⟩
  obtain ⟨a19, c19, rfl, _, _⟩ := o19.sl.form
  have A_19o := Lib.hid o19
  clear o19 n19
  have G19 := Lib.hid (f19)
  have F19 := Lib.hid (F18.out.trans G19.out (by simp))
  have L_19 := Lib.hid (L_18.out.keep0 G19.out)
  clear L_18
  clear f19 F18 G19
  go_wp2_with fail
  refine (of_lit [(0, 5), (1, 5)] _ (by decide)).mono ?_
  rintro e w20 ⟨v20, sp20, rfl, o20, f20, n20⟩
  obtain ⟨a20, c20, rfl, _, _⟩ := o20.sl.form
  have B_20o := Lib.hid o20
  clear o20 n20
  have G20 := Lib.hid (f20)
  have F20 := Lib.hid (F19.out.trans G20.out (by simp))
  have L_20 := Lib.hid (L_19.out.keep0 G20.out)
  clear L_19
  have A_20 := Lib.hid (A_19o.out.keep G20.out (by simp))
  clear A_19o
  clear f20 F19 G20
  go_wp2_with fail
  refine (Same_true _ _ [(0, 5), (1, 5)] _ _ _ A_20.out.sl B_20o.out.sl (by decide)).mono ?_
  rintro e w21 ⟨rfl, f21⟩
  have G21 := Lib.hid (f21)
  have F21 := Lib.hid (F20.out.trans G21.out (by simp))
  have L_21 := Lib.hid (L_20.out.keep0 G21.out)
  clear L_20
  have A_21 := Lib.hid (A_20.out.keep G21.out (by simp))
  clear A_20
  have B_21 := Lib.hid (B_20o.out.keep G21.out (by simp))
  clear B_20o
  clear f21 F20 G21
  clear A_21
  clear B_21
  go_wp2_with fail
  refine (Shared_nil _ _ L_21.out).mono ?_
  rintro e w22 ⟨v22, sp22, rfl, o22, f22, n22⟩
  obtain ⟨a22, c22, rfl, _, _⟩ := o22.sl.form
  have A_22o := Lib.hid o22
  clear o22 n22
  have G22 := Lib.hid (f22)
  have F22 := Lib.hid (F21.out.trans G22.out (by simp))
  have L_22 := Lib.hid (L_21.out.keep0 G22.out)
  clear L_21
  clear f22 F21 G22
  clear A_22o
  go_wp2_with fail
  refine (awake_any _).mono ?_
  rintro e w23 ⟨rfl, f23⟩
  have G23 := Lib.hid (f23)
  have F23 := Lib.hid (F22.out.trans G23.out (by simp))
  have L_23 := Lib.hid (L_22.out.keep0 G23.out)
  clear L_22
  clear f23 F22 G23
  go_wp2_with fail
  refine (Holders_lit (2, 5) ⟨by decide, by decide⟩ [] (by kernel_rfl) _ _ L_23.out).mono ?_
  rintro e w24 ⟨v24, sp24, rfl, o24, f24, n24⟩
  obtain ⟨a24, c24, rfl, _, _⟩ := SlE.form (OwnE.sl o24)
  have I_24o := Lib.hid o24
  clear o24 n24
  have G24 := Lib.hid (f24)
  have F24 := Lib.hid (F23.out.trans G24.out (by simp))
  have L_24 := Lib.hid (L_23.out.keep0 G24.out)
  clear L_23
  clear f24 F23 G24
  clear I_24o
  go_wp2_with fail
  go_ret
  exact ⟨rfl, F24.out⟩
end Go.Proofs.Ytafedmahehbggaa
