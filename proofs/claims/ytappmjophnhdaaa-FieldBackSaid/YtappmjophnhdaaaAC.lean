/-
  The walk of FieldKnown: it returns true and changes nothing that was there; no conditions.
-/
import Derived.Test.YtappmjophnhdaaaAB
namespace Go.Proofs.Ytappmjophnhdaaa
open Go.RowKit
set_option linter.unusedVariables false
set_option linter.unusedSimpArgs false

theorem n1 : rNum [5] (0, 0, 0) 1 6 9 = (0, 0, 5, 0) := by kernel_rfl
theorem n2 : rNum [1] (0, 0, 0) 2 0 9 = (0, 0, 4, 1) := by kernel_rfl
theorem e4 : rEnd [0, 1] (0, 4, 1) = (4, 1) := by kernel_rfl
set_option maxRecDepth 100000 in
set_option maxHeartbeats 4000000 in
theorem known_any (w : World) : Calls Try.prog 6 #[] w fun r w' => YesF w r w' := by
  go_enter Try.func6, Try.ntmps6
  go_wp2_with fail
  refine (fk1 _).mono ?_
  rintro r w1 ⟨rfl, f1⟩
  go_wp2_with fail
  refine (fk2 _).mono ?_
  rintro r w2 ⟨rfl, f2⟩
  go_wp2_with fail
  refine (fk3 _).mono ?_
  rintro r w3 ⟨rfl, f3⟩
  go_wp2_with fail
  refine (fk4 _).mono ?_
  rintro r w4 ⟨rfl, f4⟩
  go_wp2_with fail
  refine (open_lit _ [5] _ rfl (by decide)).mono ?_
  rintro r w5 ⟨b1, v1, p1, rfl, r1, f5⟩
  go_wp2_with fail
  refine (open_lit _ [1] _ rfl (by decide)).mono ?_
  rintro r w6 ⟨b2, v2, p2, rfl, r2, f6⟩
  go_wp2_with fail
  refine (open_lit _ [1, 97, 1] _ rfl (by decide)).mono ?_
  rintro r w7 ⟨b3, v3, p3, rfl, r3, f7⟩
  go_wp2_with fail
  refine (open_lit _ [0, 1] _ rfl (by decide)).mono ?_
  rintro r w8 ⟨b4, v4, p4, rfl, r4, f8⟩
  have s5 := f5.size
  have s6 := f6.size
  have s7 := f7.size
  have s8 := f8.size
  have R1 := ((r1.keep f6 (by simp)).keep f7 (by simp)).keep f8 (by simp)
  have R2 := (r2.keep f7 (by simp)).keep f8 (by simp)
  have R3 := r3.keep f8 (by simp)
  have G := ((((((f1.trans f2 (by simp)).trans f3 (by simp)).trans f4 (by simp)).trans f5 (by simp)).trans f6 (by simp)).trans f7 (by simp)).trans f8 (by simp)
  have s0 : w.heap.size ≤ w4.heap.size := (((f1.trans f2 (by simp)).trans f3 (by simp)).trans f4 (by simp)).size
  clear r1 r2 r3 f1 f2 f3 f4 f5 f6 f7 f8
  have B1 := Lib.hid (And.intro R1.b1 R1.b2)
  have B2 := Lib.hid (And.intro R2.b1 R2.b2)
  have B3 := Lib.hid (And.intro R3.b1 R3.b2)
  have B4 := Lib.hid (And.intro r4.b1 r4.b2)
  go_wp2_with fail
  refine (RNumR_any b1 v1 [5] p1 (0, 0, 0) 1 6 9 _ R1.rd (by decide) (by decide)).mono ?_
  rw [n1]
  rintro r w9 ⟨rfl, t1⟩
  have T1 := R1.to t1
  have T2 := R2.keep t1.2 (fun k hk => by have := B1.out; simp at hk; omega)
  have T3 := R3.keep t1.2 (fun k hk => by have := B1.out; simp at hk; omega)
  have T4 := r4.keep t1.2 (fun k hk => by have := B1.out; simp at hk; omega)
  have G9 := G.trans t1.2 (fun k hk => by have := B1.out; simp at hk; omega)
  clear R1 R2 R3 r4 t1 G
  go_wp2_with fail
  refine (RNumR_any b2 v2 [1] p2 (0, 0, 0) 2 0 9 _ T2.rd (by decide) (by decide)).mono ?_
  rw [n2]
  rintro r w10 ⟨rfl, t2⟩
  have U1 := T1.keep t2.2 (fun k hk => by have := B2.out; simp at hk; omega)
  have U2 := T2.to t2
  have U3 := T3.keep t2.2 (fun k hk => by have := B2.out; simp at hk; omega)
  have U4 := T4.keep t2.2 (fun k hk => by have := B2.out; simp at hk; omega)
  have G10 := G9.trans t2.2 (fun k hk => by have := B2.out; simp at hk; omega)
  clear T1 T2 T3 T4 t2 G9
  go_wp2_with fail
  refine (RTextR_noughts b3 v3 [1, 97, 1] p3 0 0 2 1 [97, 1] _ U3.rd (by decide) (by decide) (by decide) (by decide) rfl (by decide) (by decide)).mono ?_
  rw [show (((0 + (1 + (1 : UInt8).toNat) : Nat) : Int) + firstNot (List.drop (1 : UInt8).toNat [97, 1])) = 2 from by kernel_rfl]
  rintro r w11 ⟨rfl, t3⟩
  have V1 := U1.keep t3.2 (fun k hk => by have := B3.out; simp at hk; omega)
  have V2 := U2.keep t3.2 (fun k hk => by have := B3.out; simp at hk; omega)
  have V3 := U3.to t3
  have V4 := U4.keep t3.2 (fun k hk => by have := B3.out; simp at hk; omega)
  have G11 := G10.trans t3.2 (fun k hk => by have := B3.out; simp at hk; omega)
  clear U1 U2 U3 U4 t3 G10
  go_wp2_with fail
  refine (RRestR_fault b4 v4 [0, 1] p4 0 0 _ V4.rd (by decide) (by decide) (by decide) (by decide)).mono ?_
  rw [show (((0 : Nat) : Int) + firstNot (List.drop 0 [0, 1])) = 1 from by kernel_rfl]
  rintro r w12 ⟨rfl, t4⟩
  have W1 := V1.keep t4.2 (fun k hk => by have := B4.out; simp at hk; omega)
  have W2 := V2.keep t4.2 (fun k hk => by have := B4.out; simp at hk; omega)
  have W3 := V3.keep t4.2 (fun k hk => by have := B4.out; simp at hk; omega)
  have W4 := V4.to t4
  have G12 := G11.trans t4.2 (fun k hk => by have := B4.out; simp at hk; omega)
  clear V1 V2 V3 V4 t4 G11
  go_wp2_with fail
  refine (RFault_any b1 v1 [5] p1 _ _ _ _ W1.rd).mono ?_
  rintro r w13 ⟨rfl, f13⟩
  unfold flt
  go_wp2_with fail
  refine (RFault_any b2 v2 [1] p2 _ _ _ _ (W2.keep f13 (by simp)).rd).mono ?_
  rintro r w14 ⟨rfl, f14⟩
  unfold flt
  go_wp2_with fail
  refine (RFault_any b3 v3 [1, 97, 1] p3 _ _ _ _ ((W3.keep f13 (by simp)).keep f14 (by simp)).rd).mono ?_
  rintro r w15 ⟨rfl, f15⟩
  unfold flt
  go_wp2_with fail
  refine (REnd_any b4 v4 [0, 1] p4 0 4 1 _ (((W4.keep f13 (by simp)).keep f14 (by simp)).keep f15 (by simp)).rd (by decide) (by decide)).mono ?_
  rw [e4]
  rintro r w16 ⟨rfl, f16⟩
  unfold flt
  go_wp2_with fail
  refine (awake_any _).mono ?_
  rintro r w17 ⟨rfl, f17⟩
  go_wp2_with fail
  go_ret
  exact ⟨rfl, ((((G12.trans f13 (by simp)).trans f14 (by simp)).trans f15 (by simp)).trans f16 (by simp)).trans f17 (by simp)⟩
end Go.Proofs.Ytappmjophnhdaaa
