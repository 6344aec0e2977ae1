/-
  Contracts of the answers of the document: Hole, Like, Same. No conditions but those that each theorem names.
-/
import Derived.Test.YtjjcjocomanohaaP4
namespace Go.Proofs.Ytjjcjocomanohaa
open Go.RowKit
set_option linter.unusedVariables false
set_option linter.unusedSimpArgs false
set_option maxRecDepth 100000

theorem int_len (n : Nat) : ((n : Int) == 0) = decide (n = 0) := by rw [Bool.eq_iff_iff]; simp
theorem len0 (l : List Ad) : decide (l.length = 0) = (l == []) := by rw [Bool.eq_iff_iff]; simp
set_option maxHeartbeats 1000000 in
theorem RefHole_any (x : Value) (p : Pt) (w : World) (hp : PtV w x p) :
    Calls Try.prog 21 #[x] w fun e w' => e = .returned (.bool (hole p)) ∧ Frm [] w w' := by
  obtain ⟨a, cap, sp, rfl, s1, z1⟩ := hp
  obtain ⟨ads, b, l, s⟩ := p
  have B1 := PB.new w (.slice a ads.length cap) b l s
  have f : Frm [] w (w.alloc (.cells (pc (.slice a ads.length cap) b l s).toArray 26)) := (Frm.refl [] w).alloc _
  have hq : (binOp .eql 24 (idv s) (idv (List.replicate 32 0))).run Try.prog = _ := funext fun W => eql24 s _ z1 (by simp) W
  have hg := fun op x y W => agg_guard op x y s (List.replicate 32 0) W
  have hres : hole ⟨ads, b, l, s⟩ = (decide (ads.length = 0) && (b == 0) && (l == 0) && (s == List.replicate 32 0)) := by simp only [hole, same, zeroPt, len0]
  rw [hres]
  clear hres s1
  simp only at *
  generalize ads.length = n at *
  generalize hz : List.replicate 32 (0 : UInt8) = zz at *
  unfold pv
  generalize hA : (pc (.slice a n cap) b l s).toArray = A at *
  have HZ := Lib.hid (show Value.agg #[.int .u8 0, .int .u8 0, .int .u8 0, .int .u8 0, .int .u8 0, .int .u8 0, .int .u8 0, .int .u8 0, .int .u8 0, .int .u8 0, .int .u8 0, .int .u8 0, .int .u8 0, .int .u8 0, .int .u8 0, .int .u8 0, .int .u8 0, .int .u8 0, .int .u8 0, .int .u8 0, .int .u8 0, .int .u8 0, .int .u8 0, .int .u8 0, .int .u8 0, .int .u8 0, .int .u8 0, .int .u8 0, .int .u8 0, .int .u8 0, .int .u8 0, .int .u8 0] = idv zz by subst hz; rfl)
  clear hz
  go_enter Try.func21, Try.ntmps21
  go_upto_region 1 with (fail)
  generalize w.alloc (.cells A 26) = W at *
  have G1 := B1.gets z1
  have c0 := G1.c0
  have c1 := G1.c1
  have c2 := G1.c2
  have G1h := Lib.hid G1
  clear hA G1 B1
  go_wp2_with (first | refine wpList_load_g (by rfl) 24 _ rfl _ rfl G1h.out.sum ?_ | (rw [HZ.out]))
  all_goals
    go_ret
    refine ⟨?_, f⟩
    simp_all [int_len]
theorem pos_eq (n m : Nat) : (decide ((0:Int) < (n : Int)) == decide ((0:Int) < (m : Int))) = (decide (n = 0) == decide (m = 0)) := by
  rw [Bool.eq_iff_iff]
  simp
  omega
set_option maxHeartbeats 1000000 in
theorem RefLike_any (x y : Value) (p q : Pt) (w : World) (hp : PtV w x p) (hq : PtV w y q) :
    Calls Try.prog 26 #[x, y] w fun e w' => e = .returned (.bool (like p q)) ∧ Frm [] w w' := by
  obtain ⟨a, cap, sp, rfl, s1, z1⟩ := hp
  obtain ⟨a2, cap2, sp2, rfl, s2, z2⟩ := hq
  obtain ⟨ads, b, l, s⟩ := p
  obtain ⟨bs, b2, l2, t⟩ := q
  simp only [like, sameB] at *
  have B1 := (PB.new w (.slice a ads.length cap) b l s).alloc (.cells (pc (.slice a2 bs.length cap2) b2 l2 t).toArray 26)
  have B2 := PB.new1 w (.cells (pc (.slice a ads.length cap) b l s).toArray 26) (.slice a2 bs.length cap2) b2 l2 t
  have f : Frm [] w ((w.alloc (.cells (pc (.slice a ads.length cap) b l s).toArray 26)).alloc (.cells (pc (.slice a2 bs.length cap2) b2 l2 t).toArray 26)) := ((Frm.refl [] w).alloc _).alloc _
  have hq : (binOp .eql 24 (idv s) (idv t)).run Try.prog = _ := funext fun W => eql24 s t z1 z2 W
  have hg := fun op x y W => agg_guard op x y s t W
  rw [← pos_eq]
  clear s1 s2
  generalize ads.length = n at *
  generalize bs.length = m at *
  by_cases e1 : b = b2
  · subst e1
    by_cases e2 : l = l2
    · subst e2
      simp only [beq_self_eq_true, Bool.true_and]
      generalize (s == t) = u3 at *
      cases u3
      · unfold pv
        generalize hA : (pc (.slice a n cap) b l s).toArray = A at *
        generalize hB : (pc (.slice a2 m cap2) b l t).toArray = B at *
        go_enter Try.func26, Try.ntmps26
        go_upto_region 1 with (fail)
        generalize (w.alloc (.cells A 26)).alloc (.cells B 26) = W at *
        have G1h := Lib.hid (B1.gets z1)
        have G2h := Lib.hid (B2.gets z2)
        have c0 := G1h.out.c0
        have c1 := G1h.out.c1
        have c2 := G1h.out.c2
        have d0 := G2h.out.c0
        have d1 := G2h.out.c1
        have d2 := G2h.out.c2
        clear hA hB B1 B2
        go_wp2_with (first | ((with_reducible (show wpList _ _ _ (Oper.mk _ (Op.load 24 (.tmp 18)) _ _ _ _ :: _) _ _)); refine wpList_load_g (by rfl) 24 (.tmp 18) rfl _ rfl G1h.out.sum ?_) | ((with_reducible (show wpList _ _ _ (Oper.mk _ (Op.load 24 (.tmp 20)) _ _ _ _ :: _) _ _)); refine wpList_load_g (by rfl) 24 (.tmp 20) rfl _ rfl G2h.out.sum ?_))
        go_ret
        exact ⟨ret_bool (by simp), f⟩
      · unfold pv
        generalize hA : (pc (.slice a n cap) b l s).toArray = A at *
        generalize hB : (pc (.slice a2 m cap2) b l t).toArray = B at *
        go_enter Try.func26, Try.ntmps26
        go_upto_region 1 with (fail)
        generalize (w.alloc (.cells A 26)).alloc (.cells B 26) = W at *
        have G1h := Lib.hid (B1.gets z1)
        have G2h := Lib.hid (B2.gets z2)
        have c0 := G1h.out.c0
        have c1 := G1h.out.c1
        have c2 := G1h.out.c2
        have d0 := G2h.out.c0
        have d1 := G2h.out.c1
        have d2 := G2h.out.c2
        clear hA hB B1 B2
        go_wp2_with (first | ((with_reducible (show wpList _ _ _ (Oper.mk _ (Op.load 24 (.tmp 18)) _ _ _ _ :: _) _ _)); refine wpList_load_g (by rfl) 24 (.tmp 18) rfl _ rfl G1h.out.sum ?_) | ((with_reducible (show wpList _ _ _ (Oper.mk _ (Op.load 24 (.tmp 20)) _ _ _ _ :: _) _ _)); refine wpList_load_g (by rfl) 24 (.tmp 20) rfl _ rfl G2h.out.sum ?_))
        go_ret
        exact ⟨ret_bool (by simp), f⟩
    · have e2' : (l == l2) = false := by simpa using e2
      clear e2
      unfold pv
      generalize hA : (pc (.slice a n cap) b l s).toArray = A at *
      generalize hB : (pc (.slice a2 m cap2) b l2 t).toArray = B at *
      go_enter Try.func26, Try.ntmps26
      go_upto_region 1 with (fail)
      generalize (w.alloc (.cells A 26)).alloc (.cells B 26) = W at *
      have G1h := Lib.hid (B1.gets z1)
      have G2h := Lib.hid (B2.gets z2)
      have c0 := G1h.out.c0
      have c1 := G1h.out.c1
      have c2 := G1h.out.c2
      have d0 := G2h.out.c0
      have d1 := G2h.out.c1
      have d2 := G2h.out.c2
      clear hA hB B1 B2
      go_wp2_with (first | ((with_reducible (show wpList _ _ _ (Oper.mk _ (Op.load 24 (.tmp 18)) _ _ _ _ :: _) _ _)); refine wpList_load_g (by rfl) 24 (.tmp 18) rfl _ rfl G1h.out.sum ?_) | ((with_reducible (show wpList _ _ _ (Oper.mk _ (Op.load 24 (.tmp 20)) _ _ _ _ :: _) _ _)); refine wpList_load_g (by rfl) 24 (.tmp 20) rfl _ rfl G2h.out.sum ?_))
      go_ret
      exact ⟨ret_bool (by simp [e2']), f⟩
  · have e1' : (b == b2) = false := by simpa using e1
    clear e1
    unfold pv
    generalize hA : (pc (.slice a n cap) b l s).toArray = A at *
    generalize hB : (pc (.slice a2 m cap2) b2 l2 t).toArray = B at *
    go_enter Try.func26, Try.ntmps26
    go_upto_region 1 with (fail)
    generalize (w.alloc (.cells A 26)).alloc (.cells B 26) = W at *
    have G1h := Lib.hid (B1.gets z1)
    have G2h := Lib.hid (B2.gets z2)
    have c0 := G1h.out.c0
    have c1 := G1h.out.c1
    have c2 := G1h.out.c2
    have d0 := G2h.out.c0
    have d1 := G2h.out.c1
    have d2 := G2h.out.c2
    clear hA hB B1 B2
    go_wp2_with (first | ((with_reducible (show wpList _ _ _ (Oper.mk _ (Op.load 24 (.tmp 18)) _ _ _ _ :: _) _ _)); refine wpList_load_g (by rfl) 24 (.tmp 18) rfl _ rfl G1h.out.sum ?_) | ((with_reducible (show wpList _ _ _ (Oper.mk _ (Op.load 24 (.tmp 20)) _ _ _ _ :: _) _ _)); refine wpList_load_g (by rfl) 24 (.tmp 20) rfl _ rfl G2h.out.sum ?_))
    go_ret
    exact ⟨ret_bool (by simp [e1']), f⟩
end Go.Proofs.Ytjjcjocomanohaa
