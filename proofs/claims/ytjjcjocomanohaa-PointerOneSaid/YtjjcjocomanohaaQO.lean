/-
  The walk of PointerOne. No conditions but those that each theorem names.
-/
import Derived.Test.YtjjcjocomanohaaQB
namespace Go.Proofs.Ytjjcjocomanohaa
open Go.RowKit
set_option linter.unusedVariables false
set_option linter.unusedSimpArgs false
set_option maxRecDepth 100000

set_option maxHeartbeats 8000000 in
theorem one_any (x : Value) (p : Pt) (y : Value) (q : Pt) (w : World) (hp : PtV w x p) (hq : PtV w y q) : Calls Try.prog 7 #[x, y] w (Yes w) := by
  have zp := hp.len
  have zq := hq.len
  obtain ⟨A, rfl, hA, hb1⟩ := hp.box
  obtain ⟨B, rfl, hB, hb2⟩ := hq.box
  have b1 : Boxed ((w.alloc (.cells A 26)).alloc (.cells B 26)) w.heap.size (.agg A) p := (hb1 w).keep0 ((Frm.refl [] _).alloc _)
  have b2 : Boxed ((w.alloc (.cells A 26)).alloc (.cells B 26)) (w.heap.size + 1) (.agg B) q := by have := hb2 (w.alloc (.cells A 26)); simpa using this
  have f0 : Frm [] w ((w.alloc (.cells A 26)).alloc (.cells B 26)) := ((Frm.refl [] w).alloc _).alloc _
  have HP := Lib.hid hp
  have HQ := Lib.hid hq
  clear hp hq hb1 hb2
  go_enter Try.func7, Try.ntmps7
  go_upto_region 1 with (fail)
  generalize (w.alloc (.cells A 26)).alloc (.cells B 26) = W at *
  go_upto_region 2 with (go_at_call 13; refine (awake_any _).mono ?_; rintro r w1 ⟨rfl, f1⟩)
  have B1 := Lib.hid (b1.keep0 f1)
  have B2 := Lib.hid (b2.keep0 f1)
  have F1 := Lib.hid (f0.trans f1 (by simp))
  obtain ⟨a1, c1, e1⟩ := B1.out.c0
  obtain ⟨a2, c2, e2⟩ := B2.out.c0
  clear b1 b2 f0 f1
  by_cases h1 : p.ads.length ≤ 20
  · by_cases h2 : q.ads.length ≤ 20
    · go_upto_region 4 with (fail)
      have HBp := Lib.hid (fun W (f : Frm [] w W) => Bytes_any (.agg A) p W (HP.out.keep0 f) (by omega))
      have HBq := Lib.hid (fun W (f : Frm [] w W) => Bytes_any (.agg B) q W (HQ.out.keep0 f) (by omega))
      have HS := Lib.hid (fun W (f : Frm [] w W) => Same_any (.agg A) (.agg B) p q W (HP.out.keep0 f) (HQ.out.keep0 f) (by omega))
      have HS2 := Lib.hid (fun W (f : Frm [] w W) => Same_any (.agg B) (.agg A) q p W (HQ.out.keep0 f) (HP.out.keep0 f) (by omega))
      have HS1 := Lib.hid (fun W (f : Frm [] w W) => Same_any (.agg A) (.agg A) p p W (HP.out.keep0 f) (HP.out.keep0 f) (by omega))
      have HL := Lib.hid (fun W (f : Frm [] w W) => Like_any (.agg A) (.agg B) p q W (HP.out.keep0 f) (HQ.out.keep0 f))
      have HSP := Lib.hid (fun W (f : Frm [] w W) => SamePointer_any (.agg A) (.agg B) p q W (HP.out.keep0 f) (HQ.out.keep0 f) (by omega))
      have hlk : same p q = true → like p q = true := fun h => by rw [same_iff.1 h]; exact like_refl q
      have hone : same p q = false → may p → may q → (enc p == enc q) = false := fun h m1 m2 => by
        rw [beq_eq_false_iff_ne]
        intro e
        rw [enc_inj m1 m2 zp zq e] at h
        rw [same_refl] at h
        cases h
      have hsm : same p q = true → outB p = outB q ∧ chk p = chk q := fun h => by rw [same_iff.1 h]; exact ⟨rfl, rfl⟩
      rw [same_comm] at HS2
      rw [same_refl] at HS1
      have kp := chk_cases p
      have kq := chk_cases q
      have KP := Lib.hid kp
      have KQ := Lib.hid kq
      have HLK := Lib.hid hlk
      have HONE := Lib.hid hone
      have HSM := Lib.hid hsm
      unfold BytesP at HBp HBq
      clear hlk hone hsm kp kq e1 e2 h1 h2 zp zq
      generalize outB p = op at *
      generalize outB q = oq at *
      generalize chk p = kp at *
      generalize chk q = kq at *
      generalize same p q = sm at *
      generalize like p q = lk at *
      go_upto_region 5 with (first | ((with_reducible (show wpList _ _ _ (Oper.mk _ (Op.load 26 (.tmp 2)) _ _ _ _ :: _) _ _)); refine wpList_load_g (by rfl) 26 _ rfl _ rfl B1.out.load ?_) | (go_at_call 15; refine (HBp.out _ F1.out).mono ?_; rintro r w2 ⟨xa, xc, xsp, rfl, o2, f2, n2⟩))
      have B3 := Lib.hid (B2.out.keep0 f2)
      have F2 := Lib.hid (F1.out.trans f2 (by simp))
      go_upto_region 6 with (first | ((with_reducible (show wpList _ _ _ (Oper.mk _ (Op.load 26 (.tmp 3)) _ _ _ _ :: _) _ _)); refine wpList_load_g (by rfl) 26 _ rfl _ rfl B3.out.load ?_) | (go_at_call 15; refine (HBq.out _ F2.out).mono ?_; rintro r w3 ⟨ya, yc, ysp, rfl, o3, f3, n3⟩))
      have F3 := Lib.hid (F2.out.trans f3 (by simp))
      have P3 := Lib.hid (o2.sl.keep f3 (by simp))
      have Q3 := Lib.hid o3.sl
      have C1 := Lib.hid (fun W (f : Frm [] w3 W) => (B1.out.keep0 (f2.trans (f3.trans f (by simp)) (by simp))).load)
      have C2 := Lib.hid (fun W (f : Frm [] w3 W) => (B3.out.keep0 (f3.trans f (by simp))).load)
      have D := Lib.hid (Frm.refl [] w3)
      clear o2 o3 f2 f3 n2 n3
      cases sm with
      | true =>
        obtain ⟨rfl, rfl⟩ := HSM.out rfl
        obtain rfl := HLK.out rfl
        have HEQ := Lib.hid (show (op == op) = true by simp)
        have fz := Lib.hid (Frm.refl [] w3)
        go_upto_region 9 with (first
        | ((with_reducible (show wpList _ _ _ (Oper.mk _ (Op.load 26 (.tmp 2)) _ _ _ _ :: _) _ _)); refine wpList_load_g (by rfl) 26 _ rfl _ rfl (C1.out _ fz.out) ?_)
        | ((with_reducible (show wpList _ _ _ (Oper.mk _ (Op.load 26 (.tmp 3)) _ _ _ _ :: _) _ _)); refine wpList_load_g (by rfl) 26 _ rfl _ rfl (C2.out _ fz.out) ?_)
        | (go_at_call 23; (first | with_reducible refine (HS.out _ (F3.out.trans fz.out (by simp))).mono ?_ | with_reducible refine (HS2.out _ (F3.out.trans fz.out (by simp))).mono ?_ | with_reducible refine (HS1.out _ (F3.out.trans fz.out (by simp))).mono ?_); rintro r wn ⟨rfl, fn⟩; replace fz := Lib.hid (fz.out.trans fn (by simp)); clear fn)
        | (go_at_call 25; refine (HL.out _ (F3.out.trans fz.out (by simp))).mono ?_; rintro r wn ⟨rfl, fn⟩; replace fz := Lib.hid (fz.out.trans fn (by simp)); clear fn)
        | (go_at_call 27; refine (HSP.out _ (F3.out.trans fz.out (by simp))).mono ?_; rintro r wn ⟨rfl, fn⟩; replace fz := Lib.hid (fz.out.trans fn (by simp)); clear fn)
        | (go_at_call 17; refine (SameBytes_any _ _ _ _ _ _ _ (P3.out.keep fz.out (by simp)) (Q3.out.keep fz.out (by simp))).mono ?_; rintro r wn ⟨rfl, rfl⟩))
        rcases KP.out with ⟨m, rfl, -⟩ | ⟨m, rfl, -⟩
        all_goals
          go_wp2_with (first
        | ((with_reducible (show wpList _ _ _ (Oper.mk _ (Op.load 26 (.tmp 2)) _ _ _ _ :: _) _ _)); refine wpList_load_g (by rfl) 26 _ rfl _ rfl (C1.out _ fz.out) ?_)
        | ((with_reducible (show wpList _ _ _ (Oper.mk _ (Op.load 26 (.tmp 3)) _ _ _ _ :: _) _ _)); refine wpList_load_g (by rfl) 26 _ rfl _ rfl (C2.out _ fz.out) ?_)
        | (go_at_call 23; (first | with_reducible refine (HS.out _ (F3.out.trans fz.out (by simp))).mono ?_ | with_reducible refine (HS2.out _ (F3.out.trans fz.out (by simp))).mono ?_ | with_reducible refine (HS1.out _ (F3.out.trans fz.out (by simp))).mono ?_); rintro r wn ⟨rfl, fn⟩; replace fz := Lib.hid (fz.out.trans fn (by simp)); clear fn)
        | (go_at_call 25; refine (HL.out _ (F3.out.trans fz.out (by simp))).mono ?_; rintro r wn ⟨rfl, fn⟩; replace fz := Lib.hid (fz.out.trans fn (by simp)); clear fn)
        | (go_at_call 27; refine (HSP.out _ (F3.out.trans fz.out (by simp))).mono ?_; rintro r wn ⟨rfl, fn⟩; replace fz := Lib.hid (fz.out.trans fn (by simp)); clear fn)
        | (go_at_call 17; refine (SameBytes_any _ _ _ _ _ _ _ (P3.out.keep fz.out (by simp)) (Q3.out.keep fz.out (by simp))).mono ?_; rintro r wn ⟨rfl, rfl⟩))
          go_ret
          first | exact ⟨rfl, F3.out.trans fz.out (by simp)⟩ | exact ⟨by rw [HEQ.out]; rfl, F3.out.trans fz.out (by simp)⟩
      | false =>
        have fz := Lib.hid (Frm.refl [] w3)
        go_upto_region 9 with (first
        | ((with_reducible (show wpList _ _ _ (Oper.mk _ (Op.load 26 (.tmp 2)) _ _ _ _ :: _) _ _)); refine wpList_load_g (by rfl) 26 _ rfl _ rfl (C1.out _ fz.out) ?_)
        | ((with_reducible (show wpList _ _ _ (Oper.mk _ (Op.load 26 (.tmp 3)) _ _ _ _ :: _) _ _)); refine wpList_load_g (by rfl) 26 _ rfl _ rfl (C2.out _ fz.out) ?_)
        | (go_at_call 23; (first | with_reducible refine (HS.out _ (F3.out.trans fz.out (by simp))).mono ?_ | with_reducible refine (HS2.out _ (F3.out.trans fz.out (by simp))).mono ?_ | with_reducible refine (HS1.out _ (F3.out.trans fz.out (by simp))).mono ?_); rintro r wn ⟨rfl, fn⟩; replace fz := Lib.hid (fz.out.trans fn (by simp)); clear fn)
        | (go_at_call 25; refine (HL.out _ (F3.out.trans fz.out (by simp))).mono ?_; rintro r wn ⟨rfl, fn⟩; replace fz := Lib.hid (fz.out.trans fn (by simp)); clear fn)
        | (go_at_call 27; refine (HSP.out _ (F3.out.trans fz.out (by simp))).mono ?_; rintro r wn ⟨rfl, fn⟩; replace fz := Lib.hid (fz.out.trans fn (by simp)); clear fn)
        | (go_at_call 17; refine (SameBytes_any _ _ _ _ _ _ _ (P3.out.keep fz.out (by simp)) (Q3.out.keep fz.out (by simp))).mono ?_; rintro r wn ⟨rfl, rfl⟩))
        rcases KP.out with ⟨m, rfl, e⟩ | ⟨m, rfl, e⟩
        · rcases KQ.out with ⟨m2, rfl, e2⟩ | ⟨m2, rfl, e2⟩
          · have HEQ := Lib.hid (show (op == oq) = false by rw [e, e2]; exact HONE.out (by simp) m m2)
            clear e e2
            go_wp2_with (first
        | ((with_reducible (show wpList _ _ _ (Oper.mk _ (Op.load 26 (.tmp 2)) _ _ _ _ :: _) _ _)); refine wpList_load_g (by rfl) 26 _ rfl _ rfl (C1.out _ fz.out) ?_)
        | ((with_reducible (show wpList _ _ _ (Oper.mk _ (Op.load 26 (.tmp 3)) _ _ _ _ :: _) _ _)); refine wpList_load_g (by rfl) 26 _ rfl _ rfl (C2.out _ fz.out) ?_)
        | (go_at_call 23; (first | with_reducible refine (HS.out _ (F3.out.trans fz.out (by simp))).mono ?_ | with_reducible refine (HS2.out _ (F3.out.trans fz.out (by simp))).mono ?_ | with_reducible refine (HS1.out _ (F3.out.trans fz.out (by simp))).mono ?_); rintro r wn ⟨rfl, fn⟩; replace fz := Lib.hid (fz.out.trans fn (by simp)); clear fn)
        | (go_at_call 25; refine (HL.out _ (F3.out.trans fz.out (by simp))).mono ?_; rintro r wn ⟨rfl, fn⟩; replace fz := Lib.hid (fz.out.trans fn (by simp)); clear fn)
        | (go_at_call 27; refine (HSP.out _ (F3.out.trans fz.out (by simp))).mono ?_; rintro r wn ⟨rfl, fn⟩; replace fz := Lib.hid (fz.out.trans fn (by simp)); clear fn)
        | (go_at_call 17; refine (SameBytes_any _ _ _ _ _ _ _ (P3.out.keep fz.out (by simp)) (Q3.out.keep fz.out (by simp))).mono ?_; rintro r wn ⟨rfl, rfl⟩))
            go_ret
            first | exact ⟨rfl, F3.out.trans fz.out (by simp)⟩ | exact ⟨by rw [HEQ.out]; rfl, F3.out.trans fz.out (by simp)⟩
          · clear e e2
            go_wp2_with (first
        | ((with_reducible (show wpList _ _ _ (Oper.mk _ (Op.load 26 (.tmp 2)) _ _ _ _ :: _) _ _)); refine wpList_load_g (by rfl) 26 _ rfl _ rfl (C1.out _ fz.out) ?_)
        | ((with_reducible (show wpList _ _ _ (Oper.mk _ (Op.load 26 (.tmp 3)) _ _ _ _ :: _) _ _)); refine wpList_load_g (by rfl) 26 _ rfl _ rfl (C2.out _ fz.out) ?_)
        | (go_at_call 23; (first | with_reducible refine (HS.out _ (F3.out.trans fz.out (by simp))).mono ?_ | with_reducible refine (HS2.out _ (F3.out.trans fz.out (by simp))).mono ?_ | with_reducible refine (HS1.out _ (F3.out.trans fz.out (by simp))).mono ?_); rintro r wn ⟨rfl, fn⟩; replace fz := Lib.hid (fz.out.trans fn (by simp)); clear fn)
        | (go_at_call 25; refine (HL.out _ (F3.out.trans fz.out (by simp))).mono ?_; rintro r wn ⟨rfl, fn⟩; replace fz := Lib.hid (fz.out.trans fn (by simp)); clear fn)
        | (go_at_call 27; refine (HSP.out _ (F3.out.trans fz.out (by simp))).mono ?_; rintro r wn ⟨rfl, fn⟩; replace fz := Lib.hid (fz.out.trans fn (by simp)); clear fn)
        | (go_at_call 17; refine (SameBytes_any _ _ _ _ _ _ _ (P3.out.keep fz.out (by simp)) (Q3.out.keep fz.out (by simp))).mono ?_; rintro r wn ⟨rfl, rfl⟩))
            go_ret
            exact ⟨rfl, F3.out.trans fz.out (by simp)⟩
        · clear e
          go_wp2_with (first
        | ((with_reducible (show wpList _ _ _ (Oper.mk _ (Op.load 26 (.tmp 2)) _ _ _ _ :: _) _ _)); refine wpList_load_g (by rfl) 26 _ rfl _ rfl (C1.out _ fz.out) ?_)
        | ((with_reducible (show wpList _ _ _ (Oper.mk _ (Op.load 26 (.tmp 3)) _ _ _ _ :: _) _ _)); refine wpList_load_g (by rfl) 26 _ rfl _ rfl (C2.out _ fz.out) ?_)
        | (go_at_call 23; (first | with_reducible refine (HS.out _ (F3.out.trans fz.out (by simp))).mono ?_ | with_reducible refine (HS2.out _ (F3.out.trans fz.out (by simp))).mono ?_ | with_reducible refine (HS1.out _ (F3.out.trans fz.out (by simp))).mono ?_); rintro r wn ⟨rfl, fn⟩; replace fz := Lib.hid (fz.out.trans fn (by simp)); clear fn)
        | (go_at_call 25; refine (HL.out _ (F3.out.trans fz.out (by simp))).mono ?_; rintro r wn ⟨rfl, fn⟩; replace fz := Lib.hid (fz.out.trans fn (by simp)); clear fn)
        | (go_at_call 27; refine (HSP.out _ (F3.out.trans fz.out (by simp))).mono ?_; rintro r wn ⟨rfl, fn⟩; replace fz := Lib.hid (fz.out.trans fn (by simp)); clear fn)
        | (go_at_call 17; refine (SameBytes_any _ _ _ _ _ _ _ (P3.out.keep fz.out (by simp)) (Q3.out.keep fz.out (by simp))).mono ?_; rintro r wn ⟨rfl, rfl⟩))
          go_ret
          exact ⟨rfl, F3.out.trans fz.out (by simp)⟩
    · go_wp2_with fail
      go_ret
      exact ⟨rfl, F1.out⟩
  · go_wp2_with fail
    go_ret
    exact ⟨rfl, F1.out⟩
end Go.Proofs.Ytjjcjocomanohaa
