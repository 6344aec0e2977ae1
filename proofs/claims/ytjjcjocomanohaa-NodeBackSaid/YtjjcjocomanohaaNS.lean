/-
  The walk of NodeBack. No conditions but those that each theorem names.
-/
import Derived.Test.YtjjcjocomanohaaNP
namespace Go.Proofs.Ytjjcjocomanohaa
open Go.RowKit
set_option linter.unusedVariables false
set_option linter.unusedSimpArgs false
set_option maxRecDepth 100000

theorem goodN_len {S : List UInt8} (h : goodN S = true) : S.length = 256 := by
  simp only [goodN, Bool.and_eq_true, beq_iff_eq] at h
  exact h.1
set_option maxHeartbeats 8000000 in
theorem nback_any (x : Value) (n : Nd) (y : Value) (l sp : List UInt8) (w : World) (hn : NdV w x n) (hS : SlB w y l sp) : Calls Try.prog 11 #[x, y] w (Yes w) := by
  have hlens : ∀ p ∈ n.ps, p.s.length = 32 := by
    obtain ⟨As, _, hps⟩ := hn
    exact hps.lens
  have h4 : n.ps.length = 4 := by
    obtain ⟨As, _, hps⟩ := hn
    exact hps.2.1
  have HNV := Lib.hid hn
  have HBig := Lib.hid (fun W (f : Frm [] w W) => Big_any x n W (hn.keep0 f))
  obtain ⟨N, rfl, hN, As, hps, hbx⟩ := hn.box
  obtain ⟨ya, ycap, rfl, _, _⟩ := hS.form
  have b0 := hbx w
  have f0 : Frm [] w (w.alloc (.cells N 51)) := (Frm.refl [] w).alloc _
  have HS := Lib.hid hS
  clear hS hbx hn
  go_enter Try.func11, Try.ntmps11
  go_upto_region 1 with (fail)
  generalize w.alloc (.cells N 51) = W at *
  go_upto_region 2 with (go_at_call 10; refine (nknown_any _).mono ?_; rintro r w1 ⟨rfl, f1⟩)
  have B1 := Lib.hid (b0.keep0 f1)
  have F1 := Lib.hid (f0.trans f1 (by simp))
  clear b0 f0 f1
  cases hbig : bigB n with
  | true =>
    rw [hbig] at HBig
    clear hbig
    go_wp2_with (first
      | ((with_reducible (show wpList _ _ _ (Oper.mk _ (Op.load 51 _) _ _ _ _ :: _) _ _)); refine wpList_load_g (by rfl) 51 _ rfl _ rfl B1.out.load ?_)
      | (go_at_call 34; refine (HBig.out _ F1.out).mono ?_; rintro r w2 ⟨rfl, f2⟩))
    go_ret
    exact ⟨rfl, F1.out.trans f2 (by simp)⟩
  | false =>
    have hads : ∀ p ∈ n.ps, p.ads.length ≤ 1000000 := fun p hp => by have := big_ads hbig p hp; omega
    rw [hbig] at HBig
    clear hbig
    by_cases hl : l.length ≤ 300
    · have HP := Lib.hid (fun W (f : Frm [] w W) => Pack_any (.agg N) n W (HNV.out.keep0 f) hads)
      have HC := Lib.hid (fun W (f : Frm [] w W) => nodeCheck_any (.agg N) n W (HNV.out.keep0 f) hads)
      have HSN := Lib.hid (fun W v (hv : NdV W v n) (f : Frm [] w W) => SameNode_true v (.agg N) n W hv (HNV.out.keep0 f) hads)
      have HU := Lib.hid (fun W (f : Frm [] w W) => Unpack_any (.slice ya l.length ycap) l sp W (HS.out.keep f (by simp)) (by omega))
      have HZ := Lib.hid (fun W v (hv : NdV W v zeroNd) => SameNode_true v (.agg (nc 0 zAs).toArray) zeroNd W hv (zeroNd_v W) zero_ads)
      have HPU := Lib.hid (fun W v (hv : NdV W v (unNd l)) => Pack_any v (unNd l) W hv (unNd_ads l))
      have HU9 := Lib.hid (unpack_cases l)
      have h300 : (l.length : Int) ≤ 300 := by omega
      unfold PackP at HP HPU
      unfold UnP at HU
      generalize unE l = ue at *
      generalize unNd l = un at *
      go_upto_region 4 with (first
        | ((with_reducible (show wpList _ _ _ (Oper.mk (some 15) (Op.load 51 _) _ _ _ _ :: _) _ _)); refine wpList_load_g (by rfl) 51 _ rfl _ rfl B1.out.load ?_)
        | (go_at_call 34; refine (HBig.out _ F1.out).mono ?_; rintro r w2 ⟨rfl, f2⟩))
      have B2 := Lib.hid (B1.out.keep0 f2)
      have F2 := Lib.hid (F1.out.trans f2 (by simp))
      clear f2 B1 F1 hl h300
      rcases nchk_cases n with ⟨hb, hc⟩ | ⟨hb, hc⟩
      · obtain ⟨hg, hnd⟩ := pack_good hb h4 hlens
        have HU1 := Lib.hid (fun W v sp' (h : SlB W v (secB n) sp') => Unpack_any v (secB n) sp' W h (by rw [goodN_len hg]; omega))
        unfold UnP at HU1
        rw [show unE (secB n) = 0 by simp [unE, hg], show unNd (secB n) = n by simp [unNd, hg, hnd]] at HU1
        have hlen : (secB n).length = 256 := goodN_len hg
        rw [hc, show packB n = secB n by simp [packB, hb], hlen] at HP
        rw [hc] at HC
        clear hb hc hg hnd hlen h4 hlens hads
        generalize secB n = S at *
        go_upto_region 6 with (first
          | ((with_reducible (show wpList _ _ _ (Oper.mk _ (Op.load 51 _) _ _ _ _ :: _) _ _)); refine wpList_load_g (by rfl) 51 _ rfl _ rfl B2.out.load ?_)
          | (go_at_call 37; refine (HP.out _ F2.out).mono ?_; rintro r w3 ⟨xa, xc, xsp, rfl, o3, f3, n3⟩))
        go_upto_region 7 with (first
          | (go_at_call 47; refine (HU1.out _ _ _ o3.sl).mono ?_; rintro r w4 ⟨x4, rfl, ⟨Bs, rfl, hbs⟩, f4⟩)
          | ((with_reducible (show wpList _ _ _ (Oper.mk _ (Op.alloc 51) _ _ _ _ :: _) _ _)); refine wpList_lay51 rfl rfl rfl (.tmp 8) (.tmp 33) rfl hbs.1 hbs.rows rfl rfl ?_))
        have hB8 : NB (w4.alloc (.cells (nc n.lv Bs).toArray 51)) w4.heap.size n.lv Bs := NB.new _ _ hbs.1 hbs.rows
        have hv8 : NdV (w4.alloc (.cells (nc n.lv Bs).toArray 51)) (.agg (nc n.lv Bs).toArray) n := ⟨Bs, rfl, hbs.keep0 ((Frm.refl [] _).alloc _)⟩
        have hF := f3.trans (f4.alloc (.cells (nc n.lv Bs).toArray 51)) (by simp)
        generalize w4.alloc (.cells (nc n.lv Bs).toArray 51) = V at *
        have B8 := Lib.hid hB8
        have V8 := Lib.hid hv8
        have B5 := Lib.hid (B2.out.keep0 hF)
        have F5 := Lib.hid (F2.out.trans hF (by simp))
        clear hB8 hv8 hF f3 f4 o3 n3 hbs B2 F2
        have fz := Lib.hid (Frm.refl [] V)
        go_upto_region 9 with (first
          | ((with_reducible (show wpList _ _ _ (Oper.mk _ (Op.load 51 (.tmp 8)) _ _ _ _ :: _) _ _)); refine wpList_load_g (by rfl) 51 _ rfl _ rfl (B8.out.keep0 fz.out).all ?_)
          | ((with_reducible (show wpList _ _ _ (Oper.mk _ (Op.load 51 (.tmp 2)) _ _ _ _ :: _) _ _)); refine wpList_load_g (by rfl) 51 _ rfl _ rfl (B5.out.keep0 fz.out).load ?_)
          | (go_at_call 45; refine (HSN.out _ _ (V8.out.keep0 fz.out) (F5.out.trans fz.out (by simp))).mono ?_; rintro r wn ⟨rfl, fn⟩; replace fz := Lib.hid (fz.out.trans fn (by simp)); clear fn))
        have F9 := Lib.hid (F5.out.trans fz.out (by simp))
        have B9 := Lib.hid (B5.out.keep0 fz.out)
        clear fz B8 V8 B5 F5
        go_upto_region 10 with (first
          | (go_at_call 47; refine (HU.out _ F9.out).mono ?_; rintro r w6 ⟨x6, rfl, ⟨Cs, rfl, hcs⟩, f6⟩)
          | ((with_reducible (show wpList _ _ _ (Oper.mk _ (Op.alloc 51) _ _ _ _ :: _) _ _)); refine wpList_lay51 rfl rfl rfl (.tmp 10) (.tmp 51) rfl hcs.1 hcs.rows rfl rfl ?_))
        have hB6 : NB (w6.alloc (.cells (nc un.lv Cs).toArray 51)) w6.heap.size un.lv Cs := NB.new _ _ hcs.1 hcs.rows
        have hv6 : NdV (w6.alloc (.cells (nc un.lv Cs).toArray 51)) (.agg (nc un.lv Cs).toArray) un := ⟨Cs, rfl, hcs.keep0 ((Frm.refl [] _).alloc _)⟩
        have hF := f6.alloc (.cells (nc un.lv Cs).toArray 51)
        generalize w6.alloc (.cells (nc un.lv Cs).toArray 51) = U at *
        have B6 := Lib.hid hB6
        have V6 := Lib.hid hv6
        have BB := Lib.hid (B9.out.keep0 hF)
        have FU := Lib.hid (F9.out.trans hF (by simp))
        have fy := Lib.hid (Frm.refl [] U)
        clear hB6 hv6 hF f6 hcs B9 F9
        rcases HU9.out with ⟨e0, e1, e2⟩ | ⟨e0, e1⟩
        · subst e0
          rw [e1, e2] at HPU
          have HEQ := Lib.hid (show (l == l) = true by simp)
          clear e1 e2
          go_wp2_with (first
            | ((with_reducible (show wpList _ _ _ (Oper.mk _ (Op.load 51 (.tmp 10)) _ _ _ _ :: _) _ _)); refine wpList_load_g (by rfl) 51 _ rfl _ rfl (B6.out.keep0 fy.out).all ?_)
            | (go_at_call 37; refine (HPU.out _ _ (V6.out.keep0 fy.out)).mono ?_; rintro r wn ⟨za, zc, zsp, rfl, oz, fn, nz⟩; replace fy := Lib.hid (fy.out.trans fn (by simp)); clear fn)
            | (go_at_call 17; refine (SameBytes_any _ _ _ zsp _ sp _ oz.sl (HS.out.keep (FU.out.trans fy.out (by simp)) (by simp))).mono ?_; rw [HEQ.out]; rintro r wn ⟨rfl, rfl⟩))
          go_ret
          exact ⟨rfl, FU.out.trans fy.out (by simp)⟩
        · subst e1
          have hne : (ue == 0) = false := by simpa using e0
          clear e0
          go_wp2_with (first
            | ((with_reducible (show wpList _ _ _ (Oper.mk _ (Op.load 51 (.tmp 10)) _ _ _ _ :: _) _ _)); refine wpList_load_g (by rfl) 51 _ rfl _ rfl (B6.out.keep0 fy.out).all ?_)
            | ((with_reducible (show wpList _ _ _ (Oper.mk _ (Op.load 51 (.tmp 2)) _ _ _ _ :: _) _ _)); refine wpList_load_g (by rfl) 51 _ rfl _ rfl (BB.out.keep0 fy.out).load ?_)
            | ((with_reducible (show wpList _ _ _ (Oper.mk _ (Op.build 51 _) _ _ _ _ :: _) _ _)); refine wpList_val_g (by rfl) (exec_bld51z rfl _) ?_)
            | (go_at_call 39; refine (HC.out _ (FU.out.trans fy.out (by simp))).mono ?_; rintro r wn ⟨rfl, fn⟩; replace fy := Lib.hid (fy.out.trans fn (by simp)); clear fn)
            | (go_at_call 45; refine (HZ.out _ _ (V6.out.keep0 fy.out)).mono ?_; rintro r wn ⟨rfl, fn⟩; replace fy := Lib.hid (fy.out.trans fn (by simp)); clear fn))
          go_ret
          exact ⟨rfl, FU.out.trans fy.out (by simp)⟩
      · rw [hc] at HP HC
        rw [show packB n = [] by simp [packB, hb]] at HP
        clear hb hc h4 hlens hads
        go_upto_region 9 with (first
          | ((with_reducible (show wpList _ _ _ (Oper.mk _ (Op.load 51 _) _ _ _ _ :: _) _ _)); refine wpList_load_g (by rfl) 51 _ rfl _ rfl B2.out.load ?_)
          | (go_at_call 37; refine (HP.out _ F2.out).mono ?_; rintro r wn ⟨xa, xc, xsp, rfl, o3, f3, n3⟩))
        have F9 := Lib.hid (F2.out.trans f3 (by simp))
        have B9 := Lib.hid (B2.out.keep0 f3)
        clear f3 o3 n3 B2 F2
        go_upto_region 10 with (first
          | (go_at_call 47; refine (HU.out _ F9.out).mono ?_; rintro r w6 ⟨x6, rfl, ⟨Cs, rfl, hcs⟩, f6⟩)
          | ((with_reducible (show wpList _ _ _ (Oper.mk _ (Op.alloc 51) _ _ _ _ :: _) _ _)); refine wpList_lay51 rfl rfl rfl (.tmp 10) (.tmp 51) rfl hcs.1 hcs.rows rfl rfl ?_))
        have hB6 : NB (w6.alloc (.cells (nc un.lv Cs).toArray 51)) w6.heap.size un.lv Cs := NB.new _ _ hcs.1 hcs.rows
        have hv6 : NdV (w6.alloc (.cells (nc un.lv Cs).toArray 51)) (.agg (nc un.lv Cs).toArray) un := ⟨Cs, rfl, hcs.keep0 ((Frm.refl [] _).alloc _)⟩
        have hF := f6.alloc (.cells (nc un.lv Cs).toArray 51)
        generalize w6.alloc (.cells (nc un.lv Cs).toArray 51) = U at *
        have B6 := Lib.hid hB6
        have V6 := Lib.hid hv6
        have BB := Lib.hid (B9.out.keep0 hF)
        have FU := Lib.hid (F9.out.trans hF (by simp))
        have fy := Lib.hid (Frm.refl [] U)
        clear hB6 hv6 hF f6 hcs B9 F9
        rcases HU9.out with ⟨e0, e1, e2⟩ | ⟨e0, e1⟩
        · subst e0
          rw [e1, e2] at HPU
          have HEQ := Lib.hid (show (l == l) = true by simp)
          clear e1 e2
          go_wp2_with (first
            | ((with_reducible (show wpList _ _ _ (Oper.mk _ (Op.load 51 (.tmp 10)) _ _ _ _ :: _) _ _)); refine wpList_load_g (by rfl) 51 _ rfl _ rfl (B6.out.keep0 fy.out).all ?_)
            | (go_at_call 37; refine (HPU.out _ _ (V6.out.keep0 fy.out)).mono ?_; rintro r wn ⟨za, zc, zsp, rfl, oz, fn, nz⟩; replace fy := Lib.hid (fy.out.trans fn (by simp)); clear fn)
            | (go_at_call 17; refine (SameBytes_any _ _ _ zsp _ sp _ oz.sl (HS.out.keep (FU.out.trans fy.out (by simp)) (by simp))).mono ?_; rw [HEQ.out]; rintro r wn ⟨rfl, rfl⟩))
          go_ret
          exact ⟨rfl, FU.out.trans fy.out (by simp)⟩
        · subst e1
          have hne : (ue == 0) = false := by simpa using e0
          clear e0
          go_wp2_with (first
            | ((with_reducible (show wpList _ _ _ (Oper.mk _ (Op.load 51 (.tmp 10)) _ _ _ _ :: _) _ _)); refine wpList_load_g (by rfl) 51 _ rfl _ rfl (B6.out.keep0 fy.out).all ?_)
            | ((with_reducible (show wpList _ _ _ (Oper.mk _ (Op.load 51 (.tmp 2)) _ _ _ _ :: _) _ _)); refine wpList_load_g (by rfl) 51 _ rfl _ rfl (BB.out.keep0 fy.out).load ?_)
            | ((with_reducible (show wpList _ _ _ (Oper.mk _ (Op.build 51 _) _ _ _ _ :: _) _ _)); refine wpList_val_g (by rfl) (exec_bld51z rfl _) ?_)
            | (go_at_call 39; refine (HC.out _ (FU.out.trans fy.out (by simp))).mono ?_; rintro r wn ⟨rfl, fn⟩; replace fy := Lib.hid (fy.out.trans fn (by simp)); clear fn)
            | (go_at_call 45; refine (HZ.out _ _ (V6.out.keep0 fy.out)).mono ?_; rintro r wn ⟨rfl, fn⟩; replace fy := Lib.hid (fy.out.trans fn (by simp)); clear fn))
          go_ret
          exact ⟨rfl, FU.out.trans fy.out (by simp)⟩
    · go_wp2_with (first
        | ((with_reducible (show wpList _ _ _ (Oper.mk _ (Op.load 51 _) _ _ _ _ :: _) _ _)); refine wpList_load_g (by rfl) 51 _ rfl _ rfl B1.out.load ?_)
        | (go_at_call 34; refine (HBig.out _ F1.out).mono ?_; rintro r w2 ⟨rfl, f2⟩))
      go_ret
      exact ⟨rfl, F1.out.trans f2 (by simp)⟩
end Go.Proofs.Ytjjcjocomanohaa
