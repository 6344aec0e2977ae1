/-
  The walk of PointerReads. No conditions but those that each theorem names.
-/
import Derived.Test.YtjjcjocomanohaaPQ
import Derived.Test.YtjjcjocomanohaaQA
namespace Go.Proofs.Ytjjcjocomanohaa
open Go.RowKit
set_option linter.unusedVariables false
set_option linter.unusedSimpArgs false
set_option maxRecDepth 100000

set_option maxHeartbeats 8000000 in
theorem reads_any (y : Value) (l sp : List UInt8) (w : World) (hS : SlB w y l sp) : Calls Try.prog 4 #[y] w (Yes w) := by
  obtain ⟨ya, ycap, rfl, _, _⟩ := hS.form
  have HS := Lib.hid hS
  clear hS
  by_cases h2 : l.length ≤ 100
  · have HL := Lib.hid (fun W (f : Frm [] w W) => Lent_any (.slice ya l.length ycap) l sp W (HS.out.keep f (by simp)) (by omega))
    have HR1 := Lib.hid (fun v sp' W (h : SlB W v l sp') => Read_any v l sp' W h (by omega))
    have HR2 := Lib.hid (fun W (f : Frm [] w W) => RefRead_any (.slice ya l.length ycap) l sp W (HS.out.keep f (by simp)) (by omega))
    have hle : (readPt l).ads.length ≤ 1000000 := by have := read_len l; omega
    have HSP := Lib.hid (fun W v v' (h : PtV W v (readPt l)) (h' : PtV W v' (readPt l)) => SamePointer_any v v' (readPt l) (readPt l) W h h' hle)
    have HK := Lib.hid (fun g n cap W (hO : OwnB 5 W (.slice (some ⟨g, 0, none⟩) n cap) l (marks l.length 3)) (f : Frm [] w W) => Kept_true g n cap (.slice ya l.length ycap) l sp W hO (HS.out.keep f (by simp)) (by omega))
    rw [same_refl] at HSP
    unfold ReadP at HR1 HR2
    clear hle
    generalize readE l = e at *
    generalize readAt l = f at *
    generalize readPt l = p at *
    go_enter Try.func4, Try.ntmps4
    go_upto_region 4 with (go_at_call 28; refine (HL.out _ (Frm.refl [] w)).mono ?_; rintro r w1 ⟨rfl, o1, f1⟩)
    go_upto_region 5 with (first | (go_at_call 29; refine (HR1.out _ _ _ o1.sl).mono ?_; rintro r w3 ⟨x3, rfl, hx3, f3⟩; obtain ⟨a3, c3, s3, rfl, sx3, zx3⟩ := hx3) | (refine wpList_lay2 rfl rfl rfl rfl rfl rfl (.tmp 4) (.tmp 5) (.tmp 17) (.tmp 18) rfl rfl zx3 rfl rfl rfl rfl ?_))
    have l4 := Lay2.new w3 a3 c3 e f (p := p) zx3
    have hv4 := ptv_lay2 (e := e) (f := f) sx3 zx3
    have fL : Frm [] w3 ((w3.alloc (.cells (pc (.slice a3 p.ads.length c3) p.b p.l p.s).toArray 26)).alloc (.cells #[.int .i64 e, .int .i64 f] 40)) := ((Frm.refl [] w3).alloc _).alloc _
    have F4 := Lib.hid (f1.trans (f3.trans fL (by simp)) (by simp))
    have O4 := Lib.hid (o1.keep (f3.trans fL (by simp)) (by simp))
    generalize (w3.alloc (.cells (pc (.slice a3 p.ads.length c3) p.b p.l p.s).toArray 26)).alloc (.cells #[.int .i64 e, .int .i64 f] 40) = V at *
    have L4 := Lib.hid l4
    have V4 := Lib.hid hv4
    clear l4 hv4 fL f1 f3 o1 sx3
    generalize pv (.slice a3 p.ads.length c3) p.b p.l p.s = x4 at *
    go_upto_region 6 with (first | (go_at_call 30; refine (HR2.out _ F4.out).mono ?_; rintro r w5 ⟨x5, rfl, hx5, f5⟩; obtain ⟨a5, c5, s5, rfl, sx5, zx5⟩ := hx5) | (refine wpList_lay2 rfl rfl rfl rfl rfl rfl (.tmp 6) (.tmp 7) (.tmp 22) (.tmp 23) rfl rfl zx5 rfl rfl rfl rfl ?_))
    have l6 := Lay2.new w5 a5 c5 e f (p := p) zx5
    have hv6 := ptv_lay2 (e := e) (f := f) sx5 zx5
    have fM : Frm [] w5 ((w5.alloc (.cells (pc (.slice a5 p.ads.length c5) p.b p.l p.s).toArray 26)).alloc (.cells #[.int .i64 e, .int .i64 f] 40)) := ((Frm.refl [] w5).alloc _).alloc _
    have F6 := Lib.hid (F4.out.trans (f5.trans fM (by simp)) (by simp))
    have O6 := Lib.hid (O4.out.keep (f5.trans fM (by simp)) (by simp))
    have L46 := Lib.hid (L4.out.keep (f5.trans fM (by simp)))
    have V46 := Lib.hid (V4.out.keep0 (f5.trans fM (by simp)))
    generalize (w5.alloc (.cells (pc (.slice a5 p.ads.length c5) p.b p.l p.s).toArray 26)).alloc (.cells #[.int .i64 e, .int .i64 f] 40) = U at *
    have L6 := Lib.hid l6
    have V6 := Lib.hid hv6
    clear l6 hv6 fM f5 sx5 L4 V4 F4 O4
    generalize pv (.slice a5 p.ads.length c5) p.b p.l p.s = x6 at *
    have fz := Lib.hid (Frm.refl [] U)
    have c0 := L46.out.2.1
    have c1 := L46.out.2.2
    have d0 := L6.out.2.1
    have d1 := L6.out.2.2
    go_wp2_with (first
      | ((with_reducible (show wpList _ _ _ (Oper.mk _ (Op.load 26 (.tmp 4)) _ _ _ _ :: _) _ _)); refine wpList_load_g (by rfl) 26 _ rfl _ rfl (L46.out.1.keep0 fz.out).load ?_)
      | ((with_reducible (show wpList _ _ _ (Oper.mk _ (Op.load 26 (.tmp 6)) _ _ _ _ :: _) _ _)); refine wpList_load_g (by rfl) 26 _ rfl _ rfl (L6.out.1.keep0 fz.out).load ?_)
      | (go_at_call 27; refine (HSP.out _ _ _ (V46.out.keep0 fz.out) (V6.out.keep0 fz.out)).mono ?_; rintro r wn ⟨rfl, fn⟩; replace fz := Lib.hid (fz.out.trans fn (by simp)); have c0 := fn.cell c0 (by simp); have c1 := fn.cell c1 (by simp); have d0 := fn.cell d0 (by simp); have d1 := fn.cell d1 (by simp); clear fn)
      | (go_at_call 31; refine (HK.out _ _ _ _ (O6.out.keep fz.out (by simp)) (F6.out.trans fz.out (by simp))).mono ?_; rintro r wn ⟨rfl, fn⟩; replace fz := Lib.hid (fz.out.trans fn (by simp)); clear fn)
      | (go_at_call 13; refine (awake_any _).mono ?_; rintro r wn ⟨rfl, fn⟩; replace fz := Lib.hid (fz.out.trans fn (by simp)); clear fn))
    go_ret
    exact ⟨ret_bool (by simp), F6.out.trans fz.out (by simp)⟩
  · go_enter Try.func4, Try.ntmps4
    go_wp2_with (go_at_call 13; refine (awake_any _).mono ?_; rintro r w1 ⟨rfl, f1⟩)
    go_ret
    exact ⟨rfl, f1⟩
end Go.Proofs.Ytjjcjocomanohaa
