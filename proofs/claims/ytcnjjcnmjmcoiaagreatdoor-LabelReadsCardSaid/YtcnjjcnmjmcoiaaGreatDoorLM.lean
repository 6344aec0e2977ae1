/-
  The walk of LabelReads. No conditions but those that each theorem names.
-/
import Derived.Test.YtcnjjcnmjmcoiaaGreatDoorLK
import Derived.Test.YtcnjjcnmjmcoiaaGreatDoorLL
import Derived.Test.YtcnjjcnmjmcoiaaGreatDoorFA

namespace Go.Proofs.YtcnjjcnmjmcoiaaGreatDoor
open Go.RowKit
set_option linter.unusedVariables false
set_option linter.unusedSimpArgs false
set_option maxRecDepth 100000

theorem unp_len (b : List UInt8) : (unp b).1.pool.length = 32 := by
  rcases unp_cases b with ⟨e, _, h⟩ | ⟨h, h1, _⟩
  · rw [h]; rfl
  · rw [h]; exact parse_pool h1
set_option maxHeartbeats 4000000 in
theorem reads_law (v : Value) (b sp : List UInt8) (w : World) (hS : SlB w v b sp) (hG : Hs.Glob w) : Calls Tryz.prog 3 #[v] w (Yes w) := by
  obtain ⟨a0, c0, rfl, _, _⟩ := hS.form
  have HS := Lib.hid hS
  have HG := Lib.hid hG
  have HA := Lib.hid (fun W (f : Frm [] w W) => awake_any W (HG.out.keep f (by simp)))
  clear hS hG
  by_cases hl : 1000 < b.length
  · have hl' : (1000 : Int) < b.length := by omega
    go_enter Tryz.func3, Tryz.ntmps3
    go_wp2_with (go_at_call 8; refine (HA.out _ (Frm.refl _ _)).mono ?_; rintro r w1 ⟨rfl, f1⟩)
    go_ret
    exact ⟨rfl, f1⟩
  · have hl' : ¬ (1000 : Int) < b.length := by omega
    have hlb : b.length ≤ 1000000 := by omega
    have hlb' := hlb
    have HLE := Lib.hid (Lent_any _ b sp w HS.out hlb)
    clear hl hlb
    go_enter Tryz.func3, Tryz.ntmps3
    have HUL := Lib.hid (unp_len b)
    have HU := Lib.hid (fun v sp w (hS : SlB w v b sp) (hG : Hs.Glob w) => Unpack_any v b sp w hS hlb' hG)
    have HRU := Lib.hid (RefUnpack_any (.slice a0 b.length c0) b sp)
    unfold UnpP at HU HRU
    generalize (unp b).1 = m at *
    generalize (unp b).2 = e at *
    go_upto_region 4 with (go_at_call 9; refine HLE.out.mono ?_; rintro r w1 ⟨rfl, o1, f1⟩)
    have F1 := Lib.hid f1
    have O1 := Lib.hid o1
    have H1 := Lib.hid (HU.out _ _ w1 o1.sl (HG.out.keep f1 (by simp)))
    have hul := HUL.out
    clear o1 f1 HLE
    go_upto_region 5 with (first
      | ((with_reducible (show wpList _ _ _ (Oper.mk _ (Op.alloc 28) _ _ _ _ :: _) _ _)); refine wpList_lay28 rfl rfl rfl _ _ rfl (l := m) hul rfl rfl ?_)
      | (go_at_call 10; refine H1.out.mono ?_; rintro r w2 ⟨rfl, f2⟩))
    have f3 : Frm [] w2 (w2.alloc (.cells (lc m).toArray 28)) := (Frm.refl [] w2).alloc _
    have B1 := Lib.hid (LB.new w2 hul)
    have F3 := Lib.hid ((F1.out.trans f2 (by simp)).trans f3 (by simp))
    have O3 := Lib.hid (O1.out.keep (f2.trans f3 (by simp)) (by simp))
    clear f2 f3 H1 F1 O1
    generalize w2.alloc (.cells (lc m).toArray 28) = W3 at *
    generalize w2.heap.size = L1 at *
    have H2 := Lib.hid (HRU.out W3 (HS.out.keep F3.out (by simp)) hlb')
    go_upto_region 6 with (first
      | ((with_reducible (show wpList _ _ _ (Oper.mk _ (Op.alloc 28) _ _ _ _ :: _) _ _)); refine wpList_lay28 rfl rfl rfl _ _ rfl (l := m) hul rfl rfl ?_)
      | (go_at_call 11; refine H2.out.mono ?_; rintro r w4 ⟨rfl, f4⟩))
    have f5 : Frm [] w4 (w4.alloc (.cells (lc m).toArray 28)) := (Frm.refl [] w4).alloc _
    have B2 := Lib.hid (LB.new w4 hul)
    have B15 := Lib.hid (B1.out.keep0 (f4.trans f5 (by simp)))
    have F5 := Lib.hid ((F3.out.trans f4 (by simp)).trans f5 (by simp))
    have O5 := Lib.hid (O3.out.keep (f4.trans f5 (by simp)) (by simp))
    clear f4 f5 H2 F3 O3 B1
    generalize w4.alloc (.cells (lc m).toArray 28) = W5 at *
    generalize w4.heap.size = L2 at *
    have G1 := Lib.hid B15.out.gets.all
    have G2 := Lib.hid B2.out.gets.all
    have HK := Lib.hid (Kept_true _ _ _ _ b sp W5 O5.out (HS.out.keep F5.out (by simp)) hlb')
    have hq : ∀ W, (binOp .eql 28 (lv m) (lv m)).run Tryz.prog W = .ok (.bool true) W := fun W => by rw [eql28 _ _ hul hul]; simp
    have hg := fun op x y W => lab_guard op x y m m W
    go_wp2_with (first
      | ((with_reducible (show wpList _ _ _ (Oper.mk (some 24) (Op.load 28 _) _ _ _ _ :: _) _ _)); refine wpList_load_g (by rfl) 28 _ rfl _ rfl G1.out ?_)
      | ((with_reducible (show wpList _ _ _ (Oper.mk (some 25) (Op.load 28 _) _ _ _ _ :: _) _ _)); refine wpList_load_g (by rfl) 28 _ rfl _ rfl G2.out ?_)
      | (go_at_call 12; refine HK.out.mono ?_; rintro r w6 ⟨rfl, f6⟩)
      | (go_at_call 8; refine (HA.out _ (F5.out.trans f6 (by simp))).mono ?_; rintro r w7 ⟨rfl, f7⟩))
    go_ret
    exact ⟨rfl, (F5.out.trans f6 (by simp)).trans f7 (by simp)⟩
end Go.Proofs.YtcnjjcnmjmcoiaaGreatDoor
