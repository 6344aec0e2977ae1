/-
  Contract of Pack. No conditions but those that each theorem names.
-/
import Derived.Test.YtjdejhgfkjeeiaaGreatDoorUZ
import Derived.Test.YtjdejhgfkjeeiaaGreatDoorHZ
namespace Go.Proofs.YtjdejhgfkjeeiaaGreatDoor
open Go.RowKit
set_option linter.unusedVariables false
set_option linter.unusedSimpArgs false
set_option maxRecDepth 100000

open Pt (Pt may enc readPt readE zeroPt pc pv PtV SlA OwnA)
theorem alloc24 (W : World) : (Instr.alloc 24 true (.tuple #[])).run Tryz.prog W = .ok (.pointer (some ⟨W.heap.size, 0, none⟩)) (W.alloc (.cells (bvs (List.replicate 32 0)).toArray 24)) := by kernel_rfl
theorem exec_alloc24 {o : Oper} {a : Act} (hop : o.op = Op.alloc 24) (W : World) : (execOp a.eval o).run Tryz.prog W = .ok (.value (.pointer (some ⟨W.heap.size, 0, none⟩))) (W.alloc (.cells (bvs (List.replicate 32 0)).toArray 24)) := by
  have h := alloc24 W
  generalize W.alloc (.cells (bvs (List.replicate 32 0)).toArray 24) = W2 at *
  simp only [execOp, hop, Sem.run_bind, Sem.run_pure, h, Result.andThen_ok]
theorem wpList_lay24 {ops : Array Oper} {rest : List Oper} {o1 o3 : Oper} {a : Act} {W : World} {Q : Exit → Act → World → Prop} (g1 : o1.guard = none) (g3 : o3.guard = none)
    (h1 : o1.op = .alloc 24) (p x : Operand) (h3 : o3.op = .store 24 p x) {s : List UInt8} (hs : s.length = 32)
    (e1 : (a.put o1.dst (.pointer (some ⟨W.heap.size, 0, none⟩))).eval p = .pointer (some ⟨W.heap.size, 0, none⟩))
    (e2 : (a.put o1.dst (.pointer (some ⟨W.heap.size, 0, none⟩))).eval x = idv s)
    (k : wpList Tryz.prog ops Q rest ((a.put o1.dst (.pointer (some ⟨W.heap.size, 0, none⟩))).put o3.dst undef) (W.alloc (.cells (bvs s).toArray 24))) :
    wpList Tryz.prog ops Q (o1 :: o3 :: rest) a W := by
  refine wpList_val g1 (exec_alloc24 h1 _) ?_
  refine wpList_store_row g3 24 p x h3 W.heap.size (bvs s).toArray e1 e2 24 _ (heap_alloc_new _ _) (by rw [i24]; simp [bvs_length, hs]) (by simp [bvs_length, hs]) (all_oneCell_toArray (bvs_one s)) ?_
  rw [World.setRow_alloc_new]
  exact k
theorem sliceAt24z (b : Nat) (W : World) : (Instr.sliceAt 24 (.pointer (some ⟨b, 0, none⟩)) none none none).run Tryz.prog W = .ok (.slice (some ⟨b, 0, none⟩) 32 32) W := by
  have hu : Tryz.prog.underlying 24 = some (.array (Tryz.prog.arrayLen 24) (Tryz.prog.elem 24)) := by kernel_rfl
  have hl : Tryz.prog.arrayLen 24 = 32 := by kernel_rfl
  have he : Tryz.prog.elem 24 = 5 := by kernel_rfl
  have hs : (sizeOf 5).run Tryz.prog W = .ok 1 W := by kernel_rfl
  rw [run_sliceAt_array_all (P := Tryz.prog) W 24 _ hu, he, hs, hl]
  rfl
theorem slb_id {w : World} {g : Nat} {T : TypeId} {s : List UInt8} (h : w.heap[g]? = some (.cells (bvs s).toArray T (0, 0))) (hs : s.length = 32) : SlB w (.slice (some ⟨g, 0, none⟩) 32 32) s [] := by
  refine ⟨by rw [bvs_length, hs], .inr (.inr ⟨g, 0, 32, by rw [hs], by rw [hs]; exact Nat.le_refl _, by simp [maxLen], by simp [bvs, hs], fun i x hx => ?_⟩)⟩
  rw [cell_of_heap h, Nat.zero_add]
  simpa [bvs] using hx
/-- What Pack tells. -/
def PackP (u : Ub) (w : World) (r : Ending) (w' : World) : Prop :=
  ∃ a cap sp, r = .returned (.tuple #[.slice a (packO u).length cap, .int .i64 (mayE u)]) ∧ OwnB 5 w' (.slice a (packO u).length cap) (packO u) sp ∧ Frm [] w w' ∧ Fresh w (.slice a (packO u).length cap)
set_option maxHeartbeats 2000000 in
theorem Pack_any (x : Value) (u : Ub) (w : World) (h : UbV w x u) (hl : u.root.ads.length ≤ 1000000) (hG : Hs.Glob w) : Calls Tryz.prog 16 #[x] w (PackP u w) := by
  obtain ⟨a, cap, sp, rfl, hS, hw⟩ := id h
  have hC := fun W (f : Frm [] w W) => Check_any _ u W (h.keep0 f) hl
  have hH := fun W (f : Frm [] w W) (hm : MayU u) => head_any _ u W (h.keep0 f) hm hl
  have b0 := UB.new w (.slice a u.root.ads.length cap) hw
  have f0 : Frm [] w (w.alloc (.cells (uc (.slice a u.root.ads.length cap) u).toArray 28)) := (Frm.refl [] w).alloc _
  have HB := Lib.hid b0
  have G0 := Lib.hid b0.gets.all
  have HC := Lib.hid (hC _ f0)
  have HH := Lib.hid hH
  have HW := Lib.hid hw
  have HG := Lib.hid hG
  have hpv := uv_box (.slice a u.root.ads.length cap) u
  clear h hS hC hH b0 hw hG
  rw [hpv] at HC HH G0 ⊢
  have HPV := Lib.hid hpv
  clear hpv
  generalize hA : (uc (.slice a u.root.ads.length cap) u).toArray = A at *
  go_enter Tryz.func16, Tryz.ntmps16
  go_upto_region 1 with fail
  generalize w.alloc (.cells A 28) = W at *
  have F0 := Lib.hid f0
  clear f0 hA
  by_cases hm : MayU u
  · rw [mayE_yes hm] at HC
    go_upto_region 4 with (first
      | ((with_reducible (show wpList _ _ _ (Oper.mk _ (Op.load 28 _) _ _ _ _ :: _) _ _)); refine wpList_load_g (by rfl) 28 _ rfl _ rfl G0.out ?_)
      | (go_at_call 19; refine HC.out.mono ?_; rintro r w1 ⟨rfl, f1⟩))
    have g1 := (HB.out.keep0 f1).gets.all
    rw [HPV.out] at g1
    have G1 := Lib.hid g1
    have F1 := Lib.hid (F0.out.trans f1 (by simp))
    have HH1 := Lib.hid (HH.out _ F1.out hm)
    have HPK := Lib.hid (show packO u = headU u ++ Hs.sha (headU u) from by rw [packO_yes hm]; rfl)
    have HHL := Lib.hid (headU_length HW.out hm)
    have HME := Lib.hid (mayE_yes hm)
    clear g1 f1 hm HH HC G0 HB
    generalize headU u = H at *
    go_upto_region 5 with (first
      | ((with_reducible (show wpList _ _ _ (Oper.mk _ (Op.load 28 _) _ _ _ _ :: _) _ _)); refine wpList_load_g (by rfl) 28 _ rfl _ rfl G1.out ?_)
      | (go_at_call 50; refine HH1.out.mono ?_; rintro r w2 ⟨a2, c2, s2, rfl, o2, f2, n2⟩))
    have HS := Lib.hid (Hs.Sum_any _ H _ w2 o2.sl (by rw [HHL.out]; decide) (HG.out.keep (F1.out.trans f2 (by simp)) (by simp)))
    have hsl := sha_length H
    have O2 := Lib.hid o2
    have F2 := Lib.hid (F1.out.trans f2 (by simp))
    have N2 := Lib.hid (show ∀ i ∈ blk (.slice a2 H.length c2), w.heap.size ≤ i from fun i hi => Nat.le_trans F1.out.size (n2 i hi))
    clear o2 f2 n2
    rw [show (Value.agg (bvs (Hs.sha H)).toArray) = idv (Hs.sha H) from rfl] at HS
    obtain ⟨X, hX⟩ : ∃ X, Hs.sha H = X := ⟨_, rfl⟩
    rw [hX] at HS hsl HPK
    clear hX
    go_upto_region 6 with (first
      | (go_at_call 51; refine HS.out.mono ?_; rintro r w3 ⟨rfl, f3⟩)
      | ((with_reducible (show wpList _ _ _ (Oper.mk _ (Op.alloc 24) _ _ _ _ :: _) _ _)); refine wpList_lay24 rfl rfl rfl _ _ rfl (s := X) hsl rfl rfl ?_))
    have h4 := heap_alloc_new w3 (.cells (bvs X).toArray 24)
    have f4 : Frm [] w3 (w3.alloc (.cells (bvs X).toArray 24)) := (Frm.refl [] w3).alloc _
    have SX := Lib.hid (slb_id h4 hsl)
    have O4 := Lib.hid (O2.out.keep (f3.trans f4 (by simp)) (by simp))
    have F4 := Lib.hid (F2.out.trans (f3.trans f4 (by simp)) (by simp))
    have hst := sliceAt24z
    clear h4 f4 f3 O2 F2 HS
    generalize w3.alloc (.cells (bvs X).toArray 24) = W4 at *
    have HSX := Lib.hid hsl
    clear hsl
    have HLE := Lib.hid (show H.length + X.length ≤ 100000 by rw [HHL.out, HSX.out]; decide)
    go_wp2_with (at_builtin; refine wpList_append_bytes BT O4.out SX.out (by have := HLE.out; omega) rfl (.tmp 16) (.tmp 17) rfl rfl rfl ?_; intro a5 cap5 w5 sp5 o5 f5 n5)
    go_ret2
    refine ⟨a5, cap5, sp5, ?_, ?_, F4.out.trans f5 (fun i hi => .inr (N2.out i hi)), ?_⟩
    · rw [HPK.out, HME.out, List.length_append]; rfl
    · rw [HPK.out, List.length_append]; exact o5
    · rw [HPK.out, List.length_append]
      intro i hi
      rcases n5 i hi with h | h
      · exact N2.out i h
      · have := F4.out.size; omega
  · rw [mayE_no hm] at HC
    have HM := Lib.hid hm
    clear hm
    go_wp2_with (first
      | ((with_reducible (show wpList _ _ _ (Oper.mk _ (Op.load 28 _) _ _ _ _ :: _) _ _)); refine wpList_load_g (by rfl) 28 _ rfl _ rfl G0.out ?_)
      | (go_at_call 19; refine HC.out.mono ?_; rintro r w1 ⟨rfl, f1⟩))
    go_ret2
    refine ⟨none, 0, [], by simp [packO_no HM.out, mayE_no HM.out], by rw [packO_no HM.out]; exact OwnB.nil _ _, F0.out.trans f1 (by simp), by simp [Fresh, blk]⟩
end Go.Proofs.YtjdejhgfkjeeiaaGreatDoor
