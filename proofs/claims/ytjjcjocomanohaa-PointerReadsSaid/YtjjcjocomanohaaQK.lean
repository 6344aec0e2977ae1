/-
  Contract of PointerKnown. No conditions but those that each theorem names.
-/
import Derived.Test.YtjjcjocomanohaaPS
namespace Go.Proofs.Ytjjcjocomanohaa
open Go.RowKit
set_option linter.unusedVariables false
set_option linter.unusedSimpArgs false
set_option maxRecDepth 100000

/-- Two pointers that are told, laid into two variables. -/
theorem wpList_lay26 {ops : Array Oper} {rest : List Oper} {o1 o2 o3 o4 : Oper} {a : Act} {W : World} {Q : Exit → Act → World → Prop} (g1 : o1.guard = none) (g2 : o2.guard = none) (g3 : o3.guard = none) (g4 : o4.guard = none)
    (h1 : o1.op = .alloc 26) (h2 : o2.op = .alloc 26) (p q x y : Operand) (h3 : o3.op = .store 26 p x) (h4 : o4.op = .store 26 q y) {v v2 : Option Addr} {n cap n2 cap2 : Nat} {b l b2 l2 : Int} {s s2 : List UInt8} (hs : s.length = 32) (hs2 : s2.length = 32)
    (e1 : ((a.put o1.dst (.pointer (some ⟨W.heap.size, 0, none⟩))).put o2.dst (.pointer (some ⟨W.heap.size + 1, 0, none⟩))).eval p = .pointer (some ⟨W.heap.size, 0, none⟩))
    (e2 : ((a.put o1.dst (.pointer (some ⟨W.heap.size, 0, none⟩))).put o2.dst (.pointer (some ⟨W.heap.size + 1, 0, none⟩))).eval x = pv (.slice v n cap) b l s)
    (e3 : (((a.put o1.dst (.pointer (some ⟨W.heap.size, 0, none⟩))).put o2.dst (.pointer (some ⟨W.heap.size + 1, 0, none⟩))).put o3.dst undef).eval q = .pointer (some ⟨W.heap.size + 1, 0, none⟩))
    (e4 : (((a.put o1.dst (.pointer (some ⟨W.heap.size, 0, none⟩))).put o2.dst (.pointer (some ⟨W.heap.size + 1, 0, none⟩))).put o3.dst undef).eval y = pv (.slice v2 n2 cap2) b2 l2 s2)
    (k : wpList Try.prog ops Q rest ((((a.put o1.dst (.pointer (some ⟨W.heap.size, 0, none⟩))).put o2.dst (.pointer (some ⟨W.heap.size + 1, 0, none⟩))).put o3.dst undef).put o4.dst undef) ((W.alloc (.cells (pc (.slice v n cap) b l s).toArray 26)).alloc (.cells (pc (.slice v2 n2 cap2) b2 l2 s2).toArray 26))) :
    wpList Try.prog ops Q (o1 :: o2 :: o3 :: o4 :: rest) a W := by
  refine wpList_val g1 (exec_alloc26z h1 _) ?_
  refine wpList_val g2 (exec_alloc26z h2 _) ?_
  have hsz : (W.alloc (.cells (pc (.slice none 0 0) 0 0 zs).toArray 26)).heap.size = W.heap.size + 1 := by simp
  rw [hsz]
  refine wpList_store_row g3 26 p x h3 W.heap.size (pc (.slice v n cap) b l s).toArray e1 e2 26 _ (heap_alloc_lt (heap_alloc_new _ _)) (by rw [i26]; simp only [pc_size, hs]) (by simp only [pc_size, hs, zs_len]) (pc_one _ _ _) ?_
  rw [setRow_alloc_two]
  have hsz2 : (W.alloc (.cells (pc (.slice v n cap) b l s).toArray 26)).heap.size = W.heap.size + 1 := by simp
  refine wpList_store_row g4 26 q y h4 (W.heap.size + 1) (pc (.slice v2 n2 cap2) b2 l2 s2).toArray e3 e4 26 _ (heap_alloc_at hsz2.symm) (by rw [i26]; simp only [pc_size, hs2]) (by simp only [pc_size, hs2, zs_len]) (pc_one _ _ _) ?_
  rw [← hsz2, World.setRow_alloc_new]
  rw [hsz2]
  exact k
theorem zero_chk : chk zeroPt = 0 := by decide
theorem zero_out : outB zeroPt = List.replicate 47 0 := by decide
theorem twice_chk : chk ⟨[(1, 5), (1, 5)], 7, 2, zs⟩ = 2 := by decide
theorem low_chk : chk ⟨[(1, 4), (0, 300)], 7, 2, zs⟩ = 2 := by decide
theorem lev_chk : chk ⟨[], 0, 1, zs⟩ = 2 := by decide
theorem fail48 : failB (List.replicate 48 0) 4 47 = true := by decide
theorem fail1 : failB ((List.replicate 47 0).set 0 1) 2 0 = true := by decide
theorem read48 : (readPt (List.replicate 48 0)).ads.length ≤ 1000000 := by decide
theorem read1 : (readPt ((List.replicate 47 0).set 0 1)).ads.length ≤ 1000000 := by decide
theorem bld2 (W : World) : (Instr.build 26 #[(2, .int .i64 1)]).run Try.prog W = .ok (pv (.slice none 0 0) 0 1 zs) W := by kernel_rfl
theorem exec_bld2 {o : Oper} {a : Act} (hop : o.op = Op.build 26 #[(2, .const (.int .i64 1))]) (W : World) : (execOp a.eval o).run Try.prog W = .ok (.value (pv (.slice none 0 0) 0 1 zs)) W := by
  have hb := bld2 W
  simp only [execOp, hop, List.map_toArray, List.map_cons, List.map_nil, Act.eval, Sem.run_bind, Sem.run_pure, hb, Result.andThen_ok]
theorem ptv_lev (W : World) : PtV W (pv (.slice none 0 0) 0 1 zs) ⟨[], 0, 1, zs⟩ := ⟨none, 0, [], rfl, SlA.nil W, zs_len⟩
set_option maxHeartbeats 8000000 in
theorem known_any (w : World) : Calls Try.prog 5 #[] w (Yes w) := by
  have hB := Lib.hid (fun W x (hx : PtV W x zeroPt) => Bytes_any x zeroPt W hx (by decide))
  unfold BytesP at hB
  rw [zero_chk, zero_out] at hB
  have h47 : (List.replicate 47 (0 : UInt8)).length = 47 := rfl
  rw [h47] at hB
  generalize hz47 : List.replicate 47 (0 : UInt8) = z47 at hB h47
  have HEQ := Lib.hid (show (z47 == List.replicate 47 0) = true by rw [← hz47]; simp)
  clear hz47
  go_enter Try.func5, Try.ntmps5
  go_upto_region 2 with (first | ((with_reducible (show wpList _ _ _ (Oper.mk _ (Op.build 26 _) _ _ _ _ :: _) _ _)); refine wpList_val_g (by rfl) (exec_bld0 rfl _) ?_) | (go_at_call 15; refine (hB.out _ _ (ptv_zero w)).mono ?_; rintro r w1 ⟨a1, cap1, sp1, rfl, o1, f1, n1⟩))
  go_upto_region 3 with (first | (go_at_call 32; refine (sample_any w1).mono ?_; rintro r w2' ⟨gg, rfl, o2', f2', n2'⟩) | (go_at_call 32; refine (sample_any _).mono ?_; rintro r w2 ⟨g, rfl, o2, f2, n2⟩) | (refine wpList_lay26 rfl rfl rfl rfl rfl rfl (.tmp 3) (.tmp 4) (.tmp 11) (.tmp 12) rfl rfl zs_len zs_len rfl rfl rfl rfl ?_))
  have hb1 : PB ((w2.alloc (.cells (pc (.slice (some ⟨gg, 0, none⟩) 2 2) 7 2 zs).toArray 26)).alloc (.cells (pc (.slice (some ⟨g, 0, none⟩) 2 2) 7 2 zs).toArray 26)) w2.heap.size (.slice (some ⟨gg, 0, none⟩) 2 2) 7 2 zs := (PB.new _ _ _ _ _).alloc _
  have hb2 : PB ((w2.alloc (.cells (pc (.slice (some ⟨gg, 0, none⟩) 2 2) 7 2 zs).toArray 26)).alloc (.cells (pc (.slice (some ⟨g, 0, none⟩) 2 2) 7 2 zs).toArray 26)) (w2.heap.size + 1) (.slice (some ⟨g, 0, none⟩) 2 2) 7 2 zs := PB.new1 _ _ _ _ _ _
  have fW : Frm [] w2 ((w2.alloc (.cells (pc (.slice (some ⟨gg, 0, none⟩) 2 2) 7 2 zs).toArray 26)).alloc (.cells (pc (.slice (some ⟨g, 0, none⟩) 2 2) 7 2 zs).toArray 26)) := ((Frm.refl [] w2).alloc _).alloc _
  have oa := (o2'.keep f2 (by simp)).keep fW (by simp)
  have ob := o2.keep fW (by simp)
  have hgg : w.heap.size ≤ gg ∧ gg < g ∧ g < w2.heap.size := ⟨Nat.le_trans f1.size n2', Nat.lt_of_lt_of_le (by have := o2'.lt gg (by simp [blk]); exact this) n2, by have := o2.lt g (by simp [blk]); exact this⟩
  have OW := Lib.hid (((o1.sl.keep f2' (by simp)).keep f2 (by simp)).keep fW (by simp))
  have OLT := Lib.hid (show ∀ k ∈ blk (.slice a1 47 cap1), k < gg from fun k hk => Nat.lt_of_lt_of_le (o1.lt k hk) n2')
  have FW := Lib.hid ((f1.trans f2' (by simp)).trans (f2.trans fW (by simp)) (by simp))
  generalize (w2.alloc (.cells (pc (.slice (some ⟨gg, 0, none⟩) 2 2) 7 2 zs).toArray 26)).alloc (.cells (pc (.slice (some ⟨g, 0, none⟩) 2 2) 7 2 zs).toArray 26) = W at *
  generalize w2.heap.size = n at *
  have ha := oa.heap
  have hb := ob.heap
  have c1 := (hb1.gets zs_len).c0
  have c2 := (hb2.gets zs_len).c0
  have k0 : W.cell? ⟨gg, 0, none⟩ = some (.int .i64 1) := by rw [cell_of_heap ha]; rfl
  have k1 : W.cell? ⟨gg, 1, none⟩ = some (.int .i64 5) := by rw [cell_of_heap ha]; rfl
  have z2 : W.frozen? ⟨gg, 2, none⟩ = false := frozen_of_heap ha 2
  have z3 : W.frozen? ⟨gg, 3, none⟩ = false := frozen_of_heap ha 3
  have k2 : W.cell? ⟨gg, 2, none⟩ = some (.int .i64 0) := by rw [cell_of_heap ha]; rfl
  have k3 : W.cell? ⟨gg, 3, none⟩ = some (.int .i64 300) := by rw [cell_of_heap ha]; rfl
  have HB1 := Lib.hid hb1
  have HB2 := Lib.hid hb2
  have HA := Lib.hid ha
  have HB := Lib.hid hb
  have HGG := Lib.hid hgg
  clear hb1 hb2 ha hb oa ob o1 o2 o2' f1 f2 f2' n1 n2 n2' fW
  refine wp_region_still_tail 7 (by kernel_rfl) (by kernel_rfl) ?_
  simp only [List.take_succ_cons, List.take_zero, List.drop_succ_cons, List.drop_zero]
  change wpStill _ _ (World.drew _) _ _ _
  iterate 7 still_step
  refine wpStill_nil ?_
  change wpList _ _ _ _ _ (World.drew _)
  go_upto_region 4 with (fail)
  have hX : (((W.setCell ⟨gg, 2, none⟩ (.int .i64 1)).setCell ⟨gg, 3, none⟩ (.int .i64 5)).drew).heap[gg]? = some (.cells (eas ([(1, 5), (1, 5)] ++ [])).toArray 46 (0, 0)) := by
    change ((W.setCell ⟨gg, 2, none⟩ (.int .i64 1)).setCell ⟨gg, 3, none⟩ (.int .i64 5)).heap[gg]? = _
    rw [heap_setCell_same _ (heap_setCell_same _ HA.out)]; rfl
  have fX : Frm [gg] W (((W.setCell ⟨gg, 2, none⟩ (.int .i64 1)).setCell ⟨gg, 3, none⟩ (.int .i64 5)).drew) := (((Frm.refl [gg] W).setCell _ _ (by simp)).setCell _ _ (by simp)).drew
  generalize ((W.setCell ⟨gg, 2, none⟩ (.int .i64 1)).setCell ⟨gg, 3, none⟩ (.int .i64 5)).drew = V at *
  have hb2 := HB2.out.keep fX (by simp; have := HGG.out; omega)
  have hb1 := HB1.out.keep fX (by simp; have := HGG.out; omega)
  have hgb := fX.heap HB.out (by simp; have := HGG.out; omega)
  have d2 := (hb2.gets zs_len).c0
  have e1 : V.cell? ⟨g, 1, none⟩ = some (.int .i64 5) := by rw [cell_of_heap hgb]; rfl
  have y1 : V.frozen? ⟨g, 1, none⟩ = false := frozen_of_heap hgb 1
  have hsp : W.heap.size ≤ V.heap.size := fX.size
  have FX := Lib.hid fX
  have HX := Lib.hid hX
  have HGB := Lib.hid hgb
  have HB1' := Lib.hid hb1
  have HB2' := Lib.hid hb2
  clear hX fX hb2 hb1 hgb c1 c2 k0 k1 k2 k3 z2 z3 HB1 HB2 HA HB
  go_upto_region 5 with (fail)
  have hY : (V.setCell ⟨g, 1, none⟩ (.int .i64 4)).heap[g]? = some (.cells (eas ([(1, 4), (0, 300)] ++ [])).toArray 46 (0, 0)) := by
    rw [heap_setCell_same _ HGB.out]; rfl
  have fY : Frm [g] V (V.setCell ⟨g, 1, none⟩ (.int .i64 4)) := (Frm.refl [g] V).setCell _ _ (by simp)
  generalize V.setCell ⟨g, 1, none⟩ (.int .i64 4) = U at *
  have PU1 := Lib.hid (HB1'.out.keep fY (by simp; have := HGG.out; omega))
  have PU2 := Lib.hid (HB2'.out.keep fY (by simp; have := HGG.out; omega))
  have OU := Lib.hid ((OW.out.keep FX.out (fun k hk => by have := OLT.out k hk; simp; omega)).keep fY (fun k hk => by have := OLT.out k hk; have := HGG.out; simp; omega))
  have T1 := Lib.hid ((OwnA.of_heap (T := 46) (l := [(1, 5), (1, 5)]) (sp := []) (fY.heap HX.out (by simp; have := HGG.out; omega)) rfl rfl (by simp [maxLen]) : OwnA 46 U (.slice (some ⟨gg, 0, none⟩) 2 2) [(1, 5), (1, 5)] []).ptv (b := 7) (lv := 2) zs_len)
  have T2 := Lib.hid ((OwnA.of_heap (T := 46) (l := [(1, 4), (0, 300)]) (sp := []) hY rfl rfl (by simp [maxLen]) : OwnA 46 U (.slice (some ⟨g, 0, none⟩) 2 2) [(1, 4), (0, 300)] []).ptv (b := 7) (lv := 2) zs_len)
  have FU := Lib.hid (FW.out.trans ((FX.out.mono (L' := [gg, g]) (by simp)).trans fY (by simp)) (fun i hi => .inr (by have := HGG.out; simp at hi; omega)))
  clear hY fY e1 y1 d2 hsp
  have hK1 := Lib.hid (fun W x (hx : PtV W x ⟨[(1, 5), (1, 5)], 7, 2, zs⟩) => Check_any x _ W hx (by simp))
  have hK2 := Lib.hid (fun W x (hx : PtV W x ⟨[(1, 4), (0, 300)], 7, 2, zs⟩) => Check_any x _ W hx (by simp))
  have hK3 := Lib.hid (fun W => Check_any _ _ W (ptv_lev W) (by simp))
  rw [twice_chk] at hK1
  rw [low_chk] at hK2
  rw [lev_chk] at hK3
  go_upto_region 6 with ((with_reducible (show wpList _ _ _ (Oper.mk _ (Op.makeSlice 29 _ _) _ _ _ _ :: _) _ _)); refine wpList_make_g BT (by rfl) 47 (by omega) (.const (.int .i64 47)) (.const (.int .i64 47)) rfl rfl rfl rfl rfl ?_; intro w7 o7 f7)
  have q0 := o7.cell 0 (by simp)
  have r0 := o7.frozen 0
  have o7' := o7.store 0 (by simp) 1 (u := .int .u8 1) rfl
  unfold bv at q0
  go_upto_region 7 with (fail)
  have f8' : Frm [U.heap.size] U (w7.setCell ⟨U.heap.size, 0, none⟩ (.int .u8 1)) := (f7.mono (L' := [U.heap.size]) (by simp)).setCell _ _ (by simp)
  generalize w7.setCell ⟨U.heap.size, 0, none⟩ (.int .u8 1) = w8 at *
  have f8 : Frm [U.heap.size] U w8 := f8'
  have hlt := HGG.out
  have hnU := PU1.out.lt
  have hnU2 := PU2.out.lt
  have L1 := Lib.hid (PU1.out.keep f8 (by simp; omega))
  have L2 := Lib.hid (PU2.out.keep f8 (by simp; omega))
  have T1' := Lib.hid (T1.out.keep f8 (by rw [ptBlk_pv]; simp [blk]; omega))
  have T2' := Lib.hid (T2.out.keep f8 (by rw [ptBlk_pv]; simp [blk]; omega))
  have O1 := Lib.hid (OU.out.keep f8 (fun k hk => by have := OLT.out k hk; simp; omega))
  have O7 := Lib.hid o7'.sl
  have HL1 := Lib.hid (show ((List.replicate 47 (0 : UInt8)).set 0 1).length ≤ 1000000 by simp)
  have F8 := Lib.hid (FU.out.trans f8 (fun i hi => .inr (by simp at hi; subst hi; exact FU.out.size)))
  have fz := Lib.hid (Frm.refl [] w8)
  clear f8' f8 f7 o7 o7' q0 r0 hlt hnU hnU2 PU1 PU2 OU OW OLT T1 T2 FU FW FX
  go_wp2_with (first
    | (go_at_call 13; refine (awake_any _).mono ?_; rintro r wn ⟨rfl, fn⟩; replace fz := Lib.hid (fz.out.trans fn (by simp)); clear fn)
    | (go_at_call 17; refine (SameBytes_any (.slice a1 47 cap1) _ _ sp1 _ _ _ (O1.out.keep fz.out (by simp)) o8.sl).mono ?_; rintro r wn ⟨rfl, rfl⟩; rw [HEQ.out])
    | ((with_reducible (show wpList _ _ _ (Oper.mk _ (Op.makeSlice 29 _ _) _ _ _ _ :: _) _ _)); first | (refine wpList_make_g BT (by rfl) 47 (by omega) (.const (.int .i64 47)) (.const (.int .i64 47)) rfl rfl rfl rfl rfl ?_; intro wn o8 fn; replace fz := Lib.hid (fz.out.trans fn (by simp)); clear fn) | (refine wpList_make_g BT (by rfl) 48 (by omega) (.const (.int .i64 48)) (.const (.int .i64 48)) rfl rfl rfl rfl rfl ?_; intro wn o9 fn; replace fz := Lib.hid (fz.out.trans fn (by simp)); clear fn))
    | ((with_reducible (show wpList _ _ _ (Oper.mk _ (Op.load 26 (.tmp 3)) _ _ _ _ :: _) _ _)); refine wpList_load_g (by rfl) 26 _ rfl _ rfl ((L1.out.keep fz.out (by simp)).gets zs_len).all ?_)
    | ((with_reducible (show wpList _ _ _ (Oper.mk _ (Op.load 26 (.tmp 4)) _ _ _ _ :: _) _ _)); refine wpList_load_g (by rfl) 26 _ rfl _ rfl ((L2.out.keep fz.out (by simp)).gets zs_len).all ?_)
    | ((with_reducible (show wpList _ _ _ (Oper.mk _ (Op.build 26 _) _ _ _ _ :: _) _ _)); refine wpList_val_g (by rfl) (exec_bld2 rfl _) ?_)
    | (go_at_call 18; (first | with_reducible refine (hK1.out _ _ (T1'.out.keep0 fz.out)).mono ?_ | with_reducible refine (hK2.out _ _ (T2'.out.keep0 fz.out)).mono ?_ | with_reducible refine (hK3.out _).mono ?_); rintro r wn ⟨rfl, fn⟩; replace fz := Lib.hid (fz.out.trans fn (by simp)); clear fn)
    | (go_at_call 33; (first | with_reducible refine (fails_any _ _ _ 2 0 _ (O7.out.keep fz.out (by simp)) HL1.out read1).mono ?_ | with_reducible refine (fails_any _ (List.replicate 48 0) [] 4 47 _ o9.sl (by simp) read48).mono ?_); (first | rw [fail1] | rw [fail48]); rintro r wn ⟨rfl, fn⟩; replace fz := Lib.hid (fz.out.trans fn (by simp)); clear fn))
  go_ret
  exact ⟨rfl, F8.out.trans fz.out (by simp)⟩
end Go.Proofs.Ytjjcjocomanohaa
