/-
  Contract of awake. No conditions but those that each theorem names.
-/
import Derived.Test.YtjjcjocomanohaaPR
import Derived.Test.YtjjcjocomanohaaPI
namespace Go.Proofs.Ytjjcjocomanohaa
open Go.RowKit
set_option linter.unusedVariables false
set_option linter.unusedSimpArgs false
set_option maxRecDepth 100000

/-- A yes that leaves all as it was. -/
def Yes (w : World) (e : Ending) (w' : World) : Prop := e = .returned (.bool true) ∧ Frm [] w w'
theorem wpList_make_g {P : Program} {tS T : TypeId} (B : ByteTys P tS T) {w : World} {ops : Array Oper} {rest : List Oper} {o : Oper} {a : Act} {Q : Exit → Act → World → Prop} (hw : Region.wanted o (yielded ops a.tmps) = true)
    (n : Nat) (hn : n ≤ 281474976710656) (x y : Operand) (hop : o.op = Op.makeSlice tS x y) {kl kc : IntKind} {X Y : Int} (hx : a.eval x = .int kl X) (hy : a.eval y = .int kc Y) (hX : X = n) (hY : Y = n)
    (k : ∀ w', OwnB T w' (.slice (some ⟨w.heap.size, 0, none⟩) n n) (List.replicate n 0) [] → Frm [] w w' → wpList P ops Q rest (a.put o.dst (.slice (some ⟨w.heap.size, 0, none⟩) n n)) w') :
    wpList P ops Q (o :: rest) a w := by
  subst hX
  subst hY
  obtain ⟨w', h1, h2, h3⟩ := make_bytes B w kl kc n hn
  refine wpList_val_g hw (v := .slice (some ⟨w.heap.size, 0, none⟩) n n) (w' := w') ?_ (k w' h2 h3)
  simp [execOp, hop, hx, hy, h1, Result.andThen]
theorem samp_chk : chk samplePt = 0 := by decide
theorem samp_out : outB samplePt = [2, 1, 0, 5, 0, 1, 44, 0, 0, 0, 0, 0, 0, 7, 2, 0] ++ List.replicate 31 0 := by decide
theorem samp_hole : hole samplePt = false := by decide
theorem fail46 : failB (List.replicate 46 0) 4 46 = true := by decide
theorem read46 : (readPt (List.replicate 46 0)).ads.length ≤ 1000000 := by decide
set_option maxHeartbeats 8000000 in
theorem awake_any (w : World) : Calls Try.prog 13 #[] w (Yes w) := by
  have hB := Lib.hid (fun W x (hx : PtV W x samplePt) => Bytes_any x samplePt W hx (by decide))
  unfold BytesP at hB
  rw [samp_chk] at hB
  have hH := Lib.hid (fun W x (hx : PtV W x samplePt) => Hole_any x samplePt W hx (by decide))
  rw [samp_hole] at hH
  have hlen : (outB samplePt).length = 47 := by rw [samp_out]; rfl
  have ht1 : (outB samplePt).take 10 = [2, 1, 0, 5, 0, 1, 44, 0, 0, 0] := by rw [samp_out]; rfl
  have ht2 : ((outB samplePt).drop 10).take (16 - 10) = [0, 0, 0, 7, 2, 0] := by rw [samp_out]; rfl
  rw [hlen] at hB
  generalize outB samplePt = le at *
  have HLEN := Lib.hid hlen
  have HT1 := Lib.hid ht1
  have HT2 := Lib.hid ht2
  clear hlen ht1 ht2
  go_enter Try.func13, Try.ntmps13
  go_upto_region 2 with (first | (go_at_call 32; refine (sample_any _).mono ?_; rintro r w1 ⟨g, rfl, o1, f1, n1⟩) | (go_at_call 15; refine (hB.out _ _ (o1.ptv zs_len)).mono ?_; rintro r w2 ⟨a2, cap2, sp2, rfl, o2, f2, n2⟩))
  have F2 := Lib.hid (f1.trans f2 (by simp))
  obtain ⟨a3, c3, hs3, S3⟩ := slice_h BT o2.sl 10 (by rw [HLEN.out]; omega)
  obtain ⟨a4, c4, hs4, S4⟩ := slice_lh BT o2.sl 10 16 (by omega) (by rw [HLEN.out]; omega)
  rw [HT1.out] at S3
  rw [HT2.out] at S4
  have H3 := Lib.hid (fun wx => hs3 10 wx rfl)
  have H4 := Lib.hid (fun wx => hs4 10 16 wx rfl rfl)
  have SS3 := Lib.hid S3
  have SS4 := Lib.hid S4
  clear hs3 hs4 S3 S4 o1 o2 f1 f2 n1 n2
  go_wp2_with (first
    | ((with_reducible (show wpList _ _ _ (Oper.mk _ (Op.slice 29 (.tmp 16) _ _ _) _ _ _ _ :: _) _ _)); refine wpList_val_g (by rfl) (exec_slice_hA (.tmp 16) (.const (.int .i64 10)) rfl rfl rfl BT.sl (H3.out _)) ?_)
    | ((with_reducible (show wpList _ _ _ (Oper.mk _ (Op.slice 29 (.tmp 22) _ _ _) _ _ _ _ :: _) _ _)); refine wpList_val_g (by rfl) (exec_slice_lh (.tmp 22) (.const (.int .i64 10)) (.const (.int .i64 16)) rfl rfl rfl rfl BT.sl (H4.out _)) ?_)
    | (go_at_call 17; first | (refine (SameBytes_any (.slice a3 10 c3) _ [2, 1, 0, 5, 0, 1, 44, 0, 0, 0] _ [2, 1, 0, 5, 0, 1, 44, 0, 0, 0] [] _ (SS3.out.keep ((Frm.refl [] _).alloc _) (by simp)) (lst_slB (heap_alloc_at rfl) rfl rfl (by simp))).mono ?_; rintro r w3 ⟨rfl, rfl⟩) | (refine (SameBytes_any (.slice a4 (16 - 10) c4) _ [0, 0, 0, 7, 2, 0] _ [0, 0, 0, 7, 2, 0] [] _ (SS4.out.keep (((Frm.refl [] w2).alloc _).alloc _) (by simp)) (lst_slB (heap_alloc_at (by simp)) rfl rfl (by simp))).mono ?_; rintro r w3 ⟨rfl, rfl⟩))
    | (go_at_call 32; refine (sample_any _).mono ?_; rintro r w5 ⟨g5, rfl, o5, f5, n5⟩)
    | (go_at_call 20; refine (hH.out _ _ (o5.ptv zs_len)).mono ?_; rintro r w6 ⟨rfl, f6⟩)
    | ((with_reducible (show wpList _ _ _ (Oper.mk _ (Op.makeSlice 29 _ _) _ _ _ _ :: _) _ _)); refine wpList_make_g BT (by rfl) 46 (by omega) (.const (.int .i64 46)) (.const (.int .i64 46)) rfl rfl rfl rfl rfl ?_; intro w7 o7 f7; have O7 := Lib.hid o7; clear o7)
    | (go_at_call 33; refine (fails_any _ (List.replicate 46 0) [] 4 46 _ O7.out.sl (by simp) read46).mono ?_; rw [fail46]; rintro r w8 ⟨rfl, f8⟩))
  go_ret
  exact ⟨rfl, F2.out.trans ((((((Frm.refl [] w2).alloc _).alloc _).trans f5 (by simp)).trans f6 (by simp)).trans (f7.trans f8 (by simp)) (by simp)) (by simp)⟩
end Go.Proofs.Ytjjcjocomanohaa
