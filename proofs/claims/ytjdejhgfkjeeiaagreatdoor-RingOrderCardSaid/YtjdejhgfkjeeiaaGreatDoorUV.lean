/-
  Contracts of the steps that read the fields: number, txg, length, pool, root. No conditions but those that each theorem names.
-/
import Derived.Test.YtjdejhgfkjeeiaaGreatDoorUT
namespace Go.Proofs.YtjdejhgfkjeeiaaGreatDoor
open Go.RowKit
set_option linter.unusedVariables false
set_option linter.unusedSimpArgs false
set_option maxRecDepth 100000

open Pt (Pt may enc readPt readE zeroPt pc pv PtV PtO SlA OwnA)
section
variable {w0 w w' : World} {g : Nat} {n : Int} {S : List UInt8} {br : Nat} {rv : Value} {rsp : List UInt8} {st : Nat × Int × Int} {v : Value} {u : Ub} {E : Value} {L : List Addr} {p : Nat}
theorem number_any (h : RG w0 w g n S br rv rsp (p, 0, 0) v u E L) (k : Nat) (h1 : 1 ≤ k) (h5 : k ≤ 5) (hp : p + k ≤ 224) : Calls Tryz.prog 113 #[.pointer (some ⟨g, 0, none⟩), .int .i64 k] w fun r w' => r = .returned (.int .i64 (beNat (seg S p k))) ∧ RG w0 w' g n S br rv rsp (p + k, 0, 0) v u E L := by
  have hl := h.len
  have cf := h.fld
  have hr := RNumR_any br rv (S.take 224) rsp (p, 0, 0) k 0 9223372036854775807 w h.rd (by simp; omega) (by simp; omega)
  rw [num_at (by simp; omega) h1 h5 0 (by rcases (show k = 1 ∨ k = 2 ∨ k = 3 ∨ k = 4 ∨ k = 5 by omega) with rfl | rfl | rfl | rfl | rfl <;> decide), seg224 hl hp] at hr
  have HR := Lib.hid hr
  have H := Lib.hid h
  clear h hl hr
  go_enter Tryz.func113, Tryz.ntmps113
  go_wp2_with (go_at_call 150; refine HR.out.mono ?_; rintro r w1 ⟨rfl, f1⟩)
  go_ret
  exact ⟨rfl, H.out.read f1⟩
theorem RG.setTxg (h : RG w0 w g n S br rv rsp st v u E L) (t : Int) : RG w0 (w.setCell ⟨g, 258, none⟩ (.int .i64 t)) g n S br rv rsp st v { u with txg := t } E L := by
  have hb := h.blk
  rw [rcs_t] at hb
  have h2 := hb.put1 (o := 258) (u' := .int .i64 t) (by simp [bvs_length, h.len])
  exact h.put ((Frm.refl _ _).setCell _ _ (by simp)) (by rw [rcs_t]; exact h2) ⟨h.wf.pool, h.wf.sum⟩ h.ptv h.vb h.err
theorem RG.setLen (h : RG w0 w g n S br rv rsp st v u E L) (t : Int) : RG w0 (w.setCell ⟨g, 294, none⟩ (.int .i64 t)) g n S br rv rsp st v { u with len := t } E L := by
  have hb := h.blk
  rw [rcs_l] at hb
  have h2 := hb.put1 (o := 294) (u' := .int .i64 t) (by simp [bvs_length, h.len, pc_length h.wf.sum])
  exact h.put ((Frm.refl _ _).setCell _ _ (by simp)) (by rw [rcs_l]; exact h2) ⟨h.wf.pool, h.wf.sum⟩ h.ptv h.vb h.err
theorem RG.setPool (h : RG w0 w g n S br rv rsp st v u E L) (m : List UInt8) (hm : m.length = 32) : RG w0 (w.setCells g 295 (bvs m)) g n S br rv rsp st v { u with pool := m } E L := by
  have hb := h.blk
  rw [rcs_p] at hb
  have h2 := hb.put (o := 295) (row' := bvs m) (by simp [bvs_length, h.len, pc_length h.wf.sum]) (by rw [bvs_length, bvs_length, hm, h.wf.pool])
  exact h.put (Frm.setCells _ _ _ (Frm.refl _ _) (.inl (by simp))) (by rw [rcs_p]; exact h2) ⟨hm, h.wf.sum⟩ h.ptv h.vb h.err
theorem RG.setRoot (h : RG w0 w g n S br rv rsp st v u E L) {v' : Value} {q : Pt} (hq : PtO w (pv v' q.b q.l q.s) q) (hv : ∀ i ∈ Proofs.YtjdejhgfkjeeiaaGreatDoor.blk v', i ≠ g ∧ i ≠ br ∧ i ∉ Proofs.YtjdejhgfkjeeiaaGreatDoor.blk rv ∧ w0.heap.size ≤ i) : RG w0 (w.setCells g 259 (pc v' q.b q.l q.s)) g n S br rv rsp st v' { u with root := q } E L := by
  obtain ⟨a, cap, sp, e, hs, h32⟩ := hq
  have e2 := congrArg (fun x => match x with | .agg cs => cs[0]? | _ => none) e
  simp [pv, pc] at e2
  subst e2
  have hb := h.blk
  rw [rcs_r] at hb
  have h2 := hb.put (o := 259) (row' := pc (.slice a q.ads.length cap) q.b q.l q.s) (by simp [bvs_length, h.len]) (by rw [pc_length h32, pc_length h.wf.sum])
  exact h.put (Frm.setCells _ _ _ (Frm.refl _ _) (.inl (by simp))) (by rw [rcs_r]; exact h2) ⟨h.wf.pool, h32⟩ ⟨a, cap, sp, rfl, hs⟩ hv h.err
theorem txg_any (h : RG w0 w g n S br rv rsp (40, 0, 0) v u E L) : Calls Tryz.prog 68 #[.pointer (some ⟨g, 0, none⟩)] w (Hands w0 g n S br rv rsp (45, 0, 0) v { u with txg := beNat (seg S 40 5) } L) := by
  have HN := Lib.hid (number_any h 5 (by omega) (by omega) (by omega))
  clear h
  go_enter Tryz.func68, Tryz.ntmps68
  go_wp2_with (go_at_call 113; refine HN.out.mono ?_; rintro r w1 ⟨rfl, h1⟩; have c1 := h1.ubv; have z1 := h1.blk.frozen 258; have k1 : ∃ x, w1.cell? ⟨g, 258, none⟩ = some x := ⟨_, h1.blk.cell 258 (by rw [rcs_t, List.getElem?_append_right (by simp [bvs_length, h1.len])]; simp [bvs_length, h1.len]; rfl)⟩; obtain ⟨x1, k1⟩ := k1; have H1 := Lib.hid h1; clear h1 c1)
  go_ret
  exact ⟨rfl, _, H1.out.setTxg _⟩
theorem length_any (h : RG w0 w g n S br rv rsp (45, 0, 0) v u E L) : Calls Tryz.prog 69 #[.pointer (some ⟨g, 0, none⟩)] w (Hands w0 g n S br rv rsp (48, 0, 0) v { u with len := beNat (seg S 45 3) } L) := by
  have HN := Lib.hid (number_any h 3 (by omega) (by omega) (by omega))
  clear h
  go_enter Tryz.func69, Tryz.ntmps69
  go_wp2_with (go_at_call 113; refine HN.out.mono ?_; rintro r w1 ⟨rfl, h1⟩; have z1 := h1.blk.frozen 294; have k1 : ∃ x, w1.cell? ⟨g, 294, none⟩ = some x := ⟨_, h1.blk.cell 294 (by rw [rcs_l, List.getElem?_append_right (by simp [bvs_length, h1.len, pc_length h1.wf.sum])]; simp [bvs_length, h1.len, pc_length h1.wf.sum]; rfl)⟩; obtain ⟨x1, k1⟩ := k1; have H1 := Lib.hid h1; clear h1)
  go_ret
  exact ⟨rfl, _, H1.out.setLen _⟩
set_option maxHeartbeats 1000000 in
theorem pool_any (h : RG w0 w g n S br rv rsp (8, 0, 0) v u E L) : Calls Tryz.prog 67 #[.pointer (some ⟨g, 0, none⟩)] w (Hands w0 g n S br rv rsp (40, 0, 0) v { u with pool := seg S 8 32 } L) := by
  have hl := h.len
  have cf := h.fld
  have hr := RRawR_any br rv (S.take 224) rsp (8, 0, 0) ((32 : Nat) : Int) w h.rd (by simp; omega) (by simp; omega)
  rw [raw_at (by simp [hl]), seg224 hl (by omega)] at hr
  have hsg : (seg S 8 32).length = 32 := seg_length (by omega)
  have HR := Lib.hid hr
  have H := Lib.hid h
  have hAt := arrayAt24
  clear h hl hr
  generalize seg S 8 32 = m at *
  go_enter Tryz.func67, Tryz.ntmps67
  go_wp2_with (first
    | (go_at_call 112; refine HR.out.mono ?_; rintro r w1 ⟨a1, c1, s1, rfl, o1, n1, f1⟩; obtain ⟨g1, rfl⟩ := o1.at (by rw [hsg]; decide); have HLD := Lib.hid (o1.load24 hsg); have H1 := Lib.hid (H.out.read f1); rw [hsg]; clear o1 n1 f1)
    | ((with_reducible (show wpList _ _ _ (Oper.mk _ (Op.load 24 _) _ _ _ _ :: _) _ _)); refine wpList_load_g (by rfl) 24 _ rfl _ rfl HLD.out ?_)
    | ((with_reducible (show wpList _ _ _ (Oper.mk _ (Op.store 24 _ _) _ _ _ _ :: _) _ _)); refine wpList_store_mid rfl 24 (.tmp 13) (.tmp 10) rfl g 295 (bvs m).toArray rfl rfl (by rw [List.size_toArray, bvs_length, hsg]; exact H1.out.blk.there 32 (by rw [rcs_length H1.out.len H1.out.wf]; decide)) (by rw [i24]; simp [bvs_length, hsg]) (all_oneCell_toArray (bvs_one m)) ?_))
  go_ret
  exact ⟨rfl, _, H1.out.setPool m hsg⟩
end
end Go.Proofs.YtjdejhgfkjeeiaaGreatDoor
