/-
  A write laid: the call. No conditions but those that each theorem names.
-/
import Derived.Test.YtdebnikolhhmgaaDoorBE
namespace Go.Proofs.YtdebnikolhhmgaaDoor
open Go.RowKit
set_option linter.unusedVariables false
set_option linter.unusedSimpArgs false
set_option maxRecDepth 100000

open Kr (OwnE SlE Enco RowTys)
theorem tysW : RowTys Tryd.prog 31 90 1 8 := ⟨Tryd.underlying31, .pointer none, by kernel_rfl, by kernel_rfl⟩
def layS (s : St) (d a : Int) (b : FB) : St := setSec { s with row := s.row ++ [⟨d, a, b⟩] } d a fun c => { c with last := some b }
section
variable {lo : Nat} {w : World} {sn : Nat → Addr} {g : Nat} {s : St}
/-- A sector where it stands, and the value that the device has of its sectors. -/
theorem ArrL.sec2 {dv rv : Value} {drs : List Dr} {dsp : List Value} {rcs : List CelT} {rsp : List Value} (h : ArrL lo w g s dv rv drs dsp rcs rsp) {d a : Int} (hi : d.toNat < s.devs.length) (hi2 : d.toNat < drs.length) (ha : a.toNat < s.devs[d.toNat].secs.length) :
    ∃ gd cap gs cap2 lv, w.cell? ⟨g, 2, none⟩ = some (.slice (some ⟨gd, 0, none⟩) s.devs.length cap) ∧ w.cell? ⟨gd, d.toNat * 4 + 3, none⟩ = some (.slice (some ⟨gs, 0, none⟩) s.devs[d.toNat].secs.length cap2) ∧ drs[d.toNat].2.2.2.1 = .slice (some ⟨gs, 0, none⟩) s.devs[d.toNat].secs.length cap2 ∧
      w.cell? ⟨gs, a.toNat * 257 + 256, none⟩ = some lv ∧ s.devs[d.toNat].secs.length ≤ 9223372036854775807 ∧ ∀ j, w.frozen? ⟨gs, j, none⟩ = false := by
  obtain ⟨_, _, c2, _⟩ := h.cells
  obtain ⟨e1, e2, e3, e4⟩ := h.dat d.toNat drs[d.toNat] s.devs[d.toNat] (List.getElem?_eq_getElem hi2) (List.getElem?_eq_getElem hi)
  obtain ⟨gs, cap2, lv, hsv, _, h2, _, h4⟩ := e4.at _ ha
  obtain ⟨scs, csp, k1, k2, k3, _⟩ := e4
  obtain ⟨h1, ⟨_, h2', _⟩ | ⟨gd, cap, q2, q3, q4, q5, q6⟩⟩ := id h.own
  · omega
  · have hs := h.own.sl
    rw [q2] at hs c2
    have c3 := SlE.cell encD hs _ hi2 3 (u := drs[d.toNat].2.2.2.1) rfl
    rw [Nat.zero_add, hsv] at c3
    rw [h.dlen] at c2
    refine ⟨gd, cap, gs, cap2, lv, c2, c3, hsv, h2, ?_, h4⟩
    obtain ⟨_, _, e, e1, e2⟩ := k1.sl.form
    rw [k3] at e1
    simp only [maxLen] at e2
    omega
theorem WtB.keepF {w w' : World} {L : List Nat} {gw : Nat} {x : Wt} (h : WtB w gw x) (f : Frm L w w') (hL : ∀ k ∈ L, ∃ cs T fr, w.heap[k]? = some (.cells cs T fr) ∧ T ≠ 105) : WtB w' gw x :=
  f.heap h fun hm => by
    obtain ⟨cs, T, fr, hc, ht⟩ := hL gw hm
    rw [h] at hc
    cases hc
    exact ht rfl
set_option maxHeartbeats 4000000 in
theorem lay_any (d a : Int) (l : FB) (b off cap : Nat) (sp : List UInt8) (h : Arr lo w g s) (hd : 0 ≤ d ∧ d < s.devs.length) (hi : d.toNat < s.devs.length) (ha : 0 ≤ a ∧ a < s.devs[d.toNat].secs.length) (hrow : s.row.length ≤ 100000000) (hS : SlB w (.slice (some ⟨b, off, none⟩) 256 cap) l.1 sp) :
    Calls Tryd.prog 49 #[ptr g, .int .i64 d, .int .i64 a, .slice (some ⟨b, off, none⟩) 256 cap] w fun e w' => e = .returned (.tuple #[]) ∧ Arr lo w' g (layS s d a l) ∧ Fa lo w w' := by
  have hln : s.devs.length ≤ 9223372036854775807 := h.len
  have LD := Lib.hid (SlB.load94 hS l.2)
  have HL := Lib.hid l.2
  have hj : a.toNat < s.devs[d.toNat].secs.length := by omega
  have f1 : Frm [] w (w.alloc (.cells (wtc d a l.1).toArray 105)) := (Frm.refl [] w).alloc _
  have hw1 : WtB (w.alloc (.cells (wtc d a l.1).toArray 105)) w.heap.size ⟨d, a, l⟩ := heap_alloc_new _ _
  have A1 := h.keep0 f1
  unfold ptr
  clear h hS
  go_enter Tryd.func49, Tryd.ntmps49
  go_upto_region 1 with (first
      | ((with_reducible (show wpList _ _ _ (Oper.mk _ (Op.sliceToArrayPointer 94 _) _ _ _ _ :: _) _ _)); refine wpList_val rfl (exec_arr94 (.tmp 11) rfl rfl _) ?_)
      | ((with_reducible (show wpList _ _ _ (Oper.mk _ (Op.load 94 _) _ _ _ _ :: _) _ _)); refine wpList_load_g (by rfl) 94 _ rfl _ rfl LD.out ?_)
      | ((with_reducible (show wpList _ _ _ (Oper.mk _ (Op.build 105 _) _ _ _ _ :: _) _ _)); refine wpList_val rfl (exec_bld105 (.tmp 9) (.tmp 10) (.tmp 13) HL.out rfl rfl rfl rfl _) ?_))
  generalize w.alloc (.cells (wtc d a l.1).toArray 105) = W1 at *
  generalize w.heap.size = gw at *
  obtain ⟨dv, rv, drs, dsp, rcs, rsp, h1⟩ := A1
  obtain ⟨_, _, _, c3, _⟩ := h1.cells
  obtain ⟨ra, rcap, hrv, _, _⟩ := h1.row.sl.form
  have hgv : g ∉ blk rv := fun hm => by obtain ⟨cs, hc⟩ := own_blk h1.row g hm; rw [h1.rcd] at hc; cases hc
  have f2 : Frm [] W1 (W1.alloc (.cells #[.pointer (some ⟨gw, 0, none⟩)] 90)) := (Frm.refl [] W1).alloc _
  have hsl : SlE eC 1 (W1.alloc (.cells #[.pointer (some ⟨gw, 0, none⟩)] 90)) (.slice (some ⟨W1.heap.size, 0, none⟩) 1 1) [⟨.pointer (some ⟨gw, 0, none⟩), rfl⟩] [] := SlE.of_block encC (T := 90) (heap_alloc_new _ _) rfl (by omega)
  have HSL := Lib.hid hsl
  have RO := Lib.hid (h1.row.keep0 f2)
  have R1 := Lib.hid (f2.heap h1.rcd (by simp))
  have RL := Lib.hid h1.rlen
  have HRW := Lib.hid hrow
  rw [hrv] at c3 RO hgv
  have HG := Lib.hid hgv
  have H1 := Lib.hid h1
  have F1 := Lib.hid f1
  have F2 := Lib.hid f2
  have HRV := Lib.hid hrv
  have HW1 := Lib.hid hw1
  clear hsl h1 hrow hgv f1 f2 hrv hw1
  go_upto_region 2 with (at_builtin; go_loud (refine Kr.wpList_append_e encC tysW RO.out HSL.out (by have := RL.out; have := HRW.out; simp; omega) (by omega) rfl (.tmp 20) (.tmp 22) rfl rfl rfl ?_); intro a' cap' w3 sp' o3 f3 b3; have r3 := f3.heap R1.out HG.out; have z3 := frozen_of_heap r3 3; have c33 : w3.cell? ⟨g, 3, none⟩ = some rv := (by rw [cell_of_heap r3]; rfl); have O3 := Lib.hid o3; have F3 := Lib.hid f3; have B3 := Lib.hid b3; have R3 := Lib.hid r3; clear o3 f3 b3 r3)
  have h1 := H1.out
  have hall : ∀ k ∈ g :: blk rv, ∃ cs T fr, W1.heap[k]? = some (.cells cs T fr) ∧ T ≠ 105 := fun k hk => by
    rcases List.mem_cons.1 hk with rfl | hk
    · exact ⟨_, _, _, h1.rcd, by decide⟩
    · obtain ⟨cs, hc⟩ := own_blk h1.row k hk; exact ⟨cs, 90, _, hc, by decide⟩
  have f3 : Frm (g :: blk rv) W1 w3 := (F2.out.mono (L' := g :: blk rv) (by simp)).trans F3.out (fun i hi => .inl (List.mem_cons_of_mem _ (by rw [HRV.out]; exact hi)))
  have f4 : Frm (g :: blk rv) W1 (w3.setCell ⟨g, 3, none⟩ (.slice a' (rcs.length + 1) cap')) := f3.setCell _ _ (.inl (by simp))
  have hgl : g < W1.heap.size := lt_heap h1.rcd
  have hgb : g ∉ blk (.slice a' (rcs.length + 1) cap') := fun hm => by
    rcases B3.out g hm with hm | hm
    · exact HG.out hm
    · have := F2.out.size; omega
  obtain ⟨h4, fa4⟩ := h1.setRow { s with row := s.row ++ [⟨d, a, l⟩] } (.slice a' (rcs.length + 1) cap') (rcs ++ [⟨.pointer (some ⟨gw, 0, none⟩), rfl⟩]) sp' rfl f4 (by rw [heap_setCell_same _ R3.out]; rfl)
    (O3.out.keep ((Frm.refl [g] w3).setCell _ _ (.inl (by simp))) (fun k hk hm => by simp at hm; subst hm; exact hgb hk))
    (fun k hk => by
      rcases B3.out k hk with hk | hk
      · exact .inl (by rw [HRV.out]; exact hk)
      · exact .inr (by have := F2.out.size; omega))
    (by simp [RL.out]) (fun i c x hc hx => by
      by_cases hir : i < rcs.length
      · rw [List.getElem?_append_left hir] at hc
        rw [List.getElem?_append_left (by rw [← RL.out]; exact hir)] at hx
        obtain ⟨gw', e1, e2⟩ := h1.rat i c x hc hx
        exact ⟨gw', e1, e2.keepF f4 hall⟩
      · have hi3 : i = rcs.length := by
          have := (List.getElem?_eq_some_iff.1 hc).1
          simp at this
          omega
        subst hi3
        rw [List.getElem?_append_right (Nat.le_refl _), Nat.sub_self] at hc
        have hx2 := hx
        simp only [RL.out] at hx2
        rw [List.getElem?_append_right (Nat.le_refl _), Nat.sub_self] at hx2
        cases hc; cases hx2
        exact ⟨gw, rfl, HW1.out.keepF f4 hall⟩)
  have hwb : WtB (w3.setCell ⟨g, 3, none⟩ (.slice a' (rcs.length + 1) cap')) gw ⟨d, a, l⟩ := HW1.out.keepF f4 hall
  generalize w3.setCell ⟨g, 3, none⟩ (.slice a' (rcs.length + 1) cap') = W4 at *
  have hi2 : d.toNat < drs.length := by rw [h1.dlen]; exact hi
  obtain ⟨gd, dcap, gs, cap2, lv, c2, c3, hsv, cl, hmx, hz⟩ := h4.sec2 hi hi2 hj
  have SA := Lib.hid (sector_any g gd gs _ dcap _ cap2 d a hd ha hln hmx W4 c2 c3)
  have HZ := Lib.hid hz
  have hz6 := hz (a.toNat * 257 + 256)
  have H4 := Lib.hid h4
  have FA4 := Lib.hid (F1.out)
  have FB4 := Lib.hid fa4
  have HWB := Lib.hid hwb
  have HSV := Lib.hid hsv
  clear h1 h4 fa4 f3 f4 hall hgl hgb c2 c3 hz z3 c33 hmx hwb hsv
  go_wp2_with (go_at_call 44; refine SA.out.mono ?_; rintro e w11 ⟨rfl, hw11⟩; obtain rfl := hw11.symm)
  go_end0
  have h4 := H4.out
  have hob : ∀ k ∈ blk drs[d.toNat].2.2.2.1, lo ≤ k ∧ ∃ (cs : Array Value) (T : TypeId) (fr : Nat × Nat), W4.heap[k]? = some (.cells cs T fr) ∧ okT T = false := fun k hk => by
    obtain ⟨_, _, _, scs, csp, o1, o2, _, _⟩ := h4.dat _ drs[d.toNat] s.devs[d.toNat] (List.getElem?_eq_getElem hi2) (List.getElem?_eq_getElem hi)
    obtain ⟨cs, hc⟩ := own_blk o1 k hk
    exact ⟨o2 k hk, cs, 96, _, hc, by decide⟩
  have f5 : Frm (blk drs[d.toNat].2.2.2.1) W4 (W4.setCell ⟨gs, a.toNat * 257 + 256, none⟩ (.pointer (some ⟨gw, 0, none⟩))) := (Frm.refl _ W4).setCell _ _ (.inl (by rw [HSV.out]; simp [blk]))
  have hfa := Fa.of_frm f5 hob
  obtain ⟨_, _, _, hsp⟩ := h4.dat _ drs[d.toNat] s.devs[d.toNat] (List.getElem?_eq_getElem hi2) (List.getElem?_eq_getElem hi)
  have hsp' := hsp
  rw [HSV.out] at hsp'
  have hs' := hsp'.setLast a.toNat hj ⟨.pointer (some ⟨gw, 0, none⟩), rfl⟩ (some l) (.inr ⟨gw, ⟨d, a, l⟩, rfl, rfl, HWB.out.fa hfa⟩) hfa
  obtain ⟨h6, fa6⟩ := h4.sect d.toNat hi hi2 _ f5 (by rw [HSV.out]; exact hs')
  refine ⟨rfl, ?_, ((Fa.of0 F1.out lo).trans FB4.out).trans fa6⟩
  unfold layS
  rw [setSec_nat (s := { s with row := s.row ++ [⟨d, a, l⟩] }) hi hj]
  exact ⟨_, _, _, _, _, _, h6⟩
end
end Go.Proofs.YtdebnikolhhmgaaDoor

