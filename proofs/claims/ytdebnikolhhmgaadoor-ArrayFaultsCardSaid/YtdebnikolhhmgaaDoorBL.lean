/-
  The loose writes of a device are taken: the call; Flush. No conditions but those that each theorem names.
-/
import Derived.Test.YtdebnikolhhmgaaDoorBK
namespace Go.Proofs.YtdebnikolhhmgaaDoor
open Go.RowKit
set_option linter.unusedVariables false
set_option linter.unusedSimpArgs false
set_option maxRecDepth 100000

open Kr (OwnE SlE Enco RowTys)
def rowOf (s : St) (d : Int) : List Wt := s.row.filter (·.dev == d)
def takenS (s : St) (d : Int) : St := { s with row := s.row.filter fun x => !(x.dev == d) }
def TkP (lo g : Nat) (s : St) (d : Int) (w : World) (e : Ending) (w' : World) : Prop := ∃ vt, e = .returned vt ∧ RowL w' vt (rowOf s d) ∧ (∀ j ∈ blk vt, w.heap.size ≤ j) ∧ Arr lo w' g (takenS s d) ∧ Fa lo w w'
section
variable {lo : Nat} {w : World} {sn : Nat → Addr} {g : Nat} {s : St}
set_option maxHeartbeats 8000000 in
theorem takeLoose_any (d : Int) (h : Arr lo w g s) (hrow : s.row.length ≤ 100000000) : Calls Tryd.prog 51 #[ptr g, .int .i64 d] w (TkP lo g s d w) := by
  obtain ⟨dv, rv, drs, dsp, rcs, rsp, h⟩ := h
  have f1 : Frm [] w (w.alloc (.cells #[.int .i64 d] 3)) := (Frm.refl [] w).alloc _
  have hb : (w.alloc (.cells #[.int .i64 d] 3)).cell? ⟨w.heap.size, 0, none⟩ = some (.int .i64 d) := by rw [cell_of_heap (heap_alloc_new _ _)]; rfl
  have hR : RowL w rv s.row := ⟨rcs, rsp, h.row, h.rlen, h.rat⟩
  have PA := part_any rv s.row w.heap.size d _ (hR.keep0 f1) hrow hb
  obtain ⟨-, -, -, c3, -⟩ := (h.keep f1 (Other.nil w)).cells
  obtain ⟨ad, cap, hv⟩ := hR.form
  have R1 := Lib.hid (f1.heap h.rcd (by simp))
  have H := Lib.hid h
  have F1 := Lib.hid f1
  have HV := Lib.hid hv
  rw [hv] at PA c3
  unfold ptr
  clear h hb hR hv hrow f1
  go_enter Tryd.func51, Tryd.ntmps51
  go_upto_region 1 with (fail)
  generalize w.alloc (.cells #[.int .i64 d] 3) = W1 at *
  have HPA := Lib.hid PA
  clear PA
  generalize w.heap.size = gb at *
  go_wp2_with (go_at_call 70; refine HPA.out.mono ?_; rintro e w2 ⟨vt, vo, rfl, r1, r2, n1, n2, f2⟩; obtain ⟨oa, oc, rfl⟩ := r2.form; have r3 := f2.heap R1.out (by simp); have z3 := frozen_of_heap r3 3; have c33 : w2.cell? ⟨g, 3, none⟩ = some rv := (by rw [cell_of_heap r3]; rfl); have T1 := Lib.hid r1; have T2 := Lib.hid r2; have N1 := Lib.hid n1; have N2 := Lib.hid n2; have F2 := Lib.hid f2; have R3 := Lib.hid r3; clear r1 r2 n1 n2 f2 r3 HPA)
  go_ret
  have h := H.out
  have fs : Frm [g] w2 (w2.setCell ⟨g, 3, none⟩ (.slice oa (s.row.filter fun x => !(x.dev == d)).length oc)) := (Frm.refl [g] w2).setCell _ _ (.inl (by simp))
  have f : Frm (g :: blk rv) w (w2.setCell ⟨g, 3, none⟩ (.slice oa (s.row.filter fun x => !(x.dev == d)).length oc)) := ((F1.out.trans F2.out (by simp)).mono (by simp)).trans fs (fun i hi => .inl (by simp at hi; simp [hi]))
  have hgl : g < w.heap.size := lt_heap h.rcd
  have hsz := F1.out.size
  have hty : ∀ k ∈ [g], ∃ cs T fr, w2.heap[k]? = some (.cells cs T fr) ∧ T ≠ 105 := fun k hk => by simp at hk; subst hk; exact ⟨_, _, _, R3.out, by decide⟩
  have t2 := T2.out.keepF fs (fun k hk hm => by simp at hm; subst hm; have := N2.out k hk; omega) hty
  have t1 := T1.out.keepF fs (fun k hk hm => by simp at hm; subst hm; have := (N1.out k hk).1; omega) hty
  obtain ⟨rcs', rsp', k1, k2, k3⟩ := t2
  obtain ⟨h4, fa4⟩ := h.setRow (takenS s d) _ rcs' rsp' rfl f (by rw [heap_setCell_same _ R3.out]; rfl) k1 (fun k hk => .inr (by have := N2.out k hk; omega)) k2 k3
  exact ⟨_, rfl, t1, fun j hj => by have := (N1.out j hj).1; omega, ⟨_, _, _, _, _, _, h4⟩, fa4⟩
end
end Go.Proofs.YtdebnikolhhmgaaDoor

