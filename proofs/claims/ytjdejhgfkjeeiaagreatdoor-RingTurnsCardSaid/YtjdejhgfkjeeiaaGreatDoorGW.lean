/-
  Contracts of Push, Pop, put and take of a queue. No conditions but those that each theorem names.
-/
import Derived.Test.YtjdejhgfkjeeiaaGreatDoorGV
namespace Go.Proofs.YtjdejhgfkjeeiaaGreatDoor
open Go.RowKit
set_option linter.unusedVariables false
set_option linter.unusedSimpArgs false
set_option maxRecDepth 100000

open Kr (OwnE SlE Enco RowTys)
open Kr (step_append_e)
/-- A queue, changed. -/
def QTo (g : Nat) (v : Value) (l' : List En) (w w' : World) : Prop := ∃ v' sp', Qu w' g v' l' sp' ∧ Frm (g :: blk v) w w' ∧ ∀ i ∈ blk v', i ∈ blk v ∨ w.heap.size ≤ i
theorem Mv.to {g : Nat} {v : Value} {l : List En} {sp : List Value} {w w' : World} (h : Mv g v l sp w w') : QTo g v l w w' := ⟨v, sp, h.1, Frm.mono h.2 (by intro i hi; simp [hi]), fun i hi => .inl hi⟩
theorem heap_at {w : World} {o : Obj} {n : Nat} (hn : n = w.heap.size) : (w.alloc o).heap[n]? = some o := by subst hn; exact heap_alloc_new _ _
theorem oneEn (W : World) (x : En) : SlE eEn 2 ((W.alloc (.cells #[.int .i64 x.1, .string (sB x.2)] 118)).drew) (.slice (some ⟨W.heap.size, 0, none⟩) 1 1) [x] [] :=
  Kr.SlE.of_block EEn (T := 118) (show (W.alloc (.cells #[.int .i64 x.1, .string (sB x.2)] 118)).heap[W.heap.size]? = _ from heap_at rfl) rfl (by omega)
theorem assert118 (v : Value) (W : World) : (Instr.typeAssert (.iface 118 v) 20 118 false).run Tryz.prog W = .ok v W := by kernel_rfl
set_option maxHeartbeats 4000000 in
theorem PushQ_any (g : Nat) (v : Value) (l : List En) (x : En) (sp : List Value) (w : World) (h : Qu w g v l sp) (hl : l.length ≤ 1000000) :
    Calls Tryz.prog 162 #[.pointer (some ⟨g, 0, none⟩), .iface 118 (vEn x)] w fun e w' => e = .returned (.tuple #[]) ∧ QTo g v (l ++ [x]) w w' := by
  have c0 := h.cell
  have glt := h.lt
  have H := Lib.hid h
  have HL := Lib.hid (show l.length + [x].length ≤ 1000000000 by simp; omega)
  have ha := assert118 (.agg #[.int .i64 x.1, .string (sB x.2)])
  have hmix : Tryz.prog.follows .mixedOrders = true := by kernel_rfl
  clear h hl
  unfold vEn
  have O1 := Lib.hid (H.out.own.keep0 (((Frm.refl [] w).alloc (.cells #[.int .i64 x.1, .string (sB x.2)] 118)).drew))
  have S1 := Lib.hid (oneEn w x)
  have HB := Lib.hid ((((Frm.refl [] w).alloc (.cells #[.int .i64 x.1, .string (sB x.2)] 118)).drew).heap H.out.box (by simp))
  go_enter Tryz.func162, Tryz.ntmps162
  go_region_law ((refine step_append_e EEn tysEn O1.out S1.out HL.out (by omega) (by rfl) (.tmp 7) (.tmp 10) (by rfl) (by rfl) (by rfl) ?_; intro a4 cap4 w4 sp4 o4 f4 n4; have hb4 := f4.heap HB.out (fun hm => H.out.ne _ hm rfl); have c4 : w4.cell? ⟨g, 0, none⟩ = some v := cell_of_heap hb4 0; have z4 := frozen_of_heap hb4 0))
  all_goals
    go_end0
    have hnb : ∀ i ∈ blk (.slice a4 (l.length + 1) cap4), i ≠ g := fun i hi => by
      rcases n4 i hi with h | h
      · exact H.out.ne i h
      · simp at h; omega
    refine ⟨rfl, .slice a4 (l.length + 1) cap4, sp4, ⟨?_, o4.keep ((Frm.refl [g] w4).setCell _ _ (.inl (by simp))) (fun i hi => by simpa using hnb i hi), hnb⟩, ?_, fun i hi => ?_⟩
    · rw [heap_setCell_same _ hb4]; rfl
    · exact (((Frm.refl (g :: blk v) w).alloc (.cells #[.int .i64 x.1, .string (sB x.2)] 118)).drew).trans (L' := g :: blk v) ((f4.mono (L' := g :: blk v) (by intro i hi; simp [hi])).setCell ⟨g, 0, none⟩ _ (.inl (by simp))) (fun i hi => .inl hi)
    · rcases n4 i hi with h | h
      · exact .inl h
      · simp at h; exact .inr (by omega)
theorem last_cell (l : List En) (x : En) : en (l ++ [x]) l.length = x := by rw [en_eq (by simp)]; simp
set_option maxHeartbeats 4000000 in
theorem PopQ_any (g : Nat) (v : Value) (l : List En) (x : En) (sp : List Value) (w : World) (h : Qu w g v (l ++ [x]) sp) (hl : l.length ≤ 1000000) :
    Calls Tryz.prog 126 #[.pointer (some ⟨g, 0, none⟩)] w fun e w' => e = .returned (.iface 118 (vEn x)) ∧ QTo g v l w w' := by
  obtain ⟨b, cap, rfl, hcap⟩ := OwnQ.at h.own (by simp)
  obtain ⟨d0, d1, _, _⟩ := OwnQ.cells h.own l.length (by simp)
  rw [last_cell] at d0 d1
  have c0 := h.cell
  have z0 := h.frozen
  have H := Lib.hid h
  have hbg : b ≠ g := h.ne b (by simp [blk])
  have hgb : ¬ g = b := fun e => hbg e.symm
  have hle : (l ++ [x]).length = l.length + 1 := by simp
  have HLE := Lib.hid hle
  have hfin := OwnE.heap h.own
  have hcaps := OwnE.caps EEn h.own
  have HFIN := Lib.hid hfin
  have HCAPS := Lib.hid hcaps
  obtain ⟨m, hm⟩ : ∃ m, m = (l ++ [x]).length := ⟨_, rfl⟩
  rw [← hm] at c0 hcap ⊢
  have hw : IntKind.i64.wrap ((m : Int) - 1) = (l.length : Int) := by rw [IntWalk.i64_in _ (by omega)]; omega
  have hm1 : (l.length : Int) < (m : Int) := by omega
  have hm2 : (l.length : Int) ≤ (cap : Int) := by omega
  have HM := Lib.hid hm
  clear h hle hfin hcaps hm hl
  unfold vEn
  obtain ⟨x1, x2⟩ := x
  simp only at d0 d1 ⊢
  go_enter Tryz.func126, Tryz.ntmps126
  go_wp2_with fail
  refine (Len_any _ _ _ _).mono ?_
  rintro r w1 ⟨rfl, rfl⟩
  go_upto_region 3 with (fail)
  have f1 : Frm [] w1 (w1.alloc (.cells #[.int .i64 x1, .string (sB x2)] 118)) := (Frm.refl [] w1).alloc _
  have hnew := heap_alloc_new w1 (.cells #[.int .i64 x1, .string (sB x2)] 118)
  have hlt := H.out.lt
  have Q2 := Lib.hid (H.out.keep0 f1)
  have c2 := (H.out.keep0 f1).cell
  rw [← HM.out] at c2
  have z2 := (H.out.keep0 f1).frozen
  have F1 := Lib.hid f1
  have hng : ¬ w1.heap.size = g := by omega
  have hgn : ¬ g = w1.heap.size := by omega
  clear f1 c0 z0 d0 d1 hlt
  generalize w1.alloc (.cells #[.int .i64 x1, .string (sB x2)] 118) = W2 at *
  have e0 : W2.cell? ⟨w1.heap.size, 0, none⟩ = some (.int .i64 x1) := by rw [cell_of_heap hnew]; rfl
  have e1 : W2.cell? ⟨w1.heap.size, 1, none⟩ = some (.string (sB x2)) := by rw [cell_of_heap hnew]; rfl
  clear hnew
  generalize w1.heap.size = n1 at *
  go_wp2_with fail
  go_ret
  have hq := Q2.out
  have hcp := HCAPS.out
  refine ⟨rfl, .slice (some ⟨b, 0, none⟩) l.length cap, eEn (x1, x2) ++ sp, ⟨?_, ?_, fun i hi => by simp [blk] at hi; subst hi; exact hbg⟩, ?_, fun i hi => .inl hi⟩
  · rw [heap_setCell_same _ hq.box]; rfl
  · refine OwnE.of_heap EEn ?_ rfl (by omega) ?_ hcp.2.2.2
    · rw [heap_setCell_ne _ hbg, OwnE.heap hq.own, Kr.flt_append, Kr.flt_one, List.append_assoc]
    · have := hcp.2.2.1
      rw [HLE.out] at this
      simp [eEn]
      omega
  · exact (F1.out.mono (by simp)).setCell ⟨g, 0, none⟩ _ (.inl (by simp))
end Go.Proofs.YtjdejhgfkjeeiaaGreatDoor
