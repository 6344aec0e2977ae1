/-
  Contract of Less; no conditions but those that each theorem names.
-/
import Derived.Test.YtopjbiccipgnjaaDoorHM
import Derived.Lib.Bytealg
namespace Go.Proofs.YtopjbiccipgnjaaDoor
open Go.RowKit
set_option linter.unusedVariables false
set_option linter.unusedSimpArgs false

theorem run_loadBytes {P : Program} (w : World) (b : Nat) : ∀ (l : List UInt8) (off : Nat) (acc : ByteArray), (∀ i (h : i < l.length), w.cell? ⟨b, off + i, none⟩ = some (bv l[i])) →
    (Extern.Bytes.loadBytes ⟨b, off, none⟩ l.length acc).run P w = .ok ⟨acc.data ++ l.toArray⟩ w := by
  intro l
  induction l with
  | nil => intro off acc _; simp [Extern.Bytes.loadBytes]
  | cons x r ih =>
    intro off acc h
    have h0 := h 0 (by simp)
    simp only [Nat.add_zero, List.getElem_cons_zero, bv] at h0
    have h1 := ih (off + 1) (acc.push x) (fun i hi => by have := h (i + 1) (by simp; omega); rw [show off + 1 + i = off + (i + 1) by omega]; simpa using this)
    simp only [List.length_cons, Extern.Bytes.loadBytes]
    have hx : ((x.toNat : Int)).toNat.toUInt8 = x := by simp
    simp [go_sem, h0, add_plain, Result.andThen]
    rw [h1]
    simp [ByteArray.push]
theorem run_bytesOf {P : Program} {w : World} {v : Value} {l sp : List UInt8} (h : SlB w v l sp) : (Extern.Bytes.bytesOf v).run P w = .ok ⟨l.toArray⟩ w := by
  obtain ⟨a, cap, rfl, _, _⟩ := h.form
  have h' := h
  obtain ⟨h1, h2 | ⟨a', h2, h3, h4⟩ | ⟨b, off, cap', h2, h3, h4, h5, h6⟩⟩ := h'
  · obtain rfl : l = [] := List.eq_nil_of_length_eq_zero h2.2.1
    cases h2.1
    rfl
  · obtain rfl : l = [] := List.eq_nil_of_length_eq_zero h3
    cases h2
    rfl
  · cases h2
    have := run_loadBytes (P := P) w b l off .empty (fun i hi => by
      have := h6 i (bv l[i]) (by rw [List.getElem?_append_left (by simpa [bvs_length] using hi), bvs_get, List.getElem?_eq_getElem hi]; rfl)
      exact this)
    simp only [Extern.Bytes.bytesOf]
    rw [this]
    simp
theorem compareBytes_self (l : List UInt8) : Lib.compareBytes l l = 0 := by
  induction l with
  | nil => rfl
  | cons x r ih => simp [Lib.compareBytes, ih]
theorem call51 {w : World} {v1 v2 : Value} {l1 l2 sp1 sp2 : List UInt8} (h1 : SlB w v1 l1 sp1) (h2 : SlB w v2 l2 sp2) : (callFunc 51 #[v1, v2]).run Tryd.prog w = .ok (.value (.int .i64 (Lib.compareBytes l1 l2))) w := by
  rw [run_callFunc_extern Tryd.func51 (by kernel_rfl) (by kernel_rfl) (by kernel_rfl) (by kernel_rfl)]
  have : (Extern.BytealgCompare.compare #[v1, v2]).run Tryd.prog w = .ok (.int .i64 (Lib.compareBytes l1 l2)) w := by
    change Sem.run Tryd.prog (do pure (goInt (Extern.BytealgCompare.cmp (← Extern.Bytes.bytesOf v1) (← Extern.Bytes.bytesOf v2)))) w = _
    simp only [Sem.run_bind, Sem.run_pure, run_bytesOf h1, run_bytesOf h2, Result.andThen]
    rw [Lib.cmp_eq]
    rfl
  rw [this]
  rfl
theorem Cmp_any {w : World} {v1 v2 : Value} {l1 l2 sp1 sp2 : List UInt8} (h1 : SlB w v1 l1 sp1) (h2 : SlB w v2 l2 sp2) : Calls Tryd.prog 44 #[v1, v2] w fun r w' => r = .returned (.int .i64 (Lib.compareBytes l1 l2)) ∧ w' = w := by
  have hc := call51 h1 h2
  obtain ⟨a, cap, rfl, _, _⟩ := h1.form
  obtain ⟨a2, cap2, rfl, _, _⟩ := h2.form
  clear h1 h2
  go_enter Tryd.func44, Tryd.ntmps44
  go_wp2
  go_ret
  exact ⟨rfl, rfl⟩
theorem slice29c (b : Nat) (W : World) : (Instr.sliceAt 29 (.pointer (some ⟨b, 0, none⟩)) none none none).run Tryd.prog W = .ok (.slice (some ⟨b, 0, none⟩) 32 32) W := by
  have hu : Tryd.prog.underlying 29 = some (.array (Tryd.prog.arrayLen 29) (Tryd.prog.elem 29)) := by kernel_rfl
  have hl : Tryd.prog.arrayLen 29 = 32 := by kernel_rfl
  have he : Tryd.prog.elem 29 = 5 := by kernel_rfl
  have hs : (sizeOf 5).run Tryd.prog W = .ok 1 W := by kernel_rfl
  rw [run_sliceAt_array_all (P := Tryd.prog) W 29 _ hu, he, hs, hl]
  rfl
/-- Less of two IDs: as of their bytes, in order. -/
theorem Less_any (a b : List UInt8) (ha : a.length = 32) (hb : b.length = 32) (w : World) : Calls Tryd.prog 25 #[.agg (bvs a).toArray, .agg (bvs b).toArray] w fun r w' => r = .returned (.bool (decide (Lib.compareBytes a b < 0))) ∧ Frm [] w w' := by
  have hs := slice29c
  have hA : ((w.alloc (.cells (bvs a).toArray 29)).alloc (.cells (bvs b).toArray 29)).heap[w.heap.size]? = some (.cells (bvs a).toArray 29 (0, 0)) := heap_alloc_lt (heap_alloc_new _ _)
  have hB : ((w.alloc (.cells (bvs a).toArray 29)).alloc (.cells (bvs b).toArray 29)).heap[w.heap.size + 1]? = some (.cells (bvs b).toArray 29 (0, 0)) := heap_alloc_at (by simp)
  have hF : Frm [] w ((w.alloc (.cells (bvs a).toArray 29)).alloc (.cells (bvs b).toArray 29)) := ((Frm.refl _ _).alloc _).alloc _
  have HA := Lib.hid hA
  have HB := Lib.hid hB
  have HF := Lib.hid hF
  have HLA := Lib.hid ha
  have HLB := Lib.hid hb
  clear hA hB hF ha hb
  go_enter Tryd.func25, Tryd.ntmps25
  go_wp2
  generalize ((w.alloc (.cells (bvs a).toArray 29)).alloc (.cells (bvs b).toArray 29)) = W at *
  have p1 := slb_part (w := W.drew) HA.out 0 32 32 (by rw [HLA.out]; omega) (Nat.le_refl _) (by rw [HLA.out]; omega) (by rw [HLA.out]; decide)
  have p2 := slb_part (w := W.drew) HB.out 0 32 32 (by rw [HLB.out]; omega) (Nat.le_refl _) (by rw [HLB.out]; omega) (by rw [HLB.out]; decide)
  rw [List.drop_zero, List.take_of_length_le (by rw [HLA.out]; omega)] at p1
  rw [List.drop_zero, List.take_of_length_le (by rw [HLB.out]; omega)] at p2
  have hcmp := Cmp_any p1 p2
  clear p1 p2
  refine wp_region_still_lit (by kernel_rfl) (by kernel_rfl) ?_
  change wpStill _ _ (World.drew _) _ _ _
  still_step
  still_step
  still_call hcmp
  repeat still_step
  refine wpStill_nil ?_
  change Exit.then _ _ _ _ (World.drew _)
  go_wp2_with fail
  go_ret
  exact ⟨rfl, HF.out.drew⟩
end Go.Proofs.YtopjbiccipgnjaaDoor
