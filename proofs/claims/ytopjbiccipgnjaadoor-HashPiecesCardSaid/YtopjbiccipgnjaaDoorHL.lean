/-
  What the law is awake to: the chapter's examples of a digest; no conditions but those that each theorem names.
-/
import Derived.Test.YtopjbiccipgnjaaDoorHK
import Derived.Lib.SlBytesConst
namespace Go.Proofs.YtopjbiccipgnjaaDoor
open Go.RowKit
set_option linter.unusedVariables false
set_option linter.unusedSimpArgs false
set_option maxRecDepth 1000000

theorem abc_first : (sha [97, 98, 99]).take 4 = [186, 120, 22, 191] := by kernel_rfl
theorem abc_last : (sha [97, 98, 99]).drop 28 = [242, 0, 21, 173] := by kernel_rfl
theorem fills_nil : fills [] = [pieceL (filled []) 0] := by kernel_rfl
theorem piece_nil : pieceL (filled []) 0 = 128 :: List.replicate 63 0 := by kernel_rfl
theorem OwnL.row {lo : Nat} {w : World} {v : Value} {ls : List (List UInt8)} (h : OwnL lo w v ls) (i : Nat) (hi : i < ls.length) (hne : ls[i] ≠ []) :
    ∃ g cap gu capu spu, v = .slice (some ⟨g, 0, none⟩) ls.length cap ∧ w.cell? ⟨g, i, none⟩ = some (.slice (some ⟨gu, 0, none⟩) ls[i].length capu) ∧ OwnB 5 w (.slice (some ⟨gu, 0, none⟩) ls[i].length capu) ls[i] spu := by
  obtain ⟨vs, sp, h1, h2, h3, h4⟩ := h.ex
  obtain ⟨u, sp', g1, g2, g3, g4⟩ := h2 i hi
  have hlen : vs.length = ls.length := by have := h1.1; omega
  obtain ⟨k1, k2 | ⟨g, cap, rfl, k3, k4, k5, k6⟩⟩ := h1
  · have := k2.2.1; omega
  · obtain ⟨m1, m2 | ⟨gu, capu, rfl, m3, m4, m5, m6⟩⟩ := id g2
    · exact absurd (List.eq_nil_of_length_eq_zero m2.2.1) hne
    · refine ⟨g, cap, gu, capu, sp', rfl, ?_, g2⟩
      rw [cell_of_heap k6, List.getElem?_toArray, List.getElem?_append_left (by omega), g1]
theorem slice29a (b : Nat) (W : World) : (Instr.sliceAt 29 (.pointer (some ⟨b, 0, none⟩)) none (some (.int .i64 4)) none).run Tryd.prog W = .ok (.slice (some ⟨b, 0, none⟩) 4 32) W := by
  have hu : Tryd.prog.underlying 29 = some (.array (Tryd.prog.arrayLen 29) (Tryd.prog.elem 29)) := by kernel_rfl
  have hl : Tryd.prog.arrayLen 29 = 32 := by kernel_rfl
  have he : Tryd.prog.elem 29 = 5 := by kernel_rfl
  have hs : (sizeOf 5).run Tryd.prog W = .ok 1 W := by kernel_rfl
  rw [run_sliceAt_array_h (P := Tryd.prog) W 29 _ hu .i64 4 (by decide) (by rw [hl]; decide), he, hs, hl]
  rfl
theorem slice29b (b : Nat) (W : World) : (Instr.sliceAt 29 (.pointer (some ⟨b, 0, none⟩)) (some (.int .i64 28)) none none).run Tryd.prog W = .ok (.slice (some ⟨b, 28, none⟩) 4 4) W := by
  have hu : Tryd.prog.underlying 29 = some (.array (Tryd.prog.arrayLen 29) (Tryd.prog.elem 29)) := by kernel_rfl
  have hl : Tryd.prog.arrayLen 29 = 32 := by kernel_rfl
  have he : Tryd.prog.elem 29 = 5 := by kernel_rfl
  have hs : (sizeOf 5).run Tryd.prog W = .ok 1 W := by kernel_rfl
  rw [run_sliceAt_array_l (P := Tryd.prog) W 29 _ hu .i64 28 (by decide) (by rw [hl]; decide), he, hs, hl]
  rfl
theorem slb_part {w : World} {b : Nat} {p : List UInt8} {T : TypeId} {fr : Nat × Nat} (h : w.heap[b]? = some (.cells (bvs p).toArray T fr)) (off n cap : Nat) (hn : off + n ≤ p.length) (hc : n ≤ cap) (hc2 : off + cap ≤ p.length) (hm : p.length ≤ maxLen) :
    SlB w (.slice (some ⟨b, off, none⟩) n cap) ((p.drop off).take n) ((p.drop (off + n)).take (cap - n)) := by
  have hl : ((p.drop off).take n).length = n := by simp; omega
  have hsp : (p.drop off).take n ++ (p.drop (off + n)).take (cap - n) = (p.drop off).take cap := by
    rw [← List.drop_drop, ← List.take_add, show n + (cap - n) = cap by omega]
  refine ⟨by simp [bvs_length], .inr (.inr ⟨b, off, cap, by rw [hl], by rw [hl]; omega, by omega, ?_, fun i u hu => ?_⟩)⟩
  · rw [← bvs_append, hsp, bvs_length]; simp; omega
  · rw [← bvs_append, hsp, bvs_get] at hu
    rw [cell_of_heap h, List.getElem?_toArray, bvs_get]
    have hi : i < cap := by
      rcases Nat.lt_or_ge i cap with h | h
      · exact h
      · rw [List.getElem?_eq_none (by simp; omega)] at hu; cases hu
    rw [List.getElem?_take_of_lt hi, List.getElem?_drop] at hu
    exact hu
set_option maxHeartbeats 1000000 in
theorem ends_yes (id : List UInt8) (hid : id.length = 32) (v1 v2 : Value) (l1 l2 sp1 sp2 : List UInt8) (w : World) (h1 : SlB w v1 l1 sp1) (h2 : SlB w v2 l2 sp2) (e1 : id.take 4 = l1) (e2 : id.drop 28 = l2) :
    Calls Tryd.prog 29 #[.agg (bvs id).toArray, v1, v2] w fun r w' => r = .returned (.bool true) ∧ Frm [] w w' := by
  obtain ⟨a1, cap1, rfl, _, _⟩ := h1.form
  obtain ⟨a2, cap2, rfl, _, _⟩ := h2.form
  have f0 : Frm [] w (w.alloc (.cells (bvs id).toArray 29)) := (Frm.refl _ _).alloc _
  have p1 := slb_part (heap_alloc_new w (.cells (bvs id).toArray 29)) 0 4 32 (by omega) (by omega) (by omega) (by rw [hid]; decide)
  have p2 := slb_part (heap_alloc_new w (.cells (bvs id).toArray 29)) 28 4 4 (by omega) (by omega) (by omega) (by rw [hid]; decide)
  rw [List.drop_zero, e1] at p1
  rw [e2, show (l2.take 4) = l2 from by rw [← e2]; apply List.take_of_length_le; simp; omega] at p2
  have hs1 := Same_any _ _ _ _ _ _ _ p1 (h1.keep f0 (by simp))
  have hs2 := Same_any _ _ _ _ _ _ _ p2 (h2.keep f0 (by simp))
  rw [show (l1 == l1) = true from by simp] at hs1
  rw [show (l2 == l2) = true from by simp] at hs2
  have S1 := Lib.hid hs1
  have S2 := Lib.hid hs2
  have F0 := Lib.hid f0
  have r1 := slice29a
  have r2 := slice29b
  clear hs1 hs2 p1 p2 h1 h2 e1 e2 hid f0
  generalize l1.length = n1 at *
  generalize l2.length = n2 at *
  go_enter Tryd.func29, Tryd.ntmps29
  go_wp2_with fail
  refine S1.out.mono ?_
  rintro r w1 ⟨rfl, rfl⟩
  go_wp2_with fail
  refine S2.out.mono ?_
  rintro r w2 ⟨rfl, rfl⟩
  go_wp2_with fail
  go_ret
  exact ⟨rfl, F0.out⟩
def YesF (w : World) (r : Ending) (w' : World) : Prop := r = .returned (.bool true) ∧ Frm [] w w'
/-- Bytes that the call has just laid. -/
theorem slb_new (w : World) (l : List UInt8) (n : Nat) (cs : Array Value) (fr : Nat × Nat) (hcs : cs = (bvs l).toArray) (hn : l.length = n) (hl : l.length ≤ maxLen) : SlB (w.alloc (.cells cs 5 fr)) (.slice (some ⟨w.heap.size, 0, none⟩) n n) l [] := by
  subst hn hcs
  have := slb_part (heap_alloc_new w (.cells (bvs l).toArray 5 fr)) 0 l.length l.length (by omega) (Nat.le_refl _) (by omega) hl
  simpa using this
set_option maxHeartbeats 2000000 in
theorem awake_any (w : World) (hG : Glob w) : Calls Tryd.prog 9 #[] w fun r w' => YesF w r w' := by
  have HG := Lib.hid hG
  clear hG
  go_enter Tryd.func9, Tryd.ntmps9
  go_wp2_with fail
  refine (Fill_any _ [] [] _ (SlB.nil _) (by simp)).mono ?_
  rintro r w1 ⟨v', rfl, hl, f1⟩
  rw [fills_nil, piece_nil] at hl
  obtain ⟨g, cap, gu, capu, spu, rfl, c0, o⟩ := hl.row 0 (by simp) (by simp)
  simp only [List.getElem_cons_zero, List.length_cons, List.length_replicate, List.length_nil] at c0 o
  have k0 := o.cell 0 (by simp; omega)
  have k1 := o.cell 1 (by simp; omega)
  have k63 := o.cell 63 (by simp; omega)
  have e0 : bv ((128 :: List.replicate 63 (0 : UInt8)) ++ spu)[0]! = .int .u8 128 := rfl
  have e1 : bv ((128 :: List.replicate 63 (0 : UInt8)) ++ spu)[1]! = .int .u8 0 := rfl
  have e63 : bv ((128 :: List.replicate 63 (0 : UInt8)) ++ spu)[63]! = .int .u8 0 := rfl
  rw [e0] at k0
  rw [e1] at k1
  rw [e63] at k63
  have F1 := Lib.hid f1
  clear hl o e0 e1 e63 f1
  have hcv := fun (w : World) (C : Array Value) (n c : Nat) => Lib.run_convert_bytes_const (P := Tryd.prog) w 22 5 C n c Tryd.underlying22 Tryd.underlying5
  go_wp2_with fail
  have hF1 : ∀ o, Frm [] w (w1.alloc o) := fun o => F1.out.alloc o
  refine (Sum_any _ [97, 98, 99] [] _ (slb_new w1 [97, 98, 99] 3 _ _ rfl rfl (by simp [maxLen])) (by simp) (HG.out.keep (hF1 _) (by simp))).mono ?_
  rintro r w2 ⟨rfl, f2⟩
  have F2 := Lib.hid ((hF1 _).trans f2 (by simp))
  clear f2 hF1 k0 k1 k63 c0
  have hsl : (sha [97, 98, 99]).length = 32 := by kernel_rfl
  have hA := abc_first
  have hB := abc_last
  generalize sha [97, 98, 99] = D at *
  have HA := Lib.hid hA
  have HB := Lib.hid hB
  have HSL := Lib.hid hsl
  clear hA hB hsl
  go_wp2_with fail
  refine (ends_yes D HSL.out _ _ [186, 120, 22, 191] [242, 0, 21, 173] [] [] _ ((slb_new w2 [186, 120, 22, 191] 4 _ _ rfl rfl (by simp [maxLen])).keep ((Frm.refl [] _).alloc _) (by simp)) (by have := slb_new (w2.alloc (.cells #[.int .u8 186, .int .u8 120, .int .u8 22, .int .u8 191] 5)) [242, 0, 21, 173] 4 #[.int .u8 242, .int .u8 0, .int .u8 21, .int .u8 173] (0, 0) rfl rfl (by simp [maxLen]); rw [World.size_alloc] at this; exact this) HA.out HB.out).mono ?_
  rintro r w3 ⟨rfl, f3⟩
  have F3 := Lib.hid (((F2.out.alloc _).alloc _).trans f3 (by simp))
  clear f3
  go_wp2_with fail
  go_ret
  exact ⟨rfl, F3.out⟩
end Go.Proofs.YtopjbiccipgnjaaDoor
