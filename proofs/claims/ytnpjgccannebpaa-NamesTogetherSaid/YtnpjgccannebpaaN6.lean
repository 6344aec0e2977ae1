/-
  Contracts of pieces, Less, the document's Less, splits; the chapter's examples. No conditions but those that each theorem names.
-/
import Derived.Test.YtnpjgccannebpaaN5
namespace Go.Proofs.Ytnpjgccannebpaa
open Go.RowKit
set_option linter.unusedVariables false
set_option linter.unusedSimpArgs false
set_option maxRecDepth 100000

def mkS (s : ByteArray) : ByteArray := if cutIs s = true then ⟨#[64]⟩ else ⟨#[]⟩
def pvV (s : ByteArray) : Value := .agg #[.string (cut1 s), .string (mkS s), .string (cut2 s)]
theorem cut2_no {s : ByteArray} (h : cutIs s = false) : cut2 s = ⟨#[]⟩ := by unfold cut2; rw [cut_false h]; rfl
theorem lessS_eq (a b : ByteArray) : lessS a b = decide (cmp3 ((cut1 a).data.toList, (mkS a).data.toList, (cut2 a).data.toList) ((cut1 b).data.toList, (mkS b).data.toList, (cut2 b).data.toList) < 0) := by
  have h : ∀ s : ByteArray, pcs s.data.toList = ((cut1 s).data.toList, (mkS s).data.toList, (cut2 s).data.toList) := fun s => by
    unfold pcs cut1 cut2 mkS cutIs
    cases (cutL s.data.toList).2.2 <;> rfl
  unfold lessS lessL
  rw [h, h]
set_option maxHeartbeats 1000000 in
theorem pieces_any (s : ByteArray) (hs : s.size ≤ 1000) (w : World) : Calls Try.prog 29 #[.string s] w fun e w' => e = .returned (pvV s) ∧ Frm [] w w' := by
  have HC := Lib.hid (fun W => Cut_any s hs W)
  unfold CutE at HC
  have HN := Lib.hid (fun h => cut2_no (s := s) h)
  unfold pvV mkS
  generalize cut1 s = a at *
  generalize cut2 s = b at *
  generalize cutIs s = c at *
  clear hs
  cases c
  · have hb := HN.out rfl
    subst hb
    clear HN
    go_enter Try.func29, Try.ntmps29
    go_upto_region 1 with fail
    have B0 := heap_alloc_new w (.cells #[.string ⟨#[]⟩, .string ⟨#[]⟩, .string ⟨#[]⟩] 36)
    have F0 := Lib.hid (show Frm [] w (w.alloc (.cells #[.string ⟨#[]⟩, .string ⟨#[]⟩, .string ⟨#[]⟩] 36)) from (Frm.refl [] w).alloc _)
    generalize w.alloc (.cells #[.string ⟨#[]⟩, .string ⟨#[]⟩, .string ⟨#[]⟩] 36) = w0 at *
    obtain ⟨g, hg⟩ : ∃ g, w.heap.size = g := ⟨_, rfl⟩
    rw [hg] at B0 ⊢
    have HG := Lib.hid hg
    clear hg
    go_upto_region 2 with (go_at_call 22; refine (HC.out _).mono ?_; rintro e w1 ⟨rfl, f1⟩)
    have B1 := f1.heap B0 (by simp)
    have F1 := Lib.hid (F0.out.trans f1 (by simp))
    have c0 := cell_of_heap B1 0
    have c1 := cell_of_heap B1 1
    have c2 := cell_of_heap B1 2
    have z0 := frozen_of_heap B1 0
    have z1 := frozen_of_heap B1 1
    have z2 := frozen_of_heap B1 2
    simp at c0 c1 c2
    have HB := Lib.hid B1
    clear B0 f1 B1
    go_wp2_with fail
    exact bodyPost_ret (v := .agg #[.string a, .string ⟨#[]⟩, .string ⟨#[]⟩]) (results_cell_row rfl _ _ g 36 _ (0, 0) _ rfl (heap_setCell_same _ (heap_setCell_same _ (heap_setCell_same _ HB.out))) Try.underlying36 rfl (by kernel_rfl)) rfl ⟨rfl, ((F1.out.setCell _ _ (.inr (by have := HG.out; show _ ≤ g; omega))).setCell _ _ (.inr (by have := HG.out; show _ ≤ g; omega))).setCell _ _ (.inr (by have := HG.out; show _ ≤ g; omega))⟩
  · clear HN
    go_enter Try.func29, Try.ntmps29
    go_upto_region 1 with fail
    have B0 := heap_alloc_new w (.cells #[.string ⟨#[]⟩, .string ⟨#[]⟩, .string ⟨#[]⟩] 36)
    have F0 := Lib.hid (show Frm [] w (w.alloc (.cells #[.string ⟨#[]⟩, .string ⟨#[]⟩, .string ⟨#[]⟩] 36)) from (Frm.refl [] w).alloc _)
    generalize w.alloc (.cells #[.string ⟨#[]⟩, .string ⟨#[]⟩, .string ⟨#[]⟩] 36) = w0 at *
    obtain ⟨g, hg⟩ : ∃ g, w.heap.size = g := ⟨_, rfl⟩
    rw [hg] at B0 ⊢
    have HG := Lib.hid hg
    clear hg
    go_upto_region 2 with (go_at_call 22; refine (HC.out _).mono ?_; rintro e w1 ⟨rfl, f1⟩)
    have B1 := f1.heap B0 (by simp)
    have F1 := Lib.hid (F0.out.trans f1 (by simp))
    have c0 := cell_of_heap B1 0
    have c1 := cell_of_heap B1 1
    have c2 := cell_of_heap B1 2
    have z0 := frozen_of_heap B1 0
    have z1 := frozen_of_heap B1 1
    have z2 := frozen_of_heap B1 2
    simp at c0 c1 c2
    have HB := Lib.hid B1
    clear B0 f1 B1
    go_wp2_with fail
    exact bodyPost_ret (v := .agg #[.string a, .string ⟨#[64]⟩, .string b]) (results_cell_row rfl _ _ g 36 _ (0, 0) _ rfl (heap_setCell_same _ (heap_setCell_same _ (heap_setCell_same _ HB.out))) Try.underlying36 rfl (by kernel_rfl)) rfl ⟨rfl, ((F1.out.setCell _ _ (.inr (by have := HG.out; show _ ≤ g; omega))).setCell _ _ (.inr (by have := HG.out; show _ ≤ g; omega))).setCell _ _ (.inr (by have := HG.out; show _ ≤ g; omega))⟩
theorem Less_any (a b : ByteArray) (ha : a.size ≤ 1000) (hb : b.size ≤ 1000) (w : World) : Calls Try.prog 19 #[.string a, .string b] w fun e w' => e = .returned (.bool (lessS a b)) ∧ Frm [] w w' := by
  have HA := Lib.hid (fun W => pieces_any a ha W)
  have HB := Lib.hid (fun W => pieces_any b hb W)
  have HC := Lib.hid (fun W => cmp_any (cut1 a) (mkS a) (cut2 a) (cut1 b) (mkS b) (cut2 b) W)
  rw [lessS_eq]
  generalize cmp3 ((cut1 a).data.toList, (mkS a).data.toList, (cut2 a).data.toList) ((cut1 b).data.toList, (mkS b).data.toList, (cut2 b).data.toList) = k at *
  unfold pvV at HA HB
  generalize cut1 a = a1 at *
  generalize mkS a = a2 at *
  generalize cut2 a = a3 at *
  generalize cut1 b = b1 at *
  generalize mkS b = b2 at *
  generalize cut2 b = b3 at *
  clear ha hb
  go_enter Try.func19, Try.ntmps19
  go_wp2_with (first
    | (go_at_call 28; refine (HC.out _).mono ?_; rintro e w3 ⟨rfl, f3⟩; have F3 := Lib.hid (F2.out.trans f3 (by simp)); clear f3)
    | (go_at_call 29; refine (HA.out _).mono ?_; rintro e w1 ⟨rfl, f1⟩; have F1 := Lib.hid f1; clear f1 HA)
    | (go_at_call 29; refine (HB.out _).mono ?_; rintro e w2 ⟨rfl, f2⟩; have F2 := Lib.hid (F1.out.trans f2 (by simp)); clear f2))
  go_ret
  exact ⟨rfl, F3.out⟩
theorem bytesLess_cb : ∀ a b : List UInt8, Op.bytesLess a b = decide (Lib.compareBytes a b < 0)
  | [], [] => by simp [Op.bytesLess, Lib.compareBytes]
  | _ :: _, [] => by simp [Op.bytesLess, Lib.compareBytes]
  | [], _ :: _ => by simp [Op.bytesLess, Lib.compareBytes]
  | a :: x, b :: y => by
    unfold Op.bytesLess Lib.compareBytes
    rw [bytesLess_cb x y]
    by_cases h1 : a < b
    · simp [h1]
    · by_cases h2 : b < a
      · have h3 : (a == b) = false := by simp; intro h; subst h; exact h1 h2
        simp [h1, h2, h3]
      · have h3 : a = b := UInt8.le_antisymm (UInt8.not_lt.1 h2) (UInt8.not_lt.1 h1)
        subst h3
        simp [h1]
theorem less_ref (a b : ByteArray) : lessS a b = if (cut1 a).toList == (cut1 b).toList then (if cutIs a && cutIs b then Op.bytesLess (cut2 a).toList (cut2 b).toList else !cutIs a && cutIs b) else Op.bytesLess (cut1 a).toList (cut1 b).toList := by
  rw [Lib.toList_data, Lib.toList_data, Lib.toList_data, Lib.toList_data, bytesLess_cb, bytesLess_cb]
  unfold lessS
  rw [less_doc]
  unfold cut1 cut2 cutIs
  simp only [sB_list]
  generalize cutL a.data.toList = x
  generalize cutL b.data.toList = y
  obtain ⟨x1, x2, x3⟩ := x
  obtain ⟨y1, y2, y3⟩ := y
  by_cases h : x1 = y1
  · subst h
    cases x3 <;> cases y3 <;> simp <;> exact decide_eq_decide.2 Iff.rfl
  · simp [h] <;> exact decide_eq_decide.2 Iff.rfl
set_option maxHeartbeats 2000000 in
theorem RefLess_any (a b : ByteArray) (ha : a.size ≤ 1000) (hb : b.size ≤ 1000) (w : World) : Calls Try.prog 20 #[.string a, .string b] w fun e w' => e = .returned (.bool (lessS a b)) ∧ Frm [] w w' := by
  have HA := Lib.hid (fun W => RefCut_any a ha W)
  have HB := Lib.hid (fun W => RefCut_any b hb W)
  unfold CutE at HA HB
  rw [less_ref]
  generalize cut1 a = a1 at *
  generalize cut2 a = a2 at *
  generalize cutIs a = a3 at *
  generalize cut1 b = b1 at *
  generalize cut2 b = b2 at *
  generalize cutIs b = b3 at *
  clear ha hb
  cases hq : (a1.toList == b1.toList)
  · go_enter Try.func20, Try.ntmps20
    go_upto_region 2 with (go_at_call 24; refine (HA.out _).mono ?_; rintro e w1 ⟨rfl, f1⟩; have F1 := Lib.hid f1; clear f1)
    go_upto_region 3 with (go_at_call 24; refine (HB.out _).mono ?_; rintro e w2 ⟨rfl, f2⟩; have F2 := Lib.hid (F1.out.trans f2 (by simp)); clear f2)
    go_wp2_with fail
    go_ret
    exact ⟨rfl, F2.out⟩
  · cases a3 <;> cases b3
    all_goals
      go_enter Try.func20, Try.ntmps20
      go_upto_region 2 with (go_at_call 24; refine (HA.out _).mono ?_; rintro e w1 ⟨rfl, f1⟩; have F1 := Lib.hid f1; clear f1)
      go_upto_region 3 with (go_at_call 24; refine (HB.out _).mono ?_; rintro e w2 ⟨rfl, f2⟩; have F2 := Lib.hid (F1.out.trans f2 (by simp)); clear f2)
      go_wp2_with fail
      go_ret
      exact ⟨rfl, F2.out⟩
end Go.Proofs.Ytnpjgccannebpaa
