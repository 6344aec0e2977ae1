/-
  Contracts of the library's cut at the mark, of its clone, and of the document's cut. No conditions but those that each theorem names.
-/
import Derived.Test.YtnpjgccannebpaaN1
import Derived.Lib.BufferWrite
import Derived.Lib.UnsafeStr
import Derived.Laws.MakeOwn
import Derived.Lib.Bytealg
import Derived.Laws.Strings3
import Derived.BigRegion
import Derived.Lib.Walk
namespace Go.Proofs.Ytnpjgccannebpaa
open Go.RowKit
set_option linter.unusedVariables false
set_option linter.unusedSimpArgs false
set_option maxRecDepth 100000

theorem call43 (s : ByteArray) (c : Int) (w : World) : (callFunc 43 #[.string s, .int .u8 c]).run Try.prog w = .ok (.value (.int .i64 (Lib.indexByte s.data.toList c.toNat.toUInt8))) w := by
  rw [run_callFunc_extern Try.func43 (by kernel_rfl) (by kernel_rfl) (by kernel_rfl) (e := Extern.BytealgIndexByte.indexByte) (by kernel_rfl), Lib.run_indexByteString]
  rfl
theorem IndexByte_any (s : ByteArray) (c : Int) (w : World) : Calls Try.prog 38 #[.string s, .int .u8 c] w fun e w' => e = .returned (.int .i64 (Lib.indexByte s.data.toList c.toNat.toUInt8)) ∧ w' = w := by
  have hc := call43 s c w
  go_enter Try.func38, Try.ntmps38
  go_wp2
  go_ret
  exact ⟨rfl, rfl⟩
set_option maxHeartbeats 1000000 in
theorem Index_at (s : ByteArray) (w : World) : Calls Try.prog 35 #[.string s, .string ⟨#[64]⟩] w fun e w' => e = .returned (.int .i64 (Lib.indexByte s.data.toList 64)) ∧ w' = w := by
  have HI := Lib.hid (fun W => IndexByte_any s 64 W)
  rw [show ((64 : Int).toNat.toUInt8) = 64 from rfl] at HI
  go_enter Try.func35, Try.ntmps35
  go_wp2_with (go_at_call 38; refine (HI.out _).mono ?_; rintro e w' ⟨rfl, hw⟩; obtain rfl := hw.symm)
  · have h : ([64] == s.toList) = true := by assumption
    go_ret
    refine ⟨?_, rfl⟩
    have e : s.data.toList = [64] := by rw [← Lib.toList_data]; exact (beq_iff_eq.1 h).symm
    rw [e]
    rfl
  · go_ret
    exact ⟨rfl, rfl⟩
theorem ext_front (s : ByteArray) (i : Nat) : s.extract 0 i = sB (s.data.toList.take i) := by rw [Lib.extract_eq]; simp [sB]
theorem ext_back (s : ByteArray) (i : Nat) : s.extract i s.size = sB (s.data.toList.drop i) := by
  rw [Lib.extract_eq, List.take_of_length_le (by rw [List.length_drop, Lib.size_eq]; exact Nat.le_refl _)]; rfl
def CutE (s : ByteArray) (e : Ending) : Prop := e = .returned (.tuple #[.string (cut1 s), .string (cut2 s), .bool (cutIs s)])
theorem cut_hit_s {s : ByteArray} {i : Nat} (h : cutL s.data.toList = (s.data.toList.take i, s.data.toList.drop (i + 1), true)) : cut1 s = s.extract 0 i ∧ cut2 s = s.extract (i + 1) s.size ∧ cutIs s = true := by
  unfold cut1 cut2 cutIs
  rw [h, ext_front, ext_back]
  exact ⟨rfl, rfl, rfl⟩
theorem cut_no_s {s : ByteArray} (h : cutL s.data.toList = (s.data.toList, [], false)) : cut1 s = s ∧ cut2 s = ⟨#[]⟩ ∧ cutIs s = false := by
  unfold cut1 cut2 cutIs
  rw [h]
  exact ⟨sB_data s, rfl, rfl⟩
set_option maxHeartbeats 2000000 in
theorem sCut_any (s : ByteArray) (hs : s.size ≤ 1000) (w : World) : Calls Try.prog 30 #[.string s, .string ⟨#[64]⟩] w fun e w' => CutE s e ∧ Frm [] w w' := by
  have HI := Lib.hid (fun W => Index_at s W)
  unfold CutE
  rcases cut_index s.data.toList with ⟨h1, h2⟩ | ⟨i, h1, h3, h2⟩
  · obtain ⟨e1, e2, e3⟩ := cut_no_s h2
    rw [e1, e2, e3]
    rw [h1] at HI
    clear h1 h2 e1 e2 e3
    go_enter Try.func30, Try.ntmps30
    go_wp2_with (go_at_call 35; refine (HI.out _).mono ?_; rintro e w' ⟨rfl, hw⟩; obtain rfl := hw.symm)
    go_ret3
    exact ⟨rfl, Frm.refl _ _⟩
  · obtain ⟨e1, e2, e3⟩ := cut_hit_s h2
    rw [e1, e2, e3]
    rw [h1] at HI
    rw [← Lib.size_eq] at h3
    have c1 : (0 : Int) ≤ (i : Int) := by omega
    have c2 : (i : Int) ≤ (s.size : Int) := by omega
    have c3 : (0 : Int) ≤ (i : Int) + 1 := by omega
    have c4 : (i : Int) + 1 ≤ (s.size : Int) := by omega
    have hs9 : (s.size : Int) ≤ 1000 := by omega
    clear h1 h2 e1 e2 e3 h3 hs
    go_enter Try.func30, Try.ntmps30
    go_wp2_with (go_at_call 35; refine (HI.out _).mono ?_; rintro e w' ⟨rfl, hw⟩; obtain rfl := hw.symm)
    go_big_region
    go_wp2
    go_ret3
    exact ⟨rfl, (Frm.refl _ _).drew⟩
theorem Cut_any (s : ByteArray) (hs : s.size ≤ 1000) (w : World) : Calls Try.prog 22 #[.string s, .string ⟨#[64]⟩] w fun e w' => CutE s e ∧ Frm [] w w' := by
  have HC := Lib.hid (sCut_any s hs w)
  unfold CutE at HC ⊢
  go_enter Try.func22, Try.ntmps22
  go_wp2_with (go_at_call 30; refine HC.out.mono ?_; rintro e w' ⟨rfl, f⟩; have F := Lib.hid f; clear f)
  go_ret3
  exact ⟨rfl, F.out⟩
set_option maxHeartbeats 4000000 in
theorem sClone_any (s : ByteArray) (hs : s.size ≤ 1000) (w : World) : Calls Try.prog 31 #[.string s] w fun e w' => e = .returned (.string s) ∧ Frm [] w w' := by
  by_cases h0 : s.size = 0
  · have hs : s = ⟨#[]⟩ := by
      apply ByteArray.ext
      exact Array.eq_empty_of_size_eq_zero h0
    subst hs
    go_enter Try.func31, Try.ntmps31
    go_wp2
    go_ret
    exact ⟨rfl, Frm.refl _ _⟩
  · obtain ⟨i0, hi, hz0, hz1, hz2⟩ : ∃ i0, Try.prog.info? 5 = some i0 ∧ i0.zero = some (.int .u8 0) ∧ i0.size = 1 ∧ i0.bytes = 1 := ⟨_, rfl, by kernel_rfl, by kernel_rfl, by kernel_rfl⟩
    have hinfo : (Try.prog.info? 5).map (·.size) = some 1 := by rw [hi]; simp [hz1]
    have hco : Try.prog.cellsOf 5 = 1 := by kernel_rfl
    obtain ⟨M, hM⟩ : ∃ M, M = madeCells (Value.int .u8 0).cells (((s.size : Nat) : Int).toNat * i0.size) := ⟨_, rfl⟩
    have hMs : M.size = s.size := by rw [hM, size_madeCells, hz1]; simp
    have hmk : ∀ W : World, (Instr.makeSlice 43 (.int .i64 (s.size : Int)) (.int .i64 (s.size : Int))).run Try.prog W = .ok (.slice (some ⟨W.heap.size, 0, none⟩) s.size s.size) (W.alloc (.cells M 5)) := fun W => by
      have h := run_make (P := Try.prog) W 43 5 i0 (.int .u8 0) Try.underlying43 hi hz0 .i64 .i64 (s.size : Int) (s.size : Int) (by omega) (by omega) (by rw [hz2]; omega) (by omega)
      rw [← hM] at h
      simpa using h
    clear hM
    have hcp := Lib.run_copy_row_string (P := Try.prog) (w.alloc (.cells M 5)) 43 9 3 5 w.heap.size 0 s.size s.size s M 5 Try.underlying43 hinfo (heap_alloc_new w _) (Nat.le_refl _) (by omega)
    obtain ⟨Y, hY⟩ : ∃ Y, Y = (M.toList.take 0 ++ Lib.byteCells s.data.toList ++ M.toList.drop (0 + s.size)).toArray := ⟨_, rfl⟩
    rw [← hY] at hcp
    have hYl : Y.toList = Lib.byteCells s.data.toList := by
      rw [hY, List.toList_toArray, List.take_zero, List.nil_append, List.drop_of_length_le (by rw [Array.length_toList]; omega), List.append_nil]
    have hYs : Y.size = s.size := by rw [← Array.length_toList, hYl, Lib.byteCells_length, ← Lib.size_eq]
    have hgY : ((w.alloc (.cells M 5)).setRow w.heap.size Y).heap[w.heap.size]? = some (.cells Y 5 (0, 0)) := setRow_heap _ _ M _ 5 (0, 0) (heap_alloc_new w _)
    have hne : s.data.toList ≠ [] := fun e => h0 (by rw [Lib.size_eq, e]; rfl)
    have hUS := Lib.run_unsafeString_row (P := Try.prog) ((w.alloc (.cells M 5)).setRow w.heap.size Y) 44 3 9 5 Try.underlying44 hco w.heap.size Y.size (by unfold World.shape?; rw [hgY]) s.data.toList hne (by rw [← Lib.size_eq]; omega) (by rw [← Lib.size_eq]; omega)
      (fun j x hx => Lib.cells_of_row hgY Y.size j _ (by rw [List.take_of_length_le (by rw [Array.length_toList]; exact Nat.le_refl _), hYl]; simp [Lib.byteCells, hx]))
    rw [← Lib.size_eq] at hUS
    clear hY
    go_enter Try.func31, Try.ntmps31
    go_wp2
    go_ret
    have hb1 : Below w.heap.size w (w.alloc (.cells M 5)) := (Below.refl _ w).alloc (Nat.le_refl _) _
    have hb2 : Below w.heap.size (w.alloc (.cells M 5)) ((w.alloc (.cells M 5)).setRow w.heap.size Y) := ⟨rfl, rfl, rfl, by simp, fun k hk => setRow_other _ _ _ _ (by omega)⟩
    exact ⟨rfl, Frm.of_below (Lib.below_freeze (hb1.trans hb2) (p := ⟨w.heap.size, 0, none⟩) (Nat.le_refl _) _) []⟩
theorem Clone_any (s : ByteArray) (hs : s.size ≤ 1000) (w : World) : Calls Try.prog 23 #[.string s] w fun e w' => e = .returned (.string s) ∧ Frm [] w w' := by
  have HC := Lib.hid (sClone_any s hs w)
  go_enter Try.func23, Try.ntmps23
  go_wp2_with (go_at_call 31; refine HC.out.mono ?_; rintro e w' ⟨rfl, f⟩; have F := Lib.hid f; clear f)
  go_ret
  exact ⟨rfl, F.out⟩
/-! ### the document's cut -/
def CRel (s : ByteArray) (w0 : World) (cv : Value) (wr : World) : Prop := ∃ i : Nat, cv = .int .i64 i ∧ i ≤ s.size ∧ (∀ j, j < i → s.data.toList[j]? ≠ some 64) ∧ Frm [] w0 wr
set_option maxHeartbeats 4000000 in
theorem RefCut_any (s : ByteArray) (hs : s.size ≤ 1000) (w : World) : Calls Try.prog 24 #[.string s] w fun e w' => CutE s e ∧ Frm [] w w' := by
  have hs9 : ((s.size : Nat) : Int) ≤ 1000 := by omega
  clear hs
  go_enter Try.func24, Try.ntmps24
  go_wp2_with fail
  go_loopw [5] (CRel s w) (fun cv _ => s.size - (intOf cv).toNat)
  case atStart => exact ⟨0, rfl, by omega, fun j h => by omega, Frm.refl _ _⟩
  case round =>
    obtain ⟨i, rfl, hi, hu, f⟩ := hrel
    have HU := Lib.hid hu
    have F := Lib.hid f
    clear hu f
    by_cases hlt : i < s.size
    · have hlt' : (i : Int) < (s.size : Int) := by omega
      obtain ⟨b, hb⟩ : ∃ b, s.data.toList[i]? = some b := ⟨_, List.getElem?_eq_getElem (by rw [← Lib.size_eq]; exact hlt)⟩
      have hg : s[i] = b := by
        have : s.data.toList[i]? = some s[i] := by rw [List.getElem?_eq_getElem (by rw [← Lib.size_eq]; exact hlt)]; rfl
        rw [hb] at this; simp at this; exact this.symm
      have HB := Lib.hid hb
      clear hb
      by_cases h64 : b = 64
      · subst h64
        have HE := Lib.hid (cut_hit_s (cut_hit HB.out HU.out))
        have c1 : (0 : Int) ≤ (i : Int) := by omega
        have c2 : (i : Int) ≤ (s.size : Int) := by omega
        have c3 : (0 : Int) ≤ (i : Int) + 1 := by omega
        have c4 : (i : Int) + 1 ≤ (s.size : Int) := by omega
        go_wp2_with fail
        go_big_region
        go_wp2
        go_ret3
        refine ⟨?_, F.out.drew⟩
        unfold CutE
        rw [HE.out.1, HE.out.2.1, HE.out.2.2]
        rfl
      · have hne : ¬ ((b.toNat : Int) = 64) := fun e => h64 (UInt8.toNat_inj.1 (by show b.toNat = 64; omega))
        have HN := Lib.hid (show ∀ j, j < i + 1 → s.data.toList[j]? ≠ some 64 from fun j hj he => by
          rcases Nat.lt_or_ge j i with h | h
          · exact HU.out j h he
          · obtain rfl : j = i := by omega
            rw [HB.out] at he; exact h64 (Option.some.inj he))
        go_wp2_with fail
        all_goals first
          | exact ⟨⟨i + 1, by go_num, by omega, HN.out, F.out⟩, by simp [intOf]; omega⟩
          | (go_roundw; (case rel => exact ⟨i + 1, by go_num, by omega, HN.out, F.out⟩); (case measure => simp [intOf]; omega))
    · obtain rfl : i = s.size := by omega
      have HE := Lib.hid (cut_no_s (cut_no (l := s.data.toList) (fun b hb e => by
        obtain ⟨j, hj⟩ := List.getElem?_of_mem hb
        rw [e] at hj
        exact HU.out j (by rw [Lib.size_eq]; exact (List.getElem?_eq_some_iff.1 hj).1) hj)))
      clear hlt
      go_wp2_with fail
      go_ret3
      refine ⟨?_, F.out⟩
      unfold CutE
      rw [HE.out.1, HE.out.2.1, HE.out.2.2]
      rfl
end Go.Proofs.Ytnpjgccannebpaa
