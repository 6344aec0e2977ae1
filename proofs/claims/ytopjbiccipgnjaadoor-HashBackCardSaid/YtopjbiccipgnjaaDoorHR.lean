/-
  Contracts of Parse, the program's and the document's; no conditions but those that each theorem names.
-/
import Derived.Test.YtopjbiccipgnjaaDoorHQ
namespace Go.Proofs.YtopjbiccipgnjaaDoor
open Go.RowKit
set_option linter.unusedVariables false
set_option linter.unusedSimpArgs false

/-- A half byte more. -/
def nib (x : UInt8) (n : Int) : UInt8 := UInt8.ofNat (x.toNat * 16 % 256 + n.toNat)
/-- The ID of the first k letters. -/
def idK (s : List UInt8) : Nat → List UInt8
  | 0 => List.replicate 32 0
  | k + 1 => (idK s k).set (k / 2) (nib ((idK s k).getD (k / 2) 0) (hv (s.getD k 0)))
theorem idK_length (s : List UInt8) (k : Nat) : (idK s k).length = 32 := by induction k <;> simp [idK, *]
def tV (id : Array Value) (e at_ : Int) : Value := .tuple #[.agg id, .agg #[.int .i64 e, .int .i64 at_]]
/-- What a text is read as. -/
def prsV (s : List UInt8) : Value :=
  if s.length ≠ 64 then tV Z32 4 (min (s.length : Int) 64) else
    match (List.range 64).find? (fun i => decide (hv (s.getD i 0) < 0)) with
    | some i => tV Z32 2 i
    | none => tV (bvs (idK s 64)).toArray 0 0
theorem prs_len (s : List UInt8) (h : s.length ≠ 64) : prsV s = tV Z32 4 (min (s.length : Int) 64) := by unfold prsV; rw [if_pos h]
theorem prs_bad (s : List UInt8) (h : s.length = 64) (k : Nat) (hk : k < 64) (hn : ∀ j, j < k → 0 ≤ hv (s.getD j 0)) (hb : hv (s.getD k 0) < 0) : prsV s = tV Z32 2 k := by
  unfold prsV
  rw [if_neg (by simp [h])]
  have : (List.range 64).find? (fun i => decide (hv (s.getD i 0) < 0)) = some k := by
    rw [List.find?_range_eq_some]
    refine ⟨by simpa using hb, by rw [List.mem_range]; exact hk, fun j hj => by have := hn j hj; simpa using this⟩
  rw [this]
theorem prs_ok (s : List UInt8) (h : s.length = 64) (hn : ∀ j, j < 64 → 0 ≤ hv (s.getD j 0)) : prsV s = tV (bvs (idK s 64)).toArray 0 0 := by
  unfold prsV
  rw [if_neg (by simp [h])]
  have : (List.range 64).find? (fun i => decide (hv (s.getD i 0) < 0)) = none := by
    rw [List.find?_range_eq_none]
    intro j hj
    have := hn j hj
    simpa using this
  rw [this]
theorem nib_or (x : UInt8) (n : Nat) (hn : n < 16) : bits BinOp.or IntKind.u8 ((x.toNat : Int) * 16 % 256) (n : Int) = ((nib x (n : Int)).toNat : Int) := by
  have h : ∀ x : Fin 256, ∀ n : Fin 16, bits BinOp.or IntKind.u8 ((x.val : Int) * 16 % 256) (n.val : Int) = (((x.val * 16 % 256 + n.val) % 256 : Nat) : Int) := by decide +kernel
  have := h ⟨x.toNat, x.toNat_lt⟩ ⟨n, hn⟩
  rw [this]
  simp [nib]
theorem nib_add (x : UInt8) (n : Nat) (hn : n < 16) : ((x.toNat : Int) * 16 % 256 + (n : Int)) % 256 = ((nib x (n : Int)).toNat : Int) := by
  have := x.toNat_lt
  simp [nib]
theorem cells2 {w : World} {b : Nat} {u v : Value} (h : w.heap[b]? = some (.cells #[u, v] 43 (0, 0))) : w.cell? ⟨b, 0, none⟩ = some u ∧ w.cell? ⟨b, 1, none⟩ = some v ∧ ∀ i, w.frozen? ⟨b, i, none⟩ = false := by
  refine ⟨?_, ?_, fun i => frozen_of_heap h i⟩ <;> (rw [cell_of_heap h]; rfl)
theorem str_get (s : ByteArray) (k : Nat) (h : k < s.size) : s[k] = s.data.toList.getD k 0 := by
  have : k < s.data.size := h
  simp only [List.getD_eq_getElem?_getD, Array.getElem?_toList, Array.getElem?_eq_getElem this]
  rfl
def ResW (w : World) (v : Value) (r : Ending) (w' : World) : Prop := r = .returned v ∧ Frm [] w w'
def ParseRel (w : World) (s : List UInt8) (c : Value) (wr : World) : Prop :=
  ∃ k : Nat, k ≤ 64 ∧ c = .int .i64 k ∧ wr.heap[w.heap.size]? = some (.cells Z32 29 (0, 0)) ∧ wr.heap[w.heap.size + 1]? = some (.cells #[.int .i64 0, .int .i64 0] 43 (0, 0)) ∧
    IsB wr (w.heap.size + 2) 29 (idK s k) ∧ Frm [] w wr ∧ ∀ j, j < k → 0 ≤ hv (s.getD j 0)
set_option maxRecDepth 100000 in
set_option maxHeartbeats 4000000 in
theorem Parse_any (s : ByteArray) (hs : s.size ≤ 1000000) (w : World) : Calls Tryd.prog 23 #[.string s] w fun r w' => ResW w (prsV s.data.toList) r w' := by
  have hb := build29
  obtain ⟨fs, hfs⟩ : ∃ fs, Tryd.prog.underlying 43 = some (.struct fs) := by
    have := d43
    split at this
    · rename_i fs h; exact ⟨fs, h⟩
    · cases this
  have HFS := Lib.hid hfs
  clear hfs
  have hz1 : (Tryd.prog.info? 29).map (·.size) = some Z32.size := by rw [Z32_size]; exact i29
  have HZ1 := Lib.hid hz1
  clear hz1
  have hsl : s.data.toList.length = s.size := by simp
  have hs9 : (s.size : Int) ≤ 1000000 := by omega
  by_cases h64 : s.size = 64
  · have hse : (((s.size : Nat) : Int) != 64) = false := by simp [h64]
    have hsz : (s.size : Int) = 64 := by omega
    have hbad := prs_bad s.data.toList (by rw [hsl]; exact h64)
    have hok := prs_ok s.data.toList (by rw [hsl]; exact h64)
    have hidx : ∀ k : Nat, k < 64 → ∀ W, (Instr.index 9 (.string s) (.int .i64 (k : Int))).run Tryd.prog W = .ok (.int .u8 ((s.data.toList.getD k 0).toNat : Int)) W := fun k hk W => by
      have hl : k < s.size := by omega
      have hg : s[k]? = some (s.data.toList.getD k 0) := by rw [getElem?_pos s k hl, str_get s k hl]
      simp [Instr.index, run_underlying Tryd.underlying9, asIntOf, hg, go_sem]
    generalize s.data.toList = S at *
    generalize hR : prsV S = R at *
    have HBAD := Lib.hid hbad
    have HOK := Lib.hid hok
    have HIDX := Lib.hid hidx
    clear hbad hok hidx hsl hs hR h64
    go_enter Tryd.func23, Tryd.ntmps23
    go_wp2_with fail
    have h0 := heap_alloc_lt (o := .cells Z32 29) (heap_alloc_lt (o := .cells #[.int .i64 0, .int .i64 0] 43) (heap_alloc_new w (.cells Z32 29)))
    have hF : Frm [] w (((w.alloc (.cells Z32 29)).alloc (.cells #[.int .i64 0, .int .i64 0] 43)).alloc (.cells Z32 29)) := (((Frm.refl _ _).alloc _).alloc _).alloc _
    have h1 : (((w.alloc (.cells Z32 29)).alloc (.cells #[.int .i64 0, .int .i64 0] 43)).alloc (.cells Z32 29)).heap[w.heap.size + 1]? = some (.cells #[.int .i64 0, .int .i64 0] 43 (0, 0)) := heap_alloc_lt (heap_alloc_at (by simp))
    have h2 : IsB (((w.alloc (.cells Z32 29)).alloc (.cells #[.int .i64 0, .int .i64 0] 43)).alloc (.cells Z32 29)) (w.heap.size + 2) 29 (idK S 0) := heap_alloc_at (by simp)
    change Code.wp _ _ _ _ (((w.alloc (.cells Z32 29)).alloc (.cells #[.int .i64 0, .int .i64 0] 43)).alloc (.cells Z32 29))
    generalize (((w.alloc (.cells Z32 29)).alloc (.cells #[.int .i64 0, .int .i64 0] 43)).alloc (.cells Z32 29)) = W at *
    go_loopw [17] (ParseRel w S) (fun c _ => 64 - (intOf c).toNat)
    case atStart => exact ⟨0, by omega, rfl, h0, h1, h2, hF, fun j h => by omega⟩
    case round =>
      clear h0 h1 h2 hF
      obtain ⟨k, hk, rfl, h0, h1, h2, hF, hn⟩ := hrel
      have H0 := Lib.hid h0
      have H1 := Lib.hid h1
      have H2 := Lib.hid h2
      have HF := Lib.hid hF
      have HN := Lib.hid hn
      clear h0 h1 h2 hF hn
      by_cases hlt : k < 64
      · have hidx := HIDX.out k hlt
        have hst : idK S (k + 1) = (idK S k).set (k / 2) (nib ((idK S k).getD (k / 2) 0) (hv (S.getD k 0))) := rfl
        obtain ⟨c, hc⟩ : ∃ c, S.getD k 0 = c := ⟨_, rfl⟩
        rw [hc] at hidx hst
        have HC := Lib.hid hc
        clear hc
        by_cases hneg : hv c < 0
        · clear hst
          have hR2 := HBAD.out k hlt HN.out (by rw [HC.out]; exact hneg)
          have HR2 := Lib.hid hR2
          clear hR2
          obtain ⟨n, hnn⟩ : ∃ n, hv c = n := ⟨_, rfl⟩
          have hib := IB_any c
          rw [hnn] at hib hneg
          clear hnn
          go_upto_region 9 with (go_at_call 42; refine (hib _).mono ?_; rintro r w1 ⟨rfl, hw1⟩; rw [hw1]; clear hw1 w1)
          refine wp_region_lit ?_
          refine wpList_val rfl (v := .agg Z32) (w' := wr) (by simp [execOp, hb, Result.andThen]) ?_
          refine wpList_val rfl (v := .int .i64 (k : Int)) (w' := wr) rfl ?_
          refine wpList_plain rfl (fun K2 hK2 => ?_)
          go_simp
          refine hK2 _ _ ?_
          clear hK2 K2
          refine wpList_store_row rfl 29 (.tmp 2) (.tmp 26) rfl w.heap.size Z32 rfl rfl 29 _ H0.out HZ1.out rfl Z32_one ?_
          have HRES := Lib.hid (setRow_heap wr w.heap.size _ Z32 29 (0, 0) H0.out)
          have HR3 := Lib.hid ((setRow_other wr w.heap.size (w.heap.size + 1) Z32 (by omega)).trans H1.out)
          have HF2 := Lib.hid (HF.out.setRow w.heap.size Z32 (.inr (Nat.le_refl _)))
          generalize wr.setRow w.heap.size Z32 = W2 at *
          obtain ⟨c0, c1, g0⟩ := cells2 HR3.out
          go_wp2_with fail
          have k1 : ((W2.setCell ⟨w.heap.size + 1, 0, none⟩ (.int .i64 2)).setCell ⟨w.heap.size + 1, 1, none⟩ (.int .i64 (k : Int))).heap[w.heap.size + 1]? = some (.cells #[.int .i64 2, .int .i64 (k : Int)] 43 (0, 0)) := heap_setCell_same _ (heap_setCell_same _ HR3.out)
          have k0 : ((W2.setCell ⟨w.heap.size + 1, 0, none⟩ (.int .i64 2)).setCell ⟨w.heap.size + 1, 1, none⟩ (.int .i64 (k : Int))).heap[w.heap.size]? = some (.cells Z32 29 (0, 0)) := (heap_setCell_ne _ (by simp <;> omega)).trans ((heap_setCell_ne _ (by simp <;> omega)).trans HRES.out)
          rw [HR2.out]
          exact bodyPost_ret (v := tV Z32 2 (k : Int)) (results_cells2 rfl _ _ _ _ 29 43 _ _ (0, 0) (0, 0) _ _ rfl rfl k0 k1 d29 rfl HZ1.out HFS.out rfl i43) rfl ⟨rfl, (HF2.out.setCell _ _ (.inr (by simp <;> omega))).setCell _ _ (.inr (by simp <;> omega))⟩
        · obtain ⟨m, hm, hmm⟩ : ∃ m, m < 16 ∧ hv c = (m : Nat) := by
            rcases hv_cases c with h | h
            · exact h
            · omega
          have hib := IB_any c
          rw [hmm] at hib hst hneg
          have hq : k / 2 < (idK S k).length := by rw [idK_length]; omega
          have cq := H2.out.cell (k / 2) hq
          have zq := H2.out.frozen (k / 2)
          have hgd : (idK S k).getD (k / 2) 0 = (idK S k)[k / 2] := by simp [List.getD_eq_getElem?_getD, List.getElem?_eq_getElem hq]
          rw [hgd] at hst
          generalize (idK S k)[k / 2] = x at *
          obtain ⟨q, hqq⟩ : ∃ q, k / 2 = q := ⟨_, rfl⟩
          rw [hqq] at cq zq hst
          have hq0 : (k : Int) / 2 = (q : Int) := by omega
          have hor := nib_or x m hm
          have hm9 : (m : Int) < 16 := by omega
          have hx9 : ((x.toNat : Nat) : Int) < 256 := by have := x.toNat_lt; omega
          have HST := Lib.hid hst
          have HMM := Lib.hid hmm
          clear hst hmm hgd hq hqq
          go_wp2_with (go_at_call 42; refine (hib _).mono ?_; rintro r w1 ⟨rfl, hw1⟩; rw [hw1]; clear hw1 w1)
          refine ⟨⟨k + 1, by omega, by go_num, ?_, ?_, ?_, HF.out.setCell _ _ (.inr (by simp <;> omega)), fun j hj => ?_⟩, by simp [intOf]; omega⟩
          · exact (heap_setCell_ne _ (by simp <;> omega)).trans H0.out
          · exact (heap_setCell_ne _ (by simp <;> omega)).trans H1.out
          · rw [HST.out]; exact H2.out.store q (nib x m) rfl
          · by_cases h : j = k
            · subst h; rw [HC.out, HMM.out]; omega
            · exact HN.out j (by omega)
      · obtain rfl : k = 64 := by omega
        have hR2 := HOK.out HN.out
        have HR2 := Lib.hid hR2
        clear hR2
        go_upto_region 12 with (fail)
        have hI2 : IsB wr (w.heap.size + 2) 29 (idK S 64) := H2.out
        have hbz : (bvs (idK S 64)).toArray.size = 32 := by rw [List.size_toArray, bvs_length, idK_length]
        have HBZ := Lib.hid hbz
        clear hbz
        refine wp_region_lit ?_
        refine wpList_load_row rfl 29 (.tmp 4) rfl (w.heap.size + 2) rfl 29 (bvs (idK S 64)).toArray (0, 0) _ hI2 d29 rfl (by rw [HBZ.out]; exact i29) ?_
        refine wpList_plain rfl (fun K2 hK2 => ?_)
        go_simp
        refine hK2 _ _ ?_
        clear hK2 K2 hI2
        refine wpList_store_row rfl 29 (.tmp 2) (.tmp 41) rfl w.heap.size (bvs (idK S 64)).toArray rfl rfl 29 _ H0.out (by rw [HBZ.out]; exact i29) (by rw [HBZ.out, Z32_size]) (bvs_oneA _) ?_
        have HRES := Lib.hid (setRow_heap wr w.heap.size _ (bvs (idK S 64)).toArray 29 (0, 0) H0.out)
        have HR3 := Lib.hid ((setRow_other wr w.heap.size (w.heap.size + 1) (bvs (idK S 64)).toArray (by omega)).trans H1.out)
        have HF2 := Lib.hid (HF.out.setRow w.heap.size (bvs (idK S 64)).toArray (.inr (Nat.le_refl _)))
        generalize wr.setRow w.heap.size (bvs (idK S 64)).toArray = W2 at *
        generalize (bvs (idK S 64)).toArray = D at *
        obtain ⟨c0, c1, g0⟩ := cells2 HR3.out
        go_wp2_with fail
        have k1 : ((W2.setCell ⟨w.heap.size + 1, 0, none⟩ (.int .i64 0)).setCell ⟨w.heap.size + 1, 1, none⟩ (.int .i64 0)).heap[w.heap.size + 1]? = some (.cells #[.int .i64 0, .int .i64 0] 43 (0, 0)) := heap_setCell_same _ (heap_setCell_same _ HR3.out)
        have k0 : ((W2.setCell ⟨w.heap.size + 1, 0, none⟩ (.int .i64 0)).setCell ⟨w.heap.size + 1, 1, none⟩ (.int .i64 0)).heap[w.heap.size]? = some (.cells D 29 (0, 0)) := (heap_setCell_ne _ (by simp <;> omega)).trans ((heap_setCell_ne _ (by simp <;> omega)).trans HRES.out)
        rw [HR2.out]
        exact bodyPost_ret (v := tV D 0 0) (results_cells2 rfl _ _ _ _ 29 43 _ _ (0, 0) (0, 0) _ _ rfl rfl k0 k1 d29 rfl (by rw [HBZ.out]; exact i29) HFS.out rfl i43) rfl ⟨rfl, (HF2.out.setCell _ _ (.inr (by simp <;> omega))).setCell _ _ (.inr (by simp <;> omega))⟩
  · have hse : (((s.size : Nat) : Int) != 64) = true := by simp; omega
    have hp := prs_len s.data.toList (by rw [hsl]; exact h64)
    rw [hsl] at hp
    generalize prsV s.data.toList = R at *
    have HP := Lib.hid hp
    clear hp hsl h64 hs
    go_enter Tryd.func23, Tryd.ntmps23
    go_upto_region 2 with (fail)
    have h2 := heap_alloc_lt (o := .cells #[.int .i64 0, .int .i64 0] 43) (heap_alloc_new w (.cells Z32 29))
    have hF : Frm [] w ((w.alloc (.cells Z32 29)).alloc (.cells #[.int .i64 0, .int .i64 0] 43)) := ((Frm.refl _ _).alloc _).alloc _
    have h3 : ((w.alloc (.cells Z32 29)).alloc (.cells #[.int .i64 0, .int .i64 0] 43)).heap[w.heap.size + 1]? = some (.cells #[.int .i64 0, .int .i64 0] 43 (0, 0)) := heap_alloc_at (by simp)
    change Code.wp _ _ _ _ ((w.alloc (.cells Z32 29)).alloc (.cells #[.int .i64 0, .int .i64 0] 43))
    generalize ((w.alloc (.cells Z32 29)).alloc (.cells #[.int .i64 0, .int .i64 0] 43)) = W at *
    have hres := setRow_heap W w.heap.size _ Z32 29 (0, 0) h2
    have hres3 := (setRow_other W w.heap.size (w.heap.size + 1) Z32 (by omega)).trans h3
    have hF2 : Frm [] w (W.setRow w.heap.size Z32) := hF.setRow _ _ (.inr (Nat.le_refl _))
    have HRES := Lib.hid hres
    have HR3 := Lib.hid hres3
    have HF2 := Lib.hid hF2
    have H2 := Lib.hid h2
    clear hres hres3 hF2 h2 h3 hF
    refine wp_region_lit ?_
    refine wpList_val rfl (v := .agg Z32) (w' := W) (by simp [execOp, hb, Result.andThen]) ?_
    have hz2 : Z32.size = Z32.size := rfl
    go_wp2_with (refine wpList_store_row rfl 29 (.tmp 2) (.tmp 10) rfl w.heap.size Z32 rfl rfl 29 _ H2.out HZ1.out rfl Z32_one ?_; generalize W.setRow w.heap.size Z32 = W2 at *; obtain ⟨c0, c1, g0⟩ := cells2 HR3.out)
    have k1 : ((W2.setCell ⟨w.heap.size + 1, 0, none⟩ (.int .i64 4)).setCell ⟨w.heap.size + 1, 1, none⟩ (.int .i64 (min (s.size : Int) 64))).heap[w.heap.size + 1]? = some (.cells #[.int .i64 4, .int .i64 (min (s.size : Int) 64)] 43 (0, 0)) := heap_setCell_same _ (heap_setCell_same _ HR3.out)
    have k0 : ((W2.setCell ⟨w.heap.size + 1, 0, none⟩ (.int .i64 4)).setCell ⟨w.heap.size + 1, 1, none⟩ (.int .i64 (min (s.size : Int) 64))).heap[w.heap.size]? = some (.cells Z32 29 (0, 0)) := (heap_setCell_ne _ (by simp <;> omega)).trans ((heap_setCell_ne _ (by simp <;> omega)).trans HRES.out)
    rw [HP.out]
    exact bodyPost_ret (v := tV Z32 4 (min (s.size : Int) 64)) (results_cells2 rfl _ _ _ _ 29 43 _ _ (0, 0) (0, 0) _ _ rfl rfl k0 k1 d29 rfl HZ1.out HFS.out rfl i43) rfl ⟨rfl, (HF2.out.setCell _ _ (.inr (by simp <;> omega))).setCell _ _ (.inr (by simp <;> omega))⟩
end Go.Proofs.YtopjbiccipgnjaaDoor
