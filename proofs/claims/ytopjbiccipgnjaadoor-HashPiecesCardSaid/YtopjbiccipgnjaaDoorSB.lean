/-
  Contract of the document's Fill; no conditions but those that the theorem names.
-/
import Derived.Test.YtopjbiccipgnjaaDoorSA
namespace Go.Proofs.YtopjbiccipgnjaaDoor
open Go.RowKit
set_option linter.unusedVariables false
set_option linter.unusedSimpArgs false
set_option maxRecDepth 100000

/-- The highest k of the eight bytes of how many bits there are. -/
def cnts (n k : Nat) : List UInt8 := (List.range k).map fun t => cntB n (7 - t)
theorem cnts_length (n k : Nat) : (cnts n k).length = k := by simp [cnts]
def zs (n : Nat) : Nat := padN n - 9
/-- The lowest k. -/
def lows (n : Nat) : Nat → List UInt8
  | 0 => []
  | k + 1 => cntB n k :: lows n k
theorem lows_cnts (n : Nat) : lows n 8 = cnts n 8 := rfl
theorem endK_form (n : Nat) : ∀ k, k ≤ 8 → endK n k = 128 :: List.replicate (padN n - 1 - k) 0 ++ lows n k
  | 0, _ => by simp [endK, lows]
  | k + 1, h => by
    have hp := padN_ge n
    rw [endK, endK_form n k (by omega)]
    have e : padN n - 1 - k = (padN n - 1 - (k + 1)) + 1 := by omega
    rw [e, List.replicate_succ', ← List.cons_append, List.append_assoc, List.set_append_right _ _ (by simp <;> omega)]
    simp only [List.length_cons, List.length_replicate]
    rw [show padN n - 1 - (k + 1) + 1 - (padN n - 1 - (k + 1) + 1) = 0 by omega]
    simp [lows]
theorem filled_form (b : List UInt8) : filled b = b ++ [128] ++ List.replicate (zs b.length) 0 ++ cnts b.length 8 := by
  have hp := padN_ge b.length
  unfold filled zs
  rw [endK_form _ 8 (by omega), lows_cnts, show padN b.length - 1 - 8 = padN b.length - 9 by omega]
  simp
theorem zs_mod (n : Nat) : (n + 1 + zs n) % 64 = 56 := by
  have hp := padN_ge n
  unfold zs padN
  unfold padN at hp
  omega
theorem zs_not (n j : Nat) (hj : j < zs n) : (n + 1 + j) % 64 ≠ 56 := by
  have h := zs_mod n
  have hp := padN_ge n
  unfold zs at h hj
  omega
theorem cnts_snoc (n k : Nat) : cnts n (k + 1) = cnts n k ++ [cntB n (7 - k)] := by simp [cnts, List.range_succ]
theorem cnt_val' (n k : Nat) : 8 * (n : Int) / 2 ^ (8 * k) % 256 = ((cntB n k).toNat : Int) := by
  unfold cntB
  rw [UInt8.toNat_ofNat']
  have h : ∀ m : Nat, ((8 * n / m % 2 ^ 8 : Nat) : Int) = 8 * (n : Int) / (m : Int) % 256 := fun m => by simp
  rw [h]
  simp
def slLen : Value → Nat
  | .slice _ n _ => n
  | _ => 0
def AllRel (w : World) (L : List UInt8) (v : Value) (wr : World) : Prop := ∃ a cap sp, v = .slice a L.length cap ∧ OwnB 5 wr (.slice a L.length cap) L sp ∧ Frm [] w wr ∧ ∀ i ∈ blk (.slice a L.length cap), w.heap.size ≤ i
def RFillA (w : World) (b : List UInt8) (v : Value) (wr : World) : Prop := ∃ j, j ≤ zs b.length ∧ AllRel w (b ++ [128] ++ List.replicate j 0) v wr
def RFillB (w : World) (b : List UInt8) (v c : Value) (wr : World) : Prop := ∃ k : Nat, k ≤ 8 ∧ c = .int .i64 (7 - (k : Int)) ∧ AllRel w (b ++ [128] ++ List.replicate (zs b.length) 0 ++ cnts b.length k) v wr
def RFillC (b : List UInt8) (w1 : World) (v c : Value) (wr : World) : Prop := ∃ k : Nat, k ≤ pcs b.length ∧ c = .int .i64 (64 * (k : Int)) ∧ OwnL w1.heap.size wr v ((List.range k).map (pieceL (filled b))) ∧ Frm [] w1 wr
set_option maxHeartbeats 4000000 in
theorem RefFill_any (v : Value) (b sp : List UInt8) (w : World) (hS : SlB w v b sp) (hb : b.length ≤ 1000000) :
    Calls Tryd.prog 12 #[v] w fun r w' => Filled w b r w' := by
  obtain ⟨a, cap, rfl, _, _⟩ := hS.form
  have HS := Lib.hid hS
  have hb9 : (b.length : Int) ≤ 1000000 := by omega
  have hz9 : zs b.length ≤ 63 := by have := padN_ge b.length; unfold zs; omega
  clear hS
  have o0 : OwnB 5 (w.alloc (.cells #[] 5)) (.slice (some ⟨w.heap.size, 0, none⟩) 0 0) [] [] := OwnB.of_heap (heap_alloc_new _ _) rfl rfl (by simp)
  have f0 : Frm [] w (w.alloc (.cells #[] 5)) := (Frm.refl _ _).alloc _
  go_enter Tryd.func12, Tryd.ntmps12
  go_upto_region 1 with (fail)
  refine wp_region_lit ?_
  refine wpList_step (fun K hK => ?_)
  go_simp
  refine hK _ _ ?_
  clear hK K
  refine wpList_step (fun K hK => ?_)
  go_simp
  refine hK _ _ ?_
  clear hK K
  refine wpList_append_bytes BT o0 (HS.out.keep f0 (by simp)) (by simp; omega) rfl (.tmp 8) (.tmp 9) rfl rfl rfl ?_
  intro a1 cap1 w1 sp1 o1 f1 b1
  simp only [List.length_nil, Nat.zero_add, List.nil_append] at o1 b1 ⊢
  have F1 := Lib.hid (f0.trans f1 (by simp [blk]))
  have B1 := Lib.hid (show ∀ i ∈ blk (.slice a1 b.length cap1), w.heap.size ≤ i from fun i hi => by
    rcases b1 i hi with h | h
    · simp [blk] at h; omega
    · simp at h; omega)
  have O1 := Lib.hid o1
  clear o1 f1 b1 o0 f0
  refine wpList_step (fun K hK => ?_)
  go_simp
  refine hK _ _ ?_
  clear hK K
  have O2 := Lib.hid (O1.out.keep ((Frm.refl [] w1).alloc (.cells #[.int .u8 128] 5)) (by simp))
  refine wpList_append_bytes BT O2.out (slb_new w1 [128] 1 _ (0, 0) rfl rfl (by simp [maxLen])) (by simp; omega) rfl (.tmp 10) (.tmp 11) rfl rfl rfl ?_
  intro a2 cap2 w2 sp2 o2 f2 b2
  have A2 := Lib.hid (show RFillA w b (.slice a2 (b.length + 1) cap2) w2 from ⟨0, by omega, a2, cap2, sp2, by simp, by simpa using o2, (F1.out.alloc _).trans f2 (fun i hi => .inr (B1.out i hi)), fun i hi => by
    rcases b2 i (by simpa using hi) with h | h
    · exact B1.out i h
    · have := F1.out.size; simp at h; omega⟩)
  clear o2 f2 b2
  refine wpList_step (fun K hK => ?_)
  go_simp
  refine hK _ _ ?_
  clear hK K
  refine wpList_nil ?_
  clear O1 O2
  go_wp2_with fail
  go_loopw [3] (RFillA w b) (fun v _ => b.length + 1 + zs b.length - slLen v)
  case atStart => exact A2.out
  case round =>
    clear A2 B1 F1
    obtain ⟨j, hj, a, cap3, sp3, rfl, o, f, g⟩ := hrel
    have hlen : (b ++ [128] ++ List.replicate j (0 : UInt8)).length = b.length + 1 + j := by simp; omega
    by_cases hlt : j < zs b.length
    · have hne := zs_not b.length j hlt
      have hrep : b ++ [128] ++ List.replicate j (0 : UInt8) ++ [0] = b ++ [128] ++ List.replicate (j + 1) 0 := by simp [List.replicate_succ']
      generalize b ++ [128] ++ List.replicate j (0 : UInt8) = L at *
      have hn9 : (L.length : Int) ≤ 1000100 := by omega
      have htest : (((L.length : Nat) : Int) % 64 != 56) = true := by simp; omega
      have O := Lib.hid o
      have F := Lib.hid f
      have G := Lib.hid g
      have HL := Lib.hid hlen
      have HR := Lib.hid hrep
      clear o f g hlen hrep hne
      go_upto_region 3 with (fail)
      refine wp_region_lit ?_
      refine wpList_step (fun K hK => ?_)
      go_simp
      refine hK _ _ ?_
      clear hK K
      refine wpList_step (fun K hK => ?_)
      go_simp
      refine hK _ _ ?_
      clear hK K
      have O2 := Lib.hid (O.out.keep ((Frm.refl [] wr).alloc (.cells #[.int .u8 0] 5)) (by simp))
      refine wpList_append_bytes BT O2.out (slb_new wr [0] 1 _ (0, 0) rfl rfl (by simp [maxLen])) (by have := HL.out; simp; omega) rfl (.tmp 17) (.tmp 18) rfl rfl rfl ?_
      intro a2 cap2 w2 sp2 o2 f2 b2
      have A2 := Lib.hid (show RFillA w b (.slice a2 (L.length + 1) cap2) w2 from ⟨j + 1, by omega, a2, cap2, sp2, by rw [← HR.out]; simp, by rw [← HR.out]; simpa using o2, (F.out.alloc _).trans f2 (fun i hi => .inr (G.out i hi)), fun i hi => by
        rw [← HR.out] at hi
        rcases b2 i (by simpa using hi) with h | h
        · exact G.out i h
        · have := F.out.size; simp at h; omega⟩)
      clear o2 f2 b2
      refine wpList_step (fun K hK => ?_)
      go_simp
      refine hK _ _ ?_
      clear hK K
      refine wpList_nil ?_
      go_wp2_with fail
      exact ⟨A2.out, by have := HL.out; simp [slLen]; omega⟩
    · obtain rfl : j = zs b.length := by omega
      have hmod := zs_mod b.length
      have hst : RFillB w b (.slice a (b ++ [128] ++ List.replicate (zs b.length) (0 : UInt8)).length cap3) (.int .i64 7) wr := ⟨0, by omega, rfl, a, cap3, sp3, by simp [cnts], by simpa [cnts] using o, f, by simpa [cnts] using g⟩
      generalize hLL : b ++ [128] ++ List.replicate (zs b.length) (0 : UInt8) = L at *
      have htest : (((L.length : Nat) : Int) % 64 != 56) = false := by simp; omega
      have hn9 : (L.length : Int) ≤ 1000100 := by omega
      have HST := Lib.hid hst
      have HLL := Lib.hid hLL
      clear hst o f g hmod hLL hlen
      go_wp2_with fail
      go_loopw [3, 5] (RFillB w b) (fun _ c _ => (intOf c + 1).toNat)
      case atStart => exact HST.out
      case round =>
        clear HST
        obtain ⟨k, hk, rfl, a, cap3, sp3, rfl, o, f, g⟩ := hrel
        have hlen : (b ++ [128] ++ List.replicate (zs b.length) 0 ++ cnts b.length k).length ≤ 1000200 := by simp [cnts_length]; omega
        by_cases hlt : k < 8
        · obtain ⟨m, hm⟩ : ∃ m, 7 - k = m := ⟨_, rfl⟩
          have hm0 : (7 : Int) - (k : Int) = (m : Int) := by omega
          have hsn := cnts_snoc b.length k
          rw [hm] at hsn
          have hcv := cnt_val' b.length m
          generalize cntB b.length m = cb at *
          have happ : b ++ [128] ++ List.replicate (zs b.length) (0 : UInt8) ++ cnts b.length k ++ [cb] = b ++ [128] ++ List.replicate (zs b.length) (0 : UInt8) ++ cnts b.length (k + 1) := by rw [hsn]; simp
          generalize b ++ [128] ++ List.replicate (zs b.length) 0 ++ cnts b.length k = L2 at *
          have hm9 : (m : Int) ≤ 7 := by omega
          have hmp : (0 : Int) ≤ (m : Int) := by omega
          have hn2 : (L2.length : Int) ≤ 1000200 := by omega
          have O := Lib.hid o
          have F := Lib.hid f
          have G := Lib.hid g
          have HL := Lib.hid hlen
          have HAPP := Lib.hid happ
          have HM := Lib.hid hm
          have HCV := Lib.hid hcv
          rw [hm0]
          have e8 : IntKind.i64.wrap (8 * (m : Int)) = 8 * (m : Int) := IntWalk.i64_in _ (by omega)
          have g8 : (0 : Int) ≤ 8 * (m : Int) := by omega
          have n8 : (8 * (m : Int)).toNat = 8 * m := by omega
          have hw8 : IntKind.u8.wrap (8 * (b.length : Int) / 2 ^ (8 * m)) = (cb.toNat : Int) := hcv
          clear o f g hlen happ hsn hm hm0
          go_upto_region 8 with (fail)
          refine wp_region_lit ?_
          refine wpList_step (fun K hK => ?_)
          go_simp
          refine hK _ _ ?_
          clear hK K
          refine wpList_step (fun K hK => ?_)
          go_simp
          refine hK _ _ ?_
          clear hK K
          refine wpList_step (fun K hK => ?_)
          go_simp
          refine hK _ _ ?_
          clear hK K
          refine wpList_step (fun K hK => ?_)
          go_simp
          refine hK _ _ ?_
          clear hK K
          refine wpList_step (fun K hK => ?_)
          go_simp
          refine hK _ _ ?_
          clear hK K
          refine wpList_step (fun K hK => ?_)
          go_simp
          refine hK _ _ ?_
          clear hK K
          refine wpList_step (fun K hK => ?_)
          go_simp
          refine hK _ _ ?_
          clear hK K
          have O2 := Lib.hid (O.out.keep ((Frm.refl [] wr).alloc (.cells #[.int .u8 (cb.toNat : Int)] 5)) (by simp))
          refine wpList_append_bytes BT O2.out (slb_new wr [cb] 1 _ (0, 0) rfl rfl (by simp [maxLen])) (by have := HL.out; simp; omega) rfl (.tmp 27) (.tmp 33) rfl rfl rfl ?_
          intro a2 cap2 w2 sp2 o2 f2 b2
          have A2 := Lib.hid (show RFillB w b (.slice a2 (L2.length + 1) cap2) (.int .i64 ((m : Int) - 1)) w2 from ⟨k + 1, by omega, congrArg (Value.int IntKind.i64) (by have := HM.out; omega), a2, cap2, sp2, by rw [← HAPP.out]; simp, by rw [← HAPP.out]; simpa using o2, (F.out.alloc _).trans f2 (fun i hi => .inr (G.out i hi)), fun i hi => by
            rw [← HAPP.out] at hi
            rcases b2 i (by simpa using hi) with h | h
            · exact G.out i h
            · have := F.out.size; simp at h; omega⟩)
          clear o2 f2 b2
          refine wpList_step (fun K hK => ?_)
          go_simp
          refine hK _ _ ?_
          clear hK K
          refine wpList_nil ?_
          go_wp2_with fail
          exact ⟨A2.out, by simp [intOf] <;> omega⟩
        · obtain rfl : k = 8 := by omega
          rw [← filled_form b] at o g ⊢
          have hpl := pcs_len b
          have hpc : pcs b.length ≤ 100000 := by unfold pcs; omega
          rw [hpl] at o g ⊢
          have O := Lib.hid o
          have F := Lib.hid f
          have G := Lib.hid g
          have HPL := Lib.hid hpl
          have hM9 : (pcs b.length : Int) ≤ 100000 := by omega
          clear o f g hlen hpl
          go_wp2_with fail
          generalize wr = wz at *
          go_loopw [6, 7] (RFillC b wz) (fun _ c _ => 64 * pcs b.length - (intOf c).toNat)
          case atStart => exact ⟨0, by omega, rfl, OwnL.nil _ _, Frm.refl _ _⟩
          case round =>
            obtain ⟨k, hk, rfl, hL, f⟩ := hrel
            obtain ⟨av, capv, rfl, _, _⟩ := hL.form
            rw [List.length_map, List.length_range] at hL ⊢
            by_cases hlt : k < pcs b.length
            · have hO := O.out.keep f (by simp)
              have hle : 64 * k + 64 ≤ (filled b).length := by rw [HPL.out]; omega
              obtain ⟨a4, c4, hsl, hS4⟩ := slice_lh BT hO.sl (64 * k) (64 * k + 64) (by omega) hle
              rw [show 64 * k + 64 - 64 * k = 64 by omega] at hsl hS4
              have hsl2 := fun wx => hsl (64 * (k : Int)) (64 * (k : Int) + 64) wx (by omega) (by omega)
              have hpl : (pieceL (filled b) k).length = 64 := by simp [pieceL]; omega
              rw [show List.take 64 (List.drop (64 * k) (filled b)) = pieceL (filled b) k from rfl] at hS4
              have hrange : (List.range k).map (pieceL (filled b)) ++ [pieceL (filled b) k] = (List.range (k + 1)).map (pieceL (filled b)) := by simp [List.range_succ]
              have hll : ((List.range k).map (pieceL (filled b))).length = k := by simp
              generalize (List.range k).map (pieceL (filled b)) = ls at *
              generalize pieceL (filled b) k = pk at *
              have HL := Lib.hid hL
              have FF := Lib.hid f
              have HS4 := Lib.hid hS4
              have HPK := Lib.hid hpl
              have HRG := Lib.hid hrange
              have HLL := Lib.hid hll
              have hk9 : (k : Int) ≤ 100000 := by omega
              have hlt9 : (k : Int) < (pcs b.length : Int) := by omega
              have e64 : IntKind.i64.wrap (64 * (k : Int) + 64) = 64 * (k : Int) + 64 := IntWalk.i64_in _ (by omega)
              clear hL f hS4 hpl hrange hll hsl hO hle
              go_upto_region 13 with (fail)
              refine wp_region_lit ?_
              refine wpList_step (fun K hK => ?_)
              go_simp
              refine hK _ _ ?_
              clear hK K
              refine wpList_step (fun K hK => ?_)
              go_simp
              refine hK _ _ ?_
              clear hK K
              have o0 : OwnB 5 (wr.alloc (.cells #[] 5)) (.slice (some ⟨wr.heap.size, 0, none⟩) 0 0) [] [] := OwnB.of_heap (heap_alloc_new _ _) rfl rfl (by simp)
              have O0 := Lib.hid o0
              have f0 : Frm [] wr (wr.alloc (.cells #[] 5)) := (Frm.refl _ _).alloc _
              have F0 := Lib.hid f0
              clear o0 f0
              refine wpList_step (fun K hK => ?_)
              go_simp
              refine hK _ _ ?_
              clear hK K
              refine wpList_step (fun K hK => ?_)
              go_simp
              refine hK _ _ ?_
              clear hK K
              refine wpList_step (fun K hK => ?_)
              go_simp
              refine hK _ _ ?_
              clear hK K
              refine wpList_step (fun K hK => ?_)
              go_simp
              refine hK _ _ ?_
              clear hK K
              refine wpList_step (fun K hK => ?_)
              go_simp
              refine hK _ _ ?_
              clear hK K
              refine wpList_append_bytes BT O0.out (HS4.out.keep F0.out (by simp)) (by rw [HPK.out]; simp) rfl (.tmp 42) (.tmp 47) rfl rfl rfl ?_
              intro a5 cap5 w5 sp5 o5 f5 b5
              simp only [List.length_nil, Nat.zero_add, List.nil_append] at o5 b5 ⊢
              rw [HPK.out]
              have F5 := Lib.hid (F0.out.trans f5 (by simp [blk]))
              have B5 := Lib.hid (show ∀ i ∈ blk (.slice a5 64 cap5), wr.heap.size ≤ i from fun i hi => by
                rcases b5 i (by rw [HPK.out]; exact hi) with h | h
                · simp [blk] at h; omega
                · simp at h; omega)
              have O5 := Lib.hid (show OwnB 5 w5 (.slice a5 64 cap5) pk sp5 by rw [← HPK.out]; exact o5)
              clear o5 f5 b5
              refine wpList_step (fun K hK => ?_)
              go_simp
              refine hK _ _ ?_
              clear hK K
              have happ := append_list (gb := w5.heap.size) 25 HL.out ((F5.out).alloc (.cells #[.slice a5 64 cap5] 22)) FF.out.size (O5.out.keep ((Frm.refl [] w5).alloc (.cells #[.slice a5 64 cap5] 22)) (by simp)) ⟨a5, cap5, by rw [HPK.out]⟩ B5.out (heap_alloc_new _ _) (by rw [HLL.out]; omega)
              obtain ⟨v6, w6, hrun, hl6, f6⟩ := happ
              refine wpList_val rfl (exec_append_list (.tmp 41) (.tmp 49) rfl rfl rfl hrun) ?_
              have HL6 := Lib.hid (show OwnL wz.heap.size w6 v6 ((List.range (k + 1)).map (pieceL (filled b))) by rw [← HRG.out]; exact hl6)
              have F6 := Lib.hid (((FF.out.trans F5.out (by simp)).alloc (.cells #[.slice a5 64 cap5] 22)).trans f6 (fun i hi => by
                obtain ⟨vs, spv, h1, h2, h3, h4⟩ := HL.out.ex
                exact .inr (h3 i hi)))
              clear hrun hl6 f6
              refine wpList_step (fun K hK => ?_)
              go_simp
              refine hK _ _ ?_
              clear hK K
              refine wpList_nil ?_
              go_wp2_with fail
              have hnew : RFillC b wz v6 (.int .i64 (64 * (k : Int) + 64)) w6 := ⟨k + 1, by omega, congrArg (Value.int IntKind.i64) (by omega), HL6.out, F6.out⟩
              first | exact ⟨hnew, by simp [intOf]; omega⟩ | (refine ⟨?_, by simp [intOf]; omega⟩; (repeat apply Exists.intro); exact ⟨hnew, rfl⟩)
            · obtain rfl : k = pcs b.length := by omega
              have HRES := Lib.hid (show Filled w b (.returned (.slice av (pcs b.length) capv)) wr from ⟨_, rfl, hL.mono F.out.size, F.out.trans f (by simp)⟩)
              clear hL f
              go_wp2_with fail
              go_ret
              exact HRES.out
end Go.Proofs.YtopjbiccipgnjaaDoor
