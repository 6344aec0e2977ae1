/-
  Contract of Sum: the digest of bytes; no conditions but those that each theorem names.
-/
import Derived.Test.YtopjbiccipgnjaaDoorHI
import Derived.Shelf.Abstract
namespace Go.Proofs.YtopjbiccipgnjaaDoor
open Go.RowKit
set_option linter.unusedVariables false
set_option linter.unusedSimpArgs false
attribute [local go_sem] Oper.semAt_some

def s0 : S8 := ⟨0x6a09e667, 0xbb67ae85, 0x3c6ef372, 0xa54ff53a, 0x510e527f, 0x9b05688c, 0x1f83d9ab, 0x5be0cd19⟩
/-- How many pieces n bytes are filled up to. -/
def pcs (n : Nat) : Nat := (n + 8) / 64 + 1
theorem pcs_len (b : List UInt8) : (filled b).length = 64 * pcs b.length := by
  rw [filled_length]; unfold padN pcs; omega
/-- The j-th piece of a row. -/
def pieceL (L : List UInt8) (j : Nat) : List UInt8 := (L.drop (64 * j)).take 64
/-- A state, turned by pieces. -/
def turnsP (s : S8) (L : List UInt8) (js : List Nat) : S8 := js.foldl (fun s j => turn s (pieceL L j)) s
theorem turnsP_snoc (s : S8) (L : List UInt8) (js : List Nat) (j : Nat) : turnsP s L (js ++ [j]) = turn (turnsP s L js) (pieceL L j) := by simp [turnsP]
/-- The digest of bytes. -/
def sha (b : List UInt8) : List UInt8 := digK (turnsP s0 (filled b) (List.range (pcs b.length))).l 32
theorem W32_lit (s : S8) : (W32 s.l).toArray = #[.int .u32 (wi s.a), .int .u32 (wi s.b), .int .u32 (wi s.c), .int .u32 (wi s.d), .int .u32 (wi s.e), .int .u32 (wi s.f), .int .u32 (wi s.g), .int .u32 (wi s.h)] := rfl
theorem Start_any (w : World) : Calls Tryd.prog 21 #[] w fun r w' => r = .returned (.agg (W32 s0.l).toArray) ∧ Frm [] w w' := by
  go_enter Tryd.func21, Tryd.ntmps21
  go_wp2
  exact bodyPost_ret (v := .agg (W32 s0.l).toArray) (by simp [results, Tryd.results21, go_sem, W32_lit, s0, wi]) rfl ⟨rfl, (Frm.refl _ _).alloc _⟩
theorem wpStill_val {P : Program} {ops : Array Oper} {w : World} {Q : Act → Prop} {a : Act} {o : Oper} {rest : List Oper} {v : Value} (hg : o.guard = none) (h : (execOp a.eval o).run P w = .ok (.value v) w)
    (k : wpStill P ops w Q rest (a.put o.dst v)) : wpStill P ops w Q (o :: rest) a := by
  refine wpStill_step (fun K hK => ?_)
  rw [if_pos (by simp [Region.wanted, hg])]
  unfold Oper.still
  rw [h, Oper.stillUpon_value]
  exact hK _ k
/-- A whole row out of a block, from 'off' on. -/
theorem run_loadVar_off {P : Program} (w : World) (g off : Nat) (ty : TypeId) (cs : List Value) (d : TypeDesc) (hc : ∀ i u, cs[i]? = some u → w.cell? ⟨g, off + i, none⟩ = some u)
    (hu : P.underlying ty = some d) (hd : (match d with | .struct _ | .array _ _ => true | _ => false) = true) (hi : (P.info? ty).map (·.size) = some cs.length) :
    (loadVar ty ⟨g, off, none⟩).run P w = .ok (.agg cs.toArray) w := by
  have hl : (loadCells ⟨g, off, none⟩ cs.length).run P w = .ok cs.toArray w :=
    run_loadCells_list (P := P) w ⟨g, off, none⟩ cs (fun j v hv => by rw [add_plain]; exact hc j v hv)
  cases hq : P.info? ty with
  | none => simp [hq] at hi
  | some i =>
    have hs : i.size = cs.length := by simpa [hq] using hi
    have hagg : (isAgg ty).run P w = .ok true w := by
      unfold isAgg
      rw [Sem.run_bind, run_underlying hu w]
      cases d <;> simp_all
    simp [loadVar, Sem.run_bind, hagg, sizeOf, typeInfo, hq, hs, hl]
theorem exec_load_row {P : Program} {o : Oper} {a : Act} {w : World} (ty : TypeId) (x : Operand) (ho : o.op = .load ty x) (g off : Nat) (hx : a.eval x = .pointer (some ⟨g, off, none⟩)) (cs : List Value) (d : TypeDesc) (hc : ∀ i u, cs[i]? = some u → w.cell? ⟨g, off + i, none⟩ = some u)
    (hu : P.underlying ty = some d) (hd : (match d with | .struct _ | .array _ _ => true | _ => false) = true) (hi : (P.info? ty).map (·.size) = some cs.length) : (execOp a.eval o).run P w = .ok (.value (.agg cs.toArray)) w := by
  unfold execOp
  simp only [ho, hx, Instr.loadAt, Instr.sureAddr, Sem.run_bind, Sem.run_pure, Result.andThen_ok, run_loadVar_off w g off ty cs d hc hu hd hi]
theorem inBlock_lets {id : Nat} {Q : Exit → Act → World → Prop} (h : ¬ LetsOut Q) : ¬ LetsOut (Exit.inBlock id Q) := fun ⟨a, w, hq⟩ => h ⟨a, w, hq⟩
theorem arrayAt59 (a : Addr) (W : World) : (Instr.arrayAt 59 (.slice (some a) 64 64)).run Tryd.prog W = .ok (.pointer (some a)) W := by
  have hl : Tryd.prog.arrayLen 59 = 64 := by kernel_rfl
  simp [Instr.arrayAt, run_underlying d59, go_sem]
def SumI (w1 : World) (Bs : Nat) (L : List UInt8) (M : Nat) (pre : List (Idx M)) (W : World) : Prop := IsW W Bs 57 (turnsP s0 L (pre.map (·.1))).l ∧ Frm [Bs] w1 W
theorem sumI_own (w1 : World) (Bs : Nat) (L : List UInt8) (M : Nat) (hB : Bs < w1.heap.size) : OwnFrom w1.heap.size (SumI w1 Bs L M) := by
  intro pre W W' row ⟨h1, h2⟩ hg hr
  have hf : Frm row.toList W W' := Frm.of_grown hg (fun k hk => by simp [hk])
  refine ⟨hf.heap h1 (fun hm => ?_), h2.trans hf (fun i hi => ?_)⟩
  · have := hr Bs (by simpa using hm)
    omega
  · exact .inr (hr i (by simpa using hi)).1
set_option maxRecDepth 100000 in
set_option maxHeartbeats 4000000 in
theorem Sum_any (v : Value) (b sp : List UInt8) (w : World) (hS : SlB w v b sp) (hb : b.length ≤ 1000000) (hG : Glob w) :
    Calls Tryd.prog 14 #[v] w fun r w' => r = .returned (.agg (bvs (sha b)).toArray) ∧ Frm [] w w' := by
  obtain ⟨a, cap, rfl, _, _⟩ := hS.form
  have HS := Lib.hid hS
  have HG := Lib.hid hG
  have hlen := pcs_len b
  have hpc : pcs b.length ≤ 100000 := by unfold pcs; omega
  have hb10 : b.length ≤ 10000000 := by omega
  have HL := Lib.hid hlen
  have HPC := Lib.hid hpc
  clear hS hG hlen hpc
  refine (callsIn_wide (n := 5)).1 ?_
  refine callsIn_of_wp_marks Tryd.func14 rfl trivial ?_ rfl
  simp only [Tryd.ntmps14, List.size_toArray, List.length_cons, List.length_nil, Nat.reduceAdd, Nat.reduceSub, Array.replicate_succ, Array.replicate_zero, List.push_toArray, List.append_toArray, List.nil_append, List.cons_append]
  refine wpIn_wide.2 ?_
  go_wp2_with fail
  refine (Start_any _).mono ?_
  rw [W32_lit]
  rintro r w1 ⟨rfl, f1⟩
  have hB : IsB w1 w.heap.size 29 (List.replicate 32 0) := by unfold IsB; rw [bvs_zero]; exact f1.heap (heap_alloc_new _ _) (by simp)
  have hF : Frm [] w w1 := ((Frm.refl _ _).alloc _).trans f1 (by simp)
  have hz := f1.size
  have HB := Lib.hid hB
  have HF := Lib.hid hF
  have HZ1 := Lib.hid (show w.heap.size < w1.heap.size by simp at hz; omega)
  clear hB hF f1 hz
  go_wp2_with fail
  refine (filledUp_any _ b sp _ (HS.out.keep (HF.out.alloc _) (by simp)) hb10).mono ?_
  rintro r w2 ⟨a2, cap2, sp2, rfl, o2, f2, g2⟩
  obtain ⟨g, rfl⟩ : ∃ g, a2 = some ⟨g, 0, none⟩ := by
    obtain ⟨h1, h2 | ⟨g, c, h2, _⟩⟩ := o2
    · have := h2.2.1; rw [HL.out] at this; unfold pcs at this; omega
    · cases h2; exact ⟨g, rfl⟩
  rw [HL.out] at o2 g2 ⊢
  have hcap : 64 * pcs b.length ≤ cap2 := by
    obtain ⟨h1, h2, h3⟩ := o2.caps
    have := HL.out
    omega
  have hgb : ¬ g = w1.heap.size := by have := g2 g (by simp [blk]); simp at this; omega
  have HO := Lib.hid o2
  have HST := Lib.hid (show IsW w2 w1.heap.size 57 s0.l from f2.heap (heap_alloc_new _ _) (by simp))
  have HB2 := Lib.hid (HB.out.keepF (((Frm.refl [] w1).alloc _).trans f2 (by simp)))
  have HF2 := Lib.hid ((HF.out.alloc _).trans f2 (by simp))
  have HZ2 := Lib.hid (show w1.heap.size < w2.heap.size by have := f2.size; simp at this; omega)
  have HCAP := Lib.hid hcap
  clear o2 g2 f2 hcap
  go_wp2_with fail
  refine (Chunk_any _ _ _ _).mono ?_
  rintro r w3 ⟨rfl, rfl⟩
  have HST3 := Lib.hid (show IsW ((w2.alloc (.cells #[.slice (some ⟨g, 0, none⟩) (64 * pcs b.length) cap2] 22)).alloc (.cells #[.int .i64 64] 3)) w1.heap.size 57 s0.l from heap_alloc_lt (heap_alloc_lt HST.out))
  have HC1 := Lib.hid (show ((w2.alloc (.cells #[.slice (some ⟨g, 0, none⟩) (64 * pcs b.length) cap2] 22)).alloc (.cells #[.int .i64 64] 3)).heap[w2.heap.size]? = some (.cells #[.slice (some ⟨g, 0, none⟩) (64 * pcs b.length) cap2] 22 (0, 0)) from heap_alloc_lt (heap_alloc_new _ _))
  have HC2 := Lib.hid (show ((w2.alloc (.cells #[.slice (some ⟨g, 0, none⟩) (64 * pcs b.length) cap2] 22)).alloc (.cells #[.int .i64 64] 3)).heap[w2.heap.size + 1]? = some (.cells #[.int .i64 64] 3 (0, 0)) from heap_alloc_at (by simp))
  have HF3 := Lib.hid ((HF2.out.alloc (.cells #[.slice (some ⟨g, 0, none⟩) (64 * pcs b.length) cap2] 22)).alloc (.cells #[.int .i64 64] 3))
  have HO3 := Lib.hid (HO.out.keep (((Frm.refl [] w2).alloc (.cells #[.slice (some ⟨g, 0, none⟩) (64 * pcs b.length) cap2] 22)).alloc (.cells #[.int .i64 64] 3)) (by simp))
  have HB3 := Lib.hid (HB2.out.keepF (((Frm.refl [] w2).alloc (.cells #[.slice (some ⟨g, 0, none⟩) (64 * pcs b.length) cap2] 22)).alloc (.cells #[.int .i64 64] 3)))
  have HZ3 := Lib.hid (show ((w2.alloc (.cells #[.slice (some ⟨g, 0, none⟩) (64 * pcs b.length) cap2] 22)).alloc (.cells #[.int .i64 64] 3)).heap.size = w2.heap.size + 2 by simp)
  generalize ((w2.alloc (.cells #[.slice (some ⟨g, 0, none⟩) (64 * pcs b.length) cap2] 22)).alloc (.cells #[.int .i64 64] 3)) = W at *
  have HGB := Lib.hid hgb
  clear hgb
  go_wp2_with fail
  have hz2 := HZ2.out
  have hz3 := HZ3.out
  refine (wpIn_wide (n := 5)).1 ?_
  refine wpIn_rangeFunc_ownF rfl (by decide) (gf := 45) (lb := #[.pointer (some ⟨w2.heap.size, 0, none⟩), .pointer (some ⟨w2.heap.size + 1, 0, none⟩)]) rfl trivial (Go.Proofs.enters_of Tryd.func45 (by kernel_rfl) rfl)
    (chunk_stops (5 - 1) (by decide) w2.heap.size (w2.heap.size + 1) g (pcs b.length) cap2 HCAP.out (by have := HPC.out; omega) W (by omega) (by omega) HC1.out HC2.out)
    ?kt ?kb (Below.refl _ _) (fun _ => rfl) (SumI W w1.heap.size (filled b) (pcs b.length)) (fun _ _ _ => False) (sumI_own W w1.heap.size (filled b) (pcs b.length) (by omega)) (fun _ _ _ _ _ hs _ _ => hs) ⟨HST3.out, Frm.refl _ _⟩
    (fun x : Idx (pcs b.length) => { tmps := #[.slice a b.length cap, undef, .pointer (some ⟨w.heap.size, 0, none⟩), .pointer (some ⟨w1.heap.size, 0, none⟩), pieceV g x.1, .agg #[.int .u32 (wi s0.a), .int .u32 (wi s0.b), .int .u32 (wi s0.c), .int .u32 (wi s0.d), .int .u32 (wi s0.e), .int .u32 (wi s0.f), .int .u32 (wi s0.g), .int .u32 (wi s0.h)],
      .slice a b.length cap, .slice (some ⟨g, 0, none⟩) (64 * pcs b.length) cap2, .func (.func 45) #[] #[.pointer (some ⟨w2.heap.size, 0, none⟩), .pointer (some ⟨w2.heap.size + 1, 0, none⟩)], pieceV g x.1, undef, undef, undef, undef, undef, undef, undef], defers := [] }) ?assign ?body ?done ?stop
  case kt => intro A B C h k; exact ⟨k.1.trans h.1, k.2.trans h.2⟩
  case kb => intro W' l o o' hl h ho hw; exact ⟨World.putObj_heap_other (by omega), World.putObj_heap_other (by omega)⟩
  case assign =>
    intro l x W' K hK
    gi_wp2
    exact hK
  case body =>
    rintro l pre x W' ⟨h1, h2⟩ hlen
    have hO := HO3.out
    have hxl : 64 * x.1 + 64 ≤ (filled b).length := by have := x.2; have := HL.out; omega
    have hOW := hO.keep h2 (by simp [blk]; exact HGB.out)
    have hpl : (pieceL (filled b) x.1).length = 64 := by simp [pieceL]; omega
    have hGW : Glob W' := (HG.out.keep HF3.out (by simp)).keep h2 (by have := HZ1.out; simp; omega)
    have hturn := turned_any (turnsP s0 (filled b) (pre.map (·.1))) (pieceL (filled b) x.1) hpl W'.drew hGW
    dsimp only [pieceV]
    refine wpIn_block ?_
    refine wpIn_round_still_tail 4 (by kernel_rfl) (by kernel_rfl) (by kernel_rfl) (inBlock_lets ownPostK_lets) ?_
    change wpStill _ _ (World.drew _) _ _ _
    simp only [List.take_succ_cons, List.take_zero, List.drop_succ_cons, List.drop_zero]
    refine wpStill_val rfl (exec_load_row 57 (.tmp 3) rfl w1.heap.size 0 rfl (W32 (turnsP s0 (filled b) (pre.map (·.1))).l) _ (fun i u hu => ?_) d57 rfl (by rw [W32_length]; exact i57)) ?_
    · rw [Nat.zero_add, World.cell?_drew, cell_of_heap h1]; simpa using hu
    still_step
    have haa := arrayAt59 ⟨g, 64 * x.1, none⟩
    still_step
    refine wpStill_val rfl (exec_load_row 59 (.tmp 12) rfl g (64 * x.1) rfl (bvs (pieceL (filled b) x.1)) _ (fun i u hu => ?_) d59 rfl (by rw [bvs_length, hpl]; exact i59)) ?_
    · have hh := hOW.heap
      rw [World.cell?_drew, cell_of_heap hh, List.getElem?_toArray, bvs_get]
      rw [bvs_get] at hu
      rw [← hu]
      have hi : i < 64 := by
        rcases Nat.lt_or_ge i 64 with h | h
        · exact h
        · rw [List.getElem?_eq_none (by omega)] at hu; cases hu
      unfold pieceL
      rw [List.getElem?_take_of_lt hi, List.getElem?_drop, List.getElem?_append_left (by omega)]
    refine wpStill_nil ?_
    change wpList _ _ _ _ _ (World.drew _)
    go_wp2_with fail
    refine hturn.mono ?_
    rintro r w4 ⟨rfl, f4⟩
    have h14 := f4.heap (show W'.drew.heap[w1.heap.size]? = _ from h1) (by simp)
    have hsz : ∀ y : S8, (W32 y.l).toArray.size = 8 := fun y => by simp [W32_length, S8.l]
    have hfin : SumI W w1.heap.size (filled b) (pcs b.length) (pre ++ [x]) (w4.setRow w1.heap.size (W32 (turn (turnsP s0 (filled b) (pre.map (·.1))) (pieceL (filled b) x.1)).l).toArray) := by
      refine ⟨?_, ((h2.drew).trans f4 (by simp)).setRow _ _ (.inl (by simp))⟩
      rw [List.map_append, List.map_cons, List.map_nil, turnsP_snoc]
      exact setRow_heap _ _ _ _ _ _ h14
    have hfr : Frm [w1.heap.size] W' (w4.setRow w1.heap.size (W32 (turn (turnsP s0 (filled b) (pre.map (·.1))) (pieceL (filled b) x.1)).l).toArray) := ((((Frm.refl [] W').drew).trans f4 (by simp)).mono (by simp)).setRow _ _ (.inl (by simp))
    have hko : KeepsOthers W' (w4.setRow w1.heap.size (W32 (turn (turnsP s0 (filled b) (pre.map (·.1))) (pieceL (filled b) x.1)).l).toArray) := ⟨hfr.size, fun k o hk ho => hfr.heap hk (fun hm => by
      simp at hm; subst hm; rw [show W'.heap[w1.heap.size]? = _ from h1] at hk; cases hk; cases ho)⟩
    have hkp : KpB w2.heap.size (w2.heap.size + 1) W' (w4.setRow w1.heap.size (W32 (turn (turnsP s0 (filled b) (pre.map (·.1))) (pieceL (filled b) x.1)).l).toArray) := ⟨hfr.block _ (by have := h2.size; omega) (by simp; omega), hfr.block _ (by have := h2.size; omega) (by simp; omega)⟩
    have HFIN := Lib.hid (And.intro hko (And.intro hkp hfin))
    have H14 := Lib.hid h14
    clear hko hkp hfin hfr h14 hturn hGW hpl hxl hOW hO h1 h2 haa
    generalize (turn (turnsP s0 (filled b) (pre.map (·.1))) (pieceL (filled b) x.1)) = y at *
    simp only []
    go_step
    refine wpList_store_row rfl 57 (.tmp 3) (.tmp 14) rfl w1.heap.size (W32 y.l).toArray rfl rfl 57 _ H14.out (by rw [hsz]; exact i57) (by rw [hsz, hsz]) (W32_one _) ?_
    refine wpList_nil ?_
    exact HFIN.out
  case done =>
    rintro D xs W' hD hxs ⟨h1, h2⟩ hK
    rw [hxs] at h1
    have hsz : ∀ y : S8, (W32 y.l).toArray.size = 8 := fun y => by simp [W32_length, S8.l]
    have hlen8 : ∀ y : S8, y.l.length = 8 := fun y => rfl
    have hBW := h2.heap (show W.heap[w.heap.size]? = _ from HB3.out) (by have := HZ1.out; simp; omega)
    have hFW : Frm [] w W' := HF3.out.trans h2 (fun i hi => by have := HZ1.out; simp at hi; subst hi; exact .inr (by omega))
    have hDz : w.heap.size < D := by have := HZ1.out; omega
    have hDW : D < W'.heap.size := (Array.getElem?_eq_some_iff.1 hK).1
    have HH1 := Lib.hid h1
    have HBW := Lib.hid hBW
    have HFW := Lib.hid hFW
    have HK := Lib.hid hK
    have HDZ := Lib.hid hDz
    have HSHA : sha b = digK (turnsP s0 (filled b) (List.range (pcs b.length))).l 32 := rfl
    have HSH := Lib.hid HSHA
    clear h1 h2 hK hBW hFW hDz hDW hD HSHA
    generalize (turnsP s0 (filled b) (List.range (pcs b.length))) = y at *
    simp only [Exit.inBlock, Exit.then]
    go_upto_region 5 with (fail)
    refine wp_region_lit ?_
    refine wpList_load_row rfl 57 (.tmp 3) rfl w1.heap.size rfl 57 (W32 y.l).toArray (0, 0) _ HH1.out d57 rfl (by rw [hsz]; exact i57) ?_
    go_wp2_with fail
    refine (digest_any y.l (hlen8 y) _).mono ?_
    rintro r w5 ⟨rfl, f5⟩
    rw [← HSH.out]
    have h29 := f5.heap HBW.out (by simp)
    have hl32 : (bvs (sha b)).toArray.size = 32 := by simp [bvs_length, HSH.out, digK_length]
    have hz32 : (bvs (List.replicate 32 (0 : UInt8))).toArray.size = 32 := by simp [bvs_length]
    have hK5 := f5.heap HK.out (by simp)
    have hF5 := HFW.out.trans f5 (by simp)
    simp only []
    go_step
    refine wpList_store_row rfl 29 (.tmp 2) (.tmp 16) rfl w.heap.size (bvs (sha b)).toArray rfl rfl 29 _ h29 (by rw [hl32]; exact i29) (by rw [hl32, hz32]) (bvs_oneA _) ?_
    have hDD := HDZ.out
    have hK6 : (w5.setRow w.heap.size (bvs (sha b)).toArray).heap[D]? = some (.deferred (some [])) := (setRow_other _ _ _ _ (by omega)).trans hK5
    have hres := setRow_heap w5 w.heap.size _ (bvs (sha b)).toArray 29 (0, 0) h29
    have hF6 : Frm [] w (w5.setRow w.heap.size (bvs (sha b)).toArray) := hF5.setRow _ _ (.inr (Nat.le_refl _))
    generalize (w5.setRow w.heap.size (bvs (sha b)).toArray) = w9 at *
    have hres2 : (w9.putObj D (.deferred none)).heap[w.heap.size]? = some (.cells (bvs (sha b)).toArray 29 (0, 0)) := (World.putObj_heap_other (by omega)).trans hres
    have hF7 : Frm [] w (w9.putObj D (.deferred none)) := hF6.trans (Frm.of_grown (L := [D]) (grownBy_putObj' w9 D (.deferred none)) (fun k e => by cases e; simp)) (fun i hi => by simp at hi; subst hi; exact .inr (by omega))
    have HR2 := Lib.hid hres2
    have HF7 := Lib.hid hF7
    have HK6 := Lib.hid hK6
    have HL32 := Lib.hid hl32
    clear hK6 hres hres2 hF6 hF7 hF5 hK5 h29 hl32 hz32 f5 hDD hlen8 hsz
    refine wpList_nil ?_
    simp only [Exit.then]
    go_wp2_with fail
    refine ⟨by simp, .inl ⟨_, _, rfl, run_takeDeferred HK6.out, ?_⟩⟩
    exact ⟨_, results_cell_row rfl _ _ _ 29 _ (0, 0) _ rfl HR2.out d29 rfl (by rw [HL32.out]; exact i29), ⟨rfl, HF7.out⟩⟩
  case stop =>
    rintro D c pre W' _ _ h _
    exact h.elim
end Go.Proofs.YtopjbiccipgnjaaDoor
