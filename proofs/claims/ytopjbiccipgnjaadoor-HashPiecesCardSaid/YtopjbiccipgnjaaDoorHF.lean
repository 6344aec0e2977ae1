/-
  Contract of wordsOf: the words of a piece; no conditions but those that each theorem names.
-/
import Derived.Test.YtopjbiccipgnjaaDoorHE
import Derived.Deep.DeepCutAuto
import Derived.Deep.CutBlock
namespace Go.Proofs.YtopjbiccipgnjaaDoor
open Go.RowKit
set_option linter.unusedVariables false
set_option linter.unusedSimpArgs false

def W32 (ws : List UInt32) : List Value := ws.map fun x => .int .u32 (wi x)
theorem W32_length (ws : List UInt32) : (W32 ws).length = ws.length := by simp [W32]
theorem W32_get (ws : List UInt32) (i : Nat) (h : i < ws.length) : (W32 ws)[i]? = some (.int .u32 (wi ws[i])) := by simp [W32, List.getElem?_eq_getElem h]
theorem W32_set (ws : List UInt32) (i : Nat) (x : UInt32) : (W32 ws).toArray.setIfInBounds i (.int .u32 (wi x)) = (W32 (ws.set i x)).toArray := by
  apply Array.ext'
  simp [W32, List.map_set]
theorem W32_one (ws : List UInt32) : (W32 ws).toArray.all (·.oneCell') = true := by
  simp [W32, Value.oneCell']
def IsW (w : World) (b : Nat) (T : TypeId) (ws : List UInt32) : Prop := w.heap[b]? = some (.cells (W32 ws).toArray T (0, 0))
theorem IsW.cell {w : World} {b : Nat} {T : TypeId} {ws : List UInt32} (h : IsW w b T ws) (i : Nat) (hi : i < ws.length) : w.cell? ⟨b, i, none⟩ = some (.int .u32 (wi ws[i])) := by
  rw [cell_of_heap h, List.getElem?_toArray]; exact W32_get ws i hi
theorem IsW.frozen {w : World} {b : Nat} {T : TypeId} {ws : List UInt32} (h : IsW w b T ws) (i : Nat) : w.frozen? ⟨b, i, none⟩ = false := frozen_of_heap h i
theorem IsW.store {w : World} {b : Nat} {T : TypeId} {ws : List UInt32} (h : IsW w b T ws) (i : Nat) (x : UInt32) : IsW (w.setCell ⟨b, i, none⟩ (.int .u32 (wi x))) b T (ws.set i x) := by
  unfold IsW; rw [heap_setCell_same _ h, W32_set]
theorem IsW.other {w : World} {b : Nat} {T : TypeId} {ws : List UInt32} (h : IsW w b T ws) (p : Addr) (v : Value) (hp : b ≠ p.block) : IsW (w.setCell p v) b T ws := (heap_setCell_ne v hp).trans h
def sig0 (x : UInt32) : UInt32 := ror32 x 7 ^^^ ror32 x 18 ^^^ shr32 x 3
def sig1 (x : UInt32) : UInt32 := ror32 x 17 ^^^ ror32 x 19 ^^^ shr32 x 10
def at32 (ws : List UInt32) (i : Nat) : UInt32 := ws.getD i 0
/-- The next word of a piece. -/
def nextW (p : List UInt8) (ws : List UInt32) : UInt32 :=
  if ws.length < 16 then beW ((p.drop (4 * ws.length)).take 4)
  else at32 ws (ws.length - 16) + (sig0 (at32 ws (ws.length - 15)) + at32 ws (ws.length - 7) + sig1 (at32 ws (ws.length - 2)))
def wordsK (p : List UInt8) : Nat → List UInt32
  | 0 => []
  | k + 1 => wordsK p k ++ [nextW p (wordsK p k)]
theorem wordsK_length (p : List UInt8) (k : Nat) : (wordsK p k).length = k := by induction k <;> simp [wordsK, *]
/-- The window of sixteen. -/
def winK (p : List UInt8) : Nat → List UInt32
  | 0 => List.replicate 16 0
  | k + 1 => (winK p k).set (k % 16) (nextW p (wordsK p k))
theorem winK_length (p : List UInt8) (k : Nat) : (winK p k).length = 16 := by induction k <;> simp [winK, *]
theorem win_at (p : List UInt8) : ∀ k j, j < k → k ≤ j + 16 → at32 (winK p k) (j % 16) = at32 (wordsK p k) j := by
  intro k
  induction k with
  | zero => intro j h; omega
  | succ k ih =>
    intro j h1 h2
    have hl := wordsK_length p k
    have hw := winK_length p k
    by_cases hj : j = k
    · subst hj
      simp only [winK, wordsK, at32, List.getD_eq_getElem?_getD]
      rw [List.getElem?_set_self (by omega), List.getElem?_append_right (by omega)]
      simp [hl]
    · have h3 := ih j (by omega) (by omega)
      simp only [winK, wordsK, at32, List.getD_eq_getElem?_getD] at h3 ⊢
      rw [List.getElem?_set_ne (by omega), List.getElem?_append_left (by omega), h3]
theorem words_set (p : List UInt8) (k : Nat) (hk : k < 64) : (wordsK p k ++ List.replicate (64 - k) 0).set k (nextW p (wordsK p k)) = wordsK p (k + 1) ++ List.replicate (64 - (k + 1)) 0 := by
  rw [List.set_append_right _ _ (by rw [wordsK_length]; exact Nat.le_refl _), wordsK_length, Nat.sub_self, show 64 - k = (64 - (k + 1)) + 1 by omega, List.replicate_succ, List.set_cons_zero]
  simp [wordsK]
def WordsRel (w : World) (p : List UInt8) (c : Value) (wr : World) : Prop :=
  ∃ k : Nat, k ≤ 64 ∧ c = .int .i64 k ∧ wr.heap[w.heap.size]? = some (.cells (bvs p).toArray 59 (0, 0)) ∧ IsW wr (w.heap.size + 1) 61 (List.replicate 64 0) ∧
    IsW wr (w.heap.size + 2) 61 (wordsK p k ++ List.replicate (64 - k) 0) ∧ IsW wr (w.heap.size + 3) 74 (winK p k) ∧ Frm [] w wr
theorem Frm.setRow {L : List Nat} {w w' : World} (h : Frm L w w') (g : Nat) (cs : Array Value) (hg : g ∈ L ∨ w.heap.size ≤ g) : Frm L w (w'.setRow g cs) :=
  h.trans (L' := [g]) ⟨rfl, rfl, rfl, by simp, fun k hk hn => setRow_other _ _ _ _ (by simpa using hn)⟩ (by simpa using hg)
theorem asWord_n (b off cap n : Nat) (l sp : List UInt8) (w : World) (hn : l.length = n) (hS : SlB w (.slice (some ⟨b, off, none⟩) n cap) l sp) (hl : n ≤ 1000000) :
    Calls Tryd.prog 53 #[.slice (some ⟨b, off, none⟩) n cap] w fun r w' => r = .returned (.int .u32 (wi (beW l))) ∧ w' = w := by
  subst hn
  exact asWord_any b off cap l sp w hS hl
theorem slb_row {w : World} {b : Nat} {p : List UInt8} {T : TypeId} {fr : Nat × Nat} (h : w.heap[b]? = some (.cells (bvs p).toArray T fr)) (off n : Nat) (hn : off + n ≤ p.length) (hm : p.length ≤ maxLen) :
    SlB w (.slice (some ⟨b, off, none⟩) n (p.length - off)) ((p.drop off).take n) (p.drop (off + n)) := by
  have hl : ((p.drop off).take n).length = n := by simp; omega
  have hsp : (p.drop off).take n ++ p.drop (off + n) = p.drop off := by rw [← List.drop_drop, List.take_append_drop]
  refine ⟨by simp [bvs_length], .inr (.inr ⟨b, off, p.length - off, by rw [hl], by rw [hl]; omega, by omega, ?_, fun i u hu => ?_⟩)⟩
  · rw [← bvs_append, hsp, bvs_length]; simp
  · rw [← bvs_append, hsp, bvs_get] at hu
    rw [cell_of_heap h, List.getElem?_toArray, bvs_get]
    rwa [List.getElem?_drop] at hu
theorem wi_shr3 (x : UInt32) : wi x / 8 = wi (shr32 x 3) := wi_shr x 3
theorem wi_shr10 (x : UInt32) : wi x / 1024 = wi (shr32 x 10) := wi_shr x 10
theorem Right_i (x : UInt32) (n : Int) (k : Nat) (hk : n = k) (h1 : 1 ≤ k) (h2 : k ≤ 31) (w : World) : Calls Tryd.prog 49 #[.int .u32 (wi x), .int .i64 n] w fun e w' => e = .returned (.int .u32 (wi (ror32 x k))) ∧ w' = w := by
  subst hk; exact Right_any x k h1 h2 w
theorem u59 : Tryd.prog.underlying 59 = some (.array (Tryd.prog.arrayLen 59) (Tryd.prog.elem 59)) := by kernel_rfl
theorem slice59 (b k : Nat) (hk : k < 16) (W : World) : (Instr.sliceAt 59 (.pointer (some ⟨b, 0, none⟩)) (some (.int .i64 (4 * (k : Int)))) (some (.int .i64 (4 * (k : Int) + 4))) none).run Tryd.prog W = .ok (.slice (some ⟨b, 4 * k, none⟩) 4 (64 - 4 * k)) W := by
  have he : Tryd.prog.elem 59 = 5 := by kernel_rfl
  have hl : Tryd.prog.arrayLen 59 = 64 := by kernel_rfl
  have hs : (sizeOf 5).run Tryd.prog W = .ok 1 W := by
    obtain ⟨i, hi', hz, hs, hby⟩ := info_parts BT.info
    simp [sizeOf, typeInfo, hi', hs]
  rw [run_sliceAt_array_lh (P := Tryd.prog) W 59 _ u59 .i64 .i64 (4 * (k : Int)) (4 * (k : Int) + 4) (by omega) (by omega) (by rw [hl]; omega), he, hs, hl]
  have e1 : (4 * (k : Int)).toNat = 4 * k := by omega
  have e2 : (4 * (k : Int) + 4).toNat = 4 * k + 4 := by omega
  simp only [Result.andThen, slicedAt, e1, e2]
  rw [if_neg (by omega), add_plain, show 0 + 4 * k * 1 = 4 * k by omega, show 4 * k + 4 - 4 * k = 4 by omega]
theorem W32_zero (n : Nat) : W32 (List.replicate n 0) = List.replicate n (.int .u32 0) := by simp [W32, wi]
theorem d61 : Tryd.prog.underlying 61 = some (.array 64 35) := by kernel_rfl
theorem i61 : (Tryd.prog.info? 61).map (·.size) = some 64 := by kernel_rfl
theorem at32_lt {ws : List UInt32} {i : Nat} (h : i < ws.length) : ws[i] = at32 ws i := by simp [at32, List.getElem?_eq_getElem h]
set_option maxRecDepth 100000 in
set_option maxHeartbeats 4000000 in
theorem wordsOf_any (p : List UInt8) (hp : p.length = 64) (w : World) :
    Calls Tryd.prog 48 #[.agg (bvs p).toArray] w fun r w' => r = .returned (.agg (W32 (wordsK p 64)).toArray) ∧ Frm [] w w' := by
  go_enter Tryd.func48, Tryd.ntmps48
  go_wp2_with fail
  go_loopw [9] (WordsRel w p) (fun c _ => 64 - (intOf c).toNat)
  case atStart =>
    refine ⟨0, by omega, rfl, heap_alloc_lt (heap_alloc_lt (heap_alloc_lt (heap_alloc_new _ _))), ?_, ?_, ?_, ((((Frm.refl _ _).alloc _).alloc _).alloc _).alloc _⟩
    · unfold IsW; rw [W32_zero]; exact heap_alloc_lt (heap_alloc_lt (heap_alloc_at (by simp)))
    · unfold IsW; rw [show wordsK p 0 ++ List.replicate (64 - 0) (0 : UInt32) = List.replicate 64 0 from rfl, W32_zero]; exact heap_alloc_lt (heap_alloc_at (by simp))
    · unfold IsW; rw [show winK p 0 = List.replicate 16 0 from rfl, W32_zero]; exact heap_alloc_at (by simp)
  case round =>
    obtain ⟨k, hk, rfl, hP, hR, hX, hW, f⟩ := hrel
    have hRz : wr.heap[w.heap.size + 1]? = some (.cells (W32 (List.replicate 64 0)).toArray 61 (0, 0)) := hR
    by_cases hlt : k < 64
    · have hwl := winK_length p k
      have hkl := wordsK_length p k
      have cw := hW.cell (k % 16) (by omega)
      rw [show (winK p k)[k % 16]'(by omega) = at32 (winK p k) (k % 16) from at32_lt _] at cw
      have zw := hW.frozen (k % 16)
      have hkl2 : k < (wordsK p k ++ List.replicate (64 - k) (0 : UInt32)).length := by simp [hkl]; omega
      have cx := hX.cell k hkl2
      have zx := hX.frozen k
      generalize (wordsK p k ++ List.replicate (64 - k) (0 : UInt32))[k]'hkl2 = x0 at cx
      obtain ⟨m, hm⟩ : ∃ m, k % 16 = m := ⟨_, rfl⟩
      have hm0 : (k : Int) % 16 = (m : Int) := by omega
      have hmb : (m : Int) < 16 := by omega
      have hmp : (0 : Int) ≤ (m : Int) := by omega
      rw [hm] at cw zw
      have hset := words_set p k hlt
      have hwin : winK p (k + 1) = (winK p k).set m (nextW p (wordsK p k)) := by rw [← hm]; rfl
      by_cases h16 : k < 16
      · have hnx : nextW p (wordsK p k) = beW ((p.drop (4 * k)).take 4) := by unfold nextW; rw [hkl, if_pos h16]
        have hsl := slb_row hP (4 * k) 4 (by omega) (by rw [hp]; decide)
        have hln : ((p.drop (4 * k)).take 4).length = 4 := by simp; omega
        have hk16 : (k : Int) < 16 := by omega
        rw [hp] at hsl
        rw [hnx] at hset hwin
        have haw := asWord_n w.heap.size (4 * k) (64 - 4 * k) 4 _ _ wr hln hsl (by omega)
        generalize beW ((p.drop (4 * k)).take 4) = v at *
        have HAW := Lib.hid haw
        have HSET := Lib.hid hset
        have HWIN := Lib.hid hwin
        have HP := Lib.hid hP
        have HR := Lib.hid hR
        have HX := Lib.hid hX
        have HW := Lib.hid hW
        have HF := Lib.hid f
        clear haw hset hwin hP hR hX hW f hRz hnx hsl hln hkl2 hkl hwl hm
        have hs59 := slice59 w.heap.size k h16
        go_wp2_with (go_at_call 53; refine HAW.out.mono ?_; rintro r w1 ⟨rfl, rfl⟩)
        refine ⟨⟨k + 1, by omega, by go_num, ?_, ?_, ?_, ?_, ?_⟩, by simp [intOf]; omega⟩
        · exact (heap_setCell_ne _ (by simp <;> omega)).trans ((heap_setCell_ne _ (by simp <;> omega)).trans HP.out)
        · exact (HR.out.other _ _ (by simp <;> omega)).other _ _ (by simp <;> omega)
        · rw [← HSET.out]; exact (HX.out.other _ _ (by simp <;> omega)).store k v
        · rw [HWIN.out]; exact (HW.out.store m v).other _ _ (by simp <;> omega)
        · exact (HF.out.setCell _ _ (.inr (by simp <;> omega))).setCell _ _ (.inr (by simp <;> omega))
      · obtain ⟨m15, h15⟩ : ∃ m, (k - 15) % 16 = m := ⟨_, rfl⟩
        obtain ⟨m7, h7⟩ : ∃ m, (k - 7) % 16 = m := ⟨_, rfl⟩
        obtain ⟨m2, h2⟩ : ∃ m, (k - 2) % 16 = m := ⟨_, rfl⟩
        have b15 : m15 < 16 := by omega
        have b7 : m7 < 16 := by omega
        have b2 : m2 < 16 := by omega
        have c15 := hW.cell m15 (by omega)
        have c7 := hW.cell m7 (by omega)
        have c2 := hW.cell m2 (by omega)
        rw [show (winK p k)[m15]'(by omega) = at32 (wordsK p k) (k - 15) from by rw [at32_lt, ← h15, win_at p k (k - 15) (by omega) (by omega)]] at c15
        rw [show (winK p k)[m7]'(by omega) = at32 (wordsK p k) (k - 7) from by rw [at32_lt, ← h7, win_at p k (k - 7) (by omega) (by omega)]] at c7
        rw [show (winK p k)[m2]'(by omega) = at32 (wordsK p k) (k - 2) from by rw [at32_lt, ← h2, win_at p k (k - 2) (by omega) (by omega)]] at c2
        rw [show at32 (winK p k) m = at32 (wordsK p k) (k - 16) from by rw [← win_at p k (k - 16) (by omega) (by omega), show (k - 16) % 16 = m by omega]] at cw
        have hnx : nextW p (wordsK p k) = at32 (wordsK p k) (k - 16) + (sig0 (at32 (wordsK p k) (k - 15)) + at32 (wordsK p k) (k - 7) + sig1 (at32 (wordsK p k) (k - 2))) := by unfold nextW; rw [hkl, if_neg h16]
        generalize at32 (wordsK p k) (k - 16) = a16 at *
        generalize at32 (wordsK p k) (k - 15) = a15 at *
        generalize at32 (wordsK p k) (k - 7) = a7 at *
        generalize at32 (wordsK p k) (k - 2) = a2 at *
        generalize nextW p (wordsK p k) = v at *
        have HSET := Lib.hid hset
        have HWIN := Lib.hid hwin
        have HP := Lib.hid hP
        have HR := Lib.hid hR
        have HX := Lib.hid hX
        have HW := Lib.hid hW
        have HF := Lib.hid f
        have HNX := Lib.hid hnx
        have hk16 : ¬ (k : Int) < 16 := by omega
        have e15 : IntKind.i64.wrap ((k : Int) - 15) = (k : Int) - 15 := IntWalk.i64_in _ (by omega)
        have e7 : IntKind.i64.wrap ((k : Int) - 7) = (k : Int) - 7 := IntWalk.i64_in _ (by omega)
        have e2 : IntKind.i64.wrap ((k : Int) - 2) = (k : Int) - 2 := IntWalk.i64_in _ (by omega)
        have t15 : ((k : Int) - 15).tmod 16 = (m15 : Int) := by rw [Int.tmod_eq_emod_of_nonneg (by omega)]; omega
        have t7 : ((k : Int) - 7).tmod 16 = (m7 : Int) := by rw [Int.tmod_eq_emod_of_nonneg (by omega)]; omega
        have t2 : ((k : Int) - 2).tmod 16 = (m2 : Int) := by rw [Int.tmod_eq_emod_of_nonneg (by omega)]; omega
        have q15 : (m15 : Int) < 16 := by omega
        have q7 : (m7 : Int) < 16 := by omega
        have q2 : (m2 : Int) < 16 := by omega
        clear hset hwin hP hR hX hW f hRz hnx hkl2 hkl hwl hm h16 h15 h7 h2 b15 b7 b2
        go_wp2_with fail
        go_quiet (fail)
        go_wp2_with fail
        refine wp_region_still_tail 28 (by kernel_rfl) (by kernel_rfl) ?_
        change wpStill _ _ (World.drew _) _ _ _
        simp only [List.take_succ_cons, List.take_zero, List.drop_succ_cons, List.drop_zero]
        repeat still_step
        still_call (Right_i a15 7 7 rfl (by decide) (by decide) _)
        repeat still_step
        still_call (Right_i a15 18 18 rfl (by decide) (by decide) _)
        have hx1 := wi_xor
        have hx2 := wi_add
        have hx3 := wi_add'
        have hx4 := wi_shr3
        have hx5 := wi_shr10
        repeat still_step
        still_call (Right_i a2 17 17 rfl (by decide) (by decide) _)
        repeat still_step
        still_call (Right_i a2 19 19 rfl (by decide) (by decide) _)
        repeat still_step
        refine wpStill_nil ?_
        change wpList _ _ _ _ _ (World.drew _)
        have hnx := HNX.out
        unfold sig0 sig1 at hnx
        have HNX2 := Lib.hid hnx.symm
        clear hnx
        rw [HNX2.out]
        go_wp2_with fail
        have HX9 : IsW (wr.drewN (nq + 1)) (w.heap.size + 2) 61 (wordsK p k ++ List.replicate (64 - k) 0) := HX.out
        have HW9 : IsW (wr.drewN (nq + 1)) (w.heap.size + 3) 74 (winK p k) := HW.out
        have HR9 : IsW (wr.drewN (nq + 1)) (w.heap.size + 1) 61 (List.replicate 64 0) := HR.out
        have HP9 : (wr.drewN (nq + 1)).heap[w.heap.size]? = some (.cells (bvs p).toArray 59 (0, 0)) := HP.out
        refine ⟨⟨k + 1, by omega, by go_num, ?_, ?_, ?_, ?_, ?_⟩, by simp [intOf]; omega⟩
        · exact (heap_setCell_ne _ (by simp <;> omega)).trans ((heap_setCell_ne _ (by simp <;> omega)).trans HP9)
        · exact (HR9.other _ _ (by simp <;> omega)).other _ _ (by simp <;> omega)
        · rw [← HSET.out]; exact (HX9.other _ _ (by simp <;> omega)).store k v
        · rw [HWIN.out]; exact (HW9.store m v).other _ _ (by simp <;> omega)
        · exact ((HF.out.drewN _).setCell _ _ (.inr (by simp <;> omega))).setCell _ _ (.inr (by simp <;> omega))
    · obtain rfl : k = 64 := by omega
      have hX' : wr.heap[w.heap.size + 2]? = some (.cells (W32 (wordsK p 64)).toArray 61 (0, 0)) := by
        have : IsW wr (w.heap.size + 2) 61 (wordsK p 64 ++ List.replicate (64 - 64) 0) := hX
        rw [show wordsK p 64 ++ List.replicate (64 - 64) 0 = wordsK p 64 from by simp] at this
        exact this
      have hsz : (W32 (wordsK p 64)).toArray.size = 64 := by simp [W32_length, wordsK_length]
      have HX := Lib.hid hX'
      have HSZ := Lib.hid hsz
      have HF := Lib.hid f
      clear hP hR hX hW hX' hsz f
      go_upto_region 13 with (fail)
      refine wp_region_lit ?_
      refine wpList_load_row rfl 61 (.tmp 3) rfl (w.heap.size + 2) rfl 61 (W32 (wordsK p 64)).toArray (0, 0) _ HX.out d61 rfl (by rw [HSZ.out]; exact i61) ?_
      refine wpList_store_row rfl 61 (.tmp 2) (.tmp 69) rfl (w.heap.size + 1) (W32 (wordsK p 64)).toArray rfl rfl 61 _ hRz (by rw [HSZ.out]; exact i61) (by rw [HSZ.out]; rfl) (W32_one _) ?_
      have hres := setRow_heap wr (w.heap.size + 1) _ (W32 (wordsK p 64)).toArray 61 (0, 0) hRz
      have hfr : Frm [] w (wr.setRow (w.heap.size + 1) (W32 (wordsK p 64)).toArray) := HF.out.setRow _ _ (.inr (by omega))
      generalize wr.setRow (w.heap.size + 1) (W32 (wordsK p 64)).toArray = w9 at *
      go_wp2_with fail
      refine bodyPost_ret (v := .agg (W32 (wordsK p 64)).toArray) (results_cell_row rfl _ _ _ 61 _ (0, 0) _ rfl hres d61 rfl (by rw [HSZ.out]; exact i61)) rfl ⟨rfl, hfr⟩
end Go.Proofs.YtopjbiccipgnjaaDoor
