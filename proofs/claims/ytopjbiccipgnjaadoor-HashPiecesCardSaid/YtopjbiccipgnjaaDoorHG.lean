/-
  Contract of (state).turned: a state turned by a piece; no conditions but those that each theorem names.
-/
import Derived.Test.YtopjbiccipgnjaaDoorHF
import Derived.WalkHide
namespace Go.Proofs.YtopjbiccipgnjaaDoor
open Go.RowKit
set_option linter.unusedVariables false
set_option linter.unusedSimpArgs false

def kTab : List UInt32 := [1116352408, 1899447441, 3049323471, 3921009573, 961987163, 1508970993, 2453635748, 2870763221, 3624381080, 310598401, 607225278, 1426881987, 1925078388, 2162078206, 2614888103, 3248222580, 3835390401, 4022224774, 264347078, 604807628, 770255983, 1249150122, 1555081692, 1996064986, 2554220882, 2821834349, 2952996808, 3210313671, 3336571891, 3584528711, 113926993, 338241895, 666307205, 773529912, 1294757372, 1396182291, 1695183700, 1986661051, 2177026350, 2456956037, 2730485921, 2820302411, 3259730800, 3345764771, 3516065817, 3600352804, 4094571909, 275423344, 430227734, 506948616, 659060556, 883997877, 958139571, 1322822218, 1537002063, 1747873779, 1955562222, 2024104815, 2227730452, 2361852424, 2428436474, 2756734187, 3204031479, 3329325298]
/-- What the addends are. -/
def Glob (w : World) : Prop := ∀ i, i < 64 → w.cell? ⟨0, i, none⟩ = some (.int .u32 (wi (at32 kTab i)))
theorem Glob.keep {w w' : World} {L : List Nat} (h : Glob w) (f : Frm L w w') (hL : 0 ∉ L) : Glob w' := fun i hi => f.cell (h i hi) hL
structure S8 where
  a : UInt32
  b : UInt32
  c : UInt32
  d : UInt32
  e : UInt32
  f : UInt32
  g : UInt32
  h : UInt32
def S8.l (s : S8) : List UInt32 := [s.a, s.b, s.c, s.d, s.e, s.f, s.g, s.h]
def S8.T (s : S8) (k w : UInt32) : UInt32 := s.h + (ror32 s.e 6 ^^^ ror32 s.e 11 ^^^ ror32 s.e 25) + (s.e &&& s.f ^^^ ~~~s.e &&& s.g) + k + w
def S8.U (s : S8) : UInt32 := (ror32 s.a 2 ^^^ ror32 s.a 13 ^^^ ror32 s.a 22) + (s.a &&& s.b ^^^ s.a &&& s.c ^^^ s.b &&& s.c)
def S8.step (s : S8) (k w : UInt32) : S8 := ⟨s.T k w + s.U, s.a, s.b, s.c, s.d + s.T k w, s.e, s.f, s.g⟩
def S8.run (s : S8) (ks ws : List UInt32) : Nat → S8
  | 0 => s
  | i + 1 => (s.run ks ws i).step (at32 ks i) (at32 ws i)
def S8.add (s t : S8) : S8 := ⟨s.a + t.a, s.b + t.b, s.c + t.c, s.d + t.d, s.e + t.e, s.f + t.f, s.g + t.g, s.h + t.h⟩
/-- A state turned by a piece. -/
def turn (s : S8) (p : List UInt8) : S8 := (s.run kTab (wordsK p 64) 64).add s
theorem d57 : Tryd.prog.underlying 57 = some (.array 8 35) := by kernel_rfl
theorem i57 : (Tryd.prog.info? 57).map (·.size) = some 8 := by kernel_rfl
theorem d59 : Tryd.prog.underlying 59 = some (.array 64 5) := by kernel_rfl
theorem i59 : (Tryd.prog.info? 59).map (·.size) = some 64 := by kernel_rfl
def TurnRel (w : World) (s : S8) (ws : List UInt32) (v5 v6 v7 v8 v9 v10 v11 v12 c : Value) (wr : World) : Prop :=
  ∃ k : Nat, k ≤ 64 ∧ c = .int .i64 k ∧ ∃ x : S8, x = s.run kTab ws k ∧ v5 = .int .u32 (wi x.a) ∧ v6 = .int .u32 (wi x.b) ∧ v7 = .int .u32 (wi x.c) ∧ v8 = .int .u32 (wi x.d) ∧
    v9 = .int .u32 (wi x.e) ∧ v10 = .int .u32 (wi x.f) ∧ v11 = .int .u32 (wi x.g) ∧ v12 = .int .u32 (wi x.h) ∧ Frm [] w wr
theorem Right_j (x : UInt32) (n : Int) (h1 : 1 ≤ n) (h2 : n ≤ 31) (w : World) : Calls Tryd.prog 49 #[.int .u32 (wi x), .int .i64 n] w fun e w' => e = .returned (.int .u32 (wi (ror32 x n.toNat))) ∧ w' = w := by
  obtain ⟨k, rfl⟩ := Int.eq_ofNat_of_zero_le (show 0 ≤ n by omega)
  exact Right_any x k (by omega) (by omega) w
theorem ones_xor (x : UInt32) : (4294967295 : UInt32) ^^^ x = ~~~x := by
  apply UInt32.toBitVec_inj.1
  rw [UInt32.toBitVec_xor, UInt32.toBitVec_not]
  exact BitVec.allOnes_xor
theorem wi_unxor (x : UInt32) : bits BinOp.xor IntKind.u32 (if IntKind.u32.signed = true then -1 else IntKind.u32.max) (wi x) = wi (~~~x) := by
  rw [show (if IntKind.u32.signed = true then (-1 : Int) else IntKind.u32.max) = wi 4294967295 from rfl, wi_xor, ones_xor]
theorem IsW.keepF {w w' : World} {b : Nat} {T : TypeId} {ws : List UInt32} (h : IsW w b T ws) (f : Frm [] w w') : IsW w' b T ws := f.heap h (by simp)
/-- The words of a list, the first k with those of another one added. -/
def addK (xs ss : List UInt32) : Nat → List UInt32
  | 0 => xs
  | k + 1 => (addK xs ss k).set k (at32 (addK xs ss k) k + at32 ss k)
theorem addK_length (xs ss : List UInt32) (k : Nat) : (addK xs ss k).length = xs.length := by induction k <;> simp [addK, *]
theorem addK_all (x s : S8) : addK x.l s.l 8 = (x.add s).l := by
  simp [addK, S8.l, S8.add, at32]
def AddRel (w : World) (b17 : Nat) (xs ss : List UInt32) (c : Value) (wr : World) : Prop :=
  ∃ k : Nat, k ≤ 8 ∧ c = .int .i64 k ∧ IsW wr b17 57 (addK xs ss k) ∧ IsW wr w.heap.size 57 ss ∧ wr.heap[w.heap.size + 2]? = some (.cells #[.int .u32 0, .int .u32 0, .int .u32 0, .int .u32 0, .int .u32 0, .int .u32 0, .int .u32 0, .int .u32 0] 57 (0, 0)) ∧ Frm [] w wr
theorem index61 (ws : List UInt32) (k : Nat) (hk : k < 64) (hl : ws.length = 64) (W : World) : (Instr.index 61 (.agg (W32 ws).toArray) (.int .i64 (k : Int))).run Tryd.prog W = .ok (.int .u32 (wi (at32 ws k))) W := by
  have hs : (sizeOf 35).run Tryd.prog W = .ok 1 W := by kernel_rfl
  have ha : (isAgg 35).run Tryd.prog W = .ok false W := by kernel_rfl
  have hx : (W32 ws)[k]? = some (.int .u32 (wi (at32 ws k))) := by rw [W32_get ws k (by omega), at32_lt]
  have hin : (0 : Int) ≤ (k : Int) ∧ (k : Int) < ((64 : Nat) : Int) := by omega
  simp [Instr.index, run_underlying d61, asIntOf, hin, part, hs, ha, hx, go_sem]
  intro h
  omega
set_option maxRecDepth 100000 in
set_option maxHeartbeats 4000000 in
theorem turned_any (s : S8) (p : List UInt8) (hp : p.length = 64) (w : World) (hG : Glob w) :
    Calls Tryd.prog 37 #[.agg (W32 s.l).toArray, .agg (bvs p).toArray] w fun r w' => r = .returned (.agg (W32 (turn s p).l).toArray) ∧ Frm [] w w' := by
  obtain ⟨ws, hws⟩ : ∃ ws, wordsK p 64 = ws := ⟨_, rfl⟩
  have hwo := wordsOf_any p hp
  have hwl := wordsK_length p 64
  unfold turn
  rw [hws] at hwo hwl ⊢
  have HP := Lib.hid hp
  have HWO := Lib.hid hwo
  have HWL := Lib.hid hwl
  have HG := Lib.hid hG
  clear hp hG hws hwo hwl
  go_enter Tryd.func37, Tryd.ntmps37
  go_wp2_with fail
  have hS : IsW (((w.alloc (.cells (W32 s.l).toArray 57)).alloc (.cells (bvs p).toArray 59)).alloc (.cells #[.int .u32 0, .int .u32 0, .int .u32 0, .int .u32 0, .int .u32 0, .int .u32 0, .int .u32 0, .int .u32 0] 57)) w.heap.size 57 s.l := heap_alloc_lt (heap_alloc_lt (heap_alloc_new _ _))
  have hP : (((w.alloc (.cells (W32 s.l).toArray 57)).alloc (.cells (bvs p).toArray 59)).alloc (.cells #[.int .u32 0, .int .u32 0, .int .u32 0, .int .u32 0, .int .u32 0, .int .u32 0, .int .u32 0, .int .u32 0] 57)).heap[w.heap.size + 1]? = some (.cells (bvs p).toArray 59 (0, 0)) := heap_alloc_lt (heap_alloc_at (by simp))
  have hR : (((w.alloc (.cells (W32 s.l).toArray 57)).alloc (.cells (bvs p).toArray 59)).alloc (.cells #[.int .u32 0, .int .u32 0, .int .u32 0, .int .u32 0, .int .u32 0, .int .u32 0, .int .u32 0, .int .u32 0] 57)).heap[w.heap.size + 2]? = some (.cells #[.int .u32 0, .int .u32 0, .int .u32 0, .int .u32 0, .int .u32 0, .int .u32 0, .int .u32 0, .int .u32 0] 57 (0, 0)) := heap_alloc_at (by simp)
  have hF : Frm [] w (((w.alloc (.cells (W32 s.l).toArray 57)).alloc (.cells (bvs p).toArray 59)).alloc (.cells #[.int .u32 0, .int .u32 0, .int .u32 0, .int .u32 0, .int .u32 0, .int .u32 0, .int .u32 0, .int .u32 0] 57)) := (((Frm.refl _ _).alloc _).alloc _).alloc _
  generalize (((w.alloc (.cells (W32 s.l).toArray 57)).alloc (.cells (bvs p).toArray 59)).alloc (.cells #[.int .u32 0, .int .u32 0, .int .u32 0, .int .u32 0, .int .u32 0, .int .u32 0, .int .u32 0, .int .u32 0] 57)) = W at *
  have c0 := hS.cell 0 (by simp [S8.l])
  have c1 := hS.cell 1 (by simp [S8.l])
  have c2 := hS.cell 2 (by simp [S8.l])
  have c3 := hS.cell 3 (by simp [S8.l])
  have c4 := hS.cell 4 (by simp [S8.l])
  have c5 := hS.cell 5 (by simp [S8.l])
  have c6 := hS.cell 6 (by simp [S8.l])
  have c7 := hS.cell 7 (by simp [S8.l])
  simp only [S8.l, List.getElem_cons_zero, List.getElem_cons_succ] at c0 c1 c2 c3 c4 c5 c6 c7
  have HS := Lib.hid hS
  have HPP := Lib.hid hP
  have HRR := Lib.hid hR
  have HF := Lib.hid hF
  clear hS hP hR hF
  refine wp_region_still_lit (by kernel_rfl) (by kernel_rfl) ?_
  change wpStill _ _ (World.drew _) _ _ _
  repeat still_step
  refine wpStill_nil ?_
  change Exit.then _ _ _ _ (World.drew _)
  go_upto_region 2 with (fail)
  have hbs : (bvs p).toArray.size = 64 := by simp [bvs_length, HP.out]
  refine wp_region_lit ?_
  refine wpList_load_row rfl 59 (.tmp 3) rfl (w.heap.size + 1) rfl 59 (bvs p).toArray (0, 0) _ HPP.out d59 rfl (by rw [hbs]; exact i59) ?_
  clear hbs
  go_wp2_with fail
  refine (HWO.out _).mono ?_
  rintro r w1 ⟨rfl, f1⟩
  have hsz := HF.out.size
  have HS1 := Lib.hid (show IsW w1 w.heap.size 57 s.l from f1.heap HS.out (by simp))
  have HR1 := Lib.hid (f1.heap HRR.out (by simp))
  have HF1 := Lib.hid ((HF.out.drew).trans f1 (by simp))
  have HG1 := Lib.hid (HG.out.keep HF1.out (by simp))
  clear f1 hsz c0 c1 c2 c3 c4 c5 c6 c7
  go_wp2_with fail
  go_loopw [5, 6, 7, 8, 9, 10, 11, 12, 37] (TurnRel w1 s ws) (fun _ _ _ _ _ _ _ _ c _ => 64 - (intOf c).toNat)
  case atStart => exact ⟨0, by omega, rfl, s, rfl, rfl, rfl, rfl, rfl, rfl, rfl, rfl, rfl, Frm.refl _ _⟩
  case round =>
    obtain ⟨k, hk, rfl, x, hx, rfl, rfl, rfl, rfl, rfl, rfl, rfl, rfl, f2⟩ := hrel
    by_cases hlt : k < 64
    · have hidx := index61 ws k hlt HWL.out
      have hg := f2.cell (HG1.out k hlt) (by simp)
      have F2 := Lib.hid f2
      clear f2
      have hkt : at32 kTab k = at32 kTab k := rfl
      have hxs : s.run kTab ws (k + 1) = x.step (at32 kTab k) (at32 ws k) := by rw [hx]; rfl
      have HXS := Lib.hid hxs
      generalize at32 kTab k = kk at *
      generalize at32 ws k = ww at *
      obtain ⟨xa, xb, xc, xd, xe, xf, xg, xh⟩ := x
      simp only at *
      clear hx hxs hkt
      go_wp2_with fail
      refine wp_region_still_lit (by kernel_rfl) (by kernel_rfl) ?_
      change wpStill _ _ (World.drew _) _ _ _
      have hx1 := wi_xor
      have hx2 := wi_add
      have hx3 := wi_add'
      have hx4 := wi_and
      have hx5 := wi_unxor
      iterate 2 still_step
      still_call (Right_i xe 6 6 rfl (by decide) (by decide) _)
      still_step
      still_call (Right_i xe 11 11 rfl (by decide) (by decide) _)
      iterate 2 still_step
      still_call (Right_i xe 25 25 rfl (by decide) (by decide) _)
      repeat still_step
      refine wpStill_nil ?_
      change Exit.then _ _ _ _ (World.drew _)
      obtain ⟨tt, ht⟩ : ∃ tt, S8.T ⟨xa, xb, xc, xd, xe, xf, xg, xh⟩ kk ww = tt := ⟨_, rfl⟩
      have ht2 := ht
      simp only [S8.T] at ht2
      rw [ht2]
      have HT := Lib.hid ht
      clear ht ht2
      go_wp2_with (go_at_call 49; refine (Right_j _ _ (by decide) (by decide) _).mono ?_; rintro r w2 ⟨rfl, rfl⟩)
      refine ⟨⟨k + 1, by omega, by go_num, S8.step ⟨xa, xb, xc, xd, xe, xf, xg, xh⟩ kk ww, HXS.out.symm, by rw [← HT.out]; rfl, rfl, rfl, rfl, by rw [← HT.out]; rfl, rfl, rfl, rfl, F2.out.drew⟩, by simp [intOf]; omega⟩
    · obtain rfl : k = 64 := by omega
      have HXE := Lib.hid hx
      have F2 := Lib.hid f2
      have hs := HS1.out.keepF f2
      have hr := f2.heap HR1.out (by simp)
      have hf := HF1.out.trans f2 (by simp)
      have hsz := hf.size
      have hz := lt_heap hr
      obtain ⟨xa, xb, xc, xd, xe, xf, xg, xh⟩ := x
      simp only at *
      clear hx f2
      have HS2 := Lib.hid hs
      have HR2 := Lib.hid hr
      have HF2 := Lib.hid hf
      clear hs hr hf
      have HZ := Lib.hid hz
      have HZ2 := Lib.hid hsz
      clear hz hsz
      go_wp2_with fail
      obtain ⟨b17, hb17⟩ : ∃ b, wr.heap.size = b := ⟨_, rfl⟩
      have hz17 : w.heap.size + 2 < b17 := by have := HZ.out; omega
      have HZ17 := Lib.hid hz17
      have hadd := addK_all ⟨xa, xb, xc, xd, xe, xf, xg, xh⟩ s
      have HXL := Lib.hid (show (S8.l ⟨xa, xb, xc, xd, xe, xf, xg, xh⟩).length = 8 from rfl)
      have hst : AddRel w wr.heap.size (S8.l ⟨xa, xb, xc, xd, xe, xf, xg, xh⟩) s.l (.int .i64 0) (wr.alloc (.cells #[.int .u32 (wi xa), .int .u32 (wi xb), .int .u32 (wi xc), .int .u32 (wi xd), .int .u32 (wi xe), .int .u32 (wi xf), .int .u32 (wi xg), .int .u32 (wi xh)] 57)) :=
        ⟨0, by omega, rfl, heap_alloc_new _ _, heap_alloc_lt HS2.out, heap_alloc_lt HR2.out, HF2.out.alloc _⟩
      generalize hxl : S8.l ⟨xa, xb, xc, xd, xe, xf, xg, xh⟩ = xl at *
      have HADD := Lib.hid hadd
      have HSL := Lib.hid (show s.l.length = 8 from rfl)
      rw [hb17] at hst
      have HST := Lib.hid hst
      rw [hb17]
      clear hadd hst hxl hb17 hz17
      go_loopw [108] (AddRel w b17 xl s.l) (fun c _ => 8 - (intOf c).toNat)
      case atStart => exact HST.out
      case round =>
        obtain ⟨k, hk, rfl, h1, h2, h3, f3⟩ := hrel
        by_cases hlt : k < 8
        · have hl1 : k < (addK xl s.l k).length := by rw [addK_length, HXL.out]; exact hlt
          have hl2 : k < s.l.length := by rw [HSL.out]; exact hlt
          have c1 := h1.cell k hl1
          have c2 := h2.cell k hl2
          rw [at32_lt] at c1 c2
          have z1 := h1.frozen k
          have hv : IsW (wr.setCell ⟨b17, k, none⟩ (.int .u32 (wi (at32 (addK xl s.l k) k + at32 s.l k)))) b17 57 (addK xl s.l (k + 1)) := h1.store k (at32 (addK xl s.l k) k + at32 s.l k)
          generalize at32 (addK xl s.l k) k = y1 at *
          generalize at32 s.l k = y2 at *
          have HV := Lib.hid hv
          have H2 := Lib.hid h2
          have H3 := Lib.hid h3
          have F3 := Lib.hid f3
          clear hv h1 h2 h3 f3 hl1 hl2
          have hx2 := wi_add
          have hx3 := wi_add'
          go_wp2_with fail
          refine wp_region_still_tail 8 (by kernel_rfl) (by kernel_rfl) ?_
          change wpStill _ _ (World.drew _) _ _ _
          simp only [List.take_succ_cons, List.take_zero, List.drop_succ_cons, List.drop_zero]
          repeat still_step
          refine wpStill_nil ?_
          change wpList _ _ _ _ _ (World.drew _)
          go_wp2_with fail
          have hq := HZ17.out
          have hnew : AddRel w b17 xl s.l (.int .i64 ((k : Int) + 1)) (wr.setCell ⟨b17, k, none⟩ (.int .u32 (wi (y1 + y2)))).drew :=
            ⟨k + 1, by omega, by go_num, HV.out, H2.out.other _ _ (by simp <;> omega), (heap_setCell_ne _ (by simp <;> omega)).trans H3.out, (F3.out.setCell _ _ (.inr (by simp <;> omega))).drew⟩
          exact ⟨⟨_, _, _, _, _, _, _, _, _, _, _, _, _, hnew, rfl⟩, by simp [intOf]; omega⟩
        · obtain rfl : k = 8 := by omega
          rw [HADD.out] at h1
          have hout : S8.add ⟨xa, xb, xc, xd, xe, xf, xg, xh⟩ s = (s.run kTab ws 64).add s := by rw [HXE.out]
          rw [hout] at h1
          have hsz : ∀ x : S8, (W32 x.l).toArray.size = 8 := fun x => by simp [W32_length, S8.l]
          go_upto_region 15 with (fail)
          refine wp_region_lit ?_
          refine wpList_load_row rfl 57 (.tmp 17) rfl b17 rfl 57 (W32 ((s.run kTab ws 64).add s).l).toArray (0, 0) _ h1 d57 rfl (by rw [hsz]; exact i57) ?_
          refine wpList_store_row rfl 57 (.tmp 4) (.tmp 120) rfl (w.heap.size + 2) (W32 ((s.run kTab ws 64).add s).l).toArray rfl rfl 57 _ h3 (by rw [hsz]; exact i57) (by rw [hsz]; rfl) (W32_one _) ?_
          have hres := setRow_heap wr (w.heap.size + 2) _ (W32 ((s.run kTab ws 64).add s).l).toArray 57 (0, 0) h3
          have hfr : Frm [] w (wr.setRow (w.heap.size + 2) (W32 ((s.run kTab ws 64).add s).l).toArray) := f3.setRow _ _ (.inr (by omega))
          have HRES := Lib.hid hres
          have HFR := Lib.hid hfr
          have HSZ := Lib.hid hsz
          clear hres hfr h1 h2 h3 f3 hsz hout
          generalize (wr.setRow (w.heap.size + 2) (W32 ((s.run kTab ws 64).add s).l).toArray) = w9 at *
          go_wp2_with fail
          refine bodyPost_ret (v := .agg (W32 ((s.run kTab ws 64).add s).l).toArray) (results_cell_row rfl _ _ _ 57 _ (0, 0) _ rfl HRES.out d57 rfl (by rw [HSZ.out]; exact i57)) rfl ⟨rfl, HFR.out⟩
end Go.Proofs.YtopjbiccipgnjaaDoor
