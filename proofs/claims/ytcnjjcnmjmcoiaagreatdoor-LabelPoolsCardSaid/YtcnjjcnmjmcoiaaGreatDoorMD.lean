/-
  The walk of LabelMost. No conditions but those that each theorem names.
-/
import Derived.Test.YtcnjjcnmjmcoiaaGreatDoorMC
import Derived.Test.YtcnjjcnmjmcoiaaGreatDoorLT
import Derived.Test.YtcnjjcnmjmcoiaaGreatDoorRL
namespace Go.Proofs.YtcnjjcnmjmcoiaaGreatDoor
open Go.RowKit Go.Maps
set_option linter.unusedVariables false
set_option linter.unusedSimpArgs false
set_option maxRecDepth 100000

open Kr (OwnE SlE Enco RowTys)
def eBo (x : Bool) : List Value := [.bool x]
theorem encBo : Enco eBo 1 where
  len x := rfl
  one x u hu := by simp [eBo] at hu; subst hu; rfl
  pos := by omega
  inj x y h := by simpa [eBo] using h
theorem Pick_any (n : Int) (k : Nat) (hk : 1 ≤ k) (hk2 : k ≤ 1000000) (hn : InI n) (w : World) :
    Calls Tryz.prog 21 #[.int .i64 n, .int .i64 (k : Int)] w fun r w' => ∃ j : Nat, j < k ∧ r = .returned (.int .i64 (j : Int)) ∧ Frm [] w w' := by
  have h1 : -(k : Int) < n.tmod k := by
    rcases Int.le_total 0 n with h | h
    · have := Int.tmod_nonneg (k : Int) h; omega
    · have h3 := Int.tmod_nonneg (k : Int) (a := -n) (by omega)
      have h4 := Int.tmod_lt_of_pos (-n) (b := (k : Int)) (by omega)
      rw [Int.neg_tmod] at h3 h4
      omega
  have h2 : n.tmod k < (k : Int) := Int.tmod_lt_of_pos n (by omega)
  have hk9 : (k : Int) ≤ 1000000 := by omega
  have hk1 : (1 : Int) ≤ (k : Int) := by omega
  have hk0 : ((k : Int) == 0) = false := by simp; omega
  have hw : IntKind.i64.wrap (n.tmod k) = n.tmod k := IntWalk.i64_in _ (by omega)
  generalize hm : n.tmod k = m at *
  go_enter Tryz.func21, Tryz.ntmps21
  by_cases hneg : m < 0
  · go_wp2_with fail
    go_ret
    refine ⟨(m + k).toNat, by omega, ?_, ?_⟩
    · rw [Int.toNat_of_nonneg (by omega)]; rfl
    · exact Frm.refl _ _
  · go_wp2_with fail
    go_ret
    refine ⟨m.toNat, by omega, ?_, ?_⟩
    · rw [Int.toNat_of_nonneg (by omega)]; rfl
    · exact Frm.refl _ _
/-- A slice of labels that a call has made since a world, as it goes on. -/
def Mk (w0 : World) (v : Value) (ls : List LabT) (w : World) : Prop := ∃ a cap sp, v = .slice a ls.length cap ∧ OwnE eL 37 28 w v ls sp ∧ (∀ i ∈ blk v, w0.heap.size ≤ i) ∧ Frm [] w0 w
theorem Mk.keep {w0 w w' : World} {v : Value} {ls : List LabT} {L : List Nat} (h : Mk w0 v ls w) (f : Frm L w w') (hL : ∀ i ∈ blk v, i ∉ L) (f0 : Frm [] w0 w') : Mk w0 v ls w' := by
  obtain ⟨a, cap, sp, hv, ho, hb, _⟩ := h
  exact ⟨a, cap, sp, hv, ho.keep f hL, hb, f0⟩
theorem Mk.frm {w0 w : World} {v : Value} {ls : List LabT} (h : Mk w0 v ls w) : Frm [] w0 w := by
  obtain ⟨_, _, _, _, _, _, hf⟩ := h
  exact hf
theorem Mk.lt {w0 w : World} {v : Value} {ls : List LabT} (h : Mk w0 v ls w) : ∀ i ∈ blk v, i < w.heap.size := by
  obtain ⟨_, _, _, _, ho, _, _⟩ := h
  exact ho.lt
theorem Mk.sl {w0 w : World} {v : Value} {ls : List LabT} (h : Mk w0 v ls w) : ∃ sp, SlE eL 37 w v ls sp := by
  obtain ⟨_, _, sp, _, ho, _, _⟩ := h
  exact ⟨sp, ho.sl⟩
theorem Mk.nil (w : World) : Mk w (.slice none 0 0) [] w := ⟨none, 0, [], rfl, OwnE.nil _ _ _ _, by simp [blk], Frm.refl _ _⟩
/-- One label more. -/
theorem wpList_more {ops : Array Oper} {rest : List Oper} {o1 o2 : Oper} {a : Act} {Q : Exit → Act → World → Prop} {w0 w : World} {v : Value} {ls : List LabT} {x : LabT} (h : Mk w0 v ls w) (hb : ls.length ≤ 1000000)
    (g1 : o1.guard = none) (g2 : o2.guard = none) (p s y : Operand) (d : Nat) (hd : o1.dst = some d) (h1 : o1.op = .buildSlice 34 1 #[(0, p)]) (h2 : o2.op = Op.call { callee := Callee.builtin Builtin.append, args := #[s, y], argTypes := #[34, 34] })
    (ep : a.eval p = lv x.1) (es : (a.put (some d) (.slice (some ⟨w.heap.size, 0, none⟩) 1 1)).eval s = v) (ey : (a.put (some d) (.slice (some ⟨w.heap.size, 0, none⟩) 1 1)).eval y = .slice (some ⟨w.heap.size, 0, none⟩) 1 1)
    (kk : ∀ a' cap' w', Mk w0 (.slice a' (ls.length + 1) cap') (ls ++ [x]) w' → Frm (blk v) w w' → (∀ i ∈ blk (.slice a' (ls.length + 1) cap'), i ∈ blk v ∨ w.heap.size ≤ i) → wpList Tryz.prog ops Q rest ((a.put (some d) (.slice (some ⟨w.heap.size, 0, none⟩) 1 1)).put o2.dst (.slice a' (ls.length + 1) cap')) w') :
    wpList Tryz.prog ops Q (o1 :: o2 :: rest) a w := by
  obtain ⟨av, cv, spv, rfl, ho, hbl, hf⟩ := h
  refine Great.wpList_buildSliceTo g1 34 28 1 #[(0, p)] h1 w.heap.size rfl (some d) hd Tryz.underlying34 (lc x.1).toArray (by simp only [List.map_toArray, List.map_cons, List.map_nil, ep]; exact built28 x.2) ?_
  have f1 : Frm [] w (w.alloc (.cells (lc x.1).toArray 28)) := (Frm.refl [] w).alloc _
  have hS : SlE eL 37 (w.alloc (.cells (lc x.1).toArray 28)) (.slice (some ⟨w.heap.size, 0, none⟩) 1 1) [x] [] := SlE.of_block (T := 28) encL (by rw [Kr.flt_one]; exact heap_alloc_new _ _) rfl (by decide)
  refine Kr.wpList_append_e encL tysL (ho.keep0 f1) hS (by simp; omega) (by decide) g2 s y h2 es ey ?_
  intro a2 cap2 w2 sp2 o2 f2 n2
  have f12 : Frm (blk (.slice av ls.length cv)) w w2 := (f1.mono (by simp)).trans f2 (fun i hi => .inl hi)
  have n3 : ∀ i ∈ blk (.slice a2 (ls.length + 1) cap2), i ∈ blk (.slice av ls.length cv) ∨ w.heap.size ≤ i := fun i hi => by
    rcases n2 i hi with h | h
    · exact .inl h
    · simp at h; exact .inr (by omega)
  exact kk a2 cap2 w2 ⟨a2, cap2, sp2, by simp, o2, fun i hi => by
    rcases n3 i hi with h | h
    · exact hbl i h
    · have := hf.size; omega, hf.trans f12 (fun i hi => .inr (hbl i hi))⟩ f12 n3
/-- A byte with its lowest bit turned. -/
def x1 (b : UInt8) : UInt8 := b ^^^ 1
theorem x1_val (b : UInt8) : bits .xor .u8 (b.toNat : Int) 1 = ((x1 b).toNat : Int) := by
  have : ∀ b : Fin 256, bits .xor .u8 (b.val : Int) 1 = ((x1 (UInt8.ofNat b.val)).toNat : Int) := by decide +kernel
  simpa using this ⟨b.toNat, b.toNat_lt⟩
theorem LB.setB0 {w : World} {g : Nat} {l : Lab} (h : LB w g l) (c : UInt8) : LB (w.setCell ⟨g, 0, none⟩ (bv c)) g { l with pool := l.pool.set 0 c } := by
  have hb : 0 < (bvs l.pool).length := by rw [bvs_length, h.2]; decide
  refine ⟨?_, by simp [h.2]⟩
  rw [heap_setCell_same _ h.1, List.setIfInBounds_toArray, lc, List.set_append_left _ _ hb]
  simp [lc, bvs, List.map_set]
theorem Pool_half {w : World} {v : Value} {os all : List LabT} {x : LabT} {n : Nat} {sp : List Value} (h : mayB x.1 = true) (hn : os.length < n) (hp : all.Perm (os ++ List.replicate n x)) (hS : SlE eL 37 w v all sp) (hl : all.length ≤ 1000000) :
    Calls Tryz.prog 13 #[v] w fun r w' => r = .returned (.tuple #[idv x.1.pool, .bool true]) ∧ Frm [] w w' := by
  refine (Pool_any v all sp w hS hl).mono ?_
  rintro r w' ⟨p, hp2, rfl, f⟩
  rw [PoolR.half h hn hp hp2]
  exact ⟨rfl, f⟩
theorem eqOf26 (l : List UInt8) (hl : l.length = 32) (W : World) : (binOp .eql 26 (idv l) (idv l)).run Tryz.prog W = .ok (.bool true) W := by
  have h := Hs.eql29 l l hl hl W
  rw [beq_self_eq_true] at h
  exact h
theorem wpList_eq26 {ops : Array Oper} {rest : List Oper} {op : Oper} {a : Act} {w : World} {Q : Exit → Act → World → Prop} (hw : Region.wanted op (yielded ops a.tmps) = true) (x y : Operand) (ho : op.op = .binOp .eql 26 x y 26) {s t : List UInt8} {v : Value}
    (hx : a.eval x = idv s) (hy : a.eval y = idv t) (hl : (binOp .eql 26 (idv s) (idv t)).run Tryz.prog w = .ok v w) (h : wpList Tryz.prog ops Q rest (a.put op.dst v) w) : wpList Tryz.prog ops Q (op :: rest) a w :=
  wpList_step fun K hK => by
    have he : (execOp a.eval op).run Tryz.prog w = .ok (.value v) w := by
      have hg := agg_guard .eql x y s t w
      simp [execOp, ho, hx, hy, hl, hg, Result.andThen]
    rw [if_pos hw]
    unfold Oper.wp
    rw [he]
    exact hK _ _ h
theorem PoolR.len {S : List IdT} {r : List UInt8 × Bool} (h : PoolR S r) : r.1.length = 32 := by
  rcases h with ⟨_, rfl⟩ | ⟨x, _, rfl, _⟩
  · rfl
  · exact x.2
/-- Pool where two may not be and one may. -/
theorem Pool_bad {w : World} {g : Nat} {b x : LabT} (hb : mayB b.1 = false) (h : mayB x.1 = true) (hg : w.heap[g]? = some (.cells (lc b.1 ++ (lc b.1 ++ lc x.1)).toArray 28 (0, 0))) :
    Calls Tryz.prog 13 #[.slice (some ⟨g, 0, none⟩) 3 3] w fun r w' => r = .returned (.tuple #[idv x.1.pool, .bool true]) ∧ Frm [] w w' := by
  have hS : SlE eL 37 w (.slice (some ⟨g, 0, none⟩) 3 3) [b, b, x] [] := SlE.of_block (T := 28) encL (by rw [Kr.flt_cons, Kr.flt_cons, Kr.flt_one]; exact hg) rfl (by decide)
  refine (Pool_any _ _ _ w hS (by simp)).mono ?_
  rintro r w' ⟨p, hp2, rfl, f⟩
  rw [PoolR.bad hb h hp2]
  exact ⟨rfl, f⟩
set_option maxHeartbeats 4000000 in
theorem most_law (n : Int) (l : Lab) (v vb : Value) (os : List LabT) (sp : List Value) (bs : List Bool) (sp2 : List Value) {w : World} (hn : InI n) (hw : WfL l) (hS : SlE eL 37 w v os sp) (hB : SlE eBo 1 w vb bs sp2) (hG : Hs.Glob w) :
    Calls Tryz.prog 7 #[.int .i64 n, lv l, v, vb] w (Yes w) := by
  obtain ⟨a0, c0, rfl, hc1, hc2⟩ := hS.form
  obtain ⟨a1, c1, rfl, hd1, hd2⟩ := hB.form
  have hpl := hw.pool
  have f0 : Frm [] w (w.alloc (.cells (lc l).toArray 28)) := (Frm.refl [] w).alloc _
  have BL := Lib.hid (LB.new w hpl)
  have F0 := Lib.hid f0
  have HA := Lib.hid (awake_any _ (hG.keep f0 (by simp)))
  have HS := Lib.hid (hS.keep0 f0)
  have HB := Lib.hid (hB.keep0 f0)
  have HP := Lib.hid (fun W => Pick_any n 10 (by decide) (by decide) hn W)
  have HC := Lib.hid (Check_any l hpl)
  have hlv : lv l = .agg (lc l).toArray := rfl
  have HW := Lib.hid hw
  have HCC := Lib.hid (And.intro hc1 (And.intro hc2 (And.intro hd1 hd2)))
  clear hS hB f0 hG hn hw hc1 hc2 hd1 hd2
  rw [hlv]
  go_enter Tryz.func7, Tryz.ntmps7
  go_upto_region 1 with fail
  generalize w.alloc (.cells (lc l).toArray 28) = W0 at *
  obtain ⟨L, hL⟩ : ∃ L, w.heap.size = L := ⟨_, rfl⟩
  rw [hL] at BL ⊢
  have HL := Lib.hid hL
  clear hL
  go_upto_region 3 with (first
    | (go_at_call 8; refine HA.out.mono ?_; rintro r w1 ⟨rfl, f1⟩)
    | (go_at_call 21; refine (HP.out _).mono ?_; rintro r w2 ⟨k, hk, rfl, f2⟩))
  have F2 := Lib.hid ((F0.out.trans f1 (by simp)).trans f2 (by simp))
  have BL2 := Lib.hid (BL.out.keep (f1.trans f2 (by simp)) (by simp))
  have HS2 := Lib.hid (HS.out.keep0 (f1.trans f2 (by simp)))
  have HB2 := Lib.hid (HB.out.keep0 (f1.trans f2 (by simp)))
  have hC := HC.out w2
  clear f1 f2 F0 BL HS HB HA HP HC
  have hol : os.length ≤ 9223372036854775807 := by have := HCC.out.1; have := HCC.out.2.1; simp only [maxLen] at this; omega
  cases hmb : mayB l with
  | false =>
    rw [show mayE l = 2 by simp [mayE, hmb]] at hC
    have HC := Lib.hid hC
    clear hC hmb
    go_wp2_with (first
      | ((with_reducible (show wpList _ _ _ (Oper.mk _ (Op.load 28 _) _ _ _ _ :: _) _ _)); refine wpList_val (v := lv l) (w' := w2) rfl (by exact exec_loadL (x := .tmp 5) (off := 0) rfl hpl rfl (fun j u hu => by rw [Nat.zero_add, cell_of_heap BL2.out.at']; simpa using hu)) ?_)
      | (go_at_call 18; refine HC.out.mono ?_; rintro r w3 ⟨rfl, f3⟩))
    go_ret
    exact ⟨rfl, F2.out.trans f3 (by simp)⟩
  | true =>
    rw [show mayE l = 0 by simp [mayE, hmb]] at hC
    have HC := Lib.hid hC
    clear hC
    by_cases hlen : k + 1 ≤ os.length
    · have hd : decide ((1 : Int) + (k : Int) ≤ (os.length : Int)) = true := by simp; omega
      go_wp2_with (first
        | ((with_reducible (show wpList _ _ _ (Oper.mk _ (Op.load 28 _) _ _ _ _ :: _) _ _)); refine wpList_val (v := lv l) (w' := w2) rfl (by exact exec_loadL (x := .tmp 5) (off := 0) rfl hpl rfl (fun j u hu => by rw [Nat.zero_add, cell_of_heap BL2.out.at']; simpa using hu)) ?_)
        | (go_at_call 18; refine HC.out.mono ?_; rintro r w3 ⟨rfl, f3⟩))
      go_ret
      exact ⟨rfl, F2.out.trans f3 (by simp)⟩
    · have hd : decide ((1 : Int) + (k : Int) ≤ (os.length : Int)) = false := by simp; omega
      go_upto_region 5 with (first
        | ((with_reducible (show wpList _ _ _ (Oper.mk _ (Op.load 28 _) _ _ _ _ :: _) _ _)); refine wpList_val (v := lv l) (w' := w2) rfl (by exact exec_loadL (x := .tmp 5) (off := 0) rfl hpl rfl (fun j u hu => by rw [Nat.zero_add, cell_of_heap BL2.out.at']; simpa using hu)) ?_)
        | (go_at_call 18; refine HC.out.mono ?_; rintro r w3 ⟨rfl, f3⟩))
      have F3 := Lib.hid (F2.out.trans f3 (by simp))
      have BL3 := Lib.hid (BL2.out.keep f3 (by simp))
      have HS3 := Lib.hid (HS2.out.keep0 f3)
      have HB3 := Lib.hid (HB2.out.keep0 f3)
      clear f3 F2 BL2 HS2 HB2 HC hd
      have o0 : OwnE eL 37 28 (w3.alloc (.cells #[] 28)) (.slice (some ⟨w3.heap.size, 0, none⟩) 0 0) [] [] := OwnE.of_heap encL (heap_alloc_new _ _) rfl (by simp) (by simp) (by simp)
      have f0 : Frm [] w3 (w3.alloc (.cells #[] 28)) := (Frm.refl _ _).alloc _
      have hol2 : os.length ≤ 9 := by omega
      go_upto_region 6 with (at_builtin; refine Kr.wpList_append_e encL tysL o0 (HS3.out.keep0 f0) (by simp; omega) (by decide) rfl (.tmp 42) (.tmp 43) rfl rfl rfl ?_; intro a4 cap4 w4 sp4 o4 f4 b4)
      have M4 : Mk w3 (.slice a4 (os.length + 0) cap4) (os ++ List.replicate 0 ⟨l, hpl⟩) w4 := ⟨a4, cap4, sp4, by simp, by simpa using o4, fun i hi => by
        rcases b4 i (by simpa using hi) with h | h
        · simp [blk] at h; omega
        · simp at h; omega, f0.trans f4 (by simp [blk])⟩
      have HM4 := Lib.hid M4
      clear o0 f0 o4 f4 b4 M4
      go_wp2_with fail
      have hk2 : k ≤ 9 := by omega
      go_loopw [11, 10] (fun c d wr => ∃ i : Nat, c = .int .i64 i ∧ i ≤ k + 1 ∧ Mk w3 d (os ++ List.replicate i ⟨l, hpl⟩) wr) (fun c _ _ => k + 1 - (intOf c).toNat)
      case atStart => exact ⟨0, rfl, by omega, HM4.out⟩
      case round =>
        obtain ⟨i, rfl, hi, hM⟩ := hrel
        by_cases hlt : i < k + 1
        · have hd : decide ((i : Int) < (1 + (k : Int))) = true := by simp; omega
          have hMl : (os ++ List.replicate i (⟨l, hpl⟩ : LabT)).length ≤ 1000000 := by simp; omega
          have BLr := Lib.hid (BL3.out.keep (show Frm [] w3 wr by obtain ⟨_, _, _, _, _, _, hf⟩ := hM; exact hf) (by simp))
          obtain ⟨av, cv, spv, rfl, hrest⟩ := id hM
          have HM := Lib.hid hM
          clear hM hrest
          go_wp2_with (first
            | ((with_reducible (show wpList _ _ _ (Oper.mk _ (Op.load 28 _) _ _ _ _ :: _) _ _)); refine wpList_val (v := lv l) (w' := wr) rfl (by exact exec_loadL (x := .tmp 5) (off := 0) rfl hpl rfl (fun j u hu => by rw [Nat.zero_add, cell_of_heap BLr.out.at']; simpa using hu)) ?_)
            | ((with_reducible (show wpList _ _ _ (Oper.mk _ (Op.buildSlice _ _ _) _ _ _ _ :: _) _ _)); refine wpList_more (x := ⟨l, hpl⟩) HM.out hMl rfl rfl (.tmp 51) (.tmp 50) (.tmp 52) 52 rfl rfl rfl rfl rfl rfl ?_; intro a5 cap5 w5 m5 f5 n5; have HM5 := Lib.hid m5; clear m5 f5 n5))
          go_roundw
          case rel =>
            refine ⟨i + 1, by simp, by omega, ?_⟩
            rw [List.replicate_succ', ← List.append_assoc]
            have hm5 := HM5.out
            simp only [List.length_append, List.length_replicate] at hm5
            exact hm5
          case measure => simp [intOf]; omega
        · obtain rfl : i = k + 1 := by omega
          have hd : decide (((k + 1 : Nat) : Int) < (1 + (k : Int))) = false := by simp; omega
          generalize hall : os ++ List.replicate (k + 1) (⟨l, hpl⟩ : LabT) = all at *
          have HALL := Lib.hid hall
          have hal : all.length ≤ 19 := by rw [← hall]; simp; omega
          obtain ⟨av, cv, spv, rfl, hrest⟩ := id hM
          have HM := Lib.hid hM
          clear hM hrest hall HM4
          generalize wr = wA at *
          have HWA := Lib.hid HM.out.frm
          obtain ⟨spA, hA⟩ := HM.out.sl
          have HSA := Lib.hid hA
          have HBA := Lib.hid (HB3.out.keep0 HWA.out)
          clear hA
          go_upto_region 12 with fail
          go_loopw [14, 12, 13] (fun c d e w9 => ∃ (i : Nat) (ls ms : List LabT), c = .int .i64 i ∧ i ≤ all.length ∧ Mk wA d ls w9 ∧ Mk wA e ms w9 ∧ (∀ q ∈ blk d, q ∉ blk e) ∧ (ls ++ ms).Perm (all.take i)) (fun c _ _ _ => all.length - (intOf c).toNat)
          case atStart => exact ⟨0, [], [], rfl, by omega, Mk.nil _, Mk.nil _, by simp [blk], by simp⟩
          case round =>
            obtain ⟨i, ls, ms, rfl, hi2, hF, hE, hdj, hpm⟩ := hrel
            by_cases hlt2 : i < all.length
            · have hd2 : decide ((i : Int) < (all.length : Int)) = true := by simp; omega
              obtain ⟨gA, oA, rfl⟩ := SlE.at (enc := eL) (k := 37) HSA.out (by omega)
              obtain ⟨x, hx⟩ : ∃ x, all[i] = x := ⟨_, rfl⟩
              have hSr := HSA.out.keep0 hF.frm
              have hBr := HBA.out.keep0 hF.frm
              have HCE := Lib.hid (show ∀ j u, (lc x.1)[j]? = some u → wr.cell? ⟨gA, oA + i * 37 + j, none⟩ = some u from fun j u hu => by
                have := hSr.cell encL i hlt2 j (u := u) (by rw [hx]; exact hu)
                rw [Nat.add_assoc]; exact this)
              have hxl := x.2
              have hpl2 : ls.length + ms.length = i := by
                have := hpm.length_eq
                rw [List.length_append, List.length_take] at this
                omega
              have lsl : ls.length ≤ 1000000 := by omega
              have msl : ms.length ≤ 1000000 := by omega
              obtain ⟨af, cf, spf, rfl, hrestf⟩ := id hF
              obtain ⟨ae, ce, spe, rfl, hreste⟩ := id hE
              have HF := Lib.hid hF
              have HE := Lib.hid hE
              have HDJ := Lib.hid hdj
              have HPM := Lib.hid hpm
              have HX := Lib.hid hx
              clear hF hE hdj hpm hrestf hreste hSr hx
              by_cases hb : i < bs.length
              · have hd3 : decide ((i : Int) < (bs.length : Int)) = true := by simp; omega
                obtain ⟨gB, oB, rfl⟩ := SlE.at (enc := eBo) (k := 1) HBA.out (by omega)
                have hcb : wr.cell? ⟨gB, oB + i, none⟩ = some (.bool bs[i]) := by
                  have := hBr.cell encBo i hb 0 (u := .bool bs[i]) rfl
                  simpa using this
                clear hBr
                cases hbi : bs[i] with
                | true =>
                  rw [hbi] at hcb
                  go_wp2_with (first
                    | ((with_reducible (show wpList _ _ _ (Oper.mk _ (Op.load 28 _) _ _ _ _ :: _) _ _)); refine wpList_val (v := lv x.1) (w' := wr) rfl (by exact exec_loadL (x := .tmp 73) rfl hxl rfl HCE.out) ?_)
                    | ((with_reducible (show wpList _ _ _ (Oper.mk _ (Op.buildSlice _ _ _) _ _ _ _ :: _) _ _)); refine wpList_more (x := x) HF.out lsl rfl rfl (.tmp 74) (.tmp 70) (.tmp 75) 75 rfl rfl rfl rfl rfl rfl ?_; intro a6 cap6 w6 m6 f6 n6; have HM6 := Lib.hid m6; have FN6 := Lib.hid (And.intro f6 n6); clear m6 f6 n6))
                  go_roundw
                  case rel =>
                    obtain ⟨f6, n6⟩ := FN6.out
                    (repeat apply Exists.intro)
                    refine ⟨?_, rfl⟩
                    refine ⟨i + 1, ls ++ [x], ms, by simp, by omega, HM6.out, HE.out.keep f6 (fun q hq hq2 => HDJ.out q hq2 hq) HM6.out.frm, fun q hq hq2 => ?_, ?_⟩
                    · rcases n6 q hq with h | h
                      · exact HDJ.out q h hq2
                      · have := HE.out.lt q hq2; omega
                    · rw [← List.take_append_getElem hlt2, HX.out, List.append_assoc]
                      exact (List.Perm.append_left ls (List.perm_append_comm)).trans (by rw [← List.append_assoc]; exact HPM.out.append_right [x])
                  case measure => simp [intOf]; omega
                | false =>
                  rw [hbi] at hcb
                  go_wp2_with (first
                    | ((with_reducible (show wpList _ _ _ (Oper.mk _ (Op.load 28 _) _ _ _ _ :: _) _ _)); refine wpList_val (v := lv x.1) (w' := wr) rfl (by exact exec_loadL (x := .tmp 80) rfl hxl rfl HCE.out) ?_)
                    | ((with_reducible (show wpList _ _ _ (Oper.mk _ (Op.buildSlice _ _ _) _ _ _ _ :: _) _ _)); refine wpList_more (x := x) HE.out msl rfl rfl (.tmp 81) (.tmp 77) (.tmp 82) 82 rfl rfl rfl rfl rfl rfl ?_; intro a6 cap6 w6 m6 f6 n6; have HM6 := Lib.hid m6; have FN6 := Lib.hid (And.intro f6 n6); clear m6 f6 n6))
                  go_roundw
                  case rel =>
                    obtain ⟨f6, n6⟩ := FN6.out
                    (repeat apply Exists.intro)
                    refine ⟨?_, rfl⟩
                    refine ⟨i + 1, ls, ms ++ [x], by simp, by omega, HF.out.keep f6 (fun q hq hq2 => HDJ.out q hq hq2) HM6.out.frm, HM6.out, fun q hq hq2 => ?_, ?_⟩
                    · rcases n6 q hq2 with h | h
                      · exact HDJ.out q hq h
                      · have := HF.out.lt q hq; omega
                    · rw [← List.take_append_getElem hlt2, HX.out, ← List.append_assoc]
                      exact HPM.out.append_right [x]
                  case measure => simp [intOf]; omega
              · have hd3 : decide ((i : Int) < (bs.length : Int)) = false := by simp; omega
                clear hBr
                go_wp2_with (first
                  | ((with_reducible (show wpList _ _ _ (Oper.mk _ (Op.load 28 _) _ _ _ _ :: _) _ _)); refine wpList_val (v := lv x.1) (w' := wr) rfl (by exact exec_loadL (x := .tmp 80) rfl hxl rfl HCE.out) ?_)
                  | ((with_reducible (show wpList _ _ _ (Oper.mk _ (Op.buildSlice _ _ _) _ _ _ _ :: _) _ _)); refine wpList_more (x := x) HE.out msl rfl rfl (.tmp 81) (.tmp 77) (.tmp 82) 82 rfl rfl rfl rfl rfl rfl ?_; intro a6 cap6 w6 m6 f6 n6; have HM6 := Lib.hid m6; have FN6 := Lib.hid (And.intro f6 n6); clear m6 f6 n6))
                go_roundw
                case rel =>
                  obtain ⟨f6, n6⟩ := FN6.out
                  (repeat apply Exists.intro)
                  refine ⟨?_, rfl⟩
                  refine ⟨i + 1, ls, ms ++ [x], by simp, by omega, HF.out.keep f6 (fun q hq hq2 => HDJ.out q hq hq2) HM6.out.frm, HM6.out, fun q hq hq2 => ?_, ?_⟩
                  · rcases n6 q hq2 with h | h
                    · exact HDJ.out q hq h
                    · have := HF.out.lt q hq; omega
                  · rw [← List.take_append_getElem hlt2, HX.out, ← List.append_assoc]
                    exact HPM.out.append_right [x]
                case measure => simp [intOf]; omega
            · obtain rfl : i = all.length := by omega
              have hd2 : decide ((all.length : Int) < (all.length : Int)) = false := by simp
              rw [List.take_length] at hpm
              have hosk : os.length < k + 1 := by omega
              have hpa := Pool_half hmb hosk (by rw [HALL.out]) (HSA.out.keep0 hF.frm) (by omega)
              have HPA := Lib.hid hpa
              have HOSK := Lib.hid hosk
              have HMB := Lib.hid hmb
              obtain ⟨af, cf, spf, rfl, hof, hbf, hff⟩ := id hF
              obtain ⟨ae, ce, spe, rfl, hoe, hbe, hfe⟩ := id hE
              have HOF := Lib.hid hof
              have HOE := Lib.hid hoe
              have HBF := Lib.hid hbf
              have HFF := Lib.hid (HWA.out.trans hff (by simp))
              have HPM := Lib.hid hpm
              have HLEN := Lib.hid hpm.length_eq
              clear hF hE hdj hpm hof hbf hff hoe hbe hfe hosk hpa hmb HM
              go_upto_region 18 with (first
                | (go_at_call 13; refine HPA.out.mono ?_; rintro r w6 ⟨rfl, f6⟩)
                | ((with_reducible (show wpList _ _ _ (Oper.mk _ (Op.alloc 26) _ _ _ _ :: _) _ _)); refine wpList_lay26 rfl rfl rfl _ _ rfl (s := l.pool) hpl rfl rfl ?_))
              have fA : Frm [] w6 (w6.alloc (.cells (bvs l.pool).toArray 26)) := (Frm.refl [] w6).alloc _
              have I15 := Lib.hid (heap_alloc_new w6 (.cells (bvs l.pool).toArray 26))
              have f7 := f6.trans fA (by simp)
              have HOF7 := Lib.hid (HOF.out.keep0 f7)
              have HOE7 := Lib.hid (HOE.out.keep0 f7)
              have HF7 := Lib.hid (HFF.out.trans f7 (by simp))
              have HSZ7 := Lib.hid (Nat.le_trans HFF.out.size f7.size)
              have ZA := Lib.hid HWA.out.size
              have HLT := Lib.hid (show ∀ i ∈ blk (.slice af ls.length cf), i < w6.heap.size from fun i hi => Nat.lt_of_lt_of_le (HOF.out.lt i hi) f6.size)
              clear f6 fA f7 HPA HOF HOE HFF HSA HBA
              generalize w6.alloc (.cells (bvs l.pool).toArray 26) = w7 at *
              obtain ⟨g15, hg15⟩ : ∃ g, w6.heap.size = g := ⟨_, rfl⟩
              rw [hg15] at I15 HLT ⊢
              clear hg15
              have hlsms : ls.length + ms.length ≤ 19 := by have := HLEN.out; simp at this; omega
              go_upto_region 19 with (first
                | (at_builtin; refine Kr.wpList_append_e encL tysL HOF7.out HOE7.out.sl (by omega) (by decide) rfl (.tmp 90) (.tmp 91) rfl rfl rfl ?_; intro a8 cap8 w8 sp8 o8 f8 n8; have HPB := Lib.hid (Pool_half (x := ⟨l, hpl⟩) HMB.out HOSK.out (HPM.out.trans (by rw [HALL.out])) o8.sl (by simp; omega)))
                | (go_at_call 13; (try simp only [List.length_append] at HPB); refine HPB.out.mono ?_; rintro r w9 ⟨rfl, f9⟩)
                | ((with_reducible (show wpList _ _ _ (Oper.mk _ (Op.alloc 26) _ _ _ _ :: _) _ _)); refine wpList_lay26 rfl rfl rfl _ _ rfl (s := l.pool) hpl rfl rfl ?_))
              have fB : Frm [] w9 (w9.alloc (.cells (bvs l.pool).toArray 26)) := (Frm.refl [] w9).alloc _
              have I17 := Lib.hid (heap_alloc_new w9 (.cells (bvs l.pool).toArray 26))
              have HF10 := Lib.hid (((HF7.out.trans f8 (fun i hi => .inr (Nat.le_trans ZA.out (HBF.out i hi)))).trans f9 (by simp)).trans fB (by simp))
              have J15 := Lib.hid (fB.heap (f9.heap (f8.heap I15.out (fun hm => Nat.lt_irrefl _ (HLT.out _ hm))) (by simp)) (by simp))
              clear f8 n8 f9 fB HOF7 HOE7 HF7 I15 HSZ7 HPB
              generalize w9.alloc (.cells (bvs l.pool).toArray 26) = w10 at *
              obtain ⟨g17, hg17⟩ : ∃ g, w9.heap.size = g := ⟨_, rfl⟩
              rw [hg17] at I17 ⊢
              clear hg17
              have BL10 := Lib.hid (BL3.out.keep0 HF10.out)
              go_upto_region 20 with (first
                | ((with_reducible (show wpList _ _ _ (Oper.mk _ (Op.load 28 _) _ _ _ _ :: _) _ _)); refine wpList_val (v := lv l) (w' := w10) rfl (by exact exec_loadL (x := .tmp 5) (off := 0) rfl hpl rfl (fun j u hu => by rw [Nat.zero_add, cell_of_heap BL10.out.at']; simpa using hu)) ?_)
                | ((with_reducible (show wpList _ _ _ (Oper.mk _ (Op.alloc 28) _ _ _ _ :: _) _ _)); refine wpList_lay28 rfl rfl rfl _ _ rfl (l := l) hpl rfl rfl ?_))
              have fC : Frm [] w10 (w10.alloc (.cells (lc l).toArray 28)) := (Frm.refl [] w10).alloc _
              have B19 := Lib.hid (LB.new w10 hpl)
              have HF11 := Lib.hid (HF10.out.trans fC (by simp))
              have Z19 := Lib.hid HF10.out.size
              have K15 := Lib.hid (fC.heap J15.out (by simp))
              have K17 := Lib.hid (fC.heap I17.out (by simp))
              have Q15 := Lib.hid (lt_heap J15.out)
              have Q17 := Lib.hid (lt_heap I17.out)
              clear fC HF10 J15 I17 BL10
              generalize w10.alloc (.cells (lc l).toArray 28) = w11 at *
              obtain ⟨g19, hg19⟩ : ∃ g, w10.heap.size = g := ⟨_, rfl⟩
              rw [hg19] at B19 Z19 Q15 Q17 ⊢
              clear hg19
              have c2 := B19.out.gets.c2
              have z2 := frozen_of_heap B19.out.at' 33
              go_upto_region 21 with fail
              have B20 := Lib.hid (B19.out.set (m := { l with devs := 0 }) 1 (.int .i64 0) rfl rfl)
              have fD : Frm [g19] w11 (w11.setCell ⟨g19, 32 + 1, none⟩ (.int .i64 0)) := (Frm.refl _ _).setCell _ _ (.inl (by simp))
              have HFD := Lib.hid fD
              clear c2 z2 fD
              generalize w11.setCell ⟨g19, 32 + 1, none⟩ (.int .i64 0) = w12 at *
              have hp0 : 0 < l.pool.length := by rw [hpl]; decide
              obtain ⟨p0, hpe⟩ : ∃ p, l.pool[0]? = some p := ⟨_, List.getElem?_eq_getElem hp0⟩
              have c3 : w12.cell? ⟨g19, 0, none⟩ = some (.int .u8 (p0.toNat : Nat)) := by
                rw [cell_of_heap B20.out.at']
                have h5 : (lc { l with devs := 0 })[0]? = some (bv p0) := by
                  unfold lc bvs
                  rw [List.getElem?_append_left (by simp [hpl]), List.getElem?_map, hpe]
                  rfl
                rw [List.getElem?_toArray]
                exact h5
              have z3 := frozen_of_heap B20.out.at' 0
              have hx1 := x1_val p0
              go_upto_region 22 with fail
              have B21 := Lib.hid (B20.out.setB0 (x1 p0))
              have hbv : bv (x1 p0) = .int .u8 ((x1 p0).toNat : Nat) := rfl
              have fE : Frm [g19] w12 (w12.setCell ⟨g19, 0, none⟩ (bv (x1 p0))) := (Frm.refl _ _).setCell _ _ (.inl (by simp))
              have HF13 := Lib.hid ((HF11.out.trans HFD.out (fun i hi => .inr (by simp at hi; have := Z19.out; omega))).trans fE (fun i hi => .inr (by simp at hi; have := Z19.out; omega)))
              have BL13 := Lib.hid (BL3.out.keep0 HF13.out)
              have L15 := Lib.hid (lt_heap K15.out)
              have N15 := Lib.hid (fE.heap (HFD.out.heap K15.out (by have := Q15.out; simp; omega)) (by have := Q15.out; simp; omega))
              have N17 := Lib.hid (fE.heap (HFD.out.heap K17.out (by have := Q17.out; simp; omega)) (by have := Q17.out; simp; omega))
              rw [hbv] at B21 fE HF13 BL13 N15 N17
              clear c3 z3 hx1 hbv fE HFD B19 B20 HF11 K15 K17
              generalize w12.setCell ⟨g19, 0, none⟩ (.int .u8 ((x1 p0).toNat : Nat)) = w13 at *
              have hbl : ({ l with devs := 0, pool := l.pool.set 0 (x1 p0) } : Lab).pool.length = 32 := by simp [hpl]
              have hbm : mayB { l with devs := 0, pool := l.pool.set 0 (x1 p0) } = false := by simp [mayB]
              generalize hbd : ({ l with devs := 0, pool := l.pool.set 0 (x1 p0) } : Lab) = bd at *
              have B21b := Lib.hid (show LB w13 g19 bd from B21.out)
              have HPC := Lib.hid (fun W g => @Pool_bad W g ⟨bd, hbl⟩ ⟨l, hpl⟩ hbm HMB.out)
              clear hbd B21 hp0 hpe
              go_upto_region 23 with (first
                | ((with_reducible (show wpList _ _ _ (Oper.mk (some 105) (Op.load 28 _) _ _ _ _ :: _) _ _)); refine wpList_val (v := lv bd) (w' := w13) rfl (by exact exec_loadL (x := .tmp 19) (off := 0) rfl hbl rfl (fun j u hu => by rw [Nat.zero_add, cell_of_heap B21b.out.at']; simpa using hu)) ?_)
                | ((with_reducible (show wpList _ _ _ (Oper.mk (some 106) (Op.load 28 _) _ _ _ _ :: _) _ _)); refine wpList_val (v := lv bd) (w' := w13) rfl (by exact exec_loadL (x := .tmp 19) (off := 0) rfl hbl rfl (fun j u hu => by rw [Nat.zero_add, cell_of_heap B21b.out.at']; simpa using hu)) ?_)
                | ((with_reducible (show wpList _ _ _ (Oper.mk (some 107) (Op.load 28 _) _ _ _ _ :: _) _ _)); refine wpList_val (v := lv l) (w' := w13) rfl (by exact exec_loadL (x := .tmp 5) (off := 0) rfl hpl rfl (fun j u hu => by rw [Nat.zero_add, cell_of_heap BL13.out.at']; simpa using hu)) ?_)
                | ((with_reducible (show wpList _ _ _ (Oper.mk _ (Op.buildSlice _ _ _) _ _ _ _ :: _) _ _)); refine Great.wpList_buildSliceTo rfl 34 28 3 #[(0, .tmp 105), (1, .tmp 106), (2, .tmp 107)] rfl w13.heap.size rfl (some 108) rfl Tryz.underlying34 (lc bd ++ (lc bd ++ lc l)).toArray (by simp only [List.map_toArray, List.map_cons, List.map_nil]; exact built28x3 hbl hbl hpl) ?_)
                | (go_at_call 13; refine (HPC.out _ _ (heap_alloc_new _ _)).mono ?_; rintro r w14 ⟨rfl, f14⟩)
                | ((with_reducible (show wpList _ _ _ (Oper.mk _ (Op.alloc 26) _ _ _ _ :: _) _ _)); refine wpList_lay26 rfl rfl rfl _ _ rfl (s := l.pool) hpl rfl rfl ?_))
              have fG : Frm [] w13 ((w13.alloc (.cells (lc bd ++ (lc bd ++ lc l)).toArray 28))) := (Frm.refl [] w13).alloc _
              have fH := (fG.trans f14 (by simp)).alloc (.cells (bvs l.pool).toArray 26)
              have I20 := Lib.hid (heap_alloc_new w14 (.cells (bvs l.pool).toArray 26))
              have P15 := Lib.hid (fH.heap N15.out (by simp))
              have P17 := Lib.hid (fH.heap N17.out (by simp))
              have HF15 := Lib.hid (HF13.out.trans fH (by simp))
              have HS15 := Lib.hid (HS3.out.keep0 HF15.out)
              clear fG fH f14 N15 N17 HF13 BL13 B21b HPC L15 Q15 Q17
              generalize w14.alloc (.cells (bvs l.pool).toArray 26) = w15 at *
              obtain ⟨g20, hg20⟩ : ∃ g, w14.heap.size = g := ⟨_, rfl⟩
              rw [hg20] at I20 ⊢
              clear hg20
              have HPD := Lib.hid (Pool_any _ os sp w15 HS15.out (by omega))
              go_upto_region 24 with (first
                | (go_at_call 13; refine HPD.out.mono ?_; rintro r w16 ⟨p, hp, rfl, f16⟩; have hp32 := hp.len)
                | ((with_reducible (show wpList _ _ _ (Oper.mk _ (Op.alloc 26) _ _ _ _ :: _) _ _)); refine wpList_lay26 rfl rfl rfl _ _ rfl (s := p.1) hp32 rfl rfl ?_))
              have fI := f16.alloc (.cells (bvs p.1).toArray 26)
              have I22 := Lib.hid (heap_alloc_new w16 (.cells (bvs p.1).toArray 26))
              have R15 := Lib.hid (fI.heap P15.out (by simp))
              have R17 := Lib.hid (fI.heap P17.out (by simp))
              have R20 := Lib.hid (fI.heap I20.out (by simp))
              have HF17 := Lib.hid (HF15.out.trans fI (by simp))
              have HS17 := Lib.hid (HS15.out.keep0 fI)
              have HPP := Lib.hid hp
              clear fI f16 P15 P17 I20 HF15 HS15 HPD hp
              generalize w16.alloc (.cells (bvs p.1).toArray 26) = w17 at *
              obtain ⟨g22, hg22⟩ : ∃ g, w16.heap.size = g := ⟨_, rfl⟩
              rw [hg22] at I22 ⊢
              clear hg22
              go_upto_region 26 with fail
              go_loopw [25, 24] (fun c d w9 => ∃ j : Nat, c = .int .i64 ((os.length : Int) - 1 - j) ∧ j ≤ os.length ∧ Mk w17 d (os.reverse.take j) w9) (fun c _ _ => (intOf c + 1).toNat)
              case atStart => exact ⟨0, by simp, by omega, Mk.nil _⟩
              case round =>
                obtain ⟨j, rfl, hj, hM⟩ := hrel
                by_cases hlt3 : j < os.length
                · obtain ⟨m, hm⟩ : ∃ m : Nat, (m : Int) = (os.length : Int) - 1 - j := ⟨os.length - 1 - j, by omega⟩
                  have hml : m < os.length := by omega
                  rw [← hm]
                  obtain ⟨gO, oO, rfl⟩ := SlE.at (enc := eL) (k := 37) HS17.out (by omega)
                  obtain ⟨x, hx⟩ : ∃ x, os[m] = x := ⟨_, rfl⟩
                  have hSr := HS17.out.keep0 hM.frm
                  have HCE := Lib.hid (show ∀ q u, (lc x.1)[q]? = some u → wr.cell? ⟨gO, oO + m * 37 + q, none⟩ = some u from fun q u hu => by
                    have := hSr.cell encL m hml q (u := u) (by rw [hx]; exact hu)
                    rw [Nat.add_assoc]; exact this)
                  have hxl := x.2
                  have hrl : (os.reverse.take j).length ≤ 1000000 := by simp; omega
                  obtain ⟨at3, ct3, spt3, rfl, hrest3⟩ := id hM
                  have HM3 := Lib.hid hM
                  have HX := Lib.hid hx
                  have HHM := Lib.hid hm
                  clear hM hrest3 hSr hx hm
                  go_wp2_with (first
                    | ((with_reducible (show wpList _ _ _ (Oper.mk _ (Op.load 28 _) _ _ _ _ :: _) _ _)); refine wpList_val (v := lv x.1) (w' := wr) rfl (by exact exec_loadL (x := .tmp 127) rfl hxl rfl HCE.out) ?_)
                    | ((with_reducible (show wpList _ _ _ (Oper.mk _ (Op.buildSlice _ _ _) _ _ _ _ :: _) _ _)); refine wpList_more (x := x) HM3.out hrl rfl rfl (.tmp 128) (.tmp 124) (.tmp 129) 129 rfl rfl rfl rfl rfl rfl ?_; intro a6 cap6 w6 m6 f6 n6; have HM6 := Lib.hid m6; clear m6 f6 n6))
                  go_roundw
                  case rel =>
                    have hhm := HHM.out
                    refine ⟨j + 1, by congr 1; omega, by omega, ?_⟩
                    have hjr : j < os.reverse.length := by simpa using hlt3
                    rw [← List.take_append_getElem hjr]
                    have hxr : os.reverse[j] = x := by
                      rw [List.getElem_reverse, ← HX.out]
                      congr 1; omega
                    rw [hxr]
                    have hm6 := HM6.out
                    rw [show (List.take j os.reverse).length = j by simp; omega] at hm6
                    exact hm6
                  case measure => have hhm := HHM.out; simp [intOf]
                · obtain rfl : j = os.length := by omega
                  have e : ((os.length : Int) - 1 - (os.length : Int)) = -1 := by omega
                  rw [e]
                  clear e
                  rw [List.take_of_length_le (by simp)] at hM
                  obtain ⟨at3, ct3, spt3, rfl, hrest3⟩ := id hM
                  obtain ⟨spT, hT⟩ := hM.sl
                  have hpe := Pool_any _ os.reverse spT wr hT (by simp; omega)
                  rw [List.length_reverse] at hpe ⊢
                  have HPE := Lib.hid hpe
                  clear hpe
                  have HFM := Lib.hid hM.frm
                  clear hM hrest3 hT
                  go_upto_region 30 with (first
                    | (go_at_call 13; refine HPE.out.mono ?_; rintro r w18 ⟨p2, hp2, rfl, f18⟩; obtain rfl := HPP.out.eq (hp2.perm (idsOf_perm (List.reverse_perm os))))
                    | ((with_reducible (show wpList _ _ _ (Oper.mk _ (Op.alloc 26) _ _ _ _ :: _) _ _)); refine wpList_lay26 rfl rfl rfl _ _ rfl (s := p.1) hp32 rfl rfl ?_))
                  have fJ := f18.alloc (.cells (bvs p.1).toArray 26)
                  have I26 := heap_alloc_new w18 (.cells (bvs p.1).toArray 26)
                  have fM := HFM.out.trans fJ (by simp)
                  have HFZ := Lib.hid (F3.out.trans (HF17.out.trans fM (by simp)) (by simp))
                  have BLZ := BL3.out.keep0 (HF17.out.trans fM (by simp))
                  have q15 := loads26 hpl (fM.heap R15.out (by simp))
                  have q17 := loads26 hpl (fM.heap R17.out (by simp))
                  have q20 := loads26 hpl (fM.heap R20.out (by simp))
                  have q22 := loads26 hp32 (fM.heap I22.out (by simp))
                  have q26 := loads26 hp32 I26
                  have qL := run_load26 BLZ.len BLZ.at'
                  have Q := Lib.hid (And.intro q15 (And.intro q17 (And.intro q20 (And.intro q22 (And.intro q26 qL)))))
                  clear fJ I26 fM BLZ q15 q17 q20 q22 q26 qL f18
                  generalize w18.alloc (.cells (bvs p.1).toArray 26) = w19 at *
                  have E1 := Lib.hid (eqOf26 l.pool hpl w19)
                  have E2 := Lib.hid (eqOf26 p.1 hp32 w19)
                  go_wp2_with (first
                    | ((with_reducible (show wpList _ _ _ (Oper.mk (some 141) _ _ _ _ _ :: _) _ _)); refine wpList_load_g (by rfl) 26 _ rfl _ rfl Q.out.1 ?_)
                    | ((with_reducible (show wpList _ _ _ (Oper.mk (some 150) _ _ _ _ _ :: _) _ _)); refine wpList_load_g (by rfl) 26 _ rfl _ rfl Q.out.2.1 ?_)
                    | ((with_reducible (show wpList _ _ _ (Oper.mk (some 159) _ _ _ _ _ :: _) _ _)); refine wpList_load_g (by rfl) 26 _ rfl _ rfl Q.out.2.2.1 ?_)
                    | ((with_reducible (show wpList _ _ _ (Oper.mk (some 165) _ _ _ _ _ :: _) _ _)); refine wpList_load_g (by rfl) 26 _ rfl _ rfl Q.out.2.2.2.1 ?_)
                    | ((with_reducible (show wpList _ _ _ (Oper.mk (some 166) _ _ _ _ _ :: _) _ _)); refine wpList_load_g (by rfl) 26 _ rfl _ rfl Q.out.2.2.2.2.1 ?_)
                    | ((with_reducible (show wpList _ _ _ (Oper.mk _ (Op.load 26 _) _ _ _ _ :: _) _ _)); refine wpList_load_g (by rfl) 26 _ rfl _ rfl Q.out.2.2.2.2.2 ?_)
                    | ((with_reducible (show wpList _ _ _ (Oper.mk _ (Op.binOp BinOp.eql 26 _ _ _) _ _ _ _ :: _) _ _)); first | refine wpList_eq26 (by rfl) _ _ rfl rfl rfl E1.out ?_ | refine wpList_eq26 (by rfl) _ _ rfl rfl rfl E2.out ?_))
                  go_ret
                  exact ⟨rfl, HFZ.out⟩
end Go.Proofs.YtcnjjcnmjmcoiaaGreatDoor
