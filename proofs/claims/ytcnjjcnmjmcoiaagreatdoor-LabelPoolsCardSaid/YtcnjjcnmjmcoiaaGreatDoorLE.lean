/-
  Contract of Pack. No conditions but those that each theorem names.
-/
import Derived.Test.YtcnjjcnmjmcoiaaGreatDoorLZ

namespace Go.Proofs.YtcnjjcnmjmcoiaaGreatDoor
open Go.RowKit
set_option linter.unusedVariables false
set_option linter.unusedSimpArgs false
set_option maxRecDepth 100000

/-- The closures, in their order. -/
def stepF (g : Nat) : List Value := [.func (.func 59) #[] #[], .func (.func 61) #[] #[.pointer (some ⟨g, 0, none⟩)], .func (.func 62) #[] #[.pointer (some ⟨g, 0, none⟩)], .func (.func 64) #[] #[.pointer (some ⟨g, 0, none⟩)], .func (.func 65) #[] #[.pointer (some ⟨g, 0, none⟩)], .func (.func 66) #[] #[.pointer (some ⟨g, 0, none⟩)], .func (.func 67) #[] #[.pointer (some ⟨g, 0, none⟩)], .func (.func 68) #[] #[], .func (.func 70) #[] #[]]
def StepsP (w : World) (l : Lab) (r : Ending) (w' : World) : Prop := ∃ g S, r = .returned (.slice (some ⟨S, 0, none⟩) 9 9) ∧ LB w' g l ∧ (∃ T, w'.heap[S]? = some (.cells (stepF g).toArray T (0, 0))) ∧ Frm [] w w' ∧ w.heap.size ≤ g ∧ w.heap.size ≤ S
theorem steps_any (l : Lab) (hl : l.pool.length = 32) (w : World) : Calls Tryz.prog 37 #[lv l] w (StepsP w l) := by
  have B1 := LB.new w hl
  have hlv : lv l = .agg (lc l).toArray := rfl
  rw [hlv]
  clear hlv
  generalize hA : (lc l).toArray = A at *
  go_enter Tryz.func37, Tryz.ntmps37
  go_wp2
  go_ret
  have f1 : Frm [] w (w.alloc (.cells A 28)) := (Frm.refl [] w).alloc _
  refine ⟨w.heap.size, w.heap.size + 1, rfl, B1.keep0 ((Frm.refl [] _).alloc _), ⟨_, heap_alloc_at (by simp)⟩, f1.alloc _, Nat.le_refl _, by omega⟩
/-- What is written by so many of them. -/
def pst (l : Lab) : Nat → List UInt8
  | 0 => []
  | 1 => mark
  | 2 => mark ++ l.pool
  | 3 => mark ++ l.pool ++ beBytes l.dev.toNat 1
  | 4 => mark ++ l.pool ++ beBytes l.dev.toNat 1 ++ beBytes l.devs.toNat 1
  | 5 => mark ++ l.pool ++ beBytes l.dev.toNat 1 ++ beBytes l.devs.toNat 1 ++ beBytes l.cop.toNat 1
  | 6 => mark ++ l.pool ++ beBytes l.dev.toNat 1 ++ beBytes l.devs.toNat 1 ++ beBytes l.cop.toNat 1 ++ beBytes l.sec.toNat 2
  | 7 => mark ++ l.pool ++ beBytes l.dev.toNat 1 ++ beBytes l.devs.toNat 1 ++ beBytes l.cop.toNat 1 ++ beBytes l.sec.toNat 2 ++ beBytes l.life.toNat 5
  | 8 => headL l
  | _ => packL l
theorem pst_len {l : Lab} (h : l.pool.length = 32) (k : Nat) (hk : k ≤ 7) : (pst l k).length ≤ 50 := by
  have lb := beBytes_length
  match k, hk with
  | 0, _ => simp [pst]
  | 1, _ => simp [pst, mark]
  | 2, _ => simp [pst, mark, h]
  | 3, _ => simp [pst, mark, h, lb]
  | 4, _ => simp [pst, mark, h, lb]
  | 5, _ => simp [pst, mark, h, lb]
  | 6, _ => simp [pst, mark, h, lb]
  | 7, _ => simp [pst, mark, h, lb]
theorem pst_pad {l : Lab} (h : l.pool.length = 32) : pst l 7 ++ List.replicate (224 - (pst l 7).length) 0 = headL l := by
  have lb := beBytes_length
  have : (pst l 7).length = 50 := by simp [pst, mark, h, lb]
  rw [this]
  simp [pst, headL, numsL, -List.reduceReplicate]
def PkRel (wb : World) (bw : Nat) (l : Lab) (c : Value) (wr : World) : Prop :=
  ∃ k : Nat, k ≤ 9 ∧ c = .int .i64 k ∧ ∃ v sp, Wr wr bw v (pst l k) sp 0 ∧ (∀ i ∈ blk v, wb.heap.size ≤ i) ∧ Frm [bw] wb wr
/-- The closure behind so many writes what comes next. -/
theorem step_any (g bw k : Nat) (l : Lab) (hm : May l) (v : Value) (sp : List UInt8) (w : World) (hW : Wr w bw v (pst l k) sp 0) (hB : LB w g l) (hG : Hs.Glob w) (hk : k < 9) :
    ∃ F cap, (stepF g)[k]? = some (.func (.func F) #[] cap) ∧ (∀ W : World, (callFunc F (#[.pointer (some ⟨bw, 0, none⟩)] ++ cap)).run Tryz.prog W = .ok (.enter F (#[.pointer (some ⟨bw, 0, none⟩)] ++ cap)) W) ∧ Calls Tryz.prog F (#[.pointer (some ⟨bw, 0, none⟩)] ++ cap) w (Wrote w bw v (pst l (k + 1))) := by
  have hlen := pst_len hB.2 k
  match k, hk with
  | 0, _ => exact ⟨59, #[], rfl, fun W => enter_of Tryz.func59 (by kernel_rfl) (by kernel_rfl) _ W, c1_any bw v _ sp w hW (Nat.le_trans (hlen (by omega)) (by omega))⟩
  | 1, _ => exact ⟨61, _, rfl, fun W => enter_of Tryz.func61 (by kernel_rfl) (by kernel_rfl) _ W, c2_any g bw l v _ sp w hW hB (Nat.le_trans (hlen (by omega)) (by omega))⟩
  | 2, _ => exact ⟨62, _, rfl, fun W => enter_of Tryz.func62 (by kernel_rfl) (by kernel_rfl) _ W, c3_any g bw l v _ sp w hW hB (Nat.le_trans (hlen (by omega)) (by omega)) hm.d0 (by have := hm.d1; have := hm.n8; omega)⟩
  | 3, _ => exact ⟨64, _, rfl, fun W => enter_of Tryz.func64 (by kernel_rfl) (by kernel_rfl) _ W, c4_any g bw l v _ sp w hW hB (Nat.le_trans (hlen (by omega)) (by omega)) (by have := hm.n2; omega) (by have := hm.n8; omega)⟩
  | 4, _ => exact ⟨65, _, rfl, fun W => enter_of Tryz.func65 (by kernel_rfl) (by kernel_rfl) _ W, c5_any g bw l v _ sp w hW hB (Nat.le_trans (hlen (by omega)) (by omega)) (by have := hm.c1; omega) (by have := hm.c3; omega)⟩
  | 5, _ => exact ⟨66, _, rfl, fun W => enter_of Tryz.func66 (by kernel_rfl) (by kernel_rfl) _ W, c6_any g bw l v _ sp w hW hB (Nat.le_trans (hlen (by omega)) (by omega)) (by have := hm.s8; omega) (by have := hm.s4; omega)⟩
  | 6, _ => exact ⟨67, _, rfl, fun W => enter_of Tryz.func67 (by kernel_rfl) (by kernel_rfl) _ W, c7_any g bw l v _ sp w hW hB (Nat.le_trans (hlen (by omega)) (by omega)) hm.l0 (by have := hm.l1; omega)⟩
  | 7, _ => 
    have h := c8_any bw v _ sp w hW (Nat.le_trans (hlen (by omega)) (by omega))
    rw [pst_pad hB.2] at h
    exact ⟨68, #[], rfl, fun W => enter_of Tryz.func68 (by kernel_rfl) (by kernel_rfl) _ W, h⟩
  | 8, _ => exact ⟨70, #[], rfl, fun W => enter_of Tryz.func70 (by kernel_rfl) (by kernel_rfl) _ W, c9_any bw v _ sp w hW (by show (headL l).length ≤ 1000; rw [headL_length hB.2]; omega) hG⟩
/-- What Pack tells. -/
def PackP (w : World) (l : Lab) (r : Ending) (w' : World) : Prop :=
  ∃ a cap sp, r = .returned (.tuple #[.slice a (packO l).length cap, .int .i64 (mayE l)]) ∧ OwnB 5 w' (.slice a (packO l).length cap) (packO l) sp ∧ Frm [] w w' ∧ Fresh w (.slice a (packO l).length cap)
theorem Pack_no (l : Lab) (hl : l.pool.length = 32) (hm : ¬ May l) (w : World) : Calls Tryz.prog 19 #[lv l] w (PackP w l) := by
  have B1 := LB.new w hl
  have hlv : lv l = .agg (lc l).toArray := rfl
  have f : Frm [] w (w.alloc (.cells (lc l).toArray 28)) := (Frm.refl [] w).alloc _
  have HC := Check_any l hl
  rw [mayE_no hm] at HC
  have HC1 := Lib.hid HC
  have HM := Lib.hid hm
  rw [hlv]
  clear hlv HC hm
  generalize hA : (lc l).toArray = A at *
  go_enter Tryz.func19, Tryz.ntmps19
  go_upto_region 1 with (fail)
  generalize w.alloc (.cells A 28) = W at *
  have G1 := Lib.hid B1.gets.all
  clear hA B1
  go_wp2_with (first | ((with_reducible (show wpList _ _ _ (Oper.mk _ (Op.load 28 _) _ _ _ _ :: _) _ _)); refine wpList_load_g (by rfl) 28 _ rfl _ rfl G1.out ?_) | (go_at_call 18; refine (HC1.out _).mono ?_; rintro r w2 ⟨rfl, f2⟩))
  go_ret2
  refine ⟨none, 0, [], by simp [packO_no HM.out, mayE_no HM.out], by rw [packO_no HM.out]; exact OwnB.nil _ _, f.trans f2 (by simp), by simp [Fresh, blk]⟩
set_option maxHeartbeats 2000000 in
theorem Pack_yes (l : Lab) (hl : l.pool.length = 32) (hm : May l) (w : World) (hG : Hs.Glob w) : Calls Tryz.prog 19 #[lv l] w (PackP w l) := by
  have B1 := LB.new w hl
  have hlv : lv l = .agg (lc l).toArray := rfl
  have f : Frm [] w (w.alloc (.cells (lc l).toArray 28)) := (Frm.refl [] w).alloc _
  have HC := Check_any l hl
  rw [mayE_yes hm] at HC
  have HC1 := Lib.hid HC
  have HM := Lib.hid hm
  have HP := Lib.hid hl
  have HG := Lib.hid hG
  rw [hlv]
  clear hlv HC hm hG hl
  generalize hA : (lc l).toArray = A at *
  go_enter Tryz.func19, Tryz.ntmps19
  go_upto_region 1 with (fail)
  generalize w.alloc (.cells A 28) = W at *
  have B1h := Lib.hid B1
  have F0 := Lib.hid f
  have G1 := Lib.hid B1.gets.all
  clear hA B1 f
  go_upto_region 4 with (first | ((with_reducible (show wpList _ _ _ (Oper.mk _ (Op.load 28 _) _ _ _ _ :: _) _ _)); refine wpList_load_g (by rfl) 28 _ rfl _ rfl G1.out ?_) | (go_at_call 18; refine (HC1.out _).mono ?_; rintro r w2 ⟨rfl, f2⟩))
  have F2 := Lib.hid (F0.out.trans f2 (by simp))
  have B2 := Lib.hid (B1h.out.keep0 f2)
  have G2 := Lib.hid B2.out.gets.all
  clear f2 F0 B1h G1
  go_upto_region 6 with (first
    | (go_at_call 36; refine (New_any _).mono ?_; rintro r w3 ⟨rfl, hw3, f3⟩; have HW3 := Lib.hid hw3; have F3 := Lib.hid (F2.out.trans f3 (by simp)); have B3 := Lib.hid (B2.out.keep0 f3); have G3 := Lib.hid B3.out.gets.all; have F3a := Lib.hid f3; clear hw3 f3)
    | ((with_reducible (show wpList _ _ _ (Oper.mk _ (Op.load 28 _) _ _ _ _ :: _) _ _)); refine wpList_load_g (by rfl) 28 _ rfl _ rfl G3.out ?_)
    | (go_at_call 37; refine (steps_any l HP.out _).mono ?_; rintro r w4 ⟨g, S, rfl, hB4, ⟨T, hS4⟩, f4, hg, hSg⟩))
  have B4 := Lib.hid hB4
  have S4 := Lib.hid hS4
  have F4 := Lib.hid (F3.out.trans f4 (by simp))
  have W4 := Lib.hid (HW3.out.keep f4 (by simp) (by simp))
  have HGW := Lib.hid (HG.out.keep F4.out (by simp))
  have Z1 := Lib.hid (show w2.heap.size < w3.heap.size from lt_heap HW3.out.1)
  have Z2 := Lib.hid (show S ≠ w2.heap.size by have := Z1.out; omega)
  have Z3 := Lib.hid (show g ≠ w2.heap.size by have := Z1.out; omega)
  have Z4 := Lib.hid (show w.heap.size ≤ w2.heap.size from F2.out.size)
  have Z5 := Lib.hid (lt_heap hS4)
  have Z6 := Lib.hid hB4.lt
  have Z7 := Lib.hid HG.out.lt
  clear hB4 hS4 f4 hg hSg F3a HW3
  obtain ⟨bw, hbw⟩ : ∃ bw, w2.heap.size = bw := ⟨_, rfl⟩
  rw [hbw] at W4 Z1 Z2 Z3 Z4 ⊢
  clear hbw
  go_loopw [17] (PkRel w4 bw l) (fun c _ => 9 - (intOf c).toNat)
  case atStart => exact ⟨0, by omega, rfl, _, _, W4.out, by simp [blk], Frm.refl _ _⟩
  case round =>
    obtain ⟨k, hk, rfl, v, sp, hW, hn, f⟩ := hrel
    have hW1 := Lib.hid hW
    have hn1 := Lib.hid hn
    have f1 := Lib.hid f
    by_cases hlt : k < 9
    · have hBr := B4.out.keep f (by simp; exact Z3.out)
      have hGr := HGW.out.keep f (by have := Z7.out; have := Z4.out; simp; omega)
      obtain ⟨F, cap, e1, e2, e3⟩ := step_any g bw k l HM.out v sp wr hW hBr hGr hlt
      have hc : wr.cell? ⟨S, k, none⟩ = some (.func (.func F) #[] cap) := by
        rw [cell_of_heap (f.heap S4.out (by simp; exact Z2.out))]
        simpa using e1
      have E3 := Lib.hid e3
      clear hW hn f hBr hGr e1 e3
      go_wp2_with fail
      refine E3.out.mono ?_
      rintro r w5 ⟨rfl, v', sp', hW5, f5, n5⟩
      go_wp2_with fail
      go_roundw
      case rel =>
        refine ⟨k + 1, by omega, by go_num, v', sp', hW5, fun i hi => ?_, f1.out.trans f5 (fun i hi => ?_)⟩
        · rcases n5 i hi with h | h
          · exact hn1.out i h
          · exact Nat.le_trans f1.out.size h
        · rcases List.mem_cons.1 hi with rfl | h
          · exact .inl (by simp)
          · exact .inr (hn1.out i h)
      case measure => simp [intOf]; omega
    · obtain rfl : k = 9 := by omega
      have HO := Lib.hid (Out_any bw v (packL l) sp 0 wr hW (by rw [packL_length HP.out]; omega))
      clear hW hn f
      go_wp2_with (go_at_call 38; refine HO.out.mono ?_; rintro r w6 ⟨a, cap, sp', rfl, o6, f6, n6⟩)
      go_ret2
      have e0 : outB (packL l) 0 = packL l := rfl
      rw [e0] at o6 n6
      have e1 := packO_yes HM.out
      have hfr : Frm [] w wr := F4.out.trans f1.out (fun i hi => .inr (by simp at hi; subst hi; exact Z4.out))
      refine ⟨a, cap, sp', by rw [e1, mayE_yes HM.out]; rfl, by rw [e1]; exact o6, hfr.trans f6 (by simp), by rw [e1]; exact fun i hi => Nat.le_trans hfr.size (n6 i hi)⟩
theorem Pack_any (l : Lab) (hl : l.pool.length = 32) (w : World) (hG : Hs.Glob w) : Calls Tryz.prog 19 #[lv l] w (PackP w l) := by
  by_cases h : May l
  · exact Pack_yes l hl h w hG
  · exact Pack_no l hl h w
end Go.Proofs.YtcnjjcnmjmcoiaaGreatDoor
