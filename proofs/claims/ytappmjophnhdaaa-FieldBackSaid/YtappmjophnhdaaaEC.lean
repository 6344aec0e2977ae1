/-
  The walk of FieldBack; no conditions but those that each theorem names.
-/
import Derived.Test.YtappmjophnhdaaaEB
import Derived.Test.YtappmjophnhdaaaAC
namespace Go.Proofs.Ytappmjophnhdaaa
open Go.RowKit
set_option linter.unusedVariables false
set_option linter.unusedSimpArgs false

/-- Behind some of the acts: what is written, and the room that was told. -/
def BackRel (w : World) (bw : Nat) (ys : List Act0) (s c : Value) (wr : World) : Prop :=
  ∃ k : Nat, ∃ v sp, k ≤ ys.length ∧ c = .int .i64 k ∧ s = .int .i64 ((wrs (ys.take k)).length : Nat) ∧ Wr wr bw v (wrs (ys.take k)) sp 0 ∧ Fresh w v ∧ Frm [] w wr
/-- Behind some of the acts: where the reader stands. -/
def BackRel2 (w : World) (br : Nat) (vr : Value) (L sp : List UInt8) (ys : List Act0) (s c : Value) (wr : World) : Prop :=
  ∃ k : Nat, k ≤ ys.length ∧ c = .int .i64 k ∧ s = .int .i64 ((wrs (ys.take k)).length : Nat) ∧ Rd wr br vr L sp ((wrs (ys.take k)).length : Nat) 0 0 ∧ Frm [] w wr
theorem field51 (a b : Int) (W : World) : (Instr.field 51 (.agg #[.int .i64 a, .int .i64 b]) 0).run Try.prog W = .ok (.int .i64 a) W := by kernel_rfl
theorem wrs_take_le {ys : List Act0} (h : ∀ y ∈ ys, (wrA y).length ≤ 300) (k : Nat) : (wrs (ys.take k)).length ≤ 300 * ys.length := by
  have := wrs_le (ys := ys.take k) (fun y hy => h y (List.mem_of_mem_take hy))
  have h2 : (ys.take k).length ≤ ys.length := by simp; omega
  omega
set_option maxRecDepth 100000 in
set_option maxHeartbeats 8000000 in
theorem fback_short (val : Value) (noughts : Int) (xs : List Act0) (w : World) (hA : Acts w.heap.size w val xs) (h1 : longB xs = false)
    (hx : -9223372036854775808 ≤ noughts) (hx2 : noughts ≤ 9223372036854775807) (hxs : ∀ x ∈ xs, -9223372036854775808 ≤ x.n ∧ -9223372036854775808 ≤ x.size ∧ x.size ≤ 9223372036854775807) :
    Calls Try.prog 7 #[val, .int .i64 noughts] w fun r w' => YesF w r w' := by
  obtain ⟨a, cap, hval⟩ := hA.form
  subst hval
  obtain ⟨hat, hx60, hm300⟩ := hA.small h1
  have hx6 : (xs.length : Int) ≤ 60 := by omega
  have HA := Lib.hid hA
  have L1 := Lib.hid h1
  have T1 := Lib.hid hat.at'
  have M1 := Lib.hid hm300
  have X1 := Lib.hid hxs
  have N60 := Lib.hid hx60
  have P1000 := Lib.hid (pickI_range noughts 1000 (by decide))
  have hall : ∀ y ∈ xs.map rightA, (wrA y).length ≤ 300 := fun y hy => by
    obtain ⟨x, hx, rfl⟩ := List.mem_map.1 hy
    exact wrA_le (rightA_right x) (by rw [rightA_m]; exact hm300 x hx)
  have WL := Lib.hid (fun k => Nat.le_trans (wrs_take_le hall k) (by simp; omega : 300 * (xs.map rightA).length ≤ 18000))
  clear hA h1 hat hm300 hxs hx60 hall
  go_enter Try.func7, Try.ntmps7
  go_wp2_with fail
  refine (known_any _).mono ?_
  rintro r wa ⟨rfl, fa⟩
  go_wp2_with fail
  refine (long_any w.heap.size _ xs _ (HA.out.keep fa)).mono ?_
  rw [L1.out]
  rintro r w0 ⟨rfl, hw0⟩
  subst hw0
  go_wp2_with fail
  refine (New_any _).mono ?_
  rintro r w1 ⟨rfl, hw1, f1⟩
  go_wp2_with fail
  have hbw := fa.size
  go_loopw [7, 8] (BackRel w w0.heap.size (xs.map rightA)) (fun _ c _ => xs.length - (intOf c).toNat)
  case atStart => exact ⟨0, _, _, Nat.zero_le _, rfl, by simp [wrs], by simpa [wrs] using hw1, by simp [Fresh, blk], fa.trans f1 (by simp)⟩
  case round =>
    obtain ⟨k, v, sp, hk, rfl, rfl, hW, hv, f2⟩ := hrel
    rw [List.length_map] at hk
    have hwl := WL.out k
    by_cases hlt : k < xs.length
    · have hmap : k < (xs.map rightA).length := by simpa using hlt
      have hsn := wrs_snoc (xs.map rightA) k hmap
      rw [List.getElem_map] at hsn
      generalize wrs ((xs.map rightA).take k) = l0 at *
      obtain ⟨b, off, a', c', msp, ⟨cap3, hval⟩, hbB, q0, q1, q2, q3, q4, hS, hBl, hm, hn⟩ := T1.out k hlt
      cases hval
      obtain ⟨y1, y2, y3⟩ := X1.out _ (List.getElem_mem hlt)
      have p0 := f2.cell q0 (by simp)
      have p1 := f2.cell q1 (by simp)
      have p2 := f2.cell q2 (by simp)
      have p3 := f2.cell q3 (by simp)
      have p4 := f2.cell q4 (by simp)
      have hr := right_any xs[k] a' c' wr y1 hn y2 y3
      have hy := rightA_right xs[k]
      have hym : (rightA xs[k]).m.length ≤ 300 := by rw [rightA_m]; exact M1.out _ (List.getElem_mem hlt)
      have hyn := rightA_n _ hn
      have hyS : SlB wr (.slice a' (rightA xs[k]).m.length c') (rightA xs[k]).m msp := by rw [rightA_m]; exact hS.keep f2 (by simp)
      have hyB : ∀ i ∈ blkR (.slice a' (rightA xs[k]).m.length c'), i < w.heap.size := by rw [rightA_m]; exact hBl
      have hsw := right_wr hy (l := l0) (by omega) hym
      have hrw := wrA_room hy
      have hyl := wrA_le hy hym
      have hyl2 : ((wrA (rightA xs[k])).length : Int) ≤ 300 := by omega
      generalize rightA xs[k] = y at *
      have hd : ∀ i ∈ blkA (actVal y a' c'), i ∉ w0.heap.size :: blk v := fun i hi hmm => by
        have h5 := hyB i hi
        rcases List.mem_cons.1 hmm with h6 | h6
        · omega
        · have := hv i h6; omega
      have hwl := hW.lt
      unfold actVal at hr hd
      have hroom := fun (w : World) => room_any y a' c' w hy
      unfold actVal at hroom
      rw [hrw] at hroom
      have HR := Lib.hid hr
      have HD := Lib.hid hd
      have HS := Lib.hid hyS
      have HSW := Lib.hid hsw
      have HSN := Lib.hid hsn
      have HM := Lib.hid hym
      have HN := Lib.hid hyn
      have HRM := Lib.hid hroom
      have HWL := Lib.hid hwl
      have HW := Lib.hid hW
      clear hr hd hyS hsw hsn hym hyn hroom hwl hW hyB hrw q0 q1 q2 q3 q4 hS hBl hm hn y1 y2 y3
      go_wp2_with fail
      refine HR.out.mono ?_
      rintro r w3 ⟨rfl, f3⟩
      go_wp2_with fail
      refine (write_any w0.heap.size v _ l0 sp 0 y _ (HW.out.keep (f3.alloc _) (by simp) (by simp)) (by omega) ⟨a', c', msp, rfl, HS.out.keep (f3.alloc _) (by simp), HN.out⟩ (by have := HM.out; omega) HD.out).mono ?_
      rw [HSW.out]
      rintro r w4 ⟨rfl, v', sp', hW4, f4, n4⟩
      have hn3 : w3.heap.size ∉ w0.heap.size :: blk v := fun hmm => by have := HWL.out _ hmm; have := f3.size; omega
      have hc4 := f4.heap (heap_alloc_new w3 _) hn3
      have z0 := cell_of_heap hc4 0
      have z1 := cell_of_heap hc4 1
      have z2 := cell_of_heap hc4 2
      have z3 := cell_of_heap hc4 3
      have z4 := cell_of_heap hc4 4
      simp only [List.getElem?_toArray, List.getElem?_cons_zero, List.getElem?_cons_succ] at z0 z1 z2 z3 z4
      have HC4 := Lib.hid hc4
      clear hc4
      go_wp2_with fail
      refine (HRM.out _).mono ?_
      rintro r w5 ⟨rfl, f5⟩
      go_wp2_with fail
      refine ⟨⟨k + 1, v', sp', by rw [List.length_map]; omega, by go_num, ?_, ?_, ?_, ?_⟩, by simp [intOf]; omega⟩
      · rw [HSN.out, List.length_append]; go_num
      · rw [HSN.out]; exact hW4.keep f5 (by simp) (by simp)
      · intro i hi
        rcases n4 i hi with h | h
        · exact hv i h
        · have := f2.size; have := f3.size; simp at h; omega
      · refine ((f2.trans (f3.alloc _) (by simp)).trans f4 (fun i hi => ?_)).trans f5 (by simp)
        rcases List.mem_cons.1 hi with rfl | h
        · exact .inr hbw
        · exact .inr (hv i h)
    · obtain rfl : k = xs.length := by omega
      rw [show (xs.map rightA).take xs.length = xs.map rightA from List.take_of_length_le (by simp)] at hW hwl ⊢
      have hlt' : (wrs (xs.map rightA)).length ≤ 18000 := hwl
      have HWRS := Lib.hid (rfl : wrs (xs.map rightA) = wrs (xs.map rightA))
      obtain ⟨B, hB⟩ : ∃ B, wrs (xs.map rightA) = B := ⟨_, rfl⟩
      rw [hB] at hW hwl hlt' ⊢
      have HB := Lib.hid hB
      have hpk := P1000.out
      obtain ⟨z, hz⟩ : ∃ z : Nat, pickI noughts 1000 = (z : Int) := ⟨(pickI noughts 1000).toNat, by omega⟩
      have hz2 : z < 1000 := by omega
      have hpick := fun w => Pick_any noughts 1000 w (by decide) (by decide) hx hx2
      rw [hz] at hpick
      have HPK := Lib.hid hpick
      have HW := Lib.hid hW
      have HLB := Lib.hid hwl
      clear hB hpk hz hpick hW hwl HWRS
      have hlt3 : (B.length : Int) ≤ 18000 := by omega
      have hz3 : (z : Int) ≤ 1000 := by omega
      go_wp2_with fail
      refine (HPK.out _).mono ?_
      rintro r w5 ⟨rfl, hw5⟩
      subst hw5
      go_wp2_with fail
      have hpad : wStep (B, 0) (padStep · ((B.length : Int) + (z : Int))) = (B ++ List.replicate z 0, 0) := by
        have h1 : ¬ (65536 < (B.length : Int) + (z : Int) ∨ (B.length : Int) + (z : Int) < (B.length : Int)) := by omega
        have h2 : ((B.length : Int) + (z : Int)).toNat - B.length = z := by omega
        have h3 : (B ++ List.replicate z (0 : UInt8)).length ≤ 65536 := by simp; omega
        simp only [wStep, if_true, padStep, h1, if_false, h2, addStep]
        rw [if_pos (by simpa using h3)]
      have hp := Pad_any w0.heap.size v B sp 0 ((B.length : Int) + (z : Int)) w5 HW.out (by omega)
      rw [hpad] at hp
      have HP := Lib.hid hp
      clear hp hpad
      refine HP.out.mono ?_
      rintro r w6 ⟨rfl, v', sp', hW6, f6, n6⟩
      have hL6 : (B ++ List.replicate z (0 : UInt8)).length ≤ 65536 := by simp; omega
      have HW6 := Lib.hid hW6
      have hv6 : Fresh w v' := fun i hi => by
        rcases n6 i hi with h | h
        · exact hv i h
        · have := f2.size; omega
      have F6 : Frm [] w w6 := f2.trans f6 (fun i hi => by
        rcases List.mem_cons.1 hi with rfl | h
        · exact .inr hbw
        · exact .inr (hv i h))
      have HF6 := Lib.hid F6
      clear hW6 F6 f6 n6
      go_wp2_with fail
      have ho := Out_any w0.heap.size v' _ sp' 0 w6 HW6.out hL6
      unfold Outs at ho
      rw [show outB (B ++ List.replicate z (0 : UInt8)) 0 = B ++ List.replicate z 0 from by simp [outB]] at ho
      have HO := Lib.hid ho
      clear ho
      refine HO.out.mono ?_
      rintro r w7 ⟨ao, capo, spo, rfl, oo, f7, b7⟩
      have HOO := Lib.hid oo
      have hlen : ((B ++ List.replicate z (0 : UInt8)).length : Int) = (B.length : Int) + (z : Int) := by simp
      have hlenN : (B ++ List.replicate z (0 : UInt8)).length = B.length + z := by simp
      have HF7 := Lib.hid (HF6.out.trans f7 (by simp))
      have HLN := Lib.hid hlenN
      generalize hL : B ++ List.replicate z (0 : UInt8) = L at *
      have HLe := Lib.hid hL
      generalize hq : L.length = q at *
      have HQ := Lib.hid hq
      clear oo f7 b7 hL hlenN hq
      go_wp2_with fail
      refine (HPK.out _).mono ?_
      rintro r w8 ⟨rfl, hw8⟩
      subst hw8
      have hq1 : (q : Int) ≤ 20000 := by omega
      go_wp2_with fail
      refine (Open_any _ L _ _ HOO.out.sl (by have := HQ.out; omega)).mono ?_
      rintro r w9 ⟨br, ar, capr, spr, rfl, r9, f9, hbr, fr9⟩
      have hrn := HF7.out.size
      have HR9 := Lib.hid r9
      have HFR := Lib.hid fr9
      have HF9 := Lib.hid (HF7.out.trans f9 (by simp))
      have HBR := Lib.hid (show w.heap.size ≤ br by omega)
      clear r9 f9 fr9 hbr hrn
      go_wp2_with fail
      go_loopw [13, 14] (BackRel2 w br (.slice ar L.length capr) L spr (xs.map rightA)) (fun _ c _ => xs.length - (intOf c).toNat)
      case atStart => exact ⟨0, Nat.zero_le _, rfl, by simp [wrs], by simpa [wrs] using HR9.out, HF9.out⟩
      case round =>
        obtain ⟨k, hk, rfl, rfl, hR, f2⟩ := hrel
        rw [List.length_map] at hk
        have hwl := WL.out k
        have HR := Lib.hid hR
        have HF2 := Lib.hid f2
        clear hR
        by_cases hlt : k < xs.length
        · have hmap : k < (xs.map rightA).length := by simpa using hlt
          have hsn := wrs_snoc (xs.map rightA) k hmap
          have hat' := wrs_at (xs.map rightA) k hmap (List.replicate z 0)
          rw [HB.out, HLe.out, List.getElem_map] at hat'
          have hsp := wrs_split (xs.map rightA) k hmap
          rw [HB.out, List.getElem_map] at hsp
          rw [List.getElem_map] at hsn
          have hsl := congrArg List.length hsp
          simp only [List.length_append] at hsl
          clear hsp
          generalize wrs ((xs.map rightA).take k) = l0 at *
          generalize wrs ((xs.map rightA).drop (k + 1)) = l9 at *
          obtain ⟨b, off, a', c', msp, ⟨cap3, hval⟩, hbB, q0, q1, q2, q3, q4, hS, hBl, hm, hn⟩ := T1.out k hlt
          cases hval
          obtain ⟨y1, y2, y3⟩ := X1.out _ (List.getElem_mem hlt)
          have p0 := f2.cell q0 (by simp)
          have p1 := f2.cell q1 (by simp)
          have p2 := f2.cell q2 (by simp)
          have p3 := f2.cell q3 (by simp)
          have p4 := f2.cell q4 (by simp)
          have hr := right_any xs[k] a' c' wr y1 hn y2 y3
          have hy := rightA_right xs[k]
          have hym : (rightA xs[k]).m.length ≤ 300 := by rw [rightA_m]; exact M1.out _ (List.getElem_mem hlt)
          have hyn := rightA_n _ hn
          have hyS : SlB wr (.slice a' (rightA xs[k]).m.length c') (rightA xs[k]).m msp := by rw [rightA_m]; exact hS.keep f2 (by simp)
          have hyB : ∀ i ∈ blkR (.slice a' (rightA xs[k]).m.length c'), i < w.heap.size := by rw [rightA_m]; exact hBl
          have hrw := wrA_room hy
          have hyl := wrA_le hy hym
          generalize rightA xs[k] = y at *
          have hd : br ∉ blkR (.slice a' y.m.length c') := fun hmm => by have := hyB _ hmm; have := HBR.out; omega
          have hqL := HQ.out
          have hln := HLN.out
          have hback := fun w hR hS => back_any br (.slice ar L.length capr) L spr l0.length y a' c' msp w hR (by omega) hy hS hd (by omega) hat'
          unfold actVal at hr hback
          have hroom := fun (w : World) => room_any y a' c' w hy
          unfold actVal at hroom
          rw [hrw] at hroom
          have hyl2 : ((wrA y).length : Int) ≤ 300 := by omega
          have hll : (l0.length : Int) ≤ 18000 := by omega
          have hll2 : (l0.length : Int) + ((wrA y).length : Int) ≤ (q : Int) := by omega
          have hllN : l0.length + (wrA y).length ≤ L.length := by omega
          have HRR := Lib.hid hr
          have HS := Lib.hid hyS
          have HSN := Lib.hid hsn
          have HRM := Lib.hid hroom
          have HBK := Lib.hid hback
          have HLL := Lib.hid hllN
          clear hr hyS hsn hroom hback hat' hyB hrw q0 q1 q2 q3 q4 hS hBl hm hn y1 y2 y3 hd hqL hln hsl hwl hllN hym hyn hyl
          go_wp2_with fail
          refine HRR.out.mono ?_
          rintro r wa ⟨rfl, fa⟩
          go_wp2_with fail
          refine (HRM.out _).mono ?_
          rintro r wb ⟨rfl, fb⟩
          have hcb := fb.heap (heap_alloc_new wa _) (by simp)
          have z0 := cell_of_heap hcb 0
          have z1 := cell_of_heap hcb 1
          have z2 := cell_of_heap hcb 2
          have z3 := cell_of_heap hcb 3
          have z4 := cell_of_heap hcb 4
          simp only [List.getElem?_toArray, List.getElem?_cons_zero, List.getElem?_cons_succ] at z0 z1 z2 z3 z4
          have FB := Lib.hid ((fa.alloc (.cells #[.int .i64 y.kind, .int .i64 y.n, .int .i64 y.size, .string y.s, .slice a' y.m.length c'] 34)).trans fb (by simp))
          clear hcb fb
          go_wp2_with fail
          refine (HBK.out wb (HR.out.keep FB.out (by simp) (by simp)) (HS.out.keep FB.out (by simp))).mono ?_
          rintro r wc ⟨rfl, tc⟩
          have hat2 := RAt_any br (.slice ar L.length capr) L spr _ _ _ wc tc.1
          have hle2 := RLeft_any br (.slice ar L.length capr) L spr (l0.length + (wrA y).length) 0 0 wc tc.1 HLL.out (by have := HQ.out; omega)
          have hft2 := fun n => RFault_any br (.slice ar L.length capr) L spr _ _ _ (wc.drewN n) (tc.1.keep ((Frm.refl [] wc).drewN n) (by simp) (by simp))
          simp only at hat2 hle2 hft2
          rw [HQ.out] at hle2
          rw [show ((l0.length + (wrA y).length : Nat) : Int) = (l0.length : Int) + ((wrA y).length : Int) from by omega] at hat2 hle2
          unfold flt at hft2
          have HA2 := Lib.hid hat2
          have HL2 := Lib.hid hle2
          have HF2' := Lib.hid hft2
          have TC := Lib.hid tc
          have hfield := field51 0 0
          clear hat2 hle2 hft2 tc
          go_wp2_with fail
          refine HA2.out.mono ?_
          rintro r wd ⟨rfl, hwd⟩
          subst hwd
          go_wp2_with fail
          refine HL2.out.mono ?_
          rintro r we ⟨rfl, nn, hwe⟩
          subst hwe
          go_wp2_with fail
          refine (HF2'.out nn).mono ?_
          rintro r wf ⟨rfl, ff⟩
          go_wp2_with fail
          have hfw : Frm [] w wf := ((((HF2.out.trans FB.out (by simp)).trans TC.out.2 (fun i hi => by simp at hi; subst hi; exact .inr HBR.out)).drewN nn).trans ff (by simp))
          have hrd := (TC.out.1.keep ((Frm.refl [] wd).drewN nn) (by simp) (by simp)).keep ff (by simp) (by simp)
          refine ⟨⟨k + 1, by rw [List.length_map]; omega, by go_num, ?_, ?_, hfw⟩, by simp [intOf]; omega⟩
          · rw [HSN.out, List.length_append]; go_num
          · rw [HSN.out, List.length_append]; exact hrd
        · obtain rfl : k = xs.length := by omega
          have hR := HR.out
          rw [show (xs.map rightA).take xs.length = xs.map rightA from List.take_of_length_le (by simp), HB.out] at hR
          have hBL : B.length ≤ L.length := by have := HQ.out; have := HLN.out; omega
          have hl9 : L.length ≤ 1000000000 := by have := HQ.out; omega
          have hres := RRestR_any br (.slice ar L.length capr) L spr (B.length, 0, 0) wr hR hBL hl9
          rw [show rRest L (B.length, 0, 0) = (L.length, 0, 0) from by
            unfold rRest
            rw [← HLe.out]
            simp only [if_true, List.drop_left]
            rw [if_pos (by rw [firstNot_none (fun j hj => by simp at hj; simp [List.getElem?_replicate, hj])]; decide)]] at hres
          have HRS := Lib.hid hres
          have HL9 := Lib.hid hl9
          clear hres hR hBL hl9 hwl
          go_wp2_with fail
          refine HRS.out.mono ?_
          rintro r wa ⟨rfl, ta⟩
          have hend := REnd_any br (.slice ar L.length capr) L spr L.length 0 0 wa ta.1 (Nat.le_refl _) HL9.out
          rw [show rEnd L (L.length, 0, 0) = (0, 0) from by simp [rEnd]] at hend
          unfold flt at hend
          have HE := Lib.hid hend
          have TA := Lib.hid ta
          clear hend ta
          go_wp2_with fail
          refine HE.out.mono ?_
          rintro r wb ⟨rfl, fb⟩
          go_wp2_with fail
          go_ret
          exact ⟨rfl, (HF2.out.trans TA.out.2 (fun i hi => by simp at hi; subst hi; exact .inr HBR.out)).trans fb (by simp)⟩
set_option maxRecDepth 100000 in
set_option maxHeartbeats 1000000 in
theorem fback_long (val : Value) (noughts : Int) (xs : List Act0) (w : World) (hA : Acts w.heap.size w val xs) (h : longB xs = true) : Calls Try.prog 7 #[val, .int .i64 noughts] w fun r w' => YesF w r w' := by
  obtain ⟨a, cap, hval⟩ := hA.form
  subst hval
  have HA := Lib.hid hA
  have HH := Lib.hid h
  clear hA h
  go_enter Try.func7, Try.ntmps7
  go_wp2_with fail
  refine (known_any _).mono ?_
  rintro r wa ⟨rfl, fa⟩
  go_wp2_with fail
  refine (long_any w.heap.size _ xs _ (HA.out.keep fa)).mono ?_
  rw [HH.out]
  rintro r w0 ⟨rfl, hw0⟩
  subst hw0
  go_wp2_with fail
  refine bodyPost_ret (results_tmp rfl _ _ _) rfl ?_
  exact ⟨rfl, fa⟩
theorem fback_all (val : Value) (noughts : Int) (xs : List Act0) (w : World) (hA : Acts w.heap.size w val xs)
    (hx : -9223372036854775808 ≤ noughts) (hx2 : noughts ≤ 9223372036854775807) (hxs : ∀ x ∈ xs, -9223372036854775808 ≤ x.n ∧ -9223372036854775808 ≤ x.size ∧ x.size ≤ 9223372036854775807) :
    Calls Try.prog 7 #[val, .int .i64 noughts] w fun r w' => YesF w r w' := by
  cases h : longB xs with
  | true => exact fback_long val noughts xs w hA h
  | false => exact fback_short val noughts xs w hA h hx hx2 hxs
end Go.Proofs.Ytappmjophnhdaaa
