/-
  Contracts of headOf and of Pack. No conditions but those that each theorem names.
-/
import Derived.Test.YtjdejhgfkjeeiaaGreatDoorUD
import Derived.Test.YtjdejhgfkjeeiaaGreatDoorFA
import Derived.Test.YtjdejhgfkjeeiaaGreatDoorHZ
import Derived.Test.YtjdejhgfkjeeiaaGreatDoorPX
namespace Go.Proofs.YtjdejhgfkjeeiaaGreatDoor
open Go.RowKit
set_option linter.unusedVariables false
set_option linter.unusedSimpArgs false
set_option maxRecDepth 100000

open Pt (Pt may enc readPt readE zeroPt pc pv PtV SlA OwnA)
theorem step_raw {m x : List UInt8} (h : m.length + x.length ≤ 65536) : wStep (m, 0) (addStep · x) = (m ++ x, 0) := by
  simp [wStep, addStep, h]
theorem step_num {m : List UInt8} {n size : Int} (h1 : 1 ≤ size) (h7 : size ≤ 7) (h0 : 0 ≤ n) (h : n < 2 ^ (8 * size.toNat)) (hl : m.length ≤ 60000) : wStep (m, 0) (numStep · n size) = (m ++ beBytes n.toNat size.toNat, 0) := by
  simp only [wStep, if_true, numStep]
  rw [if_neg (by simp [isSizeB]; omega), if_neg (by omega)]
  unfold addStep
  rw [if_pos (by rw [beBytes_length]; omega)]
theorem step_pad {m : List UInt8} {t : Nat} (h : m.length ≤ t) (h6 : t ≤ 65536) : wStep (m, 0) (padStep · t) = (m ++ List.replicate (t - m.length) 0, 0) := by
  simp only [wStep, if_true, padStep]
  rw [if_neg (by omega)]
  unfold addStep
  simp only [Int.toNat_natCast, List.length_replicate]
  rw [if_pos (by omega)]
/-- How far a writer of one's own is. -/
def WS (w0 : World) (bw : Nat) (m : List UInt8) (w : World) : Prop := ∃ v sp, Wr w bw v m sp 0 ∧ (∀ i ∈ blk v, w0.heap.size ≤ i) ∧ Frm [] w0 w ∧ w0.heap.size ≤ bw
section
variable {w0 w w' : World} {bw : Nat} {m : List UInt8}
theorem WS.frm (h : WS w0 bw m w) : Frm [] w0 w := by
  obtain ⟨_, _, _, _, f, _⟩ := h
  exact f
theorem WS.keep0 (h : WS w0 bw m w) (f : Frm [] w w') : WS w0 bw m w' := by
  obtain ⟨v, sp, h1, h2, h3, h4⟩ := h
  exact ⟨v, sp, h1.keep f (by simp) (by simp), h2, h3.trans f (by simp), h4⟩
theorem WS.to {v : Value} {l : List UInt8} (h1 : ∀ i ∈ blk v, w0.heap.size ≤ i) (h2 : Frm [] w0 w) (h3 : w0.heap.size ≤ bw) (h : WrTo w bw v l 0 w') : WS w0 bw l w' := by
  obtain ⟨v', sp', k1, k2, k3⟩ := h
  refine ⟨v', sp', k1, fun i hi => ?_, h2.trans k2 (fun i hi => .inr ?_), h3⟩
  · rcases k3 i hi with h | h
    · exact h1 i h
    · have := h2.size; omega
  · rcases List.mem_cons.1 hi with rfl | h
    · exact h3
    · exact h1 i h
theorem WS.raw (h : WS w0 bw m w) {x : Value} {b bsp : List UInt8} (hS : SlB w x b bsp) (hl : m.length + b.length ≤ 1000) : Calls Tryz.prog 92 #[.pointer (some ⟨bw, 0, none⟩), x] w fun r w' => r = .returned (.tuple #[]) ∧ WS w0 bw (m ++ b) w' := by
  obtain ⟨v, sp, h1, h2, h3, h4⟩ := h
  have hr := Raw_any bw v x m sp b bsp 0 w h1 (by omega) hS
  rw [step_raw (by omega)] at hr
  refine hr.mono ?_
  rintro r w' ⟨rfl, hw⟩
  exact ⟨rfl, WS.to h2 h3 h4 hw⟩
theorem WS.num (h : WS w0 bw m w) (n : Int) (k : Nat) (h1 : 1 ≤ k) (h7 : k ≤ 7) (hn0 : 0 ≤ n) (hn : n < 2 ^ (8 * k)) (hn6 : n ≤ 9223372036854775807) (hl : m.length ≤ 1000) : Calls Tryz.prog 93 #[.pointer (some ⟨bw, 0, none⟩), .int .i64 n, .int .i64 k] w fun r w' => r = .returned (.tuple #[]) ∧ WS w0 bw (m ++ beBytes n.toNat k) w' := by
  obtain ⟨v, sp, k1, k2, k3, k4⟩ := h
  have hr := Num_any bw v m sp 0 n k w k1 (by omega) hn6
  rw [step_num (by omega) (by omega) hn0 (by simpa using hn) (by omega)] at hr
  refine hr.mono ?_
  rintro r w' ⟨rfl, hw⟩
  exact ⟨rfl, WS.to k2 k3 k4 (by simpa using hw)⟩
theorem WS.pad (h : WS w0 bw m w) (hl : m.length ≤ 224) : Calls Tryz.prog 94 #[.pointer (some ⟨bw, 0, none⟩), .int .i64 224] w fun r w' => r = .returned (.tuple #[]) ∧ WS w0 bw (m ++ List.replicate (224 - m.length) 0) w' := by
  obtain ⟨v, sp, k1, k2, k3, k4⟩ := h
  have hr := Pad_any bw v m sp 0 (224 : Nat) w k1 (by omega)
  rw [step_pad hl (by omega)] at hr
  refine hr.mono ?_
  rintro r w' ⟨rfl, hw⟩
  exact ⟨rfl, WS.to k2 k3 k4 hw⟩
theorem WS.out (h : WS w0 bw m w) (hl : m.length ≤ 1000) : Calls Tryz.prog 95 #[.pointer (some ⟨bw, 0, none⟩)] w fun r w' => ∃ a cap sp, r = .returned (.tuple #[.slice a m.length cap, .int .i64 0]) ∧ OwnB 5 w' (.slice a m.length cap) m sp ∧ Frm [] w w' ∧ Fresh w (.slice a m.length cap) := by
  obtain ⟨v, sp, k1, k2, k3, k4⟩ := h
  exact Out_any bw v m sp 0 w k1 (by omega)
end
theorem UB.poolS {w : World} {g : Nat} {v : Value} {u : Ub} (h : UB w g v u) : SlB w (.slice (some ⟨g, 37, none⟩) 32 32) u.pool [] := by
  have hp := h.wf.pool
  refine ⟨by rw [bvs_length, hp], .inr (.inr ⟨g, 37, 32, by rw [hp], by rw [hp]; exact Nat.le_refl _, by simp [maxLen], by simp [bvs, hp], fun i x hx => ?_⟩)⟩
  have hx' : (bvs u.pool)[i]? = some x := by simpa [bvs] using hx
  refine h.1.cell _ ?_
  rw [uc_split2, List.getElem?_append_right (by simp [pc_length h.wf.sum])]
  simp only [List.append_nil]
  rw [show 37 + i - (Value.int IntKind.i64 u.txg :: (pc v u.root.b u.root.l u.root.s ++ [Value.int IntKind.i64 u.len])).length = i by simp [pc_length h.wf.sum]]
  exact hx'
theorem sliceAt24 (b : Nat) (W : World) : (Instr.sliceAt 24 (.pointer (some ⟨b, 37, none⟩)) none none none).run Tryz.prog W = .ok (.slice (some ⟨b, 37, none⟩) 32 32) W := by
  have hu : Tryz.prog.underlying 24 = some (.array (Tryz.prog.arrayLen 24) (Tryz.prog.elem 24)) := by kernel_rfl
  have hl : Tryz.prog.arrayLen 24 = 32 := by kernel_rfl
  have he : Tryz.prog.elem 24 = 5 := by kernel_rfl
  have hs : (sizeOf 5).run Tryz.prog W = .ok 1 W := by kernel_rfl
  rw [run_sliceAt_array_all (P := Tryz.prog) W 24 _ hu, he, hs, hl]
  rfl
/-- Bytes of one's own. -/
def TellsB (m : List UInt8) (w : World) (r : Ending) (w' : World) : Prop := ∃ a cap sp, r = .returned (.slice a m.length cap) ∧ OwnB 5 w' (.slice a m.length cap) m sp ∧ Frm [] w w' ∧ Fresh w (.slice a m.length cap)
set_option maxHeartbeats 4000000 in
theorem head_any (x : Value) (u : Ub) (w : World) (h : UbV w x u) (hm : MayU u) (hl : u.root.ads.length ≤ 1000000) : Calls Tryz.prog 50 #[x] w (TellsB (headU u) w) := by
  obtain ⟨a, cap, sp, rfl, hS, hw⟩ := id h
  have hB := fun W (f : Frm [] w W) => Pt.Bytes_any _ u.root W (h.root.keep0 f) hl
  have hbe : Pt.outB u.root = enc u.root := by unfold Pt.outB; rw [if_pos ((Pt.mayB_iff _).2 hm.root)]
  have he := Pt.enc_len hm.root hw.sum
  have b0 := UB.new w (.slice a u.root.ads.length cap) hw
  have f0 : Frm [] w (w.alloc (.cells (uc (.slice a u.root.ads.length cap) u).toArray 28)) := (Frm.refl [] w).alloc _
  have g0 := b0.gets
  have HB := Lib.hid b0
  have R0 := Lib.hid g0.root
  have HBy := Lib.hid (hB _ f0)
  have HM := Lib.hid hm
  have HW := Lib.hid hw
  have HEL := Lib.hid he
  have hhd : headU u = ((((mark ++ u.pool) ++ beBytes u.txg.toNat 5) ++ beBytes u.len.toNat 3) ++ enc u.root) ++ List.replicate 129 0 := by simp [headU, midU, -List.reduceReplicate]
  have hhl := headU_length hw hm
  clear h hS hB b0 g0 hm hw he
  rw [uv_box]
  generalize hA : (uc (.slice a u.root.ads.length cap) u).toArray = A at *
  go_enter Tryz.func50, Tryz.ntmps50
  go_upto_region 1 with fail
  generalize w.alloc (.cells A 28) = W at *
  have F0 := Lib.hid f0
  clear f0 hA
  unfold Pt.BytesP at HBy
  rw [hbe] at HBy
  clear hbe
  obtain ⟨H, hH⟩ : ∃ H, headU u = H := ⟨_, rfl⟩
  rw [hH] at hhd hhl
  have HHe := Lib.hid hH
  have HHD := Lib.hid hhd
  have HHL := Lib.hid hhl
  clear hH hhd hhl
  obtain ⟨en, hen⟩ : ∃ en, enc u.root = en := ⟨_, rfl⟩
  rw [hen] at HBy HEL HHD
  clear hen
  go_upto_region 2 with (first
    | ((with_reducible (show wpList _ _ _ (Oper.mk _ (Op.load 26 _) _ _ _ _ :: _) _ _)); refine wpList_load_g (by rfl) 26 _ rfl _ rfl R0.out ?_)
    | (go_at_call 90; refine HBy.out.mono ?_; rintro r w1 ⟨a1, c1, s1, rfl, o1, f1, n1⟩; have O1 := Lib.hid o1.sl; have B1 := Lib.hid (HB.out.keep0 f1); have F1 := Lib.hid (F0.out.trans f1 (by simp)); clear o1 f1 n1))
  go_upto_region 3 with (go_at_call 91; refine (New_any _).mono ?_; rintro r w2 ⟨rfl, hw2, f2⟩; have S2 := Lib.hid (show WS w1 w1.heap.size [] w2 from ⟨_, _, hw2, by simp [blk], f2, Nat.le_refl _⟩); clear hw2 f2)
  generalize w1.heap.size = bw at *
  have hSm := Hs.slb_new w2 mark 8 #[.int .u8 67, .int .u8 65, .int .u8 85, .int .u8 76, .int .u8 75, .int .u8 69, .int .u8 82, .int .u8 50] (8, 9) rfl rfl (by simp [mark, maxLen])
  have fm : Frm [] w2 (w2.alloc (.cells #[.int .u8 67, .int .u8 65, .int .u8 85, .int .u8 76, .int .u8 75, .int .u8 69, .int .u8 82, .int .u8 50] 5 (8, 9))) := (Frm.refl [] w2).alloc _
  have C3 := Lib.hid ((S2.out.keep0 fm).raw hSm (by simp [mark]))
  have kc := fun (w : World) (C : Array Value) (n c : Nat) => Lib.run_convert_bytes_const (P := Tryz.prog) w 32 5 C n c Tryz.underlying32 Tryz.underlying5
  clear hSm fm
  go_upto_region 4 with (go_at_call 92; refine C3.out.mono ?_; rintro r w3 ⟨rfl, h3⟩; have S3 := Lib.hid h3; clear h3)
  clear kc C3 S2
  have hsl := sliceAt24
  have C4 := Lib.hid (S3.out.raw (B1.out.keep0 S3.out.frm).poolS (by rw [HW.out.pool]; simp [mark]))
  go_upto_region 5 with (go_at_call 92; refine C4.out.mono ?_; rintro r w4 ⟨rfl, h4⟩; have S4 := Lib.hid h4; clear h4)
  clear hsl C4
  have c0 := ((B1.out.keep0 S4.out.frm).gets).c0
  have C5 := Lib.hid (S4.out.num u.txg 5 (by omega) (by omega) (by have := HM.out.t1; omega) (by have := HM.out.t2; omega) (by have := HM.out.t2; omega) (by rw [List.length_append, HW.out.pool]; simp [mark]))
  go_upto_region 6 with (go_at_call 93; refine C5.out.mono ?_; rintro r w5 ⟨rfl, h5⟩; have S5 := Lib.hid h5; clear h5)
  clear c0 C5
  have c36 := ((B1.out.keep0 S5.out.frm).gets).c36
  have C6 := Lib.hid (S5.out.num u.len 3 (by omega) (by omega) HM.out.l0 (by have := HM.out.l1; omega) (by have := HM.out.l1; omega) (by simp [mark, HW.out.pool, beBytes_length]))
  go_upto_region 7 with (go_at_call 93; refine C6.out.mono ?_; rintro r w6 ⟨rfl, h6⟩; have S6 := Lib.hid h6; clear h6)
  clear c36 C6
  have C7 := Lib.hid (S6.out.raw (O1.out.keep S6.out.frm (by simp)) (by simp [mark, HW.out.pool, beBytes_length, HEL.out]))
  go_upto_region 8 with (go_at_call 92; refine C7.out.mono ?_; rintro r w7 ⟨rfl, h7⟩; have S7 := Lib.hid h7; clear h7)
  clear C7
  have e7 : ([] ++ mark ++ u.pool ++ beBytes u.txg.toNat 5 ++ beBytes u.len.toNat 3 ++ en).length = 95 := by simp [mark, HW.out.pool, beBytes_length, HEL.out]
  have C8 := Lib.hid (S7.out.pad (by rw [e7]; omega))
  rw [e7, show ([] ++ mark ++ u.pool ++ beBytes u.txg.toNat 5 ++ beBytes u.len.toNat 3 ++ en) ++ List.replicate (224 - 95) 0 = H by rw [HHD.out]; simp [-List.reduceReplicate]] at C8
  clear e7
  go_upto_region 9 with (go_at_call 94; refine C8.out.mono ?_; rintro r w8 ⟨rfl, h8⟩; have S8 := Lib.hid h8; clear h8)
  clear C8
  have C9 := Lib.hid (S8.out.out (by rw [HHL.out]; omega))
  go_wp2_with (go_at_call 95; refine C9.out.mono ?_; rintro r w9 ⟨a9, c9, s9, rfl, o9, f9, n9⟩)
  go_ret
  have ff := F1.out.trans S8.out.frm (by simp)
  have e := HHe.out
  subst e
  exact ⟨a9, c9, s9, rfl, o9, ff.trans f9 (by simp), fun i hi => Nat.le_trans ff.size (n9 i hi)⟩
end Go.Proofs.YtjdejhgfkjeeiaaGreatDoor
