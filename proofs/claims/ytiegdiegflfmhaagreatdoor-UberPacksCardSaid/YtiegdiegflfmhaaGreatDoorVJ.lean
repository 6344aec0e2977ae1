/-
  Contract of CopyUbers of a slice of two. No conditions but those that each theorem names.
-/
import Derived.Test.YtiegdiegflfmhaaGreatDoorVI
import Derived.Test.YtiegdiegflfmhaaGreatDoorVC
namespace Go.Proofs.YtiegdiegflfmhaaGreatDoor
open Go.RowKit
set_option linter.unusedVariables false
set_option linter.unusedSimpArgs false
set_option maxRecDepth 100000

open Pt (Pt may enc readPt readE zeroPt pc pv PtV SlA OwnA)
/-- A row that is an uberblock whose root's addresses are its own. -/
def IsU (w0 : World) (b3 : Value) (w : World) (r : RowT) (u : Ub) : Prop := ∃ a cap sp, r.1 = uc (.slice a u.root.ads.length cap) u ∧ OwnA 47 w (.slice a u.root.ads.length cap) u.root.ads sp ∧ ∀ j ∈ blk (.slice a u.root.ads.length cap), w0.heap.size ≤ j ∧ j ∉ blk b3
theorem IsU.keep {w0 w w' : World} {b3 b3' : Value} {r : RowT} {u : Ub} {L : List Nat} (h : IsU w0 b3 w r u) (f : Frm L w w') (hL : ∀ j ∈ L, j ∈ blk b3 ∨ w.heap.size ≤ j) (hb : ∀ j ∈ blk b3', j ∈ blk b3 ∨ w.heap.size ≤ j) : IsU w0 b3' w' r u := by
  obtain ⟨a, cap, sp, e, ho, hj⟩ := h
  refine ⟨a, cap, sp, e, ho.keep f (fun j h k => ?_), fun j h => ⟨(hj j h).1, fun k => ?_⟩⟩
  · rcases hL j k with q | q
    · exact (hj j h).2 q
    · have := ho.lt j h; omega
  · rcases hb j k with q | q
    · exact (hj j h).2 q
    · have := ho.lt j h; omega
def CpRel (w : World) (u1 u2 : Ub) (b3 b4 : Value) (wr : World) : Prop :=
  (b4 = .int .i64 0 ∧ b3 = .slice none 0 0 ∧ Frm [] w wr) ∨ (b4 = .int .i64 1 ∧ ∃ r1, Mk w b3 [r1] wr ∧ IsU w b3 wr r1 u1) ∨ (b4 = .int .i64 2 ∧ ∃ r1 r2, Mk w b3 [r1, r2] wr ∧ IsU w b3 wr r1 u1 ∧ IsU w b3 wr r2 u2)
/-- What a copy of two tells. -/
def Copied (w : World) (u1 u2 : Ub) (r : Ending) (w' : World) : Prop := ∃ v r1 r2, r = .returned v ∧ Mk w v [r1, r2] w' ∧ IsU w v w' r1 u1 ∧ IsU w v w' r2 u2
set_option maxHeartbeats 8000000 in
theorem CopyU_any (g : Nat) (v1 v2 : Value) (u1 u2 : Ub) (w : World) (hb : Blk w g 28 (uc v1 u1 ++ uc v2 u2)) (hv1 : v1.oneCell' = true) (hv2 : v2.oneCell' = true) (h1 : UbV w (uv v1 u1) u1) (h2 : UbV w (uv v2 u2) u2) (hl1 : u1.root.ads.length ≤ 1000000) (hl2 : u2.root.ads.length ≤ 1000000) :
    Calls Tryz.prog 9 #[.slice (some ⟨g, 0, none⟩) 2 2] w (Copied w u1 u2) := by
  have hw1 := h1.wf
  have hw2 := h2.wf
  have LA := Lib.hid (fun W (f : Frm [] w W) => (show (Instr.loadAt 28 (.pointer (some ⟨g, 0, none⟩))).run Tryz.prog W = .ok (uv v1 u1) W from Blk.load (pre := []) (post := uc v2 u2) (hb.keep0 f) rfl d28 (by rw [i28, uc_length hw1])))
  have LB := Lib.hid (fun W (f : Frm [] w W) => (show (Instr.loadAt 28 (.pointer (some ⟨g, 69, none⟩))).run Tryz.prog W = .ok (uv v2 u2) W from Blk.load (pre := uc v1 u1) (row := uc v2 u2) (post := []) (by rw [List.append_nil]; exact hb.keep0 f) (uc_length hw1) d28 (by rw [i28, uc_length hw2])))
  have CA := Lib.hid (fun W (f : Frm [] w W) => Pt.CopyP_any (pv v1 u1.root.b u1.root.l u1.root.s) u1.root W (by obtain ⟨a, cap, sp, e, hS, hw⟩ := h1; have h3 := UbV.root (w := w) (a := a) (cap := cap) (u := u1) ⟨a, cap, sp, rfl, hS, hw⟩; have e2 := congrArg (fun x => match x with | .agg cs => cs[1]? | _ => none) e; simp [uv, uc, pc] at e2; rw [e2]; exact h3.keep0 f) hl1)
  have CB := Lib.hid (fun W (f : Frm [] w W) => Pt.CopyP_any (pv v2 u2.root.b u2.root.l u2.root.s) u2.root W (by obtain ⟨a, cap, sp, e, hS, hw⟩ := h2; have h3 := UbV.root (w := w) (a := a) (cap := cap) (u := u2) ⟨a, cap, sp, rfl, hS, hw⟩; have e2 := congrArg (fun x => match x with | .agg cs => cs[1]? | _ => none) e; simp [uv, uc, pc] at e2; rw [e2]; exact h3.keep0 f) hl2)
  clear hb h1 h2 hl1 hl2
  go_enter Tryz.func9, Tryz.ntmps9
  go_wp2_with fail
  go_loopw [3, 4] (CpRel w u1 u2) (fun _ c _ => 2 - (intOf c).toNat)
  case atStart => exact .inl ⟨rfl, rfl, Frm.refl _ _⟩
  case round =>
    rcases hrel with ⟨rfl, rfl, f⟩ | ⟨rfl, r1, hm, i1⟩ | ⟨rfl, r1, r2, hm, i1, i2⟩
    · have HF := Lib.hid f
      have HM := Lib.hid (show Mk w (.slice none 0 0) [] wr from ⟨none, 0, [], rfl, Kr.OwnE.nil _ _ _ _, by simp [blk], f⟩)
      clear f
      have LD := Lib.hid (LA.out wr HF.out)
      go_upto_region 6 with (first
        | ((with_reducible (show wpList _ _ _ (Oper.mk _ (Op.load 28 _) _ _ _ _ :: _) _ _)); refine wpList_load_g (by rfl) 28 _ rfl _ rfl LD.out ?_)
        | ((with_reducible (show wpList _ _ _ (Oper.mk _ (Op.alloc 28) _ _ _ _ :: _) _ _)); refine wpList_lay28 rfl rfl rfl _ _ rfl hv1 (u := u1) hw1 rfl rfl ?_))
      have f1 : Frm [] wr (wr.alloc (.cells (uc v1 u1).toArray 28)) := (Frm.refl [] wr).alloc _
      have B5 := Lib.hid (UB.new wr v1 hw1)
      have RO := Lib.hid B5.out.gets.root
      have HC := Lib.hid (CA.out _ (HF.out.trans f1 (by simp)))
      have hsz : (wr.alloc (.cells (uc v1 u1).toArray 28)).heap.size = wr.heap.size + 1 := by simp
      unfold Pt.OwnP at HC
      clear LD
      generalize wr.alloc (.cells (uc v1 u1).toArray 28) = w1 at *
      obtain ⟨g5, hg5⟩ : ∃ g5, wr.heap.size = g5 := ⟨_, rfl⟩
      rw [hg5] at B5 RO hsz ⊢
      have HSZ := Lib.hid (And.intro hg5 hsz)
      have FA := Lib.hid f1
      clear hg5 hsz f1
      go_upto_region 7 with (first
        | ((with_reducible (show wpList _ _ _ (Oper.mk _ (Op.load 26 _) _ _ _ _ :: _) _ _)); refine wpList_load_g (by rfl) 26 _ rfl _ rfl RO.out ?_)
        | (go_at_call 27; refine HC.out.mono ?_; rintro r w2 ⟨xa, xc, xs, rfl, ox, f2, nx⟩; have O2 := Lib.hid ox; have F2 := Lib.hid f2; have N2 := Lib.hid nx; clear ox f2 nx)
        | ((with_reducible (show wpList _ _ _ (Oper.mk _ (Op.store 26 _ _) _ _ _ _ :: _) _ _)); refine wpList_store_mid rfl 26 (.tmp 19) (.tmp 18) rfl g5 1 (pc (.slice xa u1.root.ads.length xc) u1.root.b u1.root.l u1.root.s).toArray rfl rfl (by rw [Pt.pc_size, hw1.sum]; exact (B5.out.keep0 F2.out).1.there 35 (by rw [uc_length hw1]; decide)) (by rw [i26, Pt.pc_size, hw1.sum]) (Pt.pc_one _ _ _) ?_))
      have B7 := Lib.hid (show UB (w2.setCells g5 1 (pc (.slice xa u1.root.ads.length xc) u1.root.b u1.root.l u1.root.s)) g5 (.slice xa u1.root.ads.length xc) u1 from (B5.out.keep0 F2.out).setRoot (v' := .slice xa u1.root.ads.length xc) (p := u1.root) hw1.sum)
      have f3 : Frm [g5] w2 (w2.setCells g5 1 (pc (.slice xa u1.root.ads.length xc) u1.root.b u1.root.l u1.root.s)) := Frm.setCells _ _ _ (Frm.refl _ _) (.inl (by simp))
      have O3 := Lib.hid (O2.out.keep f3 (fun j hj hm => by have := N2.out j hj; have := HSZ.out; simp at hm; omega))
      have F3 := Lib.hid (show Frm [] wr (w2.setCells g5 1 (pc (.slice xa u1.root.ads.length xc) u1.root.b u1.root.l u1.root.s)) from (FA.out.trans F2.out (by simp)).trans f3 (fun j hj => .inr (by have := HSZ.out; simp at hj; omega)))
      clear f3 B5 RO HC O2
      generalize w2.setCells g5 1 (pc (.slice xa u1.root.ads.length xc) u1.root.b u1.root.l u1.root.s) = w3 at *
      have HM3 := Lib.hid (HM.out.keep F3.out (by simp) (HF.out.trans F3.out (by simp)))
      have G7 := Lib.hid B7.out.gets.all
      have IN := Lib.hid (show IsU w (.slice none 0 0) w3 (rowU (.slice xa u1.root.ads.length xc) rfl u1 hw1) u1 from ⟨xa, xc, xs, rfl, O3.out, fun j hj => ⟨by have := N2.out j hj; have := HF.out.size; have := FA.out.size; omega, fun hm => by have := N2.out j hj; have := HM.out.lt j hm; have := FA.out.size; omega⟩⟩)
      go_wp2_with (first
        | ((with_reducible (show wpList _ _ _ (Oper.mk _ (Op.load 28 _) _ _ _ _ :: _) _ _)); refine wpList_load_g (by rfl) 28 _ rfl _ rfl G7.out ?_)
        | ((with_reducible (show wpList _ _ _ (Oper.mk _ (Op.buildSlice _ _ _) _ _ _ _ :: _) _ _)); refine wpList_more (x := rowU (.slice xa u1.root.ads.length xc) rfl u1 hw1) HM3.out (by simp) rfl rfl (.tmp 21) (.tmp 20) (.tmp 22) 22 rfl rfl rfl rfl rfl rfl ?_; intro a9 c9 w9 m9 f9 n9; have HM9 := Lib.hid m9; have F9 := Lib.hid f9; have N9 := Lib.hid n9; clear m9 f9 n9))
      go_roundw
      case rel => exact .inr (.inl ⟨by go_num, _, HM9.out, IN.out.keep F9.out (fun j h => .inl h) N9.out⟩)
      case measure => simp [intOf]
    · have HF := Lib.hid hm.frm
      obtain ⟨aM, cM, sM, rfl, hoM, hbM, hfM⟩ := hm
      have HM := Lib.hid (show Mk w (.slice aM 1 cM) [r1] wr from ⟨aM, cM, sM, rfl, hoM, hbM, hfM⟩)
      have I1 := Lib.hid (show IsU w (.slice aM 1 cM) wr r1 u1 from i1)
      clear hoM hbM hfM i1
      simp only [List.length_cons, List.length_nil, Nat.zero_add]
      have LD := Lib.hid (LB.out wr HF.out)
      go_upto_region 6 with (first
        | ((with_reducible (show wpList _ _ _ (Oper.mk _ (Op.load 28 _) _ _ _ _ :: _) _ _)); refine wpList_load_g (by rfl) 28 _ rfl _ rfl LD.out ?_)
        | ((with_reducible (show wpList _ _ _ (Oper.mk _ (Op.alloc 28) _ _ _ _ :: _) _ _)); refine wpList_lay28 rfl rfl rfl _ _ rfl hv2 (u := u2) hw2 rfl rfl ?_))
      have f1 : Frm [] wr (wr.alloc (.cells (uc v2 u2).toArray 28)) := (Frm.refl [] wr).alloc _
      have B5 := Lib.hid (UB.new wr v2 hw2)
      have RO := Lib.hid B5.out.gets.root
      have HC := Lib.hid (CB.out _ (HF.out.trans f1 (by simp)))
      have hsz : (wr.alloc (.cells (uc v2 u2).toArray 28)).heap.size = wr.heap.size + 1 := by simp
      unfold Pt.OwnP at HC
      clear LD
      generalize wr.alloc (.cells (uc v2 u2).toArray 28) = w1 at *
      obtain ⟨g5, hg5⟩ : ∃ g5, wr.heap.size = g5 := ⟨_, rfl⟩
      rw [hg5] at B5 RO hsz ⊢
      have HSZ := Lib.hid (And.intro hg5 hsz)
      have FA := Lib.hid f1
      clear hg5 hsz f1
      go_upto_region 7 with (first
        | ((with_reducible (show wpList _ _ _ (Oper.mk _ (Op.load 26 _) _ _ _ _ :: _) _ _)); refine wpList_load_g (by rfl) 26 _ rfl _ rfl RO.out ?_)
        | (go_at_call 27; refine HC.out.mono ?_; rintro r w2 ⟨xa, xc, xs, rfl, ox, f2, nx⟩; have O2 := Lib.hid ox; have F2 := Lib.hid f2; have N2 := Lib.hid nx; clear ox f2 nx)
        | ((with_reducible (show wpList _ _ _ (Oper.mk _ (Op.store 26 _ _) _ _ _ _ :: _) _ _)); refine wpList_store_mid rfl 26 (.tmp 19) (.tmp 18) rfl g5 1 (pc (.slice xa u2.root.ads.length xc) u2.root.b u2.root.l u2.root.s).toArray rfl rfl (by rw [Pt.pc_size, hw2.sum]; exact (B5.out.keep0 F2.out).1.there 35 (by rw [uc_length hw2]; decide)) (by rw [i26, Pt.pc_size, hw2.sum]) (Pt.pc_one _ _ _) ?_))
      have B7 := Lib.hid (show UB (w2.setCells g5 1 (pc (.slice xa u2.root.ads.length xc) u2.root.b u2.root.l u2.root.s)) g5 (.slice xa u2.root.ads.length xc) u2 from (B5.out.keep0 F2.out).setRoot (v' := .slice xa u2.root.ads.length xc) (p := u2.root) hw2.sum)
      have f3 : Frm [g5] w2 (w2.setCells g5 1 (pc (.slice xa u2.root.ads.length xc) u2.root.b u2.root.l u2.root.s)) := Frm.setCells _ _ _ (Frm.refl _ _) (.inl (by simp))
      have O3 := Lib.hid (O2.out.keep f3 (fun j hj hm => by have := N2.out j hj; have := HSZ.out; simp at hm; omega))
      have F3 := Lib.hid (show Frm [] wr (w2.setCells g5 1 (pc (.slice xa u2.root.ads.length xc) u2.root.b u2.root.l u2.root.s)) from (FA.out.trans F2.out (by simp)).trans f3 (fun j hj => .inr (by have := HSZ.out; simp at hj; omega)))
      clear f3 B5 RO HC O2
      generalize w2.setCells g5 1 (pc (.slice xa u2.root.ads.length xc) u2.root.b u2.root.l u2.root.s) = w3 at *
      have HM3 := Lib.hid (HM.out.keep F3.out (by simp) (HF.out.trans F3.out (by simp)))
      have G7 := Lib.hid B7.out.gets.all
      have IN := Lib.hid (show IsU w (.slice aM 1 cM) w3 (rowU (.slice xa u2.root.ads.length xc) rfl u2 hw2) u2 from ⟨xa, xc, xs, rfl, O3.out, fun j hj => ⟨by have := N2.out j hj; have := HF.out.size; have := FA.out.size; omega, fun hm => by have := N2.out j hj; have := HM.out.lt j hm; have := FA.out.size; omega⟩⟩)
      have I3 := Lib.hid (I1.out.keep (b3' := .slice aM 1 cM) F3.out (by simp) (fun j h => .inl h))
      go_wp2_with (first
        | ((with_reducible (show wpList _ _ _ (Oper.mk _ (Op.load 28 _) _ _ _ _ :: _) _ _)); refine wpList_load_g (by rfl) 28 _ rfl _ rfl G7.out ?_)
        | ((with_reducible (show wpList _ _ _ (Oper.mk _ (Op.buildSlice _ _ _) _ _ _ _ :: _) _ _)); refine wpList_more (x := rowU (.slice xa u2.root.ads.length xc) rfl u2 hw2) HM3.out (by simp) rfl rfl (.tmp 21) (.tmp 20) (.tmp 22) 22 rfl rfl rfl rfl rfl rfl ?_; intro a9 c9 w9 m9 f9 n9; have HM9 := Lib.hid m9; have F9 := Lib.hid f9; have N9 := Lib.hid n9; clear m9 f9 n9))
      go_roundw
      case rel => exact .inr (.inr ⟨by go_num, r1, _, HM9.out, I3.out.keep F9.out (fun j h => .inl h) N9.out, IN.out.keep F9.out (fun j h => .inl h) N9.out⟩)
      case measure => simp [intOf]
    · have HM := Lib.hid hm
      have I1 := Lib.hid i1
      have I2 := Lib.hid i2
      clear hm i1 i2
      go_wp2_with fail
      go_ret
      exact ⟨_, r1, r2, rfl, HM.out, I1.out, I2.out⟩
end Go.Proofs.YtiegdiegflfmhaaGreatDoor
