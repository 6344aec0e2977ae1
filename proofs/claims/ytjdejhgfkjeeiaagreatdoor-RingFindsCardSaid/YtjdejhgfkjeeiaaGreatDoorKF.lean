/-
  The walk of RingFinds. No conditions but those that each theorem names.
-/
import Derived.Test.YtjdejhgfkjeeiaaGreatDoorMT
import Derived.Test.YtjdejhgfkjeeiaaGreatDoorKD
import Derived.Test.YtjdejhgfkjeeiaaGreatDoorMM
import Derived.Test.YtjdejhgfkjeeiaaGreatDoorMU
namespace Go.Proofs.YtjdejhgfkjeeiaaGreatDoor
open Go.RowKit
set_option linter.unusedVariables false
set_option linter.unusedSimpArgs false
set_option maxRecDepth 100000

open Kr (OwnE SlE Enco RowTys)
theorem unp_ads (b : List UInt8) : (unp b).1.root.ads.length ≤ 1000000 := by
  rcases unp_errno b with ⟨_, h⟩ | ⟨e, _, _, h⟩
  · rw [h]; exact parse_ads _
  · rw [h]; exact Nat.zero_le _
theorem fits_found (pool : List UInt8) (l : List (List UInt8)) : Fits (foundU pool l) := by
  unfold foundU
  split
  · refine ⟨Nat.le_trans (fnd_len _ _ _) (by decide), fun u hu => ?_⟩
    obtain ⟨i, _, hi⟩ := List.mem_filterMap.1 hu
    unfold fndAt at hi
    split at hi
    · cases hi; exact unp_ads _
    · cases hi
  · exact ⟨Nat.zero_le _, fun u hu => by cases hu⟩
/-- Behind writes to other blocks. -/
theorem Td.apart {w0 w w' : World} {v : Value} {l : List Ub} {rs : List RowT} {L : List Nat} (h : Td w0 w v l rs) (hlo : ∀ x ∈ rs, ∀ j ∈ rb x, w0.heap.size ≤ j) (f : Frm L w w') (hL : ∀ k ∈ L, k < w0.heap.size) : Us w' v l := by
  obtain ⟨sp, ho⟩ := h.own
  refine ⟨rs, sp, (ho.keep f (fun k hk hm => by have := h.base k hk; have := hL k hm; omega)).sl, h.len, fun i r u h1 h2 => (h.row i r u h1 h2).1.keep f (fun k hk hm => ?_)⟩
  have := hlo r (List.mem_of_getElem? h1) k hk
  have := hL k hm
  omega
set_option maxHeartbeats 16000000 in
theorem finds_law (v : Value) (l : List (List UInt8)) (pool : List UInt8) (t : Int) {w : World} (hv : Ls w v l) (hp : pool.length = 32) (ht : InI t) {s0 s1 s2 : Addr} (hs : Sens w s0 s1 s2) (hG : Hs.Glob w) : Calls Tryz.prog 8 #[v, idv pool, .int .i64 t] w (YesR w) := by
  obtain ⟨a, cap, rfl⟩ := hv.form
  have hp0 := heap_alloc_new w (.cells (bvs pool).toArray 24)
  have f0 : Frm [] w (w.alloc (.cells (bvs pool).toArray 24)) := (Frm.refl [] w).alloc _
  have HV := Lib.hid (hv.keep0 f0)
  have HP0 := Lib.hid (show Blk (w.alloc (.cells (bvs pool).toArray 24)) w.heap.size 24 (bvs pool) from hp0)
  have F0 := Lib.hid f0
  have HPL := Lib.hid hp
  have HAW := Lib.hid (fun W (f : Frm [] w W) => awakeR_any W (hs.keep0 f) (hG.keep f (by simp)))
  have HFO := Lib.hid (fun (c : Value) W (f : Frm [] w W) (h : Ls W c l) (hb : ∀ b ∈ l, b.length ≤ 1000000) => Found_any c l pool W h hb hp (hs.keep0 f) (hG.keep f (by simp)))
  have HSL := Lib.hid (fun W => Slot_any t W)
  have HSR := Lib.hid (fun W => RefSlot_any t W)
  unfold YesR at HAW
  unfold FoundP at HFO
  have HSU := Lib.hid (fun (x y : Value) W (hx : Us W x (foundU pool l)) (hy : Us W y (foundU pool l)) => SameUbs_true x y _ W hx hy (fits_found pool l))
  have HUS := Lib.hid (fun (c : Value) W (h : Ls W c l) (hb : ∀ b ∈ l, b.length ≤ 1000000) => Used_any c l W h hb)
  have HUR := Lib.hid (fun (c : Value) W (h : Ls W c l) (hb : ∀ b ∈ l, b.length ≤ 1000000) => RefUsed_any c l W h hb)
  have HRF := Lib.hid (fun (c : Value) W (h : Ls W c l) (hb : ∀ b ∈ l, b.length ≤ 1000000) => RefFound_any c l pool W h hb hp)
  unfold UsedP at HUS
  unfold RFoundP at HRF
  clear hv hp0 f0 hp hs hG ht
  have ee : (foundE l == foundE l) = true := by simp
  have eu : (usedN l == usedN l) = true := by simp
  have es : (slotN t == slotN t) = true := by simp
  have eb : (slotB t == slotB t) = true := by simp
  rw [show idv pool = .agg (bvs pool).toArray from rfl]
  generalize hA : (bvs pool).toArray = A at *
  go_enter Tryz.func8, Tryz.ntmps8
  go_upto_region 1 with (fail)
  generalize hW0 : w.alloc (.cells A 24) = W0 at *
  generalize w.heap.size = gP at *
  have HLG := Lib.hid (long_any (.slice a l.length cap) (.slice none 0 0) l [] W0 HV.out (Us.nil W0))
  go_wp2_with (first
    | (go_at_call 33; refine HLG.out.mono ?_; rintro r w1 ⟨hr, hw1⟩; obtain rfl := hw1.symm; unfold LongP at hr; rcases hr with rfl | ⟨rfl, hsm⟩)
    | (go_at_call 34; refine (HAW.out _ F0.out).mono ?_; rintro r w2 ⟨rfl, f2⟩))
  · go_ret
    exact ⟨rfl, F0.out.trans f2 (by simp)⟩
  · obtain ⟨hb6, _, hl8, _⟩ := hsm
    have HBB := Lib.hid (show ∀ b ∈ l, b.length ≤ 1000000 from fun b hb => Nat.le_trans (hb6 b hb) (by decide))
    have HL8 := Lib.hid (show l.length ≤ 1000 by omega)
    have HLL := Lib.hid (LentLists_any _ l W0 HV.out HBB.out HL8.out)
    unfold LentP at HLL
    have LPF := Lib.hid (fun W (f : Frm [] W0 W) => show (Instr.loadAt 24 (.pointer (some ⟨gP, 0, none⟩))).run Tryz.prog W = .ok (idv pool) W from Blk.load0 (f.heap HP0.out (by simp)) (by kernel_rfl) (by rw [i24, bvs_length, HPL.out]))
    clear hb6 hl8 HLG
    go_upto_region 4 with (go_at_call 35; refine HLL.out.mono ?_; rintro r w2 ⟨v2, cs, rfl, lk, f2⟩)
    have LK := Lib.hid lk
    have F2 := Lib.hid f2
    have FW2 := Lib.hid (F0.out.trans f2 (by simp))
    clear lk f2
    go_upto_region 5 with (first
      | ((with_reducible (show wpList _ _ _ (Oper.mk _ (Op.load 24 _) _ _ _ _ :: _) _ _)); refine wpList_load_g (by rfl) 24 _ rfl _ rfl (LPF.out _ F2.out) ?_)
      | (go_at_call 36; refine (HFO.out _ _ FW2.out LK.out.ls HBB.out).mono ?_; rintro r w3 ⟨v8, rs8, B8, rfl, tl8, f3⟩))
    have TL8 := Lib.hid tl8
    have F3 := Lib.hid f3
    have F03 := Lib.hid (F2.out.trans f3 (by simp))
    clear tl8 f3
    go_upto_region 6 with (first
      | ((with_reducible (show wpList _ _ _ (Oper.mk _ (Op.load 24 _) _ _ _ _ :: _) _ _)); refine wpList_load_g (by rfl) 24 _ rfl _ rfl (LPF.out _ F03.out) ?_)
      | (go_at_call 37; refine (HRF.out _ _ (HV.out.keep0 F03.out) HBB.out).mono ?_; rintro r w4 ⟨v10, rs10, rfl, td, hlo⟩))
    have TD := Lib.hid td
    have HLO := Lib.hid hlo
    clear td hlo
    go_upto_region 8 with (go_at_call 38; refine (HSU.out _ _ _ (TL8.out.us.keep0 TD.out.frm) TD.out.us).mono ?_; rintro r w5 ⟨rfl, f5⟩)
    have F5 := Lib.hid f5
    have HOV := Lib.hid (OverUs_any _ _ _ _ _ (TL8.out.keep0 (TD.out.frm.trans f5 (by simp))) (fits_found pool l))
    clear f5
    go_upto_region 9 with (go_at_call 39; refine HOV.out.mono ?_; rintro r w6 ⟨rfl, f6⟩)
    have F46 := Lib.hid ((show Frm B8 w4 w5 from F5.out.mono (fun i hi => by cases hi)).trans f6 (fun i hi => .inl hi))
    have F26 := Lib.hid (((F3.out.trans TD.out.frm (by simp)).trans F5.out (by simp)).trans f6 (fun i hi => .inr (TL8.out.lo i hi).1))
    clear f6
    have F06 := Lib.hid (F2.out.trans F26.out (by simp))
    have FW6 := Lib.hid (FW2.out.trans F26.out (by simp))
    go_upto_region 10 with (first
      | ((with_reducible (show wpList _ _ _ (Oper.mk _ (Op.load 24 _) _ _ _ _ :: _) _ _)); refine wpList_load_g (by rfl) 24 _ rfl _ rfl (LPF.out _ F06.out) ?_)
      | (go_at_call 36; refine (HFO.out _ _ FW6.out (LK.out.keep0 F26.out).ls HBB.out).mono ?_; rintro r w7 ⟨v12, rs12, B12, rfl, tl12, f7⟩))
    have TL12 := Lib.hid tl12
    have F7 := Lib.hid f7
    clear tl12 f7
    have F27 := Lib.hid (F26.out.trans F7.out (by simp))
    go_upto_region 14 with (first
      | (go_at_call 40; refine (HUS.out _ _ (LK.out.keep0 F27.out).ls HBB.out).mono ?_; rintro r w8 ⟨rfl, f8⟩; have F8 := Lib.hid f8; clear f8)
      | (go_at_call 41; refine (HUR.out _ _ (HV.out.keep0 ((F2.out.trans F27.out (by simp)).trans F8.out (by simp))) HBB.out).mono ?_; rintro r w9 ⟨rfl, hw9⟩; obtain rfl := hw9.symm)
      | (go_at_call 42; refine (HSL.out _).mono ?_; rintro r w9 ⟨rfl, hw9⟩; obtain rfl := hw9.symm)
      | (go_at_call 43; refine (HSR.out _).mono ?_; rintro r w9 ⟨rfl, hw9⟩; obtain rfl := hw9.symm))
    have F48 := Lib.hid ((F46.out.trans F7.out (by simp)).trans F8.out (by simp))
    have F28 := Lib.hid (F27.out.trans F8.out (by simp))
    have HS12 := Lib.hid (HSU.out v12 v10 w8 (TL12.out.us.keep0 F8.out) (TD.out.apart HLO.out F48.out (fun k hk => (TL8.out.lo k hk).2)))
    go_wp2_with (first
      | (go_at_call 38; refine HS12.out.mono ?_; rintro r w9 ⟨rfl, f9⟩; have F9 := Lib.hid f9; clear f9)
      | (go_at_call 44; refine (KeptLists_any _ _ l cs _ (LK.out.keep0 (F28.out.trans F9.out (by simp))) (HV.out.keep0 ((F2.out.trans F28.out (by simp)).trans F9.out (by simp))) HBB.out HL8.out).mono ?_; rintro r w10 ⟨rfl, f10⟩; have F10 := Lib.hid (((FW2.out.trans F28.out (by simp)).trans F9.out (by simp)).trans f10 (by simp)); clear f10)
      | (go_at_call 34; refine (HAW.out _ F10.out).mono ?_; rintro r w11 ⟨rfl, f11⟩))
    go_ret
    exact ⟨rfl, F10.out.trans f11 (by simp)⟩
end Go.Proofs.YtjdejhgfkjeeiaaGreatDoor
