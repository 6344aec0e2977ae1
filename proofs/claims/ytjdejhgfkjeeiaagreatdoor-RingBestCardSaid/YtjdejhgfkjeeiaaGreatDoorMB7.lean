/-
  ahead: which of two uberblocks the document sets first. No conditions but those that each theorem names. Contract of CopyUbers at any list. No conditions but those that each theorem names. Parts of lists of uberblocks; one laid among those that are there. No conditions but those that each theorem names. Contract of the document's Best. No conditions but those that each theorem names. The walk of RingBest. No conditions but those that each theorem names.
-/
import Derived.Test.YtjdejhgfkjeeiaaGreatDoorMB1
import Derived.Test.YtjdejhgfkjeeiaaGreatDoorMB4
import Derived.Test.YtjdejhgfkjeeiaaGreatDoorMB5
import Derived.Test.YtjdejhgfkjeeiaaGreatDoorMB2
import Derived.Test.YtjdejhgfkjeeiaaGreatDoorMB6
namespace Go.Proofs.YtjdejhgfkjeeiaaGreatDoor
open Go.RowKit
set_option linter.unusedVariables false
set_option linter.unusedSimpArgs false
set_option maxRecDepth 100000

theorem bytesLess_cb : ∀ a b : List UInt8, Op.bytesLess a b = decide (Lib.compareBytes a b < 0)
  | [], [] => by simp [Op.bytesLess, Lib.compareBytes]
  | _ :: _, [] => by simp [Op.bytesLess, Lib.compareBytes]
  | [], _ :: _ => by simp [Op.bytesLess, Lib.compareBytes]
  | a :: x, b :: y => by
    unfold Op.bytesLess Lib.compareBytes
    rw [bytesLess_cb x y]
    by_cases h1 : a < b
    · simp [h1]
    · by_cases h2 : b < a
      · have h3 : (a == b) = false := by simp; intro h; subst h; exact h1 h2
        simp [h1, h2, h3]
      · have h3 : a = b := UInt8.le_antisymm (UInt8.not_lt.1 h2) (UInt8.not_lt.1 h1)
        subst h3
        simp [h1]
def aheadB (u v : Ub) : Bool := if u.txg = v.txg then Op.bytesLess (packO u) (packO v) else decide (v.txg < u.txg)
theorem aheadB_may {u v : Ub} (hu : MayU u) (hv : MayU v) : aheadB u v = ltE (entU u) (entU v) := by
  unfold aheadB
  rw [packO_yes hu, packO_yes hv, bytesLess_cb, Bool.eq_iff_iff, ltE_iff]
  by_cases h : u.txg = v.txg
  · rw [if_pos h]
    simp only [decide_eq_true_eq, entU]
    constructor
    · intro q; exact .inr ⟨h, q⟩
    · rintro (q | ⟨_, q⟩)
      · omega
      · exact q
  · rw [if_neg h]
    simp only [decide_eq_true_eq, entU]
    constructor
    · intro q; exact .inl q
    · rintro (q | ⟨q, _⟩)
      · exact q
      · exact absurd q h
set_option maxHeartbeats 2000000 in
theorem ahead_any (x y : Value) (u v : Ub) (w : World) (hx : UbV w x u) (hy : UbV w y v) (hl : u.root.ads.length ≤ 1000000) (hl2 : v.root.ads.length ≤ 1000000) : Calls Tryz.prog 89 #[x, y] w fun e w' => e = .returned (.bool (aheadB u v)) ∧ Frm [] w w' := by
  obtain ⟨a1, c1, p1, rfl, o1, w1⟩ := id hx
  obtain ⟨a2, c2, p2, rfl, o2, w2⟩ := id hy
  have fA : Frm [] w (w.alloc (.cells (uc (.slice a1 u.root.ads.length c1) u).toArray 28)) := (Frm.refl [] w).alloc _
  have fB : Frm [] (w.alloc (.cells (uc (.slice a1 u.root.ads.length c1) u).toArray 28)) ((w.alloc (.cells (uc (.slice a1 u.root.ads.length c1) u).toArray 28)).alloc (.cells (uc (.slice a2 v.root.ads.length c2) v).toArray 28)) := (Frm.refl [] _).alloc _
  have F := Lib.hid (fA.trans fB (by simp))
  have B1 := Lib.hid ((UB.new w (.slice a1 u.root.ads.length c1) w1).keep0 fB)
  have B2 := Lib.hid (UB.new (w.alloc (.cells (uc (.slice a1 u.root.ads.length c1) u).toArray 28)) (.slice a2 v.root.ads.length c2) w2)
  have HX := Lib.hid (hx.keep F.out (by simp))
  have HY := Lib.hid (hy.keep F.out (by simp))
  have HL := Lib.hid (And.intro hl hl2)
  rw [show uv (.slice a1 u.root.ads.length c1) u = .agg (uc (.slice a1 u.root.ads.length c1) u).toArray from rfl, show uv (.slice a2 v.root.ads.length c2) v = .agg (uc (.slice a2 v.root.ads.length c2) v).toArray from rfl]
  clear hx hy hl hl2 fA fB o1 o2
  generalize hA1 : (uc (.slice a1 u.root.ads.length c1) u).toArray = A1 at *
  generalize hA2 : (uc (.slice a2 v.root.ads.length c2) v).toArray = A2 at *
  clear hA1 hA2
  go_enter Tryz.func89, Tryz.ntmps89
  go_upto_region 1 with (fail)
  rw [show (w.alloc (.cells A1 28)).heap.size = w.heap.size + 1 by simp] at B2
  generalize (w.alloc (.cells A1 28)).alloc (.cells A2 28) = W at *
  generalize w.heap.size = g1 at *
  have k1 := B1.out.gets.c0
  have k2 := B2.out.gets.c0
  by_cases he : u.txg = v.txg
  · have ha : aheadB u v = Op.bytesLess (packO u) (packO v) := by unfold aheadB; rw [if_pos he]
    have HA := Lib.hid ha
    rw [← he] at k2
    clear ha he
    go_upto_region 4 with (first
      | ((with_reducible (show wpList _ _ _ (Oper.mk (some 20) (Op.load 28 _) _ _ _ _ :: _) _ _)); refine wpList_val rfl (exec_ld28 rfl rfl B1.out.gets.all) ?_)
      | (go_at_call 17; refine (RefPack_any _ _ _ HX.out HL.out.1).mono ?_; rintro r w3 ⟨a3, c3, s3, rfl, o3, f3, _⟩))
    have HY3 := Lib.hid (HY.out.keep f3 (by simp))
    have B23 := Lib.hid (B2.out.keep0 f3)
    go_upto_region 5 with (first
      | ((with_reducible (show wpList _ _ _ (Oper.mk (some 25) (Op.load 28 _) _ _ _ _ :: _) _ _)); refine wpList_val rfl (exec_ld28 rfl rfl B23.out.gets.all) ?_)
      | (go_at_call 17; refine (RefPack_any _ _ _ HY3.out HL.out.2).mono ?_; rintro r w4 ⟨a4, c4, s4, rfl, o4, f4, _⟩))
    have S3 := Lib.hid (o3.sl.keep f4 (by simp))
    have S4 := Lib.hid o4.sl
    have FF := Lib.hid ((F.out.trans f3 (by simp)).trans f4 (by simp))
    clear o3 o4 f3 f4 k1 k2
    obtain ⟨T1, hT1⟩ : ∃ T : ByteArray, (⟨(packO u).toArray⟩ : ByteArray) = T := ⟨_, rfl⟩
    obtain ⟨T2, hT2⟩ : ∃ T : ByteArray, (⟨(packO v).toArray⟩ : ByteArray) = T := ⟨_, rfl⟩
    have HT := Lib.hid (And.intro hT1 hT2)
    clear hT1 hT2
    go_wp2_with (first
      | ((with_reducible (show wpList _ _ _ (Oper.mk (some 30) (Op.convert 32 9 _) _ _ _ _ :: _) _ _)); refine wpList_val rfl (exec_conv rfl rfl S3.out) ?_; rw [HT.out.1])
      | ((with_reducible (show wpList _ _ _ (Oper.mk (some 32) (Op.convert 32 9 _) _ _ _ _ :: _) _ _)); refine wpList_val rfl (exec_conv rfl rfl S4.out) ?_; rw [HT.out.2]))
    go_ret
    refine ⟨?_, FF.out⟩
    rw [HA.out, ← HT.out.1, ← HT.out.2, ByteArray.toList_eq, ByteArray.toList_eq]
    rfl
  · have ha : aheadB u v = decide (v.txg < u.txg) := by unfold aheadB; rw [if_neg he]
    have e1 : (u.txg == v.txg) = false := by simpa using he
    have HA := Lib.hid ha
    clear ha he
    go_wp2_with fail
    go_ret
    refine ⟨?_, F.out⟩
    rw [HA.out]
    rfl
end Go.Proofs.YtjdejhgfkjeeiaaGreatDoor

namespace Go.Proofs.YtjdejhgfkjeeiaaGreatDoor
open Go.RowKit
set_option linter.unusedVariables false
set_option linter.unusedSimpArgs false
set_option maxRecDepth 100000

open Pt (Pt may enc readPt readE zeroPt pc pv PtV SlA OwnA)
open Kr (OwnE SlE Enco RowTys)
def CUP (l : List Ub) (w : World) (r : Ending) (w' : World) : Prop := ∃ v rs B, r = .returned v ∧ Tl w w' v l rs B ∧ Frm [] w w'
def CURel (l : List Ub) (w : World) (ov cv : Value) (wr : World) : Prop := ∃ (k : Nat) (rs : List RowT) (B : List Nat), cv = .int .i64 k ∧ k ≤ l.length ∧ Tl w wr ov (l.take k) rs B ∧ Frm [] w wr
set_option maxHeartbeats 8000000 in
theorem CopyUs_any (v : Value) (l : List Ub) (w : World) (h : Us w v l) (hf : Fits l) : Calls Tryz.prog 15 #[v] w (CUP l w) := by
  obtain ⟨a, cap, rfl⟩ := h.form
  have H := Lib.hid h
  have HF := Lib.hid hf
  have hl9 : (l.length : Int) ≤ 1000 := by have := hf.1; omega
  clear h hf
  go_enter Tryz.func15, Tryz.ntmps15
  go_wp2_with fail
  go_loopw [3, 4] (CURel l w) (fun _ c _ => l.length - (intOf c).toNat)
  case atStart => exact ⟨0, [], [], rfl, by omega, Tl.nil w, Frm.refl _ _⟩
  case round =>
    obtain ⟨k, rs, B, rfl, hk, tl, f⟩ := hrel
    by_cases hlt : k < l.length
    · have hlt' : (k : Int) < (l.length : Int) := by omega
      have hk9 : (k : Int) ≤ 1000 := by omega
      obtain ⟨b, off, cp, e⟩ := H.out.at (by omega)
      injection e with e1 e2 e3
      subst e1; subst e3
      obtain ⟨xa, xc, ld, hu, _, _⟩ := (H.out.keep0 f).load k hlt
      have hw1 := hu.wf
      have HAD := HF.out.2 _ (List.getElem_mem hlt)
      have HTK := Lib.hid (show l.take (k + 1) = l.take k ++ [l[k]] from List.take_succ_eq_append_getElem hlt)
      have hlm : (l.take k).length ≤ 1000000 := by rw [List.length_take]; omega
      have HTL := Lib.hid (show (l.take k).length = k by rw [List.length_take]; omega)
      have TL := Lib.hid tl
      have F := Lib.hid f
      have HLT := Lib.hid hlt
      have LD := Lib.hid ld
      have HCA := Lib.hid (fun W (g : Frm [] wr W) => Pt.CopyP_any (pv (.slice xa (l[k]).root.ads.length xc) (l[k]).root.b (l[k]).root.l (l[k]).root.s) (l[k]).root W ((UbV.root hu).keep0 g) HAD)
      generalize l.take k = m at *
      generalize l[k] = u at *
      clear tl f ld hu hlt HAD
      go_upto_region 6 with (first
        | ((with_reducible (show wpList _ _ _ (Oper.mk _ (Op.load 28 _) _ _ _ _ :: _) _ _)); refine wpList_load_g (by rfl) 28 _ rfl _ rfl LD.out ?_)
        | ((with_reducible (show wpList _ _ _ (Oper.mk _ (Op.alloc 28) _ _ _ _ :: _) _ _)); refine wpList_lay28 rfl rfl rfl _ _ rfl (v := .slice xa u.root.ads.length xc) rfl (u := u) hw1 rfl rfl ?_))
      have f1 : Frm [] wr (wr.alloc (.cells (uc (.slice xa u.root.ads.length xc) u).toArray 28)) := (Frm.refl [] wr).alloc _
      have B5 := Lib.hid (UB.new wr (.slice xa u.root.ads.length xc) hw1)
      have RO := Lib.hid B5.out.gets.root
      have HC := Lib.hid (HCA.out _ f1)
      have hsz : (wr.alloc (.cells (uc (.slice xa u.root.ads.length xc) u).toArray 28)).heap.size = wr.heap.size + 1 := by simp
      unfold Pt.OwnP at HC
      clear LD HCA
      generalize wr.alloc (.cells (uc (.slice xa u.root.ads.length xc) u).toArray 28) = w1 at *
      obtain ⟨g5, hg5⟩ : ∃ g5, wr.heap.size = g5 := ⟨_, rfl⟩
      rw [hg5] at B5 RO hsz ⊢
      have HSZ := Lib.hid (And.intro hg5 hsz)
      have FA := Lib.hid f1
      clear hg5 hsz f1
      go_upto_region 7 with (first
        | ((with_reducible (show wpList _ _ _ (Oper.mk _ (Op.load 26 _) _ _ _ _ :: _) _ _)); refine wpList_load_g (by rfl) 26 _ rfl _ rfl RO.out ?_)
        | (go_at_call 49; refine HC.out.mono ?_; rintro r w2 ⟨ya, yc, ys, rfl, ox, f2, nx⟩; have O2 := Lib.hid ox; have F2 := Lib.hid f2; have N2 := Lib.hid nx; clear ox f2 nx)
        | ((with_reducible (show wpList _ _ _ (Oper.mk _ (Op.store 26 _ _) _ _ _ _ :: _) _ _)); refine wpList_store_mid rfl 26 (.tmp 19) (.tmp 18) rfl g5 1 (pc (.slice ya u.root.ads.length yc) u.root.b u.root.l u.root.s).toArray rfl rfl (by rw [Pt.pc_size, hw1.sum]; exact (B5.out.keep0 F2.out).1.there 35 (by rw [uc_length hw1]; decide)) (by rw [i26, Pt.pc_size, hw1.sum]) (Pt.pc_one _ _ _) ?_))
      have B7 := Lib.hid (show UB (w2.setCells g5 1 (pc (.slice ya u.root.ads.length yc) u.root.b u.root.l u.root.s)) g5 (.slice ya u.root.ads.length yc) u from (B5.out.keep0 F2.out).setRoot (v' := .slice ya u.root.ads.length yc) (p := u.root) hw1.sum)
      have f3 : Frm [g5] w2 (w2.setCells g5 1 (pc (.slice ya u.root.ads.length yc) u.root.b u.root.l u.root.s)) := Frm.setCells _ _ _ (Frm.refl _ _) (.inl (by simp))
      have O3 := Lib.hid (O2.out.keep f3 (fun j hj hm => by have := N2.out j hj; have := HSZ.out; simp at hm; omega))
      have F3 := Lib.hid (show Frm [] wr (w2.setCells g5 1 (pc (.slice ya u.root.ads.length yc) u.root.b u.root.l u.root.s)) from (FA.out.trans F2.out (by simp)).trans f3 (fun j hj => .inr (by have := HSZ.out; simp at hj; omega)))
      clear f3 B5 RO HC O2
      generalize w2.setCells g5 1 (pc (.slice ya u.root.ads.length yc) u.root.b u.root.l u.root.s) = w3 at *
      have TL3 := Lib.hid (TL.out.keep0 F3.out)
      have G7 := Lib.hid B7.out.gets.all
      have NB := Lib.hid (show ∀ j ∈ blk (.slice ya u.root.ads.length yc), wr.heap.size ≤ j from fun j hj => by have := N2.out j hj; have := FA.out.size; omega)
      go_wp2_with (first
        | ((with_reducible (show wpList _ _ _ (Oper.mk _ (Op.load 28 _) _ _ _ _ :: _) _ _)); refine wpList_load_g (by rfl) 28 _ rfl _ rfl G7.out ?_)
        | ((with_reducible (show wpList _ _ _ (Oper.mk _ (Op.buildSlice _ _ _) _ _ _ _ :: _) _ _)); refine wpList_tl (x := rowU (.slice ya u.root.ads.length yc) rfl u hw1) (u := u) TL3.out hlm ⟨ya, yc, ys, rfl, O3.out, hw1⟩ (fun j hj hm => by rw [rb_uc (u := u) rfl] at hj; have := NB.out j hj; have := (TL.out.lo j hm).2; omega) (fun j hj => by rw [rb_uc (u := u) rfl] at hj; have := NB.out j hj; have := F.out.size; omega) (by have := F.out.size; have := F3.out.size; omega) rfl rfl (.tmp 21) (.tmp 20) (.tmp 22) 22 rfl rfl rfl rfl rfl rfl ?_; intro a9 c9 w9 m9 f9 n9))
      have HN := Lib.hid (show CURel l w (.slice a9 (m.length + 1) c9) (.int .i64 ((k : Int) + 1)) w9 from ⟨k + 1, _, _, by go_num, HLT.out, by rw [HTK.out]; exact m9, (F.out.trans F3.out (by simp)).trans f9 (fun j hj => .inr (TL.out.lo j (TL.out.inv j hj)).1)⟩)
      clear m9 f9 n9
      go_roundw
      case rel => exact HN.out
      case measure => simp [intOf]; have := HLT.out; omega
    · obtain rfl : k = l.length := by omega
      rw [List.take_length] at tl
      have TL := Lib.hid tl
      have F := Lib.hid f
      clear tl f
      go_wp2_with fail
      go_ret
      exact ⟨_, rs, B, rfl, TL.out, F.out⟩
end Go.Proofs.YtjdejhgfkjeeiaaGreatDoor

namespace Go.Proofs.YtjdejhgfkjeeiaaGreatDoor
open Go.RowKit
set_option linter.unusedVariables false
set_option linter.unusedSimpArgs false
set_option maxRecDepth 100000

open Pt (Pt may enc readPt readE zeroPt pc pv PtV SlA OwnA)
open Kr (OwnE SlE Enco RowTys)
theorem SlE.cut69 {w : World} {a : Option Addr} {n cap : Nat} {l : List RowT} {sp : List Value} (h : SlE eR 69 w (.slice a n cap) l sp) (lo hi : Nat) (h1 : lo ≤ hi) (h2 : hi ≤ l.length) :
    SlE eR 69 w (.slice (if cap = lo then a else a.map (·.add (lo * 69))) (hi - lo) (cap - lo)) ((l.drop lo).take (hi - lo)) (Kr.flt eR (l.drop hi) ++ sp) := by
  have hlen : ((l.drop lo).take (hi - lo)).length = hi - lo := by simp; omega
  have e1 := Kr.flt_length encR l
  obtain ⟨k1, ⟨k2, k3, k4⟩ | ⟨a, k2, k3, k4⟩ | ⟨b, off, c, k2, k3, k4, k5, k6⟩⟩ := h
  · cases k2
    obtain rfl : l = [] := List.eq_nil_of_length_eq_zero k3
    subst k4
    simp at h2
    subst h2
    obtain rfl : lo = 0 := by omega
    simpa [Kr.flt] using SlE.nil eR 69 w
  · cases k2
    obtain rfl : l = [] := List.eq_nil_of_length_eq_zero k3
    subst k4
    simp at h2
    subst h2
    obtain rfl : lo = 0 := by omega
    exact ⟨rfl, .inr (.inl ⟨a, by simp, rfl, rfl⟩)⟩
  · cases k2
    rw [List.length_append] at k5
    have hl : l.drop lo = (l.drop lo).take (hi - lo) ++ l.drop hi := by
      conv => lhs; rw [← List.take_append_drop (hi - lo) (l.drop lo)]
      rw [List.drop_drop, show lo + (hi - lo) = hi by omega]
    have hsz : (Kr.flt eR ((l.drop lo).take (hi - lo)) ++ (Kr.flt eR (l.drop hi) ++ sp)).length = (cap - lo) * 69 := by
      rw [List.length_append, List.length_append, Kr.flt_length encR, Kr.flt_length encR, hlen, List.length_drop]
      omega
    by_cases hcl : cap = lo
    · rw [if_pos hcl]
      refine ⟨by rw [Kr.flt_length encR], .inr (.inr ⟨b, off, cap - lo, by rw [hlen], by omega, by omega, hsz, fun i u hu => ?_⟩)⟩
      have : i < (Kr.flt eR ((l.drop lo).take (hi - lo)) ++ (Kr.flt eR (l.drop hi) ++ sp)).length := by
        rcases Nat.lt_or_ge i (Kr.flt eR ((l.drop lo).take (hi - lo)) ++ (Kr.flt eR (l.drop hi) ++ sp)).length with h | h
        · exact h
        · rw [List.getElem?_eq_none h] at hu; cases hu
      rw [hsz] at this
      omega
    · rw [if_neg hcl]
      refine ⟨by rw [Kr.flt_length encR], .inr (.inr ⟨b, off + lo * 69, cap - lo, by simp [add_plain]; omega, by omega, by omega, hsz, fun i u hu => ?_⟩)⟩
      have := k6 (lo * 69 + i) u (by
        rw [← List.append_assoc, ← Kr.flt_append, ← hl] at hu
        have e : Kr.flt eR l = Kr.flt eR (l.take lo) ++ Kr.flt eR (l.drop lo) := by rw [← Kr.flt_append, List.take_append_drop]
        have e2 : (Kr.flt eR (l.take lo)).length = lo * 69 := by rw [Kr.flt_length encR, List.length_take, Nat.min_eq_left (by omega)]
        rw [e, List.append_assoc, List.getElem?_append_right (by omega), e2]
        simpa using hu)
      rw [Nat.add_assoc]
      exact this
theorem cut_l30 {w : World} {a : Option Addr} {n cap : Nat} {l : List RowT} {sp : List Value} (h : SlE eR 69 w (.slice a n cap) l sp) (lo : Nat) (h1 : lo ≤ l.length) :
    ∃ a' c', (∀ (wx : World), (Instr.slice 30 (.slice a n cap) (some (.int .i64 (lo : Int))) none none).run Tryz.prog wx = .ok (.slice a' (l.length - lo) c') wx) ∧ SlE eR 69 w (.slice a' (l.length - lo) c') (l.drop lo) sp := by
  obtain ⟨a2, c2, e, hle, hm⟩ := h.form
  cases e
  have hc := SlE.cut69 h lo l.length h1 (Nat.le_refl _)
  rw [List.take_of_length_le (by simp), List.drop_length, show Kr.flt eR ([] : List RowT) ++ sp = sp from rfl] at hc
  refine ⟨_, _, fun wx => ?_, hc⟩
  have he : Tryz.prog.elem 30 = 28 := by kernel_rfl
  have hsz : (sizeOf (Tryz.prog.elem 30)).run Tryz.prog wx = .ok 69 wx := by
    obtain ⟨i, hi', hs⟩ := Option.map_eq_some_iff.1 i28
    rw [he]; simp [sizeOf, typeInfo, hi', hs]
  rw [run_slice_l (P := Tryz.prog) wx 30 a l.length cap (by rw [he]; exact Tryz.underlying30) .i64 lo (by omega) (by omega), hsz]
  simp [Result.andThen, sliced]
theorem cut_h30 {w : World} {a : Option Addr} {n cap : Nat} {l : List RowT} {sp : List Value} (h : SlE eR 69 w (.slice a n cap) l sp) (hi : Nat) (h2 : hi ≤ l.length) :
    ∃ a' c' sp', (∀ (wx : World), (Instr.slice 30 (.slice a n cap) none (some (.int .i64 (hi : Int))) none).run Tryz.prog wx = .ok (.slice a' hi c') wx) ∧ SlE eR 69 w (.slice a' hi c') (l.take hi) sp' := by
  obtain ⟨a2, c2, e, hle, hm⟩ := h.form
  cases e
  have hc := SlE.cut69 h 0 hi (Nat.zero_le _) h2
  simp only [List.drop_zero, Nat.sub_zero] at hc
  refine ⟨_, _, _, fun wx => ?_, hc⟩
  have he : Tryz.prog.elem 30 = 28 := by kernel_rfl
  have hsz : (sizeOf (Tryz.prog.elem 30)).run Tryz.prog wx = .ok 69 wx := by
    obtain ⟨i, hi', hs⟩ := Option.map_eq_some_iff.1 i28
    rw [he]; simp [sizeOf, typeInfo, hi', hs]
  rw [run_slice_h (P := Tryz.prog) wx 30 a l.length cap (by rw [he]; exact Tryz.underlying30) .i64 hi (by omega) (by omega), hsz]
  simp [Result.andThen, sliced]
/-- A slice that is empty, its row new. -/
theorem own_empty (w : World) : OwnE eR 69 28 (w.alloc (.cells #[] 28)) (.slice (some ⟨w.heap.size, 0, none⟩) 0 0) [] [] :=
  OwnE.of_heap encR (heap_alloc_new _ _) rfl (Nat.le_refl _) rfl (by simp [maxLen])
section
variable {ops : Array Oper} {o : Oper} {a : Act} {w : World} {K : Act → World → Prop} {Q : Exit → Act → World → Prop} {E : Prop}
theorem step_empty30 (hg : o.guard = none) (ho : o.op = .buildSlice 30 0 #[]) (h : ∀ v' w', OwnE eR 69 28 w' v' [] [] → Frm [] w w' → (∀ i ∈ blk v', w.heap.size ≤ i) → K (a.put o.dst v') w') :
    if Region.wanted o (yielded ops a.tmps) = true then Oper.wp Tryz.prog o a w K Q else E := by
  refine step_val (v := .slice (some ⟨w.heap.size, 0, none⟩) 0 0) (w' := w.alloc (.cells #[] 28)) hg ?_ (h _ _ (own_empty w) ((Frm.refl [] w).alloc _) (fun i hi => by simp [blk] at hi; omega))
  have he : (Instr.buildSlice 30 0 #[]).run Tryz.prog w = .ok (.slice (some ⟨w.heap.size, 0, none⟩) 0 0) (w.alloc (.cells #[] 28)) := by
    go_simp
  simp [execOp, ho, he, Result.andThen]
theorem step_us1 (hw : Region.wanted o (yielded ops a.tmps) = true) (p : Operand) (ho : o.op = .buildSlice 30 1 #[(0, p)]) {r : RowT} (hp : a.eval p = .agg r.1.toArray)
    (k : ∀ v' w', SlE eR 69 w' v' [r] [] → Frm [] w w' → (∀ i ∈ blk v', w.heap.size ≤ i ∧ i < w'.heap.size) → K (a.put o.dst v') w') : if Region.wanted o (yielded ops a.tmps) = true then Oper.wp Tryz.prog o a w K Q else E := by
  have f : Frm [] w (w.alloc (.cells r.1.toArray 28)) := (Frm.refl [] w).alloc _
  exact step_bsTo hw 1 _ ho r.1.toArray (by simp only [List.map_toArray, List.map_cons, List.map_nil, hp]; exact built28 r.2.1) (k _ _ (Kr.SlE.of_block (T := 28) encR (by rw [Kr.flt_one]; exact heap_alloc_new _ _) rfl (by decide)) f (fun i hi => by simp [blk] at hi; subst hi; simp))
theorem step_app30 {v y : Value} {l m : List RowT} {sp msp : List Value} (hO : OwnE eR 69 28 w v l sp) (hS : SlE eR 69 w y m msp) (hb : l.length + m.length ≤ 1000000000)
    (hg : o.guard = none) (s x : Operand) (hop : o.op = Op.call { callee := Callee.builtin Builtin.append, args := #[s, x], argTypes := #[30, 30] }) (hs : a.eval s = v) (hx : a.eval x = y)
    (kk : ∀ v' w' sp', OwnE eR 69 28 w' v' (l ++ m) sp' → Frm (blk v) w w' → (∀ i ∈ blk v', i ∈ blk v ∨ w.heap.size ≤ i) → K (a.put o.dst v') w') :
    if Region.wanted o (yielded ops a.tmps) = true then Oper.wp Tryz.prog o a w K Q else E :=
  Kr.step_append_e encR tysU hO hS hb (by decide) hg s x hop hs hx (fun a' cap' w' sp' h1 h2 h3 => kk _ w' sp' h1 h2 h3)
end
theorem ins_get {α β : Type} : ∀ {k : Nat} {rs : List α} {B : List β} {x : α} {u : β}, rs.length = B.length → k ≤ rs.length → ∀ (i : Nat) (r : α) (v : β), (rs.take k ++ x :: rs.drop k)[i]? = some r → (B.take k ++ u :: B.drop k)[i]? = some v → (∃ j : Nat, rs[j]? = some r ∧ B[j]? = some v) ∨ (r = x ∧ v = u) := by
  intro k rs B x u hl hk i r v h1 h2
  rcases Nat.lt_or_ge i k with hi | hi
  · rw [List.getElem?_append_left (by simp; omega), List.getElem?_take_of_lt hi] at h1
    rw [List.getElem?_append_left (by simp; omega), List.getElem?_take_of_lt hi] at h2
    exact .inl ⟨i, h1, h2⟩
  · rw [List.getElem?_append_right (by simp; omega), List.length_take, Nat.min_eq_left hk] at h1
    rw [List.getElem?_append_right (by simp; omega), List.length_take, Nat.min_eq_left (by omega)] at h2
    rcases Nat.eq_or_lt_of_le hi with e | e
    · subst e
      simp at h1 h2
      exact .inr ⟨h1.symm, h2.symm⟩
    · obtain ⟨m, hm⟩ : ∃ m, i - k = m + 1 := ⟨i - k - 1, by omega⟩
      rw [hm] at h1 h2
      simp only [List.getElem?_cons_succ, List.getElem?_drop] at h1 h2
      exact .inl ⟨k + m, h1, h2⟩
/-- One laid among those that are there, in a row that is new. -/
theorem Td.ins {w0 w w' : World} {ov v : Value} {B : List Ub} {rs : List RowT} {x : RowT} {u : Ub} {k : Nat} {sp : List Value} (h : Td w0 w ov B rs) (f : Frm [] w w') (hk : k ≤ B.length)
    (ho : OwnE eR 69 28 w' v (rs.take k ++ x :: rs.drop k) sp) (hb : ∀ i ∈ blk v, w.heap.size ≤ i) (hx : RowV w x u) (hx2 : ∀ j ∈ rb x, j < w.heap.size) : Td w0 w' v (B.take k ++ u :: B.drop k) (rs.take k ++ x :: rs.drop k) := by
  have hlen := h.len
  refine ⟨⟨sp, ho⟩, by simp; omega, fun i r v2 h1 h2 => ?_, fun i hi => Nat.le_trans h.frm.size (hb i hi), h.frm.trans f (by simp)⟩
  have hup : ∀ j, j < w.heap.size → j ∉ blk v ∧ j < w'.heap.size := fun j hj => ⟨fun hm => by have := hb j hm; omega, Nat.lt_of_lt_of_le hj f.size⟩
  rcases ins_get hlen (by omega) i r v2 h1 h2 with ⟨j, j1, j2⟩ | ⟨rfl, rfl⟩
  · obtain ⟨q1, q2⟩ := h.row j r v2 j1 j2
    exact ⟨q1.keepz f, q2.imp id (fun q m hm => hup m (q m hm).2)⟩
  · exact ⟨hx.keepz f, .inr fun m hm => hup m (hx2 m hm)⟩
theorem UbV.sla {w : World} {a : Option Addr} {cap : Nat} {u : Ub} (h : UbV w (uv (.slice a u.root.ads.length cap) u) u) : ∃ sp, SlA w (.slice a u.root.ads.length cap) u.root.ads sp := by
  obtain ⟨a2, c2, sp, e, hA, hw⟩ := h
  have e1 : (uc (.slice a u.root.ads.length cap) u).toArray = (uc (.slice a2 u.root.ads.length c2) u).toArray := by injection e
  have e2 := congrArg (fun x : Array Value => x.toList[1]?) e1
  have e3 : some (Value.slice a u.root.ads.length cap) = some (Value.slice a2 u.root.ads.length c2) := e2
  injection e3 with e4
  rw [e4]
  exact ⟨sp, hA⟩
theorem ub_store {w : World} {g : Nat} {v v' : Value} {u : Ub} (h : UB w g v u) : UB (w.setCell ⟨g, 1, none⟩ v') g v' u := by
  refine ⟨?_, h.2⟩
  have := heap_setCell_same (i := 1) v' h.1
  exact this
theorem insU_length (u : Ub) : ∀ B : List Ub, (insU u B).length ≤ B.length + 1
  | [] => Nat.le_refl _
  | b :: r => by
    have ih := insU_length u r
    unfold insU
    split
    · simp only [List.length_cons]; omega
    · split
      · simp only [List.length_cons]; omega
      · simp only [List.length_cons]; omega
theorem bestU_take {l : List Ub} {i : Nat} (h : i < l.length) : bestU (l.take (i + 1)) = if mayUB l[i] = true then insU l[i] (bestU (l.take i)) else bestU (l.take i) := by
  rw [List.take_succ_eq_append_getElem h]
  split
  · rename_i hm; exact bestU_yes hm
  · rename_i hm; exact bestU_no (by simpa using hm)
theorem bestU_length : ∀ {l : List Ub} {i : Nat}, i ≤ l.length → (bestU (l.take i)).length ≤ i
  | l, 0, _ => by simp [bestU]
  | l, i + 1, h => by
    rw [bestU_take (show i < l.length by omega)]
    have ih := bestU_length (l := l) (i := i) (by omega)
    split
    · have := insU_length l[i] (bestU (l.take i)); omega
    · omega
end Go.Proofs.YtjdejhgfkjeeiaaGreatDoor

namespace Go.Proofs.YtjdejhgfkjeeiaaGreatDoor
open Go.RowKit
set_option linter.unusedVariables false
set_option linter.unusedSimpArgs false
set_option maxRecDepth 100000

open Pt (Pt may enc readPt readE zeroPt pc pv PtV SlA OwnA)
open Kr (OwnE SlE Enco RowTys)
def RBestP (l : List Ub) (w : World) (r : Ending) (w' : World) : Prop := ∃ v rs, r = .returned v ∧ Td w w' v (bestU l) rs ∧ ∀ x ∈ rs, ∀ j ∈ rb x, w.heap.size ≤ j
def RBRel (l : List Ub) (w : World) (ov cv : Value) (wr : World) : Prop := ∃ (i : Nat) (rs : List RowT), cv = .int .i64 i ∧ i ≤ l.length ∧ Td w wr ov (bestU (l.take i)) rs ∧ ∀ x ∈ rs, ∀ j ∈ rb x, w.heap.size ≤ j
/-- How many of those that are told are ahead of one. -/
def AhRel (B : List Ub) (u : Ub) (w : World) (cv : Value) (wr : World) : Prop := ∃ k : Nat, cv = .int .i64 k ∧ k ≤ B.length ∧ (∀ j (h : j < B.length), j < k → ltE (entU B[j]) (entU u) = true) ∧ Frm [] w wr
theorem und30 : Tryz.prog.underlying 30 = some (.slice (Tryz.prog.elem 30)) := by kernel_rfl
/-- An element, loaded whole in whatever later world. -/
theorem Us.loadz {w : World} {b off n cap : Nat} {l : List Ub} (h : Us w (.slice (some ⟨b, off, none⟩) n cap) l) (i : Nat) (hi : i < l.length) :
    ∃ a c, (∀ z, Frm [] w z → (Instr.loadAt 28 (.pointer (some ⟨b, off + i * 69, none⟩))).run Tryz.prog z = .ok (uv (.slice a (l[i]).root.ads.length c) l[i]) z) ∧ UbV w (uv (.slice a (l[i]).root.ads.length c) l[i]) l[i] := by
  obtain ⟨rs, sp, hs, hl, hr⟩ := h
  have hi2 : i < rs.length := by omega
  obtain ⟨a, c, s, e, hA, hw⟩ := hr i rs[i] l[i] (List.getElem?_eq_getElem _) (List.getElem?_eq_getElem _)
  refine ⟨a, c, fun z fz => ?_, ⟨a, c, s, rfl, hA, hw⟩⟩
  have hc : ∀ j u, (uc (.slice a (l[i]).root.ads.length c) l[i])[j]? = some u → z.cell? ⟨b, off + i * 69 + j, none⟩ = some u := fun j u hu => by
    have := SlE.cell encR (hs.keep0 fz) i hi2 j (u := u) (by rw [show eR rs[i] = (rs[i]).1 from rfl, e]; exact hu)
    rw [Nat.add_assoc]; exact this
  obtain ⟨d, h1, h2⟩ := Option.map_eq_some_iff.1 d28
  exact run_loadAt_mid z b (off + i * 69) 28 _ d (fun j u hu => hc j u hu) h1 h2 (by rw [i28, uc_length hw])
set_option maxHeartbeats 16000000 in
theorem RefBest_any (v : Value) (l : List Ub) (w : World) (h : Us w v l) (hf : Fits l) : Calls Tryz.prog 46 #[v] w (RBestP l w) := by
  obtain ⟨a, cap, rfl⟩ := h.form
  have H := Lib.hid h
  have HF := Lib.hid hf
  have HW := Lib.hid h.wf
  have hl9 : (l.length : Int) ≤ 1000 := by have := hf.1; omega
  clear h hf
  go_enter Tryz.func46, Tryz.ntmps46
  go_wp2_with fail
  go_loopw [3, 4] (RBRel l w) (fun _ cv _ => l.length - (intOf cv).toNat)
  case atStart => exact ⟨0, [], rfl, by omega, by rw [List.take_zero, bestU_nil]; exact Td.nil w, fun x hx => by cases hx⟩
  case round =>
    obtain ⟨i, rs, rfl, hi, td, hlo⟩ := hrel
    by_cases hlt : i < l.length
    · have hlt' : (i : Int) < (l.length : Int) := by omega
      have hi9 : (i : Int) ≤ 1000 := by omega
      obtain ⟨b, off, cp, e⟩ := H.out.at (by omega)
      injection e with e1 e2 e3
      subst e1; subst e3
      obtain ⟨xa, xc, ldz, hu⟩ := (H.out.keep0 td.frm).loadz i hlt
      have ld := ldz _ (Frm.refl _ _)
      have hw1 := hu.wf
      have HAD := Lib.hid (HF.out.2 _ (List.getElem_mem hlt))
      have HBT := Lib.hid (bestU_take hlt)
      have HBL := Lib.hid (bestU_length (l := l) (i := i) (by omega))
      have HALL := Lib.hid (show ∀ b ∈ bestU (l.take i), WfU b ∧ MayU b from fun b hb => (best_bestU (l := l.take i) (fun u hu => HW.out u (List.mem_of_mem_take hu))).all (fun u hu => HW.out u (List.mem_of_mem_take hu)) b hb)
      have HBA := Lib.hid (show ∀ b ∈ bestU (l.take i), b.root.ads.length ≤ 1000000 from fun b hb => HF.out.2 _ (List.mem_of_mem_take (((best_bestU (l := l.take i) (fun u hu => HW.out u (List.mem_of_mem_take hu))).mem b).1 hb).1))
      have TD := Lib.hid td
      have HLO := Lib.hid hlo
      have LD := Lib.hid ld
      have LDZ := Lib.hid ldz
      have HU := Lib.hid hu
      have HLT := Lib.hid hlt
      generalize hB1 : bestU (l.take (i + 1)) = B1 at *
      have HB1 := Lib.hid hB1
      generalize bestU (l.take i) = B at *
      generalize l[i] = u at *
      clear td hlo ld ldz hu hlt hB1
      obtain ⟨ao, co, eo⟩ := TD.out.us.form
      subst eo
      have HCK := Lib.hid (RefUCheck_any (uv (.slice xa u.root.ads.length xc) u) u wr HU.out HAD.out)
      have HNXT := Lib.hid (show ∀ W, Frm [] wr W → B1 = B → RBRel l w (.slice ao B.length co) (.int .i64 ((i : Int) + 1)) W from fun W f hb => ⟨i + 1, rs, by go_num, HLT.out, by rw [HB1.out, hb]; exact TD.out.keep0 f, HLO.out⟩)
      by_cases hm : mayUB u = true
      · have hme : mayE u = 0 := by unfold mayE; rw [if_pos hm]
        rw [hme] at HCK
        have hbt := HBT.out
        rw [if_pos hm] at hbt
        have HBT2 := Lib.hid hbt
        clear HBT hbt hme
        go_upto_region 7 with (first
          | ((with_reducible (show wpList _ _ _ (Oper.mk _ (Op.load 28 _) _ _ _ _ :: _) _ _)); refine wpList_load_g (by rfl) 28 _ rfl _ rfl LD.out ?_)
          | (go_at_call 20; with_reducible refine Calls.mono HCK.out ?_; rintro r w2 ⟨rfl, f2⟩))
        have F2 := Lib.hid f2
        have TD2 := Lib.hid (TD.out.keep0 f2)
        have HU2 := Lib.hid (HU.out.keep0 f2)
        have LD2 := Lib.hid (show ∀ z, Frm [] w2 z → (Instr.loadAt 28 (.pointer (some ⟨b, off + i * 69, none⟩))).run Tryz.prog z = .ok (uv (.slice xa u.root.ads.length xc) u) z from fun z fz => LDZ.out z (F2.out.trans fz (by simp)))
        have MU := Lib.hid (mayUB_iff.1 hm)
        have hb9 : (B.length : Int) ≤ 1000 := by have := HBL.out; omega
        clear f2 hm HCK
        generalize wr = wA at *
        go_loopw [5] (AhRel B u w2) (fun cv _ => B.length - (intOf cv).toNat)
        case atStart => exact ⟨0, rfl, by omega, fun j h hj => by omega, Frm.refl _ _⟩
        case round =>
          obtain ⟨k, rfl, hk, hah, f3⟩ := hrel
          have hk9 : (k : Int) ≤ 1000 := by omega
          have HAHD := Lib.hid hah
          have F3 := Lib.hid f3
          have HK := Lib.hid hk
          clear hah f3 hk
          by_cases hkb : k < B.length
          · have hkb' : (k : Int) < (B.length : Int) := by omega
            have HKB := Lib.hid hkb
            have US3 := Lib.hid (TD2.out.us.keep0 F3.out)
            obtain ⟨b3, o3, cp3, e⟩ := US3.out.at (by omega)
            injection e with e1 e2 e3
            subst e1; subst e3
            obtain ⟨ya, yc, ldk, huk⟩ := US3.out.loadz k hkb
            have hbk : B[k] ∈ B := List.getElem_mem hkb
            have MK := Lib.hid (HALL.out _ hbk)
            have HLA := Lib.hid (show ltE (entU B[k]) (entU u) = true → AhRel B u w2 (.int .i64 ((k : Int) + 1)) wr from fun hq => ⟨k + 1, by go_num, HKB.out, fun j h hj => by
              rcases Nat.lt_or_ge j k with h2 | h2
              · exact HAHD.out j h h2
              · obtain rfl : j = k := by omega
                exact hq, F3.out⟩)
            have HLZ := Lib.hid (show ∀ z, Frm [] wr z → AhRel B u w2 (.int .i64 ((k : Int) + 1)) wr → AhRel B u w2 (.int .i64 ((k : Int) + 1)) z from fun z fz ⟨q, a1, a2, a3, a4⟩ => ⟨q, a1, a2, a3, a4.trans fz (by simp)⟩)
            have HAHC := Lib.hid (show ∀ z, Frm [] wr z → Calls Tryz.prog 89 #[uv (.slice ya (B[k]).root.ads.length yc) B[k], uv (.slice xa u.root.ads.length xc) u] z fun e w' => e = .returned (.bool (ltE (entU B[k]) (entU u))) ∧ Frm [] z w' from fun z fz => by
              have := ahead_any _ _ B[k] u z (huk.keep0 fz) (HU2.out.keep0 (F3.out.trans fz (by simp))) (HBA.out _ hbk) HAD.out
              rw [aheadB_may MK.out.2 MU.out] at this
              exact this)
            have HIA := Lib.hid (show ltE (entU B[k]) (entU u) = false → (sameU B[k] u = true → B1 = B) ∧ (sameU B[k] u = false → B1 = B.take k ++ u :: B.drop k) from fun hq => by
              have hin := insU_at (u := u) HK.out HAHD.out (fun _ => hq)
              rw [dif_pos hkb] at hin
              rw [HBT2.out, hin]
              constructor
              · intro hs
                split
                · rfl
                · rename_i hn
                  exact absurd (congrArg entU (sameU_iff.1 hs)) hn
              · intro hs
                split
                · rename_i he
                  have := entU_inj MK.out.1 MK.out.2 hw1 MU.out he
                  rw [sameU_iff.2 this] at hs; cases hs
                · rfl)
            have HSMC := Lib.hid (show ∀ z, Frm [] wr z → Calls Tryz.prog 22 #[uv (.slice ya (B[k]).root.ads.length yc) B[k], uv (.slice xa u.root.ads.length xc) u] z fun e w' => e = .returned (.bool (sameU B[k] u)) ∧ Frm [] z w' from fun z fz => RefSame_any _ _ B[k] u z (huk.keep0 fz) (HU2.out.keep0 (F3.out.trans fz (by simp))) (HBA.out _ hbk))
            have LDK := Lib.hid ldk
            have LDU := Lib.hid (show ∀ z, Frm [] wr z → (Instr.loadAt 28 (.pointer (some ⟨b, off + i * 69, none⟩))).run Tryz.prog z = .ok (uv (.slice xa u.root.ads.length xc) u) z from fun z fz => LD2.out z (F3.out.trans fz (by simp)))
            generalize ltE (entU B[k]) (entU u) = lt at *
            generalize sameU B[k] u = sm at *
            clear ldk huk
            generalize B[k] = bk at *
            clear hkb
            go_wp2_with fail
            refine wp_region_held_drew (S := fun z => Frm [] wr z) (by kernel_rfl) ((Frm.refl [] wr).drew) (fun hHeld => ?_)
            refine wpAnyH_take (i := 0) (oi := ⟨some 19, Op.move (Operand.tmp 5), 3, "ref.go:72", #[], none⟩) (v := ?_) rfl (by kernel_rfl) (by kernel_rfl) (by kernel_rfl) (fun _ _ _ h => h) (Or.inl ⟨by rfl, ?_⟩) hHeld ?_
            rotate_left
            focus (intro z hSw; clear hSw; go_simp; try with_reducible rfl)
            try simp only [Act.put, List.setIfInBounds_toArray, List.set_cons_zero, List.set_cons_succ]
            refine wpAnyH_take (i := 1) (oi := ⟨some 20, Op.move (Operand.tmp 3), 30, "ref.go:72", #[], none⟩) (v := ?_) rfl (by kernel_rfl) (by kernel_rfl) (by kernel_rfl) (fun _ _ _ h => h) (Or.inl ⟨by rfl, ?_⟩) hHeld ?_
            rotate_left
            focus (intro z hSw; clear hSw; go_simp; try with_reducible rfl)
            try simp only [Act.put, List.setIfInBounds_toArray, List.set_cons_zero, List.set_cons_succ]
            refine wpAnyH_take (i := 2) (oi := ⟨some 21, Op.call { callee := Callee.builtin Builtin.len, args := #[Operand.tmp 20], argTypes := #[30] }, 3, "ref.go:72", #[⟨1, .data⟩], none⟩) (v := ?_) rfl (by kernel_rfl) (by kernel_rfl) (by kernel_rfl) (fun _ _ _ h => h) (Or.inl ⟨by rfl, ?_⟩) hHeld ?_
            rotate_left
            focus (intro z hSw; clear hSw; go_simp; try with_reducible rfl)
            try simp only [Act.put, List.setIfInBounds_toArray, List.set_cons_zero, List.set_cons_succ]
            refine wpAnyH_take (i := 3) (oi := ⟨some 22, Op.binOp BinOp.lss 3 (Operand.tmp 19) (Operand.tmp 21) 3, 4, "ref.go:72", #[⟨0, .data⟩, ⟨2, .data⟩], none⟩) (v := ?_) rfl (by kernel_rfl) (by kernel_rfl) (by kernel_rfl) (fun _ _ _ h => h) (Or.inl ⟨by rfl, ?_⟩) hHeld ?_
            rotate_left
            focus (intro z hSw; clear hSw; go_simp; try with_reducible rfl)
            try simp only [Act.put, List.setIfInBounds_toArray, List.set_cons_zero, List.set_cons_succ]
            refine wpAnyH_take (i := 4) (oi := ⟨some 23, Op.move (Operand.tmp 22), 4, "ref.go:72", #[⟨3, .data⟩], none⟩) (v := ?_) rfl (by kernel_rfl) (by kernel_rfl) (by kernel_rfl) (fun _ _ _ h => h) (Or.inl ⟨by rfl, ?_⟩) hHeld ?_
            rotate_left
            focus (intro z hSw; clear hSw; go_simp; try with_reducible rfl)
            try simp only [Act.put, List.setIfInBounds_toArray, List.set_cons_zero, List.set_cons_succ]
            refine wpAnyH_take (i := 5) (oi := ⟨some 24, Op.move (Operand.tmp 3), 30, "ref.go:72", #[⟨4, .guard⟩], some (4, true)⟩) (v := ?_) rfl (by kernel_rfl) (by kernel_rfl) (by kernel_rfl) (fun _ _ _ h => h) (Or.inl ⟨by rfl, ?_⟩) hHeld ?_
            rotate_left
            focus (intro z hSw; clear hSw; go_simp; try with_reducible rfl)
            try simp only [Act.put, List.setIfInBounds_toArray, List.set_cons_zero, List.set_cons_succ]
            refine wpAnyH_take (i := 6) (oi := ⟨some 25, Op.move (Operand.tmp 5), 3, "ref.go:72", #[⟨4, .guard⟩], some (4, true)⟩) (v := ?_) rfl (by kernel_rfl) (by kernel_rfl) (by kernel_rfl) (fun _ _ _ h => h) (Or.inl ⟨by rfl, ?_⟩) hHeld ?_
            rotate_left
            focus (intro z hSw; clear hSw; go_simp; try with_reducible rfl)
            try simp only [Act.put, List.setIfInBounds_toArray, List.set_cons_zero, List.set_cons_succ]
            refine wpAnyH_take (i := 7) (oi := ⟨some 26, Op.indexAddr 30 (Operand.tmp 24) (Operand.tmp 25), 0, "ref.go:72", #[⟨5, .data⟩, ⟨6, .data⟩, ⟨4, .guard⟩], some (4, true)⟩) (v := ?_) rfl (by kernel_rfl) (by kernel_rfl) (by kernel_rfl) (fun _ _ _ h => h) (Or.inl ⟨by rfl, ?_⟩) hHeld ?_
            rotate_left
            focus (intro z hSw; clear hSw; go_simp; try with_reducible rfl)
            try simp only [Act.put, List.setIfInBounds_toArray, List.set_cons_zero, List.set_cons_succ]
            refine wpAnyH_take (i := 8) (oi := ⟨some 27, Op.load 28 (Operand.tmp 26), 28, "ref.go:72", #[⟨7, .data⟩, ⟨4, .guard⟩], some (4, true)⟩) rfl (by kernel_rfl) (by kernel_rfl) (by kernel_rfl) (fun _ _ _ h => h) (yieldsIf_ld (by rfl) 28 _ rfl _ rfl (fun z hSw => LDK.out z hSw)) hHeld ?_
            try simp only [Act.put, List.setIfInBounds_toArray, List.set_cons_zero, List.set_cons_succ]
            refine wpAnyH_take (i := 9) (oi := ⟨some 28, Op.move (Operand.tmp 0), 30, "ref.go:72", #[⟨4, .guard⟩], some (4, true)⟩) (v := ?_) rfl (by kernel_rfl) (by kernel_rfl) (by kernel_rfl) (fun _ _ _ h => h) (Or.inl ⟨by rfl, ?_⟩) hHeld ?_
            rotate_left
            focus (intro z hSw; clear hSw; go_simp; try with_reducible rfl)
            try simp only [Act.put, List.setIfInBounds_toArray, List.set_cons_zero, List.set_cons_succ]
            refine wpAnyH_take (i := 10) (oi := ⟨some 29, Op.move (Operand.tmp 4), 3, "ref.go:72", #[⟨4, .guard⟩], some (4, true)⟩) (v := ?_) rfl (by kernel_rfl) (by kernel_rfl) (by kernel_rfl) (fun _ _ _ h => h) (Or.inl ⟨by rfl, ?_⟩) hHeld ?_
            rotate_left
            focus (intro z hSw; clear hSw; go_simp; try with_reducible rfl)
            try simp only [Act.put, List.setIfInBounds_toArray, List.set_cons_zero, List.set_cons_succ]
            refine wpAnyH_take (i := 11) (oi := ⟨some 30, Op.indexAddr 30 (Operand.tmp 28) (Operand.tmp 29), 0, "ref.go:72", #[⟨9, .data⟩, ⟨10, .data⟩, ⟨4, .guard⟩], some (4, true)⟩) (v := ?_) rfl (by kernel_rfl) (by kernel_rfl) (by kernel_rfl) (fun _ _ _ h => h) (Or.inl ⟨by rfl, ?_⟩) hHeld ?_
            rotate_left
            focus (intro z hSw; clear hSw; go_simp; try with_reducible rfl)
            try simp only [Act.put, List.setIfInBounds_toArray, List.set_cons_zero, List.set_cons_succ]
            refine wpAnyH_take (i := 12) (oi := ⟨some 31, Op.load 28 (Operand.tmp 30), 28, "ref.go:72", #[⟨11, .data⟩, ⟨4, .guard⟩], some (4, true)⟩) rfl (by kernel_rfl) (by kernel_rfl) (by kernel_rfl) (fun _ _ _ h => h) (yieldsIf_ld (by rfl) 28 _ rfl _ rfl (fun z hSw => LDU.out z hSw)) hHeld ?_
            try simp only [Act.put, List.setIfInBounds_toArray, List.set_cons_zero, List.set_cons_succ]
            refine wpAnyH_ready (rs := [13]) (by kernel_rfl) (by simp) ?_
            refine AllReadyH.cons (o := ⟨some 32, Op.call { callee := Callee.value (Operand.func 89), args := #[Operand.tmp 27, Operand.tmp 31], argTypes := #[28, 28] }, 4, "ref.go:72", #[⟨8, .data⟩, ⟨12, .data⟩, ⟨4, .chain⟩, ⟨4, .guard⟩], some (4, true)⟩) rfl (fun K hK => ?_) AllReadyH.nil
            go_simp
            refine (HAHC.out _ hHeld).mono ?_
            rintro r wn ⟨rfl, fn⟩
            refine hK.out _ _ ?_ (fun hNext => ?_)
            · exact hHeld.trans fn (by simp)
            clear hK K hHeld
            have hHeld := hNext
            clear hNext
            try simp only [Act.put, List.setIfInBounds_toArray, List.set_cons_zero, List.set_cons_succ]
            refine wpAnyH_take (i := 14) (oi := ⟨some 33, Op.pick (Operand.tmp 23) (Operand.tmp 32) (Operand.const (Value.bool false)), 4, "ref.go:72", #[⟨4, .data⟩, ⟨13, .data⟩], none⟩) (v := ?_) rfl (by kernel_rfl) (by kernel_rfl) (by kernel_rfl) (fun _ _ _ h => h) (Or.inl ⟨by rfl, ?_⟩) hHeld ?_
            rotate_left
            focus (intro z hSw; clear hSw; go_simp; try with_reducible rfl)
            try simp only [Act.put, List.setIfInBounds_toArray, List.set_cons_zero, List.set_cons_succ]
            refine wpAnyH_done (by kernel_rfl) ?_ _
            cases lt with
            | true =>
              go_wp2_with fail
              go_roundw
              case rel => exact HLZ.out _ hHeld (HLA.out rfl)
              case measure => simp [intOf]; have := HKB.out; omega
            | false =>
              have FC := Lib.hid hHeld
              clear hHeld
              generalize wn = wC at *
              have hne : ((k : Int) == (B.length : Int)) = false := by simp; omega
              obtain ⟨H1, H2⟩ := HIA.out rfl
              have HS1 := Lib.hid H1
              have HS2 := Lib.hid H2
              clear H1 H2 HIA HLA HLZ HAHC
              go_wp2_with fail
              refine wp_region_held_drew (S := fun z => Frm [] wC z) (by kernel_rfl) ((Frm.refl [] wC).drew) (fun hHeld => ?_)
              refine wpAnyH_take (i := 0) (oi := ⟨some 36, Op.move (Operand.tmp 5), 3, "ref.go:75", #[], none⟩) (v := ?_) rfl (by kernel_rfl) (by kernel_rfl) (by kernel_rfl) (fun _ _ _ h => h) (Or.inl ⟨by rfl, ?_⟩) hHeld ?_
              rotate_left
              focus (intro z hSw; clear hSw; go_simp; try with_reducible rfl)
              try simp only [Act.put, List.setIfInBounds_toArray, List.set_cons_zero, List.set_cons_succ]
              refine wpAnyH_take (i := 1) (oi := ⟨some 37, Op.move (Operand.tmp 3), 30, "ref.go:75", #[], none⟩) (v := ?_) rfl (by kernel_rfl) (by kernel_rfl) (by kernel_rfl) (fun _ _ _ h => h) (Or.inl ⟨by rfl, ?_⟩) hHeld ?_
              rotate_left
              focus (intro z hSw; clear hSw; go_simp; try with_reducible rfl)
              try simp only [Act.put, List.setIfInBounds_toArray, List.set_cons_zero, List.set_cons_succ]
              refine wpAnyH_take (i := 2) (oi := ⟨some 38, Op.call { callee := Callee.builtin Builtin.len, args := #[Operand.tmp 37], argTypes := #[30] }, 3, "ref.go:75", #[⟨1, .data⟩], none⟩) (v := ?_) rfl (by kernel_rfl) (by kernel_rfl) (by kernel_rfl) (fun _ _ _ h => h) (Or.inl ⟨by rfl, ?_⟩) hHeld ?_
              rotate_left
              focus (intro z hSw; clear hSw; go_simp; try with_reducible rfl)
              try simp only [Act.put, List.setIfInBounds_toArray, List.set_cons_zero, List.set_cons_succ]
              refine wpAnyH_take (i := 3) (oi := ⟨some 39, Op.binOp BinOp.eql 3 (Operand.tmp 36) (Operand.tmp 38) 3, 4, "ref.go:75", #[⟨0, .data⟩, ⟨2, .data⟩], none⟩) (v := ?_) rfl (by kernel_rfl) (by kernel_rfl) (by kernel_rfl) (fun _ _ _ h => h) (Or.inl ⟨by rfl, ?_⟩) hHeld ?_
              rotate_left
              focus (intro z hSw; clear hSw; go_simp; try with_reducible rfl)
              try simp only [Act.put, List.setIfInBounds_toArray, List.set_cons_zero, List.set_cons_succ]
              refine wpAnyH_take (i := 4) (oi := ⟨some 40, Op.move (Operand.tmp 39), 4, "ref.go:75", #[⟨3, .data⟩], none⟩) (v := ?_) rfl (by kernel_rfl) (by kernel_rfl) (by kernel_rfl) (fun _ _ _ h => h) (Or.inl ⟨by rfl, ?_⟩) hHeld ?_
              rotate_left
              focus (intro z hSw; clear hSw; go_simp; try with_reducible rfl)
              try simp only [Act.put, List.setIfInBounds_toArray, List.set_cons_zero, List.set_cons_succ]
              refine wpAnyH_take (i := 5) (oi := ⟨some 41, Op.move (Operand.tmp 3), 30, "ref.go:75", #[⟨4, .guard⟩], some (4, false)⟩) (v := ?_) rfl (by kernel_rfl) (by kernel_rfl) (by kernel_rfl) (fun _ _ _ h => h) (Or.inl ⟨by rfl, ?_⟩) hHeld ?_
              rotate_left
              focus (intro z hSw; clear hSw; go_simp; try with_reducible rfl)
              try simp only [Act.put, List.setIfInBounds_toArray, List.set_cons_zero, List.set_cons_succ]
              refine wpAnyH_take (i := 6) (oi := ⟨some 42, Op.move (Operand.tmp 5), 3, "ref.go:75", #[⟨4, .guard⟩], some (4, false)⟩) (v := ?_) rfl (by kernel_rfl) (by kernel_rfl) (by kernel_rfl) (fun _ _ _ h => h) (Or.inl ⟨by rfl, ?_⟩) hHeld ?_
              rotate_left
              focus (intro z hSw; clear hSw; go_simp; try with_reducible rfl)
              try simp only [Act.put, List.setIfInBounds_toArray, List.set_cons_zero, List.set_cons_succ]
              refine wpAnyH_take (i := 7) (oi := ⟨some 43, Op.indexAddr 30 (Operand.tmp 41) (Operand.tmp 42), 0, "ref.go:75", #[⟨5, .data⟩, ⟨6, .data⟩, ⟨4, .guard⟩], some (4, false)⟩) (v := ?_) rfl (by kernel_rfl) (by kernel_rfl) (by kernel_rfl) (fun _ _ _ h => h) (Or.inl ⟨by rfl, ?_⟩) hHeld ?_
              rotate_left
              focus (intro z hSw; clear hSw; go_simp; try with_reducible rfl)
              try simp only [Act.put, List.setIfInBounds_toArray, List.set_cons_zero, List.set_cons_succ]
              refine wpAnyH_take (i := 8) (oi := ⟨some 44, Op.load 28 (Operand.tmp 43), 28, "ref.go:75", #[⟨7, .data⟩, ⟨4, .guard⟩], some (4, false)⟩) rfl (by kernel_rfl) (by kernel_rfl) (by kernel_rfl) (fun _ _ _ h => h) (yieldsIf_ld (by rfl) 28 _ rfl _ rfl (fun z hSw => LDK.out z (FC.out.trans hSw (by simp)))) hHeld ?_
              try simp only [Act.put, List.setIfInBounds_toArray, List.set_cons_zero, List.set_cons_succ]
              refine wpAnyH_take (i := 9) (oi := ⟨some 45, Op.move (Operand.tmp 0), 30, "ref.go:75", #[⟨4, .guard⟩], some (4, false)⟩) (v := ?_) rfl (by kernel_rfl) (by kernel_rfl) (by kernel_rfl) (fun _ _ _ h => h) (Or.inl ⟨by rfl, ?_⟩) hHeld ?_
              rotate_left
              focus (intro z hSw; clear hSw; go_simp; try with_reducible rfl)
              try simp only [Act.put, List.setIfInBounds_toArray, List.set_cons_zero, List.set_cons_succ]
              refine wpAnyH_take (i := 10) (oi := ⟨some 46, Op.move (Operand.tmp 4), 3, "ref.go:75", #[⟨4, .guard⟩], some (4, false)⟩) (v := ?_) rfl (by kernel_rfl) (by kernel_rfl) (by kernel_rfl) (fun _ _ _ h => h) (Or.inl ⟨by rfl, ?_⟩) hHeld ?_
              rotate_left
              focus (intro z hSw; clear hSw; go_simp; try with_reducible rfl)
              try simp only [Act.put, List.setIfInBounds_toArray, List.set_cons_zero, List.set_cons_succ]
              refine wpAnyH_take (i := 11) (oi := ⟨some 47, Op.indexAddr 30 (Operand.tmp 45) (Operand.tmp 46), 0, "ref.go:75", #[⟨9, .data⟩, ⟨10, .data⟩, ⟨4, .guard⟩], some (4, false)⟩) (v := ?_) rfl (by kernel_rfl) (by kernel_rfl) (by kernel_rfl) (fun _ _ _ h => h) (Or.inl ⟨by rfl, ?_⟩) hHeld ?_
              rotate_left
              focus (intro z hSw; clear hSw; go_simp; try with_reducible rfl)
              try simp only [Act.put, List.setIfInBounds_toArray, List.set_cons_zero, List.set_cons_succ]
              refine wpAnyH_take (i := 12) (oi := ⟨some 48, Op.load 28 (Operand.tmp 47), 28, "ref.go:75", #[⟨11, .data⟩, ⟨4, .guard⟩], some (4, false)⟩) rfl (by kernel_rfl) (by kernel_rfl) (by kernel_rfl) (fun _ _ _ h => h) (yieldsIf_ld (by rfl) 28 _ rfl _ rfl (fun z hSw => LDU.out z (FC.out.trans hSw (by simp)))) hHeld ?_
              try simp only [Act.put, List.setIfInBounds_toArray, List.set_cons_zero, List.set_cons_succ]
              refine wpAnyH_ready (rs := [13]) (by kernel_rfl) (by simp) ?_
              refine AllReadyH.cons (o := ⟨some 49, Op.call { callee := Callee.value (Operand.func 22), args := #[Operand.tmp 44, Operand.tmp 48], argTypes := #[28, 28] }, 4, "ref.go:75", #[⟨8, .data⟩, ⟨12, .data⟩, ⟨4, .chain⟩, ⟨4, .guard⟩], some (4, false)⟩) rfl (fun K hK => ?_) AllReadyH.nil
              go_simp
              refine (HSMC.out _ (FC.out.trans hHeld (by simp))).mono ?_
              rintro r wn ⟨rfl, fn⟩
              refine hK.out _ _ ?_ (fun hNext => ?_)
              · exact hHeld.trans fn (by simp)
              clear hK K hHeld
              have hHeld := hNext
              clear hNext
              try simp only [Act.put, List.setIfInBounds_toArray, List.set_cons_zero, List.set_cons_succ]
              refine wpAnyH_take (i := 14) (oi := ⟨some 50, Op.unOp UnOp.not 4 (Operand.tmp 49), 4, "ref.go:75", #[⟨13, .data⟩, ⟨4, .guard⟩], some (4, false)⟩) (v := ?_) rfl (by kernel_rfl) (by kernel_rfl) (by kernel_rfl) (fun _ _ _ h => h) (Or.inl ⟨by rfl, ?_⟩) hHeld ?_
              rotate_left
              focus (intro z hSw; clear hSw; go_simp; try with_reducible rfl)
              try simp only [Act.put, List.setIfInBounds_toArray, List.set_cons_zero, List.set_cons_succ]
              refine wpAnyH_take (i := 15) (oi := ⟨some 51, Op.pick (Operand.tmp 40) (Operand.const (Value.bool true)) (Operand.tmp 50), 4, "ref.go:75", #[⟨4, .data⟩, ⟨14, .data⟩], none⟩) (v := ?_) rfl (by kernel_rfl) (by kernel_rfl) (by kernel_rfl) (fun _ _ _ h => h) (Or.inl ⟨by rfl, ?_⟩) hHeld ?_
              rotate_left
              focus (intro z hSw; clear hSw; go_simp; try with_reducible rfl)
              try simp only [Act.put, List.setIfInBounds_toArray, List.set_cons_zero, List.set_cons_succ]
              refine wpAnyH_done (by kernel_rfl) ?_ _
              have FD := Lib.hid (F3.out.trans (FC.out.trans hHeld (by simp)) (by simp))
              have FD0 := Lib.hid (FC.out.trans hHeld (by simp))
              clear hHeld
              generalize wn = wD at *
              cases sm with
              | true =>
                go_wp2_with fail
                go_roundw
                case rel => exact HNXT.out _ (F2.out.trans FD.out (by simp)) (HS1.out rfl)
                case measure => simp [intOf]; have := HLT.out; omega
              | false =>
                have HINS := Lib.hid (HS2.out rfl)
                have TDD := Lib.hid (TD2.out.keep0 FD.out)
                have HUD := Lib.hid (HU2.out.keep0 FD.out)
                have LDD := Lib.hid (show ∀ z, Frm [] wD z → (Instr.loadAt 28 (.pointer (some ⟨b, off + i * 69, none⟩))).run Tryz.prog z = .ok (uv (.slice xa u.root.ads.length xc) u) z from fun z fz => LD2.out z (FD.out.trans fz (by simp)))
                clear HS1 HS2 LDK LDU HSMC
                go_upto_region 11 with (first
                  | ((with_reducible (show wpList _ _ _ (Oper.mk _ (Op.load 28 _) _ _ _ _ :: _) _ _)); refine wpList_load_g (by rfl) 28 _ rfl _ rfl (LDD.out _ (Frm.refl _ _)) ?_)
                  | ((with_reducible (show wpList _ _ _ (Oper.mk _ (Op.alloc 28) _ _ _ _ :: _) _ _)); refine wpList_lay28 rfl rfl rfl _ _ rfl (v := .slice xa u.root.ads.length xc) rfl (u := u) hw1 rfl rfl ?_))
                have fE : Frm [] wD (wD.alloc (.cells (uc (.slice xa u.root.ads.length xc) u).toArray 28)) := (Frm.refl [] wD).alloc _
                have UE := Lib.hid (UB.new wD (.slice xa u.root.ads.length xc) hw1)
                have HUE := Lib.hid (HUD.out.keep0 fE)
                have FDE := Lib.hid fE
                clear fE
                generalize wD.alloc (.cells (uc (.slice xa u.root.ads.length xc) u).toArray 28) = wE at *
                obtain ⟨g5, hg5⟩ : ∃ g5, wD.heap.size = g5 := ⟨_, rfl⟩
                rw [hg5] at UE ⊢
                have HG5 := Lib.hid hg5
                clear hg5
                obtain ⟨spa, hSA⟩ := HUE.out.sla
                have o0 : OwnA 47 (wE.alloc (.cells #[] 47)) (.slice (some ⟨wE.heap.size, 0, none⟩) 0 0) [] [] := Pt.OwnA.of_heap (heap_alloc_new _ _) rfl rfl (by simp [maxLen])
                have f0 : Frm [] wE (wE.alloc (.cells #[] 47)) := (Frm.refl _ _).alloc _
                have c1 := (UE.out.keep0 f0).gets.c1
                have HSA := Lib.hid (Pt.SlA.keep hSA f0 (by simp))
                have F0 := Lib.hid f0
                have HSZ := Lib.hid (show g5 < wE.heap.size from UE.out.lt)
                clear hSA f0
                go_upto_region 12 with (at_builtin; refine Pt.wpList_append_ads Pt.AT o0 HSA.out (by have := HAD.out; simp; omega) rfl (.tmp 56) (.tmp 59) rfl rfl rfl ?_; intro a' cap' w' sp' o1 f1 n1; have b3 := (UE.out.keep0 F0.out).keep f1 (by have := HSZ.out; simp [blk]; omega); have z3 : w'.frozen? ⟨g5, 1, none⟩ = false := frozen_of_heap b3.1 1; have c3 := b3.gets.c1)
                have hn : ∀ i ∈ blk (.slice a' u.root.ads.length cap'), wE.heap.size ≤ i := fun i hi => by
                  have h : i = wE.heap.size ∨ wE.heap.size + 1 ≤ i := by simpa [blk] using n1 i (by simpa using hi)
                  omega
                have o1' : OwnA 47 w' (.slice a' u.root.ads.length cap') u.root.ads sp' := by simpa using o1
                have fS : Frm [g5] w' (w'.setCell ⟨g5, 1, none⟩ (.slice a' u.root.ads.length cap')) := (Frm.refl _ _).setCell _ _ (by simp)
                have UF := Lib.hid (show UB (w'.setCell ⟨g5, 1, none⟩ (.slice a' u.root.ads.length cap')) g5 (.slice a' u.root.ads.length cap') u from ub_store b3)
                have OF := Lib.hid (o1'.keep fS (fun i hi => by have := hn i hi; have := HSZ.out; simp; omega))
                have HNF := Lib.hid hn
                have FDF := Lib.hid (show Frm [] wD (w'.setCell ⟨g5, 1, none⟩ (.slice a' u.root.ads.length cap')) from (FDE.out.trans ((F0.out.trans f1 (by simp [blk])).mono (L' := [g5]) (by simp)) (fun i hi => by simp at hi; subst hi; exact .inr (Nat.le_of_eq HG5.out))).trans fS (fun i hi => by simp at hi; subst hi; exact .inr (Nat.le_of_eq HG5.out)))
                clear o1' o1 fS hn n1 f1 c3 z3 b3 o0 c1 F0 HSA UE
                generalize w'.setCell ⟨g5, 1, none⟩ (.slice a' u.root.ads.length cap') = wF at *
                have TDF := Lib.hid (TDD.out.keep0 FDF.out)
                obtain ⟨spo, hown⟩ := TDF.out.own
                have hrl := TDF.out.len
                obtain ⟨ha, hc2, hs2, hrh, hSH⟩ := cut_h30 (OwnE.sl hown) k (by have := HK.out; omega)
                obtain ⟨la, lc2, hrlo, hSL⟩ := cut_l30 (OwnE.sl hown) k (by have := HK.out; omega)
                have HRH := Lib.hid hrh
                have HRL := Lib.hid hrlo
                have SH := Lib.hid hSH
                have SL := Lib.hid hSL
                have HRS := Lib.hid (show rs.length ≤ 1000 by have := HBL.out; omega)
                have HRB := Lib.hid hrl
                have LG := Lib.hid (show ∀ z, Frm [] wF z → (Instr.loadAt 28 (.pointer (some ⟨g5, 0, none⟩))).run Tryz.prog z = .ok (uv (.slice a' u.root.ads.length cap') u) z from fun z fz => (UF.out.keep0 fz).gets.all)
                have RX := Lib.hid (show RowV wF (rowU (.slice a' u.root.ads.length cap') rfl u hw1) u from ⟨a', cap', sp', rfl, OF.out.sl, hw1⟩)
                have RXL := Lib.hid (show ∀ j ∈ rb (rowU (.slice a' u.root.ads.length cap') rfl u hw1), j < wF.heap.size from fun j hj => by rw [rb_uc (u := u) rfl] at hj; exact OF.out.lt j hj)
                have RXG := Lib.hid (show ∀ j ∈ rb (rowU (.slice a' u.root.ads.length cap') rfl u hw1), w.heap.size ≤ j from fun j hj => by rw [rb_uc (u := u) rfl] at hj; have h1 := HNF.out j hj; have h2 := FDE.out.size; have h3 := TDD.out.frm.size; omega)
                clear hown hrh hrlo hSH hSL hrl
                obtain ⟨xr, hxr⟩ : ∃ xr, xr = rowU (.slice a' u.root.ads.length cap') rfl u hw1 := ⟨_, rfl⟩
                have hxv : uv (.slice a' u.root.ads.length cap') u = .agg xr.1.toArray := by rw [hxr]; rfl
                rw [← hxr] at RX RXL RXG
                rw [hxv] at LG
                clear hxr hxv
                refine wp_region_held_drew (S := fun z => Frm [] wF z) (by kernel_rfl) ((Frm.refl [] wF).drew) (fun hHeld => ?_)
                refine wpAnyH_take (i := 1) (oi := ⟨some 64, Op.move (Operand.tmp 3), 30, "ref.go:78", #[], none⟩) (v := ?_) rfl (by kernel_rfl) (by kernel_rfl) (by kernel_rfl) (fun _ _ _ h => h) (Or.inl ⟨by rfl, ?_⟩) hHeld ?_
                rotate_left
                focus (intro z hSw; clear hSw; go_simp; try with_reducible rfl)
                try simp only [Act.put, List.setIfInBounds_toArray, List.set_cons_zero, List.set_cons_succ]
                refine wpAnyH_take (i := 2) (oi := ⟨some 65, Op.move (Operand.tmp 5), 3, "ref.go:78", #[], none⟩) (v := ?_) rfl (by kernel_rfl) (by kernel_rfl) (by kernel_rfl) (fun _ _ _ h => h) (Or.inl ⟨by rfl, ?_⟩) hHeld ?_
                rotate_left
                focus (intro z hSw; clear hSw; go_simp; try with_reducible rfl)
                try simp only [Act.put, List.setIfInBounds_toArray, List.set_cons_zero, List.set_cons_succ]
                refine wpAnyH_take (i := 3) (oi := ⟨some 66, Op.slice 30 (Operand.tmp 64) none (some (Operand.tmp 65)) none, 30, "ref.go:78", #[⟨1, .data⟩, ⟨2, .data⟩], none⟩) rfl (by kernel_rfl) (by kernel_rfl) (by kernel_rfl) (fun _ _ _ h => h) (Or.inl ⟨by rfl, fun z hSw => Pt.exec_slice_hA (.tmp 64) (.tmp 65) rfl rfl rfl und30 (HRH.out z)⟩) hHeld ?_
                try simp only [Act.put, List.setIfInBounds_toArray, List.set_cons_zero, List.set_cons_succ]
                refine wpAnyH_take (i := 5) (oi := ⟨some 68, Op.load 28 (Operand.tmp 6), 28, "ref.go:78", #[], none⟩) rfl (by kernel_rfl) (by kernel_rfl) (by kernel_rfl) (fun _ _ _ h => h) (yieldsIf_ld (by rfl) 28 _ rfl _ rfl (fun z hSw => LG.out z hSw)) hHeld ?_
                try simp only [Act.put, List.setIfInBounds_toArray, List.set_cons_zero, List.set_cons_succ]
                refine wpAnyH_take (i := 8) (oi := ⟨some 71, Op.move (Operand.tmp 3), 30, "ref.go:78", #[], none⟩) (v := ?_) rfl (by kernel_rfl) (by kernel_rfl) (by kernel_rfl) (fun _ _ _ h => h) (Or.inl ⟨by rfl, ?_⟩) hHeld ?_
                rotate_left
                focus (intro z hSw; clear hSw; go_simp; try with_reducible rfl)
                try simp only [Act.put, List.setIfInBounds_toArray, List.set_cons_zero, List.set_cons_succ]
                refine wpAnyH_take (i := 9) (oi := ⟨some 72, Op.move (Operand.tmp 5), 3, "ref.go:78", #[], none⟩) (v := ?_) rfl (by kernel_rfl) (by kernel_rfl) (by kernel_rfl) (fun _ _ _ h => h) (Or.inl ⟨by rfl, ?_⟩) hHeld ?_
                rotate_left
                focus (intro z hSw; clear hSw; go_simp; try with_reducible rfl)
                try simp only [Act.put, List.setIfInBounds_toArray, List.set_cons_zero, List.set_cons_succ]
                refine wpAnyH_take (i := 10) (oi := ⟨some 73, Op.slice 30 (Operand.tmp 71) (some (Operand.tmp 72)) none none, 30, "ref.go:78", #[⟨8, .data⟩, ⟨9, .data⟩], none⟩) rfl (by kernel_rfl) (by kernel_rfl) (by kernel_rfl) (fun _ _ _ h => h) (Or.inl ⟨by rfl, fun z hSw => Pt.exec_slice_lA (.tmp 71) (.tmp 72) rfl rfl rfl und30 (HRL.out z)⟩) hHeld ?_
                try simp only [Act.put, List.setIfInBounds_toArray, List.set_cons_zero, List.set_cons_succ]
                refine wpAnyH_ready (rs := [0, 6]) (by kernel_rfl) (by simp) ?_
                refine AllReadyH.cons (o := ⟨some 63, Op.buildSlice 30 0 #[], 30, "ref.go:78", #[], none⟩) rfl (fun K hK => ?_) ?_
                · refine step_empty30 rfl rfl ?_
                  intro v0 w0e a0 f0 g0
                  have nb0 : ∀ i ∈ blk v0, wF.heap.size ≤ i := fun i hi => Nat.le_trans hHeld.size (g0 i hi)
                  refine hK.out _ _ ?_ (fun hNext => ?_)
                  · exact hHeld.trans f0 (by simp)
                  clear hK K hHeld
                  have hHeld := hNext
                  clear hNext
                  try simp only [Act.put, List.setIfInBounds_toArray, List.set_cons_zero, List.set_cons_succ]
                  refine wpAnyH_ready (rs := [4, 6]) (by kernel_rfl) (by simp) ?_
                  refine AllReadyH.cons (o := ⟨some 67, Op.call { callee := Callee.builtin Builtin.append, args := #[Operand.tmp 63, Operand.tmp 66], argTypes := #[30, 30] }, 30, "ref.go:78", #[⟨0, .data⟩, ⟨3, .data⟩], none⟩) rfl (fun K hK => ?_) ?_
                  · refine step_app30 a0 (SH.out.keep0 hHeld) (by have := HRS.out; simp; omega) rfl (.tmp 63) (.tmp 66) rfl rfl rfl ?_
                    intro v4 w4 sp4 o4 f4 n4
                    have nb4 : ∀ i ∈ blk v4, wF.heap.size ≤ i := fun i hi => by
                      rcases n4 i hi with q | q
                      · exact nb0 i q
                      · have := hHeld.size; omega
                    refine hK.out _ _ ?_ (fun hNext => ?_)
                    · exact hHeld.trans f4 (fun i hi => .inr (nb0 i hi))
                    clear hK K hHeld
                    have hHeld := hNext
                    clear hNext
                    try simp only [Act.put, List.setIfInBounds_toArray, List.set_cons_zero, List.set_cons_succ]
                    refine wpAnyH_ready (rs := [6]) (by kernel_rfl) (by simp) ?_
                    refine AllReadyH.cons (o := ⟨some 69, Op.buildSlice 30 1 #[(0, Operand.tmp 68)], 30, "ref.go:78", #[⟨5, .data⟩], none⟩) rfl (fun K hK => ?_) ?_
                    · refine step_us1 (by rfl) (.tmp 68) rfl (r := xr) rfl ?_
                      intro v6 w6e x6 f6 g6
                      refine hK.out _ _ ?_ (fun hNext => ?_)
                      · exact hHeld.trans f6 (by simp)
                      clear hK K hHeld
                      have hHeld := hNext
                      clear hNext
                      try simp only [Act.put, List.setIfInBounds_toArray, List.set_cons_zero, List.set_cons_succ]
                      refine wpAnyH_ready (rs := [7]) (by kernel_rfl) (by simp) ?_
                      refine AllReadyH.cons (o := ⟨some 70, Op.call { callee := Callee.builtin Builtin.append, args := #[Operand.tmp 67, Operand.tmp 69], argTypes := #[30, 30] }, 30, "ref.go:78", #[⟨4, .data⟩, ⟨6, .data⟩, ⟨4, .chain⟩], none⟩) rfl (fun K hK => ?_) ?_
                      · refine step_app30 (OwnE.keep0 o4 f6) x6 (by have := HRS.out; simp; omega) rfl (.tmp 67) (.tmp 69) rfl rfl rfl ?_
                        intro v7 w7 sp7 o7 f7 n7
                        have nb7 : ∀ i ∈ blk v7, wF.heap.size ≤ i := fun i hi => by
                          rcases n7 i hi with q | q
                          · exact nb4 i q
                          · have := hHeld.size; omega
                        refine hK.out _ _ ?_ (fun hNext => ?_)
                        · exact hHeld.trans f7 (fun i hi => .inr (nb4 i hi))
                        clear hK K hHeld
                        have hHeld := hNext
                        clear hNext
                        try simp only [Act.put, List.setIfInBounds_toArray, List.set_cons_zero, List.set_cons_succ]
                        refine wpAnyH_ready (rs := [11]) (by kernel_rfl) (by simp) ?_
                        refine AllReadyH.cons (o := ⟨some 74, Op.call { callee := Callee.builtin Builtin.append, args := #[Operand.tmp 70, Operand.tmp 73], argTypes := #[30, 30] }, 30, "ref.go:78", #[⟨7, .data⟩, ⟨10, .data⟩, ⟨7, .chain⟩], none⟩) rfl (fun K hK => ?_) ?_
                        · refine step_app30 o7 (SL.out.keep0 hHeld) (by have := HRS.out; simp; omega) rfl (.tmp 70) (.tmp 73) rfl rfl rfl ?_
                          intro v11 w11 sp11 o11 f11 n11
                          have nb11 : ∀ i ∈ blk v11, wF.heap.size ≤ i := fun i hi => by
                            rcases n11 i hi with q | q
                            · exact nb7 i q
                            · have := hHeld.size; omega
                          refine hK.out _ _ ?_ (fun hNext => ?_)
                          · exact hHeld.trans f11 (fun i hi => .inr (nb7 i hi))
                          clear hK K hHeld
                          have hHeld := hNext
                          clear hNext
                          try simp only [Act.put, List.setIfInBounds_toArray, List.set_cons_zero, List.set_cons_succ]
                          refine wpAnyH_take (i := 12) (oi := ⟨some 3, Op.assign (Operand.tmp 74), 30, "ref.go:78", #[⟨11, .data⟩, ⟨11, .chain⟩, ⟨0, .phase⟩, ⟨1, .phase⟩, ⟨2, .phase⟩, ⟨3, .phase⟩, ⟨4, .phase⟩, ⟨5, .phase⟩, ⟨6, .phase⟩, ⟨7, .phase⟩, ⟨8, .phase⟩, ⟨9, .phase⟩, ⟨10, .phase⟩, ⟨11, .phase⟩], none⟩) (v := ?_) rfl (by kernel_rfl) (by kernel_rfl) (by kernel_rfl) (fun _ _ _ h => h) (Or.inl ⟨by rfl, ?_⟩) hHeld ?_
                          rotate_left
                          focus (intro z hSw; clear hSw; go_simp; try with_reducible rfl)
                          try simp only [Act.put, List.setIfInBounds_toArray, List.set_cons_zero, List.set_cons_succ]
                          refine wpAnyH_done (by kernel_rfl) ?_ _
                          have HL := hHeld
                          have ho : OwnE eR 69 28 w11 v11 (rs.take k ++ xr :: rs.drop k) sp11 := by simpa using o11
                          have hbv : ∀ i ∈ blk v11, wF.heap.size ≤ i := nb11
                          have TN := Lib.hid (Td.ins TDF.out hHeld HK.out ho hbv RX.out RXL.out)
                          have HNEW := Lib.hid (show RBRel l w v11 (.int .i64 ((i : Int) + 1)) w11 from ⟨i + 1, _, by go_num, HLT.out, by rw [HB1.out, HINS.out]; exact TN.out, fun y hy j hj => by
                            rcases List.mem_append.1 hy with q | q
                            · exact HLO.out y (List.mem_of_mem_take q) j hj
                            · rcases List.mem_cons.1 q with rfl | q
                              · exact RXG.out j hj
                              · exact HLO.out y (List.mem_of_mem_drop q) j hj⟩)
                          clear ho hbv o11 HL
                          go_wp2_with fail
                          go_roundw
                          case rel => exact HNEW.out
                          case measure => simp [intOf]; have := HLT.out; omega
                        exact AllReadyH.nil
                      exact AllReadyH.nil
                    exact AllReadyH.nil
                  refine AllReadyH.cons (o := ⟨some 69, Op.buildSlice 30 1 #[(0, Operand.tmp 68)], 30, "ref.go:78", #[⟨5, .data⟩], none⟩) rfl (fun K hK => ?_) ?_
                  · refine step_us1 (by rfl) (.tmp 68) rfl (r := xr) rfl ?_
                    intro v6 w6e x6 f6 g6
                    refine hK.out _ _ ?_ (fun hNext => ?_)
                    · exact hHeld.trans f6 (by simp)
                    clear hK K hHeld
                    have hHeld := hNext
                    clear hNext
                    try simp only [Act.put, List.setIfInBounds_toArray, List.set_cons_zero, List.set_cons_succ]
                    refine wpAnyH_ready (rs := [4]) (by kernel_rfl) (by simp) ?_
                    refine AllReadyH.cons (o := ⟨some 67, Op.call { callee := Callee.builtin Builtin.append, args := #[Operand.tmp 63, Operand.tmp 66], argTypes := #[30, 30] }, 30, "ref.go:78", #[⟨0, .data⟩, ⟨3, .data⟩], none⟩) rfl (fun K hK => ?_) ?_
                    · refine step_app30 (OwnE.keep0 a0 f6) (SH.out.keep0 hHeld) (by have := HRS.out; simp; omega) rfl (.tmp 63) (.tmp 66) rfl rfl rfl ?_
                      intro v4 w4 sp4 o4 f4 n4
                      have nb4 : ∀ i ∈ blk v4, wF.heap.size ≤ i := fun i hi => by
                        rcases n4 i hi with q | q
                        · exact nb0 i q
                        · have := hHeld.size; omega
                      refine hK.out _ _ ?_ (fun hNext => ?_)
                      · exact hHeld.trans f4 (fun i hi => .inr (nb0 i hi))
                      clear hK K hHeld
                      have hHeld := hNext
                      clear hNext
                      try simp only [Act.put, List.setIfInBounds_toArray, List.set_cons_zero, List.set_cons_succ]
                      refine wpAnyH_ready (rs := [7]) (by kernel_rfl) (by simp) ?_
                      refine AllReadyH.cons (o := ⟨some 70, Op.call { callee := Callee.builtin Builtin.append, args := #[Operand.tmp 67, Operand.tmp 69], argTypes := #[30, 30] }, 30, "ref.go:78", #[⟨4, .data⟩, ⟨6, .data⟩, ⟨4, .chain⟩], none⟩) rfl (fun K hK => ?_) ?_
                      · refine step_app30 o4 (SlE.keep x6 f4 (fun i hi hm => by have h1 := (g6 i hi).1; have h2 := OwnE.lt a0 i hm; omega)) (by have := HRS.out; simp; omega) rfl (.tmp 67) (.tmp 69) rfl rfl rfl ?_
                        intro v7 w7 sp7 o7 f7 n7
                        have nb7 : ∀ i ∈ blk v7, wF.heap.size ≤ i := fun i hi => by
                          rcases n7 i hi with q | q
                          · exact nb4 i q
                          · have := hHeld.size; omega
                        refine hK.out _ _ ?_ (fun hNext => ?_)
                        · exact hHeld.trans f7 (fun i hi => .inr (nb4 i hi))
                        clear hK K hHeld
                        have hHeld := hNext
                        clear hNext
                        try simp only [Act.put, List.setIfInBounds_toArray, List.set_cons_zero, List.set_cons_succ]
                        refine wpAnyH_ready (rs := [11]) (by kernel_rfl) (by simp) ?_
                        refine AllReadyH.cons (o := ⟨some 74, Op.call { callee := Callee.builtin Builtin.append, args := #[Operand.tmp 70, Operand.tmp 73], argTypes := #[30, 30] }, 30, "ref.go:78", #[⟨7, .data⟩, ⟨10, .data⟩, ⟨7, .chain⟩], none⟩) rfl (fun K hK => ?_) ?_
                        · refine step_app30 o7 (SL.out.keep0 hHeld) (by have := HRS.out; simp; omega) rfl (.tmp 70) (.tmp 73) rfl rfl rfl ?_
                          intro v11 w11 sp11 o11 f11 n11
                          have nb11 : ∀ i ∈ blk v11, wF.heap.size ≤ i := fun i hi => by
                            rcases n11 i hi with q | q
                            · exact nb7 i q
                            · have := hHeld.size; omega
                          refine hK.out _ _ ?_ (fun hNext => ?_)
                          · exact hHeld.trans f11 (fun i hi => .inr (nb7 i hi))
                          clear hK K hHeld
                          have hHeld := hNext
                          clear hNext
                          try simp only [Act.put, List.setIfInBounds_toArray, List.set_cons_zero, List.set_cons_succ]
                          refine wpAnyH_take (i := 12) (oi := ⟨some 3, Op.assign (Operand.tmp 74), 30, "ref.go:78", #[⟨11, .data⟩, ⟨11, .chain⟩, ⟨0, .phase⟩, ⟨1, .phase⟩, ⟨2, .phase⟩, ⟨3, .phase⟩, ⟨4, .phase⟩, ⟨5, .phase⟩, ⟨6, .phase⟩, ⟨7, .phase⟩, ⟨8, .phase⟩, ⟨9, .phase⟩, ⟨10, .phase⟩, ⟨11, .phase⟩], none⟩) (v := ?_) rfl (by kernel_rfl) (by kernel_rfl) (by kernel_rfl) (fun _ _ _ h => h) (Or.inl ⟨by rfl, ?_⟩) hHeld ?_
                          rotate_left
                          focus (intro z hSw; clear hSw; go_simp; try with_reducible rfl)
                          try simp only [Act.put, List.setIfInBounds_toArray, List.set_cons_zero, List.set_cons_succ]
                          refine wpAnyH_done (by kernel_rfl) ?_ _
                          have HL := hHeld
                          have ho : OwnE eR 69 28 w11 v11 (rs.take k ++ xr :: rs.drop k) sp11 := by simpa using o11
                          have hbv : ∀ i ∈ blk v11, wF.heap.size ≤ i := nb11
                          have TN := Lib.hid (Td.ins TDF.out hHeld HK.out ho hbv RX.out RXL.out)
                          have HNEW := Lib.hid (show RBRel l w v11 (.int .i64 ((i : Int) + 1)) w11 from ⟨i + 1, _, by go_num, HLT.out, by rw [HB1.out, HINS.out]; exact TN.out, fun y hy j hj => by
                            rcases List.mem_append.1 hy with q | q
                            · exact HLO.out y (List.mem_of_mem_take q) j hj
                            · rcases List.mem_cons.1 q with rfl | q
                              · exact RXG.out j hj
                              · exact HLO.out y (List.mem_of_mem_drop q) j hj⟩)
                          clear ho hbv o11 HL
                          go_wp2_with fail
                          go_roundw
                          case rel => exact HNEW.out
                          case measure => simp [intOf]; have := HLT.out; omega
                        exact AllReadyH.nil
                      exact AllReadyH.nil
                    exact AllReadyH.nil
                  exact AllReadyH.nil
                refine AllReadyH.cons (o := ⟨some 69, Op.buildSlice 30 1 #[(0, Operand.tmp 68)], 30, "ref.go:78", #[⟨5, .data⟩], none⟩) rfl (fun K hK => ?_) ?_
                · refine step_us1 (by rfl) (.tmp 68) rfl (r := xr) rfl ?_
                  intro v6 w6e x6 f6 g6
                  refine hK.out _ _ ?_ (fun hNext => ?_)
                  · exact hHeld.trans f6 (by simp)
                  clear hK K hHeld
                  have hHeld := hNext
                  clear hNext
                  try simp only [Act.put, List.setIfInBounds_toArray, List.set_cons_zero, List.set_cons_succ]
                  refine wpAnyH_ready (rs := [0]) (by kernel_rfl) (by simp) ?_
                  refine AllReadyH.cons (o := ⟨some 63, Op.buildSlice 30 0 #[], 30, "ref.go:78", #[], none⟩) rfl (fun K hK => ?_) ?_
                  · refine step_empty30 rfl rfl ?_
                    intro v0 w0e a0 f0 g0
                    have nb0 : ∀ i ∈ blk v0, wF.heap.size ≤ i := fun i hi => Nat.le_trans hHeld.size (g0 i hi)
                    refine hK.out _ _ ?_ (fun hNext => ?_)
                    · exact hHeld.trans f0 (by simp)
                    clear hK K hHeld
                    have hHeld := hNext
                    clear hNext
                    try simp only [Act.put, List.setIfInBounds_toArray, List.set_cons_zero, List.set_cons_succ]
                    refine wpAnyH_ready (rs := [4]) (by kernel_rfl) (by simp) ?_
                    refine AllReadyH.cons (o := ⟨some 67, Op.call { callee := Callee.builtin Builtin.append, args := #[Operand.tmp 63, Operand.tmp 66], argTypes := #[30, 30] }, 30, "ref.go:78", #[⟨0, .data⟩, ⟨3, .data⟩], none⟩) rfl (fun K hK => ?_) ?_
                    · refine step_app30 a0 (SH.out.keep0 hHeld) (by have := HRS.out; simp; omega) rfl (.tmp 63) (.tmp 66) rfl rfl rfl ?_
                      intro v4 w4 sp4 o4 f4 n4
                      have nb4 : ∀ i ∈ blk v4, wF.heap.size ≤ i := fun i hi => by
                        rcases n4 i hi with q | q
                        · exact nb0 i q
                        · have := hHeld.size; omega
                      refine hK.out _ _ ?_ (fun hNext => ?_)
                      · exact hHeld.trans f4 (fun i hi => .inr (nb0 i hi))
                      clear hK K hHeld
                      have hHeld := hNext
                      clear hNext
                      try simp only [Act.put, List.setIfInBounds_toArray, List.set_cons_zero, List.set_cons_succ]
                      refine wpAnyH_ready (rs := [7]) (by kernel_rfl) (by simp) ?_
                      refine AllReadyH.cons (o := ⟨some 70, Op.call { callee := Callee.builtin Builtin.append, args := #[Operand.tmp 67, Operand.tmp 69], argTypes := #[30, 30] }, 30, "ref.go:78", #[⟨4, .data⟩, ⟨6, .data⟩, ⟨4, .chain⟩], none⟩) rfl (fun K hK => ?_) ?_
                      · refine step_app30 o4 (SlE.keep (SlE.keep0 x6 f0) f4 (fun i hi hm => by have h1 := (g6 i hi).2; have h2 := g0 i hm; omega)) (by have := HRS.out; simp; omega) rfl (.tmp 67) (.tmp 69) rfl rfl rfl ?_
                        intro v7 w7 sp7 o7 f7 n7
                        have nb7 : ∀ i ∈ blk v7, wF.heap.size ≤ i := fun i hi => by
                          rcases n7 i hi with q | q
                          · exact nb4 i q
                          · have := hHeld.size; omega
                        refine hK.out _ _ ?_ (fun hNext => ?_)
                        · exact hHeld.trans f7 (fun i hi => .inr (nb4 i hi))
                        clear hK K hHeld
                        have hHeld := hNext
                        clear hNext
                        try simp only [Act.put, List.setIfInBounds_toArray, List.set_cons_zero, List.set_cons_succ]
                        refine wpAnyH_ready (rs := [11]) (by kernel_rfl) (by simp) ?_
                        refine AllReadyH.cons (o := ⟨some 74, Op.call { callee := Callee.builtin Builtin.append, args := #[Operand.tmp 70, Operand.tmp 73], argTypes := #[30, 30] }, 30, "ref.go:78", #[⟨7, .data⟩, ⟨10, .data⟩, ⟨7, .chain⟩], none⟩) rfl (fun K hK => ?_) ?_
                        · refine step_app30 o7 (SL.out.keep0 hHeld) (by have := HRS.out; simp; omega) rfl (.tmp 70) (.tmp 73) rfl rfl rfl ?_
                          intro v11 w11 sp11 o11 f11 n11
                          have nb11 : ∀ i ∈ blk v11, wF.heap.size ≤ i := fun i hi => by
                            rcases n11 i hi with q | q
                            · exact nb7 i q
                            · have := hHeld.size; omega
                          refine hK.out _ _ ?_ (fun hNext => ?_)
                          · exact hHeld.trans f11 (fun i hi => .inr (nb7 i hi))
                          clear hK K hHeld
                          have hHeld := hNext
                          clear hNext
                          try simp only [Act.put, List.setIfInBounds_toArray, List.set_cons_zero, List.set_cons_succ]
                          refine wpAnyH_take (i := 12) (oi := ⟨some 3, Op.assign (Operand.tmp 74), 30, "ref.go:78", #[⟨11, .data⟩, ⟨11, .chain⟩, ⟨0, .phase⟩, ⟨1, .phase⟩, ⟨2, .phase⟩, ⟨3, .phase⟩, ⟨4, .phase⟩, ⟨5, .phase⟩, ⟨6, .phase⟩, ⟨7, .phase⟩, ⟨8, .phase⟩, ⟨9, .phase⟩, ⟨10, .phase⟩, ⟨11, .phase⟩], none⟩) (v := ?_) rfl (by kernel_rfl) (by kernel_rfl) (by kernel_rfl) (fun _ _ _ h => h) (Or.inl ⟨by rfl, ?_⟩) hHeld ?_
                          rotate_left
                          focus (intro z hSw; clear hSw; go_simp; try with_reducible rfl)
                          try simp only [Act.put, List.setIfInBounds_toArray, List.set_cons_zero, List.set_cons_succ]
                          refine wpAnyH_done (by kernel_rfl) ?_ _
                          have HL := hHeld
                          have ho : OwnE eR 69 28 w11 v11 (rs.take k ++ xr :: rs.drop k) sp11 := by simpa using o11
                          have hbv : ∀ i ∈ blk v11, wF.heap.size ≤ i := nb11
                          have TN := Lib.hid (Td.ins TDF.out hHeld HK.out ho hbv RX.out RXL.out)
                          have HNEW := Lib.hid (show RBRel l w v11 (.int .i64 ((i : Int) + 1)) w11 from ⟨i + 1, _, by go_num, HLT.out, by rw [HB1.out, HINS.out]; exact TN.out, fun y hy j hj => by
                            rcases List.mem_append.1 hy with q | q
                            · exact HLO.out y (List.mem_of_mem_take q) j hj
                            · rcases List.mem_cons.1 q with rfl | q
                              · exact RXG.out j hj
                              · exact HLO.out y (List.mem_of_mem_drop q) j hj⟩)
                          clear ho hbv o11 HL
                          go_wp2_with fail
                          go_roundw
                          case rel => exact HNEW.out
                          case measure => simp [intOf]; have := HLT.out; omega
                        exact AllReadyH.nil
                      exact AllReadyH.nil
                    exact AllReadyH.nil
                  exact AllReadyH.nil
                exact AllReadyH.nil
          · have hkb2 : ¬ (k : Int) < (B.length : Int) := by omega
            have HKE := Lib.hid (show k = B.length by have := HK.out; omega)
            have hee : ((k : Int) == (B.length : Int)) = true := by have := HKE.out; simp; omega
            have HINS := Lib.hid (show B1 = B.take k ++ u :: B.drop k from by
              have hin := insU_at (u := u) HK.out HAHD.out (fun h => absurd h hkb)
              rw [dif_neg hkb] at hin
              rw [HBT2.out, hin, List.take_of_length_le (by have := HKE.out; omega), List.drop_of_length_le (by have := HKE.out; omega)])
            go_wp2_with fail
            refine wp_region_held_drew (S := fun z => Frm [] wr z) (by kernel_rfl) ((Frm.refl [] wr).drew) (fun hHeld => ?_)
            refine wpAnyH_take (i := 0) (oi := ⟨some 19, Op.move (Operand.tmp 5), 3, "ref.go:72", #[], none⟩) (v := ?_) rfl (by kernel_rfl) (by kernel_rfl) (by kernel_rfl) (fun _ _ _ h => h) (Or.inl ⟨by rfl, ?_⟩) hHeld ?_
            rotate_left
            focus (intro z hSw; clear hSw; go_simp; try with_reducible rfl)
            try simp only [Act.put, List.setIfInBounds_toArray, List.set_cons_zero, List.set_cons_succ]
            refine wpAnyH_take (i := 1) (oi := ⟨some 20, Op.move (Operand.tmp 3), 30, "ref.go:72", #[], none⟩) (v := ?_) rfl (by kernel_rfl) (by kernel_rfl) (by kernel_rfl) (fun _ _ _ h => h) (Or.inl ⟨by rfl, ?_⟩) hHeld ?_
            rotate_left
            focus (intro z hSw; clear hSw; go_simp; try with_reducible rfl)
            try simp only [Act.put, List.setIfInBounds_toArray, List.set_cons_zero, List.set_cons_succ]
            refine wpAnyH_take (i := 2) (oi := ⟨some 21, Op.call { callee := Callee.builtin Builtin.len, args := #[Operand.tmp 20], argTypes := #[30] }, 3, "ref.go:72", #[⟨1, .data⟩], none⟩) (v := ?_) rfl (by kernel_rfl) (by kernel_rfl) (by kernel_rfl) (fun _ _ _ h => h) (Or.inl ⟨by rfl, ?_⟩) hHeld ?_
            rotate_left
            focus (intro z hSw; clear hSw; go_simp; try with_reducible rfl)
            try simp only [Act.put, List.setIfInBounds_toArray, List.set_cons_zero, List.set_cons_succ]
            refine wpAnyH_take (i := 3) (oi := ⟨some 22, Op.binOp BinOp.lss 3 (Operand.tmp 19) (Operand.tmp 21) 3, 4, "ref.go:72", #[⟨0, .data⟩, ⟨2, .data⟩], none⟩) (v := ?_) rfl (by kernel_rfl) (by kernel_rfl) (by kernel_rfl) (fun _ _ _ h => h) (Or.inl ⟨by rfl, ?_⟩) hHeld ?_
            rotate_left
            focus (intro z hSw; clear hSw; go_simp; try with_reducible rfl)
            try simp only [Act.put, List.setIfInBounds_toArray, List.set_cons_zero, List.set_cons_succ]
            refine wpAnyH_take (i := 4) (oi := ⟨some 23, Op.move (Operand.tmp 22), 4, "ref.go:72", #[⟨3, .data⟩], none⟩) (v := ?_) rfl (by kernel_rfl) (by kernel_rfl) (by kernel_rfl) (fun _ _ _ h => h) (Or.inl ⟨by rfl, ?_⟩) hHeld ?_
            rotate_left
            focus (intro z hSw; clear hSw; go_simp; try with_reducible rfl)
            try simp only [Act.put, List.setIfInBounds_toArray, List.set_cons_zero, List.set_cons_succ]
            refine wpAnyH_take (i := 5) (oi := ⟨some 24, Op.move (Operand.tmp 3), 30, "ref.go:72", #[⟨4, .guard⟩], some (4, true)⟩) (v := undef) rfl (by kernel_rfl) (by kernel_rfl) (by kernel_rfl) (fun _ _ _ h => h) (Or.inr ⟨by rfl, rfl⟩) hHeld ?_
            try simp only [Act.put, List.setIfInBounds_toArray, List.set_cons_zero, List.set_cons_succ]
            refine wpAnyH_take (i := 6) (oi := ⟨some 25, Op.move (Operand.tmp 5), 3, "ref.go:72", #[⟨4, .guard⟩], some (4, true)⟩) (v := undef) rfl (by kernel_rfl) (by kernel_rfl) (by kernel_rfl) (fun _ _ _ h => h) (Or.inr ⟨by rfl, rfl⟩) hHeld ?_
            try simp only [Act.put, List.setIfInBounds_toArray, List.set_cons_zero, List.set_cons_succ]
            refine wpAnyH_take (i := 7) (oi := ⟨some 26, Op.indexAddr 30 (Operand.tmp 24) (Operand.tmp 25), 0, "ref.go:72", #[⟨5, .data⟩, ⟨6, .data⟩, ⟨4, .guard⟩], some (4, true)⟩) (v := undef) rfl (by kernel_rfl) (by kernel_rfl) (by kernel_rfl) (fun _ _ _ h => h) (Or.inr ⟨by rfl, rfl⟩) hHeld ?_
            try simp only [Act.put, List.setIfInBounds_toArray, List.set_cons_zero, List.set_cons_succ]
            refine wpAnyH_take (i := 8) (oi := ⟨some 27, Op.load 28 (Operand.tmp 26), 28, "ref.go:72", #[⟨7, .data⟩, ⟨4, .guard⟩], some (4, true)⟩) (v := undef) rfl (by kernel_rfl) (by kernel_rfl) (by kernel_rfl) (fun _ _ _ h => h) (Or.inr ⟨by rfl, rfl⟩) hHeld ?_
            try simp only [Act.put, List.setIfInBounds_toArray, List.set_cons_zero, List.set_cons_succ]
            refine wpAnyH_take (i := 9) (oi := ⟨some 28, Op.move (Operand.tmp 0), 30, "ref.go:72", #[⟨4, .guard⟩], some (4, true)⟩) (v := undef) rfl (by kernel_rfl) (by kernel_rfl) (by kernel_rfl) (fun _ _ _ h => h) (Or.inr ⟨by rfl, rfl⟩) hHeld ?_
            try simp only [Act.put, List.setIfInBounds_toArray, List.set_cons_zero, List.set_cons_succ]
            refine wpAnyH_take (i := 10) (oi := ⟨some 29, Op.move (Operand.tmp 4), 3, "ref.go:72", #[⟨4, .guard⟩], some (4, true)⟩) (v := undef) rfl (by kernel_rfl) (by kernel_rfl) (by kernel_rfl) (fun _ _ _ h => h) (Or.inr ⟨by rfl, rfl⟩) hHeld ?_
            try simp only [Act.put, List.setIfInBounds_toArray, List.set_cons_zero, List.set_cons_succ]
            refine wpAnyH_take (i := 11) (oi := ⟨some 30, Op.indexAddr 30 (Operand.tmp 28) (Operand.tmp 29), 0, "ref.go:72", #[⟨9, .data⟩, ⟨10, .data⟩, ⟨4, .guard⟩], some (4, true)⟩) (v := undef) rfl (by kernel_rfl) (by kernel_rfl) (by kernel_rfl) (fun _ _ _ h => h) (Or.inr ⟨by rfl, rfl⟩) hHeld ?_
            try simp only [Act.put, List.setIfInBounds_toArray, List.set_cons_zero, List.set_cons_succ]
            refine wpAnyH_take (i := 12) (oi := ⟨some 31, Op.load 28 (Operand.tmp 30), 28, "ref.go:72", #[⟨11, .data⟩, ⟨4, .guard⟩], some (4, true)⟩) (v := undef) rfl (by kernel_rfl) (by kernel_rfl) (by kernel_rfl) (fun _ _ _ h => h) (Or.inr ⟨by rfl, rfl⟩) hHeld ?_
            try simp only [Act.put, List.setIfInBounds_toArray, List.set_cons_zero, List.set_cons_succ]
            refine wpAnyH_take (i := 13) (oi := ⟨some 32, Op.call { callee := Callee.value (Operand.func 89), args := #[Operand.tmp 27, Operand.tmp 31], argTypes := #[28, 28] }, 4, "ref.go:72", #[⟨8, .data⟩, ⟨12, .data⟩, ⟨4, .chain⟩, ⟨4, .guard⟩], some (4, true)⟩) (v := undef) rfl (by kernel_rfl) (by kernel_rfl) (by kernel_rfl) (fun _ _ _ h => h) (Or.inr ⟨by rfl, rfl⟩) hHeld ?_
            try simp only [Act.put, List.setIfInBounds_toArray, List.set_cons_zero, List.set_cons_succ]
            refine wpAnyH_take (i := 14) (oi := ⟨some 33, Op.pick (Operand.tmp 23) (Operand.tmp 32) (Operand.const (Value.bool false)), 4, "ref.go:72", #[⟨4, .data⟩, ⟨13, .data⟩], none⟩) (v := ?_) rfl (by kernel_rfl) (by kernel_rfl) (by kernel_rfl) (fun _ _ _ h => h) (Or.inl ⟨by rfl, ?_⟩) hHeld ?_
            rotate_left
            focus (intro z hSw; clear hSw; go_simp; try with_reducible rfl)
            try simp only [Act.put, List.setIfInBounds_toArray, List.set_cons_zero, List.set_cons_succ]
            refine wpAnyH_done (by kernel_rfl) ?_ _
            go_wp2_with fail
            refine wp_region_held_drew (S := fun z => Frm [] wr z) (by kernel_rfl) ((Frm.refl [] wr).drew.drew) (fun hHeld => ?_)
            refine wpAnyH_take (i := 0) (oi := ⟨some 36, Op.move (Operand.tmp 5), 3, "ref.go:75", #[], none⟩) (v := ?_) rfl (by kernel_rfl) (by kernel_rfl) (by kernel_rfl) (fun _ _ _ h => h) (Or.inl ⟨by rfl, ?_⟩) hHeld ?_
            rotate_left
            focus (intro z hSw; clear hSw; go_simp; try with_reducible rfl)
            try simp only [Act.put, List.setIfInBounds_toArray, List.set_cons_zero, List.set_cons_succ]
            refine wpAnyH_take (i := 1) (oi := ⟨some 37, Op.move (Operand.tmp 3), 30, "ref.go:75", #[], none⟩) (v := ?_) rfl (by kernel_rfl) (by kernel_rfl) (by kernel_rfl) (fun _ _ _ h => h) (Or.inl ⟨by rfl, ?_⟩) hHeld ?_
            rotate_left
            focus (intro z hSw; clear hSw; go_simp; try with_reducible rfl)
            try simp only [Act.put, List.setIfInBounds_toArray, List.set_cons_zero, List.set_cons_succ]
            refine wpAnyH_take (i := 2) (oi := ⟨some 38, Op.call { callee := Callee.builtin Builtin.len, args := #[Operand.tmp 37], argTypes := #[30] }, 3, "ref.go:75", #[⟨1, .data⟩], none⟩) (v := ?_) rfl (by kernel_rfl) (by kernel_rfl) (by kernel_rfl) (fun _ _ _ h => h) (Or.inl ⟨by rfl, ?_⟩) hHeld ?_
            rotate_left
            focus (intro z hSw; clear hSw; go_simp; try with_reducible rfl)
            try simp only [Act.put, List.setIfInBounds_toArray, List.set_cons_zero, List.set_cons_succ]
            refine wpAnyH_take (i := 3) (oi := ⟨some 39, Op.binOp BinOp.eql 3 (Operand.tmp 36) (Operand.tmp 38) 3, 4, "ref.go:75", #[⟨0, .data⟩, ⟨2, .data⟩], none⟩) (v := ?_) rfl (by kernel_rfl) (by kernel_rfl) (by kernel_rfl) (fun _ _ _ h => h) (Or.inl ⟨by rfl, ?_⟩) hHeld ?_
            rotate_left
            focus (intro z hSw; clear hSw; go_simp; try with_reducible rfl)
            try simp only [Act.put, List.setIfInBounds_toArray, List.set_cons_zero, List.set_cons_succ]
            refine wpAnyH_take (i := 4) (oi := ⟨some 40, Op.move (Operand.tmp 39), 4, "ref.go:75", #[⟨3, .data⟩], none⟩) (v := ?_) rfl (by kernel_rfl) (by kernel_rfl) (by kernel_rfl) (fun _ _ _ h => h) (Or.inl ⟨by rfl, ?_⟩) hHeld ?_
            rotate_left
            focus (intro z hSw; clear hSw; go_simp; try with_reducible rfl)
            try simp only [Act.put, List.setIfInBounds_toArray, List.set_cons_zero, List.set_cons_succ]
            refine wpAnyH_take (i := 5) (oi := ⟨some 41, Op.move (Operand.tmp 3), 30, "ref.go:75", #[⟨4, .guard⟩], some (4, false)⟩) (v := undef) rfl (by kernel_rfl) (by kernel_rfl) (by kernel_rfl) (fun _ _ _ h => h) (Or.inr ⟨by rfl, rfl⟩) hHeld ?_
            try simp only [Act.put, List.setIfInBounds_toArray, List.set_cons_zero, List.set_cons_succ]
            refine wpAnyH_take (i := 6) (oi := ⟨some 42, Op.move (Operand.tmp 5), 3, "ref.go:75", #[⟨4, .guard⟩], some (4, false)⟩) (v := undef) rfl (by kernel_rfl) (by kernel_rfl) (by kernel_rfl) (fun _ _ _ h => h) (Or.inr ⟨by rfl, rfl⟩) hHeld ?_
            try simp only [Act.put, List.setIfInBounds_toArray, List.set_cons_zero, List.set_cons_succ]
            refine wpAnyH_take (i := 7) (oi := ⟨some 43, Op.indexAddr 30 (Operand.tmp 41) (Operand.tmp 42), 0, "ref.go:75", #[⟨5, .data⟩, ⟨6, .data⟩, ⟨4, .guard⟩], some (4, false)⟩) (v := undef) rfl (by kernel_rfl) (by kernel_rfl) (by kernel_rfl) (fun _ _ _ h => h) (Or.inr ⟨by rfl, rfl⟩) hHeld ?_
            try simp only [Act.put, List.setIfInBounds_toArray, List.set_cons_zero, List.set_cons_succ]
            refine wpAnyH_take (i := 8) (oi := ⟨some 44, Op.load 28 (Operand.tmp 43), 28, "ref.go:75", #[⟨7, .data⟩, ⟨4, .guard⟩], some (4, false)⟩) (v := undef) rfl (by kernel_rfl) (by kernel_rfl) (by kernel_rfl) (fun _ _ _ h => h) (Or.inr ⟨by rfl, rfl⟩) hHeld ?_
            try simp only [Act.put, List.setIfInBounds_toArray, List.set_cons_zero, List.set_cons_succ]
            refine wpAnyH_take (i := 9) (oi := ⟨some 45, Op.move (Operand.tmp 0), 30, "ref.go:75", #[⟨4, .guard⟩], some (4, false)⟩) (v := undef) rfl (by kernel_rfl) (by kernel_rfl) (by kernel_rfl) (fun _ _ _ h => h) (Or.inr ⟨by rfl, rfl⟩) hHeld ?_
            try simp only [Act.put, List.setIfInBounds_toArray, List.set_cons_zero, List.set_cons_succ]
            refine wpAnyH_take (i := 10) (oi := ⟨some 46, Op.move (Operand.tmp 4), 3, "ref.go:75", #[⟨4, .guard⟩], some (4, false)⟩) (v := undef) rfl (by kernel_rfl) (by kernel_rfl) (by kernel_rfl) (fun _ _ _ h => h) (Or.inr ⟨by rfl, rfl⟩) hHeld ?_
            try simp only [Act.put, List.setIfInBounds_toArray, List.set_cons_zero, List.set_cons_succ]
            refine wpAnyH_take (i := 11) (oi := ⟨some 47, Op.indexAddr 30 (Operand.tmp 45) (Operand.tmp 46), 0, "ref.go:75", #[⟨9, .data⟩, ⟨10, .data⟩, ⟨4, .guard⟩], some (4, false)⟩) (v := undef) rfl (by kernel_rfl) (by kernel_rfl) (by kernel_rfl) (fun _ _ _ h => h) (Or.inr ⟨by rfl, rfl⟩) hHeld ?_
            try simp only [Act.put, List.setIfInBounds_toArray, List.set_cons_zero, List.set_cons_succ]
            refine wpAnyH_take (i := 12) (oi := ⟨some 48, Op.load 28 (Operand.tmp 47), 28, "ref.go:75", #[⟨11, .data⟩, ⟨4, .guard⟩], some (4, false)⟩) (v := undef) rfl (by kernel_rfl) (by kernel_rfl) (by kernel_rfl) (fun _ _ _ h => h) (Or.inr ⟨by rfl, rfl⟩) hHeld ?_
            try simp only [Act.put, List.setIfInBounds_toArray, List.set_cons_zero, List.set_cons_succ]
            refine wpAnyH_take (i := 13) (oi := ⟨some 49, Op.call { callee := Callee.value (Operand.func 22), args := #[Operand.tmp 44, Operand.tmp 48], argTypes := #[28, 28] }, 4, "ref.go:75", #[⟨8, .data⟩, ⟨12, .data⟩, ⟨4, .chain⟩, ⟨4, .guard⟩], some (4, false)⟩) (v := undef) rfl (by kernel_rfl) (by kernel_rfl) (by kernel_rfl) (fun _ _ _ h => h) (Or.inr ⟨by rfl, rfl⟩) hHeld ?_
            try simp only [Act.put, List.setIfInBounds_toArray, List.set_cons_zero, List.set_cons_succ]
            refine wpAnyH_take (i := 14) (oi := ⟨some 50, Op.unOp UnOp.not 4 (Operand.tmp 49), 4, "ref.go:75", #[⟨13, .data⟩, ⟨4, .guard⟩], some (4, false)⟩) (v := undef) rfl (by kernel_rfl) (by kernel_rfl) (by kernel_rfl) (fun _ _ _ h => h) (Or.inr ⟨by rfl, rfl⟩) hHeld ?_
            try simp only [Act.put, List.setIfInBounds_toArray, List.set_cons_zero, List.set_cons_succ]
            refine wpAnyH_take (i := 15) (oi := ⟨some 51, Op.pick (Operand.tmp 40) (Operand.const (Value.bool true)) (Operand.tmp 50), 4, "ref.go:75", #[⟨4, .data⟩, ⟨14, .data⟩], none⟩) (v := ?_) rfl (by kernel_rfl) (by kernel_rfl) (by kernel_rfl) (fun _ _ _ h => h) (Or.inl ⟨by rfl, ?_⟩) hHeld ?_
            rotate_left
            focus (intro z hSw; clear hSw; go_simp; try with_reducible rfl)
            try simp only [Act.put, List.setIfInBounds_toArray, List.set_cons_zero, List.set_cons_succ]
            refine wpAnyH_done (by kernel_rfl) ?_ _
            have FD := Lib.hid (F3.out.trans hHeld (by simp))
            clear hHeld
            generalize wr.drew.drew = wD at *
            have TDD := Lib.hid (TD2.out.keep0 FD.out)
            have HUD := Lib.hid (HU2.out.keep0 FD.out)
            have LDD := Lib.hid (show ∀ z, Frm [] wD z → (Instr.loadAt 28 (.pointer (some ⟨b, off + i * 69, none⟩))).run Tryz.prog z = .ok (uv (.slice xa u.root.ads.length xc) u) z from fun z fz => LD2.out z (FD.out.trans fz (by simp)))
            go_upto_region 11 with (first
              | ((with_reducible (show wpList _ _ _ (Oper.mk _ (Op.load 28 _) _ _ _ _ :: _) _ _)); refine wpList_load_g (by rfl) 28 _ rfl _ rfl (LDD.out _ (Frm.refl _ _)) ?_)
              | ((with_reducible (show wpList _ _ _ (Oper.mk _ (Op.alloc 28) _ _ _ _ :: _) _ _)); refine wpList_lay28 rfl rfl rfl _ _ rfl (v := .slice xa u.root.ads.length xc) rfl (u := u) hw1 rfl rfl ?_))
            have fE : Frm [] wD (wD.alloc (.cells (uc (.slice xa u.root.ads.length xc) u).toArray 28)) := (Frm.refl [] wD).alloc _
            have UE := Lib.hid (UB.new wD (.slice xa u.root.ads.length xc) hw1)
            have HUE := Lib.hid (HUD.out.keep0 fE)
            have FDE := Lib.hid fE
            clear fE
            generalize wD.alloc (.cells (uc (.slice xa u.root.ads.length xc) u).toArray 28) = wE at *
            obtain ⟨g5, hg5⟩ : ∃ g5, wD.heap.size = g5 := ⟨_, rfl⟩
            rw [hg5] at UE ⊢
            have HG5 := Lib.hid hg5
            clear hg5
            obtain ⟨spa, hSA⟩ := HUE.out.sla
            have o0 : OwnA 47 (wE.alloc (.cells #[] 47)) (.slice (some ⟨wE.heap.size, 0, none⟩) 0 0) [] [] := Pt.OwnA.of_heap (heap_alloc_new _ _) rfl rfl (by simp [maxLen])
            have f0 : Frm [] wE (wE.alloc (.cells #[] 47)) := (Frm.refl _ _).alloc _
            have c1 := (UE.out.keep0 f0).gets.c1
            have HSA := Lib.hid (Pt.SlA.keep hSA f0 (by simp))
            have F0 := Lib.hid f0
            have HSZ := Lib.hid (show g5 < wE.heap.size from UE.out.lt)
            clear hSA f0
            go_upto_region 12 with (at_builtin; refine Pt.wpList_append_ads Pt.AT o0 HSA.out (by have := HAD.out; simp; omega) rfl (.tmp 56) (.tmp 59) rfl rfl rfl ?_; intro a' cap' w' sp' o1 f1 n1; have b3 := (UE.out.keep0 F0.out).keep f1 (by have := HSZ.out; simp [blk]; omega); have z3 : w'.frozen? ⟨g5, 1, none⟩ = false := frozen_of_heap b3.1 1; have c3 := b3.gets.c1)
            have hn : ∀ i ∈ blk (.slice a' u.root.ads.length cap'), wE.heap.size ≤ i := fun i hi => by
              have h : i = wE.heap.size ∨ wE.heap.size + 1 ≤ i := by simpa [blk] using n1 i (by simpa using hi)
              omega
            have o1' : OwnA 47 w' (.slice a' u.root.ads.length cap') u.root.ads sp' := by simpa using o1
            have fS : Frm [g5] w' (w'.setCell ⟨g5, 1, none⟩ (.slice a' u.root.ads.length cap')) := (Frm.refl _ _).setCell _ _ (by simp)
            have UF := Lib.hid (show UB (w'.setCell ⟨g5, 1, none⟩ (.slice a' u.root.ads.length cap')) g5 (.slice a' u.root.ads.length cap') u from ub_store b3)
            have OF := Lib.hid (o1'.keep fS (fun i hi => by have := hn i hi; have := HSZ.out; simp; omega))
            have HNF := Lib.hid hn
            have FDF := Lib.hid (show Frm [] wD (w'.setCell ⟨g5, 1, none⟩ (.slice a' u.root.ads.length cap')) from (FDE.out.trans ((F0.out.trans f1 (by simp [blk])).mono (L' := [g5]) (by simp)) (fun i hi => by simp at hi; subst hi; exact .inr (Nat.le_of_eq HG5.out))).trans fS (fun i hi => by simp at hi; subst hi; exact .inr (Nat.le_of_eq HG5.out)))
            clear o1' o1 fS hn n1 f1 c3 z3 b3 o0 c1 F0 HSA UE
            generalize w'.setCell ⟨g5, 1, none⟩ (.slice a' u.root.ads.length cap') = wF at *
            have TDF := Lib.hid (TDD.out.keep0 FDF.out)
            obtain ⟨spo, hown⟩ := TDF.out.own
            have hrl := TDF.out.len
            obtain ⟨ha, hc2, hs2, hrh, hSH⟩ := cut_h30 (OwnE.sl hown) k (by have := HK.out; omega)
            obtain ⟨la, lc2, hrlo, hSL⟩ := cut_l30 (OwnE.sl hown) k (by have := HK.out; omega)
            have HRH := Lib.hid hrh
            have HRL := Lib.hid hrlo
            have SH := Lib.hid hSH
            have SL := Lib.hid hSL
            have HRS := Lib.hid (show rs.length ≤ 1000 by have := HBL.out; omega)
            have HRB := Lib.hid hrl
            have LG := Lib.hid (show ∀ z, Frm [] wF z → (Instr.loadAt 28 (.pointer (some ⟨g5, 0, none⟩))).run Tryz.prog z = .ok (uv (.slice a' u.root.ads.length cap') u) z from fun z fz => (UF.out.keep0 fz).gets.all)
            have RX := Lib.hid (show RowV wF (rowU (.slice a' u.root.ads.length cap') rfl u hw1) u from ⟨a', cap', sp', rfl, OF.out.sl, hw1⟩)
            have RXL := Lib.hid (show ∀ j ∈ rb (rowU (.slice a' u.root.ads.length cap') rfl u hw1), j < wF.heap.size from fun j hj => by rw [rb_uc (u := u) rfl] at hj; exact OF.out.lt j hj)
            have RXG := Lib.hid (show ∀ j ∈ rb (rowU (.slice a' u.root.ads.length cap') rfl u hw1), w.heap.size ≤ j from fun j hj => by rw [rb_uc (u := u) rfl] at hj; have h1 := HNF.out j hj; have h2 := FDE.out.size; have h3 := TDD.out.frm.size; omega)
            clear hown hrh hrlo hSH hSL hrl
            obtain ⟨xr, hxr⟩ : ∃ xr, xr = rowU (.slice a' u.root.ads.length cap') rfl u hw1 := ⟨_, rfl⟩
            have hxv : uv (.slice a' u.root.ads.length cap') u = .agg xr.1.toArray := by rw [hxr]; rfl
            rw [← hxr] at RX RXL RXG
            rw [hxv] at LG
            clear hxr hxv
            refine wp_region_held_drew (S := fun z => Frm [] wF z) (by kernel_rfl) ((Frm.refl [] wF).drew) (fun hHeld => ?_)
            refine wpAnyH_take (i := 1) (oi := ⟨some 64, Op.move (Operand.tmp 3), 30, "ref.go:78", #[], none⟩) (v := ?_) rfl (by kernel_rfl) (by kernel_rfl) (by kernel_rfl) (fun _ _ _ h => h) (Or.inl ⟨by rfl, ?_⟩) hHeld ?_
            rotate_left
            focus (intro z hSw; clear hSw; go_simp; try with_reducible rfl)
            try simp only [Act.put, List.setIfInBounds_toArray, List.set_cons_zero, List.set_cons_succ]
            refine wpAnyH_take (i := 2) (oi := ⟨some 65, Op.move (Operand.tmp 5), 3, "ref.go:78", #[], none⟩) (v := ?_) rfl (by kernel_rfl) (by kernel_rfl) (by kernel_rfl) (fun _ _ _ h => h) (Or.inl ⟨by rfl, ?_⟩) hHeld ?_
            rotate_left
            focus (intro z hSw; clear hSw; go_simp; try with_reducible rfl)
            try simp only [Act.put, List.setIfInBounds_toArray, List.set_cons_zero, List.set_cons_succ]
            refine wpAnyH_take (i := 3) (oi := ⟨some 66, Op.slice 30 (Operand.tmp 64) none (some (Operand.tmp 65)) none, 30, "ref.go:78", #[⟨1, .data⟩, ⟨2, .data⟩], none⟩) rfl (by kernel_rfl) (by kernel_rfl) (by kernel_rfl) (fun _ _ _ h => h) (Or.inl ⟨by rfl, fun z hSw => Pt.exec_slice_hA (.tmp 64) (.tmp 65) rfl rfl rfl und30 (HRH.out z)⟩) hHeld ?_
            try simp only [Act.put, List.setIfInBounds_toArray, List.set_cons_zero, List.set_cons_succ]
            refine wpAnyH_take (i := 5) (oi := ⟨some 68, Op.load 28 (Operand.tmp 6), 28, "ref.go:78", #[], none⟩) rfl (by kernel_rfl) (by kernel_rfl) (by kernel_rfl) (fun _ _ _ h => h) (yieldsIf_ld (by rfl) 28 _ rfl _ rfl (fun z hSw => LG.out z hSw)) hHeld ?_
            try simp only [Act.put, List.setIfInBounds_toArray, List.set_cons_zero, List.set_cons_succ]
            refine wpAnyH_take (i := 8) (oi := ⟨some 71, Op.move (Operand.tmp 3), 30, "ref.go:78", #[], none⟩) (v := ?_) rfl (by kernel_rfl) (by kernel_rfl) (by kernel_rfl) (fun _ _ _ h => h) (Or.inl ⟨by rfl, ?_⟩) hHeld ?_
            rotate_left
            focus (intro z hSw; clear hSw; go_simp; try with_reducible rfl)
            try simp only [Act.put, List.setIfInBounds_toArray, List.set_cons_zero, List.set_cons_succ]
            refine wpAnyH_take (i := 9) (oi := ⟨some 72, Op.move (Operand.tmp 5), 3, "ref.go:78", #[], none⟩) (v := ?_) rfl (by kernel_rfl) (by kernel_rfl) (by kernel_rfl) (fun _ _ _ h => h) (Or.inl ⟨by rfl, ?_⟩) hHeld ?_
            rotate_left
            focus (intro z hSw; clear hSw; go_simp; try with_reducible rfl)
            try simp only [Act.put, List.setIfInBounds_toArray, List.set_cons_zero, List.set_cons_succ]
            refine wpAnyH_take (i := 10) (oi := ⟨some 73, Op.slice 30 (Operand.tmp 71) (some (Operand.tmp 72)) none none, 30, "ref.go:78", #[⟨8, .data⟩, ⟨9, .data⟩], none⟩) rfl (by kernel_rfl) (by kernel_rfl) (by kernel_rfl) (fun _ _ _ h => h) (Or.inl ⟨by rfl, fun z hSw => Pt.exec_slice_lA (.tmp 71) (.tmp 72) rfl rfl rfl und30 (HRL.out z)⟩) hHeld ?_
            try simp only [Act.put, List.setIfInBounds_toArray, List.set_cons_zero, List.set_cons_succ]
            refine wpAnyH_ready (rs := [0, 6]) (by kernel_rfl) (by simp) ?_
            refine AllReadyH.cons (o := ⟨some 63, Op.buildSlice 30 0 #[], 30, "ref.go:78", #[], none⟩) rfl (fun K hK => ?_) ?_
            · refine step_empty30 rfl rfl ?_
              intro v0 w0e a0 f0 g0
              have nb0 : ∀ i ∈ blk v0, wF.heap.size ≤ i := fun i hi => Nat.le_trans hHeld.size (g0 i hi)
              refine hK.out _ _ ?_ (fun hNext => ?_)
              · exact hHeld.trans f0 (by simp)
              clear hK K hHeld
              have hHeld := hNext
              clear hNext
              try simp only [Act.put, List.setIfInBounds_toArray, List.set_cons_zero, List.set_cons_succ]
              refine wpAnyH_ready (rs := [4, 6]) (by kernel_rfl) (by simp) ?_
              refine AllReadyH.cons (o := ⟨some 67, Op.call { callee := Callee.builtin Builtin.append, args := #[Operand.tmp 63, Operand.tmp 66], argTypes := #[30, 30] }, 30, "ref.go:78", #[⟨0, .data⟩, ⟨3, .data⟩], none⟩) rfl (fun K hK => ?_) ?_
              · refine step_app30 a0 (SH.out.keep0 hHeld) (by have := HRS.out; simp; omega) rfl (.tmp 63) (.tmp 66) rfl rfl rfl ?_
                intro v4 w4 sp4 o4 f4 n4
                have nb4 : ∀ i ∈ blk v4, wF.heap.size ≤ i := fun i hi => by
                  rcases n4 i hi with q | q
                  · exact nb0 i q
                  · have := hHeld.size; omega
                refine hK.out _ _ ?_ (fun hNext => ?_)
                · exact hHeld.trans f4 (fun i hi => .inr (nb0 i hi))
                clear hK K hHeld
                have hHeld := hNext
                clear hNext
                try simp only [Act.put, List.setIfInBounds_toArray, List.set_cons_zero, List.set_cons_succ]
                refine wpAnyH_ready (rs := [6]) (by kernel_rfl) (by simp) ?_
                refine AllReadyH.cons (o := ⟨some 69, Op.buildSlice 30 1 #[(0, Operand.tmp 68)], 30, "ref.go:78", #[⟨5, .data⟩], none⟩) rfl (fun K hK => ?_) ?_
                · refine step_us1 (by rfl) (.tmp 68) rfl (r := xr) rfl ?_
                  intro v6 w6e x6 f6 g6
                  refine hK.out _ _ ?_ (fun hNext => ?_)
                  · exact hHeld.trans f6 (by simp)
                  clear hK K hHeld
                  have hHeld := hNext
                  clear hNext
                  try simp only [Act.put, List.setIfInBounds_toArray, List.set_cons_zero, List.set_cons_succ]
                  refine wpAnyH_ready (rs := [7]) (by kernel_rfl) (by simp) ?_
                  refine AllReadyH.cons (o := ⟨some 70, Op.call { callee := Callee.builtin Builtin.append, args := #[Operand.tmp 67, Operand.tmp 69], argTypes := #[30, 30] }, 30, "ref.go:78", #[⟨4, .data⟩, ⟨6, .data⟩, ⟨4, .chain⟩], none⟩) rfl (fun K hK => ?_) ?_
                  · refine step_app30 (OwnE.keep0 o4 f6) x6 (by have := HRS.out; simp; omega) rfl (.tmp 67) (.tmp 69) rfl rfl rfl ?_
                    intro v7 w7 sp7 o7 f7 n7
                    have nb7 : ∀ i ∈ blk v7, wF.heap.size ≤ i := fun i hi => by
                      rcases n7 i hi with q | q
                      · exact nb4 i q
                      · have := hHeld.size; omega
                    refine hK.out _ _ ?_ (fun hNext => ?_)
                    · exact hHeld.trans f7 (fun i hi => .inr (nb4 i hi))
                    clear hK K hHeld
                    have hHeld := hNext
                    clear hNext
                    try simp only [Act.put, List.setIfInBounds_toArray, List.set_cons_zero, List.set_cons_succ]
                    refine wpAnyH_ready (rs := [11]) (by kernel_rfl) (by simp) ?_
                    refine AllReadyH.cons (o := ⟨some 74, Op.call { callee := Callee.builtin Builtin.append, args := #[Operand.tmp 70, Operand.tmp 73], argTypes := #[30, 30] }, 30, "ref.go:78", #[⟨7, .data⟩, ⟨10, .data⟩, ⟨7, .chain⟩], none⟩) rfl (fun K hK => ?_) ?_
                    · refine step_app30 o7 (SL.out.keep0 hHeld) (by have := HRS.out; simp; omega) rfl (.tmp 70) (.tmp 73) rfl rfl rfl ?_
                      intro v11 w11 sp11 o11 f11 n11
                      have nb11 : ∀ i ∈ blk v11, wF.heap.size ≤ i := fun i hi => by
                        rcases n11 i hi with q | q
                        · exact nb7 i q
                        · have := hHeld.size; omega
                      refine hK.out _ _ ?_ (fun hNext => ?_)
                      · exact hHeld.trans f11 (fun i hi => .inr (nb7 i hi))
                      clear hK K hHeld
                      have hHeld := hNext
                      clear hNext
                      try simp only [Act.put, List.setIfInBounds_toArray, List.set_cons_zero, List.set_cons_succ]
                      refine wpAnyH_take (i := 12) (oi := ⟨some 3, Op.assign (Operand.tmp 74), 30, "ref.go:78", #[⟨11, .data⟩, ⟨11, .chain⟩, ⟨0, .phase⟩, ⟨1, .phase⟩, ⟨2, .phase⟩, ⟨3, .phase⟩, ⟨4, .phase⟩, ⟨5, .phase⟩, ⟨6, .phase⟩, ⟨7, .phase⟩, ⟨8, .phase⟩, ⟨9, .phase⟩, ⟨10, .phase⟩, ⟨11, .phase⟩], none⟩) (v := ?_) rfl (by kernel_rfl) (by kernel_rfl) (by kernel_rfl) (fun _ _ _ h => h) (Or.inl ⟨by rfl, ?_⟩) hHeld ?_
                      rotate_left
                      focus (intro z hSw; clear hSw; go_simp; try with_reducible rfl)
                      try simp only [Act.put, List.setIfInBounds_toArray, List.set_cons_zero, List.set_cons_succ]
                      refine wpAnyH_done (by kernel_rfl) ?_ _
                      have HL := hHeld
                      have ho : OwnE eR 69 28 w11 v11 (rs.take k ++ xr :: rs.drop k) sp11 := by simpa using o11
                      have hbv : ∀ i ∈ blk v11, wF.heap.size ≤ i := nb11
                      have TN := Lib.hid (Td.ins TDF.out hHeld HK.out ho hbv RX.out RXL.out)
                      have HNEW := Lib.hid (show RBRel l w v11 (.int .i64 ((i : Int) + 1)) w11 from ⟨i + 1, _, by go_num, HLT.out, by rw [HB1.out, HINS.out]; exact TN.out, fun y hy j hj => by
                        rcases List.mem_append.1 hy with q | q
                        · exact HLO.out y (List.mem_of_mem_take q) j hj
                        · rcases List.mem_cons.1 q with rfl | q
                          · exact RXG.out j hj
                          · exact HLO.out y (List.mem_of_mem_drop q) j hj⟩)
                      clear ho hbv o11 HL
                      go_wp2_with fail
                      go_roundw
                      case rel => exact HNEW.out
                      case measure => simp [intOf]; have := HLT.out; omega
                    exact AllReadyH.nil
                  exact AllReadyH.nil
                exact AllReadyH.nil
              refine AllReadyH.cons (o := ⟨some 69, Op.buildSlice 30 1 #[(0, Operand.tmp 68)], 30, "ref.go:78", #[⟨5, .data⟩], none⟩) rfl (fun K hK => ?_) ?_
              · refine step_us1 (by rfl) (.tmp 68) rfl (r := xr) rfl ?_
                intro v6 w6e x6 f6 g6
                refine hK.out _ _ ?_ (fun hNext => ?_)
                · exact hHeld.trans f6 (by simp)
                clear hK K hHeld
                have hHeld := hNext
                clear hNext
                try simp only [Act.put, List.setIfInBounds_toArray, List.set_cons_zero, List.set_cons_succ]
                refine wpAnyH_ready (rs := [4]) (by kernel_rfl) (by simp) ?_
                refine AllReadyH.cons (o := ⟨some 67, Op.call { callee := Callee.builtin Builtin.append, args := #[Operand.tmp 63, Operand.tmp 66], argTypes := #[30, 30] }, 30, "ref.go:78", #[⟨0, .data⟩, ⟨3, .data⟩], none⟩) rfl (fun K hK => ?_) ?_
                · refine step_app30 (OwnE.keep0 a0 f6) (SH.out.keep0 hHeld) (by have := HRS.out; simp; omega) rfl (.tmp 63) (.tmp 66) rfl rfl rfl ?_
                  intro v4 w4 sp4 o4 f4 n4
                  have nb4 : ∀ i ∈ blk v4, wF.heap.size ≤ i := fun i hi => by
                    rcases n4 i hi with q | q
                    · exact nb0 i q
                    · have := hHeld.size; omega
                  refine hK.out _ _ ?_ (fun hNext => ?_)
                  · exact hHeld.trans f4 (fun i hi => .inr (nb0 i hi))
                  clear hK K hHeld
                  have hHeld := hNext
                  clear hNext
                  try simp only [Act.put, List.setIfInBounds_toArray, List.set_cons_zero, List.set_cons_succ]
                  refine wpAnyH_ready (rs := [7]) (by kernel_rfl) (by simp) ?_
                  refine AllReadyH.cons (o := ⟨some 70, Op.call { callee := Callee.builtin Builtin.append, args := #[Operand.tmp 67, Operand.tmp 69], argTypes := #[30, 30] }, 30, "ref.go:78", #[⟨4, .data⟩, ⟨6, .data⟩, ⟨4, .chain⟩], none⟩) rfl (fun K hK => ?_) ?_
                  · refine step_app30 o4 (SlE.keep x6 f4 (fun i hi hm => by have h1 := (g6 i hi).1; have h2 := OwnE.lt a0 i hm; omega)) (by have := HRS.out; simp; omega) rfl (.tmp 67) (.tmp 69) rfl rfl rfl ?_
                    intro v7 w7 sp7 o7 f7 n7
                    have nb7 : ∀ i ∈ blk v7, wF.heap.size ≤ i := fun i hi => by
                      rcases n7 i hi with q | q
                      · exact nb4 i q
                      · have := hHeld.size; omega
                    refine hK.out _ _ ?_ (fun hNext => ?_)
                    · exact hHeld.trans f7 (fun i hi => .inr (nb4 i hi))
                    clear hK K hHeld
                    have hHeld := hNext
                    clear hNext
                    try simp only [Act.put, List.setIfInBounds_toArray, List.set_cons_zero, List.set_cons_succ]
                    refine wpAnyH_ready (rs := [11]) (by kernel_rfl) (by simp) ?_
                    refine AllReadyH.cons (o := ⟨some 74, Op.call { callee := Callee.builtin Builtin.append, args := #[Operand.tmp 70, Operand.tmp 73], argTypes := #[30, 30] }, 30, "ref.go:78", #[⟨7, .data⟩, ⟨10, .data⟩, ⟨7, .chain⟩], none⟩) rfl (fun K hK => ?_) ?_
                    · refine step_app30 o7 (SL.out.keep0 hHeld) (by have := HRS.out; simp; omega) rfl (.tmp 70) (.tmp 73) rfl rfl rfl ?_
                      intro v11 w11 sp11 o11 f11 n11
                      have nb11 : ∀ i ∈ blk v11, wF.heap.size ≤ i := fun i hi => by
                        rcases n11 i hi with q | q
                        · exact nb7 i q
                        · have := hHeld.size; omega
                      refine hK.out _ _ ?_ (fun hNext => ?_)
                      · exact hHeld.trans f11 (fun i hi => .inr (nb7 i hi))
                      clear hK K hHeld
                      have hHeld := hNext
                      clear hNext
                      try simp only [Act.put, List.setIfInBounds_toArray, List.set_cons_zero, List.set_cons_succ]
                      refine wpAnyH_take (i := 12) (oi := ⟨some 3, Op.assign (Operand.tmp 74), 30, "ref.go:78", #[⟨11, .data⟩, ⟨11, .chain⟩, ⟨0, .phase⟩, ⟨1, .phase⟩, ⟨2, .phase⟩, ⟨3, .phase⟩, ⟨4, .phase⟩, ⟨5, .phase⟩, ⟨6, .phase⟩, ⟨7, .phase⟩, ⟨8, .phase⟩, ⟨9, .phase⟩, ⟨10, .phase⟩, ⟨11, .phase⟩], none⟩) (v := ?_) rfl (by kernel_rfl) (by kernel_rfl) (by kernel_rfl) (fun _ _ _ h => h) (Or.inl ⟨by rfl, ?_⟩) hHeld ?_
                      rotate_left
                      focus (intro z hSw; clear hSw; go_simp; try with_reducible rfl)
                      try simp only [Act.put, List.setIfInBounds_toArray, List.set_cons_zero, List.set_cons_succ]
                      refine wpAnyH_done (by kernel_rfl) ?_ _
                      have HL := hHeld
                      have ho : OwnE eR 69 28 w11 v11 (rs.take k ++ xr :: rs.drop k) sp11 := by simpa using o11
                      have hbv : ∀ i ∈ blk v11, wF.heap.size ≤ i := nb11
                      have TN := Lib.hid (Td.ins TDF.out hHeld HK.out ho hbv RX.out RXL.out)
                      have HNEW := Lib.hid (show RBRel l w v11 (.int .i64 ((i : Int) + 1)) w11 from ⟨i + 1, _, by go_num, HLT.out, by rw [HB1.out, HINS.out]; exact TN.out, fun y hy j hj => by
                        rcases List.mem_append.1 hy with q | q
                        · exact HLO.out y (List.mem_of_mem_take q) j hj
                        · rcases List.mem_cons.1 q with rfl | q
                          · exact RXG.out j hj
                          · exact HLO.out y (List.mem_of_mem_drop q) j hj⟩)
                      clear ho hbv o11 HL
                      go_wp2_with fail
                      go_roundw
                      case rel => exact HNEW.out
                      case measure => simp [intOf]; have := HLT.out; omega
                    exact AllReadyH.nil
                  exact AllReadyH.nil
                exact AllReadyH.nil
              exact AllReadyH.nil
            refine AllReadyH.cons (o := ⟨some 69, Op.buildSlice 30 1 #[(0, Operand.tmp 68)], 30, "ref.go:78", #[⟨5, .data⟩], none⟩) rfl (fun K hK => ?_) ?_
            · refine step_us1 (by rfl) (.tmp 68) rfl (r := xr) rfl ?_
              intro v6 w6e x6 f6 g6
              refine hK.out _ _ ?_ (fun hNext => ?_)
              · exact hHeld.trans f6 (by simp)
              clear hK K hHeld
              have hHeld := hNext
              clear hNext
              try simp only [Act.put, List.setIfInBounds_toArray, List.set_cons_zero, List.set_cons_succ]
              refine wpAnyH_ready (rs := [0]) (by kernel_rfl) (by simp) ?_
              refine AllReadyH.cons (o := ⟨some 63, Op.buildSlice 30 0 #[], 30, "ref.go:78", #[], none⟩) rfl (fun K hK => ?_) ?_
              · refine step_empty30 rfl rfl ?_
                intro v0 w0e a0 f0 g0
                have nb0 : ∀ i ∈ blk v0, wF.heap.size ≤ i := fun i hi => Nat.le_trans hHeld.size (g0 i hi)
                refine hK.out _ _ ?_ (fun hNext => ?_)
                · exact hHeld.trans f0 (by simp)
                clear hK K hHeld
                have hHeld := hNext
                clear hNext
                try simp only [Act.put, List.setIfInBounds_toArray, List.set_cons_zero, List.set_cons_succ]
                refine wpAnyH_ready (rs := [4]) (by kernel_rfl) (by simp) ?_
                refine AllReadyH.cons (o := ⟨some 67, Op.call { callee := Callee.builtin Builtin.append, args := #[Operand.tmp 63, Operand.tmp 66], argTypes := #[30, 30] }, 30, "ref.go:78", #[⟨0, .data⟩, ⟨3, .data⟩], none⟩) rfl (fun K hK => ?_) ?_
                · refine step_app30 a0 (SH.out.keep0 hHeld) (by have := HRS.out; simp; omega) rfl (.tmp 63) (.tmp 66) rfl rfl rfl ?_
                  intro v4 w4 sp4 o4 f4 n4
                  have nb4 : ∀ i ∈ blk v4, wF.heap.size ≤ i := fun i hi => by
                    rcases n4 i hi with q | q
                    · exact nb0 i q
                    · have := hHeld.size; omega
                  refine hK.out _ _ ?_ (fun hNext => ?_)
                  · exact hHeld.trans f4 (fun i hi => .inr (nb0 i hi))
                  clear hK K hHeld
                  have hHeld := hNext
                  clear hNext
                  try simp only [Act.put, List.setIfInBounds_toArray, List.set_cons_zero, List.set_cons_succ]
                  refine wpAnyH_ready (rs := [7]) (by kernel_rfl) (by simp) ?_
                  refine AllReadyH.cons (o := ⟨some 70, Op.call { callee := Callee.builtin Builtin.append, args := #[Operand.tmp 67, Operand.tmp 69], argTypes := #[30, 30] }, 30, "ref.go:78", #[⟨4, .data⟩, ⟨6, .data⟩, ⟨4, .chain⟩], none⟩) rfl (fun K hK => ?_) ?_
                  · refine step_app30 o4 (SlE.keep (SlE.keep0 x6 f0) f4 (fun i hi hm => by have h1 := (g6 i hi).2; have h2 := g0 i hm; omega)) (by have := HRS.out; simp; omega) rfl (.tmp 67) (.tmp 69) rfl rfl rfl ?_
                    intro v7 w7 sp7 o7 f7 n7
                    have nb7 : ∀ i ∈ blk v7, wF.heap.size ≤ i := fun i hi => by
                      rcases n7 i hi with q | q
                      · exact nb4 i q
                      · have := hHeld.size; omega
                    refine hK.out _ _ ?_ (fun hNext => ?_)
                    · exact hHeld.trans f7 (fun i hi => .inr (nb4 i hi))
                    clear hK K hHeld
                    have hHeld := hNext
                    clear hNext
                    try simp only [Act.put, List.setIfInBounds_toArray, List.set_cons_zero, List.set_cons_succ]
                    refine wpAnyH_ready (rs := [11]) (by kernel_rfl) (by simp) ?_
                    refine AllReadyH.cons (o := ⟨some 74, Op.call { callee := Callee.builtin Builtin.append, args := #[Operand.tmp 70, Operand.tmp 73], argTypes := #[30, 30] }, 30, "ref.go:78", #[⟨7, .data⟩, ⟨10, .data⟩, ⟨7, .chain⟩], none⟩) rfl (fun K hK => ?_) ?_
                    · refine step_app30 o7 (SL.out.keep0 hHeld) (by have := HRS.out; simp; omega) rfl (.tmp 70) (.tmp 73) rfl rfl rfl ?_
                      intro v11 w11 sp11 o11 f11 n11
                      have nb11 : ∀ i ∈ blk v11, wF.heap.size ≤ i := fun i hi => by
                        rcases n11 i hi with q | q
                        · exact nb7 i q
                        · have := hHeld.size; omega
                      refine hK.out _ _ ?_ (fun hNext => ?_)
                      · exact hHeld.trans f11 (fun i hi => .inr (nb7 i hi))
                      clear hK K hHeld
                      have hHeld := hNext
                      clear hNext
                      try simp only [Act.put, List.setIfInBounds_toArray, List.set_cons_zero, List.set_cons_succ]
                      refine wpAnyH_take (i := 12) (oi := ⟨some 3, Op.assign (Operand.tmp 74), 30, "ref.go:78", #[⟨11, .data⟩, ⟨11, .chain⟩, ⟨0, .phase⟩, ⟨1, .phase⟩, ⟨2, .phase⟩, ⟨3, .phase⟩, ⟨4, .phase⟩, ⟨5, .phase⟩, ⟨6, .phase⟩, ⟨7, .phase⟩, ⟨8, .phase⟩, ⟨9, .phase⟩, ⟨10, .phase⟩, ⟨11, .phase⟩], none⟩) (v := ?_) rfl (by kernel_rfl) (by kernel_rfl) (by kernel_rfl) (fun _ _ _ h => h) (Or.inl ⟨by rfl, ?_⟩) hHeld ?_
                      rotate_left
                      focus (intro z hSw; clear hSw; go_simp; try with_reducible rfl)
                      try simp only [Act.put, List.setIfInBounds_toArray, List.set_cons_zero, List.set_cons_succ]
                      refine wpAnyH_done (by kernel_rfl) ?_ _
                      have HL := hHeld
                      have ho : OwnE eR 69 28 w11 v11 (rs.take k ++ xr :: rs.drop k) sp11 := by simpa using o11
                      have hbv : ∀ i ∈ blk v11, wF.heap.size ≤ i := nb11
                      have TN := Lib.hid (Td.ins TDF.out hHeld HK.out ho hbv RX.out RXL.out)
                      have HNEW := Lib.hid (show RBRel l w v11 (.int .i64 ((i : Int) + 1)) w11 from ⟨i + 1, _, by go_num, HLT.out, by rw [HB1.out, HINS.out]; exact TN.out, fun y hy j hj => by
                        rcases List.mem_append.1 hy with q | q
                        · exact HLO.out y (List.mem_of_mem_take q) j hj
                        · rcases List.mem_cons.1 q with rfl | q
                          · exact RXG.out j hj
                          · exact HLO.out y (List.mem_of_mem_drop q) j hj⟩)
                      clear ho hbv o11 HL
                      go_wp2_with fail
                      go_roundw
                      case rel => exact HNEW.out
                      case measure => simp [intOf]; have := HLT.out; omega
                    exact AllReadyH.nil
                  exact AllReadyH.nil
                exact AllReadyH.nil
              exact AllReadyH.nil
            exact AllReadyH.nil
      · have hme : mayE u = 2 := by unfold mayE; rw [if_neg hm]
        rw [hme] at HCK
        have hbt := HBT.out
        rw [if_neg hm] at hbt
        have HBT2 := Lib.hid hbt
        clear HBT hbt hme
        go_wp2_with (first
          | ((with_reducible (show wpList _ _ _ (Oper.mk _ (Op.load 28 _) _ _ _ _ :: _) _ _)); refine wpList_load_g (by rfl) 28 _ rfl _ rfl LD.out ?_)
          | (go_at_call 20; with_reducible refine Calls.mono HCK.out ?_; rintro r w2 ⟨rfl, f2⟩; have F2 := Lib.hid f2; clear f2))
        go_roundw
        case rel => exact HNXT.out _ F2.out HBT2.out
        case measure => simp [intOf]; have := HLT.out; omega
    · obtain rfl : i = l.length := by omega
      rw [List.take_length] at td
      have TD := Lib.hid td
      have HLO := Lib.hid hlo
      clear td hlo
      go_wp2_with fail
      go_ret
      exact ⟨_, rs, rfl, TD.out, HLO.out⟩
end Go.Proofs.YtjdejhgfkjeeiaaGreatDoor

namespace Go.Proofs.YtjdejhgfkjeeiaaGreatDoor
open Go.RowKit
set_option linter.unusedVariables false
set_option linter.unusedSimpArgs false
set_option maxRecDepth 100000

open Kr (OwnE SlE Enco RowTys)
theorem fits_best {l : List Ub} (hl : AllU l) (h : Fits l) : Fits (bestU l) := by
  have hb := best_bestU hl
  refine ⟨?_, fun u hu => h.2 u ((hb.mem u).1 hu).1⟩
  have := bestU_length (l := l) (i := l.length) (Nat.le_refl _)
  rw [List.take_length] at this
  exact Nat.le_trans this h.1
theorem Ls.nil (w : World) : Ls w (.slice none 0 0) [] := ⟨[], [], SlE.nil _ _ _, rfl, fun i r u h => by simp at h⟩
/-- A list that was there, behind writes to newer blocks. -/
theorem Us.older {w w' : World} {v : Value} {l : List Ub} {L : List Nat} (h : Us w v l) (f : Frm L w w') (hL : ∀ k ∈ L, w.heap.size ≤ k) : Us w' v l := h.keep0 (f.mono (fun i hi => .inr (hL i hi)))
set_option maxHeartbeats 16000000 in
theorem best_law (v : Value) (l : List Ub) {w : World} (hv : Us w v l) {s0 s1 s2 : Addr} (hs : Sens w s0 s1 s2) (hG : Hs.Glob w) : Calls Tryz.prog 9 #[v] w (YesR w) := by
  obtain ⟨a, cap, rfl⟩ := hv.form
  have HV := Lib.hid hv
  have HAW := Lib.hid (fun W (f : Frm [] w W) => awakeR_any W (hs.keep0 f) (hG.keep f (by simp)))
  have HBE := Lib.hid (fun (c : Value) W (f : Frm [] w W) (h : Us W c l) (hf : Fits l) => Best_any c l W h hf (hs.keep0 f) (hG.keep f (by simp)))
  have HWF := Lib.hid hv.wf
  unfold YesR at HAW
  unfold BestP at HBE
  have HLG := Lib.hid (long_any (.slice none 0 0) (.slice a l.length cap) [] l w (Ls.nil w) hv)
  clear hv hs hG
  go_enter Tryz.func9, Tryz.ntmps9
  go_wp2_with (first
    | (go_at_call 33; refine HLG.out.mono ?_; rintro r w1 ⟨hr, hw1⟩; obtain rfl := hw1.symm; unfold LongP at hr; rcases hr with rfl | ⟨rfl, hsm⟩)
    | (go_at_call 34; refine (HAW.out _ (Frm.refl _ _)).mono ?_; rintro r w2 ⟨rfl, f2⟩))
  · go_ret
    exact ⟨rfl, f2⟩
  · obtain ⟨_, h20, _, hl20⟩ := hsm
    have HF := Lib.hid (show Fits l from ⟨by omega, fun u hu => Nat.le_trans (h20 u hu) (by decide)⟩)
    have HFB := Lib.hid (fits_best HWF.out HF.out)
    have HCU := Lib.hid (CopyUs_any _ l w HV.out HF.out)
    unfold CUP at HCU
    have HSU := Lib.hid (fun x y W (hx : Us W x (bestU l)) (hy : Us W y (bestU l)) => SameUbs_true x y _ W hx hy HFB.out)
    have HSL := Lib.hid (fun x y W (hx : Us W x l) (hy : Us W y l) => SameUbs_true x y _ W hx hy HF.out)
    clear h20 hl20 HLG
    go_upto_region 4 with (go_at_call 15; refine HCU.out.mono ?_; rintro r w2 ⟨v3, rs3, B3, rfl, tl3, f2⟩)
    have TL3 := Lib.hid tl3
    have F2 := Lib.hid f2
    clear tl3 f2
    have HB1 := Lib.hid (HBE.out _ _ F2.out TL3.out.us HF.out)
    go_upto_region 5 with (first
      | (go_at_call 45; with_reducible refine Calls.mono HB1.out ?_; rintro r w3 ⟨v4, rs4, B4, rfl, tl4, f3⟩; have TL4 := Lib.hid tl4; have F3 := Lib.hid f3; have F03 := Lib.hid (F2.out.trans f3 (by simp)); clear tl4 f3; have HRB := Lib.hid (RefBest_any _ l w3 (HV.out.keep0 F03.out) HF.out); unfold RBestP at HRB)
      | (go_at_call 46; with_reducible refine Calls.mono HRB.out ?_; rintro r w4 ⟨v5, rs5, rfl, td5, hlo5⟩))
    have TD5 := Lib.hid td5
    have HLO5 := Lib.hid hlo5
    clear td5 hlo5
    have HS5 := Lib.hid (HSU.out v4 v5 w4 (TL4.out.us.keep0 TD5.out.frm) TD5.out.us)
    go_upto_region 7 with (go_at_call 38; with_reducible refine Calls.mono HS5.out ?_; rintro r w5 ⟨rfl, f5⟩)
    have F5 := Lib.hid f5
    have HOV := Lib.hid (OverUs_any _ _ _ _ _ (TL4.out.keep0 (TD5.out.frm.trans f5 (by simp))) HFB.out)
    clear f5
    go_upto_region 8 with (go_at_call 39; with_reducible refine Calls.mono HOV.out ?_; rintro r w6 ⟨rfl, f6⟩)
    have F46 := Lib.hid ((show Frm B4 w4 w5 from F5.out.mono (fun i hi => by cases hi)).trans f6 (fun i hi => .inl hi))
    have F26 := Lib.hid (((F3.out.trans TD5.out.frm (by simp)).trans F5.out (by simp)).trans f6 (fun i hi => .inr (TL4.out.lo i hi).1))
    have FW6 := Lib.hid (F2.out.trans F26.out (by simp))
    clear f6
    have HS8 := Lib.hid (HSL.out v3 (.slice a l.length cap) w6 (TL3.out.keep0 F26.out).us (HV.out.keep0 FW6.out))
    go_wp2_with (first
      | (go_at_call 38; with_reducible refine Calls.mono HS8.out ?_; rintro r w7 ⟨rfl, f7⟩; have F7 := Lib.hid f7; have FW7 := Lib.hid (FW6.out.trans f7 (by simp)); have HB7 := Lib.hid (HBE.out v3 w7 FW7.out (TL3.out.keep0 (F26.out.trans f7 (by simp))).us HF.out); clear f7)
      | (go_at_call 45; with_reducible refine Calls.mono HB7.out ?_; rintro r w8 ⟨v9, rs9, B9, rfl, tl9, f8⟩; have FW8 := Lib.hid (FW7.out.trans f8 (by simp)); have HS9 := Lib.hid (HSU.out v9 v5 w8 tl9.us (TD5.out.apart HLO5.out ((F46.out.trans F7.out (by simp)).trans f8 (by simp)) (fun k hk => (TL4.out.lo k hk).2))); clear tl9 f8)
      | (go_at_call 38; with_reducible refine Calls.mono HS9.out ?_; rintro r w9 ⟨rfl, f9⟩; have FW9 := Lib.hid (FW8.out.trans f9 (by simp)); have HA9 := Lib.hid (HAW.out _ FW9.out); clear f9)
      | (go_at_call 34; with_reducible refine Calls.mono HA9.out ?_; rintro r w10 ⟨rfl, f10⟩))
    go_ret
    exact ⟨rfl, FW9.out.trans f10 (by simp)⟩
end Go.Proofs.YtjdejhgfkjeeiaaGreatDoor
