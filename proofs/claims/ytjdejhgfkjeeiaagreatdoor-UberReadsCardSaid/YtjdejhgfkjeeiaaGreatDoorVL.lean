/-
  Contract of OverAddrs; the walk of UberReads. No conditions but those that each theorem names.
-/
import Derived.Test.YtjdejhgfkjeeiaaGreatDoorVH
namespace Go.Proofs.YtjdejhgfkjeeiaaGreatDoor.Pt
open Go.RowKit
set_option linter.unusedVariables false
set_option linter.unusedSimpArgs false
set_option maxRecDepth 100000

theorem eas_set : ∀ (l : List Ad) (i : Nat) (x : Ad), eas (l.set i x) = ((eas l).set (i * 2) (.int .i64 x.1)).set (i * 2 + 1) (.int .i64 x.2)
  | [], i, x => by simp [eas]
  | y :: r, 0, x => by simp [eas_cons]
  | y :: r, i + 1, x => by
    rw [List.set_cons_succ, eas_cons, eas_set r i x, eas_cons, show (i + 1) * 2 = i * 2 + 1 + 1 by omega]
    simp [List.set_cons_succ]
theorem OwnA.store {T : TypeId} {w : World} {g n cap : Nat} {l sp : List Ad} (h : OwnA T w (.slice (some ⟨g, 0, none⟩) n cap) l sp) (i : Nat) (hi : i < l.length) (x : Ad) :
    OwnA T ((w.setCell ⟨g, i * 2, none⟩ (.int .i64 x.1)).setCell ⟨g, i * 2 + 1, none⟩ (.int .i64 x.2)) (.slice (some ⟨g, 0, none⟩) n cap) (l.set i x) sp := by
  obtain ⟨h1, h2, h3⟩ := h.caps
  refine OwnA.of_heap ?_ (by simpa using h1) (by simpa using h2) h3
  rw [heap_setCell_same _ (heap_setCell_same _ h.heap)]
  congr 2
  apply Array.ext'
  simp only [Array.toList_setIfInBounds, eas_append, eas_set]
  have hl := eas_length l
  rw [List.set_append_left _ _ (by omega), List.set_append_left _ _ (by simp; omega)]
def OverARel (g n cap : Nat) (sp : List Ad) (w0 : World) (cv : Value) (wr : World) : Prop := ∃ (k : Nat) (m : List Ad), k ≤ n ∧ m.length = n ∧ cv = .int .i64 k ∧ OwnA 47 wr (.slice (some ⟨g, 0, none⟩) n cap) m sp ∧ Frm [g] w0 wr
set_option maxHeartbeats 1000000 in
theorem OverA_any (v : Value) (l sp : List Ad) (w : World) (hO : OwnA 47 w v l sp) (hl : l.length ≤ 1000000) :
    Calls Tryz.prog 28 #[v] w fun e w' => e = .returned (.tuple #[]) ∧ Frm (blk v) w w' := by
  obtain ⟨h1, ⟨rfl, h2, h3⟩ | ⟨g, cap, rfl, h3, h4, h5, h6⟩⟩ := id hO
  · clear hO h1 h3 hl h2
    go_enter Tryz.func28, Tryz.ntmps28
    go_wp2_with fail
    refine wp_loop_rounds 1 ?_
    rw [rounds_succ]
    go_wp2
    go_end0
    exact ⟨rfl, Frm.refl _ _⟩
  · have hl9 : ((l.length : Nat) : Int) ≤ 1000000 := by omega
    have HO := Lib.hid hO
    clear hO h1 h6 h5 h3 h4 hl
    go_enter Tryz.func28, Tryz.ntmps28
    go_wp2_with fail
    go_loopw [2] (OverARel g l.length cap sp w) (fun cv _ => l.length - (intOf cv).toNat)
    case atStart => exact ⟨0, l, by omega, rfl, rfl, HO.out, Frm.refl _ _⟩
    case round =>
      obtain ⟨k, m, hk, hm, rfl, o, f⟩ := hrel
      by_cases hlt : k < l.length
      · obtain ⟨c0, c1⟩ := o.sl.cells k (by omega)
        have z0 := frozen_of_heap o.heap (0 + k * 2)
        have z1 := frozen_of_heap o.heap (0 + k * 2 + 1)
        have hst := o.store k (by omega) (-7, -7)
        rw [Nat.zero_add] at c0 c1 z0 z1
        generalize m[k]'(by omega) = y at *
        have ST := Lib.hid hst
        have F := Lib.hid f
        have HM := Lib.hid hm
        clear hst o f hm
        go_wp2_with fail
        exact ⟨⟨k + 1, _, by omega, by simpa using HM.out, by go_num, ST.out, (F.out.setCell _ _ (.inl (by simp))).setCell _ _ (.inl (by simp))⟩, by simp [intOf]; omega⟩
      · obtain rfl : k = l.length := by omega
        have F := Lib.hid f
        clear f o hm
        go_wp2_with fail
        go_end0
        exact ⟨rfl, by simpa [blk] using F.out⟩
end Go.Proofs.YtjdejhgfkjeeiaaGreatDoor.Pt
namespace Go.Proofs.YtjdejhgfkjeeiaaGreatDoor
open Go.RowKit
set_option linter.unusedVariables false
set_option linter.unusedSimpArgs false
set_option maxRecDepth 100000

open Pt (Pt may enc readPt readE readAt zeroPt pc pv PtV SlA OwnA)
set_option maxHeartbeats 16000000 in
theorem reads_law (v : Value) (b sp : List UInt8) {w : World} (hS : SlB w v b sp) {s0 s1 s2 : Addr} (hs : Sens w s0 s1 s2) (hG : Hs.Glob w) : Calls Tryz.prog 4 #[v] w (Yes w) := by
  obtain ⟨a0, c0, rfl, _, _⟩ := hS.form
  have HS := Lib.hid hS
  have HAW := Lib.hid (fun W (f : Frm [] w W) => awake_any W (hs.keep0 f) (hG.keep f (by simp)))
  have HU := Lib.hid (fun v sp W (f : Frm [] w W) (hS : SlB W v b sp) (hb : b.length ≤ 1000000) => Unpack_own v b sp W hS hb (hs.keep0 f) (hG.keep f (by simp)))
  unfold UnpO at HU
  have HR := Lib.hid (fun W (f : Frm [] w W) (hb : b.length ≤ 1000000) => RefUnpack_any (.slice a0 b.length c0) b sp W (hS.keep f (by simp)) hb)
  unfold UnpP at HR
  have HL := Lib.hid (fun (hb : b.length ≤ 1000000) => Lent_any (.slice a0 b.length c0) b sp w hS hb)
  have hwf := unp_wf b
  have hal : (unp b).1.root.ads.length ≤ 1000000 := by
    rcases unp_cases b with ⟨e, _, h⟩ | ⟨h, _⟩
    · rw [h]; exact Nat.zero_le _
    · rw [h]; exact parse_ads b
  clear hs hG hS
  generalize (unp b).1 = u at *
  generalize (unp b).2 = e at *
  have HWF := Lib.hid hwf
  have HAL := Lib.hid hal
  clear hal
  go_enter Tryz.func4, Tryz.ntmps4
  by_cases hlb : 1000 < b.length
  · have hlb' : (1000 : Int) < b.length := by omega
    clear hlb
    go_wp2_with (go_at_call 14; refine (HAW.out _ (Frm.refl [] w)).mono ?_; rintro r W1 ⟨rfl, f1⟩)
    go_ret
    exact ⟨rfl, f1⟩
  have hlb' : ¬ (1000 : Int) < b.length := by omega
  have HBL := Lib.hid (show b.length ≤ 1000000 by omega)
  clear hlb
  go_upto_region 4 with (go_at_call 25; refine (HL.out HBL.out).mono ?_; rintro r w1 ⟨rfl, o1, f1⟩; have O1 := Lib.hid o1; have F1 := Lib.hid f1; clear o1 f1)
  clear hlb'
  go_upto_region 5 with (first
    | ((with_reducible (show wpList _ _ _ (Oper.mk _ (Op.alloc 28) _ _ _ _ :: _) _ _)); refine wpList_lay28 rfl rfl rfl _ _ rfl (v := .slice ya u.root.ads.length yc) rfl (u := u) hwf rfl rfl ?_)
    | (go_at_call 26; refine (HU.out _ _ _ F1.out O1.out.sl HBL.out).mono ?_; rintro r w2 ⟨ya, yc, ysp, rfl, oy, f2, n2⟩))
  have hylt := oy.lt
  have f3 : Frm [] w2 (w2.alloc (.cells (uc (.slice ya u.root.ads.length yc) u).toArray 28)) := (Frm.refl [] w2).alloc _
  have B4 := Lib.hid (UB.new w2 (.slice ya u.root.ads.length yc) hwf)
  have OY := Lib.hid (oy.keep f3 (by simp))
  have F4 := Lib.hid ((F1.out.trans f2 (by simp)).trans f3 (by simp))
  have O4 := Lib.hid (O1.out.keep (f2.trans f3 (by simp)) (by simp))
  have HN2 := Lib.hid (show ∀ i ∈ blk (.slice ya u.root.ads.length yc), w1.heap.size ≤ i ∧ i < w2.heap.size from fun i hi => ⟨n2 i hi, hylt i hi⟩)
  have HZ1 := Lib.hid (show w.heap.size < w1.heap.size from O1.out.lt _ (by simp [blk]))
  have HZ4 := Lib.hid (show w2.heap.size < (w2.alloc (.cells (uc (.slice ya u.root.ads.length yc) u).toArray 28)).heap.size by simp)
  clear f3 oy f2 n2 hylt
  generalize w2.alloc (.cells (uc (.slice ya u.root.ads.length yc) u).toArray 28) = W4 at *
  generalize w2.heap.size = L4 at *
  go_upto_region 6 with (first
    | ((with_reducible (show wpList _ _ _ (Oper.mk _ (Op.alloc 28) _ _ _ _ :: _) _ _)); refine wpList_lay28 rfl rfl rfl _ _ rfl (v := .slice za u.root.ads.length zc) rfl (u := u) hwf rfl rfl ?_)
    | (go_at_call 27; refine (HR.out _ F4.out HBL.out).mono ?_; rintro r w5 ⟨za, zc, zsp, rfl, oz, f5, n5⟩))
  have f6 : Frm [] w5 (w5.alloc (.cells (uc (.slice za u.root.ads.length zc) u).toArray 28)) := (Frm.refl [] w5).alloc _
  have B6 := Lib.hid (UB.new w5 (.slice za u.root.ads.length zc) hwf)
  have SZ := Lib.hid (oz.keep f6 (by simp))
  have HN5 := Lib.hid (show ∀ i ∈ blk (.slice za u.root.ads.length zc), W4.heap.size ≤ i from n5)
  have F6 := Lib.hid ((F4.out.trans f5 (by simp)).trans f6 (by simp))
  have F46 := Lib.hid (f5.trans f6 (by simp))
  have HZ5 := Lib.hid (show W4.heap.size ≤ w5.heap.size from f5.size)
  clear f6 oz f5 n5
  generalize w5.alloc (.cells (uc (.slice za u.root.ads.length zc) u).toArray 28) = W6 at *
  generalize w5.heap.size = L6 at *
  have G4 := Lib.hid (B4.out.keep0 F46.out)
  have OY6 := Lib.hid (OY.out.keep F46.out (by simp))
  have HSA := Lib.hid (fun x y W (hx : UbV W x u) (hy : UbV W y u) => SameUber_any x y u u W hx hy HAL.out)
  rw [sameU_refl] at HSA
  have hu4 : UbV W6 (uv (.slice ya u.root.ads.length yc) u) u := ⟨ya, yc, ysp, rfl, OY6.out.sl, HWF.out⟩
  have hu6 : UbV W6 (uv (.slice za u.root.ads.length zc) u) u := ⟨za, zc, zsp, rfl, SZ.out, HWF.out⟩
  have HU4 := Lib.hid hu4
  have HU6 := Lib.hid hu6
  clear hu4 hu6
  go_upto_region 8 with (first
    | ((with_reducible (show wpList _ _ _ (Oper.mk (some 26) (Op.load 28 _) _ _ _ _ :: _) _ _)); refine wpList_load_g (by rfl) 28 _ rfl _ rfl G4.out.gets.all ?_)
    | ((with_reducible (show wpList _ _ _ (Oper.mk (some 27) (Op.load 28 _) _ _ _ _ :: _) _ _)); refine wpList_load_g (by rfl) 28 _ rfl _ rfl B6.out.gets.all ?_)
    | (go_at_call 24; refine (HSA.out _ _ _ HU4.out HU6.out).mono ?_; rintro r W7 ⟨rfl, f7⟩))
  have k1 := (G4.out.keep0 f7).gets.c1
  have HOV := Lib.hid (Pt.OverA_any _ _ _ W7 (OY6.out.keep f7 (by simp)) HAL.out)
  have F7 := Lib.hid f7
  clear f7
  go_upto_region 9 with (go_at_call 28; refine HOV.out.mono ?_; rintro r w8 ⟨rfl, f8⟩)
  have F68 := Lib.hid ((F7.out.mono (L' := blk (.slice ya u.root.ads.length yc)) (by simp)).trans f8 (fun i hi => .inl hi))
  have F8 := Lib.hid ((F6.out.trans F7.out (by simp)).trans f8 (fun i hi => .inr (by have := (HN2.out i hi).1; have := HZ1.out; omega)))
  have O8 := Lib.hid ((O4.out.keep F46.out (by simp)).keep F68.out (fun i hi hm => by have := (HN2.out i hm).1; have := HZ1.out; simp [blk] at hi; omega))
  have B8 := Lib.hid (B6.out.keep F68.out (fun hm => by have := (HN2.out _ hm).2; have := HZ4.out; have := HZ5.out; omega))
  have SZ8 := Lib.hid (SZ.out.keep F68.out (fun i hi hm => by have := (HN2.out _ hm).2; have := HN5.out i hi; have := HZ4.out; omega))
  clear f8 k1
  go_upto_region 10 with (first
    | ((with_reducible (show wpList _ _ _ (Oper.mk _ (Op.alloc 28) _ _ _ _ :: _) _ _)); refine wpList_lay28 rfl rfl rfl _ _ rfl (v := .slice qa u.root.ads.length qc) rfl (u := u) hwf rfl rfl ?_)
    | (go_at_call 26; refine (HU.out _ _ _ F8.out O8.out.sl HBL.out).mono ?_; rintro r w9 ⟨qa, qc, qsp, rfl, oq, f9, n9⟩))
  have f10 : Frm [] w9 (w9.alloc (.cells (uc (.slice qa u.root.ads.length qc) u).toArray 28)) := (Frm.refl [] w9).alloc _
  have G10 := Lib.hid (UB.new w9 (.slice qa u.root.ads.length qc) hwf)
  have hu10 : UbV (w9.alloc (.cells (uc (.slice qa u.root.ads.length qc) u).toArray 28)) (uv (.slice qa u.root.ads.length qc) u) u := ⟨qa, qc, qsp, rfl, (oq.keep f10 (by simp)).sl, HWF.out⟩
  have hz10 : UbV (w9.alloc (.cells (uc (.slice qa u.root.ads.length qc) u).toArray 28)) (uv (.slice za u.root.ads.length zc) u) u := ⟨za, zc, zsp, rfl, SZ8.out.keep (f9.trans f10 (by simp)) (by simp), HWF.out⟩
  have HU10 := Lib.hid hu10
  have HZ10 := Lib.hid hz10
  have B10 := Lib.hid (B8.out.keep0 (f9.trans f10 (by simp)))
  have O10 := Lib.hid (O8.out.keep (f9.trans f10 (by simp)) (by simp))
  have F10 := Lib.hid ((F8.out.trans f9 (by simp)).trans f10 (by simp))
  clear f10 oq f9 n9 hu10 hz10
  generalize w9.alloc (.cells (uc (.slice qa u.root.ads.length qc) u).toArray 28) = W10 at *
  generalize w9.heap.size = L10 at *
  have HKE := Lib.hid (fun W (f : Frm [] W10 W) => Kept_true w.heap.size b.length (b.length + 3) (.slice a0 b.length c0) b sp W (O10.out.keep f (by simp)) (HS.out.keep (F10.out.trans f (by simp)) (by simp)) HBL.out)
  go_wp2_with (first
    | ((with_reducible (show wpList _ _ _ (Oper.mk (some 44) (Op.load 28 _) _ _ _ _ :: _) _ _)); refine wpList_load_g (by rfl) 28 _ rfl _ rfl G10.out.gets.all ?_)
    | ((with_reducible (show wpList _ _ _ (Oper.mk (some 45) (Op.load 28 _) _ _ _ _ :: _) _ _)); refine wpList_load_g (by rfl) 28 _ rfl _ rfl B10.out.gets.all ?_)
    | (go_at_call 24; refine (HSA.out _ _ _ HU10.out HZ10.out).mono ?_; rintro r W11 ⟨rfl, f11⟩; have F11 := Lib.hid f11; clear f11)
    | (go_at_call 29; refine (HKE.out _ F11.out).mono ?_; rintro r W12 ⟨rfl, f12⟩; have F12 := Lib.hid (F11.out.trans f12 (by simp)); clear f12)
    | (go_at_call 14; refine (HAW.out _ (F10.out.trans F12.out (by simp))).mono ?_; rintro r W13 ⟨rfl, f13⟩; have F13 := Lib.hid ((F10.out.trans F12.out (by simp)).trans f13 (by simp)); clear f13))
  go_ret
  exact ⟨rfl, F13.out⟩
end Go.Proofs.YtjdejhgfkjeeiaaGreatDoor
