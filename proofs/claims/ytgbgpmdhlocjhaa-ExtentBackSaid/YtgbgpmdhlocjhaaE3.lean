/-
  Contracts of merged, Add, Cut, Both and Within. No conditions but those that each theorem names.
-/
import Derived.Test.YtgbgpmdhlocjhaaE2
import Derived.Test.YtgbgpmdhlocjhaaB9
namespace Go.Proofs.Ytgbgpmdhlocjhaa
open Go.RowKit Go.Sort
set_option linter.unusedVariables false
set_option linter.unusedSimpArgs false
set_option maxRecDepth 100000

theorem cellsD {w : World} {b off n cap : Nat} {l : List Ed} {sp : List Value} (h : SlE eD 3 w (.slice (some ⟨b, off, none⟩) n cap) l sp) (i : Nat) (hi : i < l.length) :
    w.cell? ⟨b, off + i * 3, none⟩ = some (.int .i64 l[i].1) ∧ w.cell? ⟨b, off + i * 3 + 1, none⟩ = some (.int .i64 l[i].2.1) ∧ w.cell? ⟨b, off + i * 3 + 2, none⟩ = some (.bool l[i].2.2) :=
  ⟨SlE.cell encD h i hi 0 rfl, by rw [Nat.add_assoc]; exact SlE.cell encD h i hi 1 rfl, by rw [Nat.add_assoc]; exact SlE.cell encD h i hi 2 rfl⟩
def Bx (w : World) (g : Nat) (i0 i1 : Bool) : Prop := w.heap[g]? = some (.cells #[.bool i0, .bool i1] 60 (0, 0))
theorem bx_set0 {w : World} {g : Nat} {i0 i1 : Bool} (h : Bx w g i0 i1) (b : Bool) : Bx (w.setCell ⟨g, 0, none⟩ (.bool b)).drew g b i1 := by
  have := heap_setCell_same (i := 0) (.bool b) h
  exact this
theorem bx_set1 {w : World} {g : Nat} {i0 i1 : Bool} (h : Bx w g i0 i1) (b : Bool) : Bx (w.setCell ⟨g, 1, none⟩ (.bool b)).drew g i0 b := by
  have := heap_setCell_same (i := 1) (.bool b) h
  exact this
theorem jn_g {S R g : Nat} {w w' : World} {r : List Ex} (h : Jn S R w r) (f : Frm [g] w w') (h1 : g < S) (h2 : g ≠ R) : Jn S R w' r := by
  obtain ⟨v, sp, k1, k2, k3, k4⟩ := h
  exact ⟨v, sp, f.heap k1 (by simp; omega), k2.keep f (fun i hi hm => by simp at hm; have := k3 i hi; omega), k3, k4⟩
def MgRel (f : Bool → Bool → Bool) (l m : List Ex) (es : List Ed) (ev : Value) (spe : List Value) (S R g : Nat) (w0 : World) (fv cv : Value) (wr : World) : Prop :=
  ∃ (k : Nat) (fr : Int) (i0 i1 : Bool) (r : List Ex), k ≤ es.length ∧ fv = .int .i64 fr ∧ cv = .int .i64 k ∧ Bx wr g i0 i1 ∧ Jn S R wr r ∧ Wk f l m (es.drop k) fr i0 i1 r ∧ SlE eD 3 wr ev es spe ∧ Frm [] w0 wr ∧ S ≤ wr.heap.size
set_option maxHeartbeats 8000000 in
theorem merged_any (f : Bool → Bool → Bool) (hff : f false false = false) (gf : Nat) (eg : ∀ args w, (callFunc gf args).run Try.prog w = .ok (.enter gf args) w) (hw : ∀ a b W, Calls Try.prog gf #[.bool a, .bool b] W fun e w' => e = .returned (.bool (f a b)) ∧ w' = W)
    (v x : Value) (l m : List Ex) (sp msp : List Value) (w : World) (hS : SlX w v l sp) (hl : l.length ≤ 1000000000) (hx : ∀ x ∈ l, -9223372036854775808 ≤ x.1 ∧ x.1 ≤ 9223372036854775807)
    (hM : SlX w x m msp) (hm : m.length ≤ 1000000000) (hxm : ∀ x ∈ m, -9223372036854775808 ≤ x.1 ∧ x.1 ≤ 9223372036854775807) :
    Calls Try.prog 45 #[v, x, .func (.func gf) #[] #[]] w fun e w' => ∃ r c, MkP f l m r c ∧ ToldX w r c e w' := by
  obtain ⟨va, vc, rfl, _, _⟩ := hS.form
  obtain ⟨xa, xc, rfl, _, _⟩ := hM.form
  have HC := Lib.hid (fun W (f : Frm [] w W) => Check_any _ l sp W (hS.keep0 f) hl hx)
  have HD := Lib.hid (fun W (f : Frm [] w W) => Check_any _ m msp W (hM.keep0 f) hm hxm)
  by_cases hg : Good l
  · rw [chkE_good hg] at HC
    by_cases hgm : Good m
    · rw [chkE_good hgm] at HD
      have HE := Lib.hid (fun W (f : Frm [] w W) => edgesOf_any _ _ l m sp msp W (hS.keep0 f) hg (hM.keep0 f) hgm)
      have HG := Lib.hid (And.intro hg hgm)
      have HWW := Lib.hid hw
      have HFF := Lib.hid hff
      clear hS hg hx hl hM hgm hxm hm hw hff
      go_enter Try.func45, Try.ntmps45
      go_upto_region 3 with (first
        | (go_at_call 19; first
            | (with_reducible refine (HC.out _ (Frm.refl _ _)).mono ?_; rintro e w1 ⟨rfl, f1⟩)
            | (with_reducible refine (HD.out _ f1).mono ?_; rintro e w2 ⟨rfl, f2⟩)))
      have f3 := f1.trans f2 (by simp)
      clear f1 f2 HC HD
      go_upto_region 4 with (go_at_call 42; refine (joiner_any _).mono ?_; rintro e w3 ⟨rfl, rfl⟩)
      have j4 := heap_alloc_new w2 (.cells #[.slice none 0 0] 22)
      have f4 : Frm [] w2 (w2.alloc (.cells #[.slice none 0 0] 22)) := (Frm.refl _ _).alloc _
      have z4 : (w2.alloc (.cells #[.slice none 0 0] 22)).heap.size = w2.heap.size + 1 := by simp
      generalize w2.alloc (.cells #[.slice none 0 0] 22) = W4 at *
      have f5 := f3.trans f4 (by simp)
      have hw2s := f3.size
      obtain ⟨R, hR⟩ : ∃ R, w2.heap.size = R := ⟨_, rfl⟩
      rw [hR] at j4 z4 ⊢
      have J4 := Lib.hid j4
      have F5 := Lib.hid f5
      have Z4 := Lib.hid (show W4.heap.size = R + 1 ∧ w.heap.size ≤ R by omega)
      clear f3 f4 f5 j4 z4 hR hw2s
      go_upto_region 5 with (fail)
      have b5 := heap_alloc_new W4 (.cells #[.bool false, .bool false] 60)
      have f6 : Frm [] W4 (W4.alloc (.cells #[.bool false, .bool false] 60)) := (Frm.refl _ _).alloc _
      have z6 : (W4.alloc (.cells #[.bool false, .bool false] 60)).heap.size = W4.heap.size + 1 := by simp
      generalize W4.alloc (.cells #[.bool false, .bool false] 60) = W5 at *
      obtain ⟨g, hgg⟩ : ∃ g, W4.heap.size = g := ⟨_, rfl⟩
      rw [hgg] at b5 z6 Z4 ⊢
      have B5 := Lib.hid b5
      have F6 := Lib.hid (F5.out.trans f6 (by simp))
      have J5 := Lib.hid (f6.heap J4.out (by simp))
      have Z6 := Lib.hid (show g = R + 1 ∧ w.heap.size ≤ R ∧ W5.heap.size = g + 1 from ⟨Z4.out.1, Z4.out.2, z6⟩)
      clear b5 f6 z6 hgg J4 F5 Z4
      go_upto_region 6 with (go_at_call 52; refine Calls.mono (HE.out _ F6.out) ?_; rintro e W6 ⟨ev, es, spe, rfl, hp, hu, oe, fe, ne⟩; obtain ⟨ae, ce, rfl, _, _⟩ := oe.sl.form)
      have B6 := Lib.hid (show Bx W6 g false false from fe.heap B5.out (by simp))
      have J6 := Lib.hid (show Jn W6.heap.size R W6 [] from ⟨.slice none 0 0, [], fe.heap J5.out (by simp), OwnE.nil _ _ _ _, by simp [blk], by have := Z6.out; have := fe.size; omega⟩)
      have F7 := Lib.hid (F6.out.trans fe (by simp))
      have O6 := Lib.hid oe.sl
      have WK := Lib.hid (wk_start (f := f) HG.out.1 HG.out.2 hp hu)
      have hel : es.length ≤ 20000 := by
        have h1 := HG.out.1.len
        have h2 := HG.out.2.len
        rw [hp.length_eq, List.length_append, eds_length, eds_length]; omega
      have NE := Lib.hid (show ∀ j ∈ blk (.slice ae es.length ce), j < W6.heap.size ∧ j ≠ R ∧ j ≠ g from fun j hj => ⟨oe.lt j hj, by have := ne j hj; have := Z6.out; omega, by have := ne j hj; have := Z6.out; omega⟩)
      have ZS := Lib.hid (show g < W6.heap.size ∧ R < g ∧ w.heap.size ≤ R from by have := Z6.out; have := fe.size; omega)
      obtain ⟨S, hSS⟩ : ∃ S, W6.heap.size = S := ⟨_, rfl⟩
      have HSS := Lib.hid hSS
      rw [hSS] at J6 NE ZS
      have hel9 : (es.length : Int) ≤ 20000 := by omega
      clear oe fe ne hp hu B5 J5 F6 hSS HE hel
      go_loopw [10, 32] (MgRel f l m es (.slice ae es.length ce) spe S R g w) (fun _ cv _ => es.length - (intOf cv).toNat)
      case atStart => exact ⟨0, 0, false, false, [], by omega, rfl, rfl, B6.out, J6.out, by simpa using WK.out, O6.out, F7.out, by have := HSS.out; omega⟩
      case round =>
        obtain ⟨k, fr, i0, i1, r, hk, rfl, rfl, hb, hj, wk, oe, ff, hss⟩ := hrel
        by_cases hlt : k < es.length
        · have hd : es.drop k = es[k] :: es.drop (k + 1) := List.drop_eq_getElem_cons hlt
          obtain ⟨be, off, rfl⟩ := oe.at (by omega)
          obtain ⟨c0, c1, c2⟩ := cellsD oe k hlt
          rw [hd] at wk
          have wks := wk_step wk
          have hbd := wk.bd _ (List.mem_cons_self ..)
          have hle := wk.le _ (List.mem_cons_self ..)
          have hfb := wk.fb
          have hru := wk.ru
          generalize es[k] = y at *
          obtain ⟨yat, yl, yb⟩ := y
          simp only at c0 c1 c2 wks hbd hle
          have HWK := Lib.hid wks
          have HJ := Lib.hid hj
          have HB := Lib.hid hb
          have HO := Lib.hid oe
          have HFR := Lib.hid ff
          have HHS := Lib.hid hss
          clear wk wks hd
          have d0 : wr.cell? ⟨g, 0, none⟩ = some (.bool i0) := by rw [cell_of_heap hb]; rfl
          have d1 : wr.cell? ⟨g, 1, none⟩ = some (.bool i1) := by rw [cell_of_heap hb]; rfl
          clear hj hb oe ff hss
          go_upto_region 8 with (fail)
          have f8 : Frm [] wr (wr.alloc (.cells #[.int .i64 yat, .int .i64 yl, .bool yb] 65)) := (Frm.refl _ _).alloc _
          have hb8 := heap_alloc_new wr (.cells #[.int .i64 yat, .int .i64 yl, .bool yb] 65)
          generalize wr.alloc (.cells #[.int .i64 yat, .int .i64 yl, .bool yb] 65) = W8 at *
          obtain ⟨g8, hg8⟩ : ∃ g8, wr.heap.size = g8 := ⟨_, rfl⟩
          rw [hg8] at hb8 ⊢
          have e0 := f8.cell d0 (by simp)
          have e1 := f8.cell d1 (by simp)
          have HB8 := Lib.hid (show Bx W8 g i0 i1 from f8.heap HB.out (by simp))
          have HJ8 := Lib.hid (HJ.out.keep0 f8)
          have HJP := Lib.hid (show JnP (fun i => S ≤ i ∧ i ≠ g8) R W8 r from by
            obtain ⟨v, sp, k1, k2, k3, k4⟩ := HJ.out
            exact ⟨v, sp, f8.heap k1 (by simp), k2.keep0 f8, fun i hi => ⟨k3 i hi, by have := k2.lt i hi; omega⟩, fun h => by omega⟩)
          have HF8 := Lib.hid (HFR.out.trans f8 (by simp))
          have HO8 := Lib.hid (HO.out.keep0 f8)
          have H88 := Lib.hid hb8
          have HGG := Lib.hid (show S ≤ g8 ∧ g8 < W8.heap.size from ⟨by have := HHS.out; omega, lt_heap hb8⟩)
          clear c0 c1 c2 d0 d1 f8 hb8 hg8
          have hyl := hbd.2
          have hy9 : yat ≤ 4096 := hbd.1
          have HBD := Lib.hid hbd
          have HPU := Lib.hid (put_anyP (fun i => S ≤ i ∧ i ≠ g8) R r fr yat W8 HJP.out (by have := hru.1.len; omega) hru.1.ends hfb.1 hle hy9 hru.1.sizes (fun i hi => by have := HGG.out; omega))
          clear hru hbd
          cases hf : f i0 i1 with
          | false =>
            have HW8 := Lib.hid (show ∀ W, Calls Try.prog gf #[.bool i0, .bool i1] W fun e w' => e = .returned (.bool false) ∧ w' = W from fun W => by have := HWW.out i0 i1 W; rw [hf] at this; exact this)
            rw [hf] at HWK
            go_upto_region 10 with (refine Calls.mono (HW8.out _) ?_; rintro ee W9 ⟨rfl, hW9⟩; rw [hW9]; clear hW9 W9)
            clear e0 e1
            have HFIN := Lib.hid (show ∀ Wx, Bx Wx g (if yl = 0 then yb else i0) (if yl = 1 then yb else i1) → Frm [g] W8 Wx → MgRel f l m es (.slice (some ⟨be, off, none⟩) es.length ce) spe S R g w (.int .i64 yat) (.int .i64 ((k : Int) + 1)) Wx from fun Wx q1 q2 =>
              ⟨k + 1, yat, _, _, _, by omega, rfl, by go_num, q1, jn_g HJ8.out q2 (by have := ZS.out; omega) (by have := ZS.out; omega), HWK.out, HO8.out.keep q2 (fun j hj hm => by simp at hm; have := NE.out j (by simpa [blk] using hj); omega), HF8.out.trans q2 (fun j hj => .inr (by simp at hj; have := ZS.out; omega)), by have := q2.size; have := HGG.out; omega⟩)
            have c0 : W8.cell? ⟨g8, 0, none⟩ = some (.int .i64 yat) := by rw [cell_of_heap H88.out]; rfl
            have c1 : W8.cell? ⟨g8, 1, none⟩ = some (.int .i64 yl) := by rw [cell_of_heap H88.out]; rfl
            have c2 : W8.cell? ⟨g8, 2, none⟩ = some (.bool yb) := by rw [cell_of_heap H88.out]; rfl
            have d0 : W8.cell? ⟨g, 0, none⟩ = some (.bool i0) := by rw [cell_of_heap HB8.out]; rfl
            have d1 : W8.cell? ⟨g, 1, none⟩ = some (.bool i1) := by rw [cell_of_heap HB8.out]; rfl
            have z0 := frozen_of_heap HB8.out 0
            have z1 := frozen_of_heap HB8.out 1
            have hmix : Try.prog.follows .mixedOrders = true := by kernel_rfl
            have HYL := Lib.hid hyl
            rcases hyl with rfl | rfl
            · have hn0 := bx_set0 HB8.out yb
              have HN0 := Lib.hid (show Bx (W8.setCell ⟨g, 0, none⟩ (.bool yb)).drew g (if (0 : Int) = 0 then yb else i0) (if (0 : Int) = 1 then yb else i1) from hn0)
              have HF0 := Lib.hid (((Frm.refl [g] W8).setCell ⟨g, 0, none⟩ (.bool yb) (.inl (by simp))).drew)
              clear hn0
              go_big_region_o
              go_wp2_with fail
              go_roundw
              case rel => exact HFIN.out _ HN0.out HF0.out
              case measure => simp [intOf]; omega
            · have hn0 := bx_set1 HB8.out yb
              have HN0 := Lib.hid (show Bx (W8.setCell ⟨g, 1, none⟩ (.bool yb)).drew g (if (1 : Int) = 0 then yb else i0) (if (1 : Int) = 1 then yb else i1) from hn0)
              have HF0 := Lib.hid (((Frm.refl [g] W8).setCell ⟨g, 1, none⟩ (.bool yb) (.inl (by simp))).drew)
              clear hn0
              go_big_region_o
              go_wp2_with fail
              go_roundw
              case rel => exact HFIN.out _ HN0.out HF0.out
              case measure => simp [intOf]; omega
          | true =>
            have HW8 := Lib.hid (show ∀ W, Calls Try.prog gf #[.bool i0, .bool i1] W fun e w' => e = .returned (.bool true) ∧ w' = W from fun W => by have := HWW.out i0 i1 W; rw [hf] at this; exact this)
            have HPUT := HPU
            rw [hf] at HWK
            have q0 : W8.cell? ⟨g8, 0, none⟩ = some (.int .i64 yat) := by rw [cell_of_heap H88.out]; rfl
            go_upto_region 10 with (first
              | (go_at_call 50; refine Calls.mono (HPUT.out) ?_; rintro ee W9 ⟨rfl, j9, ch9⟩)
              | (refine Calls.mono (HW8.out _) ?_; rintro ee W9 ⟨rfl, hW9⟩; rw [hW9]; clear hW9 W9))
            clear q0 e0 e1
            have HJ9 := Lib.hid (j9.jn (S := S) (fun i hi => hi.1) (by have := ZS.out; omega))
            have H99 := Lib.hid (ch9.heap H88.out (fun h => h.2 rfl) (by have := HGG.out; have := ZS.out; omega))
            replace ch9 := ch9.chg (S := S) (fun i hi => hi.1)
            have HB9 := Lib.hid (show Bx W9 g i0 i1 from ch9.heap HB8.out ZS.out.1 (by have := ZS.out; omega))
            have HO9 := Lib.hid (ch9.slx HO8.out (fun j hj => by have := NE.out j (by simpa [blk] using hj); omega))
            have HF9 := Lib.hid (Chg.back HF8.out ch9 ZS.out.2.2 (by have := ZS.out; omega))
            have HZ9 := Lib.hid ch9.size
            clear j9 ch9
            have HFIN := Lib.hid (show ∀ Wx, Bx Wx g (if yl = 0 then yb else i0) (if yl = 1 then yb else i1) → Frm [g] W9 Wx → MgRel f l m es (.slice (some ⟨be, off, none⟩) es.length ce) spe S R g w (.int .i64 yat) (.int .i64 ((k : Int) + 1)) Wx from fun Wx q1 q2 =>
              ⟨k + 1, yat, _, _, _, by omega, rfl, by go_num, q1, jn_g HJ9.out q2 (by have := ZS.out; omega) (by have := ZS.out; omega), HWK.out, HO9.out.keep q2 (fun j hj hm => by simp at hm; have := NE.out j (by simpa [blk] using hj); omega), HF9.out.trans q2 (fun j hj => .inr (by simp at hj; have := ZS.out; omega)), by have := q2.size; have := HGG.out; have := HZ9.out; omega⟩)
            have c0 : W9.cell? ⟨g8, 0, none⟩ = some (.int .i64 yat) := by rw [cell_of_heap H99.out]; rfl
            have c1 : W9.cell? ⟨g8, 1, none⟩ = some (.int .i64 yl) := by rw [cell_of_heap H99.out]; rfl
            have c2 : W9.cell? ⟨g8, 2, none⟩ = some (.bool yb) := by rw [cell_of_heap H99.out]; rfl
            have d0 : W9.cell? ⟨g, 0, none⟩ = some (.bool i0) := by rw [cell_of_heap HB9.out]; rfl
            have d1 : W9.cell? ⟨g, 1, none⟩ = some (.bool i1) := by rw [cell_of_heap HB9.out]; rfl
            have z0 := frozen_of_heap HB9.out 0
            have z1 := frozen_of_heap HB9.out 1
            have hmix : Try.prog.follows .mixedOrders = true := by kernel_rfl
            have HYL := Lib.hid hyl
            rcases hyl with rfl | rfl
            · have hn0 := bx_set0 HB9.out yb
              have HN0 := Lib.hid (show Bx (W9.setCell ⟨g, 0, none⟩ (.bool yb)).drew g (if (0 : Int) = 0 then yb else i0) (if (0 : Int) = 1 then yb else i1) from hn0)
              have HF0 := Lib.hid (((Frm.refl [g] W9).setCell ⟨g, 0, none⟩ (.bool yb) (.inl (by simp))).drew)
              clear hn0
              go_big_region_o
              go_wp2_with fail
              go_roundw
              case rel => exact HFIN.out _ HN0.out HF0.out
              case measure => simp [intOf]; omega
            · have hn0 := bx_set1 HB9.out yb
              have HN0 := Lib.hid (show Bx (W9.setCell ⟨g, 1, none⟩ (.bool yb)).drew g (if (1 : Int) = 0 then yb else i0) (if (1 : Int) = 1 then yb else i1) from hn0)
              have HF0 := Lib.hid (((Frm.refl [g] W9).setCell ⟨g, 1, none⟩ (.bool yb) (.inl (by simp))).drew)
              clear hn0
              go_big_region_o
              go_wp2_with fail
              go_roundw
              case rel => exact HFIN.out _ HN0.out HF0.out
              case measure => simp [intOf]; omega
        · obtain rfl : k = es.length := by omega
          rw [List.drop_length] at wk
          have HAL := Lib.hid (all_any S R r wr hj)
          have HW := Lib.hid (wk_end HFF.out wk)
          have HFR := Lib.hid ff
          clear wk hb hj oe ff hss
          go_wp2_with (go_at_call 51; refine Calls.mono (HAL.out) ?_; rintro ee w9 ⟨v9, sp9, rfl, rfl, o9, n9⟩)
          go_ret2
          exact ⟨r, 0, .inl ⟨HG.out.1, HG.out.2, rfl, HW.out⟩, _, sp9, rfl, o9, HFR.out, fun j hj => by have := n9 j hj; have := ZS.out; omega⟩
    · rw [chkE_bad hgm] at HD
      have HG := Lib.hid hgm
      clear hS hg hx hl hM hgm hxm hm hw
      go_enter Try.func45, Try.ntmps45
      go_wp2_with (first
        | (go_at_call 19; first
            | (with_reducible refine (HC.out _ (Frm.refl _ _)).mono ?_; rintro e w1 ⟨rfl, f1⟩)
            | (with_reducible refine (HD.out _ f1).mono ?_; rintro e w2 ⟨rfl, f2⟩)))
      go_ret2
      exact ⟨[], 2, .inr ⟨fun h => HG.out h.2, rfl, rfl⟩, _, [], rfl, OwnE.nil _ _ _ _, f1.trans f2 (by simp), by simp [blk]⟩
  · rw [chkE_bad hg] at HC
    have HG := Lib.hid hg
    clear hS hg hx hl hM hxm hm hw
    go_enter Try.func45, Try.ntmps45
    go_wp2_with (go_at_call 19; with_reducible refine (HC.out _ (Frm.refl _ _)).mono ?_; rintro e w1 ⟨rfl, f1⟩)
    go_ret2
    exact ⟨[], 2, .inr ⟨fun h => HG.out h.1, rfl, rfl⟩, _, [], rfl, OwnE.nil _ _ _ _, f1, by simp [blk]⟩
end Go.Proofs.Ytgbgpmdhlocjhaa
