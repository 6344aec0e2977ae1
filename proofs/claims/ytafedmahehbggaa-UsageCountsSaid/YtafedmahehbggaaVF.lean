/-
  The walk of UsageTells. No conditions but those that each theorem names.
-/
import Derived.Test.YtafedmahehbggaaVE
namespace Go.Proofs.Ytafedmahehbggaa
open Go.RowKit Go.Sort Go.Maps
set_option linter.unusedVariables false
set_option linter.unusedSimpArgs false
set_option maxRecDepth 100000

open Kr (OwnE SlE Enco RowTys)
theorem long2 {L : List (List Ad)} {s : List Int} (h : (∀ l ∈ L, l.length ≤ 100) ∧ L.length ≤ 20 ∧ s.length ≤ 40) (hw : ∀ l ∈ L, ∀ x ∈ l, WfA x) : Hs L := ⟨by omega, fun l hl => by have := h.1 l hl; omega, hw⟩
theorem fl_len {L : List (List Ad)} (h : Hs L) (p : Ad → Bool) : (tell L p).length ≤ 64000 := by
  have h1 := sel_length h.l (fun _ => true) L.length
  have h2 := srt_length ((sel L (fun _ => true) L.length).filter p)
  have h3 := List.length_filter_le p (sel L (fun _ => true) L.length)
  have := Nat.mul_le_mul_right 1000 h.n
  unfold tell
  omega
/-- The told lists that are still as told. -/
def TkRel (T : List Value) (R : List (List Ad)) (TB : List Nat) (w5 : World) (cv : Value) (wr : World) : Prop :=
  ∃ k : Nat, k ≤ 4 ∧ cv = .int .i64 k ∧ Frm TB w5 wr ∧ ∀ j, k ≤ j → j < 4 → ∃ sp, OwnA 25 wr (T.getD j undef) (R.getD j []) sp
set_option maxHeartbeats 16000000 in
theorem tells_law (v : Value) (L : List (List Ad)) (sv : Value) (s : List Int) (ssp : List Value) (i : Int) (x : Ad) (w : World) (hS : LsA w v L) (hw : ∀ l ∈ L, ∀ x ∈ l, WfA x) (hI : SlI w sv s ssp) (hwI : ∀ z ∈ s, -9223372036854775808 ≤ z ∧ z ≤ 9223372036854775807) (hi : -9223372036854775808 ≤ i ∧ i ≤ 9223372036854775807) (hx : WfA x) :
    Calls Try.prog 3 #[v, sv, .int .i64 i, .agg #[.int .i64 x.1, .int .i64 x.2]] w (Yes w) := by
  have F0 := Lib.hid (show Frm [] w (w.alloc (.cells #[.int .i64 x.1, .int .i64 x.2] 25)) from (Frm.refl [] w).alloc _)
  have H0 := Lib.hid (heap_alloc_new w (.cells #[.int .i64 x.1, .int .i64 x.2] 25))
  have HS := Lib.hid hS
  have HI := Lib.hid hI
  have WF := Lib.hid hw
  have WX := Lib.hid hx
  obtain ⟨a, cap, rfl, _⟩ := hS.form
  obtain ⟨sa, scap, rfl, _, _⟩ := SlE.form hI
  clear hS hI hw hwI hi hx
  go_enter Try.func3, Try.ntmps3
  go_wp2_with fail
  generalize w.alloc (.cells #[.int .i64 x.1, .int .i64 x.2] 25) = w0 at *
  obtain ⟨g0, hg0⟩ : ∃ g0, w.heap.size = g0 := ⟨_, rfl⟩
  rw [hg0] at H0 ⊢
  clear hg0
  refine (long_any L _ _ s ssp _ (HS.out.keep0 F0.out) (HI.out.keep0 F0.out)).mono ?_
  rintro e w1 ⟨b, rfl, f1, hb⟩
  have F1 := Lib.hid (F0.out.trans f1 (by simp))
  have H1 := Lib.hid (f1.heap H0.out (by simp))
  clear f1 F0 H0
  cases b with
  | true =>
    clear hb
    go_wp2_with fail
    refine (awake_any _).mono ?_
    rintro e w2 ⟨rfl, f2⟩
    go_wp2_with fail
    go_ret
    exact ⟨rfl, F1.out.trans f2 (by simp)⟩
  | false =>
    have HL := Lib.hid (long2 (hb rfl) WF.out)
    have SN := Lib.hid (hb rfl).2.2
    clear hb
    go_wp2_with fail
    refine (copies_any L _ _ (HS.out.keep0 F1.out) HL.out).mono ?_
    rintro e w2 ⟨vi, rfl, ol, f2⟩
    obtain ⟨ia, icap, rfl⟩ := ol.form
    have IN2 := Lib.hid ol.ls
    have F2 := Lib.hid (F1.out.trans f2 (by simp))
    have H2 := Lib.hid (f2.heap H1.out (by simp))
    clear ol f2 F1 H1
    go_wp2_with fail
    refine (Lent_any _ s ssp _ (HI.out.keep0 F2.out) (by have := SN.out; omega)).mono ?_
    rintro e w3 ⟨gb, rfl, ob, f3, nb3⟩
    have BY := Lib.hid ob
    have IN := Lib.hid (IN2.out.keep0 f3)
    have F3 := Lib.hid (F2.out.trans f3 (by simp))
    have H3 := Lib.hid (f3.heap H2.out (by simp))
    clear ob f3 nb3 F2 H2 IN2
    obtain ⟨R0, hR0⟩ : ∃ R, freedU L [i] = R := ⟨_, rfl⟩
    obtain ⟨R1, hR1⟩ : ∃ R, allU L = R := ⟨_, rfl⟩
    obtain ⟨R2, hR2⟩ : ∃ R, freedU L s = R := ⟨_, rfl⟩
    obtain ⟨R3, hR3⟩ : ∃ R, sharedU L s = R := ⟨_, rfl⟩
    have RL := Lib.hid (show R0.length ≤ 64000 ∧ R1.length ≤ 64000 ∧ R2.length ≤ 64000 ∧ R3.length ≤ 64000 from ⟨by rw [← hR0]; exact fl_len HL.out _, by rw [← hR1]; exact fl_len HL.out _, by rw [← hR2]; exact fl_len HL.out _, by rw [← hR3]; exact fl_len HL.out _⟩)
    have HR0 := Lib.hid hR0
    clear hR0
    have HR1 := Lib.hid hR1
    clear hR1
    have HR2 := Lib.hid hR2
    clear hR2
    have HR3 := Lib.hid hR3
    clear hR3
    have G3 := Lib.hid (Frm.refl [] w3)
    go_wp2_with fail
    refine (Unique_any L _ i _ (IN.out.keep0 G3.out) HL.out).mono ?_
    rintro e w4 ⟨v4, sp4, rfl, o4, f4, n4⟩
    rw [HR0.out] at o4
    obtain ⟨a4, c4, rfl, _, _⟩ := o4.sl.form
    have O4 := Lib.hid o4
    have Z4 := Lib.hid (show (∀ j ∈ blk (.slice a4 R0.length c4), w3.heap.size ≤ j ∧ j < w4.heap.size) from fun j hj => ⟨n4 j hj, o4.lt j hj⟩)
    have S4 := Lib.hid (show w3.heap.size ≤ w4.heap.size from f4.size)
    have G4 := Lib.hid (G3.out.trans f4 (by simp))
    clear o4 f4 n4
    go_wp2_with fail
    refine (All_any L _ _ (IN.out.keep0 G4.out) HL.out).mono ?_
    rintro e w5 ⟨v5, sp5, rfl, o5, f5, n5⟩
    rw [HR1.out] at o5
    obtain ⟨a5, c5, rfl, _, _⟩ := o5.sl.form
    have O5 := Lib.hid o5
    have Z5 := Lib.hid (show (∀ j ∈ blk (.slice a5 R1.length c5), w4.heap.size ≤ j ∧ j < w5.heap.size) from fun j hj => ⟨n5 j hj, o5.lt j hj⟩)
    have S5 := Lib.hid (show w4.heap.size ≤ w5.heap.size from f5.size)
    have G5 := Lib.hid (G4.out.trans f5 (by simp))
    have O4 := Lib.hid (O4.out.keep f5 (by simp))
    clear o5 f5 n5
    go_wp2_with fail
    refine (Freed_any L _ _ s _ _ (IN.out.keep0 G5.out) HL.out ((OwnE.sl BY.out).keep0 G5.out) (by have := SN.out; omega)).mono ?_
    rintro e w6 ⟨v6, sp6, rfl, o6, f6, n6⟩
    rw [HR2.out] at o6
    obtain ⟨a6, c6, rfl, _, _⟩ := o6.sl.form
    have O6 := Lib.hid o6
    have Z6 := Lib.hid (show (∀ j ∈ blk (.slice a6 R2.length c6), w5.heap.size ≤ j ∧ j < w6.heap.size) from fun j hj => ⟨n6 j hj, o6.lt j hj⟩)
    have S6 := Lib.hid (show w5.heap.size ≤ w6.heap.size from f6.size)
    have G6 := Lib.hid (G5.out.trans f6 (by simp))
    have O4 := Lib.hid (O4.out.keep f6 (by simp))
    have O5 := Lib.hid (O5.out.keep f6 (by simp))
    clear o6 f6 n6
    go_wp2_with fail
    refine (Shared_any L _ _ s _ _ (IN.out.keep0 G6.out) HL.out ((OwnE.sl BY.out).keep0 G6.out) (by have := SN.out; omega)).mono ?_
    rintro e w7 ⟨v7, sp7, rfl, o7, f7, n7⟩
    rw [HR3.out] at o7
    obtain ⟨a7, c7, rfl, _, _⟩ := o7.sl.form
    have O7 := Lib.hid o7
    have Z7 := Lib.hid (show (∀ j ∈ blk (.slice a7 R3.length c7), w6.heap.size ≤ j ∧ j < w7.heap.size) from fun j hj => ⟨n7 j hj, o7.lt j hj⟩)
    have S7 := Lib.hid (show w6.heap.size ≤ w7.heap.size from f7.size)
    have G7 := Lib.hid (G6.out.trans f7 (by simp))
    have O4 := Lib.hid (O4.out.keep f7 (by simp))
    have O5 := Lib.hid (O5.out.keep f7 (by simp))
    have O6 := Lib.hid (O6.out.keep f7 (by simp))
    clear o7 f7 n7
    go_upto_region 5 with (fail)
    have fx : Frm [] w7 (w7.alloc (.cells #[.slice a4 R0.length c4, .slice a5 R1.length c5, .slice a6 R2.length c6, .slice a7 R3.length c7] 30)) := (Frm.refl [] w7).alloc _
    have hx := heap_alloc_new w7 (.cells #[.slice a4 R0.length c4, .slice a5 R1.length c5, .slice a6 R2.length c6, .slice a7 R3.length c7] 30)
    generalize w7.alloc (.cells #[.slice a4 R0.length c4, .slice a5 R1.length c5, .slice a6 R2.length c6, .slice a7 R3.length c7] 30) = w8 at *
    obtain ⟨gT, hgT⟩ : ∃ g, w7.heap.size = g := ⟨_, rfl⟩
    rw [hgT] at hx ⊢
    have BgT := Lib.hid hx
    have EgT := Lib.hid hgT
    have G8 := Lib.hid (G7.out.trans fx (by simp))
    have S8 := Lib.hid (show w7.heap.size ≤ w8.heap.size from fx.size)
    have O4 := Lib.hid (O4.out.keep fx (by simp))
    have O5 := Lib.hid (O5.out.keep fx (by simp))
    have O6 := Lib.hid (O6.out.keep fx (by simp))
    have O7 := Lib.hid (O7.out.keep fx (by simp))
    clear fx hx hgT
    go_wp2_with fail
    refine (RefUnique_any L _ i _ (HS.out.keep0 (F3.out.trans G8.out (by simp))) HL.out).mono ?_
    rintro e w9 ⟨v9, sp9, rfl, o9, f9, n9⟩
    rw [HR0.out] at o9
    obtain ⟨a9, c9, rfl, _, _⟩ := o9.sl.form
    have O9 := Lib.hid o9
    have Z9 := Lib.hid (show (∀ j ∈ blk (.slice a9 R0.length c9), w8.heap.size ≤ j ∧ j < w9.heap.size) from fun j hj => ⟨n9 j hj, o9.lt j hj⟩)
    have S9 := Lib.hid (show w8.heap.size ≤ w9.heap.size from f9.size)
    have G9 := Lib.hid (G8.out.trans f9 (by simp))
    have O4 := Lib.hid (O4.out.keep f9 (by simp))
    have O5 := Lib.hid (O5.out.keep f9 (by simp))
    have O6 := Lib.hid (O6.out.keep f9 (by simp))
    have O7 := Lib.hid (O7.out.keep f9 (by simp))
    have BgT := Lib.hid (f9.heap BgT.out (by simp))
    clear o9 f9 n9
    go_wp2_with fail
    refine (RefAll_any L _ _ (HS.out.keep0 (F3.out.trans G9.out (by simp))) HL.out).mono ?_
    rintro e w10 ⟨v10, sp10, rfl, o10, f10, n10⟩
    rw [HR1.out] at o10
    obtain ⟨a10, c10, rfl, _, _⟩ := o10.sl.form
    have O10 := Lib.hid o10
    have Z10 := Lib.hid (show (∀ j ∈ blk (.slice a10 R1.length c10), w9.heap.size ≤ j ∧ j < w10.heap.size) from fun j hj => ⟨n10 j hj, o10.lt j hj⟩)
    have S10 := Lib.hid (show w9.heap.size ≤ w10.heap.size from f10.size)
    have G10 := Lib.hid (G9.out.trans f10 (by simp))
    have O4 := Lib.hid (O4.out.keep f10 (by simp))
    have O5 := Lib.hid (O5.out.keep f10 (by simp))
    have O6 := Lib.hid (O6.out.keep f10 (by simp))
    have O7 := Lib.hid (O7.out.keep f10 (by simp))
    have O9 := Lib.hid (O9.out.keep f10 (by simp))
    have BgT := Lib.hid (f10.heap BgT.out (by simp))
    clear o10 f10 n10
    go_wp2_with fail
    refine (RefFreed_any L _ _ s ssp _ (HS.out.keep0 (F3.out.trans G10.out (by simp))) HL.out (HI.out.keep0 (F3.out.trans G10.out (by simp))) (by have := SN.out; omega)).mono ?_
    rintro e w11 ⟨v11, sp11, rfl, o11, f11, n11⟩
    rw [HR2.out] at o11
    obtain ⟨a11, c11, rfl, _, _⟩ := o11.sl.form
    have O11 := Lib.hid o11
    have Z11 := Lib.hid (show (∀ j ∈ blk (.slice a11 R2.length c11), w10.heap.size ≤ j ∧ j < w11.heap.size) from fun j hj => ⟨n11 j hj, o11.lt j hj⟩)
    have S11 := Lib.hid (show w10.heap.size ≤ w11.heap.size from f11.size)
    have G11 := Lib.hid (G10.out.trans f11 (by simp))
    have O4 := Lib.hid (O4.out.keep f11 (by simp))
    have O5 := Lib.hid (O5.out.keep f11 (by simp))
    have O6 := Lib.hid (O6.out.keep f11 (by simp))
    have O7 := Lib.hid (O7.out.keep f11 (by simp))
    have O9 := Lib.hid (O9.out.keep f11 (by simp))
    have O10 := Lib.hid (O10.out.keep f11 (by simp))
    have BgT := Lib.hid (f11.heap BgT.out (by simp))
    clear o11 f11 n11
    go_wp2_with fail
    refine (RefShared_any L _ _ s ssp _ (HS.out.keep0 (F3.out.trans G11.out (by simp))) HL.out (HI.out.keep0 (F3.out.trans G11.out (by simp))) (by have := SN.out; omega)).mono ?_
    rintro e w12 ⟨v12, sp12, rfl, o12, f12, n12⟩
    rw [HR3.out] at o12
    obtain ⟨a12, c12, rfl, _, _⟩ := o12.sl.form
    have O12 := Lib.hid o12
    have Z12 := Lib.hid (show (∀ j ∈ blk (.slice a12 R3.length c12), w11.heap.size ≤ j ∧ j < w12.heap.size) from fun j hj => ⟨n12 j hj, o12.lt j hj⟩)
    have S12 := Lib.hid (show w11.heap.size ≤ w12.heap.size from f12.size)
    have G12 := Lib.hid (G11.out.trans f12 (by simp))
    have O4 := Lib.hid (O4.out.keep f12 (by simp))
    have O5 := Lib.hid (O5.out.keep f12 (by simp))
    have O6 := Lib.hid (O6.out.keep f12 (by simp))
    have O7 := Lib.hid (O7.out.keep f12 (by simp))
    have O9 := Lib.hid (O9.out.keep f12 (by simp))
    have O10 := Lib.hid (O10.out.keep f12 (by simp))
    have O11 := Lib.hid (O11.out.keep f12 (by simp))
    have BgT := Lib.hid (f12.heap BgT.out (by simp))
    clear o12 f12 n12
    go_upto_region 6 with (fail)
    have fx : Frm [] w12 (w12.alloc (.cells #[.slice a9 R0.length c9, .slice a10 R1.length c10, .slice a11 R2.length c11, .slice a12 R3.length c12] 30)) := (Frm.refl [] w12).alloc _
    have hx := heap_alloc_new w12 (.cells #[.slice a9 R0.length c9, .slice a10 R1.length c10, .slice a11 R2.length c11, .slice a12 R3.length c12] 30)
    generalize w12.alloc (.cells #[.slice a9 R0.length c9, .slice a10 R1.length c10, .slice a11 R2.length c11, .slice a12 R3.length c12] 30) = w13 at *
    obtain ⟨gW, hgW⟩ : ∃ g, w12.heap.size = g := ⟨_, rfl⟩
    rw [hgW] at hx ⊢
    have BgW := Lib.hid hx
    have EgW := Lib.hid hgW
    have G13 := Lib.hid (G12.out.trans fx (by simp))
    have S13 := Lib.hid (show w12.heap.size ≤ w13.heap.size from fx.size)
    have O4 := Lib.hid (O4.out.keep fx (by simp))
    have O5 := Lib.hid (O5.out.keep fx (by simp))
    have O6 := Lib.hid (O6.out.keep fx (by simp))
    have O7 := Lib.hid (O7.out.keep fx (by simp))
    have O9 := Lib.hid (O9.out.keep fx (by simp))
    have O10 := Lib.hid (O10.out.keep fx (by simp))
    have O11 := Lib.hid (O11.out.keep fx (by simp))
    have O12 := Lib.hid (O12.out.keep fx (by simp))
    have BgT := Lib.hid (fx.heap BgT.out (by simp))
    clear fx hx hgW
    obtain ⟨TB, hTB⟩ : ∃ l, l = (blk (.slice a4 R0.length c4) ++ blk (.slice a5 R1.length c5) ++ blk (.slice a6 R2.length c6) ++ blk (.slice a7 R3.length c7)) := ⟨_, rfl⟩
    have ZT := Lib.hid (show ∀ j ∈ TB, w3.heap.size ≤ j ∧ j < w7.heap.size from fun j hj => by
      rw [hTB] at hj
      simp only [List.mem_append] at hj
      have := S4.out; have := S5.out; have := S6.out; have := S7.out
      rcases hj with ((h | h) | h) | h
      · have := Z4.out j h; omega
      · have := Z5.out j h; omega
      · have := Z6.out j h; omega
      · have := Z7.out j h; omega)
    have T0 := Lib.hid (show ∀ q ∈ blk (.slice a4 R0.length c4), q ∈ TB from fun q hq => by rw [hTB]; simp only [List.mem_append]; exact .inl (.inl (.inl hq)))
    have T1 := Lib.hid (show ∀ q ∈ blk (.slice a5 R1.length c5), q ∈ TB from fun q hq => by rw [hTB]; simp only [List.mem_append]; exact .inl (.inl (.inr hq)))
    have T2 := Lib.hid (show ∀ q ∈ blk (.slice a6 R2.length c6), q ∈ TB from fun q hq => by rw [hTB]; simp only [List.mem_append]; exact .inl (.inr hq))
    have T3 := Lib.hid (show ∀ q ∈ blk (.slice a7 R3.length c7), q ∈ TB from fun q hq => by rw [hTB]; simp only [List.mem_append]; exact .inr hq)
    clear hTB
    have W0 := Lib.hid (show ∀ q ∈ blk (.slice a9 R0.length c9), q ∉ TB from fun q hq hm => by have := ZT.out q hm; have := Z9.out q hq; have := S8.out; have := S9.out; have := S10.out; have := S11.out; have := S12.out; omega)
    have W1 := Lib.hid (show ∀ q ∈ blk (.slice a10 R1.length c10), q ∉ TB from fun q hq hm => by have := ZT.out q hm; have := Z10.out q hq; have := S8.out; have := S9.out; have := S10.out; have := S11.out; have := S12.out; omega)
    have W2 := Lib.hid (show ∀ q ∈ blk (.slice a11 R2.length c11), q ∉ TB from fun q hq hm => by have := ZT.out q hm; have := Z11.out q hq; have := S8.out; have := S9.out; have := S10.out; have := S11.out; have := S12.out; omega)
    have W3 := Lib.hid (show ∀ q ∈ blk (.slice a12 R3.length c12), q ∉ TB from fun q hq hm => by have := ZT.out q hm; have := Z12.out q hq; have := S8.out; have := S9.out; have := S10.out; have := S11.out; have := S12.out; omega)
    have NgT := Lib.hid (show gT ∉ TB from fun hm => by have := ZT.out _ hm; have := EgT.out; omega)
    have NgW := Lib.hid (show gW ∉ TB from fun hm => by have := ZT.out _ hm; have := EgW.out; have := S8.out; have := S9.out; have := S10.out; have := S11.out; have := S12.out; omega)
    have D01 := Lib.hid (show ∀ q ∈ blk (.slice a5 R1.length c5), q ∉ blk (.slice a4 R0.length c4) from fun q h1 h2 => by have := Z4.out q h2; have := Z5.out q h1; have := S5.out; have := S6.out; have := S7.out; omega)
    have D02 := Lib.hid (show ∀ q ∈ blk (.slice a6 R2.length c6), q ∉ blk (.slice a4 R0.length c4) from fun q h1 h2 => by have := Z4.out q h2; have := Z6.out q h1; have := S5.out; have := S6.out; have := S7.out; omega)
    have D03 := Lib.hid (show ∀ q ∈ blk (.slice a7 R3.length c7), q ∉ blk (.slice a4 R0.length c4) from fun q h1 h2 => by have := Z4.out q h2; have := Z7.out q h1; have := S5.out; have := S6.out; have := S7.out; omega)
    have D12 := Lib.hid (show ∀ q ∈ blk (.slice a6 R2.length c6), q ∉ blk (.slice a5 R1.length c5) from fun q h1 h2 => by have := Z5.out q h2; have := Z6.out q h1; have := S5.out; have := S6.out; have := S7.out; omega)
    have D13 := Lib.hid (show ∀ q ∈ blk (.slice a7 R3.length c7), q ∉ blk (.slice a5 R1.length c5) from fun q h1 h2 => by have := Z5.out q h2; have := Z7.out q h1; have := S5.out; have := S6.out; have := S7.out; omega)
    have D23 := Lib.hid (show ∀ q ∈ blk (.slice a7 R3.length c7), q ∉ blk (.slice a6 R2.length c6) from fun q h1 h2 => by have := Z6.out q h2; have := Z7.out q h1; have := S5.out; have := S6.out; have := S7.out; omega)
    go_wp2_with fail
    go_loopw [13] (TkRel [(.slice a4 R0.length c4), (.slice a5 R1.length c5), (.slice a6 R2.length c6), (.slice a7 R3.length c7)] [R0, R1, R2, R3] TB w13) (fun c _ => 4 - (intOf c).toNat)
    case atStart =>
      refine ⟨0, by omega, rfl, Frm.refl _ _, fun j _ hj => ?_⟩
      have hj4 : j = 0 ∨ j = 1 ∨ j = 2 ∨ j = 3 := by omega
      rcases hj4 with rfl | rfl | rfl | rfl
      · exact ⟨_, O4.out⟩
      · exact ⟨_, O5.out⟩
      · exact ⟨_, O6.out⟩
      · exact ⟨_, O7.out⟩
    case round =>
      obtain ⟨k, hk, rfl, f, hall⟩ := hrel
      have hk5 : k = 0 ∨ k = 1 ∨ k = 2 ∨ k = 3 ∨ k = 4 := by omega
      rcases hk5 with rfl | rfl | rfl | rfl | rfl
      · obtain ⟨sp, o⟩ := hall 0 (Nat.le_refl _) (by omega)
        have O := Lib.hid (show OwnA 25 wr (.slice a4 R0.length c4) R0 sp from o)
        have Q1 := Lib.hid (show ∃ sp, OwnA 25 wr (.slice a5 R1.length c5) R1 sp from hall 1 (by omega) (by omega))
        have Q2 := Lib.hid (show ∃ sp, OwnA 25 wr (.slice a6 R2.length c6) R2 sp from hall 2 (by omega) (by omega))
        have Q3 := Lib.hid (show ∃ sp, OwnA 25 wr (.slice a7 R3.length c7) R3 sp from hall 3 (by omega) (by omega))
        have CT := Lib.hid (show wr.cell? ⟨gT, 0, none⟩ = some (.slice a4 R0.length c4) by rw [cell_of_heap (f.heap BgT.out NgT.out)]; rfl)
        have CW := Lib.hid (show wr.cell? ⟨gW, 0, none⟩ = some (.slice a9 R0.length c9) by rw [cell_of_heap (f.heap BgW.out NgW.out)]; rfl)
        have OW := Lib.hid (O9.out.keep f W0.out)
        have F := Lib.hid f
        clear f hall o
        go_upto_region 9 with (fail)
        refine wp_region_held_drew (S := fun z => Frm [] wr z) (by kernel_rfl) ((Frm.refl [] wr).drew) (fun hHeld => ?_)
        refine wpAnyH_take (i := 0) (oi := { dst := some 53, op := Op.move (Operand.tmp 11), type := 22, pos := "law.go:49", after := #[], guard := none }) (v := ?_) rfl (by kernel_rfl) (by kernel_rfl) (by kernel_rfl) (fun _ _ _ h => h) (Or.inl ⟨by rfl, ?_⟩) hHeld ?_
        rotate_left
        focus (intro z hSw; clear hSw; go_simp; try with_reducible rfl)
        try simp only [Act.put, List.setIfInBounds_toArray, List.set_cons_zero, List.set_cons_succ]
        refine wpAnyH_take (i := 1) (oi := { dst := some 54, op := Op.move (Operand.tmp 13), type := 3, pos := "law.go:49", after := #[], guard := none }) (v := ?_) rfl (by kernel_rfl) (by kernel_rfl) (by kernel_rfl) (fun _ _ _ h => h) (Or.inl ⟨by rfl, ?_⟩) hHeld ?_
        rotate_left
        focus (intro z hSw; clear hSw; go_simp; try with_reducible rfl)
        try simp only [Act.put, List.setIfInBounds_toArray, List.set_cons_zero, List.set_cons_succ]
        refine wpAnyH_take (i := 2) (oi := { dst := some 55, op := Op.indexAddr 22 (Operand.tmp 53) (Operand.tmp 54), type := 0, pos := "law.go:49", after := #[{ on := 0, ground := Ground.data }, { on := 1, ground := Ground.data }], guard := none }) (v := ?_) rfl (by kernel_rfl) (by kernel_rfl) (by kernel_rfl) (fun _ _ _ h => h) (Or.inl ⟨by rfl, ?_⟩) hHeld ?_
        rotate_left
        focus (intro z hSw; clear hSw; go_simp; try with_reducible rfl)
        try simp only [Act.put, List.setIfInBounds_toArray, List.set_cons_zero, List.set_cons_succ]
        refine wpAnyH_take (i := 3) (oi := { dst := some 56, op := Op.load 30 (Operand.tmp 55), type := 30, pos := "law.go:49", after := #[{ on := 2, ground := Ground.data }], guard := none }) (v := ?_) rfl (by kernel_rfl) (by kernel_rfl) (by kernel_rfl) (fun _ _ _ h => h) (Or.inl ⟨by rfl, ?_⟩) hHeld ?_
        rotate_left
        focus (intro z hSw; have hcz := hSw.cell CT.out (by simp); have hcy := hSw.cell CW.out (by simp); clear hSw; go_simp; try with_reducible rfl)
        try simp only [Act.put, List.setIfInBounds_toArray, List.set_cons_zero, List.set_cons_succ]
        refine wpAnyH_take (i := 4) (oi := { dst := some 57, op := Op.move (Operand.tmp 12), type := 22, pos := "law.go:49", after := #[], guard := none }) (v := ?_) rfl (by kernel_rfl) (by kernel_rfl) (by kernel_rfl) (fun _ _ _ h => h) (Or.inl ⟨by rfl, ?_⟩) hHeld ?_
        rotate_left
        focus (intro z hSw; clear hSw; go_simp; try with_reducible rfl)
        try simp only [Act.put, List.setIfInBounds_toArray, List.set_cons_zero, List.set_cons_succ]
        refine wpAnyH_take (i := 5) (oi := { dst := some 58, op := Op.move (Operand.tmp 13), type := 3, pos := "law.go:49", after := #[], guard := none }) (v := ?_) rfl (by kernel_rfl) (by kernel_rfl) (by kernel_rfl) (fun _ _ _ h => h) (Or.inl ⟨by rfl, ?_⟩) hHeld ?_
        rotate_left
        focus (intro z hSw; clear hSw; go_simp; try with_reducible rfl)
        try simp only [Act.put, List.setIfInBounds_toArray, List.set_cons_zero, List.set_cons_succ]
        refine wpAnyH_take (i := 6) (oi := { dst := some 59, op := Op.indexAddr 22 (Operand.tmp 57) (Operand.tmp 58), type := 0, pos := "law.go:49", after := #[{ on := 4, ground := Ground.data }, { on := 5, ground := Ground.data }], guard := none }) (v := ?_) rfl (by kernel_rfl) (by kernel_rfl) (by kernel_rfl) (fun _ _ _ h => h) (Or.inl ⟨by rfl, ?_⟩) hHeld ?_
        rotate_left
        focus (intro z hSw; clear hSw; go_simp; try with_reducible rfl)
        try simp only [Act.put, List.setIfInBounds_toArray, List.set_cons_zero, List.set_cons_succ]
        refine wpAnyH_take (i := 7) (oi := { dst := some 60, op := Op.load 30 (Operand.tmp 59), type := 30, pos := "law.go:49", after := #[{ on := 6, ground := Ground.data }], guard := none }) (v := ?_) rfl (by kernel_rfl) (by kernel_rfl) (by kernel_rfl) (fun _ _ _ h => h) (Or.inl ⟨by rfl, ?_⟩) hHeld ?_
        rotate_left
        focus (intro z hSw; have hcz := hSw.cell CT.out (by simp); have hcy := hSw.cell CW.out (by simp); clear hSw; go_simp; try with_reducible rfl)
        try simp only [Act.put, List.setIfInBounds_toArray, List.set_cons_zero, List.set_cons_succ]
        refine wpAnyH_ready (rs := [8]) (by kernel_rfl) (by simp) ?_
        refine AllReadyH.cons (o := { dst := some 61, op := Op.call { callee := Callee.value (Operand.func 19), args := #[Operand.tmp 56, Operand.tmp 60], argTypes := #[30, 30] }, type := 4, pos := "law.go:49", after := #[{ on := 3, ground := Ground.data }, { on := 7, ground := Ground.data }], guard := none }) rfl (fun K hK => ?_) AllReadyH.nil
        go_simp
        refine (Same_true _ _ R0 _ _ _ ((O.out.keep hHeld (by simp)).sl) ((OW.out.keep hHeld (by simp)).sl) (by have := RL.out; omega)).mono ?_
        rintro e w4x ⟨rfl, f4⟩
        refine hK.out _ _ ?_ (fun hNext => ?_)
        · exact hHeld.trans f4 (by simp)
        clear hK K hHeld
        have hHeld := hNext
        clear hNext
        try simp only [Act.put, List.setIfInBounds_toArray, List.set_cons_zero, List.set_cons_succ]
        refine wpAnyH_take (i := 9) (oi := { dst := some 62, op := Op.unOp UnOp.not 4 (Operand.tmp 61), type := 4, pos := "law.go:49", after := #[{ on := 8, ground := Ground.data }], guard := none }) (v := ?_) rfl (by kernel_rfl) (by kernel_rfl) (by kernel_rfl) (fun _ _ _ h => h) (Or.inl ⟨by rfl, ?_⟩) hHeld ?_
        rotate_left
        focus (intro z hSw; clear hSw; go_simp; try with_reducible rfl)
        try simp only [Act.put, List.setIfInBounds_toArray, List.set_cons_zero, List.set_cons_succ]
        refine wpAnyH_done (by kernel_rfl) ?_ _
        have hct := hHeld.cell CT.out (by simp)
        go_wp2_with fail
        refine (Over_any _ R0 sp _ (O.out.keep hHeld (by simp)) (by have := RL.out; omega)).mono ?_
        rintro e w30 ⟨rfl, f30⟩
        have FN := Lib.hid ((F.out.trans hHeld (by simp)).trans f30 (fun q hq => .inl (T0.out q hq)))
        have Q1 := Lib.hid (show ∃ sp, OwnA 25 w30 (.slice a5 R1.length c5) R1 sp from by obtain ⟨sp, h⟩ := Q1.out; exact ⟨sp, (h.keep hHeld (by simp)).keep f30 D01.out⟩)
        have Q2 := Lib.hid (show ∃ sp, OwnA 25 w30 (.slice a6 R2.length c6) R2 sp from by obtain ⟨sp, h⟩ := Q2.out; exact ⟨sp, (h.keep hHeld (by simp)).keep f30 D02.out⟩)
        have Q3 := Lib.hid (show ∃ sp, OwnA 25 w30 (.slice a7 R3.length c7) R3 sp from by obtain ⟨sp, h⟩ := Q3.out; exact ⟨sp, (h.keep hHeld (by simp)).keep f30 D03.out⟩)
        clear hHeld f30 f4 hct
        go_wp2_with fail
        go_roundw
        case rel =>
          refine ⟨1, by omega, by go_num, FN.out, fun j h1 h2 => ?_⟩
          have hj4 : j = 1 ∨ j = 2 ∨ j = 3 := by omega
          rcases hj4 with rfl | rfl | rfl
          · exact Q1.out
          · exact Q2.out
          · exact Q3.out
        case measure => decide
      · obtain ⟨sp, o⟩ := hall 1 (Nat.le_refl _) (by omega)
        have O := Lib.hid (show OwnA 25 wr (.slice a5 R1.length c5) R1 sp from o)
        have Q2 := Lib.hid (show ∃ sp, OwnA 25 wr (.slice a6 R2.length c6) R2 sp from hall 2 (by omega) (by omega))
        have Q3 := Lib.hid (show ∃ sp, OwnA 25 wr (.slice a7 R3.length c7) R3 sp from hall 3 (by omega) (by omega))
        have CT := Lib.hid (show wr.cell? ⟨gT, 1, none⟩ = some (.slice a5 R1.length c5) by rw [cell_of_heap (f.heap BgT.out NgT.out)]; rfl)
        have CW := Lib.hid (show wr.cell? ⟨gW, 1, none⟩ = some (.slice a10 R1.length c10) by rw [cell_of_heap (f.heap BgW.out NgW.out)]; rfl)
        have OW := Lib.hid (O10.out.keep f W1.out)
        have F := Lib.hid f
        clear f hall o
        go_upto_region 9 with (fail)
        refine wp_region_held_drew (S := fun z => Frm [] wr z) (by kernel_rfl) ((Frm.refl [] wr).drew) (fun hHeld => ?_)
        refine wpAnyH_take (i := 0) (oi := { dst := some 53, op := Op.move (Operand.tmp 11), type := 22, pos := "law.go:49", after := #[], guard := none }) (v := ?_) rfl (by kernel_rfl) (by kernel_rfl) (by kernel_rfl) (fun _ _ _ h => h) (Or.inl ⟨by rfl, ?_⟩) hHeld ?_
        rotate_left
        focus (intro z hSw; clear hSw; go_simp; try with_reducible rfl)
        try simp only [Act.put, List.setIfInBounds_toArray, List.set_cons_zero, List.set_cons_succ]
        refine wpAnyH_take (i := 1) (oi := { dst := some 54, op := Op.move (Operand.tmp 13), type := 3, pos := "law.go:49", after := #[], guard := none }) (v := ?_) rfl (by kernel_rfl) (by kernel_rfl) (by kernel_rfl) (fun _ _ _ h => h) (Or.inl ⟨by rfl, ?_⟩) hHeld ?_
        rotate_left
        focus (intro z hSw; clear hSw; go_simp; try with_reducible rfl)
        try simp only [Act.put, List.setIfInBounds_toArray, List.set_cons_zero, List.set_cons_succ]
        refine wpAnyH_take (i := 2) (oi := { dst := some 55, op := Op.indexAddr 22 (Operand.tmp 53) (Operand.tmp 54), type := 0, pos := "law.go:49", after := #[{ on := 0, ground := Ground.data }, { on := 1, ground := Ground.data }], guard := none }) (v := ?_) rfl (by kernel_rfl) (by kernel_rfl) (by kernel_rfl) (fun _ _ _ h => h) (Or.inl ⟨by rfl, ?_⟩) hHeld ?_
        rotate_left
        focus (intro z hSw; clear hSw; go_simp; try with_reducible rfl)
        try simp only [Act.put, List.setIfInBounds_toArray, List.set_cons_zero, List.set_cons_succ]
        refine wpAnyH_take (i := 3) (oi := { dst := some 56, op := Op.load 30 (Operand.tmp 55), type := 30, pos := "law.go:49", after := #[{ on := 2, ground := Ground.data }], guard := none }) (v := ?_) rfl (by kernel_rfl) (by kernel_rfl) (by kernel_rfl) (fun _ _ _ h => h) (Or.inl ⟨by rfl, ?_⟩) hHeld ?_
        rotate_left
        focus (intro z hSw; have hcz := hSw.cell CT.out (by simp); have hcy := hSw.cell CW.out (by simp); clear hSw; go_simp; try with_reducible rfl)
        try simp only [Act.put, List.setIfInBounds_toArray, List.set_cons_zero, List.set_cons_succ]
        refine wpAnyH_take (i := 4) (oi := { dst := some 57, op := Op.move (Operand.tmp 12), type := 22, pos := "law.go:49", after := #[], guard := none }) (v := ?_) rfl (by kernel_rfl) (by kernel_rfl) (by kernel_rfl) (fun _ _ _ h => h) (Or.inl ⟨by rfl, ?_⟩) hHeld ?_
        rotate_left
        focus (intro z hSw; clear hSw; go_simp; try with_reducible rfl)
        try simp only [Act.put, List.setIfInBounds_toArray, List.set_cons_zero, List.set_cons_succ]
        refine wpAnyH_take (i := 5) (oi := { dst := some 58, op := Op.move (Operand.tmp 13), type := 3, pos := "law.go:49", after := #[], guard := none }) (v := ?_) rfl (by kernel_rfl) (by kernel_rfl) (by kernel_rfl) (fun _ _ _ h => h) (Or.inl ⟨by rfl, ?_⟩) hHeld ?_
        rotate_left
        focus (intro z hSw; clear hSw; go_simp; try with_reducible rfl)
        try simp only [Act.put, List.setIfInBounds_toArray, List.set_cons_zero, List.set_cons_succ]
        refine wpAnyH_take (i := 6) (oi := { dst := some 59, op := Op.indexAddr 22 (Operand.tmp 57) (Operand.tmp 58), type := 0, pos := "law.go:49", after := #[{ on := 4, ground := Ground.data }, { on := 5, ground := Ground.data }], guard := none }) (v := ?_) rfl (by kernel_rfl) (by kernel_rfl) (by kernel_rfl) (fun _ _ _ h => h) (Or.inl ⟨by rfl, ?_⟩) hHeld ?_
        rotate_left
        focus (intro z hSw; clear hSw; go_simp; try with_reducible rfl)
        try simp only [Act.put, List.setIfInBounds_toArray, List.set_cons_zero, List.set_cons_succ]
        refine wpAnyH_take (i := 7) (oi := { dst := some 60, op := Op.load 30 (Operand.tmp 59), type := 30, pos := "law.go:49", after := #[{ on := 6, ground := Ground.data }], guard := none }) (v := ?_) rfl (by kernel_rfl) (by kernel_rfl) (by kernel_rfl) (fun _ _ _ h => h) (Or.inl ⟨by rfl, ?_⟩) hHeld ?_
        rotate_left
        focus (intro z hSw; have hcz := hSw.cell CT.out (by simp); have hcy := hSw.cell CW.out (by simp); clear hSw; go_simp; try with_reducible rfl)
        try simp only [Act.put, List.setIfInBounds_toArray, List.set_cons_zero, List.set_cons_succ]
        refine wpAnyH_ready (rs := [8]) (by kernel_rfl) (by simp) ?_
        refine AllReadyH.cons (o := { dst := some 61, op := Op.call { callee := Callee.value (Operand.func 19), args := #[Operand.tmp 56, Operand.tmp 60], argTypes := #[30, 30] }, type := 4, pos := "law.go:49", after := #[{ on := 3, ground := Ground.data }, { on := 7, ground := Ground.data }], guard := none }) rfl (fun K hK => ?_) AllReadyH.nil
        go_simp
        refine (Same_true _ _ R1 _ _ _ ((O.out.keep hHeld (by simp)).sl) ((OW.out.keep hHeld (by simp)).sl) (by have := RL.out; omega)).mono ?_
        rintro e w4x ⟨rfl, f4⟩
        refine hK.out _ _ ?_ (fun hNext => ?_)
        · exact hHeld.trans f4 (by simp)
        clear hK K hHeld
        have hHeld := hNext
        clear hNext
        try simp only [Act.put, List.setIfInBounds_toArray, List.set_cons_zero, List.set_cons_succ]
        refine wpAnyH_take (i := 9) (oi := { dst := some 62, op := Op.unOp UnOp.not 4 (Operand.tmp 61), type := 4, pos := "law.go:49", after := #[{ on := 8, ground := Ground.data }], guard := none }) (v := ?_) rfl (by kernel_rfl) (by kernel_rfl) (by kernel_rfl) (fun _ _ _ h => h) (Or.inl ⟨by rfl, ?_⟩) hHeld ?_
        rotate_left
        focus (intro z hSw; clear hSw; go_simp; try with_reducible rfl)
        try simp only [Act.put, List.setIfInBounds_toArray, List.set_cons_zero, List.set_cons_succ]
        refine wpAnyH_done (by kernel_rfl) ?_ _
        have hct := hHeld.cell CT.out (by simp)
        go_wp2_with fail
        refine (Over_any _ R1 sp _ (O.out.keep hHeld (by simp)) (by have := RL.out; omega)).mono ?_
        rintro e w30 ⟨rfl, f30⟩
        have FN := Lib.hid ((F.out.trans hHeld (by simp)).trans f30 (fun q hq => .inl (T1.out q hq)))
        have Q2 := Lib.hid (show ∃ sp, OwnA 25 w30 (.slice a6 R2.length c6) R2 sp from by obtain ⟨sp, h⟩ := Q2.out; exact ⟨sp, (h.keep hHeld (by simp)).keep f30 D12.out⟩)
        have Q3 := Lib.hid (show ∃ sp, OwnA 25 w30 (.slice a7 R3.length c7) R3 sp from by obtain ⟨sp, h⟩ := Q3.out; exact ⟨sp, (h.keep hHeld (by simp)).keep f30 D13.out⟩)
        clear hHeld f30 f4 hct
        go_wp2_with fail
        go_roundw
        case rel =>
          refine ⟨2, by omega, by go_num, FN.out, fun j h1 h2 => ?_⟩
          have hj4 : j = 2 ∨ j = 3 := by omega
          rcases hj4 with rfl | rfl
          · exact Q2.out
          · exact Q3.out
        case measure => decide
      · obtain ⟨sp, o⟩ := hall 2 (Nat.le_refl _) (by omega)
        have O := Lib.hid (show OwnA 25 wr (.slice a6 R2.length c6) R2 sp from o)
        have Q3 := Lib.hid (show ∃ sp, OwnA 25 wr (.slice a7 R3.length c7) R3 sp from hall 3 (by omega) (by omega))
        have CT := Lib.hid (show wr.cell? ⟨gT, 2, none⟩ = some (.slice a6 R2.length c6) by rw [cell_of_heap (f.heap BgT.out NgT.out)]; rfl)
        have CW := Lib.hid (show wr.cell? ⟨gW, 2, none⟩ = some (.slice a11 R2.length c11) by rw [cell_of_heap (f.heap BgW.out NgW.out)]; rfl)
        have OW := Lib.hid (O11.out.keep f W2.out)
        have F := Lib.hid f
        clear f hall o
        go_upto_region 9 with (fail)
        refine wp_region_held_drew (S := fun z => Frm [] wr z) (by kernel_rfl) ((Frm.refl [] wr).drew) (fun hHeld => ?_)
        refine wpAnyH_take (i := 0) (oi := { dst := some 53, op := Op.move (Operand.tmp 11), type := 22, pos := "law.go:49", after := #[], guard := none }) (v := ?_) rfl (by kernel_rfl) (by kernel_rfl) (by kernel_rfl) (fun _ _ _ h => h) (Or.inl ⟨by rfl, ?_⟩) hHeld ?_
        rotate_left
        focus (intro z hSw; clear hSw; go_simp; try with_reducible rfl)
        try simp only [Act.put, List.setIfInBounds_toArray, List.set_cons_zero, List.set_cons_succ]
        refine wpAnyH_take (i := 1) (oi := { dst := some 54, op := Op.move (Operand.tmp 13), type := 3, pos := "law.go:49", after := #[], guard := none }) (v := ?_) rfl (by kernel_rfl) (by kernel_rfl) (by kernel_rfl) (fun _ _ _ h => h) (Or.inl ⟨by rfl, ?_⟩) hHeld ?_
        rotate_left
        focus (intro z hSw; clear hSw; go_simp; try with_reducible rfl)
        try simp only [Act.put, List.setIfInBounds_toArray, List.set_cons_zero, List.set_cons_succ]
        refine wpAnyH_take (i := 2) (oi := { dst := some 55, op := Op.indexAddr 22 (Operand.tmp 53) (Operand.tmp 54), type := 0, pos := "law.go:49", after := #[{ on := 0, ground := Ground.data }, { on := 1, ground := Ground.data }], guard := none }) (v := ?_) rfl (by kernel_rfl) (by kernel_rfl) (by kernel_rfl) (fun _ _ _ h => h) (Or.inl ⟨by rfl, ?_⟩) hHeld ?_
        rotate_left
        focus (intro z hSw; clear hSw; go_simp; try with_reducible rfl)
        try simp only [Act.put, List.setIfInBounds_toArray, List.set_cons_zero, List.set_cons_succ]
        refine wpAnyH_take (i := 3) (oi := { dst := some 56, op := Op.load 30 (Operand.tmp 55), type := 30, pos := "law.go:49", after := #[{ on := 2, ground := Ground.data }], guard := none }) (v := ?_) rfl (by kernel_rfl) (by kernel_rfl) (by kernel_rfl) (fun _ _ _ h => h) (Or.inl ⟨by rfl, ?_⟩) hHeld ?_
        rotate_left
        focus (intro z hSw; have hcz := hSw.cell CT.out (by simp); have hcy := hSw.cell CW.out (by simp); clear hSw; go_simp; try with_reducible rfl)
        try simp only [Act.put, List.setIfInBounds_toArray, List.set_cons_zero, List.set_cons_succ]
        refine wpAnyH_take (i := 4) (oi := { dst := some 57, op := Op.move (Operand.tmp 12), type := 22, pos := "law.go:49", after := #[], guard := none }) (v := ?_) rfl (by kernel_rfl) (by kernel_rfl) (by kernel_rfl) (fun _ _ _ h => h) (Or.inl ⟨by rfl, ?_⟩) hHeld ?_
        rotate_left
        focus (intro z hSw; clear hSw; go_simp; try with_reducible rfl)
        try simp only [Act.put, List.setIfInBounds_toArray, List.set_cons_zero, List.set_cons_succ]
        refine wpAnyH_take (i := 5) (oi := { dst := some 58, op := Op.move (Operand.tmp 13), type := 3, pos := "law.go:49", after := #[], guard := none }) (v := ?_) rfl (by kernel_rfl) (by kernel_rfl) (by kernel_rfl) (fun _ _ _ h => h) (Or.inl ⟨by rfl, ?_⟩) hHeld ?_
        rotate_left
        focus (intro z hSw; clear hSw; go_simp; try with_reducible rfl)
        try simp only [Act.put, List.setIfInBounds_toArray, List.set_cons_zero, List.set_cons_succ]
        refine wpAnyH_take (i := 6) (oi := { dst := some 59, op := Op.indexAddr 22 (Operand.tmp 57) (Operand.tmp 58), type := 0, pos := "law.go:49", after := #[{ on := 4, ground := Ground.data }, { on := 5, ground := Ground.data }], guard := none }) (v := ?_) rfl (by kernel_rfl) (by kernel_rfl) (by kernel_rfl) (fun _ _ _ h => h) (Or.inl ⟨by rfl, ?_⟩) hHeld ?_
        rotate_left
        focus (intro z hSw; clear hSw; go_simp; try with_reducible rfl)
        try simp only [Act.put, List.setIfInBounds_toArray, List.set_cons_zero, List.set_cons_succ]
        refine wpAnyH_take (i := 7) (oi := { dst := some 60, op := Op.load 30 (Operand.tmp 59), type := 30, pos := "law.go:49", after := #[{ on := 6, ground := Ground.data }], guard := none }) (v := ?_) rfl (by kernel_rfl) (by kernel_rfl) (by kernel_rfl) (fun _ _ _ h => h) (Or.inl ⟨by rfl, ?_⟩) hHeld ?_
        rotate_left
        focus (intro z hSw; have hcz := hSw.cell CT.out (by simp); have hcy := hSw.cell CW.out (by simp); clear hSw; go_simp; try with_reducible rfl)
        try simp only [Act.put, List.setIfInBounds_toArray, List.set_cons_zero, List.set_cons_succ]
        refine wpAnyH_ready (rs := [8]) (by kernel_rfl) (by simp) ?_
        refine AllReadyH.cons (o := { dst := some 61, op := Op.call { callee := Callee.value (Operand.func 19), args := #[Operand.tmp 56, Operand.tmp 60], argTypes := #[30, 30] }, type := 4, pos := "law.go:49", after := #[{ on := 3, ground := Ground.data }, { on := 7, ground := Ground.data }], guard := none }) rfl (fun K hK => ?_) AllReadyH.nil
        go_simp
        refine (Same_true _ _ R2 _ _ _ ((O.out.keep hHeld (by simp)).sl) ((OW.out.keep hHeld (by simp)).sl) (by have := RL.out; omega)).mono ?_
        rintro e w4x ⟨rfl, f4⟩
        refine hK.out _ _ ?_ (fun hNext => ?_)
        · exact hHeld.trans f4 (by simp)
        clear hK K hHeld
        have hHeld := hNext
        clear hNext
        try simp only [Act.put, List.setIfInBounds_toArray, List.set_cons_zero, List.set_cons_succ]
        refine wpAnyH_take (i := 9) (oi := { dst := some 62, op := Op.unOp UnOp.not 4 (Operand.tmp 61), type := 4, pos := "law.go:49", after := #[{ on := 8, ground := Ground.data }], guard := none }) (v := ?_) rfl (by kernel_rfl) (by kernel_rfl) (by kernel_rfl) (fun _ _ _ h => h) (Or.inl ⟨by rfl, ?_⟩) hHeld ?_
        rotate_left
        focus (intro z hSw; clear hSw; go_simp; try with_reducible rfl)
        try simp only [Act.put, List.setIfInBounds_toArray, List.set_cons_zero, List.set_cons_succ]
        refine wpAnyH_done (by kernel_rfl) ?_ _
        have hct := hHeld.cell CT.out (by simp)
        go_wp2_with fail
        refine (Over_any _ R2 sp _ (O.out.keep hHeld (by simp)) (by have := RL.out; omega)).mono ?_
        rintro e w30 ⟨rfl, f30⟩
        have FN := Lib.hid ((F.out.trans hHeld (by simp)).trans f30 (fun q hq => .inl (T2.out q hq)))
        have Q3 := Lib.hid (show ∃ sp, OwnA 25 w30 (.slice a7 R3.length c7) R3 sp from by obtain ⟨sp, h⟩ := Q3.out; exact ⟨sp, (h.keep hHeld (by simp)).keep f30 D23.out⟩)
        clear hHeld f30 f4 hct
        go_wp2_with fail
        go_roundw
        case rel =>
          refine ⟨3, by omega, by go_num, FN.out, fun j h1 h2 => ?_⟩
          have hj4 : j = 3 := by omega
          subst hj4
          exact Q3.out
        case measure => decide
      · obtain ⟨sp, o⟩ := hall 3 (Nat.le_refl _) (by omega)
        have O := Lib.hid (show OwnA 25 wr (.slice a7 R3.length c7) R3 sp from o)
        have CT := Lib.hid (show wr.cell? ⟨gT, 3, none⟩ = some (.slice a7 R3.length c7) by rw [cell_of_heap (f.heap BgT.out NgT.out)]; rfl)
        have CW := Lib.hid (show wr.cell? ⟨gW, 3, none⟩ = some (.slice a12 R3.length c12) by rw [cell_of_heap (f.heap BgW.out NgW.out)]; rfl)
        have OW := Lib.hid (O12.out.keep f W3.out)
        have F := Lib.hid f
        clear f hall o
        go_upto_region 9 with (fail)
        refine wp_region_held_drew (S := fun z => Frm [] wr z) (by kernel_rfl) ((Frm.refl [] wr).drew) (fun hHeld => ?_)
        refine wpAnyH_take (i := 0) (oi := { dst := some 53, op := Op.move (Operand.tmp 11), type := 22, pos := "law.go:49", after := #[], guard := none }) (v := ?_) rfl (by kernel_rfl) (by kernel_rfl) (by kernel_rfl) (fun _ _ _ h => h) (Or.inl ⟨by rfl, ?_⟩) hHeld ?_
        rotate_left
        focus (intro z hSw; clear hSw; go_simp; try with_reducible rfl)
        try simp only [Act.put, List.setIfInBounds_toArray, List.set_cons_zero, List.set_cons_succ]
        refine wpAnyH_take (i := 1) (oi := { dst := some 54, op := Op.move (Operand.tmp 13), type := 3, pos := "law.go:49", after := #[], guard := none }) (v := ?_) rfl (by kernel_rfl) (by kernel_rfl) (by kernel_rfl) (fun _ _ _ h => h) (Or.inl ⟨by rfl, ?_⟩) hHeld ?_
        rotate_left
        focus (intro z hSw; clear hSw; go_simp; try with_reducible rfl)
        try simp only [Act.put, List.setIfInBounds_toArray, List.set_cons_zero, List.set_cons_succ]
        refine wpAnyH_take (i := 2) (oi := { dst := some 55, op := Op.indexAddr 22 (Operand.tmp 53) (Operand.tmp 54), type := 0, pos := "law.go:49", after := #[{ on := 0, ground := Ground.data }, { on := 1, ground := Ground.data }], guard := none }) (v := ?_) rfl (by kernel_rfl) (by kernel_rfl) (by kernel_rfl) (fun _ _ _ h => h) (Or.inl ⟨by rfl, ?_⟩) hHeld ?_
        rotate_left
        focus (intro z hSw; clear hSw; go_simp; try with_reducible rfl)
        try simp only [Act.put, List.setIfInBounds_toArray, List.set_cons_zero, List.set_cons_succ]
        refine wpAnyH_take (i := 3) (oi := { dst := some 56, op := Op.load 30 (Operand.tmp 55), type := 30, pos := "law.go:49", after := #[{ on := 2, ground := Ground.data }], guard := none }) (v := ?_) rfl (by kernel_rfl) (by kernel_rfl) (by kernel_rfl) (fun _ _ _ h => h) (Or.inl ⟨by rfl, ?_⟩) hHeld ?_
        rotate_left
        focus (intro z hSw; have hcz := hSw.cell CT.out (by simp); have hcy := hSw.cell CW.out (by simp); clear hSw; go_simp; try with_reducible rfl)
        try simp only [Act.put, List.setIfInBounds_toArray, List.set_cons_zero, List.set_cons_succ]
        refine wpAnyH_take (i := 4) (oi := { dst := some 57, op := Op.move (Operand.tmp 12), type := 22, pos := "law.go:49", after := #[], guard := none }) (v := ?_) rfl (by kernel_rfl) (by kernel_rfl) (by kernel_rfl) (fun _ _ _ h => h) (Or.inl ⟨by rfl, ?_⟩) hHeld ?_
        rotate_left
        focus (intro z hSw; clear hSw; go_simp; try with_reducible rfl)
        try simp only [Act.put, List.setIfInBounds_toArray, List.set_cons_zero, List.set_cons_succ]
        refine wpAnyH_take (i := 5) (oi := { dst := some 58, op := Op.move (Operand.tmp 13), type := 3, pos := "law.go:49", after := #[], guard := none }) (v := ?_) rfl (by kernel_rfl) (by kernel_rfl) (by kernel_rfl) (fun _ _ _ h => h) (Or.inl ⟨by rfl, ?_⟩) hHeld ?_
        rotate_left
        focus (intro z hSw; clear hSw; go_simp; try with_reducible rfl)
        try simp only [Act.put, List.setIfInBounds_toArray, List.set_cons_zero, List.set_cons_succ]
        refine wpAnyH_take (i := 6) (oi := { dst := some 59, op := Op.indexAddr 22 (Operand.tmp 57) (Operand.tmp 58), type := 0, pos := "law.go:49", after := #[{ on := 4, ground := Ground.data }, { on := 5, ground := Ground.data }], guard := none }) (v := ?_) rfl (by kernel_rfl) (by kernel_rfl) (by kernel_rfl) (fun _ _ _ h => h) (Or.inl ⟨by rfl, ?_⟩) hHeld ?_
        rotate_left
        focus (intro z hSw; clear hSw; go_simp; try with_reducible rfl)
        try simp only [Act.put, List.setIfInBounds_toArray, List.set_cons_zero, List.set_cons_succ]
        refine wpAnyH_take (i := 7) (oi := { dst := some 60, op := Op.load 30 (Operand.tmp 59), type := 30, pos := "law.go:49", after := #[{ on := 6, ground := Ground.data }], guard := none }) (v := ?_) rfl (by kernel_rfl) (by kernel_rfl) (by kernel_rfl) (fun _ _ _ h => h) (Or.inl ⟨by rfl, ?_⟩) hHeld ?_
        rotate_left
        focus (intro z hSw; have hcz := hSw.cell CT.out (by simp); have hcy := hSw.cell CW.out (by simp); clear hSw; go_simp; try with_reducible rfl)
        try simp only [Act.put, List.setIfInBounds_toArray, List.set_cons_zero, List.set_cons_succ]
        refine wpAnyH_ready (rs := [8]) (by kernel_rfl) (by simp) ?_
        refine AllReadyH.cons (o := { dst := some 61, op := Op.call { callee := Callee.value (Operand.func 19), args := #[Operand.tmp 56, Operand.tmp 60], argTypes := #[30, 30] }, type := 4, pos := "law.go:49", after := #[{ on := 3, ground := Ground.data }, { on := 7, ground := Ground.data }], guard := none }) rfl (fun K hK => ?_) AllReadyH.nil
        go_simp
        refine (Same_true _ _ R3 _ _ _ ((O.out.keep hHeld (by simp)).sl) ((OW.out.keep hHeld (by simp)).sl) (by have := RL.out; omega)).mono ?_
        rintro e w4x ⟨rfl, f4⟩
        refine hK.out _ _ ?_ (fun hNext => ?_)
        · exact hHeld.trans f4 (by simp)
        clear hK K hHeld
        have hHeld := hNext
        clear hNext
        try simp only [Act.put, List.setIfInBounds_toArray, List.set_cons_zero, List.set_cons_succ]
        refine wpAnyH_take (i := 9) (oi := { dst := some 62, op := Op.unOp UnOp.not 4 (Operand.tmp 61), type := 4, pos := "law.go:49", after := #[{ on := 8, ground := Ground.data }], guard := none }) (v := ?_) rfl (by kernel_rfl) (by kernel_rfl) (by kernel_rfl) (fun _ _ _ h => h) (Or.inl ⟨by rfl, ?_⟩) hHeld ?_
        rotate_left
        focus (intro z hSw; clear hSw; go_simp; try with_reducible rfl)
        try simp only [Act.put, List.setIfInBounds_toArray, List.set_cons_zero, List.set_cons_succ]
        refine wpAnyH_done (by kernel_rfl) ?_ _
        have hct := hHeld.cell CT.out (by simp)
        go_wp2_with fail
        refine (Over_any _ R3 sp _ (O.out.keep hHeld (by simp)) (by have := RL.out; omega)).mono ?_
        rintro e w30 ⟨rfl, f30⟩
        have FN := Lib.hid ((F.out.trans hHeld (by simp)).trans f30 (fun q hq => .inl (T3.out q hq)))
        clear hHeld f30 f4 hct
        go_wp2_with fail
        go_roundw
        case rel =>
          refine ⟨4, by omega, by go_num, FN.out, fun j h1 h2 => ?_⟩
          omega
        case measure => decide
      · have GF := Lib.hid (show Frm [] w3 wr from G13.out.trans f (fun q hq => .inr (ZT.out q hq).1))
        have hx0 := GF.out.heap H3.out (by simp)
        have d0 : wr.cell? ⟨g0, 0, none⟩ = some (.int .i64 x.1) := by rw [cell_of_heap hx0]; rfl
        have d1 : wr.cell? ⟨g0, 1, none⟩ = some (.int .i64 x.2) := by rw [cell_of_heap hx0]; rfl
        have HH := Holders_any L _ x _ (IN.out.keep0 GF.out) HL.out WX.out
        unfold av at HH
        have HH2 := Lib.hid HH
        clear f hall hx0 HH
        go_wp2_with fail
        refine HH2.out.mono ?_
        rintro e w20 ⟨v20, sp20, rfl, o20, f20, n20⟩
        obtain ⟨a20, c20, rfl, _, _⟩ := SlE.form (OwnE.sl o20)
        have O20 := Lib.hid o20
        have G20 := Lib.hid (GF.out.trans f20 (by simp))
        clear o20 f20 n20 d0 d1 HH2
        obtain ⟨nn, hnn⟩ : ∃ nn : Int, ((sharedU L [i]).length : Int) = nn := ⟨_, rfl⟩
        have RF1 := Lib.hid (Referenced_any L _ i _ (IN.out.keep0 G20.out) HL.out)
        rw [hnn] at RF1
        go_wp2_with fail
        refine RF1.out.mono ?_
        rintro e w21 ⟨rfl, f21⟩
        have G21 := Lib.hid (G20.out.trans f21 (by simp))
        have O21 := Lib.hid (O20.out.keep0 f21)
        clear f21 RF1
        have RF2 := Lib.hid (RefReferenced_any L _ i _ (HS.out.keep0 (F3.out.trans G21.out (by simp))) HL.out)
        rw [hnn] at RF2
        go_wp2_with fail
        refine RF2.out.mono ?_
        rintro e w22 ⟨rfl, f22⟩
        have G22 := Lib.hid (G21.out.trans f22 (by simp))
        have O22 := Lib.hid (O21.out.keep0 f22)
        clear f22 RF2 hnn
        have hx0 := G22.out.heap H3.out (by simp)
        have d0 : w22.cell? ⟨g0, 0, none⟩ = some (.int .i64 x.1) := by rw [cell_of_heap hx0]; rfl
        have d1 : w22.cell? ⟨g0, 1, none⟩ = some (.int .i64 x.2) := by rw [cell_of_heap hx0]; rfl
        have HH := RefHolders_any L _ x _ (HS.out.keep0 (F3.out.trans G22.out (by simp))) HL.out
        unfold av at HH
        have HH2 := Lib.hid HH
        clear hx0 HH
        go_wp2_with fail
        refine HH2.out.mono ?_
        rintro e w23 ⟨v23, sp23, rfl, o23, f23, n23⟩
        obtain ⟨a23, c23, rfl, _, _⟩ := SlE.form (OwnE.sl o23)
        have O23 := Lib.hid o23
        have G23 := Lib.hid (G22.out.trans f23 (by simp))
        have P23 := Lib.hid (O22.out.keep0 f23)
        clear o23 f23 n23 d0 d1 HH2
        go_wp2_with fail
        refine (SameI_true _ _ _ _ _ _ P23.out.sl O23.out.sl (by have := who_len L x L.length; have := HL.out.n; omega)).mono ?_
        rintro e w24 ⟨rfl, f24⟩
        have G24 := Lib.hid (G23.out.trans f24 (by simp))
        clear f24
        go_wp2_with fail
        refine (kept_any L _ _ _ (IN.out.keep0 G24.out) (HS.out.keep0 (F3.out.trans G24.out (by simp))) HL.out).mono ?_
        rintro e w25 ⟨rfl, f25⟩
        have G25 := Lib.hid (G24.out.trans f25 (by simp))
        clear f25
        go_wp2_with fail
        refine (Kept_true _ _ _ _ s ssp _ (BY.out.keep0 G25.out) (HI.out.keep0 (F3.out.trans G25.out (by simp))) (by have := SN.out; omega)).mono ?_
        rintro e w26 ⟨rfl, f26⟩
        have G26 := Lib.hid (G25.out.trans f26 (by simp))
        clear f26
        go_wp2_with fail
        refine (awake_any _).mono ?_
        rintro e w27 ⟨rfl, f27⟩
        go_wp2_with fail
        go_ret
        exact ⟨rfl, (F3.out.trans G26.out (by simp)).trans f27 (by simp)⟩
end Go.Proofs.Ytafedmahehbggaa
