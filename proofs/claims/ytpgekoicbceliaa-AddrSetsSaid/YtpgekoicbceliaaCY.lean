/-
  The walk of AddrSets. No conditions but those that the theorem names.
-/
import Derived.Test.YtpgekoicbceliaaCW
import Derived.Test.YtpgekoicbceliaaCS
namespace Go.Proofs.Ytpgekoicbceliaa
open Go.RowKit Go.Sort Go.Maps
set_option linter.unusedVariables false
set_option linter.unusedSimpArgs false
set_option maxRecDepth 100000

/-- A slice that could be read at first stays so while newer blocks are written. -/
theorem SlA.stay {w0 w w' : World} {v : Value} {l sp : List Ad} {L : List Nat} (h0 : SlA w0 v l sp) (h : SlA w v l sp) (f : Frm L w w') (hL : ∀ k ∈ L, w0.heap.size ≤ k) : SlA w' v l sp := by
  obtain ⟨h1, h2 | h2 | ⟨b, off, cap, h2, h3, h4, h5, h6⟩⟩ := h
  · exact ⟨h1, .inl h2⟩
  · exact ⟨h1, .inr (.inl h2)⟩
  · subst h2
    refine ⟨h1, .inr (.inr ⟨b, off, cap, rfl, h3, h4, h5, fun i u hu => f.cell (h6 i u hu) fun hm => ?_⟩)⟩
    have hb := hL _ hm
    obtain ⟨_, ⟨k2, _⟩ | ⟨a, k2, k3, k4⟩ | ⟨b', off', cap', k2, k3, k4, k5, k6⟩⟩ := h0
    · exact absurd k2 (by simp)
    · have e1 : l.length = 0 := k3
      have : l = [] := List.eq_nil_of_length_eq_zero e1
      subst this
      rw [k4] at hu
      simp [eas] at hu
    · simp only [Value.slice.injEq, Option.some.injEq, Addr.mk.injEq] at k2
      obtain ⟨⟨rfl, rfl, _⟩, _, rfl⟩ := k2
      have := World.block_lt_of_cell? _ _ (k6 i u hu)
      simp at this hb
      omega
set_option maxHeartbeats 16000000 in
theorem sets_row (va : Value) (l sp : List Ad) (vb : Value) (m msp : List Ad) (x : Ad) (w : World) (hA : SlA w va l sp) (hwa : ∀ x ∈ l, WfA x) (hB : SlA w vb m msp) (hwb : ∀ x ∈ m, WfA x) (hx : WfA x) :
    Calls Try.prog 4 #[va, vb, .agg #[.int .i64 x.1, .int .i64 x.2]] w (Yes w) := by
  obtain ⟨Aa, Ac, rfl, ha1, ha2⟩ := hA.form
  obtain ⟨Ba, Bc, rfl, hb1, hb2⟩ := hB.form
  have hla : l.length ≤ maxLen := by omega
  have hlb : m.length ≤ maxLen := by omega
  by_cases hlong : 200 < l.length ∨ 200 < m.length
  · have HL := Lib.hid hlong
    have H1 := Lib.hid hla
    have H2 := Lib.hid hlb
    clear hA hB hwa hwb hlong ha1 ha2 hb1 hb2 hla hlb hx
    go_enter Try.func4, Try.ntmps4
    go_wp2_with fail
    refine (long_yes _ _ _ _ _ _ _ H1.out H2.out HL.out).mono ?_
    rintro r w2 ⟨rfl, hw2⟩
    subst hw2
    go_wp2_with fail
    refine (awake_any _).mono ?_
    rintro r w1 ⟨rfl, f1⟩
    have F1 := Lib.hid (((Frm.refl [] w).alloc _).trans f1 (by simp))
    clear f1
    go_wp2_with fail
    go_ret
    exact ⟨rfl, F1.out⟩
  · have ha : l.length ≤ 200 := by omega
    have hb : m.length ≤ 200 := by omega
    have LA := Lib.hid (show l.length ≤ 1000 by omega)
    have LB := Lib.hid (show m.length ≤ 1000 by omega)
    have LA4 := Lib.hid (show l.length ≤ 400 by omega)
    have LB4 := Lib.hid (show m.length ≤ 400 by omega)
    have LC := Lib.hid (show l.length ≤ 1000000 by omega)
    have LD := Lib.hid (show m.length ≤ 1000000 by omega)
    have WA := Lib.hid hwa
    have WB := Lib.hid hwb
    have H1 := Lib.hid hla
    have H2 := Lib.hid hlb
    have H3 := Lib.hid ha
    have H4 := Lib.hid hb
    have A0 := Lib.hid hA
    have B0 := Lib.hid hB
    clear hA hB hwa hwb hlong ha1 ha2 hb1 hb2 hla hlb ha hb hx
    go_enter Try.func4, Try.ntmps4
    go_wp2_with fail
    have x0 := heap_alloc_new w (.cells #[.int .i64 x.1, .int .i64 x.2] 23)
    have f0 : Frm [] w (w.alloc (.cells #[.int .i64 x.1, .int .i64 x.2] 23)) := (Frm.refl [] w).alloc _
    generalize w.alloc (.cells #[.int .i64 x.1, .int .i64 x.2] 23) = w0 at *
    have X0 := Lib.hid x0
    have F0 := Lib.hid f0
    clear x0 f0
    refine (long_no _ _ _ _ _ _ _ H1.out H2.out H3.out H4.out).mono ?_
    rintro r w2' ⟨rfl, hw2⟩
    subst hw2
    go_wp2_with fail
    refine (Copy_any _ l sp _ (A0.out.keep F0.out (by simp)) LC.out).mono ?_
    rintro r w3 ⟨v3, spi, rfl, o3, f3, n3⟩
    obtain ⟨ai, ci, rfl, _, _⟩ := o3.sl.form
    have F3 := Lib.hid (F0.out.trans f3 (by simp))
    have X3 := Lib.hid (f3.heap X0.out (by simp))
    have IN3 := Lib.hid o3
    have NI := Lib.hid n3
    clear o3 f3 n3 X0
    go_wp2_with fail
    refine (Copy_any _ m msp _ (B0.out.keep F3.out (by simp)) LD.out).mono ?_
    rintro r w4 ⟨v4, spj, rfl, o4, f4, n4⟩
    obtain ⟨aj, cj, rfl, _, _⟩ := o4.sl.form
    have F4 := Lib.hid (F3.out.trans f4 (by simp))
    have x4 := f4.heap X3.out (by simp)
    have X4 := Lib.hid x4
    have IN := Lib.hid (IN3.out.keep f4 (by simp))
    have BY := Lib.hid o4
    have d0 : w4.cell? ⟨w.heap.size, 0, none⟩ = some (.int .i64 x.1) := by rw [cell_of_heap x4]; rfl
    have c16 := fun W (f : Frm [] w4 W) => Sort_any _ l spi W (IN.out.sl.keep f (by simp)) LA.out WA.out
    have c17 := fun W (f : Frm [] w4 W) => Union_any _ _ l spi m spj W (IN.out.sl.keep f (by simp)) LA.out WA.out (BY.out.sl.keep f (by simp)) LB.out WB.out
    have c18 := fun W (f : Frm [] w4 W) => Minus_any _ _ l spi m spj W (IN.out.sl.keep f (by simp)) LA.out WA.out (BY.out.sl.keep f (by simp)) LB.out WB.out
    have c19 := fun W (f : Frm [] w4 W) => Both_any _ _ l spi m spj W (IN.out.sl.keep f (by simp)) LA.out WA.out (BY.out.sl.keep f (by simp)) LB.out WB.out
    have c20 := fun W (f : Frm [] w4 W) => On_any _ l spi x.1 W (IN.out.sl.keep f (by simp)) LA.out WA.out
    have C16 := Lib.hid c16
    have C17 := Lib.hid c17
    have C18 := Lib.hid c18
    have C19 := Lib.hid c19
    have C20 := Lib.hid c20
    have RF := Lib.hid (Frm.refl [] w4)
    clear o4 f4 n4 X3 IN3 x4 F3 F0 c16 c17 c18 c19 c20
    go_wp2_with fail
    go_region_held3 (fun z => z.cell? ⟨w.heap.size, 0, none⟩ = some (.int .i64 x.1) ∧ Frm [] w4 z)
      (first | exact ⟨d0, RF.out.drew⟩ | (go_split_ands; exact ⟨f20.cell ‹_› (by simp), (‹Frm [] w4 _›).trans f20 (by simp)⟩) | (go_split_ands; exact ⟨f19.cell ‹_› (by simp), (‹Frm [] w4 _›).trans f19 (by simp)⟩) | (go_split_ands; exact ⟨f18.cell ‹_› (by simp), (‹Frm [] w4 _›).trans f18 (by simp)⟩) | (go_split_ands; exact ⟨f17.cell ‹_› (by simp), (‹Frm [] w4 _›).trans f17 (by simp)⟩) | (go_split_ands; exact ⟨f16.cell ‹_› (by simp), (‹Frm [] w4 _›).trans f16 (by simp)⟩) | (go_split_ands; exact ⟨((Frm.refl [] _).alloc _).cell ‹_› (by simp), (‹Frm [] w4 _›).alloc _⟩))
      (first | (go_at_call 16; refine (C16.out _ (by first | assumption | exact (‹_ ∧ Frm [] w4 _›).2)).mono ?_; rintro r w16 ⟨v16, sp16, rfl, o16, f16, n16⟩; obtain ⟨a16, k16, rfl, _, _⟩ := o16.sl.form) | (go_at_call 17; refine (C17.out _ (by first | assumption | exact (‹_ ∧ Frm [] w4 _›).2)).mono ?_; rintro r w17 ⟨v17, sp17, rfl, o17, f17, n17⟩; obtain ⟨a17, k17, rfl, _, _⟩ := o17.sl.form) | (go_at_call 18; refine (C18.out _ (by first | assumption | exact (‹_ ∧ Frm [] w4 _›).2)).mono ?_; rintro r w18 ⟨v18, sp18, rfl, o18, f18, n18⟩; obtain ⟨a18, k18, rfl, _, _⟩ := o18.sl.form) | (go_at_call 19; refine (C19.out _ (by first | assumption | exact (‹_ ∧ Frm [] w4 _›).2)).mono ?_; rintro r w19 ⟨v19, sp19, rfl, o19, f19, n19⟩; obtain ⟨a19, k19, rfl, _, _⟩ := o19.sl.form) | (go_at_call 20; refine (C20.out _ (by first | assumption | exact (‹_ ∧ Frm [] w4 _›).2)).mono ?_; rintro r w20 ⟨v20, sp20, rfl, o20, f20, n20⟩; obtain ⟨a20, k20, rfl, _, _⟩ := o20.sl.form))
    go_wp2_with fail
    obtain ⟨b9, hb9⟩ : ∃ b9, w20.heap.size = b9 := ⟨_, rfl⟩
    rw [hb9]
    have FA := Lib.hid (((((RF.out.drew.trans f16 (by simp)).trans f17 (by simp)).trans f18 (by simp)).trans f19 (by simp)).trans f20 (by simp))
    have P16a := Lib.hid (o16.keep (((f17.trans f18 (by simp)).trans f19 (by simp)).trans f20 (by simp)) (by simp))
    have R16 := Lib.hid (show ∀ p ∈ blk (.slice a16 (srt l).length k16), w4.heap.size ≤ p ∧ p < w16.heap.size from fun p hp => ⟨n16 p hp, o16.lt p hp⟩)
    have P17a := Lib.hid (o17.keep ((f18.trans f19 (by simp)).trans f20 (by simp)) (by simp))
    have R17 := Lib.hid (show ∀ p ∈ blk (.slice a17 (srt (l ++ m)).length k17), w16.heap.size ≤ p ∧ p < w17.heap.size from fun p hp => ⟨n17 p hp, o17.lt p hp⟩)
    have P18a := Lib.hid (o18.keep (f19.trans f20 (by simp)) (by simp))
    have R18 := Lib.hid (show ∀ p ∈ blk (.slice a18 (srt (minA l m)).length k18), w17.heap.size ≤ p ∧ p < w18.heap.size from fun p hp => ⟨n18 p hp, o18.lt p hp⟩)
    have P19a := Lib.hid (o19.keep f20 (by simp))
    have R19 := Lib.hid (show ∀ p ∈ blk (.slice a19 (srt (bothA l m)).length k19), w18.heap.size ≤ p ∧ p < w19.heap.size from fun p hp => ⟨n19 p hp, o19.lt p hp⟩)
    have P20a := Lib.hid (o20.keep (Frm.refl [] w20) (by simp))
    have R20 := Lib.hid (show ∀ p ∈ blk (.slice a20 (srt (onA l x.1)).length k20), w19.heap.size ≤ p ∧ p < w20.heap.size from fun p hp => ⟨n20 p hp, o20.lt p hp⟩)
    have ZS := Lib.hid (show w4.heap.size ≤ w16.heap.size ∧ w16.heap.size ≤ w17.heap.size ∧ w17.heap.size ≤ w18.heap.size ∧ w18.heap.size ≤ w19.heap.size ∧ w19.heap.size ≤ w20.heap.size from ⟨f16.size, f17.size, f18.size, f19.size, f20.size⟩)
    refine at_world (p := fun W => Code.wp _ _ _ _ W) (R := fun W => Frm [] w20 W ∧ W.heap[b9]? = some (.cells #[.slice a16 (srt l).length k16, .slice a17 (srt (l ++ m)).length k17, .slice a18 (srt (minA l m)).length k18, .slice a19 (srt (bothA l m)).length k19, .slice a20 (srt (onA l x.1)).length k20] 28 (0, 0))) ⟨(Frm.refl [] w20).alloc _, heap_alloc_at hb9.symm⟩ ?_
    rintro W5 ⟨g5, t9⟩
    have T9a := Lib.hid t9
    have G5 := Lib.hid g5
    have HB9 := Lib.hid hb9
    have F5 := Lib.hid (FA.out.trans g5 (by simp))
    have P16 := Lib.hid (P16a.out.keep g5 (by simp))
    have P17 := Lib.hid (P17a.out.keep g5 (by simp))
    have P18 := Lib.hid (P18a.out.keep g5 (by simp))
    have P19 := Lib.hid (P19a.out.keep g5 (by simp))
    have P20 := Lib.hid (P20a.out.keep g5 (by simp))
    clear d0 t9 g5 hb9 RF o16 f16 n16 P16a o17 f17 n17 P17a o18 f18 n18 P18a o19 f19 n19 P19a o20 f20 n20 P20a
    clear C16 C17 C18 C19 C20
    have d0 : W5.cell? ⟨w.heap.size, 0, none⟩ = some (.int .i64 x.1) := by rw [cell_of_heap (F5.out.heap X4.out (by simp))]; rfl
    have TA4 := Lib.hid (A0.out.keep F4.out (by simp))
    have TB4 := Lib.hid (B0.out.keep F4.out (by simp))
    have c21 := fun W (f : Frm [] W5 W) => RefSort_any _ l sp W ((TA4.out.keep F5.out (by simp)).keep f (by simp)) LA.out
    have c22 := fun W (f : Frm [] W5 W) => RefUnion_any _ _ l sp m msp W ((TA4.out.keep F5.out (by simp)).keep f (by simp)) LA4.out ((TB4.out.keep F5.out (by simp)).keep f (by simp)) LB4.out
    have c23 := fun W (f : Frm [] W5 W) => RefMinus_any _ _ l sp m msp W ((TA4.out.keep F5.out (by simp)).keep f (by simp)) LA4.out ((TB4.out.keep F5.out (by simp)).keep f (by simp)) LB4.out
    have c24 := fun W (f : Frm [] W5 W) => RefBoth_any _ _ l sp m msp W ((TA4.out.keep F5.out (by simp)).keep f (by simp)) LA4.out ((TB4.out.keep F5.out (by simp)).keep f (by simp)) LB4.out
    have c25 := fun W (f : Frm [] W5 W) => RefOn_any _ l sp x.1 W ((TA4.out.keep F5.out (by simp)).keep f (by simp)) LA4.out
    have C21 := Lib.hid c21
    have C22 := Lib.hid c22
    have C23 := Lib.hid c23
    have C24 := Lib.hid c24
    have C25 := Lib.hid c25
    have RF := Lib.hid (Frm.refl [] W5)
    clear c21 c22 c23 c24 c25
    go_wp2_with fail
    go_region_held3 (fun z => z.cell? ⟨w.heap.size, 0, none⟩ = some (.int .i64 x.1) ∧ Frm [] W5 z)
      (first | exact ⟨d0, RF.out.drew⟩ | (go_split_ands; exact ⟨f25.cell ‹_› (by simp), (‹Frm [] W5 _›).trans f25 (by simp)⟩) | (go_split_ands; exact ⟨f24.cell ‹_› (by simp), (‹Frm [] W5 _›).trans f24 (by simp)⟩) | (go_split_ands; exact ⟨f23.cell ‹_› (by simp), (‹Frm [] W5 _›).trans f23 (by simp)⟩) | (go_split_ands; exact ⟨f22.cell ‹_› (by simp), (‹Frm [] W5 _›).trans f22 (by simp)⟩) | (go_split_ands; exact ⟨f21.cell ‹_› (by simp), (‹Frm [] W5 _›).trans f21 (by simp)⟩) | (go_split_ands; exact ⟨((Frm.refl [] _).alloc _).cell ‹_› (by simp), (‹Frm [] W5 _›).alloc _⟩))
      (first | (go_at_call 21; refine (C21.out _ (by first | assumption | exact (‹_ ∧ Frm [] W5 _›).2)).mono ?_; rintro r w21 ⟨v21, sp21, rfl, o21, f21, n21⟩; obtain ⟨a21, k21, rfl, _, _⟩ := o21.sl.form) | (go_at_call 22; refine (C22.out _ (by first | assumption | exact (‹_ ∧ Frm [] W5 _›).2)).mono ?_; rintro r w22 ⟨v22, sp22, rfl, o22, f22, n22⟩; obtain ⟨a22, k22, rfl, _, _⟩ := o22.sl.form) | (go_at_call 23; refine (C23.out _ (by first | assumption | exact (‹_ ∧ Frm [] W5 _›).2)).mono ?_; rintro r w23 ⟨v23, sp23, rfl, o23, f23, n23⟩; obtain ⟨a23, k23, rfl, _, _⟩ := o23.sl.form) | (go_at_call 24; refine (C24.out _ (by first | assumption | exact (‹_ ∧ Frm [] W5 _›).2)).mono ?_; rintro r w24 ⟨v24, sp24, rfl, o24, f24, n24⟩; obtain ⟨a24, k24, rfl, _, _⟩ := o24.sl.form) | (go_at_call 25; refine (C25.out _ (by first | assumption | exact (‹_ ∧ Frm [] W5 _›).2)).mono ?_; rintro r w25 ⟨v25, sp25, rfl, o25, f25, n25⟩; obtain ⟨a25, k25, rfl, _, _⟩ := o25.sl.form))
    go_wp2_with fail
    obtain ⟨b10, hb10⟩ : ∃ b10, w25.heap.size = b10 := ⟨_, rfl⟩
    rw [hb10]
    have FB := Lib.hid (((((RF.out.drew.trans f21 (by simp)).trans f22 (by simp)).trans f23 (by simp)).trans f24 (by simp)).trans f25 (by simp))
    have Q21a := Lib.hid (o21.keep (((f22.trans f23 (by simp)).trans f24 (by simp)).trans f25 (by simp)) (by simp))
    have R21 := Lib.hid (show ∀ p ∈ blk (.slice a21 (srt l).length k21), W5.heap.size ≤ p from fun p hp => by have h := n21 p hp; exact h)
    have Q22a := Lib.hid (o22.keep ((f23.trans f24 (by simp)).trans f25 (by simp)) (by simp))
    have R22 := Lib.hid (show ∀ p ∈ blk (.slice a22 (srt (l ++ m)).length k22), W5.heap.size ≤ p from fun p hp => by have h := n22 p hp; have h1 := f21.size; have h0 : W5.drew.heap.size = W5.heap.size := rfl; omega)
    have Q23a := Lib.hid (o23.keep (f24.trans f25 (by simp)) (by simp))
    have R23 := Lib.hid (show ∀ p ∈ blk (.slice a23 (srt (minA l m)).length k23), W5.heap.size ≤ p from fun p hp => by have h := n23 p hp; have h1 := f21.size; have h22 := f22.size; have h0 : W5.drew.heap.size = W5.heap.size := rfl; omega)
    have Q24a := Lib.hid (o24.keep f25 (by simp))
    have R24 := Lib.hid (show ∀ p ∈ blk (.slice a24 (srt (bothA l m)).length k24), W5.heap.size ≤ p from fun p hp => by have h := n24 p hp; have h1 := f21.size; have h22 := f22.size; have h23 := f23.size; have h0 : W5.drew.heap.size = W5.heap.size := rfl; omega)
    have Q25a := Lib.hid (o25.keep (Frm.refl [] w25) (by simp))
    have R25 := Lib.hid (show ∀ p ∈ blk (.slice a25 (srt (onA l x.1)).length k25), W5.heap.size ≤ p from fun p hp => by have h := n25 p hp; have h1 := f21.size; have h22 := f22.size; have h23 := f23.size; have h24 := f24.size; have h0 : W5.drew.heap.size = W5.heap.size := rfl; omega)
    refine at_world (p := fun W => Code.wp _ _ _ _ W) (R := fun W => Frm [] w25 W ∧ W.heap[b10]? = some (.cells #[.slice a21 (srt l).length k21, .slice a22 (srt (l ++ m)).length k22, .slice a23 (srt (minA l m)).length k23, .slice a24 (srt (bothA l m)).length k24, .slice a25 (srt (onA l x.1)).length k25] 28 (0, 0))) ⟨(Frm.refl [] w25).alloc _, heap_alloc_at hb10.symm⟩ ?_
    rintro W6 ⟨g6, t10⟩
    have T10 := Lib.hid t10
    have G6 := Lib.hid (FB.out.trans g6 (by simp))
    have HB10 := Lib.hid (show W5.heap.size ≤ b10 by have := FB.out.size; omega)
    have Q21 := Lib.hid (Q21a.out.keep g6 (by simp))
    have Q22 := Lib.hid (Q22a.out.keep g6 (by simp))
    have Q23 := Lib.hid (Q23a.out.keep g6 (by simp))
    have Q24 := Lib.hid (Q24a.out.keep g6 (by simp))
    have Q25 := Lib.hid (Q25a.out.keep g6 (by simp))
    have U16 := Lib.hid (P16.out.keep G6.out (by simp))
    have U17 := Lib.hid (P17.out.keep G6.out (by simp))
    have U18 := Lib.hid (P18.out.keep G6.out (by simp))
    have U19 := Lib.hid (P19.out.keep G6.out (by simp))
    have U20 := Lib.hid (P20.out.keep G6.out (by simp))
    have T9 := Lib.hid (G6.out.heap T9a.out (by simp))
    have S5 := Lib.hid (show w20.heap.size < W5.heap.size by have h := lt_heap T9a.out; have := HB9.out; omega)
    have F6 := Lib.hid (F5.out.trans G6.out (by simp))
    clear d0 t10 g6 hb10 RF T9a o21 f21 n21 Q21a o22 f22 n22 Q22a o23 f23 n23 Q23a o24 f24 n24 Q24a o25 f25 n25 Q25a C21 C22 C23 C24 C25 P16 P17 P18 P19 P20
    have Y0 := Lib.hid (Frm.refl [] W6)
    go_wp2_with fail
    refine wp_loop_rounds 6 ?_
    have LS : ∀ t : List Ad, (srt t).length ≤ t.length := srt_length
    have N16 := Lib.hid (show (srt l).length ≤ 1000000 from Nat.le_trans (srt_length l) (by have := LA.out; omega))
    have N17 := Lib.hid (show (srt (l ++ m)).length ≤ 1000000 from Nat.le_trans (srt_length _) (by have := LA.out; have := LB.out; simp; omega))
    have N18 := Lib.hid (show (srt (minA l m)).length ≤ 1000000 from Nat.le_trans (srt_length _) (Nat.le_trans (minA_len l m) (by have := LA.out; omega)))
    have N19 := Lib.hid (show (srt (bothA l m)).length ≤ 1000000 from Nat.le_trans (srt_length _) (Nat.le_trans (bothA_len l m) (by have := LA.out; omega)))
    have N20 := Lib.hid (show (srt (onA l x.1)).length ≤ 1000000 from Nat.le_trans (srt_length _) (Nat.le_trans (onA_len l x.1) (by have := LA.out; omega)))
    clear LS
    rw [rounds_succ]
    have Y0L := Y0
    have NL0 := Lib.hid (show ∀ p ∈ ([] : List Nat), w4.heap.size ≤ p ∧ p < w4.heap.size from fun p hp => by
      simp at hp)
    have ti0 := Y0L.out.heap T9.out (fun h => by have h1 := NL0.out _ h; have z := ZS.out; have h9 := HB9.out; omega)
    have tj0 := Y0L.out.heap T10.out (fun h => by have h1 := NL0.out _ h; have z := ZS.out; have h10 := HB10.out; have s5 := S5.out; omega)
    have ci0 := cell_of_heap ti0 0
    have cj0 := cell_of_heap tj0 0
    simp only [List.getElem?_toArray] at ci0 cj0
    clear ti0 tj0
    have pu0 := Lib.hid (U16.out.keep Y0L.out (fun p hp h => by have h1 := NL0.out _ h; have h2 := R16.out p hp; have z := ZS.out; omega))
    have pq0 := Lib.hid (Q21.out.keep Y0L.out (fun p hp h => by have h1 := NL0.out _ h; have h2 := R21.out p hp; have z := ZS.out; have s5 := S5.out; omega))
    have ci : _ = some (Value.slice a16 (srt l).length k16) := ci0
    have cj : _ = some (Value.slice a21 (srt l).length k21) := cj0
    clear ci0 cj0
    go_wp2_with fail
    refine wp_region_still_tail 8 (by kernel_rfl) (by kernel_rfl) ?_
    simp only [List.take_succ_cons, List.take_zero, List.drop_succ_cons, List.drop_zero]
    change wpStill _ _ (World.drew _) _ _ _
    iterate 8 still_step
    refine wpStill_nil ?_
    change wpList _ _ _ _ _ (World.drew _)
    go_wp2_with fail
    refine (Same_true _ _ (srt l) sp16 sp21 _ (pu0.out.keep ((Frm.refl [] _).drew) (by simp)).sl (pq0.out.keep ((Frm.refl [] _).drew) (by simp)).sl N16.out).mono ?_
    rintro r x0 ⟨rfl, fx0⟩
    have gx0 := ((Frm.refl [] _).drew).trans fx0 (by simp)
    have ci2 := gx0.cell ci (by simp)
    have pv0 := Lib.hid (pu0.out.keep gx0 (by simp))
    have Yx0 := Lib.hid (Y0L.out.trans gx0 (by simp))
    clear ci cj pq0 fx0 gx0
    go_wp2_with fail
    refine (Over_any _ (srt l) sp16 _ pv0.out N16.out).mono ?_
    rintro r y0 ⟨rfl, fy0⟩
    have Y1L := Lib.hid (show Frm (([] : List Nat) ++ blk (.slice a16 (srt l).length k16)) W6 y0 from (Yx0.out.mono (fun i hi => .inl (List.mem_append_left _ hi))).trans fy0 (fun i hi => .inl (List.mem_append_right _ hi)))
    clear ci2 fy0 pu0 pv0 Yx0 Y0L
    go_wp2_with fail
    rw [rounds_succ]
    have NL1 := Lib.hid (show ∀ p ∈ ([] : List Nat) ++ blk (.slice a16 (srt l).length k16), w4.heap.size ≤ p ∧ p < w16.heap.size from fun p hp => by
      have z := ZS.out
      simp only [List.mem_append, List.not_mem_nil, false_or] at hp
      have h1 := R16.out p hp
      omega)
    have ti1 := Y1L.out.heap T9.out (fun h => by have h1 := NL1.out _ h; have z := ZS.out; have h9 := HB9.out; omega)
    have tj1 := Y1L.out.heap T10.out (fun h => by have h1 := NL1.out _ h; have z := ZS.out; have h10 := HB10.out; have s5 := S5.out; omega)
    have ci1 := cell_of_heap ti1 1
    have cj1 := cell_of_heap tj1 1
    simp only [List.getElem?_toArray] at ci1 cj1
    clear ti1 tj1
    have pu1 := Lib.hid (U17.out.keep Y1L.out (fun p hp h => by have h1 := NL1.out _ h; have h2 := R17.out p hp; have z := ZS.out; omega))
    have pq1 := Lib.hid (Q22.out.keep Y1L.out (fun p hp h => by have h1 := NL1.out _ h; have h2 := R22.out p hp; have z := ZS.out; have s5 := S5.out; omega))
    have ci : _ = some (Value.slice a17 (srt (l ++ m)).length k17) := ci1
    have cj : _ = some (Value.slice a22 (srt (l ++ m)).length k22) := cj1
    clear ci1 cj1
    go_wp2_with fail
    refine wp_region_still_tail 8 (by kernel_rfl) (by kernel_rfl) ?_
    simp only [List.take_succ_cons, List.take_zero, List.drop_succ_cons, List.drop_zero]
    change wpStill _ _ (World.drew _) _ _ _
    iterate 8 still_step
    refine wpStill_nil ?_
    change wpList _ _ _ _ _ (World.drew _)
    go_wp2_with fail
    refine (Same_true _ _ (srt (l ++ m)) sp17 sp22 _ (pu1.out.keep ((Frm.refl [] _).drew) (by simp)).sl (pq1.out.keep ((Frm.refl [] _).drew) (by simp)).sl N17.out).mono ?_
    rintro r x1 ⟨rfl, fx1⟩
    have gx1 := ((Frm.refl [] _).drew).trans fx1 (by simp)
    have ci2 := gx1.cell ci (by simp)
    have pv1 := Lib.hid (pu1.out.keep gx1 (by simp))
    have Yx1 := Lib.hid (Y1L.out.trans gx1 (by simp))
    clear ci cj pq1 fx1 gx1
    go_wp2_with fail
    refine (Over_any _ (srt (l ++ m)) sp17 _ pv1.out N17.out).mono ?_
    rintro r y1 ⟨rfl, fy1⟩
    have Y2L := Lib.hid (show Frm (([] : List Nat) ++ blk (.slice a16 (srt l).length k16) ++ blk (.slice a17 (srt (l ++ m)).length k17)) W6 y1 from (Yx1.out.mono (fun i hi => .inl (List.mem_append_left _ hi))).trans fy1 (fun i hi => .inl (List.mem_append_right _ hi)))
    clear ci2 fy1 pu1 pv1 Yx1 Y1L
    go_wp2_with fail
    rw [rounds_succ]
    have NL2 := Lib.hid (show ∀ p ∈ ([] : List Nat) ++ blk (.slice a16 (srt l).length k16) ++ blk (.slice a17 (srt (l ++ m)).length k17), w4.heap.size ≤ p ∧ p < w17.heap.size from fun p hp => by
      have z := ZS.out
      simp only [List.mem_append, List.not_mem_nil, false_or] at hp
      rcases hp with hp | hp
      · have h1 := R16.out p hp; omega
      · have h1 := R17.out p hp; omega)
    have ti2 := Y2L.out.heap T9.out (fun h => by have h1 := NL2.out _ h; have z := ZS.out; have h9 := HB9.out; omega)
    have tj2 := Y2L.out.heap T10.out (fun h => by have h1 := NL2.out _ h; have z := ZS.out; have h10 := HB10.out; have s5 := S5.out; omega)
    have ci2 := cell_of_heap ti2 2
    have cj2 := cell_of_heap tj2 2
    simp only [List.getElem?_toArray] at ci2 cj2
    clear ti2 tj2
    have pu2 := Lib.hid (U18.out.keep Y2L.out (fun p hp h => by have h1 := NL2.out _ h; have h2 := R18.out p hp; have z := ZS.out; omega))
    have pq2 := Lib.hid (Q23.out.keep Y2L.out (fun p hp h => by have h1 := NL2.out _ h; have h2 := R23.out p hp; have z := ZS.out; have s5 := S5.out; omega))
    have ci : _ = some (Value.slice a18 (srt (minA l m)).length k18) := ci2
    have cj : _ = some (Value.slice a23 (srt (minA l m)).length k23) := cj2
    clear ci2 cj2
    go_wp2_with fail
    refine wp_region_still_tail 8 (by kernel_rfl) (by kernel_rfl) ?_
    simp only [List.take_succ_cons, List.take_zero, List.drop_succ_cons, List.drop_zero]
    change wpStill _ _ (World.drew _) _ _ _
    iterate 8 still_step
    refine wpStill_nil ?_
    change wpList _ _ _ _ _ (World.drew _)
    go_wp2_with fail
    refine (Same_true _ _ (srt (minA l m)) sp18 sp23 _ (pu2.out.keep ((Frm.refl [] _).drew) (by simp)).sl (pq2.out.keep ((Frm.refl [] _).drew) (by simp)).sl N18.out).mono ?_
    rintro r x2 ⟨rfl, fx2⟩
    have gx2 := ((Frm.refl [] _).drew).trans fx2 (by simp)
    have ci2 := gx2.cell ci (by simp)
    have pv2 := Lib.hid (pu2.out.keep gx2 (by simp))
    have Yx2 := Lib.hid (Y2L.out.trans gx2 (by simp))
    clear ci cj pq2 fx2 gx2
    go_wp2_with fail
    refine (Over_any _ (srt (minA l m)) sp18 _ pv2.out N18.out).mono ?_
    rintro r y2 ⟨rfl, fy2⟩
    have Y3L := Lib.hid (show Frm (([] : List Nat) ++ blk (.slice a16 (srt l).length k16) ++ blk (.slice a17 (srt (l ++ m)).length k17) ++ blk (.slice a18 (srt (minA l m)).length k18)) W6 y2 from (Yx2.out.mono (fun i hi => .inl (List.mem_append_left _ hi))).trans fy2 (fun i hi => .inl (List.mem_append_right _ hi)))
    clear ci2 fy2 pu2 pv2 Yx2 Y2L
    go_wp2_with fail
    rw [rounds_succ]
    have NL3 := Lib.hid (show ∀ p ∈ ([] : List Nat) ++ blk (.slice a16 (srt l).length k16) ++ blk (.slice a17 (srt (l ++ m)).length k17) ++ blk (.slice a18 (srt (minA l m)).length k18), w4.heap.size ≤ p ∧ p < w18.heap.size from fun p hp => by
      have z := ZS.out
      simp only [List.mem_append, List.not_mem_nil, false_or] at hp
      rcases hp with (hp | hp) | hp
      · have h1 := R16.out p hp; omega
      · have h1 := R17.out p hp; omega
      · have h1 := R18.out p hp; omega)
    have ti3 := Y3L.out.heap T9.out (fun h => by have h1 := NL3.out _ h; have z := ZS.out; have h9 := HB9.out; omega)
    have tj3 := Y3L.out.heap T10.out (fun h => by have h1 := NL3.out _ h; have z := ZS.out; have h10 := HB10.out; have s5 := S5.out; omega)
    have ci3 := cell_of_heap ti3 3
    have cj3 := cell_of_heap tj3 3
    simp only [List.getElem?_toArray] at ci3 cj3
    clear ti3 tj3
    have pu3 := Lib.hid (U19.out.keep Y3L.out (fun p hp h => by have h1 := NL3.out _ h; have h2 := R19.out p hp; have z := ZS.out; omega))
    have pq3 := Lib.hid (Q24.out.keep Y3L.out (fun p hp h => by have h1 := NL3.out _ h; have h2 := R24.out p hp; have z := ZS.out; have s5 := S5.out; omega))
    have ci : _ = some (Value.slice a19 (srt (bothA l m)).length k19) := ci3
    have cj : _ = some (Value.slice a24 (srt (bothA l m)).length k24) := cj3
    clear ci3 cj3
    go_wp2_with fail
    refine wp_region_still_tail 8 (by kernel_rfl) (by kernel_rfl) ?_
    simp only [List.take_succ_cons, List.take_zero, List.drop_succ_cons, List.drop_zero]
    change wpStill _ _ (World.drew _) _ _ _
    iterate 8 still_step
    refine wpStill_nil ?_
    change wpList _ _ _ _ _ (World.drew _)
    go_wp2_with fail
    refine (Same_true _ _ (srt (bothA l m)) sp19 sp24 _ (pu3.out.keep ((Frm.refl [] _).drew) (by simp)).sl (pq3.out.keep ((Frm.refl [] _).drew) (by simp)).sl N19.out).mono ?_
    rintro r x3 ⟨rfl, fx3⟩
    have gx3 := ((Frm.refl [] _).drew).trans fx3 (by simp)
    have ci2 := gx3.cell ci (by simp)
    have pv3 := Lib.hid (pu3.out.keep gx3 (by simp))
    have Yx3 := Lib.hid (Y3L.out.trans gx3 (by simp))
    clear ci cj pq3 fx3 gx3
    go_wp2_with fail
    refine (Over_any _ (srt (bothA l m)) sp19 _ pv3.out N19.out).mono ?_
    rintro r y3 ⟨rfl, fy3⟩
    have Y4L := Lib.hid (show Frm (([] : List Nat) ++ blk (.slice a16 (srt l).length k16) ++ blk (.slice a17 (srt (l ++ m)).length k17) ++ blk (.slice a18 (srt (minA l m)).length k18) ++ blk (.slice a19 (srt (bothA l m)).length k19)) W6 y3 from (Yx3.out.mono (fun i hi => .inl (List.mem_append_left _ hi))).trans fy3 (fun i hi => .inl (List.mem_append_right _ hi)))
    clear ci2 fy3 pu3 pv3 Yx3 Y3L
    go_wp2_with fail
    rw [rounds_succ]
    have NL4 := Lib.hid (show ∀ p ∈ ([] : List Nat) ++ blk (.slice a16 (srt l).length k16) ++ blk (.slice a17 (srt (l ++ m)).length k17) ++ blk (.slice a18 (srt (minA l m)).length k18) ++ blk (.slice a19 (srt (bothA l m)).length k19), w4.heap.size ≤ p ∧ p < w19.heap.size from fun p hp => by
      have z := ZS.out
      simp only [List.mem_append, List.not_mem_nil, false_or] at hp
      rcases hp with ((hp | hp) | hp) | hp
      · have h1 := R16.out p hp; omega
      · have h1 := R17.out p hp; omega
      · have h1 := R18.out p hp; omega
      · have h1 := R19.out p hp; omega)
    have ti4 := Y4L.out.heap T9.out (fun h => by have h1 := NL4.out _ h; have z := ZS.out; have h9 := HB9.out; omega)
    have tj4 := Y4L.out.heap T10.out (fun h => by have h1 := NL4.out _ h; have z := ZS.out; have h10 := HB10.out; have s5 := S5.out; omega)
    have ci4 := cell_of_heap ti4 4
    have cj4 := cell_of_heap tj4 4
    simp only [List.getElem?_toArray] at ci4 cj4
    clear ti4 tj4
    have pu4 := Lib.hid (U20.out.keep Y4L.out (fun p hp h => by have h1 := NL4.out _ h; have h2 := R20.out p hp; have z := ZS.out; omega))
    have pq4 := Lib.hid (Q25.out.keep Y4L.out (fun p hp h => by have h1 := NL4.out _ h; have h2 := R25.out p hp; have z := ZS.out; have s5 := S5.out; omega))
    have ci : _ = some (Value.slice a20 (srt (onA l x.1)).length k20) := ci4
    have cj : _ = some (Value.slice a25 (srt (onA l x.1)).length k25) := cj4
    clear ci4 cj4
    go_wp2_with fail
    refine wp_region_still_tail 8 (by kernel_rfl) (by kernel_rfl) ?_
    simp only [List.take_succ_cons, List.take_zero, List.drop_succ_cons, List.drop_zero]
    change wpStill _ _ (World.drew _) _ _ _
    iterate 8 still_step
    refine wpStill_nil ?_
    change wpList _ _ _ _ _ (World.drew _)
    go_wp2_with fail
    refine (Same_true _ _ (srt (onA l x.1)) sp20 sp25 _ (pu4.out.keep ((Frm.refl [] _).drew) (by simp)).sl (pq4.out.keep ((Frm.refl [] _).drew) (by simp)).sl N20.out).mono ?_
    rintro r x4 ⟨rfl, fx4⟩
    have gx4 := ((Frm.refl [] _).drew).trans fx4 (by simp)
    have ci2 := gx4.cell ci (by simp)
    have pv4 := Lib.hid (pu4.out.keep gx4 (by simp))
    have Yx4 := Lib.hid (Y4L.out.trans gx4 (by simp))
    clear ci cj pq4 fx4 gx4
    go_wp2_with fail
    refine (Over_any _ (srt (onA l x.1)) sp20 _ pv4.out N20.out).mono ?_
    rintro r y4 ⟨rfl, fy4⟩
    have Y5L := Lib.hid (show Frm (([] : List Nat) ++ blk (.slice a16 (srt l).length k16) ++ blk (.slice a17 (srt (l ++ m)).length k17) ++ blk (.slice a18 (srt (minA l m)).length k18) ++ blk (.slice a19 (srt (bothA l m)).length k19) ++ blk (.slice a20 (srt (onA l x.1)).length k20)) W6 y4 from (Yx4.out.mono (fun i hi => .inl (List.mem_append_left _ hi))).trans fy4 (fun i hi => .inl (List.mem_append_right _ hi)))
    clear ci2 fy4 pu4 pv4 Yx4 Y4L
    go_wp2_with fail
    rw [rounds_succ]
    have NL := Lib.hid (show ∀ p ∈ ([] : List Nat) ++ blk (.slice a16 (srt l).length k16) ++ blk (.slice a17 (srt (l ++ m)).length k17) ++ blk (.slice a18 (srt (minA l m)).length k18) ++ blk (.slice a19 (srt (bothA l m)).length k19) ++ blk (.slice a20 (srt (onA l x.1)).length k20), w4.heap.size ≤ p from fun p hp => by
      have z := ZS.out
      simp only [List.mem_append, List.not_mem_nil, false_or] at hp
      rcases hp with (((hp | hp) | hp) | hp) | hp
      · have h1 := R16.out p hp; omega
      · have h1 := R17.out p hp; omega
      · have h1 := R18.out p hp; omega
      · have h1 := R19.out p hp; omega
      · have h1 := R20.out p hp; omega)
    have FE := Lib.hid ((F6.out.mono (L' := ([] : List Nat) ++ blk (.slice a16 (srt l).length k16) ++ blk (.slice a17 (srt (l ++ m)).length k17) ++ blk (.slice a18 (srt (minA l m)).length k18) ++ blk (.slice a19 (srt (bothA l m)).length k19) ++ blk (.slice a20 (srt (onA l x.1)).length k20)) (by simp)).trans Y5L.out (fun i hi => .inl hi))
    have XE := Lib.hid (FE.out.heap X4.out (fun h => by have h1 := NL.out _ h; have h2 := lt_heap X4.out; omega))
    have IE := Lib.hid (IN.out.keep FE.out (fun p hp h => by have h1 := NL.out _ h; have h2 := IN.out.lt p hp; omega))
    have BE := Lib.hid (BY.out.keep FE.out (fun p hp h => by have h1 := NL.out _ h; have h2 := BY.out.lt p hp; omega))
    have SW := Lib.hid F4.out.size
    have AE := Lib.hid (SlA.stay A0.out TA4.out FE.out (fun k hk => by have h1 := NL.out _ hk; have := SW.out; omega))
    have CE := Lib.hid (SlA.stay B0.out TB4.out FE.out (fun k hk => by have h1 := NL.out _ hk; have := SW.out; omega))
    have FW := Lib.hid (F4.out.trans FE.out (fun i hi => .inr (by have h1 := NL.out _ hi; have := SW.out; omega)))
    clear R16 U16 N16 R17 U17 N17 R18 U18 N18 R19 U19 N19 R20 U20 N20 R21 Q21 R22 Q22 R23 Q23 R24 Q24 R25 Q25 T9 T10 ZS S5 HB9 HB10 Y5L FE F6 G6 F5 FA FB G5 NL TA4 TB4 X4
    go_wp2_with fail
    have e0 : y4.cell? ⟨w.heap.size, 0, none⟩ = some (.int .i64 x.1) := by rw [cell_of_heap XE.out]; rfl
    have e1 : y4.cell? ⟨w.heap.size, 1, none⟩ = some (.int .i64 x.2) := by rw [cell_of_heap XE.out]; rfl
    have c28 : ∀ W, Frm [] y4 W → Calls Try.prog 28 #[.slice ai l.length ci, .agg #[.int .i64 x.1, .int .i64 x.2]] W (HasB l x W) := fun W f => Has_any _ l spi x W (IE.out.sl.keep f (by simp)) LA.out
    have c29 : ∀ W, Frm [] y4 W → Calls Try.prog 29 #[.slice Aa l.length Ac, .agg #[.int .i64 x.1, .int .i64 x.2]] W (HasB l x W) := fun W f => RefHas_any _ l sp x W (AE.out.keep f (by simp)) LA.out
    unfold HasB at c28 c29
    generalize decide (x ∈ l) = q at c28 c29
    have c30 := fun W (f : Frm [] y4 W) => Apart_any _ l spi W (IE.out.sl.keep f (by simp)) LA.out WA.out
    have c31 := fun W (f : Frm [] y4 W) => RefApart_any _ l sp W (AE.out.keep f (by simp)) LA.out
    generalize apB l = q2 at c30 c31
    have C28 := Lib.hid c28
    have C29 := Lib.hid c29
    have C30 := Lib.hid c30
    have C31 := Lib.hid c31
    have RF := Lib.hid (Frm.refl [] y4)
    clear c28 c29 c30 c31 XE
    go_region_held3 (fun z => z.cell? ⟨w.heap.size, 0, none⟩ = some (.int .i64 x.1) ∧ z.cell? ⟨w.heap.size, 1, none⟩ = some (.int .i64 x.2) ∧ Frm [] y4 z)
      (first | exact ⟨e0, e1, RF.out.drew⟩ | (go_split_ands; exact ⟨f31.cell ‹_› (by simp), f31.cell ‹_› (by simp), (‹Frm [] y4 _›).trans f31 (by simp)⟩) | (go_split_ands; exact ⟨f30.cell ‹_› (by simp), f30.cell ‹_› (by simp), (‹Frm [] y4 _›).trans f30 (by simp)⟩) | (go_split_ands; exact ⟨f29.cell ‹_› (by simp), f29.cell ‹_› (by simp), (‹Frm [] y4 _›).trans f29 (by simp)⟩) | (go_split_ands; exact ⟨f28.cell ‹_› (by simp), f28.cell ‹_› (by simp), (‹Frm [] y4 _›).trans f28 (by simp)⟩))
      (first | (go_at_call 28; refine (C28.out _ (by first | assumption | exact (‹_ ∧ _ ∧ Frm [] y4 _›).2.2)).mono ?_; rintro r z28 ⟨rfl, f28⟩) | (go_at_call 29; refine (C29.out _ (by first | assumption | exact (‹_ ∧ _ ∧ Frm [] y4 _›).2.2)).mono ?_; rintro r z29 ⟨rfl, f29⟩) | (go_at_call 30; refine (C30.out _ (by first | assumption | exact (‹_ ∧ _ ∧ Frm [] y4 _›).2.2)).mono ?_; rintro r z30 ⟨rfl, f30⟩) | (go_at_call 31; refine (C31.out _ (by first | assumption | exact (‹_ ∧ _ ∧ Frm [] y4 _›).2.2)).mono ?_; rintro r z31 ⟨rfl, f31⟩))
    have FR := Lib.hid ((((RF.out.drew.trans f28 (by simp)).trans f29 (by simp)).trans f30 (by simp)).trans f31 (by simp))
    clear f28 f29 f30 f31
    go_wp2_with fail
    refine (Same_true _ _ l spi sp _ (IE.out.sl.keep FR.out (by simp)) (AE.out.keep FR.out (by simp)) LC.out).mono ?_
    rintro r z1 ⟨rfl, g1⟩
    have FR1 := Lib.hid (FR.out.trans g1 (by simp))
    clear g1 FR
    go_wp2_with fail
    refine (Same_true _ _ m spj msp _ (BE.out.sl.keep FR1.out (by simp)) (CE.out.keep FR1.out (by simp)) LD.out).mono ?_
    rintro r z2 ⟨rfl, g2⟩
    have FR2 := Lib.hid (FR1.out.trans g2 (by simp))
    clear g2 FR1
    go_wp2_with fail
    refine (awake_any _).mono ?_
    rintro r z3 ⟨rfl, g3⟩
    have FR3 := Lib.hid (FW.out.trans (FR2.out.trans g3 (by simp)) (by simp))
    clear g3 FR2
    go_wp2_with fail
    go_ret
    exact ⟨rfl, FR3.out⟩
end Go.Proofs.Ytpgekoicbceliaa
