/-
  The walk of PointerBack. No conditions but those that each theorem names.
-/
import Derived.Test.YtjjcjocomanohaaQP
import Derived.Test.YtjjcjocomanohaaQK
namespace Go.Proofs.Ytjjcjocomanohaa
open Go.RowKit
set_option linter.unusedVariables false
set_option linter.unusedSimpArgs false
set_option maxRecDepth 100000

/-- A pointer and a fault that were told, laid into two variables. -/
def Lay2 (V : World) (g : Nat) (x : Value) (p : Pt) (e a : Int) : Prop := Boxed V g x p ∧ V.cell? ⟨g + 1, 0, none⟩ = some (.int .i64 e) ∧ V.cell? ⟨g + 1, 1, none⟩ = some (.int .i64 a)
theorem Lay2.new (w : World) (a : Option Addr) (c : Nat) (e f : Int) {p : Pt} (hs : p.s.length = 32) : Lay2 ((w.alloc (.cells (pc (.slice a p.ads.length c) p.b p.l p.s).toArray 26)).alloc (.cells #[.int .i64 e, .int .i64 f] 40)) w.heap.size (pv (.slice a p.ads.length c) p.b p.l p.s) p e f := by
  have h : ((w.alloc (.cells (pc (.slice a p.ads.length c) p.b p.l p.s).toArray 26)).alloc (.cells #[.int .i64 e, .int .i64 f] 40)).heap[w.heap.size + 1]? = some (.cells #[.int .i64 e, .int .i64 f] 40 (0, 0)) := heap_alloc_at (by simp)
  exact ⟨⟨a, c, rfl, (PB.new _ _ _ _ _).alloc _, hs⟩, by rw [cell_of_heap h]; rfl, by rw [cell_of_heap h]; rfl⟩
theorem ptv_lay2 {w : World} {a : Option Addr} {c : Nat} {e f : Int} {p : Pt} {sp : List Ad} (h : SlA w (.slice a p.ads.length c) p.ads sp) (hs : p.s.length = 32) : PtV ((w.alloc (.cells (pc (.slice a p.ads.length c) p.b p.l p.s).toArray 26)).alloc (.cells #[.int .i64 e, .int .i64 f] 40)) (pv (.slice a p.ads.length c) p.b p.l p.s) p :=
  ⟨a, c, sp, rfl, h.keep (((Frm.refl [] w).alloc _).alloc _) (by simp), hs⟩
theorem Lay2.keep {V V' : World} {g : Nat} {x : Value} {p : Pt} {e a : Int} (h : Lay2 V g x p e a) (f : Frm [] V V') : Lay2 V' g x p e a := ⟨h.1.keep0 f, f.cell h.2.1 (by simp), f.cell h.2.2 (by simp)⟩
set_option maxHeartbeats 8000000 in
theorem back_any (x : Value) (p : Pt) (y : Value) (l sp : List UInt8) (w : World) (hp : PtV w x p) (hS : SlB w y l sp) : Calls Try.prog 6 #[x, y] w (Yes w) := by
  have zp := hp.len
  obtain ⟨A, rfl, hA, hb1⟩ := hp.box
  obtain ⟨ya, ycap, rfl, _, _⟩ := hS.form
  have b1 := hb1 w
  have f0 : Frm [] w (w.alloc (.cells A 26)) := (Frm.refl [] w).alloc _
  have HP := Lib.hid hp
  have HS := Lib.hid hS
  clear hp hS hb1
  go_enter Try.func6, Try.ntmps6
  go_upto_region 1 with (fail)
  generalize w.alloc (.cells A 26) = W at *
  go_upto_region 2 with (go_at_call 5; refine (known_any _).mono ?_; rintro r w1 ⟨rfl, f1⟩)
  have B1 := Lib.hid (b1.keep0 f1)
  have F1 := Lib.hid (f0.trans f1 (by simp))
  obtain ⟨a1, c1, e1⟩ := B1.out.c0
  clear b1 f0 f1
  by_cases h1 : p.ads.length ≤ 20
  · by_cases h2 : l.length ≤ 100
    · go_upto_region 4 with (fail)
      have HB := Lib.hid (fun W (f : Frm [] w W) => Bytes_any (.agg A) p W (HP.out.keep0 f) (by omega))
      have HK := Lib.hid (fun W (f : Frm [] w W) => Check_any (.agg A) p W (HP.out.keep0 f) (by omega))
      have HR := Lib.hid (fun W (f : Frm [] w W) => Read_any (.slice ya l.length ycap) l sp W (HS.out.keep f (by simp)) (by omega))
      have HL1 := Lib.hid h1
      have HL2 := Lib.hid (show (l.length : Int) ≤ 100 by omega)
      unfold BytesP at HB
      clear e1 h1 h2
      rcases chk_cases p with ⟨m, e, eo⟩ | ⟨m, e, eo⟩
      all_goals
        rw [e, eo] at HB
        rw [e] at HK
        clear e eo
      · have hre := read_enc m zp
        have HR1 := Lib.hid (fun v sp W (h : SlB W v (enc p) sp) => Read_any v (enc p) sp W h (by rw [enc_len m zp]; omega))
        unfold ReadP at HR1
        rw [hre.1, hre.2.1, hre.2.2] at HR1
        have hel := enc_len m zp
        rw [hel] at HB
        have HS1 := Lib.hid (fun W v (hv : PtV W v p) (f : Frm [] w W) => SamePointer_any v (.agg A) p p W hv (HP.out.keep0 f) (by have := HL1.out; omega))
        have HS2 := Lib.hid (fun W v (hv : PtV W v p) (f : Frm [] w W) => Same_any v (.agg A) p p W hv (HP.out.keep0 f) (by have := HL1.out; omega))
        have HS3 := Lib.hid (fun W v (hv : PtV W v p) (f : Frm [] w W) => Like_any v (.agg A) p p W hv (HP.out.keep0 f))
        rw [same_refl] at HS1 HS2
        rw [like_refl] at HS3
        have HM := Lib.hid m
        clear hre hel m
        generalize enc p = ep at *
        go_upto_region 6 with (first | ((with_reducible (show wpList _ _ _ (Oper.mk _ (Op.load 26 (.tmp 2)) _ _ _ _ :: _) _ _)); refine wpList_load_g (by rfl) 26 _ rfl _ rfl B1.out.load ?_) | (go_at_call 15; refine (HB.out _ F1.out).mono ?_; rintro r w2 ⟨xa, xc, xsp, rfl, o2, f2, n2⟩))
        go_upto_region 7 with (first | (go_at_call 29; refine (HR1.out _ _ _ o2.sl).mono ?_; rintro r w3 ⟨x3, rfl, hx3, f3⟩; obtain ⟨a3, c3, s3, rfl, sx3, zx3⟩ := hx3) | (refine wpList_lay2 rfl rfl rfl rfl rfl rfl (.tmp 8) (.tmp 9) (.tmp 35) (.tmp 36) rfl rfl zx3 rfl rfl rfl rfl ?_))
        have l8 := (Lay2.new w3 a3 c3 0 0 (p := p) zx3)
        have fL : Frm [] w3 ((w3.alloc (.cells (pc (.slice a3 p.ads.length c3) p.b p.l p.s).toArray 26)).alloc (.cells #[.int .i64 0, .int .i64 0] 40)) := ((Frm.refl [] w3).alloc _).alloc _
        have hv := ptv_lay2 (e := 0) (f := 0) sx3 zx3
        have FX := Lib.hid ((F1.out.trans f2 (by simp)).trans (f3.trans fL (by simp)) (by simp))
        have B2 := Lib.hid (B1.out.keep0 (f2.trans (f3.trans fL (by simp)) (by simp)))
        generalize (w3.alloc (.cells (pc (.slice a3 p.ads.length c3) p.b p.l p.s).toArray 26)).alloc (.cells #[.int .i64 0, .int .i64 0] 40) = V at *
        have L8 := Lib.hid l8.1
        have c8 := l8.2.1
        have HV := Lib.hid hv
        have fz := Lib.hid (Frm.refl [] V)
        clear l8 fL hv f2 f3 o2 n2 sx3 B1
        generalize pv (.slice a3 p.ads.length c3) p.b p.l p.s = x8 at *
        go_upto_region 9 with (first
          | ((with_reducible (show wpList _ _ _ (Oper.mk _ (Op.load 26 (.tmp 2)) _ _ _ _ :: _) _ _)); refine wpList_load_g (by rfl) 26 _ rfl _ rfl (B2.out.keep0 fz.out).load ?_)
          | ((with_reducible (show wpList _ _ _ (Oper.mk _ (Op.load 26 (.tmp 8)) _ _ _ _ :: _) _ _)); refine wpList_load_g (by rfl) 26 _ rfl _ rfl (L8.out.keep0 fz.out).load ?_)
          | (go_at_call 27; refine (HS1.out _ _ (HV.out.keep0 fz.out) (FX.out.trans fz.out (by simp))).mono ?_; rintro r wn ⟨rfl, fn⟩; replace fz := Lib.hid (fz.out.trans fn (by simp)); clear fn)
          | (go_at_call 23; refine (HS2.out _ _ (HV.out.keep0 fz.out) (FX.out.trans fz.out (by simp))).mono ?_; rintro r wn ⟨rfl, fn⟩; replace fz := Lib.hid (fz.out.trans fn (by simp)); clear fn)
          | (go_at_call 25; refine (HS3.out _ _ (HV.out.keep0 fz.out) (FX.out.trans fz.out (by simp))).mono ?_; rintro r wn ⟨rfl, fn⟩; replace fz := Lib.hid (fz.out.trans fn (by simp)); clear fn))
        have F9 := Lib.hid (FX.out.trans fz.out (by simp))
        have B9 := Lib.hid (B2.out.keep0 fz.out)
        clear fz FX B2 L8 HV c8
        go_upto_region 10 with (first | (go_at_call 29; refine (HR.out _ F9.out).mono ?_; rintro r w3 ⟨x3, rfl, hx3, f3⟩; obtain ⟨a3, c3, s3, rfl, sx3, zx3⟩ := hx3) | (refine wpList_lay2 rfl rfl rfl rfl rfl rfl (.tmp 10) (.tmp 11) (.tmp 66) (.tmp 67) rfl rfl zx3 rfl rfl rfl rfl ?_))
        have l8 := (Lay2.new w3 a3 c3 (readE l) (readAt l) (p := readPt l) zx3)
        have fL : Frm [] w3 ((w3.alloc (.cells (pc (.slice a3 (readPt l).ads.length c3) (readPt l).b (readPt l).l (readPt l).s).toArray 26)).alloc (.cells #[.int .i64 (readE l), .int .i64 (readAt l)] 40)) := ((Frm.refl [] w3).alloc _).alloc _
        have hv := ptv_lay2 (e := readE l) (f := readAt l) sx3 zx3
        have FX := Lib.hid (F9.out.trans (f3.trans fL (by simp)) (by simp))
        have B2 := Lib.hid (B9.out.keep0 (f3.trans fL (by simp)))
        generalize (w3.alloc (.cells (pc (.slice a3 (readPt l).ads.length c3) (readPt l).b (readPt l).l (readPt l).s).toArray 26)).alloc (.cells #[.int .i64 (readE l), .int .i64 (readAt l)] 40) = V at *
        have L8 := Lib.hid l8.1
        have c8 := l8.2.1
        have c9 := l8.2.2
        have HV := Lib.hid hv
        have fz := Lib.hid (Frm.refl [] V)
        clear l8 fL hv f3 sx3 B9
        generalize pv (.slice a3 (readPt l).ads.length c3) (readPt l).b (readPt l).l (readPt l).s = x8 at *
        rcases read_cases l with ⟨re, m2, e2, h3⟩ | ⟨re, r0, r1⟩
        · rw [re] at c8
          have HB2 := Lib.hid (fun W (f : Frm [] V W) => Bytes_any x8 (readPt l) W (HV.out.keep0 f) (by omega))
          have HH := Lib.hid (fun W (f : Frm [] V W) => Hole_any x8 (readPt l) W (HV.out.keep0 f) (by omega))
          have hck : chk (readPt l) = 0 := by simp [chk, (mayB_iff _).2 m2]
          have hob : outB (readPt l) = l := by simp [outB, (mayB_iff _).2 m2, e2]
          unfold BytesP at HB2
          rw [hck, hob] at HB2
          rw [may_hole m2] at HH
          have hc := L8.out.c0
          clear re m2 e2 h3 hck hob HR HK HB c9
          generalize (readPt l).ads.length = nn at *
          generalize readPt l = q at *
          obtain ⟨a9, c9, k9⟩ := hc
          go_upto_region 13 with (first
            | ((with_reducible (show wpList _ _ _ (Oper.mk _ (Op.load 26 (.tmp 10)) _ _ _ _ :: _) _ _)); refine wpList_load_g (by rfl) 26 _ rfl _ rfl (L8.out.keep0 fz.out).load ?_)
            | (go_at_call 15; refine (HB2.out _ fz.out).mono ?_; rintro r w5 ⟨a5, c5, s5, rfl, o5, f5, n5⟩))
          have S5 := Lib.hid o5.sl
          have F5 := Lib.hid f5
          have HEQ := Lib.hid (show (l == l) = true by simp)
          have K9 := Lib.hid (f5.cell k9 (by simp))
          clear fz o5 f5 n5 k9
          refine wp_region_held_drew (S := fun z => Frm [] w5 z) (by kernel_rfl) ((Frm.refl [] w5).drew) (fun hHeld => ?_)
          refine wpAnyH_take (i := 0) (oi := { dst := some 95, op := Op.move (Operand.tmp 5), type := 4, pos := "outright.go:55", after := #[], guard := none }) (v := ?_) rfl (by kernel_rfl) (by kernel_rfl) (by kernel_rfl) (fun _ _ _ h => h) (Or.inl ⟨by rfl, ?_⟩) hHeld ?_
          rotate_left
          focus (intro z hSw; clear hSw; go_simp; try with_reducible rfl)
          try simp only [Act.put, List.setIfInBounds_toArray, List.set_cons_zero, List.set_cons_succ]
          refine wpAnyH_take (i := 1) (oi := { dst := some 96, op := Op.move (Operand.tmp 95), type := 4, pos := "outright.go:55", after := #[{ on := 0, ground := Ground.data }], guard := none }) (v := ?_) rfl (by kernel_rfl) (by kernel_rfl) (by kernel_rfl) (fun _ _ _ h => h) (Or.inl ⟨by rfl, ?_⟩) hHeld ?_
          rotate_left
          focus (intro z hSw; clear hSw; go_simp; try with_reducible rfl)
          try simp only [Act.put, List.setIfInBounds_toArray, List.set_cons_zero, List.set_cons_succ]
          refine wpAnyH_take (i := 2) (oi := { dst := some 97, op := Op.move (Operand.tmp 13), type := 30, pos := "outright.go:55", after := #[{ on := 1, ground := Ground.guard }], guard := some (1, true) }) (v := ?_) rfl (by kernel_rfl) (by kernel_rfl) (by kernel_rfl) (fun _ _ _ h => h) (Or.inl ⟨by rfl, ?_⟩) hHeld ?_
          rotate_left
          focus (intro z hSw; clear hSw; go_simp; try with_reducible rfl)
          try simp only [Act.put, List.setIfInBounds_toArray, List.set_cons_zero, List.set_cons_succ]
          refine wpAnyH_take (i := 3) (oi := { dst := some 98, op := Op.binOp BinOp.eql 30 (Operand.tmp 97) (Operand.const (Value.int IntKind.i64 0)) 30, type := 4, pos := "outright.go:55", after := #[{ on := 2, ground := Ground.data }, { on := 1, ground := Ground.guard }], guard := some (1, true) }) (v := ?_) rfl (by kernel_rfl) (by kernel_rfl) (by kernel_rfl) (fun _ _ _ h => h) (Or.inl ⟨by rfl, ?_⟩) hHeld ?_
          rotate_left
          focus (intro z hSw; clear hSw; go_simp; try with_reducible rfl)
          try simp only [Act.put, List.setIfInBounds_toArray, List.set_cons_zero, List.set_cons_succ]
          refine wpAnyH_take (i := 4) (oi := { dst := some 99, op := Op.pick (Operand.tmp 96) (Operand.tmp 98) (Operand.const (Value.bool false)), type := 4, pos := "outright.go:55", after := #[{ on := 1, ground := Ground.data }, { on := 3, ground := Ground.data }], guard := none }) (v := ?_) rfl (by kernel_rfl) (by kernel_rfl) (by kernel_rfl) (fun _ _ _ h => h) (Or.inl ⟨by rfl, ?_⟩) hHeld ?_
          rotate_left
          focus (intro z hSw; clear hSw; go_simp; try with_reducible rfl)
          try simp only [Act.put, List.setIfInBounds_toArray, List.set_cons_zero, List.set_cons_succ]
          refine wpAnyH_take (i := 5) (oi := { dst := some 100, op := Op.move (Operand.tmp 99), type := 4, pos := "outright.go:55", after := #[{ on := 4, ground := Ground.data }, { on := 1, ground := Ground.chain }], guard := none }) (v := ?_) rfl (by kernel_rfl) (by kernel_rfl) (by kernel_rfl) (fun _ _ _ h => h) (Or.inl ⟨by rfl, ?_⟩) hHeld ?_
          rotate_left
          focus (intro z hSw; clear hSw; go_simp; try with_reducible rfl)
          try simp only [Act.put, List.setIfInBounds_toArray, List.set_cons_zero, List.set_cons_succ]
          refine wpAnyH_take (i := 6) (oi := { dst := some 101, op := Op.move (Operand.tmp 12), type := 29, pos := "outright.go:55", after := #[{ on := 5, ground := Ground.guard }], guard := some (5, true) }) (v := ?_) rfl (by kernel_rfl) (by kernel_rfl) (by kernel_rfl) (fun _ _ _ h => h) (Or.inl ⟨by rfl, ?_⟩) hHeld ?_
          rotate_left
          focus (intro z hSw; clear hSw; go_simp; try with_reducible rfl)
          try simp only [Act.put, List.setIfInBounds_toArray, List.set_cons_zero, List.set_cons_succ]
          refine wpAnyH_take (i := 7) (oi := { dst := some 102, op := Op.move (Operand.tmp 1), type := 29, pos := "outright.go:55", after := #[{ on := 5, ground := Ground.guard }], guard := some (5, true) }) (v := ?_) rfl (by kernel_rfl) (by kernel_rfl) (by kernel_rfl) (fun _ _ _ h => h) (Or.inl ⟨by rfl, ?_⟩) hHeld ?_
          rotate_left
          focus (intro z hSw; clear hSw; go_simp; try with_reducible rfl)
          try simp only [Act.put, List.setIfInBounds_toArray, List.set_cons_zero, List.set_cons_succ]
          refine wpAnyH_ready (rs := [8]) (by kernel_rfl) (by simp) ?_
          refine AllReadyH.cons (o := { dst := some 103, op := Op.call { callee := Callee.value (Operand.func 17), args := #[Operand.tmp 101, Operand.tmp 102], argTypes := #[29, 29] }, type := 4, pos := "outright.go:55", after := #[{ on := 6, ground := Ground.data }, { on := 7, ground := Ground.data }, { on := 5, ground := Ground.chain }, { on := 5, ground := Ground.guard }], guard := some (5, true) }) rfl (fun K hK => ?_) AllReadyH.nil
          go_simp
          refine (SameBytes_any _ _ _ s5 _ sp _ (S5.out.keep hHeld (by simp)) (HS.out.keep ((FX.out.trans F5.out (by simp)).trans hHeld (by simp)) (by simp))).mono ?_
          rintro r w6 ⟨rfl, rfl⟩
          rw [HEQ.out]
          refine hK.out _ _ ?_ (fun hNext => ?_)
          · exact hHeld
          clear hK K hHeld
          have hHeld := hNext
          clear hNext
          try simp only [Act.put, List.setIfInBounds_toArray, List.set_cons_zero, List.set_cons_succ]
          refine wpAnyH_take (i := 9) (oi := { dst := some 104, op := Op.pick (Operand.tmp 100) (Operand.tmp 103) (Operand.const (Value.bool false)), type := 4, pos := "outright.go:55", after := #[{ on := 5, ground := Ground.data }, { on := 8, ground := Ground.data }], guard := none }) (v := ?_) rfl (by kernel_rfl) (by kernel_rfl) (by kernel_rfl) (fun _ _ _ h => h) (Or.inl ⟨by rfl, ?_⟩) hHeld ?_
          rotate_left
          focus (intro z hSw; clear hSw; go_simp; try with_reducible rfl)
          try simp only [Act.put, List.setIfInBounds_toArray, List.set_cons_zero, List.set_cons_succ]
          refine wpAnyH_take (i := 10) (oi := { dst := some 105, op := Op.move (Operand.tmp 104), type := 4, pos := "outright.go:55", after := #[{ on := 9, ground := Ground.data }, { on := 8, ground := Ground.chain }], guard := none }) (v := ?_) rfl (by kernel_rfl) (by kernel_rfl) (by kernel_rfl) (fun _ _ _ h => h) (Or.inl ⟨by rfl, ?_⟩) hHeld ?_
          rotate_left
          focus (intro z hSw; clear hSw; go_simp; try with_reducible rfl)
          try simp only [Act.put, List.setIfInBounds_toArray, List.set_cons_zero, List.set_cons_succ]
          refine wpAnyH_take (i := 11) (oi := { dst := some 106, op := Op.load 26 (Operand.tmp 10), type := 26, pos := "outright.go:55", after := #[{ on := 10, ground := Ground.guard }], guard := some (10, true) }) rfl (by kernel_rfl) (by kernel_rfl) (by kernel_rfl) (fun _ _ _ h => h) (yieldsIf_ld (by rfl) 26 _ rfl _ rfl (fun z hSw => ((L8.out.keep0 F5.out).keep0 hSw).load)) hHeld ?_
          try simp only [Act.put, List.setIfInBounds_toArray, List.set_cons_zero, List.set_cons_succ]
          refine wpAnyH_take (i := 13) (oi := { dst := some 108, op := Op.fieldAddr 26 (Operand.tmp 10) 0, type := 0, pos := "outright.go:55", after := #[{ on := 10, ground := Ground.guard }], guard := some (10, true) }) (v := ?_) rfl (by kernel_rfl) (by kernel_rfl) (by kernel_rfl) (fun _ _ _ h => h) (Or.inl ⟨by rfl, ?_⟩) hHeld ?_
          rotate_left
          focus (intro z hSw; clear hSw; go_simp; try with_reducible rfl)
          try simp only [Act.put, List.setIfInBounds_toArray, List.set_cons_zero, List.set_cons_succ]
          refine wpAnyH_take (i := 14) (oi := { dst := some 109, op := Op.load 22 (Operand.tmp 108), type := 22, pos := "outright.go:55", after := #[{ on := 13, ground := Ground.data }, { on := 10, ground := Ground.guard }], guard := some (10, true) }) (v := ?_) rfl (by kernel_rfl) (by kernel_rfl) (by kernel_rfl) (fun _ _ _ h => h) (Or.inl ⟨by rfl, ?_⟩) hHeld ?_
          rotate_left
          focus (intro z hSw; have k9 := hSw.cell K9.out (by simp); clear hSw; go_simp; try with_reducible rfl)
          try simp only [Act.put, List.setIfInBounds_toArray, List.set_cons_zero, List.set_cons_succ]
          refine wpAnyH_take (i := 15) (oi := { dst := some 110, op := Op.call { callee := Callee.builtin Builtin.len, args := #[Operand.tmp 109], argTypes := #[22] }, type := 3, pos := "outright.go:55", after := #[{ on := 14, ground := Ground.data }, { on := 10, ground := Ground.guard }], guard := some (10, true) }) (v := ?_) rfl (by kernel_rfl) (by kernel_rfl) (by kernel_rfl) (fun _ _ _ h => h) (Or.inl ⟨by rfl, ?_⟩) hHeld ?_
          rotate_left
          focus (intro z hSw; clear hSw; go_simp; try with_reducible rfl)
          try simp only [Act.put, List.setIfInBounds_toArray, List.set_cons_zero, List.set_cons_succ]
          refine wpAnyH_take (i := 16) (oi := { dst := some 111, op := Op.binOp BinOp.eql 3 (Operand.tmp 110) (Operand.const (Value.int IntKind.i64 0)) 3, type := 4, pos := "outright.go:55", after := #[{ on := 15, ground := Ground.data }, { on := 10, ground := Ground.guard }], guard := some (10, true) }) (v := ?_) rfl (by kernel_rfl) (by kernel_rfl) (by kernel_rfl) (fun _ _ _ h => h) (Or.inl ⟨by rfl, ?_⟩) hHeld ?_
          rotate_left
          focus (intro z hSw; clear hSw; go_simp; try with_reducible rfl)
          try simp only [Act.put, List.setIfInBounds_toArray, List.set_cons_zero, List.set_cons_succ]
          refine wpAnyH_ready (rs := [12]) (by kernel_rfl) (by simp) ?_
          refine AllReadyH.cons (o := { dst := some 107, op := Op.call { callee := Callee.value (Operand.func 20), args := #[Operand.tmp 106], argTypes := #[26] }, type := 4, pos := "outright.go:55", after := #[{ on := 11, ground := Ground.data }, { on := 10, ground := Ground.chain }, { on := 10, ground := Ground.guard }], guard := some (10, true) }) rfl (fun K hK => ?_) AllReadyH.nil
          go_simp
          refine (HH.out _ (F5.out.trans hHeld (by simp))).mono ?_
          rintro r w7 ⟨rfl, f7⟩
          refine hK.out _ _ ?_ (fun hNext => ?_)
          · exact hHeld.trans f7 (by simp)
          clear hK K hHeld
          have hHeld := hNext
          clear hNext
          try simp only [Act.put, List.setIfInBounds_toArray, List.set_cons_zero, List.set_cons_succ]
          refine wpAnyH_take (i := 17) (oi := { dst := some 112, op := Op.binOp BinOp.eql 4 (Operand.tmp 107) (Operand.tmp 111) 4, type := 4, pos := "outright.go:55", after := #[{ on := 12, ground := Ground.data }, { on := 16, ground := Ground.data }, { on := 10, ground := Ground.guard }], guard := some (10, true) }) (v := ?_) rfl (by kernel_rfl) (by kernel_rfl) (by kernel_rfl) (fun _ _ _ h => h) (Or.inl ⟨by rfl, ?_⟩) hHeld ?_
          rotate_left
          focus (intro z hSw; clear hSw; go_simp; try with_reducible rfl)
          try simp only [Act.put, List.setIfInBounds_toArray, List.set_cons_zero, List.set_cons_succ]
          refine wpAnyH_take (i := 18) (oi := { dst := some 113, op := Op.pick (Operand.tmp 105) (Operand.tmp 112) (Operand.const (Value.bool false)), type := 4, pos := "outright.go:55", after := #[{ on := 10, ground := Ground.data }, { on := 17, ground := Ground.data }], guard := none }) (v := ?_) rfl (by kernel_rfl) (by kernel_rfl) (by kernel_rfl) (fun _ _ _ h => h) (Or.inl ⟨by rfl, ?_⟩) hHeld ?_
          rotate_left
          focus (intro z hSw; clear hSw; go_simp; try with_reducible rfl)
          try simp only [Act.put, List.setIfInBounds_toArray, List.set_cons_zero, List.set_cons_succ]
          refine wpAnyH_take (i := 19) (oi := { dst := some 4, op := Op.assign (Operand.tmp 113), type := 4, pos := "outright.go:55", after := #[{ on := 18, ground := Ground.data }, { on := 12, ground := Ground.chain }, { on := 0, ground := Ground.phase }, { on := 1, ground := Ground.phase }, { on := 2, ground := Ground.phase }, { on := 3, ground := Ground.phase }, { on := 4, ground := Ground.phase }, { on := 5, ground := Ground.phase }, { on := 6, ground := Ground.phase }, { on := 7, ground := Ground.phase }, { on := 8, ground := Ground.phase }, { on := 9, ground := Ground.phase }, { on := 10, ground := Ground.phase }, { on := 11, ground := Ground.phase }, { on := 12, ground := Ground.phase }, { on := 13, ground := Ground.phase }, { on := 14, ground := Ground.phase }, { on := 15, ground := Ground.phase }, { on := 16, ground := Ground.phase }, { on := 17, ground := Ground.phase }, { on := 18, ground := Ground.phase }], guard := none }) (v := ?_) rfl (by kernel_rfl) (by kernel_rfl) (by kernel_rfl) (fun _ _ _ h => h) (Or.inl ⟨by rfl, ?_⟩) hHeld ?_
          rotate_left
          focus (intro z hSw; clear hSw; go_simp; try with_reducible rfl)
          try simp only [Act.put, List.setIfInBounds_toArray, List.set_cons_zero, List.set_cons_succ]
          refine wpAnyH_done (by kernel_rfl) ?_ _
          go_wp2_with fail
          go_ret
          exact ⟨ret_bool (by by_cases h : nn = 0 <;> simp [h]), (FX.out.trans F5.out (by simp)).trans hHeld (by simp)⟩
        · have HL := Lib.hid r0
          have HL' := Lib.hid r1
          clear HR HB L8
          generalize readE l = e8 at *
          generalize readAt l = a8 at *
          have hne : (e8 == 0) = false := by simpa using re
          go_wp2_with (first
            | ((with_reducible (show wpList _ _ _ (Oper.mk _ (Op.load 26 (.tmp 2)) _ _ _ _ :: _) _ _)); refine wpList_load_g (by rfl) 26 _ rfl _ rfl (B2.out.keep0 fz.out).load ?_)
            | (go_at_call 18; refine (HK.out _ (FX.out.trans fz.out (by simp))).mono ?_; rintro r wn ⟨rfl, fn⟩; replace fz := Lib.hid (fz.out.trans fn (by simp)); replace c9 := fn.cell c9 (by simp); clear fn))
          all_goals
            go_ret
            exact ⟨ret_bool (by first | (simp; done) | (simp; omega)), FX.out.trans fz.out (by simp)⟩
      · go_upto_region 9 with (first | ((with_reducible (show wpList _ _ _ (Oper.mk _ (Op.load 26 (.tmp 2)) _ _ _ _ :: _) _ _)); refine wpList_load_g (by rfl) 26 _ rfl _ rfl B1.out.load ?_) | (go_at_call 15; refine (HB.out _ F1.out).mono ?_; rintro r wn ⟨xa, xc, xsp, rfl, o2, f2, n2⟩))
        have F9 := Lib.hid (F1.out.trans f2 (by simp))
        have B9 := Lib.hid (B1.out.keep0 f2)
        clear f2 o2 n2 B1
        go_upto_region 10 with (first | (go_at_call 29; refine (HR.out _ F9.out).mono ?_; rintro r w3 ⟨x3, rfl, hx3, f3⟩; obtain ⟨a3, c3, s3, rfl, sx3, zx3⟩ := hx3) | (refine wpList_lay2 rfl rfl rfl rfl rfl rfl (.tmp 10) (.tmp 11) (.tmp 66) (.tmp 67) rfl rfl zx3 rfl rfl rfl rfl ?_))
        have l8 := (Lay2.new w3 a3 c3 (readE l) (readAt l) (p := readPt l) zx3)
        have fL : Frm [] w3 ((w3.alloc (.cells (pc (.slice a3 (readPt l).ads.length c3) (readPt l).b (readPt l).l (readPt l).s).toArray 26)).alloc (.cells #[.int .i64 (readE l), .int .i64 (readAt l)] 40)) := ((Frm.refl [] w3).alloc _).alloc _
        have hv := ptv_lay2 (e := readE l) (f := readAt l) sx3 zx3
        have FX := Lib.hid (F9.out.trans (f3.trans fL (by simp)) (by simp))
        have B2 := Lib.hid (B9.out.keep0 (f3.trans fL (by simp)))
        generalize (w3.alloc (.cells (pc (.slice a3 (readPt l).ads.length c3) (readPt l).b (readPt l).l (readPt l).s).toArray 26)).alloc (.cells #[.int .i64 (readE l), .int .i64 (readAt l)] 40) = V at *
        have L8 := Lib.hid l8.1
        have c8 := l8.2.1
        have c9 := l8.2.2
        have HV := Lib.hid hv
        have fz := Lib.hid (Frm.refl [] V)
        clear l8 fL hv f3 sx3 B9
        generalize pv (.slice a3 (readPt l).ads.length c3) (readPt l).b (readPt l).l (readPt l).s = x8 at *
        rcases read_cases l with ⟨re, m2, e2, h3⟩ | ⟨re, r0, r1⟩
        · rw [re] at c8
          have HB2 := Lib.hid (fun W (f : Frm [] V W) => Bytes_any x8 (readPt l) W (HV.out.keep0 f) (by omega))
          have HH := Lib.hid (fun W (f : Frm [] V W) => Hole_any x8 (readPt l) W (HV.out.keep0 f) (by omega))
          have hck : chk (readPt l) = 0 := by simp [chk, (mayB_iff _).2 m2]
          have hob : outB (readPt l) = l := by simp [outB, (mayB_iff _).2 m2, e2]
          unfold BytesP at HB2
          rw [hck, hob] at HB2
          rw [may_hole m2] at HH
          have hc := L8.out.c0
          clear re m2 e2 h3 hck hob HR HK HB c9
          generalize (readPt l).ads.length = nn at *
          generalize readPt l = q at *
          obtain ⟨a9, c9, k9⟩ := hc
          go_upto_region 13 with (first
            | ((with_reducible (show wpList _ _ _ (Oper.mk _ (Op.load 26 (.tmp 10)) _ _ _ _ :: _) _ _)); refine wpList_load_g (by rfl) 26 _ rfl _ rfl (L8.out.keep0 fz.out).load ?_)
            | (go_at_call 15; refine (HB2.out _ fz.out).mono ?_; rintro r w5 ⟨a5, c5, s5, rfl, o5, f5, n5⟩))
          have S5 := Lib.hid o5.sl
          have F5 := Lib.hid f5
          have HEQ := Lib.hid (show (l == l) = true by simp)
          have K9 := Lib.hid (f5.cell k9 (by simp))
          clear fz o5 f5 n5 k9
          refine wp_region_held_drew (S := fun z => Frm [] w5 z) (by kernel_rfl) ((Frm.refl [] w5).drew) (fun hHeld => ?_)
          refine wpAnyH_take (i := 0) (oi := { dst := some 95, op := Op.move (Operand.tmp 5), type := 4, pos := "outright.go:55", after := #[], guard := none }) (v := ?_) rfl (by kernel_rfl) (by kernel_rfl) (by kernel_rfl) (fun _ _ _ h => h) (Or.inl ⟨by rfl, ?_⟩) hHeld ?_
          rotate_left
          focus (intro z hSw; clear hSw; go_simp; try with_reducible rfl)
          try simp only [Act.put, List.setIfInBounds_toArray, List.set_cons_zero, List.set_cons_succ]
          refine wpAnyH_take (i := 1) (oi := { dst := some 96, op := Op.move (Operand.tmp 95), type := 4, pos := "outright.go:55", after := #[{ on := 0, ground := Ground.data }], guard := none }) (v := ?_) rfl (by kernel_rfl) (by kernel_rfl) (by kernel_rfl) (fun _ _ _ h => h) (Or.inl ⟨by rfl, ?_⟩) hHeld ?_
          rotate_left
          focus (intro z hSw; clear hSw; go_simp; try with_reducible rfl)
          try simp only [Act.put, List.setIfInBounds_toArray, List.set_cons_zero, List.set_cons_succ]
          refine wpAnyH_take (i := 2) (oi := { dst := some 97, op := Op.move (Operand.tmp 13), type := 30, pos := "outright.go:55", after := #[{ on := 1, ground := Ground.guard }], guard := some (1, true) }) (v := ?_) rfl (by kernel_rfl) (by kernel_rfl) (by kernel_rfl) (fun _ _ _ h => h) (Or.inl ⟨by rfl, ?_⟩) hHeld ?_
          rotate_left
          focus (intro z hSw; clear hSw; go_simp; try with_reducible rfl)
          try simp only [Act.put, List.setIfInBounds_toArray, List.set_cons_zero, List.set_cons_succ]
          refine wpAnyH_take (i := 3) (oi := { dst := some 98, op := Op.binOp BinOp.eql 30 (Operand.tmp 97) (Operand.const (Value.int IntKind.i64 0)) 30, type := 4, pos := "outright.go:55", after := #[{ on := 2, ground := Ground.data }, { on := 1, ground := Ground.guard }], guard := some (1, true) }) (v := ?_) rfl (by kernel_rfl) (by kernel_rfl) (by kernel_rfl) (fun _ _ _ h => h) (Or.inl ⟨by rfl, ?_⟩) hHeld ?_
          rotate_left
          focus (intro z hSw; clear hSw; go_simp; try with_reducible rfl)
          try simp only [Act.put, List.setIfInBounds_toArray, List.set_cons_zero, List.set_cons_succ]
          refine wpAnyH_take (i := 4) (oi := { dst := some 99, op := Op.pick (Operand.tmp 96) (Operand.tmp 98) (Operand.const (Value.bool false)), type := 4, pos := "outright.go:55", after := #[{ on := 1, ground := Ground.data }, { on := 3, ground := Ground.data }], guard := none }) (v := ?_) rfl (by kernel_rfl) (by kernel_rfl) (by kernel_rfl) (fun _ _ _ h => h) (Or.inl ⟨by rfl, ?_⟩) hHeld ?_
          rotate_left
          focus (intro z hSw; clear hSw; go_simp; try with_reducible rfl)
          try simp only [Act.put, List.setIfInBounds_toArray, List.set_cons_zero, List.set_cons_succ]
          refine wpAnyH_take (i := 5) (oi := { dst := some 100, op := Op.move (Operand.tmp 99), type := 4, pos := "outright.go:55", after := #[{ on := 4, ground := Ground.data }, { on := 1, ground := Ground.chain }], guard := none }) (v := ?_) rfl (by kernel_rfl) (by kernel_rfl) (by kernel_rfl) (fun _ _ _ h => h) (Or.inl ⟨by rfl, ?_⟩) hHeld ?_
          rotate_left
          focus (intro z hSw; clear hSw; go_simp; try with_reducible rfl)
          try simp only [Act.put, List.setIfInBounds_toArray, List.set_cons_zero, List.set_cons_succ]
          refine wpAnyH_take (i := 6) (oi := { dst := some 101, op := Op.move (Operand.tmp 12), type := 29, pos := "outright.go:55", after := #[{ on := 5, ground := Ground.guard }], guard := some (5, true) }) (v := ?_) rfl (by kernel_rfl) (by kernel_rfl) (by kernel_rfl) (fun _ _ _ h => h) (Or.inl ⟨by rfl, ?_⟩) hHeld ?_
          rotate_left
          focus (intro z hSw; clear hSw; go_simp; try with_reducible rfl)
          try simp only [Act.put, List.setIfInBounds_toArray, List.set_cons_zero, List.set_cons_succ]
          refine wpAnyH_take (i := 7) (oi := { dst := some 102, op := Op.move (Operand.tmp 1), type := 29, pos := "outright.go:55", after := #[{ on := 5, ground := Ground.guard }], guard := some (5, true) }) (v := ?_) rfl (by kernel_rfl) (by kernel_rfl) (by kernel_rfl) (fun _ _ _ h => h) (Or.inl ⟨by rfl, ?_⟩) hHeld ?_
          rotate_left
          focus (intro z hSw; clear hSw; go_simp; try with_reducible rfl)
          try simp only [Act.put, List.setIfInBounds_toArray, List.set_cons_zero, List.set_cons_succ]
          refine wpAnyH_ready (rs := [8]) (by kernel_rfl) (by simp) ?_
          refine AllReadyH.cons (o := { dst := some 103, op := Op.call { callee := Callee.value (Operand.func 17), args := #[Operand.tmp 101, Operand.tmp 102], argTypes := #[29, 29] }, type := 4, pos := "outright.go:55", after := #[{ on := 6, ground := Ground.data }, { on := 7, ground := Ground.data }, { on := 5, ground := Ground.chain }, { on := 5, ground := Ground.guard }], guard := some (5, true) }) rfl (fun K hK => ?_) AllReadyH.nil
          go_simp
          refine (SameBytes_any _ _ _ s5 _ sp _ (S5.out.keep hHeld (by simp)) (HS.out.keep ((FX.out.trans F5.out (by simp)).trans hHeld (by simp)) (by simp))).mono ?_
          rintro r w6 ⟨rfl, rfl⟩
          rw [HEQ.out]
          refine hK.out _ _ ?_ (fun hNext => ?_)
          · exact hHeld
          clear hK K hHeld
          have hHeld := hNext
          clear hNext
          try simp only [Act.put, List.setIfInBounds_toArray, List.set_cons_zero, List.set_cons_succ]
          refine wpAnyH_take (i := 9) (oi := { dst := some 104, op := Op.pick (Operand.tmp 100) (Operand.tmp 103) (Operand.const (Value.bool false)), type := 4, pos := "outright.go:55", after := #[{ on := 5, ground := Ground.data }, { on := 8, ground := Ground.data }], guard := none }) (v := ?_) rfl (by kernel_rfl) (by kernel_rfl) (by kernel_rfl) (fun _ _ _ h => h) (Or.inl ⟨by rfl, ?_⟩) hHeld ?_
          rotate_left
          focus (intro z hSw; clear hSw; go_simp; try with_reducible rfl)
          try simp only [Act.put, List.setIfInBounds_toArray, List.set_cons_zero, List.set_cons_succ]
          refine wpAnyH_take (i := 10) (oi := { dst := some 105, op := Op.move (Operand.tmp 104), type := 4, pos := "outright.go:55", after := #[{ on := 9, ground := Ground.data }, { on := 8, ground := Ground.chain }], guard := none }) (v := ?_) rfl (by kernel_rfl) (by kernel_rfl) (by kernel_rfl) (fun _ _ _ h => h) (Or.inl ⟨by rfl, ?_⟩) hHeld ?_
          rotate_left
          focus (intro z hSw; clear hSw; go_simp; try with_reducible rfl)
          try simp only [Act.put, List.setIfInBounds_toArray, List.set_cons_zero, List.set_cons_succ]
          refine wpAnyH_take (i := 11) (oi := { dst := some 106, op := Op.load 26 (Operand.tmp 10), type := 26, pos := "outright.go:55", after := #[{ on := 10, ground := Ground.guard }], guard := some (10, true) }) rfl (by kernel_rfl) (by kernel_rfl) (by kernel_rfl) (fun _ _ _ h => h) (yieldsIf_ld (by rfl) 26 _ rfl _ rfl (fun z hSw => ((L8.out.keep0 F5.out).keep0 hSw).load)) hHeld ?_
          try simp only [Act.put, List.setIfInBounds_toArray, List.set_cons_zero, List.set_cons_succ]
          refine wpAnyH_take (i := 13) (oi := { dst := some 108, op := Op.fieldAddr 26 (Operand.tmp 10) 0, type := 0, pos := "outright.go:55", after := #[{ on := 10, ground := Ground.guard }], guard := some (10, true) }) (v := ?_) rfl (by kernel_rfl) (by kernel_rfl) (by kernel_rfl) (fun _ _ _ h => h) (Or.inl ⟨by rfl, ?_⟩) hHeld ?_
          rotate_left
          focus (intro z hSw; clear hSw; go_simp; try with_reducible rfl)
          try simp only [Act.put, List.setIfInBounds_toArray, List.set_cons_zero, List.set_cons_succ]
          refine wpAnyH_take (i := 14) (oi := { dst := some 109, op := Op.load 22 (Operand.tmp 108), type := 22, pos := "outright.go:55", after := #[{ on := 13, ground := Ground.data }, { on := 10, ground := Ground.guard }], guard := some (10, true) }) (v := ?_) rfl (by kernel_rfl) (by kernel_rfl) (by kernel_rfl) (fun _ _ _ h => h) (Or.inl ⟨by rfl, ?_⟩) hHeld ?_
          rotate_left
          focus (intro z hSw; have k9 := hSw.cell K9.out (by simp); clear hSw; go_simp; try with_reducible rfl)
          try simp only [Act.put, List.setIfInBounds_toArray, List.set_cons_zero, List.set_cons_succ]
          refine wpAnyH_take (i := 15) (oi := { dst := some 110, op := Op.call { callee := Callee.builtin Builtin.len, args := #[Operand.tmp 109], argTypes := #[22] }, type := 3, pos := "outright.go:55", after := #[{ on := 14, ground := Ground.data }, { on := 10, ground := Ground.guard }], guard := some (10, true) }) (v := ?_) rfl (by kernel_rfl) (by kernel_rfl) (by kernel_rfl) (fun _ _ _ h => h) (Or.inl ⟨by rfl, ?_⟩) hHeld ?_
          rotate_left
          focus (intro z hSw; clear hSw; go_simp; try with_reducible rfl)
          try simp only [Act.put, List.setIfInBounds_toArray, List.set_cons_zero, List.set_cons_succ]
          refine wpAnyH_take (i := 16) (oi := { dst := some 111, op := Op.binOp BinOp.eql 3 (Operand.tmp 110) (Operand.const (Value.int IntKind.i64 0)) 3, type := 4, pos := "outright.go:55", after := #[{ on := 15, ground := Ground.data }, { on := 10, ground := Ground.guard }], guard := some (10, true) }) (v := ?_) rfl (by kernel_rfl) (by kernel_rfl) (by kernel_rfl) (fun _ _ _ h => h) (Or.inl ⟨by rfl, ?_⟩) hHeld ?_
          rotate_left
          focus (intro z hSw; clear hSw; go_simp; try with_reducible rfl)
          try simp only [Act.put, List.setIfInBounds_toArray, List.set_cons_zero, List.set_cons_succ]
          refine wpAnyH_ready (rs := [12]) (by kernel_rfl) (by simp) ?_
          refine AllReadyH.cons (o := { dst := some 107, op := Op.call { callee := Callee.value (Operand.func 20), args := #[Operand.tmp 106], argTypes := #[26] }, type := 4, pos := "outright.go:55", after := #[{ on := 11, ground := Ground.data }, { on := 10, ground := Ground.chain }, { on := 10, ground := Ground.guard }], guard := some (10, true) }) rfl (fun K hK => ?_) AllReadyH.nil
          go_simp
          refine (HH.out _ (F5.out.trans hHeld (by simp))).mono ?_
          rintro r w7 ⟨rfl, f7⟩
          refine hK.out _ _ ?_ (fun hNext => ?_)
          · exact hHeld.trans f7 (by simp)
          clear hK K hHeld
          have hHeld := hNext
          clear hNext
          try simp only [Act.put, List.setIfInBounds_toArray, List.set_cons_zero, List.set_cons_succ]
          refine wpAnyH_take (i := 17) (oi := { dst := some 112, op := Op.binOp BinOp.eql 4 (Operand.tmp 107) (Operand.tmp 111) 4, type := 4, pos := "outright.go:55", after := #[{ on := 12, ground := Ground.data }, { on := 16, ground := Ground.data }, { on := 10, ground := Ground.guard }], guard := some (10, true) }) (v := ?_) rfl (by kernel_rfl) (by kernel_rfl) (by kernel_rfl) (fun _ _ _ h => h) (Or.inl ⟨by rfl, ?_⟩) hHeld ?_
          rotate_left
          focus (intro z hSw; clear hSw; go_simp; try with_reducible rfl)
          try simp only [Act.put, List.setIfInBounds_toArray, List.set_cons_zero, List.set_cons_succ]
          refine wpAnyH_take (i := 18) (oi := { dst := some 113, op := Op.pick (Operand.tmp 105) (Operand.tmp 112) (Operand.const (Value.bool false)), type := 4, pos := "outright.go:55", after := #[{ on := 10, ground := Ground.data }, { on := 17, ground := Ground.data }], guard := none }) (v := ?_) rfl (by kernel_rfl) (by kernel_rfl) (by kernel_rfl) (fun _ _ _ h => h) (Or.inl ⟨by rfl, ?_⟩) hHeld ?_
          rotate_left
          focus (intro z hSw; clear hSw; go_simp; try with_reducible rfl)
          try simp only [Act.put, List.setIfInBounds_toArray, List.set_cons_zero, List.set_cons_succ]
          refine wpAnyH_take (i := 19) (oi := { dst := some 4, op := Op.assign (Operand.tmp 113), type := 4, pos := "outright.go:55", after := #[{ on := 18, ground := Ground.data }, { on := 12, ground := Ground.chain }, { on := 0, ground := Ground.phase }, { on := 1, ground := Ground.phase }, { on := 2, ground := Ground.phase }, { on := 3, ground := Ground.phase }, { on := 4, ground := Ground.phase }, { on := 5, ground := Ground.phase }, { on := 6, ground := Ground.phase }, { on := 7, ground := Ground.phase }, { on := 8, ground := Ground.phase }, { on := 9, ground := Ground.phase }, { on := 10, ground := Ground.phase }, { on := 11, ground := Ground.phase }, { on := 12, ground := Ground.phase }, { on := 13, ground := Ground.phase }, { on := 14, ground := Ground.phase }, { on := 15, ground := Ground.phase }, { on := 16, ground := Ground.phase }, { on := 17, ground := Ground.phase }, { on := 18, ground := Ground.phase }], guard := none }) (v := ?_) rfl (by kernel_rfl) (by kernel_rfl) (by kernel_rfl) (fun _ _ _ h => h) (Or.inl ⟨by rfl, ?_⟩) hHeld ?_
          rotate_left
          focus (intro z hSw; clear hSw; go_simp; try with_reducible rfl)
          try simp only [Act.put, List.setIfInBounds_toArray, List.set_cons_zero, List.set_cons_succ]
          refine wpAnyH_done (by kernel_rfl) ?_ _
          go_wp2_with fail
          go_ret
          exact ⟨ret_bool (by by_cases h : nn = 0 <;> simp [h]), (FX.out.trans F5.out (by simp)).trans hHeld (by simp)⟩
        · have HL := Lib.hid r0
          have HL' := Lib.hid r1
          clear HR HB L8
          generalize readE l = e8 at *
          generalize readAt l = a8 at *
          have hne : (e8 == 0) = false := by simpa using re
          go_wp2_with (first
            | ((with_reducible (show wpList _ _ _ (Oper.mk _ (Op.load 26 (.tmp 2)) _ _ _ _ :: _) _ _)); refine wpList_load_g (by rfl) 26 _ rfl _ rfl (B2.out.keep0 fz.out).load ?_)
            | (go_at_call 18; refine (HK.out _ (FX.out.trans fz.out (by simp))).mono ?_; rintro r wn ⟨rfl, fn⟩; replace fz := Lib.hid (fz.out.trans fn (by simp)); replace c9 := fn.cell c9 (by simp); clear fn))
          all_goals
            go_ret
            exact ⟨ret_bool (by first | (simp; done) | (simp; omega)), FX.out.trans fz.out (by simp)⟩
    · go_wp2_with fail
      go_ret
      exact ⟨rfl, F1.out⟩
  · go_wp2_with fail
    go_ret
    exact ⟨rfl, F1.out⟩
end Go.Proofs.Ytjjcjocomanohaa
