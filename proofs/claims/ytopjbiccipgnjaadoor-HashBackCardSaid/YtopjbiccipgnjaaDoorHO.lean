/-
  The walk of HashKnown; no conditions but those that each theorem names.
-/
import Derived.Test.YtopjbiccipgnjaaDoorHN
namespace Go.Proofs.YtopjbiccipgnjaaDoor
open Go.RowKit
set_option linter.unusedVariables false
set_option linter.unusedSimpArgs false
set_option maxRecDepth 1000000

theorem wpList_load_row_g {P : Program} {ops : Array Oper} {rest : List Oper} {o : Oper} {a : Act} {w : World} {Q : Exit → Act → World → Prop} (hw : Region.wanted o (yielded ops a.tmps) = true) (ty : TypeId) (x : Operand) (ho : o.op = .load ty x)
    (g : Nat) (hx : a.eval x = .pointer (some ⟨g, 0, none⟩)) (t : TypeId) (cs : Array Value) (fr : Nat × Nat) (d : TypeDesc) (hg : w.heap[g]? = some (.cells cs t fr))
    (hu : P.underlying ty = some d) (hd : (match d with | .struct _ | .array _ _ => true | _ => false) = true) (hi : (P.info? ty).map (·.size) = some cs.size)
    (h : wpList P ops Q rest (a.put o.dst (.agg cs)) w) : wpList P ops Q (o :: rest) a w :=
  wpList_step fun K hK => by rw [if_pos hw]; exact wp_load_row ty x ho g hx t cs fr d hg hu hd hi (hK _ _ h)
theorem makes (n : Nat) (hn : n ≤ 1000000) (z : Int) (hz : z = n) : ∃ f : World → World, (∀ W, (Instr.makeSlice 22 (.int .i64 z) (.int .i64 z)).run Tryd.prog W = .ok (.slice (some ⟨W.heap.size, 0, none⟩) n n) (f W)) ∧
    ∀ W, OwnB 5 (f W) (.slice (some ⟨W.heap.size, 0, none⟩) n n) (List.replicate n 0) [] ∧ Frm [] W (f W) := by
  subst hz
  have h := fun W => make_bytes BT W .i64 .i64 n (by omega)
  exact ⟨fun W => Classical.choose (h W), fun W => (Classical.choose_spec (h W)).1, fun W => (Classical.choose_spec (h W)).2⟩
theorem fills_abc : fills [97, 98, 99] = [pieceL (filled [97, 98, 99]) 0] := by kernel_rfl
theorem piece_abc : pieceL (filled [97, 98, 99]) 0 = 97 :: 98 :: 99 :: 128 :: (List.replicate 59 0 ++ [24]) := by kernel_rfl
theorem fills55 : (fills (List.replicate 55 0)).length = 1 := by kernel_rfl
theorem fills56 : (fills (List.replicate 56 0)).length = 2 := by kernel_rfl
def long56 : List UInt8 := [97, 98, 99, 100, 98, 99, 100, 101, 99, 100, 101, 102, 100, 101, 102, 103, 101, 102, 103, 104, 102, 103, 104, 105, 103, 104, 105, 106, 104, 105, 106, 107, 105, 106, 107, 108, 106, 107, 108, 109, 107, 108, 109, 110, 108, 109, 110, 111, 109, 110, 111, 112, 110, 111, 112, 113]
theorem nil_first : (sha []).take 4 = [227, 176, 196, 66] := by kernel_rfl
theorem nil_last : (sha []).drop 28 = [120, 82, 184, 85] := by kernel_rfl
theorem long_first : (sha long56).take 4 = [36, 141, 106, 97] := by kernel_rfl
theorem long_last : (sha long56).drop 28 = [25, 219, 6, 193] := by kernel_rfl
theorem Frm.rules {w w' : World} (f : Frm [] w w') : (∀ p, (w.cell? p).isSome = true → w'.cell? p = w.cell? p) ∧ ∀ p, (w.cell? p).isSome = true → w'.frozen? p = w.frozen? p := by
  have key : ∀ p, (w.cell? p).isSome = true → w'.heap[p.block]? = w.heap[p.block]? := fun p h => by
    obtain ⟨v, hv⟩ := Option.isSome_iff_exists.1 h
    exact f.block _ (World.block_lt_of_cell? w p hv) (by simp)
  refine ⟨fun p h => World.cell?_of_block (key p h), fun p h => ?_⟩
  have := key p h
  unfold World.frozen?
  rw [this]
set_option maxHeartbeats 1000000 in
theorem Turn_len (s : S8) (a : Option Addr) (n cap : Nat) (w : World) (h64 : n ≠ 64) (hl : n ≤ 1000000) :
    Calls Tryd.prog 19 #[.agg (W32 s.l).toArray, .slice a n cap] w fun r w' => r = .returned (.tuple #[.agg #[.int .u32 0, .int .u32 0, .int .u32 0, .int .u32 0, .int .u32 0, .int .u32 0, .int .u32 0, .int .u32 0], .int .i64 2]) ∧ Frm [] w w' := by
  have hne : ¬ (n : Int) = 64 := by omega
  have hb : ((n : Int) != 64) = true := by simpa using hne
  go_enter Tryd.func19, Tryd.ntmps19
  go_wp2_with fail
  refine bodyPost_ret (v := .tuple #[.agg #[.int .u32 0, .int .u32 0, .int .u32 0, .int .u32 0, .int .u32 0, .int .u32 0, .int .u32 0, .int .u32 0], .int .i64 2]) (by simp [results, Tryd.results19, go_sem]) rfl ⟨rfl, ?_⟩
  exact ((Frm.refl _ _).alloc _).alloc _
def Z8 : Array Value := #[.int .u32 0, .int .u32 0, .int .u32 0, .int .u32 0, .int .u32 0, .int .u32 0, .int .u32 0, .int .u32 0]
theorem cells8 {w : World} {b : Nat} (h : w.heap[b]? = some (.cells Z8 36 (0, 0))) : (w.cell? ⟨b, 0, none⟩ = some (.int .u32 0) ∧ w.cell? ⟨b, 1, none⟩ = some (.int .u32 0) ∧ w.cell? ⟨b, 2, none⟩ = some (.int .u32 0) ∧ w.cell? ⟨b, 3, none⟩ = some (.int .u32 0) ∧
    w.cell? ⟨b, 4, none⟩ = some (.int .u32 0) ∧ w.cell? ⟨b, 5, none⟩ = some (.int .u32 0) ∧ w.cell? ⟨b, 6, none⟩ = some (.int .u32 0) ∧ w.cell? ⟨b, 7, none⟩ = some (.int .u32 0)) ∧ ∀ i, w.frozen? ⟨b, i, none⟩ = false := by
  refine ⟨⟨?_, ?_, ?_, ?_, ?_, ?_, ?_, ?_⟩, fun i => frozen_of_heap h i⟩ <;> (rw [cell_of_heap h]; rfl)
def oddK (k : Nat) : List UInt8 := List.replicate k 71 ++ List.replicate (64 - k) 0
theorem oddK_length (k : Nat) (hk : k ≤ 64) : (oddK k).length = 64 := by simp [oddK]; omega
theorem oddK_set (k : Nat) (hk : k < 64) : (oddK k).set k 71 = oddK (k + 1) := by
  unfold oddK
  rw [List.set_append_right _ _ (by simp), show 64 - k = (64 - (k + 1)) + 1 by omega, List.replicate_succ]
  simp [List.replicate_succ']
def OddRel (w : World) (b : Nat) (c : Value) (wr : World) : Prop := ∃ k : Nat, k ≤ 64 ∧ c = .int .i64 k ∧ OwnB 5 wr (.slice (some ⟨b, 0, none⟩) 64 64) (oddK k) [] ∧ Frm [] w wr

theorem set8 {w0 w6 : World} {b : Nat} {v0 v1 v2 v3 v4 v5 v6 v7 : Value} (f : Frm [] w0 w6) (h : w0.heap.size ≤ b) : Frm [] w0 ((((((((w6.setCell ⟨b, 0, none⟩ v0).setCell ⟨b, 1, none⟩ v1).setCell ⟨b, 2, none⟩ v2).setCell ⟨b, 3, none⟩ v3).setCell ⟨b, 4, none⟩ v4).setCell ⟨b, 5, none⟩ v5).setCell ⟨b, 6, none⟩ v6).setCell ⟨b, 7, none⟩ v7) :=
  (((((((f.setCell _ _ (.inr h)).setCell _ _ (.inr h)).setCell _ _ (.inr h)).setCell _ _ (.inr h)).setCell _ _ (.inr h)).setCell _ _ (.inr h)).setCell _ _ (.inr h)).setCell _ _ (.inr h)
set_option maxHeartbeats 4000000 in
theorem known_any (w : World) (hG : Glob w) : Calls Tryd.prog 6 #[] w fun r w' => YesF w r w' := by
  obtain ⟨m55, r55, o55⟩ := makes 55 (by omega) 55 rfl
  obtain ⟨m56, r56, o56⟩ := makes 56 (by omega) 56 rfl
  obtain ⟨m64, r64, o64⟩ := makes 64 (by omega) 64 rfl
  obtain ⟨m63, r63, o63⟩ := makes 63 (by omega) 63 rfl
  have O55 := Lib.hid o55
  have O56 := Lib.hid o56
  have O64 := Lib.hid o64
  have O63 := Lib.hid o63
  have HG := Lib.hid hG
  clear o55 o56 o64 o63 hG
  have hcv := fun (w : World) (C : Array Value) (n c : Nat) => Lib.run_convert_bytes_const (P := Tryd.prog) w 22 5 C n c Tryd.underlying22 Tryd.underlying5
  go_enter Tryd.func6, Tryd.ntmps6
  go_wp2_with fail
  refine (Fill_any _ [97, 98, 99] [] _ (slb_new w [97, 98, 99] 3 _ _ rfl rfl (by simp [maxLen])) (by simp)).mono ?_
  rintro r w1 ⟨v', rfl, hl, f1⟩
  have F1 := Lib.hid (((Frm.refl [] w).alloc _).trans f1 (by simp))
  clear f1
  rw [fills_abc, piece_abc] at hl
  obtain ⟨g, cap, gu, capu, spu, rfl, c0, o⟩ := hl.row 0 (by simp) (by simp)
  simp only [List.getElem_cons_zero, List.length_cons, List.length_append, List.length_replicate, List.length_nil] at c0 o
  have k63 := o.cell 63 (by simp; omega)
  have e63 : bv ((97 :: 98 :: 99 :: 128 :: (List.replicate 59 0 ++ [24] : List UInt8)) ++ spu)[63]! = .int .u8 24 := rfl
  rw [e63] at k63
  clear hl o e63
  have hb55 := (O55.out w1)
  go_wp2_with fail
  refine (Fill_any _ (List.replicate 55 0) [] _ hb55.1.sl (by simp)).mono ?_
  rintro r w2 ⟨v2, rfl, hl2, f2⟩
  obtain ⟨a2, cap2, rfl, _, _⟩ := hl2.form
  rw [fills55]
  have F2 := Lib.hid ((F1.out.trans hb55.2 (by simp)).trans f2 (by simp))
  clear hl2 f2 hb55
  have hb56 := (O56.out w2)
  go_wp2_with fail
  refine (Fill_any _ (List.replicate 56 0) [] _ hb56.1.sl (by simp)).mono ?_
  rintro r w3 ⟨v3, rfl, hl3, f3⟩
  obtain ⟨a3, cap3, rfl, _, _⟩ := hl3.form
  rw [fills56]
  have F3 := Lib.hid ((F2.out.trans hb56.2 (by simp)).trans f3 (by simp))
  clear hl3 f3 hb56
  have hb64 := (O64.out w3)
  have H64 := Lib.hid hb64.1
  have F4 := Lib.hid (F3.out.trans hb64.2 (by simp))
  have hw3 : w.heap.size ≤ w3.heap.size := F3.out.size
  have HW3 := Lib.hid hw3
  clear hb64 hw3
  go_wp2_with fail
  go_loopw [3] (OddRel w w3.heap.size) (fun c _ => 64 - (intOf c).toNat)
  case atStart => exact ⟨0, by omega, rfl, H64.out, F4.out⟩
  case round =>
    obtain ⟨k, hk, rfl, o, f⟩ := hrel
    by_cases hlt : k < 64
    · have hc := o.cell k (by rw [oddK_length k hk]; simp; omega)
      have hz := o.frozen k
      have ho := o.store k (by rw [oddK_length k hk]; omega) 71 (u := .int .u8 71) rfl
      rw [oddK_set k hlt] at ho
      have HO := Lib.hid ho
      have HF := Lib.hid f
      have HW3' := HW3.out
      unfold bv at hc
      generalize ((oddK k) ++ [])[k]! = y at hc
      clear o ho f
      go_wp2_with fail
      exact ⟨⟨k + 1, by omega, by go_num, HO.out, HF.out.setCell _ _ (.inr (by simp <;> omega))⟩, by simp [intOf]; omega⟩
    · obtain rfl : k = 64 := by omega
      have HO := Lib.hid o
      have HF := Lib.hid f
      clear o f k63 c0
      go_wp2_with fail
      rename_i K9 hK9
      have hFr := HF
      have REST : ∀ (pb gg : Nat) (w9 : World), Frm [] wr w9 → K9 { tmps := #[Value.bool false, Value.slice (some ⟨g, 0, none⟩) 1 cap, Value.slice (some ⟨w3.heap.size, 0, none⟩) 64 64, Value.int IntKind.i64 64, Value.pointer (some ⟨pb, 0, none⟩), Value.int IntKind.i64 2, undef, undef, undef, undef, undef, undef, Value.slice (some ⟨w.heap.size, 0, none⟩) 3 3, Value.slice (some ⟨w.heap.size, 0, none⟩) 3 3, Value.slice (some ⟨g, 0, none⟩) 1 cap, Value.slice (some ⟨g, 0, none⟩) 1 cap, Value.int IntKind.i64 1, Value.bool false, Value.bool false, Value.slice (some ⟨g, 0, none⟩) 1 cap, Value.pointer (some ⟨g, 0, none⟩), Value.slice (some ⟨gu, 0, none⟩) 64 capu, Value.int IntKind.i64 64, Value.bool false, Value.bool false, Value.bool false, Value.slice (some ⟨g, 0, none⟩) 1 cap, Value.pointer (some ⟨g, 0, none⟩), Value.slice (some ⟨gu, 0, none⟩) 64 capu, Value.pointer (some ⟨gu, 63, none⟩), Value.int IntKind.u8 24, Value.bool false, Value.bool false, Value.bool false, Value.slice (some ⟨w1.heap.size, 0, none⟩) 55 55, Value.slice a2 1 cap2, Value.int IntKind.i64 1, Value.bool false, Value.bool false, Value.bool false, Value.slice (some ⟨w2.heap.size, 0, none⟩) 56 56, Value.slice a3 2 cap3, Value.int IntKind.i64 2, Value.bool false, Value.bool false, Value.slice (some ⟨w3.heap.size, 0, none⟩) 64 64, Value.int IntKind.i64 64, Value.bool false, u48, u49, u50, u51, u52, Value.tuple #[Value.agg #[Value.int IntKind.u32 0, Value.int IntKind.u32 0, Value.int IntKind.u32 0, Value.int IntKind.u32 0, Value.int IntKind.u32 0, Value.int IntKind.u32 0, Value.int IntKind.u32 0, Value.int IntKind.u32 0], Value.int IntKind.i64 2], Value.agg (W32 s0.l).toArray, Value.slice (some ⟨gg, 0, none⟩) 63 63, Value.tuple #[Value.agg #[Value.int IntKind.u32 0, Value.int IntKind.u32 0, Value.int IntKind.u32 0, Value.int IntKind.u32 0, Value.int IntKind.u32 0, Value.int IntKind.u32 0, Value.int IntKind.u32 0, Value.int IntKind.u32 0], Value.int IntKind.i64 2], Value.agg #[Value.int IntKind.u32 0, Value.int IntKind.u32 0, Value.int IntKind.u32 0, Value.int IntKind.u32 0, Value.int IntKind.u32 0, Value.int IntKind.u32 0, Value.int IntKind.u32 0, Value.int IntKind.u32 0], Value.int IntKind.i64 2, undef, undef, undef, undef, undef, undef, undef, undef, undef, undef, undef, undef, undef, undef, undef, undef, undef, undef, undef, undef, undef, undef, undef, undef, undef, undef, undef, undef, undef, undef, undef, undef, undef, undef, undef, undef, undef, undef, undef, undef, undef, undef, undef, undef, undef, undef, undef], defers := [] } w9 := by
        intro pb gg w9 f9
        have HF9 := Lib.hid f9
        clear f9
        have hsl := (HO.out.keep HF9.out (by simp)).sl
        go_upto_region 10 with (fail)
        refine wp_region_lit ?_
        refine wpList_step (fun K hK => ?_)
        go_simp
        refine (Parse_empty _).mono ?_
        rintro r w10 ⟨rfl, f10⟩
        have F10 := Lib.hid (HF9.out.trans f10 (by simp))
        clear f10

        refine hK _ _ ?_
        clear hK K
        refine wpList_step (fun K hK => ?_)
        go_simp
        refine hK _ _ ?_
        clear hK K
        refine wpList_step (fun K hK => ?_)
        go_simp
        refine hK _ _ ?_
        clear hK K
        refine wpList_step (fun K hK => ?_)
        go_simp
        refine hK _ _ ?_
        clear hK K
        refine wpList_step (fun K hK => ?_)
        go_simp
        refine hK _ _ ?_
        clear hK K
        refine wpList_step (fun K hK => ?_)
        go_simp
        refine hK _ _ ?_
        clear hK K
        refine wpList_store_row rfl 29 (.tmp 6) (.tmp 61) rfl w10.heap.size Z32 rfl rfl 29 _ (heap_alloc_lt (heap_alloc_new _ _)) i29 rfl Z32_one ?_
        have hF11 := (((F10.out.alloc (.cells Z32 29)).alloc (.cells #[.int .i64 0, .int .i64 0] 43)).setRow w10.heap.size Z32 (.inr F10.out.size))
        have h11 : (((w10.alloc (.cells Z32 29)).alloc (.cells #[.int .i64 0, .int .i64 0] 43)).setRow w10.heap.size Z32).heap[w10.heap.size + 1]? = some (.cells #[.int .i64 0, .int .i64 0] 43 (0, 0)) := by
          exact ((Frm.refl [w10.heap.size] ((w10.alloc (.cells Z32 29)).alloc (.cells #[.int .i64 0, .int .i64 0] 43))).setRow w10.heap.size Z32 (.inl (by simp))).heap (heap_alloc_at (by simp)) (by simp)
        change wpList _ _ _ _ _ (((w10.alloc (.cells Z32 29)).alloc (.cells #[.int .i64 0, .int .i64 0] 43)).setRow w10.heap.size Z32)
        generalize ((w10.alloc (.cells Z32 29)).alloc (.cells #[.int .i64 0, .int .i64 0] 43)).setRow w10.heap.size Z32 = w11 at *
        have F11 := Lib.hid hF11
        have H11 := Lib.hid h11
        have c0 : w11.cell? ⟨w10.heap.size + 1, 0, none⟩ = some (.int .i64 0) := by rw [cell_of_heap h11]; rfl
        have c1 : w11.cell? ⟨w10.heap.size + 1, 1, none⟩ = some (.int .i64 0) := by rw [cell_of_heap h11]; rfl
        have z0 := fun i => frozen_of_heap h11 i
        clear hF11 h11
        refine wpList_step (fun K hK => ?_)
        go_simp
        refine hK _ _ ?_
        clear hK K
        refine wpList_nil ?_
        have hF12 := (F11.out.setCell ⟨w10.heap.size + 1, 0, none⟩ (.int .i64 4) (.inr (by have := F10.out.size; simp; omega))).setCell ⟨w10.heap.size + 1, 1, none⟩ (.int .i64 0) (.inr (by have := F10.out.size; simp; omega))
        have hs12 : SlB _ _ _ _ := (HO.out.keep hF12 (by simp)).sl
        have hcv2 := convert_bytes (dst := 9) BT hs12 (by kernel_rfl)
        have h12 : ((w11.setCell ⟨w10.heap.size + 1, 0, none⟩ (.int .i64 4)).setCell ⟨w10.heap.size + 1, 1, none⟩ (.int .i64 0)).heap[w10.heap.size + 1]? = some (.cells #[.int .i64 4, .int .i64 0] 43 (0, 0)) := by
          rw [heap_setCell_same _ (heap_setCell_same _ H11.out)]; rfl
        clear c0 c1 z0
        go_upto_region 11 with (fail)
        generalize ((w11.setCell ⟨w10.heap.size + 1, 0, none⟩ (.int .i64 4)).setCell ⟨w10.heap.size + 1, 1, none⟩ (.int .i64 0)) = w12 at *
        have F12 := Lib.hid hF12
        have H12 := Lib.hid h12
        clear hF12 h12 hs12
        refine wp_region_lit ?_
        refine wpList_step (fun K hK => ?_)
        go_simp
        refine hK _ _ ?_
        clear hK K
        refine wpList_step (fun K hK => ?_)
        go_simp
        refine hK _ _ ?_
        clear hK K
        refine wpList_step (fun K hK => ?_)
        go_simp
        refine (Parse_G ⟨(oddK 64).toArray⟩ (by kernel_rfl) (fun _ => by kernel_rfl) _).mono ?_
        rintro r w13 ⟨rfl, f13⟩
        have F13 := Lib.hid (F12.out.trans f13 (by simp))
        have H13 := Lib.hid (f13.heap H12.out (by simp))
        clear f13
        refine hK _ _ ?_
        clear hK K
        refine wpList_step (fun K hK => ?_)
        go_simp
        refine hK _ _ ?_
        clear hK K
        refine wpList_step (fun K hK => ?_)
        go_simp
        refine hK _ _ ?_
        clear hK K
        refine wpList_step (fun K hK => ?_)
        go_simp
        refine hK _ _ ?_
        clear hK K
        refine wpList_step (fun K hK => ?_)
        go_simp
        refine hK _ _ ?_
        clear hK K
        refine wpList_step (fun K hK => ?_)
        go_simp
        refine hK _ _ ?_
        clear hK K
        refine wpList_store_row rfl 29 (.tmp 8) (.tmp 67) rfl w13.heap.size Z32 rfl rfl 29 _ (heap_alloc_lt (heap_alloc_new _ _)) i29 rfl Z32_one ?_
        have hF14 := (((F13.out.alloc (.cells Z32 29)).alloc (.cells #[.int .i64 0, .int .i64 0] 43)).setRow w13.heap.size Z32 (.inr F13.out.size))
        have h14 : (((w13.alloc (.cells Z32 29)).alloc (.cells #[.int .i64 0, .int .i64 0] 43)).setRow w13.heap.size Z32).heap[w13.heap.size + 1]? = some (.cells #[.int .i64 0, .int .i64 0] 43 (0, 0)) := by
          exact ((Frm.refl [w13.heap.size] ((w13.alloc (.cells Z32 29)).alloc (.cells #[.int .i64 0, .int .i64 0] 43))).setRow w13.heap.size Z32 (.inl (by simp))).heap (heap_alloc_at (by simp)) (by simp)
        have hb13 : w10.heap.size + 1 < w13.heap.size := (Array.getElem?_eq_some_iff.1 H13.out).1
        have hk14 : (((w13.alloc (.cells Z32 29)).alloc (.cells #[.int .i64 0, .int .i64 0] 43)).setRow w13.heap.size Z32).heap[w10.heap.size + 1]? = some (.cells #[.int .i64 4, .int .i64 0] 43 (0, 0)) := by
          exact ((((Frm.refl [w13.heap.size] w13).alloc (.cells Z32 29)).alloc (.cells #[.int .i64 0, .int .i64 0] 43)).setRow w13.heap.size Z32 (.inl (by simp))).heap H13.out (by simp; omega)
        change wpList _ _ _ _ _ (((w13.alloc (.cells Z32 29)).alloc (.cells #[.int .i64 0, .int .i64 0] 43)).setRow w13.heap.size Z32)
        generalize ((w13.alloc (.cells Z32 29)).alloc (.cells #[.int .i64 0, .int .i64 0] 43)).setRow w13.heap.size Z32 = w14 at *
        have F14 := Lib.hid hF14
        have H14 := Lib.hid h14
        have K14 := Lib.hid hk14
        have B13 := Lib.hid hb13
        have c0 : w14.cell? ⟨w13.heap.size + 1, 0, none⟩ = some (.int .i64 0) := by rw [cell_of_heap h14]; rfl
        have c1 : w14.cell? ⟨w13.heap.size + 1, 1, none⟩ = some (.int .i64 0) := by rw [cell_of_heap h14]; rfl
        have z0 := fun i => frozen_of_heap h14 i
        clear hF14 h14 hk14 hb13
        refine wpList_step (fun K hK => ?_)
        go_simp
        refine hK _ _ ?_
        clear hK K
        refine wpList_nil ?_
        have hF15 := (F14.out.setCell ⟨w13.heap.size + 1, 0, none⟩ (.int .i64 2) (.inr (by have := F13.out.size; simp; omega))).setCell ⟨w13.heap.size + 1, 1, none⟩ (.int .i64 0) (.inr (by have := F13.out.size; simp; omega))
        have h15 : ((w14.setCell ⟨w13.heap.size + 1, 0, none⟩ (.int .i64 2)).setCell ⟨w13.heap.size + 1, 1, none⟩ (.int .i64 0)).heap[w13.heap.size + 1]? = some (.cells #[.int .i64 2, .int .i64 0] 43 (0, 0)) := by
          rw [heap_setCell_same _ (heap_setCell_same _ H14.out)]; rfl
        have k15 : ((w14.setCell ⟨w13.heap.size + 1, 0, none⟩ (.int .i64 2)).setCell ⟨w13.heap.size + 1, 1, none⟩ (.int .i64 0)).heap[w10.heap.size + 1]? = some (.cells #[.int .i64 4, .int .i64 0] 43 (0, 0)) := by
          have hb := B13.out
          rw [heap_setCell_ne _ (by simp <;> omega), heap_setCell_ne _ (by simp <;> omega)]; exact K14.out
        clear c0 c1 z0
        go_upto_region 12 with (fail)
        generalize ((w14.setCell ⟨w13.heap.size + 1, 0, none⟩ (.int .i64 2)).setCell ⟨w13.heap.size + 1, 1, none⟩ (.int .i64 0)) = w15 at *
        have F15 := Lib.hid hF15
        have H15 := Lib.hid h15
        have K15 := Lib.hid k15
        clear hF15 h15 k15
        have hG15 : Glob w15 := HG.out.keep (hFr.out.trans F15.out (by simp)) (by simp)
        refine wp_region_lit ?_
        refine wpList_step (fun K hK => ?_)
        go_simp
        refine hK _ _ ?_
        clear hK K
        refine wpList_step (fun K hK => ?_)
        go_simp
        refine hK _ _ ?_
        clear hK K
        refine wpList_step (fun K hK => ?_)
        go_simp
        refine (Sum_any _ long56 [] _ (slb_new w15 long56 56 _ _ rfl rfl (by simp [maxLen, long56])) (by simp [long56]) (hG15.keep ((Frm.refl [] w15).alloc _) (by simp))).mono ?_
        rintro r w16 ⟨rfl, f16⟩
        have f15 := (Frm.refl [] w15).alloc (.cells (bvs long56).toArray 5 (56, 57))
        have hF16 := (F15.out.trans f15 (by simp)).trans f16 (by simp)
        have H16 := Lib.hid (f16.heap (f15.heap H15.out (by simp)) (by simp))
        have K16 := Lib.hid (f16.heap (f15.heap K15.out (by simp)) (by simp))
        refine hK _ _ ?_
        clear hK K
        refine wpList_step (fun K hK => ?_)
        go_simp
        refine hK _ _ ?_
        clear hK K
        have hb16 := (Array.getElem?_eq_some_iff.1 H16.out).1
        have hc16 := (Array.getElem?_eq_some_iff.1 K16.out).1
        have hsl : (bvs (sha long56)).toArray.size = 32 := by kernel_rfl
        refine wpList_store_row rfl 29 (.tmp 10) (.tmp 71) rfl w16.heap.size (bvs (sha long56)).toArray rfl rfl 29 _ (heap_alloc_new _ _) i29 (by rw [hsl]; rfl) (bvs_oneA _) ?_
        have hF17 := ((hF16.alloc (.cells Z32 29)).setRow w16.heap.size (bvs (sha long56)).toArray (.inr hF16.size))
        have h17 : ((w16.alloc (.cells Z32 29)).setRow w16.heap.size (bvs (sha long56)).toArray).heap[w13.heap.size + 1]? = some (.cells #[.int .i64 2, .int .i64 0] 43 (0, 0)) := by
          exact (((Frm.refl [w16.heap.size] w16).alloc (.cells Z32 29)).setRow w16.heap.size _ (.inl (by simp))).heap H16.out (by simp; omega)
        have k17 : ((w16.alloc (.cells Z32 29)).setRow w16.heap.size (bvs (sha long56)).toArray).heap[w10.heap.size + 1]? = some (.cells #[.int .i64 4, .int .i64 0] 43 (0, 0)) := by
          exact (((Frm.refl [w16.heap.size] w16).alloc (.cells Z32 29)).setRow w16.heap.size _ (.inl (by simp))).heap K16.out (by simp; omega)
        have r17 := setRow_heap (w16.alloc (.cells Z32 29)) w16.heap.size _ (bvs (sha long56)).toArray 29 (0, 0) (heap_alloc_new _ _)
        have p0 : ((w16.alloc (.cells Z32 29)).setRow w16.heap.size (bvs (sha long56)).toArray).cell? ⟨w13.heap.size + 1, 0, none⟩ = some (.int .i64 2) := by rw [cell_of_heap h17]; rfl
        have p1 : ((w16.alloc (.cells Z32 29)).setRow w16.heap.size (bvs (sha long56)).toArray).cell? ⟨w13.heap.size + 1, 1, none⟩ = some (.int .i64 0) := by rw [cell_of_heap h17]; rfl
        have q0 : ((w16.alloc (.cells Z32 29)).setRow w16.heap.size (bvs (sha long56)).toArray).cell? ⟨w10.heap.size + 1, 0, none⟩ = some (.int .i64 4) := by rw [cell_of_heap k17]; rfl
        have q1 : ((w16.alloc (.cells Z32 29)).setRow w16.heap.size (bvs (sha long56)).toArray).cell? ⟨w10.heap.size + 1, 1, none⟩ = some (.int .i64 0) := by rw [cell_of_heap k17]; rfl
        change wpList _ _ _ _ _ ((w16.alloc (.cells Z32 29)).setRow w16.heap.size (bvs (sha long56)).toArray)
        generalize (w16.alloc (.cells Z32 29)).setRow w16.heap.size (bvs (sha long56)).toArray = w17 at *
        have F17 := Lib.hid hF17
        have R17 := Lib.hid r17
        clear hF17 r17 hF16 hsl
        refine wpList_nil ?_
        go_upto_region 14 with (fail)
        clear p0 p1 q0 q1
        refine wp_region_lit ?_
        refine wpList_step (fun K hK => ?_)
        go_simp
        refine (awake_any _ (HG.out.keep (hFr.out.trans F17.out (by simp)) (by simp))).mono ?_
        rintro r w18 ⟨rfl, f18⟩
        have F18 := Lib.hid (F17.out.trans f18 (by simp))
        have R18 := Lib.hid (f18.heap R17.out (by simp))
        clear f18
        refine hK _ _ ?_
        clear hK K
        refine wpList_step (fun K hK => ?_)
        go_simp
        refine hK _ _ ?_
        clear hK K
        refine wpList_step (fun K hK => ?_)
        go_simp
        refine hK _ _ ?_
        clear hK K
        refine wpList_step (fun K hK => ?_)
        go_simp
        refine hK _ _ ?_
        clear hK K
        refine wpList_step (fun K hK => ?_)
        go_simp
        refine hK _ _ ?_
        clear hK K
        refine wpList_step (fun K hK => ?_)
        go_simp
        refine (Sum_any _ [] [] _ (OwnB.nil 5 _).sl (by simp) (HG.out.keep (hFr.out.trans F18.out (by simp)) (by simp))).mono ?_
        rintro r w19 ⟨rfl, f19⟩
        have F19 := Lib.hid (F18.out.trans f19 (by simp))
        have R19 := Lib.hid (f19.heap R18.out (by simp))
        clear f19
        refine hK _ _ ?_
        clear hK K
        refine wpList_step (fun K hK => ?_)
        go_simp
        refine hK _ _ ?_
        clear hK K
        refine wpList_step (fun K hK => ?_)
        go_simp
        refine hK _ _ ?_
        clear hK K
        refine wpList_step (fun K hK => ?_)
        go_simp
        have s2 : ∀ (W : World) (cs : Array Value), cs = (bvs [120, 82, 184, 85]).toArray → SlB ((w19.alloc (.cells cs 5)).alloc (.cells (bvs [120, 82, 184, 85]).toArray 5)) (.slice (some ⟨w19.heap.size + 1, 0, none⟩) 4 4) [120, 82, 184, 85] [] := fun W cs _ => by
          have := slb_new (w19.alloc (.cells cs 5)) [120, 82, 184, 85] 4 _ (0, 0) rfl rfl (by simp [maxLen])
          simpa using this
        have s3 : SlB ((w19.alloc (.cells (bvs [227, 176, 196, 66]).toArray 5)).alloc (.cells (bvs [120, 82, 184, 85]).toArray 5)) (.slice (some ⟨w19.heap.size + 1, 0, none⟩) 4 4) [120, 82, 184, 85] [] := by
          have := slb_new (w19.alloc (.cells (bvs [227, 176, 196, 66]).toArray 5)) [120, 82, 184, 85] 4 _ (0, 0) rfl rfl (by simp [maxLen])
          simpa using this
        clear s2
        have s1 := (slb_new w19 [227, 176, 196, 66] 4 _ (0, 0) rfl rfl (by simp [maxLen])).keep ((Frm.refl [] _).alloc (.cells (bvs [120, 82, 184, 85]).toArray 5)) (by simp)
        have fa := ((Frm.refl [] w19).alloc (.cells (bvs [227, 176, 196, 66]).toArray 5)).alloc (.cells (bvs [120, 82, 184, 85]).toArray 5)
        refine (ends_yes (sha []) (by kernel_rfl) _ _ [227, 176, 196, 66] [120, 82, 184, 85] [] [] _ s1 s3 nil_first nil_last).mono ?_
        rintro r w20 ⟨rfl, f20⟩
        have F20 := Lib.hid ((F19.out.trans fa (by simp)).trans f20 (by simp))
        have R20 := Lib.hid (f20.heap (fa.heap R19.out (by simp)) (by simp))
        clear f20 fa s1 s3
        refine hK _ _ ?_
        clear hK K
        refine wpList_step (fun K hK => ?_)
        go_simp
        refine hK _ _ ?_
        clear hK K
        refine wpList_step (fun K hK => ?_)
        go_simp
        refine hK _ _ ?_
        clear hK K
        have hsl9 : (bvs (sha long56)).toArray.size = 32 := by kernel_rfl
        have HSL9 := Lib.hid hsl9
        clear hsl9
        refine wpList_load_row_g (by go_simp) 29 (.tmp 10) rfl w16.heap.size rfl 29 (bvs (sha long56)).toArray (0, 0) _ R20.out d29 rfl (by rw [HSL9.out]; exact i29) ?_
        refine wpList_step (fun K hK => ?_)
        go_simp
        refine hK _ _ ?_
        clear hK K
        refine wpList_step (fun K hK => ?_)
        go_simp
        refine hK _ _ ?_
        clear hK K
        refine wpList_step (fun K hK => ?_)
        go_simp
        have s3 : SlB ((w20.alloc (.cells (bvs [36, 141, 106, 97]).toArray 5)).alloc (.cells (bvs [25, 219, 6, 193]).toArray 5)) (.slice (some ⟨w20.heap.size + 1, 0, none⟩) 4 4) [25, 219, 6, 193] [] := by
          have := slb_new (w20.alloc (.cells (bvs [36, 141, 106, 97]).toArray 5)) [25, 219, 6, 193] 4 _ (0, 0) rfl rfl (by simp [maxLen])
          simpa using this
        have s1 := (slb_new w20 [36, 141, 106, 97] 4 _ (0, 0) rfl rfl (by simp [maxLen])).keep ((Frm.refl [] _).alloc (.cells (bvs [25, 219, 6, 193]).toArray 5)) (by simp)
        have fa := ((Frm.refl [] w20).alloc (.cells (bvs [36, 141, 106, 97]).toArray 5)).alloc (.cells (bvs [25, 219, 6, 193]).toArray 5)
        refine (ends_yes (sha long56) (by kernel_rfl) _ _ [36, 141, 106, 97] [25, 219, 6, 193] [] [] _ s1 s3 long_first long_last).mono ?_
        rintro r w21 ⟨rfl, f21⟩
        have F21 := Lib.hid ((F20.out.trans fa (by simp)).trans f21 (by simp))
        have R21 := Lib.hid (f21.heap (fa.heap R20.out (by simp)) (by simp))
        clear f21 fa s1 s3
        refine hK _ _ ?_
        clear hK K
        refine wpList_step (fun K hK => ?_)
        go_simp
        refine hK _ _ ?_
        clear hK K
        refine wpList_step (fun K hK => ?_)
        go_simp
        refine hK _ _ ?_
        clear hK K
        refine wpList_load_row_g (by go_simp) 29 (.tmp 10) rfl w16.heap.size rfl 29 (bvs (sha long56)).toArray (0, 0) _ R21.out d29 rfl (by rw [HSL9.out]; exact i29) ?_
        refine wpList_load_row_g (by go_simp) 29 (.tmp 10) rfl w16.heap.size rfl 29 (bvs (sha long56)).toArray (0, 0) _ R21.out d29 rfl (by rw [HSL9.out]; exact i29) ?_
        refine wpList_step (fun K hK => ?_)
        go_simp
        refine (Less_any (sha long56) (sha long56) (by kernel_rfl) (by kernel_rfl) _).mono ?_
        rw [compareBytes_self]
        rintro r w22 ⟨rfl, f22⟩
        have F22 := Lib.hid (F21.out.trans f22 (by simp))
        clear f22
        refine hK _ _ ?_
        clear hK K
        refine wpList_step (fun K hK => ?_)
        go_simp
        refine hK _ _ ?_
        clear hK K
        refine wpList_step (fun K hK => ?_)
        go_simp
        refine hK _ _ ?_
        clear hK K
        refine wpList_step (fun K hK => ?_)
        go_simp
        refine hK _ _ ?_
        clear hK K
        refine wpList_nil ?_
        go_wp2_with fail
        go_ret
        exact ⟨rfl, hFr.out.trans F22.out (by simp)⟩
      refine wp_region_any (by kernel_rfl) ?_
      change wpAny _ _ _ _ _ _ _ (World.drew _)
      refine wpAny_ready (rs := [0, 1, 6]) (by kernel_rfl) (by simp) ?_
      refine AllReady.cons rfl (fun K hK => ?_) ?_
      · go_simp
        refine (Start_any _).mono ?_
        rintro r w5 ⟨rfl, f5⟩
        refine hK _ _ ?_
        clear hK K
        refine wpAny_ready (rs := [1, 6]) (by kernel_rfl) (by simp) ?_
        refine AllReady.cons rfl (fun K hK => ?_) ?_
        · go_simp
          refine hK _ _ ?_
          clear hK K
          refine wpAny_ready (rs := [2, 6]) (by kernel_rfl) (by simp) ?_
          refine AllReady.cons rfl (fun K hK => ?_) ?_
          · go_simp
            refine (Turn_len s0 _ 63 63 _ (by decide) (by decide)).mono ?_
            rintro r w6 ⟨rfl, f6⟩
            refine hK _ _ ?_
            clear hK K
            refine wpAny_take (i := 3) (v := ?_) rfl (by kernel_rfl) (by kernel_rfl) (by kernel_rfl) (fun _ _ _ h => h) (Or.inl ⟨by rfl, ?_⟩) ?_
            rotate_left
            focus (intro w; go_simp; try with_reducible rfl)
            refine wpAny_take (i := 4) (v := ?_) rfl (by kernel_rfl) (by kernel_rfl) (by kernel_rfl) (fun _ _ _ h => h) (Or.inl ⟨by rfl, ?_⟩) ?_
            rotate_left
            focus (intro w; go_simp; try with_reducible rfl)
            refine wpAny_take (i := 5) (v := ?_) rfl (by kernel_rfl) (by kernel_rfl) (by kernel_rfl) (fun _ _ _ h => h) (Or.inl ⟨by rfl, ?_⟩) ?_
            rotate_left
            focus (intro w; go_simp; try with_reducible rfl)
            refine wpAny_ready (rs := [6]) (by kernel_rfl) (by simp) ?_
            refine AllReady.cons rfl (fun K hK => ?_) ?_
            · go_simp
              refine hK _ _ ?_
              clear hK K
              refine wpAny_ready (rs := [7]) (by kernel_rfl) (by simp) ?_
              refine AllReady.cons rfl (fun K hK => ?_) ?_
              · go_simp
                refine hK _ _ ?_
                clear hK K
                refine wpAny_take (i := 8) (v := ?_) rfl (by kernel_rfl) (by kernel_rfl) (by kernel_rfl) (fun _ _ _ h => h) (Or.inl ⟨by rfl, ?_⟩) ?_
                rotate_left
                focus (intro w; go_simp; try with_reducible rfl)
                refine wpAny_done (by kernel_rfl) ?_ _
                have hpb := (((((Frm.refl [] wr).drew).trans f5 (by simp)).trans (O63.out _).2 (by simp)).trans f6 (by simp)).size
                have hF := (((((Frm.refl [] wr).drew).trans f5 (by simp)).trans (O63.out _).2 (by simp)).trans f6 (by simp)).alloc (.cells Z8 36)
                refine REST _ _ _ ?_
                try unfold Z8 at hF
                first | (with_reducible exact hF) | (refine set8 ?_ ?_; (with_reducible exact hF); exact hpb)
              exact AllReady.nil
            exact AllReady.nil
          refine AllReady.cons rfl (fun K hK => ?_) ?_
          · go_simp
            refine hK _ _ ?_
            clear hK K
            refine wpAny_ready (rs := [2]) (by kernel_rfl) (by simp) ?_
            refine AllReady.cons rfl (fun K hK => ?_) ?_
            · go_simp
              refine (Turn_len s0 _ 63 63 _ (by decide) (by decide)).mono ?_
              rintro r w6 ⟨rfl, f6⟩
              have h46 := cells8 (f6.heap (heap_alloc_new _ (.cells Z8 36)) (by simp))
              obtain ⟨⟨q0, q1, q2, q3, q4, q5, q6, q7⟩, qz⟩ := h46
              refine hK _ _ ?_
              clear hK K
              refine wpAny_take (i := 3) (v := ?_) rfl (by kernel_rfl) (by kernel_rfl) (by kernel_rfl) (fun _ _ _ h => h) (Or.inl ⟨by rfl, ?_⟩) ?_
              rotate_left
              focus (intro w; go_simp; try with_reducible rfl)
              refine wpAny_take (i := 4) (v := ?_) rfl (by kernel_rfl) (by kernel_rfl) (by kernel_rfl) (fun _ _ _ h => h) (Or.inl ⟨by rfl, ?_⟩) ?_
              rotate_left
              focus (intro w; go_simp; try with_reducible rfl)
              refine wpAny_take (i := 5) (v := ?_) rfl (by kernel_rfl) (by kernel_rfl) (by kernel_rfl) (fun _ _ _ h => h) (Or.inl ⟨by rfl, ?_⟩) ?_
              rotate_left
              focus (intro w; go_simp; try with_reducible rfl)
              refine wpAny_ready (rs := [7]) (by kernel_rfl) (by simp) ?_
              refine AllReady.cons rfl (fun K hK => ?_) ?_
              · go_simp
                refine hK _ _ ?_
                clear hK K
                refine wpAny_take (i := 8) (v := ?_) rfl (by kernel_rfl) (by kernel_rfl) (by kernel_rfl) (fun _ _ _ h => h) (Or.inl ⟨by rfl, ?_⟩) ?_
                rotate_left
                focus (intro w; go_simp; try with_reducible rfl)
                refine wpAny_done (by kernel_rfl) ?_ _
                have hpb := ((((Frm.refl [] wr).drew).trans f5 (by simp)).trans (O63.out _).2 (by simp)).size
                have hF := (((((Frm.refl [] wr).drew).trans f5 (by simp)).trans (O63.out _).2 (by simp)).alloc (.cells Z8 36)).trans f6 (by simp)
                refine REST _ _ _ ?_
                try unfold Z8 at hF
                first | (with_reducible exact hF) | (refine set8 ?_ ?_; (with_reducible exact hF); exact hpb)
              exact AllReady.nil
            exact AllReady.nil
          exact AllReady.nil
        refine AllReady.cons rfl (fun K hK => ?_) ?_
        · go_simp
          refine hK _ _ ?_
          clear hK K
          refine wpAny_ready (rs := [1]) (by kernel_rfl) (by simp) ?_
          refine AllReady.cons rfl (fun K hK => ?_) ?_
          · go_simp
            refine hK _ _ ?_
            clear hK K
            refine wpAny_ready (rs := [2]) (by kernel_rfl) (by simp) ?_
            refine AllReady.cons rfl (fun K hK => ?_) ?_
            · go_simp
              refine (Turn_len s0 _ 63 63 _ (by decide) (by decide)).mono ?_
              rintro r w6 ⟨rfl, f6⟩
              have h46 := cells8 (f6.heap (((O63.out _).2).heap (heap_alloc_new _ (.cells Z8 36)) (by simp)) (by simp))
              obtain ⟨⟨q0, q1, q2, q3, q4, q5, q6, q7⟩, qz⟩ := h46
              refine hK _ _ ?_
              clear hK K
              refine wpAny_take (i := 3) (v := ?_) rfl (by kernel_rfl) (by kernel_rfl) (by kernel_rfl) (fun _ _ _ h => h) (Or.inl ⟨by rfl, ?_⟩) ?_
              rotate_left
              focus (intro w; go_simp; try with_reducible rfl)
              refine wpAny_take (i := 4) (v := ?_) rfl (by kernel_rfl) (by kernel_rfl) (by kernel_rfl) (fun _ _ _ h => h) (Or.inl ⟨by rfl, ?_⟩) ?_
              rotate_left
              focus (intro w; go_simp; try with_reducible rfl)
              refine wpAny_take (i := 5) (v := ?_) rfl (by kernel_rfl) (by kernel_rfl) (by kernel_rfl) (fun _ _ _ h => h) (Or.inl ⟨by rfl, ?_⟩) ?_
              rotate_left
              focus (intro w; go_simp; try with_reducible rfl)
              refine wpAny_ready (rs := [7]) (by kernel_rfl) (by simp) ?_
              refine AllReady.cons rfl (fun K hK => ?_) ?_
              · go_simp
                refine hK _ _ ?_
                clear hK K
                refine wpAny_take (i := 8) (v := ?_) rfl (by kernel_rfl) (by kernel_rfl) (by kernel_rfl) (fun _ _ _ h => h) (Or.inl ⟨by rfl, ?_⟩) ?_
                rotate_left
                focus (intro w; go_simp; try with_reducible rfl)
                refine wpAny_done (by kernel_rfl) ?_ _
                have hpb := (((Frm.refl [] wr).drew).trans f5 (by simp)).size
                have hF := (((((Frm.refl [] wr).drew).trans f5 (by simp)).alloc (.cells Z8 36)).trans (O63.out _).2 (by simp)).trans f6 (by simp)
                refine REST _ _ _ ?_
                try unfold Z8 at hF
                first | (with_reducible exact hF) | (refine set8 ?_ ?_; (with_reducible exact hF); exact hpb)
              exact AllReady.nil
            exact AllReady.nil
          exact AllReady.nil
        exact AllReady.nil
      refine AllReady.cons rfl (fun K hK => ?_) ?_
      · go_simp
        refine hK _ _ ?_
        clear hK K
        refine wpAny_ready (rs := [0, 6]) (by kernel_rfl) (by simp) ?_
        refine AllReady.cons rfl (fun K hK => ?_) ?_
        · go_simp
          refine (Start_any _).mono ?_
          rintro r w5 ⟨rfl, f5⟩
          refine hK _ _ ?_
          clear hK K
          refine wpAny_ready (rs := [2, 6]) (by kernel_rfl) (by simp) ?_
          refine AllReady.cons rfl (fun K hK => ?_) ?_
          · go_simp
            refine (Turn_len s0 _ 63 63 _ (by decide) (by decide)).mono ?_
            rintro r w6 ⟨rfl, f6⟩
            refine hK _ _ ?_
            clear hK K
            refine wpAny_take (i := 3) (v := ?_) rfl (by kernel_rfl) (by kernel_rfl) (by kernel_rfl) (fun _ _ _ h => h) (Or.inl ⟨by rfl, ?_⟩) ?_
            rotate_left
            focus (intro w; go_simp; try with_reducible rfl)
            refine wpAny_take (i := 4) (v := ?_) rfl (by kernel_rfl) (by kernel_rfl) (by kernel_rfl) (fun _ _ _ h => h) (Or.inl ⟨by rfl, ?_⟩) ?_
            rotate_left
            focus (intro w; go_simp; try with_reducible rfl)
            refine wpAny_take (i := 5) (v := ?_) rfl (by kernel_rfl) (by kernel_rfl) (by kernel_rfl) (fun _ _ _ h => h) (Or.inl ⟨by rfl, ?_⟩) ?_
            rotate_left
            focus (intro w; go_simp; try with_reducible rfl)
            refine wpAny_ready (rs := [6]) (by kernel_rfl) (by simp) ?_
            refine AllReady.cons rfl (fun K hK => ?_) ?_
            · go_simp
              refine hK _ _ ?_
              clear hK K
              refine wpAny_ready (rs := [7]) (by kernel_rfl) (by simp) ?_
              refine AllReady.cons rfl (fun K hK => ?_) ?_
              · go_simp
                refine hK _ _ ?_
                clear hK K
                refine wpAny_take (i := 8) (v := ?_) rfl (by kernel_rfl) (by kernel_rfl) (by kernel_rfl) (fun _ _ _ h => h) (Or.inl ⟨by rfl, ?_⟩) ?_
                rotate_left
                focus (intro w; go_simp; try with_reducible rfl)
                refine wpAny_done (by kernel_rfl) ?_ _
                have hpb := (((((Frm.refl [] wr).drew).trans (O63.out _).2 (by simp)).trans f5 (by simp)).trans f6 (by simp)).size
                have hF := (((((Frm.refl [] wr).drew).trans (O63.out _).2 (by simp)).trans f5 (by simp)).trans f6 (by simp)).alloc (.cells Z8 36)
                refine REST _ _ _ ?_
                try unfold Z8 at hF
                first | (with_reducible exact hF) | (refine set8 ?_ ?_; (with_reducible exact hF); exact hpb)
              exact AllReady.nil
            exact AllReady.nil
          refine AllReady.cons rfl (fun K hK => ?_) ?_
          · go_simp
            refine hK _ _ ?_
            clear hK K
            refine wpAny_ready (rs := [2]) (by kernel_rfl) (by simp) ?_
            refine AllReady.cons rfl (fun K hK => ?_) ?_
            · go_simp
              refine (Turn_len s0 _ 63 63 _ (by decide) (by decide)).mono ?_
              rintro r w6 ⟨rfl, f6⟩
              have h46 := cells8 (f6.heap (heap_alloc_new _ (.cells Z8 36)) (by simp))
              obtain ⟨⟨q0, q1, q2, q3, q4, q5, q6, q7⟩, qz⟩ := h46
              refine hK _ _ ?_
              clear hK K
              refine wpAny_take (i := 3) (v := ?_) rfl (by kernel_rfl) (by kernel_rfl) (by kernel_rfl) (fun _ _ _ h => h) (Or.inl ⟨by rfl, ?_⟩) ?_
              rotate_left
              focus (intro w; go_simp; try with_reducible rfl)
              refine wpAny_take (i := 4) (v := ?_) rfl (by kernel_rfl) (by kernel_rfl) (by kernel_rfl) (fun _ _ _ h => h) (Or.inl ⟨by rfl, ?_⟩) ?_
              rotate_left
              focus (intro w; go_simp; try with_reducible rfl)
              refine wpAny_take (i := 5) (v := ?_) rfl (by kernel_rfl) (by kernel_rfl) (by kernel_rfl) (fun _ _ _ h => h) (Or.inl ⟨by rfl, ?_⟩) ?_
              rotate_left
              focus (intro w; go_simp; try with_reducible rfl)
              refine wpAny_ready (rs := [7]) (by kernel_rfl) (by simp) ?_
              refine AllReady.cons rfl (fun K hK => ?_) ?_
              · go_simp
                refine hK _ _ ?_
                clear hK K
                refine wpAny_take (i := 8) (v := ?_) rfl (by kernel_rfl) (by kernel_rfl) (by kernel_rfl) (fun _ _ _ h => h) (Or.inl ⟨by rfl, ?_⟩) ?_
                rotate_left
                focus (intro w; go_simp; try with_reducible rfl)
                refine wpAny_done (by kernel_rfl) ?_ _
                have hpb := ((((Frm.refl [] wr).drew).trans (O63.out _).2 (by simp)).trans f5 (by simp)).size
                have hF := (((((Frm.refl [] wr).drew).trans (O63.out _).2 (by simp)).trans f5 (by simp)).alloc (.cells Z8 36)).trans f6 (by simp)
                refine REST _ _ _ ?_
                try unfold Z8 at hF
                first | (with_reducible exact hF) | (refine set8 ?_ ?_; (with_reducible exact hF); exact hpb)
              exact AllReady.nil
            exact AllReady.nil
          exact AllReady.nil
        refine AllReady.cons rfl (fun K hK => ?_) ?_
        · go_simp
          refine hK _ _ ?_
          clear hK K
          refine wpAny_ready (rs := [0]) (by kernel_rfl) (by simp) ?_
          refine AllReady.cons rfl (fun K hK => ?_) ?_
          · go_simp
            refine (Start_any _).mono ?_
            rintro r w5 ⟨rfl, f5⟩
            refine hK _ _ ?_
            clear hK K
            refine wpAny_ready (rs := [2]) (by kernel_rfl) (by simp) ?_
            refine AllReady.cons rfl (fun K hK => ?_) ?_
            · go_simp
              refine (Turn_len s0 _ 63 63 _ (by decide) (by decide)).mono ?_
              rintro r w6 ⟨rfl, f6⟩
              have h46 := cells8 (f6.heap (f5.heap (heap_alloc_new _ (.cells Z8 36)) (by simp)) (by simp))
              obtain ⟨⟨q0, q1, q2, q3, q4, q5, q6, q7⟩, qz⟩ := h46
              refine hK _ _ ?_
              clear hK K
              refine wpAny_take (i := 3) (v := ?_) rfl (by kernel_rfl) (by kernel_rfl) (by kernel_rfl) (fun _ _ _ h => h) (Or.inl ⟨by rfl, ?_⟩) ?_
              rotate_left
              focus (intro w; go_simp; try with_reducible rfl)
              refine wpAny_take (i := 4) (v := ?_) rfl (by kernel_rfl) (by kernel_rfl) (by kernel_rfl) (fun _ _ _ h => h) (Or.inl ⟨by rfl, ?_⟩) ?_
              rotate_left
              focus (intro w; go_simp; try with_reducible rfl)
              refine wpAny_take (i := 5) (v := ?_) rfl (by kernel_rfl) (by kernel_rfl) (by kernel_rfl) (fun _ _ _ h => h) (Or.inl ⟨by rfl, ?_⟩) ?_
              rotate_left
              focus (intro w; go_simp; try with_reducible rfl)
              refine wpAny_ready (rs := [7]) (by kernel_rfl) (by simp) ?_
              refine AllReady.cons rfl (fun K hK => ?_) ?_
              · go_simp
                refine hK _ _ ?_
                clear hK K
                refine wpAny_take (i := 8) (v := ?_) rfl (by kernel_rfl) (by kernel_rfl) (by kernel_rfl) (fun _ _ _ h => h) (Or.inl ⟨by rfl, ?_⟩) ?_
                rotate_left
                focus (intro w; go_simp; try with_reducible rfl)
                refine wpAny_done (by kernel_rfl) ?_ _
                have hpb := (((Frm.refl [] wr).drew).trans (O63.out _).2 (by simp)).size
                have hF := (((((Frm.refl [] wr).drew).trans (O63.out _).2 (by simp)).alloc (.cells Z8 36)).trans f5 (by simp)).trans f6 (by simp)
                refine REST _ _ _ ?_
                try unfold Z8 at hF
                first | (with_reducible exact hF) | (refine set8 ?_ ?_; (with_reducible exact hF); exact hpb)
              exact AllReady.nil
            exact AllReady.nil
          exact AllReady.nil
        exact AllReady.nil
      refine AllReady.cons rfl (fun K hK => ?_) ?_
      · go_simp
        refine hK _ _ ?_
        clear hK K
        refine wpAny_ready (rs := [0, 1]) (by kernel_rfl) (by simp) ?_
        refine AllReady.cons rfl (fun K hK => ?_) ?_
        · go_simp
          refine (Start_any _).mono ?_
          rintro r w5 ⟨rfl, f5⟩
          refine hK _ _ ?_
          clear hK K
          refine wpAny_ready (rs := [1]) (by kernel_rfl) (by simp) ?_
          refine AllReady.cons rfl (fun K hK => ?_) ?_
          · go_simp
            refine hK _ _ ?_
            clear hK K
            refine wpAny_ready (rs := [2]) (by kernel_rfl) (by simp) ?_
            refine AllReady.cons rfl (fun K hK => ?_) ?_
            · go_simp
              refine (Turn_len s0 _ 63 63 _ (by decide) (by decide)).mono ?_
              rintro r w6 ⟨rfl, f6⟩
              have h46 := cells8 (f6.heap (((O63.out _).2).heap (f5.heap (heap_alloc_new _ (.cells Z8 36)) (by simp)) (by simp)) (by simp))
              obtain ⟨⟨q0, q1, q2, q3, q4, q5, q6, q7⟩, qz⟩ := h46
              refine hK _ _ ?_
              clear hK K
              refine wpAny_take (i := 3) (v := ?_) rfl (by kernel_rfl) (by kernel_rfl) (by kernel_rfl) (fun _ _ _ h => h) (Or.inl ⟨by rfl, ?_⟩) ?_
              rotate_left
              focus (intro w; go_simp; try with_reducible rfl)
              refine wpAny_take (i := 4) (v := ?_) rfl (by kernel_rfl) (by kernel_rfl) (by kernel_rfl) (fun _ _ _ h => h) (Or.inl ⟨by rfl, ?_⟩) ?_
              rotate_left
              focus (intro w; go_simp; try with_reducible rfl)
              refine wpAny_take (i := 5) (v := ?_) rfl (by kernel_rfl) (by kernel_rfl) (by kernel_rfl) (fun _ _ _ h => h) (Or.inl ⟨by rfl, ?_⟩) ?_
              rotate_left
              focus (intro w; go_simp; try with_reducible rfl)
              refine wpAny_ready (rs := [7]) (by kernel_rfl) (by simp) ?_
              refine AllReady.cons rfl (fun K hK => ?_) ?_
              · go_simp
                refine hK _ _ ?_
                clear hK K
                refine wpAny_take (i := 8) (v := ?_) rfl (by kernel_rfl) (by kernel_rfl) (by kernel_rfl) (fun _ _ _ h => h) (Or.inl ⟨by rfl, ?_⟩) ?_
                rotate_left
                focus (intro w; go_simp; try with_reducible rfl)
                refine wpAny_done (by kernel_rfl) ?_ _
                have hpb := ((Frm.refl [] wr).drew).size
                have hF := (((((Frm.refl [] wr).drew).alloc (.cells Z8 36)).trans f5 (by simp)).trans (O63.out _).2 (by simp)).trans f6 (by simp)
                refine REST _ _ _ ?_
                try unfold Z8 at hF
                first | (with_reducible exact hF) | (refine set8 ?_ ?_; (with_reducible exact hF); exact hpb)
              exact AllReady.nil
            exact AllReady.nil
          exact AllReady.nil
        refine AllReady.cons rfl (fun K hK => ?_) ?_
        · go_simp
          refine hK _ _ ?_
          clear hK K
          refine wpAny_ready (rs := [0]) (by kernel_rfl) (by simp) ?_
          refine AllReady.cons rfl (fun K hK => ?_) ?_
          · go_simp
            refine (Start_any _).mono ?_
            rintro r w5 ⟨rfl, f5⟩
            refine hK _ _ ?_
            clear hK K
            refine wpAny_ready (rs := [2]) (by kernel_rfl) (by simp) ?_
            refine AllReady.cons rfl (fun K hK => ?_) ?_
            · go_simp
              refine (Turn_len s0 _ 63 63 _ (by decide) (by decide)).mono ?_
              rintro r w6 ⟨rfl, f6⟩
              have h46 := cells8 (f6.heap (f5.heap (((O63.out _).2).heap (heap_alloc_new _ (.cells Z8 36)) (by simp)) (by simp)) (by simp))
              obtain ⟨⟨q0, q1, q2, q3, q4, q5, q6, q7⟩, qz⟩ := h46
              refine hK _ _ ?_
              clear hK K
              refine wpAny_take (i := 3) (v := ?_) rfl (by kernel_rfl) (by kernel_rfl) (by kernel_rfl) (fun _ _ _ h => h) (Or.inl ⟨by rfl, ?_⟩) ?_
              rotate_left
              focus (intro w; go_simp; try with_reducible rfl)
              refine wpAny_take (i := 4) (v := ?_) rfl (by kernel_rfl) (by kernel_rfl) (by kernel_rfl) (fun _ _ _ h => h) (Or.inl ⟨by rfl, ?_⟩) ?_
              rotate_left
              focus (intro w; go_simp; try with_reducible rfl)
              refine wpAny_take (i := 5) (v := ?_) rfl (by kernel_rfl) (by kernel_rfl) (by kernel_rfl) (fun _ _ _ h => h) (Or.inl ⟨by rfl, ?_⟩) ?_
              rotate_left
              focus (intro w; go_simp; try with_reducible rfl)
              refine wpAny_ready (rs := [7]) (by kernel_rfl) (by simp) ?_
              refine AllReady.cons rfl (fun K hK => ?_) ?_
              · go_simp
                refine hK _ _ ?_
                clear hK K
                refine wpAny_take (i := 8) (v := ?_) rfl (by kernel_rfl) (by kernel_rfl) (by kernel_rfl) (fun _ _ _ h => h) (Or.inl ⟨by rfl, ?_⟩) ?_
                rotate_left
                focus (intro w; go_simp; try with_reducible rfl)
                refine wpAny_done (by kernel_rfl) ?_ _
                have hpb := ((Frm.refl [] wr).drew).size
                have hF := (((((Frm.refl [] wr).drew).alloc (.cells Z8 36)).trans (O63.out _).2 (by simp)).trans f5 (by simp)).trans f6 (by simp)
                refine REST _ _ _ ?_
                try unfold Z8 at hF
                first | (with_reducible exact hF) | (refine set8 ?_ ?_; (with_reducible exact hF); exact hpb)
              exact AllReady.nil
            exact AllReady.nil
          exact AllReady.nil
        exact AllReady.nil
      exact AllReady.nil
end Go.Proofs.YtopjbiccipgnjaaDoor
