/-
  The walk of HashPieces: its beginning; no conditions but those that each theorem names.
-/
import Derived.Test.YtopjbiccipgnjaaDoorPB
import Derived.Test.YtopjbiccipgnjaaDoorPC
namespace Go.Proofs.YtopjbiccipgnjaaDoor
open Go.RowKit
set_option linter.unusedVariables false
set_option linter.unusedSimpArgs false
set_option maxRecDepth 100000

set_option maxHeartbeats 1000000 in
theorem pieces_long (v : Value) (l sp : List UInt8) (n : Int) (w : World) (hS : SlB w v l sp) (hl : 1000 < l.length) (hG : Glob w) :
    Calls Tryd.prog 7 #[v, .int .i64 n] w fun r w' => YesF w r w' := by
  obtain ⟨a, cap, rfl, _, hm⟩ := hS.form
  have hm9 : ((l.length : Nat) : Int) ≤ 9223372036854775807 := by simp [maxLen] at hm; omega
  have hl9 : (1000 : Int) < ((l.length : Nat) : Int) := by omega
  have HG := Lib.hid hG
  clear hG hS hl hm
  go_enter Tryd.func7, Tryd.ntmps7
  go_wp2_with fail
  refine (awake_any _ HG.out).mono ?_
  rintro r w1 ⟨rfl, f1⟩
  go_wp2_with fail
  go_ret
  exact ⟨rfl, f1⟩
theorem slice_h {P : Program} {tS T : TypeId} (B : ByteTys P tS T) {w : World} {a : Option Addr} {n cap : Nat} {l sp : List UInt8} (h : SlB w (.slice a n cap) l sp) (hi : Nat) (h2 : hi ≤ l.length) :
    ∃ a' c', (∀ (y : Int) (wx : World), y = hi → (Instr.slice tS (.slice a n cap) none (some (.int .i64 y)) none).run P wx = .ok (.slice a' hi c') wx) ∧ SlB w (.slice a' hi c') (l.take hi) (l.drop hi ++ sp) := by
  obtain ⟨a2, c2, e, hle, hm⟩ := h.form
  cases e
  have hc := h.cut 0 hi (Nat.zero_le _) h2
  simp only [List.drop_zero, Nat.sub_zero] at hc
  refine ⟨_, _, fun y wx hy => ?_, hc⟩
  subst hy
  obtain ⟨i, hi', hz, hs, hby⟩ := info_parts B.info
  have he : P.elem tS = T := by simp [Program.elem, B.sl]
  have hsz : (sizeOf (P.elem tS)).run P wx = .ok 1 wx := by rw [he]; simp [sizeOf, typeInfo, hi', hs]
  rw [run_slice_h (P := P) wx tS a l.length cap (by rw [he]; exact B.sl) .i64 hi (by omega) (by omega), hsz]
  simp [Result.andThen, sliced]
theorem exec_slice_hB {P : Program} {o : Oper} {a : Act} {w : World} {t : TypeId} {v u : Value} {y : Int} (s hi : Operand) (hop : o.op = Op.slice t s none (some hi) none) (hs : a.eval s = v) (h2 : a.eval hi = .int .i64 y)
    (ht : P.underlying t = some (.slice (P.elem t))) (h : (Instr.slice t v none (some (.int .i64 y)) none).run P w = .ok u w) : (execOp a.eval o).run P w = .ok (.value u) w := by
  simp [execOp, hop, hs, h2, run_sliceAt_slice w t _ _ _ _ ht, h, Result.andThen]
theorem wpList_load_row_g {P : Program} {ops : Array Oper} {rest : List Oper} {o : Oper} {a : Act} {w : World} {Q : Exit → Act → World → Prop} (hw : Region.wanted o (yielded ops a.tmps) = true) (ty : TypeId) (x : Operand) (ho : o.op = .load ty x)
    (g : Nat) (hx : a.eval x = .pointer (some ⟨g, 0, none⟩)) (t : TypeId) (cs : Array Value) (fr : Nat × Nat) (d : TypeDesc) (hg : w.heap[g]? = some (.cells cs t fr))
    (hu : P.underlying ty = some d) (hd : (match d with | .struct _ | .array _ _ => true | _ => false) = true) (hi : (P.info? ty).map (·.size) = some cs.size)
    (h : wpList P ops Q rest (a.put o.dst (.agg cs)) w) : wpList P ops Q (o :: rest) a w :=
  wpList_step fun K hK => by rw [if_pos hw]; exact wp_load_row ty x ho g hx t cs fr d hg hu hd hi (hK _ _ h)
theorem neq36 (l m : List UInt32) (hl : l.length = 8) (hm : m.length = 8) (W : World) : (binOp .neq 36 (.agg (W32 l).toArray) (.agg (W32 m).toArray)).run Tryd.prog W = .ok (.bool (!(l == m))) W := by
  have h := eql36 l m hl hm W
  rw [run_eql_struct] at h
  rw [run_neq_struct]
  cases hr : (Op.equalIn 10000 36 (.agg (W32 l).toArray) (.agg (W32 m).toArray)).run Tryd.prog W with
  | ok b w' =>
    rw [hr] at h
    simp only [Result.andThen] at h ⊢
    cases h
    rfl
  | halt x w' => rw [hr] at h; simp [Result.andThen] at h
theorem at_world {p : World → Prop} (R : World → Prop) {w : World} (h : R w) (k : ∀ W, R W → p W) : p w := k w h
theorem joinK_len (L : List UInt8) : ∀ k, (joinK L k).length ≤ 64 * k
  | 0 => by simp [joinK]
  | k + 1 => by
    have := joinK_len L k
    have h : (pieceL L k).length ≤ 64 := by unfold pieceL; simp; omega
    rw [joinK_snoc, List.length_append]
    omega
theorem SlB.stay {w0 w w' : World} {v : Value} {l sp : List UInt8} {L : List Nat} (h0 : SlB w0 v l sp) (h : SlB w v l sp) (f : Frm L w w') (hL : ∀ k ∈ L, w0.heap.size ≤ k) : SlB w' v l sp := by
  obtain ⟨h1, h2 | h2 | ⟨b, off, cap, h2, h3, h4, h5, h6⟩⟩ := h
  · exact ⟨h1, .inl h2⟩
  · exact ⟨h1, .inr (.inl h2)⟩
  · subst h2
    refine ⟨h1, .inr (.inr ⟨b, off, cap, rfl, h3, h4, h5, fun i u hu => f.cell (h6 i u hu) fun hm => ?_⟩)⟩
    have hb := hL _ hm
    obtain ⟨_, ⟨k2, _⟩ | ⟨a, k2, k3, k4⟩ | ⟨b', off', cap', k2, k3, k4, k5, k6⟩⟩ := h0
    · exact absurd k2 (by simp)
    · have e1 : l.length = 0 := k3
      have : l = [] := List.eq_nil_of_length_eq_zero e1
      subst this
      rw [k4] at hu
      simp [bvs] at hu
    · simp only [Value.slice.injEq, Option.some.injEq, Addr.mk.injEq] at k2
      obtain ⟨⟨rfl, rfl, _⟩, _, rfl⟩ := k2
      have := World.block_lt_of_cell? _ _ (k6 i u hu)
      simp at this hb
      omega
def LRel (V0 : World) (c : Value) (wr : World) : Prop := ∃ k : Nat, k ≤ 32 ∧ c = .int .i64 k ∧ Frm [] V0 wr
def WantR (w : World) (l : List UInt8) (j : Nat) (v : Value) (wr : World) : Prop := ∃ a cap sp, v = .slice a (l ++ [128] ++ List.replicate j (0 : UInt8)).length cap ∧ OwnB 5 wr (.slice a (l ++ [128] ++ List.replicate j (0 : UInt8)).length cap) (l ++ [128] ++ List.replicate j 0) sp ∧ Frm [] w wr ∧ ∀ i ∈ blk (.slice a (l ++ [128] ++ List.replicate j (0 : UInt8)).length cap), w.heap.size ≤ i
theorem cnt_zero (n k : Nat) (hn : n ≤ 1000) (hk : 2 ≤ k) : cntB n k = 0 := by
  unfold cntB
  have h1 : 2 ^ (8 * 2) ≤ 2 ^ (8 * k) := Nat.pow_le_pow_right (by omega) (by omega)
  rw [Nat.div_eq_of_lt (by omega)]
  rfl
theorem want_form (l : List UInt8) (z : Nat) (hl : l.length ≤ 1000) : l ++ [128] ++ List.replicate (z + 6) (0 : UInt8) ++ [UInt8.ofNat (l.length / 32), UInt8.ofNat (8 * l.length)] = l ++ [128] ++ List.replicate z 0 ++ cnts l.length 8 := by
  have e : cnts l.length 8 = List.replicate 6 0 ++ [UInt8.ofNat (l.length / 32), UInt8.ofNat (8 * l.length)] := by
    have h7 := cnt_zero l.length 7 hl (by omega)
    have h6 := cnt_zero l.length 6 hl (by omega)
    have h5 := cnt_zero l.length 5 hl (by omega)
    have h4 := cnt_zero l.length 4 hl (by omega)
    have h3 := cnt_zero l.length 3 hl (by omega)
    have h2 := cnt_zero l.length 2 hl (by omega)
    have h1 : cntB l.length 1 = UInt8.ofNat (l.length / 32) := by unfold cntB; congr 1; omega
    have h0 : cntB l.length 0 = UInt8.ofNat (8 * l.length) := by unfold cntB; congr 1; omega
    show [cntB l.length 7, cntB l.length 6, cntB l.length 5, cntB l.length 4, cntB l.length 3, cntB l.length 2, cntB l.length 1, cntB l.length 0] = _
    rw [h7, h6, h5, h4, h3, h2, h1, h0]
    rfl
  rw [e, ← List.append_assoc, List.append_assoc (l ++ [128]) (List.replicate z 0), List.replicate_append_replicate]
def PieRel (w5 : World) (L : List UInt8) (M b8 : Nat) (v c : Value) (wr : World) : Prop :=
  ∃ k : Nat, k ≤ M ∧ c = .int .i64 (k : Int) ∧ (∃ a cap sp, v = .slice a (joinK L k).length cap ∧ OwnB 5 wr (.slice a (joinK L k).length cap) (joinK L k) sp ∧ ∀ i ∈ blk (.slice a (joinK L k).length cap), w5.heap.size ≤ i) ∧
    IsW wr b8 36 (turnsP s0 L (List.range k)).l ∧ Frm [b8] w5 wr
set_option maxHeartbeats 4000000 in
theorem pieces_any (v : Value) (l sp : List UInt8) (n : Int) (w : World) (hS : SlB w v l sp) (hl : l.length ≤ 1000) (hn : -9223372036854775808 ≤ n ∧ n ≤ 9223372036854775807) (hG : Glob w) :
    Calls Tryd.prog 7 #[v, .int .i64 n] w fun r w' => YesF w r w' := by
  obtain ⟨a, cap, rfl, _, hm⟩ := hS.form
  have hl9 : ((l.length : Nat) : Int) ≤ 1000 := by omega
  have HG := Lib.hid hG
  have HS := Lib.hid hS
  have HL := Lib.hid hl
  clear hG hS hm hl
  go_enter Tryd.func7, Tryd.ntmps7
  go_wp2_with fail
  refine (awake_any _ HG.out).mono ?_
  rintro r w1 ⟨rfl, f1⟩
  have F1 := Lib.hid f1
  clear f1
  go_wp2_with fail
  refine (Fill_any _ l sp _ (HS.out.keep F1.out (by simp)) (by have := HL.out; omega)).mono ?_
  rintro r w2 ⟨v2, rfl, hl2, f2⟩
  have HL2 := Lib.hid hl2
  have F2 := Lib.hid (F1.out.trans f2 (by simp))
  clear f2 hl2
  go_upto_region 6 with (fail)
  refine wp_region_lit ?_
  refine wpList_step (fun K hK => ?_)
  go_simp
  refine (Start_any _).mono ?_
  rintro r w3 ⟨rfl, f3⟩
  have HL3 := Lib.hid (HL2.out.keep f3 (by simp))
  have F3 := Lib.hid (F2.out.trans f3 (by simp))
  clear f3
  refine hK _ _ ?_
  clear hK K
  refine wpList_step (fun K hK => ?_)
  go_simp
  refine hK _ _ ?_
  clear hK K
  refine wpList_store_row rfl 36 (.tmp 8) (.tmp 25) rfl w3.heap.size (W32 s0.l).toArray rfl rfl 36 _ (heap_alloc_new _ (.cells Z8 36)) (by rw [W32_sz]; exact i36) (by rw [W32_sz]; rfl) (W32_one _) ?_
  have h4 : IsW ((w3.alloc (.cells Z8 36)).setRow w3.heap.size (W32 s0.l).toArray) w3.heap.size 36 s0.l := setRow_heap _ _ _ _ _ _ (heap_alloc_new _ (.cells Z8 36))
  have f4 := ((Frm.refl [] w3).alloc (.cells Z8 36)).setRow w3.heap.size (W32 s0.l).toArray (.inr (Nat.le_refl _))
  change wpList _ _ _ _ _ ((w3.alloc (.cells Z8 36)).setRow w3.heap.size (W32 s0.l).toArray)
  generalize (w3.alloc (.cells Z8 36)).setRow w3.heap.size (W32 s0.l).toArray = w4 at *
  have HL4 := Lib.hid (HL3.out.keep f4 (by simp))
  have H4 := Lib.hid h4
  have F4 := Lib.hid (F3.out.trans f4 (by simp))
  have FU := Lib.hid f4
  clear f4 h4
  refine wpList_nil ?_
  have hq : IntKind.i64.wrap (((l.length : Nat) : Int) / 64 + 1) = (((l.length / 64 + 1 : Nat)) : Int) := by
    rw [IntWalk.i64_in _ (by omega)]; omega
  go_wp2_with fail
  refine (Pick_any n (l.length / 64 + 1) (by omega) (by have := HL.out; omega) hn _).mono ?_
  rintro r w5 ⟨at', hat, rfl, f5⟩
  have HL5 := Lib.hid (HL4.out.keep f5 (by simp))
  have H5 := Lib.hid (H4.out.keepF f5)
  have F5 := Lib.hid (F4.out.trans f5 (by simp))
  have FT := Lib.hid (FU.out.trans f5 (by simp))
  have ZB := Lib.hid (show w3.heap.size < w5.heap.size from lt_heap (H4.out.keepF f5))
  have AT := Lib.hid hat
  have hat9 : (at' : Int) ≤ 16 := by have := HL.out; omega
  clear f5 hat HL4 H4 F4
  obtain ⟨a2, c2, rfl, _, _⟩ := HL5.out.form
  rw [fills_len]
  have hpc9 : (pcs l.length : Int) ≤ 100000 := by unfold pcs; have := HL.out; omega
  obtain ⟨b8, hb8⟩ : ∃ b8, w3.heap.size = b8 := ⟨_, rfl⟩
  rw [hb8] at H5 ZB ⊢
  have HB8 := Lib.hid hb8
  clear hb8
  go_wp2_with fail
  go_loopw [7, 9] (PieRel w5 (filled l) (pcs l.length) b8) (fun _ c _ => pcs l.length - (intOf c).toNat)
  case atStart => exact ⟨0, by omega, rfl, ⟨none, 0, [], by simp [joinK], by rw [show joinK (filled l) 0 = [] from rfl]; exact ⟨rfl, .inl ⟨rfl, rfl, rfl⟩⟩, by simp [blk]⟩, H5.out, Frm.refl _ _⟩
  case round =>
    obtain ⟨k, hk, rfl, ⟨a7, c7, sp7, rfl, o7, n7⟩, h, f⟩ := hrel
    by_cases hlt : k < pcs l.length
    · have hpl := piece_len l k hlt
      obtain ⟨g, cg, gu, capu, spu, e1, d1, o1⟩ := HL3.out.row k (by rw [fills_len]; exact hlt) (by rw [fills_at]; intro e; rw [e] at hpl; simp at hpl)
      simp only [Value.slice.injEq] at e1
      obtain ⟨rfl, hx9, rfl⟩ := e1
      clear hx9
      rw [fills_at, hpl] at d1 o1
      have hgb : g ≠ b8 := by have h1 := World.block_lt_of_cell? _ _ d1; have := HB8.out; simp only at h1; omega
      have hub : gu ≠ b8 := by have h1 := o1.lt gu (by simp [blk]); have := HB8.out; omega
      have d2 := f.cell (FT.out.cell d1 (by simp)) (by simpa using hgb)
      have o2 := (o1.keep FT.out (by simp)).keep f (by simpa [blk] using hub)
      have hts : turnsP s0 (filled l) (List.range (k + 1)) = turn (turnsP s0 (filled l) (List.range k)) (pieceL (filled l) k) := by rw [List.range_succ, turnsP_snoc]
      have hjs := joinK_snoc (filled l) k
      have hcall := fun W (fW : Frm [] wr W) => Turn_any (turnsP s0 (filled l) (List.range k)) _ _ _ W (o2.keep fW (by simp)).sl hpl (((HG.out.keep F5.out (by simp)).keep f (by have := HB8.out; have := F3.out.size; have := World.block_lt_of_cell? w _ (HG.out 0 (by omega)); simp at this ⊢; omega)).keep fW (by simp))
      have HC := Lib.hid hcall
      have HTS := Lib.hid hts
      have HJS := Lib.hid hjs
      have H := Lib.hid h
      have F := Lib.hid f
      have O2 := Lib.hid o2
      have O7 := Lib.hid o7
      have N7 := Lib.hid n7
      have HUB := Lib.hid hub
      have D0 := Lib.hid d2
      have HPC := Lib.hid hpc9
      have HGB := Lib.hid hgb
      have HPL := Lib.hid hpl
      clear hcall hts hjs h f o1 o2 d1 hub hgb hpl o7 n7
      generalize hy : turn (turnsP s0 (filled l) (List.range k)) (pieceL (filled l) k) = y at *
      clear hy
      by_cases hka : k = at'
      · subst hka
        have hka9 : ((k : Int) == (k : Int)) = true := by simp
        have hm64 : IntKind.i64.wrap (64 * (k : Int)) = 64 * (k : Int) := IntWalk.i64_in _ (by omega)
        have SA := Lib.hid (SlB.stay HS.out (HS.out.keep F5.out (by simp)) F.out (by have h1 := HB8.out; have h2 := F3.out.size; simp; omega))
        obtain ⟨a1, c1, hs1, cut1⟩ := slice_h BT SA.out (64 * k) (by have h1 := HL.out; have h2 := AT.out; omega)
        have hsl1 : ∀ wx, (Instr.slice 22 (.slice a l.length cap) none (some (.int .i64 (64 * (k : Int)))) none).run Tryd.prog wx = .ok (.slice a1 (64 * k) c1) wx := fun wx => hs1 _ wx (by omega)
        have CUT1 := Lib.hid cut1
        clear hs1 cut1
        have tf := turnsP_front s0 l k (by have h1 := HL.out; have h2 := AT.out; omega)
        have TF := Lib.hid tf
        have KL := Lib.hid (show 64 * k ≤ l.length by have h2 := AT.out; omega)
        have GW := Lib.hid ((HG.out.keep F5.out (by simp)).keep F.out (by have := HB8.out; have := F3.out.size; have := World.block_lt_of_cell? w _ (HG.out 0 (by omega)); simp at this ⊢; omega))
        clear tf
        go_upto_region 14 with (fail)
        refine wp_region_lit ?_
        refine wpList_step (fun K hK => ?_)
        go_simp
        refine hK _ _ ?_
        clear hK K
        refine wpList_step (fun K hK => ?_)
        go_simp
        refine hK _ _ ?_
        clear hK K
        refine wpList_step (fun K hK => ?_)
        go_simp
        refine hK _ _ ?_
        clear hK K
        refine wpList_val rfl (exec_slice_hB (.tmp 48) (.tmp 50) rfl rfl rfl (by kernel_rfl) (hsl1 wr)) ?_
        clear hsl1
        refine wpList_step (fun K hK => ?_)
        go_simp
        refine (turnedL_any (.slice a1 (64 * k) c1) (l.take (64 * k)) _ k _ CUT1.out (by have := KL.out; simp; omega) (by have := AT.out; omega) GW.out).mono ?_
        rintro r w6 ⟨rfl, f6⟩
        rw [← TF.out]
        generalize hx : turnsP s0 (filled l) (List.range k) = x at *
        have HX := Lib.hid hx
        clear hx
        refine hK _ _ ?_
        clear hK K
        refine wpList_step (fun K hK => ?_)
        go_simp
        refine hK _ _ ?_
        clear hK K
        refine wpList_step (fun K hK => ?_)
        go_simp
        refine hK _ _ ?_
        clear hK K
        refine wpList_step (fun K hK => ?_)
        go_simp
        refine hK _ _ ?_
        clear hK K
        refine wpList_step (fun K hK => ?_)
        go_simp
        refine hK _ _ ?_
        clear hK K
        obtain ⟨b10, hb10⟩ : ∃ b10, w6.heap.size = b10 := ⟨_, rfl⟩
        have NEW := Lib.hid (heap_alloc_new w6 (.cells Z8 36))
        rw [hb10] at NEW
        have HB10 := Lib.hid hb10
        rw [hb10]
        refine wpList_store_row rfl 36 (.tmp 10) (.tmp 53) rfl b10 (W32 x.l).toArray rfl rfl 36 _ NEW.out (by rw [W32_sz]; exact i36) (by rw [W32_sz]; rfl) (W32_one _) ?_
        have h10 : IsW ((w6.alloc (.cells Z8 36)).setRow b10 (W32 x.l).toArray) b10 36 x.l := setRow_heap _ _ _ _ _ _ NEW.out
        have f10 : Frm [] wr ((w6.alloc (.cells Z8 36)).setRow b10 (W32 x.l).toArray) := (f6.alloc (.cells Z8 36)).setRow b10 (W32 x.l).toArray (.inr (by have := f6.size; omega))
        change wpList _ _ _ _ _ ((w6.alloc (.cells Z8 36)).setRow b10 (W32 x.l).toArray)
        generalize (w6.alloc (.cells Z8 36)).setRow b10 (W32 x.l).toArray = w7 at *
        have H10 := Lib.hid h10
        have F10 := Lib.hid f10
        clear hb10 h10 f10 f6 NEW
        refine wpList_step (fun K hK => ?_)
        go_simp
        refine hK _ _ ?_
        clear hK K
        refine wpList_nil ?_
        have h8 : IsW w7 b8 36 x.l := H.out.keepF F10.out
        have H8 := Lib.hid h8
        clear h8
        have hgd : ∀ x y xs ys W, (eqGuard .neq 36 x y (.agg xs) (.agg ys)).run Tryd.prog W = .ok () W := fun x y xs ys W => guard_agg _ _ _ _ _ _ (by kernel_rfl) W
        have hneq : ∀ W, (binOp .neq 36 (.agg (W32 x.l).toArray) (.agg (W32 x.l).toArray)).run Tryd.prog W = .ok (.bool false) W := fun W => by rw [neq36 x.l x.l rfl rfl W]; simp
        have HGD := Lib.hid hgd
        have HNEQ := Lib.hid hneq
        clear hgd hneq
        go_upto_region 15 with (fail)
        refine wp_region_lit ?_
        refine wpList_step (fun K hK => ?_)
        go_simp
        refine hK _ _ ?_
        clear hK K
        refine wpList_step (fun K hK => ?_)
        go_simp
        refine hK _ _ ?_
        clear hK K
        refine wpList_step (fun K hK => ?_)
        go_simp
        refine hK _ _ ?_
        clear hK K
        refine wpList_load_row_g (by rfl) 36 (.tmp 10) rfl b10 rfl 36 (W32 x.l).toArray (0, 0) _ H10.out d36 rfl (by rw [W32_sz]; exact i36) ?_
        refine wpList_load_row_g (by rfl) 36 (.tmp 8) rfl b8 rfl 36 (W32 x.l).toArray (0, 0) _ H8.out d36 rfl (by rw [W32_sz]; exact i36) ?_
        have hgd := HGD.out
        have hneq := HNEQ.out
        refine wpList_step (fun K hK => ?_)
        go_simp
        refine hK _ _ ?_
        clear hK K
        refine wpList_step (fun K hK => ?_)
        go_simp
        refine hK _ _ ?_
        clear hK K
        refine wpList_nil ?_
        clear hgd hneq HGD HNEQ
        go_upto_region 17 with (fail)
        have d3 := F10.out.cell d2 (by simp)
        refine at_world (p := fun W => Code.wp _ _ _ _ W) (R := fun Y => Frm [] wr Y ∧ IsW Y b8 36 x.l ∧ Y.cell? ⟨g, k, none⟩ = some (.slice (some ⟨gu, 0, none⟩) 64 capu)) ⟨F10.out, H8.out, d3⟩ ?_
        clear d2 d3 F10 H8 H10 TF KL GW CUT1 SA
        rintro W0 ⟨fc, x8, d2⟩
        have D2 := Lib.hid (show wr.cell? ⟨g, k, none⟩ = some (.slice (some ⟨gu, 0, none⟩) 64 capu) from D0.out)
        refine wp_region_any (by kernel_rfl) ?_
        change wpAny _ _ _ _ _ _ _ (World.drew _)
        refine wpAny_take (i := 1) (oi := { dst := some 64, op := Op.move (Operand.tmp 6), type := 25, pos := "outright.go:58", after := #[], guard := none }) (v := ?_) rfl (by kernel_rfl) (by kernel_rfl) (by kernel_rfl) (fun _ _ _ h => h) (Or.inl ⟨by rfl, ?_⟩) ?_
        rotate_left
        focus (intro w; go_simp; try with_reducible rfl)
        try simp only [Act.put, List.setIfInBounds_toArray, List.set_cons_zero, List.set_cons_succ]
        refine wpAny_take (i := 2) (oi := { dst := some 65, op := Op.move (Operand.tmp 9), type := 3, pos := "outright.go:58", after := #[], guard := none }) (v := ?_) rfl (by kernel_rfl) (by kernel_rfl) (by kernel_rfl) (fun _ _ _ h => h) (Or.inl ⟨by rfl, ?_⟩) ?_
        rotate_left
        focus (intro w; go_simp; try with_reducible rfl)
        try simp only [Act.put, List.setIfInBounds_toArray, List.set_cons_zero, List.set_cons_succ]
        refine wpAny_take (i := 3) (oi := { dst := some 66, op := Op.indexAddr 25 (Operand.tmp 64) (Operand.tmp 65), type := 0, pos := "outright.go:58", after := #[{ on := 1, ground := Ground.data }, { on := 2, ground := Ground.data }], guard := none }) (v := ?_) rfl (by kernel_rfl) (by kernel_rfl) (by kernel_rfl) (fun _ _ _ h => h) (Or.inl ⟨by rfl, ?_⟩) ?_
        rotate_left
        focus (intro w; go_simp; try with_reducible rfl)
        try simp only [Act.put, List.setIfInBounds_toArray, List.set_cons_zero, List.set_cons_succ]
        refine at_world (p := fun W => wpAny _ _ _ _ _ _ _ W) (R := fun Y => Frm [] wr Y ∧ IsW Y b8 36 x.l ∧ Y.cell? ⟨g, k, none⟩ = some (.slice (some ⟨gu, 0, none⟩) 64 capu)) ⟨fc.drew, x8, d2⟩ ?_
        clear fc x8 d2
        rintro Y0 ⟨fc, x8, d2⟩
        refine wpAny_ready (rs := [0, 4, 9]) (by kernel_rfl) (by simp) ?_
        refine AllReady.cons (o := { dst := some 63, op := Op.load 36 (Operand.tmp 8), type := 36, pos := "outright.go:58", after := #[], guard := none }) rfl (fun K hK => ?_) ?_
        · rw [if_pos (by rfl)]
          refine wp_load_row 36 (.tmp 8) rfl b8 rfl 36 (W32 x.l).toArray (0, 0) _ x8 d36 rfl (by rw [W32_sz]; exact i36) ?_
          refine hK _ _ ?_
          clear hK K
          try simp only [Act.put, List.setIfInBounds_toArray, List.set_cons_zero, List.set_cons_succ]
          refine wpAny_ready (rs := [4, 9]) (by kernel_rfl) (by simp) ?_
          refine AllReady.cons (o := { dst := some 67, op := Op.load 22 (Operand.tmp 66), type := 22, pos := "outright.go:58", after := #[{ on := 3, ground := Ground.data }], guard := none }) rfl (fun K hK => ?_) ?_
          · go_simp
            refine hK _ _ ?_
            clear hK K
            refine wpAny_ready (rs := [5, 9]) (by kernel_rfl) (by simp) ?_
            refine AllReady.cons (o := { dst := some 68, op := Op.call { callee := Callee.value (Operand.func 19), args := #[Operand.tmp 63, Operand.tmp 67], argTypes := #[36, 22] }, type := 38, pos := "outright.go:58", after := #[{ on := 0, ground := Ground.data }, { on := 4, ground := Ground.data }], guard := none }) rfl (fun K hK => ?_) ?_
            · go_simp
              refine (HC.out _ fc).mono ?_
              rintro r w9 ⟨rfl, f9⟩
              have x8 := x8.keepF f9
              have d2 := f9.cell d2 (by simp)
              have fc := fc.trans f9 (by simp)
              clear f9
              refine hK _ _ ?_
              clear hK K
              try simp only [Act.put, List.setIfInBounds_toArray, List.set_cons_zero, List.set_cons_succ]
              refine wpAny_take (i := 6) (oi := { dst := some 62, op := Op.move (Operand.tmp 68), type := 38, pos := "outright.go:58", after := #[{ on := 5, ground := Ground.data }], guard := none }) (v := ?_) rfl (by kernel_rfl) (by kernel_rfl) (by kernel_rfl) (fun _ _ _ h => h) (Or.inl ⟨by rfl, ?_⟩) ?_
              rotate_left
              focus (intro w; go_simp; try with_reducible rfl)
              try simp only [Act.put, List.setIfInBounds_toArray, List.set_cons_zero, List.set_cons_succ]
              refine wpAny_take (i := 7) (oi := { dst := some 69, op := Op.extract (Operand.tmp 62) 0, type := 36, pos := "outright.go:58", after := #[{ on := 6, ground := Ground.data }], guard := none }) (v := ?_) rfl (by kernel_rfl) (by kernel_rfl) (by kernel_rfl) (fun _ _ _ h => h) (Or.inl ⟨by rfl, ?_⟩) ?_
              rotate_left
              focus (intro w; go_simp; try with_reducible rfl)
              try simp only [Act.put, List.setIfInBounds_toArray, List.set_cons_zero, List.set_cons_succ]
              refine wpAny_take (i := 8) (oi := { dst := some 70, op := Op.extract (Operand.tmp 62) 1, type := 37, pos := "outright.go:58", after := #[{ on := 6, ground := Ground.data }, { on := 10, ground := Ground.gcOnly Departure.lateStores }], guard := none }) (v := ?_) rfl (by kernel_rfl) (by kernel_rfl) (by kernel_rfl) (fun _ _ _ h => h) (Or.inl ⟨by rfl, ?_⟩) ?_
              rotate_left
              focus (intro w; go_simp; try with_reducible rfl)
              try simp only [Act.put, List.setIfInBounds_toArray, List.set_cons_zero, List.set_cons_succ]
              refine wpAny_ready (rs := [9]) (by kernel_rfl) (by simp) ?_
              refine AllReady.cons (o := { dst := some 12, op := Op.alloc 36, type := 0, pos := "outright.go:58", after := #[], guard := none }) rfl (fun K hK => ?_) ?_
              · go_simp
                refine hK _ _ ?_
                clear hK K
                obtain ⟨b12, hb12⟩ : ∃ b12, w9.heap.size = b12 := ⟨_, rfl⟩
                rw [hb12]
                refine at_world (p := fun W => wpAny _ _ _ _ _ _ _ W) (R := fun Y => Frm [] wr Y ∧ IsW Y b8 36 x.l ∧ Y.cell? ⟨g, k, none⟩ = some (.slice (some ⟨gu, 0, none⟩) 64 capu) ∧ Y.heap[b12]? = some (.cells Z8 36 (0, 0)) ∧ wr.heap.size ≤ b12) ⟨fc.alloc _, x8.keepF ((Frm.refl [] _).alloc _), ((Frm.refl [] _).alloc _).cell d2 (by simp), heap_alloc_at hb12.symm, by have := fc.size; omega⟩ ?_
                clear hb12 fc x8 d2
                rintro Y2 ⟨fc, x8, d2, z12, q12⟩
                refine wpAny_ready (rs := [10]) (by kernel_rfl) (by simp) ?_
                refine AllReady.cons (o := { dst := none, op := Op.store 36 (Operand.tmp 12) (Operand.tmp 69), type := 0, pos := "outright.go:58", after := #[{ on := 9, ground := Ground.data }, { on := 7, ground := Ground.data }, { on := 5, ground := Ground.chain }, { on := 0, ground := Ground.phase }, { on := 1, ground := Ground.phase }, { on := 2, ground := Ground.phase }, { on := 3, ground := Ground.phase }, { on := 4, ground := Ground.phase }, { on := 5, ground := Ground.phase }, { on := 6, ground := Ground.phase }, { on := 7, ground := Ground.phase }, { on := 8, ground := Ground.textOnly Departure.lateStores }, { on := 9, ground := Ground.phase }], guard := none }) rfl (fun K hK => ?_) ?_
                · rw [if_pos (by rfl)]
                  refine wp_store_row 36 (.tmp 12) (.tmp 69) rfl b12 (W32 y.l).toArray rfl rfl 36 _ z12 (by rw [W32_sz]; exact i36) (by rw [W32_sz]; rfl) (W32_one _) ?_
                  refine hK _ _ ?_
                  clear hK K
                  try simp only [Act.put, List.setIfInBounds_toArray, List.set_cons_zero, List.set_cons_succ]
                  have hne : b8 ≠ b12 := by have h1 := lt_heap H.out; omega
                  refine at_world (p := fun W => wpAny _ _ _ _ _ _ _ W) (R := fun Y => Frm [] wr Y ∧ IsW Y b8 36 x.l ∧ Y.cell? ⟨g, k, none⟩ = some (.slice (some ⟨gu, 0, none⟩) 64 capu) ∧ IsW Y b12 36 y.l) ⟨fc.setRow _ _ (.inr q12), ((Frm.refl [b12] _).setRow _ _ (.inl (by simp))).heap x8 (by simpa using hne), ((Frm.refl [b12] _).setRow _ _ (.inl (by simp))).cell d2 (by have h1 := World.block_lt_of_cell? _ _ D2.out; simp at h1 ⊢; omega), setRow_heap _ _ _ _ _ _ z12⟩ ?_
                  clear fc x8 d2 z12
                  rintro Z0 ⟨fc, x8, d2, y12⟩
                  refine wpAny_take (i := 11) (oi := { dst := some 13, op := Op.assign (Operand.tmp 70), type := 37, pos := "outright.go:58", after := #[{ on := 8, ground := Ground.data }, { on := 10, ground := Ground.chain }, { on := 0, ground := Ground.phase }, { on := 1, ground := Ground.phase }, { on := 2, ground := Ground.phase }, { on := 3, ground := Ground.phase }, { on := 4, ground := Ground.phase }, { on := 5, ground := Ground.phase }, { on := 6, ground := Ground.phase }, { on := 7, ground := Ground.phase }, { on := 8, ground := Ground.phase }, { on := 9, ground := Ground.phase }, { on := 10, ground := Ground.phase }], guard := none }) (v := ?_) rfl (by kernel_rfl) (by kernel_rfl) (by kernel_rfl) (fun _ _ _ h => h) (Or.inl ⟨by rfl, ?_⟩) ?_
                  rotate_left
                  focus (intro w; go_simp; try with_reducible rfl)
                  try simp only [Act.put, List.setIfInBounds_toArray, List.set_cons_zero, List.set_cons_succ]
                  refine wpAny_done (by kernel_rfl) ?_ _
                  have FC := Lib.hid fc
                  have X8 := Lib.hid x8
                  have D3 := Lib.hid d2
                  have Y12 := Lib.hid y12
                  have HNE := Lib.hid hne
                  have Q12 := Lib.hid q12
                  clear fc x8 d2 y12 hne q12
                  go_upto_region 20 with (fail)
                  refine wp_region_lit ?_
                  refine wpList_load_row rfl 36 (.tmp 12) rfl b12 rfl 36 (W32 y.l).toArray (0, 0) _ Y12.out d36 rfl (by rw [W32_sz]; exact i36) ?_
                  refine wpList_store_row rfl 36 (.tmp 8) (.tmp 73) rfl b8 (W32 y.l).toArray rfl rfl 36 _ X8.out (by rw [W32_sz]; exact i36) (by rw [W32_sz, W32_sz]) (W32_one _) ?_
                  refine wpList_nil ?_
                  refine at_world (p := fun W => Exit.then _ _ _ _ W) (R := fun Y => Frm [b8] wr Y ∧ IsW Y b8 36 y.l ∧ Y.cell? ⟨g, k, none⟩ = some (.slice (some ⟨gu, 0, none⟩) 64 capu)) ⟨(FC.out.mono (by simp)).setRow _ _ (.inl (by simp)), setRow_heap _ _ _ _ _ _ X8.out, ((Frm.refl [b8] _).setRow _ _ (.inl (by simp))).cell D3.out (by have h := HGB.out; simpa using h)⟩ ?_
                  clear X8 D3 Y12 FC
                  rintro V0 ⟨fc, x8, d2⟩
                  have FC := Lib.hid fc
                  have X8 := Lib.hid x8
                  clear fc x8
                  have OC := Lib.hid (O7.out.keep FC.out (fun i hi h => by have h1 := N7.out i hi; have h2 := ZB.out; simp at h; omega))
                  have SC := Lib.hid (O2.out.sl.keep FC.out (by have h := HUB.out; simpa [blk] using h))
                  have JL := Lib.hid (show (joinK (filled l) k).length + (pieceL (filled l) k).length = (joinK (filled l) (k + 1)).length by rw [HJS.out, List.length_append])
                  have BD := Lib.hid (show (joinK (filled l) k).length + (pieceL (filled l) k).length ≤ 140737488355328 by have h1 := joinK_len (filled l) k; have h2 := HPL.out; have h3 := hlt; have h4 := HPC.out; omega)
                  go_wp2_with (at_builtin; refine wpList_append_bytes BT OC.out SC.out BD.out rfl (.tmp 74) (.tmp 78) rfl rfl rfl ?_; intro a4 cap4 w4 sp4 o4 f4 n4)
                  rw [JL.out] at o4 n4 ⊢
                  rw [← HJS.out] at o4
                  have hnew : PieRel w5 (filled l) (pcs l.length) b8 (.slice a4 (joinK (filled l) (k + 1)).length cap4) (.int .i64 ((k : Int) + 1)) w4 := ⟨k + 1, by omega, by go_num, ⟨_, _, sp4, rfl, o4, fun i hi => by
                    rcases n4 i hi with h | h
                    · exact N7.out i h
                    · have h1 := FC.out.size; have h2 := F.out.size; omega⟩, by rw [HTS.out]; exact f4.heap X8.out (fun h => by have h1 := N7.out _ h; have h2 := ZB.out; omega), (F.out.trans FC.out (by simp)).trans f4 (fun i hi => .inr (N7.out i hi))⟩
                  have HNW := Lib.hid hnew
                  have KP := Lib.hid hlt
                  clear hnew o4 f4 n4 d2
                  go_wp2_with fail
                  go_roundw
                  case rel => exact HNW.out
                  case measure => have := KP.out; simp [intOf]; omega
                exact AllReady.nil
              exact AllReady.nil
            refine AllReady.cons (o := { dst := some 12, op := Op.alloc 36, type := 0, pos := "outright.go:58", after := #[], guard := none }) rfl (fun K hK => ?_) ?_
            · go_simp
              refine hK _ _ ?_
              clear hK K
              obtain ⟨b12, hb12⟩ : ∃ b12, Y0.heap.size = b12 := ⟨_, rfl⟩
              rw [hb12]
              refine at_world (p := fun W => wpAny _ _ _ _ _ _ _ W) (R := fun Y => Frm [] wr Y ∧ IsW Y b8 36 x.l ∧ Y.cell? ⟨g, k, none⟩ = some (.slice (some ⟨gu, 0, none⟩) 64 capu) ∧ Y.heap[b12]? = some (.cells Z8 36 (0, 0)) ∧ wr.heap.size ≤ b12) ⟨fc.alloc _, x8.keepF ((Frm.refl [] _).alloc _), ((Frm.refl [] _).alloc _).cell d2 (by simp), heap_alloc_at hb12.symm, by have := fc.size; omega⟩ ?_
              clear hb12 fc x8 d2
              rintro Y3 ⟨fc, x8, d2, z12, q12⟩
              refine wpAny_ready (rs := [5]) (by kernel_rfl) (by simp) ?_
              refine AllReady.cons (o := { dst := some 68, op := Op.call { callee := Callee.value (Operand.func 19), args := #[Operand.tmp 63, Operand.tmp 67], argTypes := #[36, 22] }, type := 38, pos := "outright.go:58", after := #[{ on := 0, ground := Ground.data }, { on := 4, ground := Ground.data }], guard := none }) rfl (fun K hK => ?_) ?_
              · go_simp
                refine (HC.out _ fc).mono ?_
                rintro r w9 ⟨rfl, f9⟩
                have x8 := x8.keepF f9
                have d2 := f9.cell d2 (by simp)
                have fc := fc.trans f9 (by simp)
                have z12 := f9.heap z12 (by simp)
                clear f9
                refine hK _ _ ?_
                clear hK K
                try simp only [Act.put, List.setIfInBounds_toArray, List.set_cons_zero, List.set_cons_succ]
                refine wpAny_take (i := 6) (oi := { dst := some 62, op := Op.move (Operand.tmp 68), type := 38, pos := "outright.go:58", after := #[{ on := 5, ground := Ground.data }], guard := none }) (v := ?_) rfl (by kernel_rfl) (by kernel_rfl) (by kernel_rfl) (fun _ _ _ h => h) (Or.inl ⟨by rfl, ?_⟩) ?_
                rotate_left
                focus (intro w; go_simp; try with_reducible rfl)
                try simp only [Act.put, List.setIfInBounds_toArray, List.set_cons_zero, List.set_cons_succ]
                refine wpAny_take (i := 7) (oi := { dst := some 69, op := Op.extract (Operand.tmp 62) 0, type := 36, pos := "outright.go:58", after := #[{ on := 6, ground := Ground.data }], guard := none }) (v := ?_) rfl (by kernel_rfl) (by kernel_rfl) (by kernel_rfl) (fun _ _ _ h => h) (Or.inl ⟨by rfl, ?_⟩) ?_
                rotate_left
                focus (intro w; go_simp; try with_reducible rfl)
                try simp only [Act.put, List.setIfInBounds_toArray, List.set_cons_zero, List.set_cons_succ]
                refine wpAny_take (i := 8) (oi := { dst := some 70, op := Op.extract (Operand.tmp 62) 1, type := 37, pos := "outright.go:58", after := #[{ on := 6, ground := Ground.data }, { on := 10, ground := Ground.gcOnly Departure.lateStores }], guard := none }) (v := ?_) rfl (by kernel_rfl) (by kernel_rfl) (by kernel_rfl) (fun _ _ _ h => h) (Or.inl ⟨by rfl, ?_⟩) ?_
                rotate_left
                focus (intro w; go_simp; try with_reducible rfl)
                try simp only [Act.put, List.setIfInBounds_toArray, List.set_cons_zero, List.set_cons_succ]
                refine wpAny_ready (rs := [10]) (by kernel_rfl) (by simp) ?_
                refine AllReady.cons (o := { dst := none, op := Op.store 36 (Operand.tmp 12) (Operand.tmp 69), type := 0, pos := "outright.go:58", after := #[{ on := 9, ground := Ground.data }, { on := 7, ground := Ground.data }, { on := 5, ground := Ground.chain }, { on := 0, ground := Ground.phase }, { on := 1, ground := Ground.phase }, { on := 2, ground := Ground.phase }, { on := 3, ground := Ground.phase }, { on := 4, ground := Ground.phase }, { on := 5, ground := Ground.phase }, { on := 6, ground := Ground.phase }, { on := 7, ground := Ground.phase }, { on := 8, ground := Ground.textOnly Departure.lateStores }, { on := 9, ground := Ground.phase }], guard := none }) rfl (fun K hK => ?_) ?_
                · rw [if_pos (by rfl)]
                  refine wp_store_row 36 (.tmp 12) (.tmp 69) rfl b12 (W32 y.l).toArray rfl rfl 36 _ z12 (by rw [W32_sz]; exact i36) (by rw [W32_sz]; rfl) (W32_one _) ?_
                  refine hK _ _ ?_
                  clear hK K
                  try simp only [Act.put, List.setIfInBounds_toArray, List.set_cons_zero, List.set_cons_succ]
                  have hne : b8 ≠ b12 := by have h1 := lt_heap H.out; omega
                  refine at_world (p := fun W => wpAny _ _ _ _ _ _ _ W) (R := fun Y => Frm [] wr Y ∧ IsW Y b8 36 x.l ∧ Y.cell? ⟨g, k, none⟩ = some (.slice (some ⟨gu, 0, none⟩) 64 capu) ∧ IsW Y b12 36 y.l) ⟨fc.setRow _ _ (.inr q12), ((Frm.refl [b12] _).setRow _ _ (.inl (by simp))).heap x8 (by simpa using hne), ((Frm.refl [b12] _).setRow _ _ (.inl (by simp))).cell d2 (by have h1 := World.block_lt_of_cell? _ _ D2.out; simp at h1 ⊢; omega), setRow_heap _ _ _ _ _ _ z12⟩ ?_
                  clear fc x8 d2 z12
                  rintro Z0 ⟨fc, x8, d2, y12⟩
                  refine wpAny_take (i := 11) (oi := { dst := some 13, op := Op.assign (Operand.tmp 70), type := 37, pos := "outright.go:58", after := #[{ on := 8, ground := Ground.data }, { on := 10, ground := Ground.chain }, { on := 0, ground := Ground.phase }, { on := 1, ground := Ground.phase }, { on := 2, ground := Ground.phase }, { on := 3, ground := Ground.phase }, { on := 4, ground := Ground.phase }, { on := 5, ground := Ground.phase }, { on := 6, ground := Ground.phase }, { on := 7, ground := Ground.phase }, { on := 8, ground := Ground.phase }, { on := 9, ground := Ground.phase }, { on := 10, ground := Ground.phase }], guard := none }) (v := ?_) rfl (by kernel_rfl) (by kernel_rfl) (by kernel_rfl) (fun _ _ _ h => h) (Or.inl ⟨by rfl, ?_⟩) ?_
                  rotate_left
                  focus (intro w; go_simp; try with_reducible rfl)
                  try simp only [Act.put, List.setIfInBounds_toArray, List.set_cons_zero, List.set_cons_succ]
                  refine wpAny_done (by kernel_rfl) ?_ _
                  have FC := Lib.hid fc
                  have X8 := Lib.hid x8
                  have D3 := Lib.hid d2
                  have Y12 := Lib.hid y12
                  have HNE := Lib.hid hne
                  have Q12 := Lib.hid q12
                  clear fc x8 d2 y12 hne q12
                  go_upto_region 20 with (fail)
                  refine wp_region_lit ?_
                  refine wpList_load_row rfl 36 (.tmp 12) rfl b12 rfl 36 (W32 y.l).toArray (0, 0) _ Y12.out d36 rfl (by rw [W32_sz]; exact i36) ?_
                  refine wpList_store_row rfl 36 (.tmp 8) (.tmp 73) rfl b8 (W32 y.l).toArray rfl rfl 36 _ X8.out (by rw [W32_sz]; exact i36) (by rw [W32_sz, W32_sz]) (W32_one _) ?_
                  refine wpList_nil ?_
                  refine at_world (p := fun W => Exit.then _ _ _ _ W) (R := fun Y => Frm [b8] wr Y ∧ IsW Y b8 36 y.l ∧ Y.cell? ⟨g, k, none⟩ = some (.slice (some ⟨gu, 0, none⟩) 64 capu)) ⟨(FC.out.mono (by simp)).setRow _ _ (.inl (by simp)), setRow_heap _ _ _ _ _ _ X8.out, ((Frm.refl [b8] _).setRow _ _ (.inl (by simp))).cell D3.out (by have h := HGB.out; simpa using h)⟩ ?_
                  clear X8 D3 Y12 FC
                  rintro V0 ⟨fc, x8, d2⟩
                  have FC := Lib.hid fc
                  have X8 := Lib.hid x8
                  clear fc x8
                  have OC := Lib.hid (O7.out.keep FC.out (fun i hi h => by have h1 := N7.out i hi; have h2 := ZB.out; simp at h; omega))
                  have SC := Lib.hid (O2.out.sl.keep FC.out (by have h := HUB.out; simpa [blk] using h))
                  have JL := Lib.hid (show (joinK (filled l) k).length + (pieceL (filled l) k).length = (joinK (filled l) (k + 1)).length by rw [HJS.out, List.length_append])
                  have BD := Lib.hid (show (joinK (filled l) k).length + (pieceL (filled l) k).length ≤ 140737488355328 by have h1 := joinK_len (filled l) k; have h2 := HPL.out; have h3 := hlt; have h4 := HPC.out; omega)
                  go_wp2_with (at_builtin; refine wpList_append_bytes BT OC.out SC.out BD.out rfl (.tmp 74) (.tmp 78) rfl rfl rfl ?_; intro a4 cap4 w4 sp4 o4 f4 n4)
                  rw [JL.out] at o4 n4 ⊢
                  rw [← HJS.out] at o4
                  have hnew : PieRel w5 (filled l) (pcs l.length) b8 (.slice a4 (joinK (filled l) (k + 1)).length cap4) (.int .i64 ((k : Int) + 1)) w4 := ⟨k + 1, by omega, by go_num, ⟨_, _, sp4, rfl, o4, fun i hi => by
                    rcases n4 i hi with h | h
                    · exact N7.out i h
                    · have h1 := FC.out.size; have h2 := F.out.size; omega⟩, by rw [HTS.out]; exact f4.heap X8.out (fun h => by have h1 := N7.out _ h; have h2 := ZB.out; omega), (F.out.trans FC.out (by simp)).trans f4 (fun i hi => .inr (N7.out i hi))⟩
                  have HNW := Lib.hid hnew
                  have KP := Lib.hid hlt
                  clear hnew o4 f4 n4 d2
                  go_wp2_with fail
                  go_roundw
                  case rel => exact HNW.out
                  case measure => have := KP.out; simp [intOf]; omega
                exact AllReady.nil
              exact AllReady.nil
            exact AllReady.nil
          refine AllReady.cons (o := { dst := some 12, op := Op.alloc 36, type := 0, pos := "outright.go:58", after := #[], guard := none }) rfl (fun K hK => ?_) ?_
          · go_simp
            refine hK _ _ ?_
            clear hK K
            obtain ⟨b12, hb12⟩ : ∃ b12, Y0.heap.size = b12 := ⟨_, rfl⟩
            rw [hb12]
            refine at_world (p := fun W => wpAny _ _ _ _ _ _ _ W) (R := fun Y => Frm [] wr Y ∧ IsW Y b8 36 x.l ∧ Y.cell? ⟨g, k, none⟩ = some (.slice (some ⟨gu, 0, none⟩) 64 capu) ∧ Y.heap[b12]? = some (.cells Z8 36 (0, 0)) ∧ wr.heap.size ≤ b12) ⟨fc.alloc _, x8.keepF ((Frm.refl [] _).alloc _), ((Frm.refl [] _).alloc _).cell d2 (by simp), heap_alloc_at hb12.symm, by have := fc.size; omega⟩ ?_
            clear hb12 fc x8 d2
            rintro Y5 ⟨fc, x8, d2, z12, q12⟩
            refine wpAny_ready (rs := [4]) (by kernel_rfl) (by simp) ?_
            refine AllReady.cons (o := { dst := some 67, op := Op.load 22 (Operand.tmp 66), type := 22, pos := "outright.go:58", after := #[{ on := 3, ground := Ground.data }], guard := none }) rfl (fun K hK => ?_) ?_
            · go_simp
              refine hK _ _ ?_
              clear hK K
              refine wpAny_ready (rs := [5]) (by kernel_rfl) (by simp) ?_
              refine AllReady.cons (o := { dst := some 68, op := Op.call { callee := Callee.value (Operand.func 19), args := #[Operand.tmp 63, Operand.tmp 67], argTypes := #[36, 22] }, type := 38, pos := "outright.go:58", after := #[{ on := 0, ground := Ground.data }, { on := 4, ground := Ground.data }], guard := none }) rfl (fun K hK => ?_) ?_
              · go_simp
                refine (HC.out _ fc).mono ?_
                rintro r w9 ⟨rfl, f9⟩
                have x8 := x8.keepF f9
                have d2 := f9.cell d2 (by simp)
                have fc := fc.trans f9 (by simp)
                have z12 := f9.heap z12 (by simp)
                clear f9
                refine hK _ _ ?_
                clear hK K
                try simp only [Act.put, List.setIfInBounds_toArray, List.set_cons_zero, List.set_cons_succ]
                refine wpAny_take (i := 6) (oi := { dst := some 62, op := Op.move (Operand.tmp 68), type := 38, pos := "outright.go:58", after := #[{ on := 5, ground := Ground.data }], guard := none }) (v := ?_) rfl (by kernel_rfl) (by kernel_rfl) (by kernel_rfl) (fun _ _ _ h => h) (Or.inl ⟨by rfl, ?_⟩) ?_
                rotate_left
                focus (intro w; go_simp; try with_reducible rfl)
                try simp only [Act.put, List.setIfInBounds_toArray, List.set_cons_zero, List.set_cons_succ]
                refine wpAny_take (i := 7) (oi := { dst := some 69, op := Op.extract (Operand.tmp 62) 0, type := 36, pos := "outright.go:58", after := #[{ on := 6, ground := Ground.data }], guard := none }) (v := ?_) rfl (by kernel_rfl) (by kernel_rfl) (by kernel_rfl) (fun _ _ _ h => h) (Or.inl ⟨by rfl, ?_⟩) ?_
                rotate_left
                focus (intro w; go_simp; try with_reducible rfl)
                try simp only [Act.put, List.setIfInBounds_toArray, List.set_cons_zero, List.set_cons_succ]
                refine wpAny_take (i := 8) (oi := { dst := some 70, op := Op.extract (Operand.tmp 62) 1, type := 37, pos := "outright.go:58", after := #[{ on := 6, ground := Ground.data }, { on := 10, ground := Ground.gcOnly Departure.lateStores }], guard := none }) (v := ?_) rfl (by kernel_rfl) (by kernel_rfl) (by kernel_rfl) (fun _ _ _ h => h) (Or.inl ⟨by rfl, ?_⟩) ?_
                rotate_left
                focus (intro w; go_simp; try with_reducible rfl)
                try simp only [Act.put, List.setIfInBounds_toArray, List.set_cons_zero, List.set_cons_succ]
                refine wpAny_ready (rs := [10]) (by kernel_rfl) (by simp) ?_
                refine AllReady.cons (o := { dst := none, op := Op.store 36 (Operand.tmp 12) (Operand.tmp 69), type := 0, pos := "outright.go:58", after := #[{ on := 9, ground := Ground.data }, { on := 7, ground := Ground.data }, { on := 5, ground := Ground.chain }, { on := 0, ground := Ground.phase }, { on := 1, ground := Ground.phase }, { on := 2, ground := Ground.phase }, { on := 3, ground := Ground.phase }, { on := 4, ground := Ground.phase }, { on := 5, ground := Ground.phase }, { on := 6, ground := Ground.phase }, { on := 7, ground := Ground.phase }, { on := 8, ground := Ground.textOnly Departure.lateStores }, { on := 9, ground := Ground.phase }], guard := none }) rfl (fun K hK => ?_) ?_
                · rw [if_pos (by rfl)]
                  refine wp_store_row 36 (.tmp 12) (.tmp 69) rfl b12 (W32 y.l).toArray rfl rfl 36 _ z12 (by rw [W32_sz]; exact i36) (by rw [W32_sz]; rfl) (W32_one _) ?_
                  refine hK _ _ ?_
                  clear hK K
                  try simp only [Act.put, List.setIfInBounds_toArray, List.set_cons_zero, List.set_cons_succ]
                  have hne : b8 ≠ b12 := by have h1 := lt_heap H.out; omega
                  refine at_world (p := fun W => wpAny _ _ _ _ _ _ _ W) (R := fun Y => Frm [] wr Y ∧ IsW Y b8 36 x.l ∧ Y.cell? ⟨g, k, none⟩ = some (.slice (some ⟨gu, 0, none⟩) 64 capu) ∧ IsW Y b12 36 y.l) ⟨fc.setRow _ _ (.inr q12), ((Frm.refl [b12] _).setRow _ _ (.inl (by simp))).heap x8 (by simpa using hne), ((Frm.refl [b12] _).setRow _ _ (.inl (by simp))).cell d2 (by have h1 := World.block_lt_of_cell? _ _ D2.out; simp at h1 ⊢; omega), setRow_heap _ _ _ _ _ _ z12⟩ ?_
                  clear fc x8 d2 z12
                  rintro Z0 ⟨fc, x8, d2, y12⟩
                  refine wpAny_take (i := 11) (oi := { dst := some 13, op := Op.assign (Operand.tmp 70), type := 37, pos := "outright.go:58", after := #[{ on := 8, ground := Ground.data }, { on := 10, ground := Ground.chain }, { on := 0, ground := Ground.phase }, { on := 1, ground := Ground.phase }, { on := 2, ground := Ground.phase }, { on := 3, ground := Ground.phase }, { on := 4, ground := Ground.phase }, { on := 5, ground := Ground.phase }, { on := 6, ground := Ground.phase }, { on := 7, ground := Ground.phase }, { on := 8, ground := Ground.phase }, { on := 9, ground := Ground.phase }, { on := 10, ground := Ground.phase }], guard := none }) (v := ?_) rfl (by kernel_rfl) (by kernel_rfl) (by kernel_rfl) (fun _ _ _ h => h) (Or.inl ⟨by rfl, ?_⟩) ?_
                  rotate_left
                  focus (intro w; go_simp; try with_reducible rfl)
                  try simp only [Act.put, List.setIfInBounds_toArray, List.set_cons_zero, List.set_cons_succ]
                  refine wpAny_done (by kernel_rfl) ?_ _
                  have FC := Lib.hid fc
                  have X8 := Lib.hid x8
                  have D3 := Lib.hid d2
                  have Y12 := Lib.hid y12
                  have HNE := Lib.hid hne
                  have Q12 := Lib.hid q12
                  clear fc x8 d2 y12 hne q12
                  go_upto_region 20 with (fail)
                  refine wp_region_lit ?_
                  refine wpList_load_row rfl 36 (.tmp 12) rfl b12 rfl 36 (W32 y.l).toArray (0, 0) _ Y12.out d36 rfl (by rw [W32_sz]; exact i36) ?_
                  refine wpList_store_row rfl 36 (.tmp 8) (.tmp 73) rfl b8 (W32 y.l).toArray rfl rfl 36 _ X8.out (by rw [W32_sz]; exact i36) (by rw [W32_sz, W32_sz]) (W32_one _) ?_
                  refine wpList_nil ?_
                  refine at_world (p := fun W => Exit.then _ _ _ _ W) (R := fun Y => Frm [b8] wr Y ∧ IsW Y b8 36 y.l ∧ Y.cell? ⟨g, k, none⟩ = some (.slice (some ⟨gu, 0, none⟩) 64 capu)) ⟨(FC.out.mono (by simp)).setRow _ _ (.inl (by simp)), setRow_heap _ _ _ _ _ _ X8.out, ((Frm.refl [b8] _).setRow _ _ (.inl (by simp))).cell D3.out (by have h := HGB.out; simpa using h)⟩ ?_
                  clear X8 D3 Y12 FC
                  rintro V0 ⟨fc, x8, d2⟩
                  have FC := Lib.hid fc
                  have X8 := Lib.hid x8
                  clear fc x8
                  have OC := Lib.hid (O7.out.keep FC.out (fun i hi h => by have h1 := N7.out i hi; have h2 := ZB.out; simp at h; omega))
                  have SC := Lib.hid (O2.out.sl.keep FC.out (by have h := HUB.out; simpa [blk] using h))
                  have JL := Lib.hid (show (joinK (filled l) k).length + (pieceL (filled l) k).length = (joinK (filled l) (k + 1)).length by rw [HJS.out, List.length_append])
                  have BD := Lib.hid (show (joinK (filled l) k).length + (pieceL (filled l) k).length ≤ 140737488355328 by have h1 := joinK_len (filled l) k; have h2 := HPL.out; have h3 := hlt; have h4 := HPC.out; omega)
                  go_wp2_with (at_builtin; refine wpList_append_bytes BT OC.out SC.out BD.out rfl (.tmp 74) (.tmp 78) rfl rfl rfl ?_; intro a4 cap4 w4 sp4 o4 f4 n4)
                  rw [JL.out] at o4 n4 ⊢
                  rw [← HJS.out] at o4
                  have hnew : PieRel w5 (filled l) (pcs l.length) b8 (.slice a4 (joinK (filled l) (k + 1)).length cap4) (.int .i64 ((k : Int) + 1)) w4 := ⟨k + 1, by omega, by go_num, ⟨_, _, sp4, rfl, o4, fun i hi => by
                    rcases n4 i hi with h | h
                    · exact N7.out i h
                    · have h1 := FC.out.size; have h2 := F.out.size; omega⟩, by rw [HTS.out]; exact f4.heap X8.out (fun h => by have h1 := N7.out _ h; have h2 := ZB.out; omega), (F.out.trans FC.out (by simp)).trans f4 (fun i hi => .inr (N7.out i hi))⟩
                  have HNW := Lib.hid hnew
                  have KP := Lib.hid hlt
                  clear hnew o4 f4 n4 d2
                  go_wp2_with fail
                  go_roundw
                  case rel => exact HNW.out
                  case measure => have := KP.out; simp [intOf]; omega
                exact AllReady.nil
              exact AllReady.nil
            exact AllReady.nil
          exact AllReady.nil
        refine AllReady.cons (o := { dst := some 67, op := Op.load 22 (Operand.tmp 66), type := 22, pos := "outright.go:58", after := #[{ on := 3, ground := Ground.data }], guard := none }) rfl (fun K hK => ?_) ?_
        · go_simp
          refine hK _ _ ?_
          clear hK K
          refine wpAny_ready (rs := [0, 9]) (by kernel_rfl) (by simp) ?_
          refine AllReady.cons (o := { dst := some 63, op := Op.load 36 (Operand.tmp 8), type := 36, pos := "outright.go:58", after := #[], guard := none }) rfl (fun K hK => ?_) ?_
          · rw [if_pos (by rfl)]
            refine wp_load_row 36 (.tmp 8) rfl b8 rfl 36 (W32 x.l).toArray (0, 0) _ x8 d36 rfl (by rw [W32_sz]; exact i36) ?_
            refine hK _ _ ?_
            clear hK K
            try simp only [Act.put, List.setIfInBounds_toArray, List.set_cons_zero, List.set_cons_succ]
            refine wpAny_ready (rs := [5, 9]) (by kernel_rfl) (by simp) ?_
            refine AllReady.cons (o := { dst := some 68, op := Op.call { callee := Callee.value (Operand.func 19), args := #[Operand.tmp 63, Operand.tmp 67], argTypes := #[36, 22] }, type := 38, pos := "outright.go:58", after := #[{ on := 0, ground := Ground.data }, { on := 4, ground := Ground.data }], guard := none }) rfl (fun K hK => ?_) ?_
            · go_simp
              refine (HC.out _ fc).mono ?_
              rintro r w9 ⟨rfl, f9⟩
              have x8 := x8.keepF f9
              have d2 := f9.cell d2 (by simp)
              have fc := fc.trans f9 (by simp)
              clear f9
              refine hK _ _ ?_
              clear hK K
              try simp only [Act.put, List.setIfInBounds_toArray, List.set_cons_zero, List.set_cons_succ]
              refine wpAny_take (i := 6) (oi := { dst := some 62, op := Op.move (Operand.tmp 68), type := 38, pos := "outright.go:58", after := #[{ on := 5, ground := Ground.data }], guard := none }) (v := ?_) rfl (by kernel_rfl) (by kernel_rfl) (by kernel_rfl) (fun _ _ _ h => h) (Or.inl ⟨by rfl, ?_⟩) ?_
              rotate_left
              focus (intro w; go_simp; try with_reducible rfl)
              try simp only [Act.put, List.setIfInBounds_toArray, List.set_cons_zero, List.set_cons_succ]
              refine wpAny_take (i := 7) (oi := { dst := some 69, op := Op.extract (Operand.tmp 62) 0, type := 36, pos := "outright.go:58", after := #[{ on := 6, ground := Ground.data }], guard := none }) (v := ?_) rfl (by kernel_rfl) (by kernel_rfl) (by kernel_rfl) (fun _ _ _ h => h) (Or.inl ⟨by rfl, ?_⟩) ?_
              rotate_left
              focus (intro w; go_simp; try with_reducible rfl)
              try simp only [Act.put, List.setIfInBounds_toArray, List.set_cons_zero, List.set_cons_succ]
              refine wpAny_take (i := 8) (oi := { dst := some 70, op := Op.extract (Operand.tmp 62) 1, type := 37, pos := "outright.go:58", after := #[{ on := 6, ground := Ground.data }, { on := 10, ground := Ground.gcOnly Departure.lateStores }], guard := none }) (v := ?_) rfl (by kernel_rfl) (by kernel_rfl) (by kernel_rfl) (fun _ _ _ h => h) (Or.inl ⟨by rfl, ?_⟩) ?_
              rotate_left
              focus (intro w; go_simp; try with_reducible rfl)
              try simp only [Act.put, List.setIfInBounds_toArray, List.set_cons_zero, List.set_cons_succ]
              refine wpAny_ready (rs := [9]) (by kernel_rfl) (by simp) ?_
              refine AllReady.cons (o := { dst := some 12, op := Op.alloc 36, type := 0, pos := "outright.go:58", after := #[], guard := none }) rfl (fun K hK => ?_) ?_
              · go_simp
                refine hK _ _ ?_
                clear hK K
                obtain ⟨b12, hb12⟩ : ∃ b12, w9.heap.size = b12 := ⟨_, rfl⟩
                rw [hb12]
                refine at_world (p := fun W => wpAny _ _ _ _ _ _ _ W) (R := fun Y => Frm [] wr Y ∧ IsW Y b8 36 x.l ∧ Y.cell? ⟨g, k, none⟩ = some (.slice (some ⟨gu, 0, none⟩) 64 capu) ∧ Y.heap[b12]? = some (.cells Z8 36 (0, 0)) ∧ wr.heap.size ≤ b12) ⟨fc.alloc _, x8.keepF ((Frm.refl [] _).alloc _), ((Frm.refl [] _).alloc _).cell d2 (by simp), heap_alloc_at hb12.symm, by have := fc.size; omega⟩ ?_
                clear hb12 fc x8 d2
                rintro Y8 ⟨fc, x8, d2, z12, q12⟩
                refine wpAny_ready (rs := [10]) (by kernel_rfl) (by simp) ?_
                refine AllReady.cons (o := { dst := none, op := Op.store 36 (Operand.tmp 12) (Operand.tmp 69), type := 0, pos := "outright.go:58", after := #[{ on := 9, ground := Ground.data }, { on := 7, ground := Ground.data }, { on := 5, ground := Ground.chain }, { on := 0, ground := Ground.phase }, { on := 1, ground := Ground.phase }, { on := 2, ground := Ground.phase }, { on := 3, ground := Ground.phase }, { on := 4, ground := Ground.phase }, { on := 5, ground := Ground.phase }, { on := 6, ground := Ground.phase }, { on := 7, ground := Ground.phase }, { on := 8, ground := Ground.textOnly Departure.lateStores }, { on := 9, ground := Ground.phase }], guard := none }) rfl (fun K hK => ?_) ?_
                · rw [if_pos (by rfl)]
                  refine wp_store_row 36 (.tmp 12) (.tmp 69) rfl b12 (W32 y.l).toArray rfl rfl 36 _ z12 (by rw [W32_sz]; exact i36) (by rw [W32_sz]; rfl) (W32_one _) ?_
                  refine hK _ _ ?_
                  clear hK K
                  try simp only [Act.put, List.setIfInBounds_toArray, List.set_cons_zero, List.set_cons_succ]
                  have hne : b8 ≠ b12 := by have h1 := lt_heap H.out; omega
                  refine at_world (p := fun W => wpAny _ _ _ _ _ _ _ W) (R := fun Y => Frm [] wr Y ∧ IsW Y b8 36 x.l ∧ Y.cell? ⟨g, k, none⟩ = some (.slice (some ⟨gu, 0, none⟩) 64 capu) ∧ IsW Y b12 36 y.l) ⟨fc.setRow _ _ (.inr q12), ((Frm.refl [b12] _).setRow _ _ (.inl (by simp))).heap x8 (by simpa using hne), ((Frm.refl [b12] _).setRow _ _ (.inl (by simp))).cell d2 (by have h1 := World.block_lt_of_cell? _ _ D2.out; simp at h1 ⊢; omega), setRow_heap _ _ _ _ _ _ z12⟩ ?_
                  clear fc x8 d2 z12
                  rintro Z0 ⟨fc, x8, d2, y12⟩
                  refine wpAny_take (i := 11) (oi := { dst := some 13, op := Op.assign (Operand.tmp 70), type := 37, pos := "outright.go:58", after := #[{ on := 8, ground := Ground.data }, { on := 10, ground := Ground.chain }, { on := 0, ground := Ground.phase }, { on := 1, ground := Ground.phase }, { on := 2, ground := Ground.phase }, { on := 3, ground := Ground.phase }, { on := 4, ground := Ground.phase }, { on := 5, ground := Ground.phase }, { on := 6, ground := Ground.phase }, { on := 7, ground := Ground.phase }, { on := 8, ground := Ground.phase }, { on := 9, ground := Ground.phase }, { on := 10, ground := Ground.phase }], guard := none }) (v := ?_) rfl (by kernel_rfl) (by kernel_rfl) (by kernel_rfl) (fun _ _ _ h => h) (Or.inl ⟨by rfl, ?_⟩) ?_
                  rotate_left
                  focus (intro w; go_simp; try with_reducible rfl)
                  try simp only [Act.put, List.setIfInBounds_toArray, List.set_cons_zero, List.set_cons_succ]
                  refine wpAny_done (by kernel_rfl) ?_ _
                  have FC := Lib.hid fc
                  have X8 := Lib.hid x8
                  have D3 := Lib.hid d2
                  have Y12 := Lib.hid y12
                  have HNE := Lib.hid hne
                  have Q12 := Lib.hid q12
                  clear fc x8 d2 y12 hne q12
                  go_upto_region 20 with (fail)
                  refine wp_region_lit ?_
                  refine wpList_load_row rfl 36 (.tmp 12) rfl b12 rfl 36 (W32 y.l).toArray (0, 0) _ Y12.out d36 rfl (by rw [W32_sz]; exact i36) ?_
                  refine wpList_store_row rfl 36 (.tmp 8) (.tmp 73) rfl b8 (W32 y.l).toArray rfl rfl 36 _ X8.out (by rw [W32_sz]; exact i36) (by rw [W32_sz, W32_sz]) (W32_one _) ?_
                  refine wpList_nil ?_
                  refine at_world (p := fun W => Exit.then _ _ _ _ W) (R := fun Y => Frm [b8] wr Y ∧ IsW Y b8 36 y.l ∧ Y.cell? ⟨g, k, none⟩ = some (.slice (some ⟨gu, 0, none⟩) 64 capu)) ⟨(FC.out.mono (by simp)).setRow _ _ (.inl (by simp)), setRow_heap _ _ _ _ _ _ X8.out, ((Frm.refl [b8] _).setRow _ _ (.inl (by simp))).cell D3.out (by have h := HGB.out; simpa using h)⟩ ?_
                  clear X8 D3 Y12 FC
                  rintro V0 ⟨fc, x8, d2⟩
                  have FC := Lib.hid fc
                  have X8 := Lib.hid x8
                  clear fc x8
                  have OC := Lib.hid (O7.out.keep FC.out (fun i hi h => by have h1 := N7.out i hi; have h2 := ZB.out; simp at h; omega))
                  have SC := Lib.hid (O2.out.sl.keep FC.out (by have h := HUB.out; simpa [blk] using h))
                  have JL := Lib.hid (show (joinK (filled l) k).length + (pieceL (filled l) k).length = (joinK (filled l) (k + 1)).length by rw [HJS.out, List.length_append])
                  have BD := Lib.hid (show (joinK (filled l) k).length + (pieceL (filled l) k).length ≤ 140737488355328 by have h1 := joinK_len (filled l) k; have h2 := HPL.out; have h3 := hlt; have h4 := HPC.out; omega)
                  go_wp2_with (at_builtin; refine wpList_append_bytes BT OC.out SC.out BD.out rfl (.tmp 74) (.tmp 78) rfl rfl rfl ?_; intro a4 cap4 w4 sp4 o4 f4 n4)
                  rw [JL.out] at o4 n4 ⊢
                  rw [← HJS.out] at o4
                  have hnew : PieRel w5 (filled l) (pcs l.length) b8 (.slice a4 (joinK (filled l) (k + 1)).length cap4) (.int .i64 ((k : Int) + 1)) w4 := ⟨k + 1, by omega, by go_num, ⟨_, _, sp4, rfl, o4, fun i hi => by
                    rcases n4 i hi with h | h
                    · exact N7.out i h
                    · have h1 := FC.out.size; have h2 := F.out.size; omega⟩, by rw [HTS.out]; exact f4.heap X8.out (fun h => by have h1 := N7.out _ h; have h2 := ZB.out; omega), (F.out.trans FC.out (by simp)).trans f4 (fun i hi => .inr (N7.out i hi))⟩
                  have HNW := Lib.hid hnew
                  have KP := Lib.hid hlt
                  clear hnew o4 f4 n4 d2
                  go_wp2_with fail
                  go_roundw
                  case rel => exact HNW.out
                  case measure => have := KP.out; simp [intOf]; omega
                exact AllReady.nil
              exact AllReady.nil
            refine AllReady.cons (o := { dst := some 12, op := Op.alloc 36, type := 0, pos := "outright.go:58", after := #[], guard := none }) rfl (fun K hK => ?_) ?_
            · go_simp
              refine hK _ _ ?_
              clear hK K
              obtain ⟨b12, hb12⟩ : ∃ b12, Y0.heap.size = b12 := ⟨_, rfl⟩
              rw [hb12]
              refine at_world (p := fun W => wpAny _ _ _ _ _ _ _ W) (R := fun Y => Frm [] wr Y ∧ IsW Y b8 36 x.l ∧ Y.cell? ⟨g, k, none⟩ = some (.slice (some ⟨gu, 0, none⟩) 64 capu) ∧ Y.heap[b12]? = some (.cells Z8 36 (0, 0)) ∧ wr.heap.size ≤ b12) ⟨fc.alloc _, x8.keepF ((Frm.refl [] _).alloc _), ((Frm.refl [] _).alloc _).cell d2 (by simp), heap_alloc_at hb12.symm, by have := fc.size; omega⟩ ?_
              clear hb12 fc x8 d2
              rintro Y9 ⟨fc, x8, d2, z12, q12⟩
              refine wpAny_ready (rs := [5]) (by kernel_rfl) (by simp) ?_
              refine AllReady.cons (o := { dst := some 68, op := Op.call { callee := Callee.value (Operand.func 19), args := #[Operand.tmp 63, Operand.tmp 67], argTypes := #[36, 22] }, type := 38, pos := "outright.go:58", after := #[{ on := 0, ground := Ground.data }, { on := 4, ground := Ground.data }], guard := none }) rfl (fun K hK => ?_) ?_
              · go_simp
                refine (HC.out _ fc).mono ?_
                rintro r w9 ⟨rfl, f9⟩
                have x8 := x8.keepF f9
                have d2 := f9.cell d2 (by simp)
                have fc := fc.trans f9 (by simp)
                have z12 := f9.heap z12 (by simp)
                clear f9
                refine hK _ _ ?_
                clear hK K
                try simp only [Act.put, List.setIfInBounds_toArray, List.set_cons_zero, List.set_cons_succ]
                refine wpAny_take (i := 6) (oi := { dst := some 62, op := Op.move (Operand.tmp 68), type := 38, pos := "outright.go:58", after := #[{ on := 5, ground := Ground.data }], guard := none }) (v := ?_) rfl (by kernel_rfl) (by kernel_rfl) (by kernel_rfl) (fun _ _ _ h => h) (Or.inl ⟨by rfl, ?_⟩) ?_
                rotate_left
                focus (intro w; go_simp; try with_reducible rfl)
                try simp only [Act.put, List.setIfInBounds_toArray, List.set_cons_zero, List.set_cons_succ]
                refine wpAny_take (i := 7) (oi := { dst := some 69, op := Op.extract (Operand.tmp 62) 0, type := 36, pos := "outright.go:58", after := #[{ on := 6, ground := Ground.data }], guard := none }) (v := ?_) rfl (by kernel_rfl) (by kernel_rfl) (by kernel_rfl) (fun _ _ _ h => h) (Or.inl ⟨by rfl, ?_⟩) ?_
                rotate_left
                focus (intro w; go_simp; try with_reducible rfl)
                try simp only [Act.put, List.setIfInBounds_toArray, List.set_cons_zero, List.set_cons_succ]
                refine wpAny_take (i := 8) (oi := { dst := some 70, op := Op.extract (Operand.tmp 62) 1, type := 37, pos := "outright.go:58", after := #[{ on := 6, ground := Ground.data }, { on := 10, ground := Ground.gcOnly Departure.lateStores }], guard := none }) (v := ?_) rfl (by kernel_rfl) (by kernel_rfl) (by kernel_rfl) (fun _ _ _ h => h) (Or.inl ⟨by rfl, ?_⟩) ?_
                rotate_left
                focus (intro w; go_simp; try with_reducible rfl)
                try simp only [Act.put, List.setIfInBounds_toArray, List.set_cons_zero, List.set_cons_succ]
                refine wpAny_ready (rs := [10]) (by kernel_rfl) (by simp) ?_
                refine AllReady.cons (o := { dst := none, op := Op.store 36 (Operand.tmp 12) (Operand.tmp 69), type := 0, pos := "outright.go:58", after := #[{ on := 9, ground := Ground.data }, { on := 7, ground := Ground.data }, { on := 5, ground := Ground.chain }, { on := 0, ground := Ground.phase }, { on := 1, ground := Ground.phase }, { on := 2, ground := Ground.phase }, { on := 3, ground := Ground.phase }, { on := 4, ground := Ground.phase }, { on := 5, ground := Ground.phase }, { on := 6, ground := Ground.phase }, { on := 7, ground := Ground.phase }, { on := 8, ground := Ground.textOnly Departure.lateStores }, { on := 9, ground := Ground.phase }], guard := none }) rfl (fun K hK => ?_) ?_
                · rw [if_pos (by rfl)]
                  refine wp_store_row 36 (.tmp 12) (.tmp 69) rfl b12 (W32 y.l).toArray rfl rfl 36 _ z12 (by rw [W32_sz]; exact i36) (by rw [W32_sz]; rfl) (W32_one _) ?_
                  refine hK _ _ ?_
                  clear hK K
                  try simp only [Act.put, List.setIfInBounds_toArray, List.set_cons_zero, List.set_cons_succ]
                  have hne : b8 ≠ b12 := by have h1 := lt_heap H.out; omega
                  refine at_world (p := fun W => wpAny _ _ _ _ _ _ _ W) (R := fun Y => Frm [] wr Y ∧ IsW Y b8 36 x.l ∧ Y.cell? ⟨g, k, none⟩ = some (.slice (some ⟨gu, 0, none⟩) 64 capu) ∧ IsW Y b12 36 y.l) ⟨fc.setRow _ _ (.inr q12), ((Frm.refl [b12] _).setRow _ _ (.inl (by simp))).heap x8 (by simpa using hne), ((Frm.refl [b12] _).setRow _ _ (.inl (by simp))).cell d2 (by have h1 := World.block_lt_of_cell? _ _ D2.out; simp at h1 ⊢; omega), setRow_heap _ _ _ _ _ _ z12⟩ ?_
                  clear fc x8 d2 z12
                  rintro Z0 ⟨fc, x8, d2, y12⟩
                  refine wpAny_take (i := 11) (oi := { dst := some 13, op := Op.assign (Operand.tmp 70), type := 37, pos := "outright.go:58", after := #[{ on := 8, ground := Ground.data }, { on := 10, ground := Ground.chain }, { on := 0, ground := Ground.phase }, { on := 1, ground := Ground.phase }, { on := 2, ground := Ground.phase }, { on := 3, ground := Ground.phase }, { on := 4, ground := Ground.phase }, { on := 5, ground := Ground.phase }, { on := 6, ground := Ground.phase }, { on := 7, ground := Ground.phase }, { on := 8, ground := Ground.phase }, { on := 9, ground := Ground.phase }, { on := 10, ground := Ground.phase }], guard := none }) (v := ?_) rfl (by kernel_rfl) (by kernel_rfl) (by kernel_rfl) (fun _ _ _ h => h) (Or.inl ⟨by rfl, ?_⟩) ?_
                  rotate_left
                  focus (intro w; go_simp; try with_reducible rfl)
                  try simp only [Act.put, List.setIfInBounds_toArray, List.set_cons_zero, List.set_cons_succ]
                  refine wpAny_done (by kernel_rfl) ?_ _
                  have FC := Lib.hid fc
                  have X8 := Lib.hid x8
                  have D3 := Lib.hid d2
                  have Y12 := Lib.hid y12
                  have HNE := Lib.hid hne
                  have Q12 := Lib.hid q12
                  clear fc x8 d2 y12 hne q12
                  go_upto_region 20 with (fail)
                  refine wp_region_lit ?_
                  refine wpList_load_row rfl 36 (.tmp 12) rfl b12 rfl 36 (W32 y.l).toArray (0, 0) _ Y12.out d36 rfl (by rw [W32_sz]; exact i36) ?_
                  refine wpList_store_row rfl 36 (.tmp 8) (.tmp 73) rfl b8 (W32 y.l).toArray rfl rfl 36 _ X8.out (by rw [W32_sz]; exact i36) (by rw [W32_sz, W32_sz]) (W32_one _) ?_
                  refine wpList_nil ?_
                  refine at_world (p := fun W => Exit.then _ _ _ _ W) (R := fun Y => Frm [b8] wr Y ∧ IsW Y b8 36 y.l ∧ Y.cell? ⟨g, k, none⟩ = some (.slice (some ⟨gu, 0, none⟩) 64 capu)) ⟨(FC.out.mono (by simp)).setRow _ _ (.inl (by simp)), setRow_heap _ _ _ _ _ _ X8.out, ((Frm.refl [b8] _).setRow _ _ (.inl (by simp))).cell D3.out (by have h := HGB.out; simpa using h)⟩ ?_
                  clear X8 D3 Y12 FC
                  rintro V0 ⟨fc, x8, d2⟩
                  have FC := Lib.hid fc
                  have X8 := Lib.hid x8
                  clear fc x8
                  have OC := Lib.hid (O7.out.keep FC.out (fun i hi h => by have h1 := N7.out i hi; have h2 := ZB.out; simp at h; omega))
                  have SC := Lib.hid (O2.out.sl.keep FC.out (by have h := HUB.out; simpa [blk] using h))
                  have JL := Lib.hid (show (joinK (filled l) k).length + (pieceL (filled l) k).length = (joinK (filled l) (k + 1)).length by rw [HJS.out, List.length_append])
                  have BD := Lib.hid (show (joinK (filled l) k).length + (pieceL (filled l) k).length ≤ 140737488355328 by have h1 := joinK_len (filled l) k; have h2 := HPL.out; have h3 := hlt; have h4 := HPC.out; omega)
                  go_wp2_with (at_builtin; refine wpList_append_bytes BT OC.out SC.out BD.out rfl (.tmp 74) (.tmp 78) rfl rfl rfl ?_; intro a4 cap4 w4 sp4 o4 f4 n4)
                  rw [JL.out] at o4 n4 ⊢
                  rw [← HJS.out] at o4
                  have hnew : PieRel w5 (filled l) (pcs l.length) b8 (.slice a4 (joinK (filled l) (k + 1)).length cap4) (.int .i64 ((k : Int) + 1)) w4 := ⟨k + 1, by omega, by go_num, ⟨_, _, sp4, rfl, o4, fun i hi => by
                    rcases n4 i hi with h | h
                    · exact N7.out i h
                    · have h1 := FC.out.size; have h2 := F.out.size; omega⟩, by rw [HTS.out]; exact f4.heap X8.out (fun h => by have h1 := N7.out _ h; have h2 := ZB.out; omega), (F.out.trans FC.out (by simp)).trans f4 (fun i hi => .inr (N7.out i hi))⟩
                  have HNW := Lib.hid hnew
                  have KP := Lib.hid hlt
                  clear hnew o4 f4 n4 d2
                  go_wp2_with fail
                  go_roundw
                  case rel => exact HNW.out
                  case measure => have := KP.out; simp [intOf]; omega
                exact AllReady.nil
              exact AllReady.nil
            exact AllReady.nil
          refine AllReady.cons (o := { dst := some 12, op := Op.alloc 36, type := 0, pos := "outright.go:58", after := #[], guard := none }) rfl (fun K hK => ?_) ?_
          · go_simp
            refine hK _ _ ?_
            clear hK K
            obtain ⟨b12, hb12⟩ : ∃ b12, Y0.heap.size = b12 := ⟨_, rfl⟩
            rw [hb12]
            refine at_world (p := fun W => wpAny _ _ _ _ _ _ _ W) (R := fun Y => Frm [] wr Y ∧ IsW Y b8 36 x.l ∧ Y.cell? ⟨g, k, none⟩ = some (.slice (some ⟨gu, 0, none⟩) 64 capu) ∧ Y.heap[b12]? = some (.cells Z8 36 (0, 0)) ∧ wr.heap.size ≤ b12) ⟨fc.alloc _, x8.keepF ((Frm.refl [] _).alloc _), ((Frm.refl [] _).alloc _).cell d2 (by simp), heap_alloc_at hb12.symm, by have := fc.size; omega⟩ ?_
            clear hb12 fc x8 d2
            rintro Y11 ⟨fc, x8, d2, z12, q12⟩
            refine wpAny_ready (rs := [0]) (by kernel_rfl) (by simp) ?_
            refine AllReady.cons (o := { dst := some 63, op := Op.load 36 (Operand.tmp 8), type := 36, pos := "outright.go:58", after := #[], guard := none }) rfl (fun K hK => ?_) ?_
            · rw [if_pos (by rfl)]
              refine wp_load_row 36 (.tmp 8) rfl b8 rfl 36 (W32 x.l).toArray (0, 0) _ x8 d36 rfl (by rw [W32_sz]; exact i36) ?_
              refine hK _ _ ?_
              clear hK K
              try simp only [Act.put, List.setIfInBounds_toArray, List.set_cons_zero, List.set_cons_succ]
              refine wpAny_ready (rs := [5]) (by kernel_rfl) (by simp) ?_
              refine AllReady.cons (o := { dst := some 68, op := Op.call { callee := Callee.value (Operand.func 19), args := #[Operand.tmp 63, Operand.tmp 67], argTypes := #[36, 22] }, type := 38, pos := "outright.go:58", after := #[{ on := 0, ground := Ground.data }, { on := 4, ground := Ground.data }], guard := none }) rfl (fun K hK => ?_) ?_
              · go_simp
                refine (HC.out _ fc).mono ?_
                rintro r w9 ⟨rfl, f9⟩
                have x8 := x8.keepF f9
                have d2 := f9.cell d2 (by simp)
                have fc := fc.trans f9 (by simp)
                have z12 := f9.heap z12 (by simp)
                clear f9
                refine hK _ _ ?_
                clear hK K
                try simp only [Act.put, List.setIfInBounds_toArray, List.set_cons_zero, List.set_cons_succ]
                refine wpAny_take (i := 6) (oi := { dst := some 62, op := Op.move (Operand.tmp 68), type := 38, pos := "outright.go:58", after := #[{ on := 5, ground := Ground.data }], guard := none }) (v := ?_) rfl (by kernel_rfl) (by kernel_rfl) (by kernel_rfl) (fun _ _ _ h => h) (Or.inl ⟨by rfl, ?_⟩) ?_
                rotate_left
                focus (intro w; go_simp; try with_reducible rfl)
                try simp only [Act.put, List.setIfInBounds_toArray, List.set_cons_zero, List.set_cons_succ]
                refine wpAny_take (i := 7) (oi := { dst := some 69, op := Op.extract (Operand.tmp 62) 0, type := 36, pos := "outright.go:58", after := #[{ on := 6, ground := Ground.data }], guard := none }) (v := ?_) rfl (by kernel_rfl) (by kernel_rfl) (by kernel_rfl) (fun _ _ _ h => h) (Or.inl ⟨by rfl, ?_⟩) ?_
                rotate_left
                focus (intro w; go_simp; try with_reducible rfl)
                try simp only [Act.put, List.setIfInBounds_toArray, List.set_cons_zero, List.set_cons_succ]
                refine wpAny_take (i := 8) (oi := { dst := some 70, op := Op.extract (Operand.tmp 62) 1, type := 37, pos := "outright.go:58", after := #[{ on := 6, ground := Ground.data }, { on := 10, ground := Ground.gcOnly Departure.lateStores }], guard := none }) (v := ?_) rfl (by kernel_rfl) (by kernel_rfl) (by kernel_rfl) (fun _ _ _ h => h) (Or.inl ⟨by rfl, ?_⟩) ?_
                rotate_left
                focus (intro w; go_simp; try with_reducible rfl)
                try simp only [Act.put, List.setIfInBounds_toArray, List.set_cons_zero, List.set_cons_succ]
                refine wpAny_ready (rs := [10]) (by kernel_rfl) (by simp) ?_
                refine AllReady.cons (o := { dst := none, op := Op.store 36 (Operand.tmp 12) (Operand.tmp 69), type := 0, pos := "outright.go:58", after := #[{ on := 9, ground := Ground.data }, { on := 7, ground := Ground.data }, { on := 5, ground := Ground.chain }, { on := 0, ground := Ground.phase }, { on := 1, ground := Ground.phase }, { on := 2, ground := Ground.phase }, { on := 3, ground := Ground.phase }, { on := 4, ground := Ground.phase }, { on := 5, ground := Ground.phase }, { on := 6, ground := Ground.phase }, { on := 7, ground := Ground.phase }, { on := 8, ground := Ground.textOnly Departure.lateStores }, { on := 9, ground := Ground.phase }], guard := none }) rfl (fun K hK => ?_) ?_
                · rw [if_pos (by rfl)]
                  refine wp_store_row 36 (.tmp 12) (.tmp 69) rfl b12 (W32 y.l).toArray rfl rfl 36 _ z12 (by rw [W32_sz]; exact i36) (by rw [W32_sz]; rfl) (W32_one _) ?_
                  refine hK _ _ ?_
                  clear hK K
                  try simp only [Act.put, List.setIfInBounds_toArray, List.set_cons_zero, List.set_cons_succ]
                  have hne : b8 ≠ b12 := by have h1 := lt_heap H.out; omega
                  refine at_world (p := fun W => wpAny _ _ _ _ _ _ _ W) (R := fun Y => Frm [] wr Y ∧ IsW Y b8 36 x.l ∧ Y.cell? ⟨g, k, none⟩ = some (.slice (some ⟨gu, 0, none⟩) 64 capu) ∧ IsW Y b12 36 y.l) ⟨fc.setRow _ _ (.inr q12), ((Frm.refl [b12] _).setRow _ _ (.inl (by simp))).heap x8 (by simpa using hne), ((Frm.refl [b12] _).setRow _ _ (.inl (by simp))).cell d2 (by have h1 := World.block_lt_of_cell? _ _ D2.out; simp at h1 ⊢; omega), setRow_heap _ _ _ _ _ _ z12⟩ ?_
                  clear fc x8 d2 z12
                  rintro Z0 ⟨fc, x8, d2, y12⟩
                  refine wpAny_take (i := 11) (oi := { dst := some 13, op := Op.assign (Operand.tmp 70), type := 37, pos := "outright.go:58", after := #[{ on := 8, ground := Ground.data }, { on := 10, ground := Ground.chain }, { on := 0, ground := Ground.phase }, { on := 1, ground := Ground.phase }, { on := 2, ground := Ground.phase }, { on := 3, ground := Ground.phase }, { on := 4, ground := Ground.phase }, { on := 5, ground := Ground.phase }, { on := 6, ground := Ground.phase }, { on := 7, ground := Ground.phase }, { on := 8, ground := Ground.phase }, { on := 9, ground := Ground.phase }, { on := 10, ground := Ground.phase }], guard := none }) (v := ?_) rfl (by kernel_rfl) (by kernel_rfl) (by kernel_rfl) (fun _ _ _ h => h) (Or.inl ⟨by rfl, ?_⟩) ?_
                  rotate_left
                  focus (intro w; go_simp; try with_reducible rfl)
                  try simp only [Act.put, List.setIfInBounds_toArray, List.set_cons_zero, List.set_cons_succ]
                  refine wpAny_done (by kernel_rfl) ?_ _
                  have FC := Lib.hid fc
                  have X8 := Lib.hid x8
                  have D3 := Lib.hid d2
                  have Y12 := Lib.hid y12
                  have HNE := Lib.hid hne
                  have Q12 := Lib.hid q12
                  clear fc x8 d2 y12 hne q12
                  go_upto_region 20 with (fail)
                  refine wp_region_lit ?_
                  refine wpList_load_row rfl 36 (.tmp 12) rfl b12 rfl 36 (W32 y.l).toArray (0, 0) _ Y12.out d36 rfl (by rw [W32_sz]; exact i36) ?_
                  refine wpList_store_row rfl 36 (.tmp 8) (.tmp 73) rfl b8 (W32 y.l).toArray rfl rfl 36 _ X8.out (by rw [W32_sz]; exact i36) (by rw [W32_sz, W32_sz]) (W32_one _) ?_
                  refine wpList_nil ?_
                  refine at_world (p := fun W => Exit.then _ _ _ _ W) (R := fun Y => Frm [b8] wr Y ∧ IsW Y b8 36 y.l ∧ Y.cell? ⟨g, k, none⟩ = some (.slice (some ⟨gu, 0, none⟩) 64 capu)) ⟨(FC.out.mono (by simp)).setRow _ _ (.inl (by simp)), setRow_heap _ _ _ _ _ _ X8.out, ((Frm.refl [b8] _).setRow _ _ (.inl (by simp))).cell D3.out (by have h := HGB.out; simpa using h)⟩ ?_
                  clear X8 D3 Y12 FC
                  rintro V0 ⟨fc, x8, d2⟩
                  have FC := Lib.hid fc
                  have X8 := Lib.hid x8
                  clear fc x8
                  have OC := Lib.hid (O7.out.keep FC.out (fun i hi h => by have h1 := N7.out i hi; have h2 := ZB.out; simp at h; omega))
                  have SC := Lib.hid (O2.out.sl.keep FC.out (by have h := HUB.out; simpa [blk] using h))
                  have JL := Lib.hid (show (joinK (filled l) k).length + (pieceL (filled l) k).length = (joinK (filled l) (k + 1)).length by rw [HJS.out, List.length_append])
                  have BD := Lib.hid (show (joinK (filled l) k).length + (pieceL (filled l) k).length ≤ 140737488355328 by have h1 := joinK_len (filled l) k; have h2 := HPL.out; have h3 := hlt; have h4 := HPC.out; omega)
                  go_wp2_with (at_builtin; refine wpList_append_bytes BT OC.out SC.out BD.out rfl (.tmp 74) (.tmp 78) rfl rfl rfl ?_; intro a4 cap4 w4 sp4 o4 f4 n4)
                  rw [JL.out] at o4 n4 ⊢
                  rw [← HJS.out] at o4
                  have hnew : PieRel w5 (filled l) (pcs l.length) b8 (.slice a4 (joinK (filled l) (k + 1)).length cap4) (.int .i64 ((k : Int) + 1)) w4 := ⟨k + 1, by omega, by go_num, ⟨_, _, sp4, rfl, o4, fun i hi => by
                    rcases n4 i hi with h | h
                    · exact N7.out i h
                    · have h1 := FC.out.size; have h2 := F.out.size; omega⟩, by rw [HTS.out]; exact f4.heap X8.out (fun h => by have h1 := N7.out _ h; have h2 := ZB.out; omega), (F.out.trans FC.out (by simp)).trans f4 (fun i hi => .inr (N7.out i hi))⟩
                  have HNW := Lib.hid hnew
                  have KP := Lib.hid hlt
                  clear hnew o4 f4 n4 d2
                  go_wp2_with fail
                  go_roundw
                  case rel => exact HNW.out
                  case measure => have := KP.out; simp [intOf]; omega
                exact AllReady.nil
              exact AllReady.nil
            exact AllReady.nil
          exact AllReady.nil
        refine AllReady.cons (o := { dst := some 12, op := Op.alloc 36, type := 0, pos := "outright.go:58", after := #[], guard := none }) rfl (fun K hK => ?_) ?_
        · go_simp
          refine hK _ _ ?_
          clear hK K
          obtain ⟨b12, hb12⟩ : ∃ b12, Y0.heap.size = b12 := ⟨_, rfl⟩
          rw [hb12]
          refine at_world (p := fun W => wpAny _ _ _ _ _ _ _ W) (R := fun Y => Frm [] wr Y ∧ IsW Y b8 36 x.l ∧ Y.cell? ⟨g, k, none⟩ = some (.slice (some ⟨gu, 0, none⟩) 64 capu) ∧ Y.heap[b12]? = some (.cells Z8 36 (0, 0)) ∧ wr.heap.size ≤ b12) ⟨fc.alloc _, x8.keepF ((Frm.refl [] _).alloc _), ((Frm.refl [] _).alloc _).cell d2 (by simp), heap_alloc_at hb12.symm, by have := fc.size; omega⟩ ?_
          clear hb12 fc x8 d2
          rintro Y13 ⟨fc, x8, d2, z12, q12⟩
          refine wpAny_ready (rs := [0, 4]) (by kernel_rfl) (by simp) ?_
          refine AllReady.cons (o := { dst := some 63, op := Op.load 36 (Operand.tmp 8), type := 36, pos := "outright.go:58", after := #[], guard := none }) rfl (fun K hK => ?_) ?_
          · rw [if_pos (by rfl)]
            refine wp_load_row 36 (.tmp 8) rfl b8 rfl 36 (W32 x.l).toArray (0, 0) _ x8 d36 rfl (by rw [W32_sz]; exact i36) ?_
            refine hK _ _ ?_
            clear hK K
            try simp only [Act.put, List.setIfInBounds_toArray, List.set_cons_zero, List.set_cons_succ]
            refine wpAny_ready (rs := [4]) (by kernel_rfl) (by simp) ?_
            refine AllReady.cons (o := { dst := some 67, op := Op.load 22 (Operand.tmp 66), type := 22, pos := "outright.go:58", after := #[{ on := 3, ground := Ground.data }], guard := none }) rfl (fun K hK => ?_) ?_
            · go_simp
              refine hK _ _ ?_
              clear hK K
              refine wpAny_ready (rs := [5]) (by kernel_rfl) (by simp) ?_
              refine AllReady.cons (o := { dst := some 68, op := Op.call { callee := Callee.value (Operand.func 19), args := #[Operand.tmp 63, Operand.tmp 67], argTypes := #[36, 22] }, type := 38, pos := "outright.go:58", after := #[{ on := 0, ground := Ground.data }, { on := 4, ground := Ground.data }], guard := none }) rfl (fun K hK => ?_) ?_
              · go_simp
                refine (HC.out _ fc).mono ?_
                rintro r w9 ⟨rfl, f9⟩
                have x8 := x8.keepF f9
                have d2 := f9.cell d2 (by simp)
                have fc := fc.trans f9 (by simp)
                have z12 := f9.heap z12 (by simp)
                clear f9
                refine hK _ _ ?_
                clear hK K
                try simp only [Act.put, List.setIfInBounds_toArray, List.set_cons_zero, List.set_cons_succ]
                refine wpAny_take (i := 6) (oi := { dst := some 62, op := Op.move (Operand.tmp 68), type := 38, pos := "outright.go:58", after := #[{ on := 5, ground := Ground.data }], guard := none }) (v := ?_) rfl (by kernel_rfl) (by kernel_rfl) (by kernel_rfl) (fun _ _ _ h => h) (Or.inl ⟨by rfl, ?_⟩) ?_
                rotate_left
                focus (intro w; go_simp; try with_reducible rfl)
                try simp only [Act.put, List.setIfInBounds_toArray, List.set_cons_zero, List.set_cons_succ]
                refine wpAny_take (i := 7) (oi := { dst := some 69, op := Op.extract (Operand.tmp 62) 0, type := 36, pos := "outright.go:58", after := #[{ on := 6, ground := Ground.data }], guard := none }) (v := ?_) rfl (by kernel_rfl) (by kernel_rfl) (by kernel_rfl) (fun _ _ _ h => h) (Or.inl ⟨by rfl, ?_⟩) ?_
                rotate_left
                focus (intro w; go_simp; try with_reducible rfl)
                try simp only [Act.put, List.setIfInBounds_toArray, List.set_cons_zero, List.set_cons_succ]
                refine wpAny_take (i := 8) (oi := { dst := some 70, op := Op.extract (Operand.tmp 62) 1, type := 37, pos := "outright.go:58", after := #[{ on := 6, ground := Ground.data }, { on := 10, ground := Ground.gcOnly Departure.lateStores }], guard := none }) (v := ?_) rfl (by kernel_rfl) (by kernel_rfl) (by kernel_rfl) (fun _ _ _ h => h) (Or.inl ⟨by rfl, ?_⟩) ?_
                rotate_left
                focus (intro w; go_simp; try with_reducible rfl)
                try simp only [Act.put, List.setIfInBounds_toArray, List.set_cons_zero, List.set_cons_succ]
                refine wpAny_ready (rs := [10]) (by kernel_rfl) (by simp) ?_
                refine AllReady.cons (o := { dst := none, op := Op.store 36 (Operand.tmp 12) (Operand.tmp 69), type := 0, pos := "outright.go:58", after := #[{ on := 9, ground := Ground.data }, { on := 7, ground := Ground.data }, { on := 5, ground := Ground.chain }, { on := 0, ground := Ground.phase }, { on := 1, ground := Ground.phase }, { on := 2, ground := Ground.phase }, { on := 3, ground := Ground.phase }, { on := 4, ground := Ground.phase }, { on := 5, ground := Ground.phase }, { on := 6, ground := Ground.phase }, { on := 7, ground := Ground.phase }, { on := 8, ground := Ground.textOnly Departure.lateStores }, { on := 9, ground := Ground.phase }], guard := none }) rfl (fun K hK => ?_) ?_
                · rw [if_pos (by rfl)]
                  refine wp_store_row 36 (.tmp 12) (.tmp 69) rfl b12 (W32 y.l).toArray rfl rfl 36 _ z12 (by rw [W32_sz]; exact i36) (by rw [W32_sz]; rfl) (W32_one _) ?_
                  refine hK _ _ ?_
                  clear hK K
                  try simp only [Act.put, List.setIfInBounds_toArray, List.set_cons_zero, List.set_cons_succ]
                  have hne : b8 ≠ b12 := by have h1 := lt_heap H.out; omega
                  refine at_world (p := fun W => wpAny _ _ _ _ _ _ _ W) (R := fun Y => Frm [] wr Y ∧ IsW Y b8 36 x.l ∧ Y.cell? ⟨g, k, none⟩ = some (.slice (some ⟨gu, 0, none⟩) 64 capu) ∧ IsW Y b12 36 y.l) ⟨fc.setRow _ _ (.inr q12), ((Frm.refl [b12] _).setRow _ _ (.inl (by simp))).heap x8 (by simpa using hne), ((Frm.refl [b12] _).setRow _ _ (.inl (by simp))).cell d2 (by have h1 := World.block_lt_of_cell? _ _ D2.out; simp at h1 ⊢; omega), setRow_heap _ _ _ _ _ _ z12⟩ ?_
                  clear fc x8 d2 z12
                  rintro Z0 ⟨fc, x8, d2, y12⟩
                  refine wpAny_take (i := 11) (oi := { dst := some 13, op := Op.assign (Operand.tmp 70), type := 37, pos := "outright.go:58", after := #[{ on := 8, ground := Ground.data }, { on := 10, ground := Ground.chain }, { on := 0, ground := Ground.phase }, { on := 1, ground := Ground.phase }, { on := 2, ground := Ground.phase }, { on := 3, ground := Ground.phase }, { on := 4, ground := Ground.phase }, { on := 5, ground := Ground.phase }, { on := 6, ground := Ground.phase }, { on := 7, ground := Ground.phase }, { on := 8, ground := Ground.phase }, { on := 9, ground := Ground.phase }, { on := 10, ground := Ground.phase }], guard := none }) (v := ?_) rfl (by kernel_rfl) (by kernel_rfl) (by kernel_rfl) (fun _ _ _ h => h) (Or.inl ⟨by rfl, ?_⟩) ?_
                  rotate_left
                  focus (intro w; go_simp; try with_reducible rfl)
                  try simp only [Act.put, List.setIfInBounds_toArray, List.set_cons_zero, List.set_cons_succ]
                  refine wpAny_done (by kernel_rfl) ?_ _
                  have FC := Lib.hid fc
                  have X8 := Lib.hid x8
                  have D3 := Lib.hid d2
                  have Y12 := Lib.hid y12
                  have HNE := Lib.hid hne
                  have Q12 := Lib.hid q12
                  clear fc x8 d2 y12 hne q12
                  go_upto_region 20 with (fail)
                  refine wp_region_lit ?_
                  refine wpList_load_row rfl 36 (.tmp 12) rfl b12 rfl 36 (W32 y.l).toArray (0, 0) _ Y12.out d36 rfl (by rw [W32_sz]; exact i36) ?_
                  refine wpList_store_row rfl 36 (.tmp 8) (.tmp 73) rfl b8 (W32 y.l).toArray rfl rfl 36 _ X8.out (by rw [W32_sz]; exact i36) (by rw [W32_sz, W32_sz]) (W32_one _) ?_
                  refine wpList_nil ?_
                  refine at_world (p := fun W => Exit.then _ _ _ _ W) (R := fun Y => Frm [b8] wr Y ∧ IsW Y b8 36 y.l ∧ Y.cell? ⟨g, k, none⟩ = some (.slice (some ⟨gu, 0, none⟩) 64 capu)) ⟨(FC.out.mono (by simp)).setRow _ _ (.inl (by simp)), setRow_heap _ _ _ _ _ _ X8.out, ((Frm.refl [b8] _).setRow _ _ (.inl (by simp))).cell D3.out (by have h := HGB.out; simpa using h)⟩ ?_
                  clear X8 D3 Y12 FC
                  rintro V0 ⟨fc, x8, d2⟩
                  have FC := Lib.hid fc
                  have X8 := Lib.hid x8
                  clear fc x8
                  have OC := Lib.hid (O7.out.keep FC.out (fun i hi h => by have h1 := N7.out i hi; have h2 := ZB.out; simp at h; omega))
                  have SC := Lib.hid (O2.out.sl.keep FC.out (by have h := HUB.out; simpa [blk] using h))
                  have JL := Lib.hid (show (joinK (filled l) k).length + (pieceL (filled l) k).length = (joinK (filled l) (k + 1)).length by rw [HJS.out, List.length_append])
                  have BD := Lib.hid (show (joinK (filled l) k).length + (pieceL (filled l) k).length ≤ 140737488355328 by have h1 := joinK_len (filled l) k; have h2 := HPL.out; have h3 := hlt; have h4 := HPC.out; omega)
                  go_wp2_with (at_builtin; refine wpList_append_bytes BT OC.out SC.out BD.out rfl (.tmp 74) (.tmp 78) rfl rfl rfl ?_; intro a4 cap4 w4 sp4 o4 f4 n4)
                  rw [JL.out] at o4 n4 ⊢
                  rw [← HJS.out] at o4
                  have hnew : PieRel w5 (filled l) (pcs l.length) b8 (.slice a4 (joinK (filled l) (k + 1)).length cap4) (.int .i64 ((k : Int) + 1)) w4 := ⟨k + 1, by omega, by go_num, ⟨_, _, sp4, rfl, o4, fun i hi => by
                    rcases n4 i hi with h | h
                    · exact N7.out i h
                    · have h1 := FC.out.size; have h2 := F.out.size; omega⟩, by rw [HTS.out]; exact f4.heap X8.out (fun h => by have h1 := N7.out _ h; have h2 := ZB.out; omega), (F.out.trans FC.out (by simp)).trans f4 (fun i hi => .inr (N7.out i hi))⟩
                  have HNW := Lib.hid hnew
                  have KP := Lib.hid hlt
                  clear hnew o4 f4 n4 d2
                  go_wp2_with fail
                  go_roundw
                  case rel => exact HNW.out
                  case measure => have := KP.out; simp [intOf]; omega
                exact AllReady.nil
              exact AllReady.nil
            exact AllReady.nil
          refine AllReady.cons (o := { dst := some 67, op := Op.load 22 (Operand.tmp 66), type := 22, pos := "outright.go:58", after := #[{ on := 3, ground := Ground.data }], guard := none }) rfl (fun K hK => ?_) ?_
          · go_simp
            refine hK _ _ ?_
            clear hK K
            refine wpAny_ready (rs := [0]) (by kernel_rfl) (by simp) ?_
            refine AllReady.cons (o := { dst := some 63, op := Op.load 36 (Operand.tmp 8), type := 36, pos := "outright.go:58", after := #[], guard := none }) rfl (fun K hK => ?_) ?_
            · rw [if_pos (by rfl)]
              refine wp_load_row 36 (.tmp 8) rfl b8 rfl 36 (W32 x.l).toArray (0, 0) _ x8 d36 rfl (by rw [W32_sz]; exact i36) ?_
              refine hK _ _ ?_
              clear hK K
              try simp only [Act.put, List.setIfInBounds_toArray, List.set_cons_zero, List.set_cons_succ]
              refine wpAny_ready (rs := [5]) (by kernel_rfl) (by simp) ?_
              refine AllReady.cons (o := { dst := some 68, op := Op.call { callee := Callee.value (Operand.func 19), args := #[Operand.tmp 63, Operand.tmp 67], argTypes := #[36, 22] }, type := 38, pos := "outright.go:58", after := #[{ on := 0, ground := Ground.data }, { on := 4, ground := Ground.data }], guard := none }) rfl (fun K hK => ?_) ?_
              · go_simp
                refine (HC.out _ fc).mono ?_
                rintro r w9 ⟨rfl, f9⟩
                have x8 := x8.keepF f9
                have d2 := f9.cell d2 (by simp)
                have fc := fc.trans f9 (by simp)
                have z12 := f9.heap z12 (by simp)
                clear f9
                refine hK _ _ ?_
                clear hK K
                try simp only [Act.put, List.setIfInBounds_toArray, List.set_cons_zero, List.set_cons_succ]
                refine wpAny_take (i := 6) (oi := { dst := some 62, op := Op.move (Operand.tmp 68), type := 38, pos := "outright.go:58", after := #[{ on := 5, ground := Ground.data }], guard := none }) (v := ?_) rfl (by kernel_rfl) (by kernel_rfl) (by kernel_rfl) (fun _ _ _ h => h) (Or.inl ⟨by rfl, ?_⟩) ?_
                rotate_left
                focus (intro w; go_simp; try with_reducible rfl)
                try simp only [Act.put, List.setIfInBounds_toArray, List.set_cons_zero, List.set_cons_succ]
                refine wpAny_take (i := 7) (oi := { dst := some 69, op := Op.extract (Operand.tmp 62) 0, type := 36, pos := "outright.go:58", after := #[{ on := 6, ground := Ground.data }], guard := none }) (v := ?_) rfl (by kernel_rfl) (by kernel_rfl) (by kernel_rfl) (fun _ _ _ h => h) (Or.inl ⟨by rfl, ?_⟩) ?_
                rotate_left
                focus (intro w; go_simp; try with_reducible rfl)
                try simp only [Act.put, List.setIfInBounds_toArray, List.set_cons_zero, List.set_cons_succ]
                refine wpAny_take (i := 8) (oi := { dst := some 70, op := Op.extract (Operand.tmp 62) 1, type := 37, pos := "outright.go:58", after := #[{ on := 6, ground := Ground.data }, { on := 10, ground := Ground.gcOnly Departure.lateStores }], guard := none }) (v := ?_) rfl (by kernel_rfl) (by kernel_rfl) (by kernel_rfl) (fun _ _ _ h => h) (Or.inl ⟨by rfl, ?_⟩) ?_
                rotate_left
                focus (intro w; go_simp; try with_reducible rfl)
                try simp only [Act.put, List.setIfInBounds_toArray, List.set_cons_zero, List.set_cons_succ]
                refine wpAny_ready (rs := [10]) (by kernel_rfl) (by simp) ?_
                refine AllReady.cons (o := { dst := none, op := Op.store 36 (Operand.tmp 12) (Operand.tmp 69), type := 0, pos := "outright.go:58", after := #[{ on := 9, ground := Ground.data }, { on := 7, ground := Ground.data }, { on := 5, ground := Ground.chain }, { on := 0, ground := Ground.phase }, { on := 1, ground := Ground.phase }, { on := 2, ground := Ground.phase }, { on := 3, ground := Ground.phase }, { on := 4, ground := Ground.phase }, { on := 5, ground := Ground.phase }, { on := 6, ground := Ground.phase }, { on := 7, ground := Ground.phase }, { on := 8, ground := Ground.textOnly Departure.lateStores }, { on := 9, ground := Ground.phase }], guard := none }) rfl (fun K hK => ?_) ?_
                · rw [if_pos (by rfl)]
                  refine wp_store_row 36 (.tmp 12) (.tmp 69) rfl b12 (W32 y.l).toArray rfl rfl 36 _ z12 (by rw [W32_sz]; exact i36) (by rw [W32_sz]; rfl) (W32_one _) ?_
                  refine hK _ _ ?_
                  clear hK K
                  try simp only [Act.put, List.setIfInBounds_toArray, List.set_cons_zero, List.set_cons_succ]
                  have hne : b8 ≠ b12 := by have h1 := lt_heap H.out; omega
                  refine at_world (p := fun W => wpAny _ _ _ _ _ _ _ W) (R := fun Y => Frm [] wr Y ∧ IsW Y b8 36 x.l ∧ Y.cell? ⟨g, k, none⟩ = some (.slice (some ⟨gu, 0, none⟩) 64 capu) ∧ IsW Y b12 36 y.l) ⟨fc.setRow _ _ (.inr q12), ((Frm.refl [b12] _).setRow _ _ (.inl (by simp))).heap x8 (by simpa using hne), ((Frm.refl [b12] _).setRow _ _ (.inl (by simp))).cell d2 (by have h1 := World.block_lt_of_cell? _ _ D2.out; simp at h1 ⊢; omega), setRow_heap _ _ _ _ _ _ z12⟩ ?_
                  clear fc x8 d2 z12
                  rintro Z0 ⟨fc, x8, d2, y12⟩
                  refine wpAny_take (i := 11) (oi := { dst := some 13, op := Op.assign (Operand.tmp 70), type := 37, pos := "outright.go:58", after := #[{ on := 8, ground := Ground.data }, { on := 10, ground := Ground.chain }, { on := 0, ground := Ground.phase }, { on := 1, ground := Ground.phase }, { on := 2, ground := Ground.phase }, { on := 3, ground := Ground.phase }, { on := 4, ground := Ground.phase }, { on := 5, ground := Ground.phase }, { on := 6, ground := Ground.phase }, { on := 7, ground := Ground.phase }, { on := 8, ground := Ground.phase }, { on := 9, ground := Ground.phase }, { on := 10, ground := Ground.phase }], guard := none }) (v := ?_) rfl (by kernel_rfl) (by kernel_rfl) (by kernel_rfl) (fun _ _ _ h => h) (Or.inl ⟨by rfl, ?_⟩) ?_
                  rotate_left
                  focus (intro w; go_simp; try with_reducible rfl)
                  try simp only [Act.put, List.setIfInBounds_toArray, List.set_cons_zero, List.set_cons_succ]
                  refine wpAny_done (by kernel_rfl) ?_ _
                  have FC := Lib.hid fc
                  have X8 := Lib.hid x8
                  have D3 := Lib.hid d2
                  have Y12 := Lib.hid y12
                  have HNE := Lib.hid hne
                  have Q12 := Lib.hid q12
                  clear fc x8 d2 y12 hne q12
                  go_upto_region 20 with (fail)
                  refine wp_region_lit ?_
                  refine wpList_load_row rfl 36 (.tmp 12) rfl b12 rfl 36 (W32 y.l).toArray (0, 0) _ Y12.out d36 rfl (by rw [W32_sz]; exact i36) ?_
                  refine wpList_store_row rfl 36 (.tmp 8) (.tmp 73) rfl b8 (W32 y.l).toArray rfl rfl 36 _ X8.out (by rw [W32_sz]; exact i36) (by rw [W32_sz, W32_sz]) (W32_one _) ?_
                  refine wpList_nil ?_
                  refine at_world (p := fun W => Exit.then _ _ _ _ W) (R := fun Y => Frm [b8] wr Y ∧ IsW Y b8 36 y.l ∧ Y.cell? ⟨g, k, none⟩ = some (.slice (some ⟨gu, 0, none⟩) 64 capu)) ⟨(FC.out.mono (by simp)).setRow _ _ (.inl (by simp)), setRow_heap _ _ _ _ _ _ X8.out, ((Frm.refl [b8] _).setRow _ _ (.inl (by simp))).cell D3.out (by have h := HGB.out; simpa using h)⟩ ?_
                  clear X8 D3 Y12 FC
                  rintro V0 ⟨fc, x8, d2⟩
                  have FC := Lib.hid fc
                  have X8 := Lib.hid x8
                  clear fc x8
                  have OC := Lib.hid (O7.out.keep FC.out (fun i hi h => by have h1 := N7.out i hi; have h2 := ZB.out; simp at h; omega))
                  have SC := Lib.hid (O2.out.sl.keep FC.out (by have h := HUB.out; simpa [blk] using h))
                  have JL := Lib.hid (show (joinK (filled l) k).length + (pieceL (filled l) k).length = (joinK (filled l) (k + 1)).length by rw [HJS.out, List.length_append])
                  have BD := Lib.hid (show (joinK (filled l) k).length + (pieceL (filled l) k).length ≤ 140737488355328 by have h1 := joinK_len (filled l) k; have h2 := HPL.out; have h3 := hlt; have h4 := HPC.out; omega)
                  go_wp2_with (at_builtin; refine wpList_append_bytes BT OC.out SC.out BD.out rfl (.tmp 74) (.tmp 78) rfl rfl rfl ?_; intro a4 cap4 w4 sp4 o4 f4 n4)
                  rw [JL.out] at o4 n4 ⊢
                  rw [← HJS.out] at o4
                  have hnew : PieRel w5 (filled l) (pcs l.length) b8 (.slice a4 (joinK (filled l) (k + 1)).length cap4) (.int .i64 ((k : Int) + 1)) w4 := ⟨k + 1, by omega, by go_num, ⟨_, _, sp4, rfl, o4, fun i hi => by
                    rcases n4 i hi with h | h
                    · exact N7.out i h
                    · have h1 := FC.out.size; have h2 := F.out.size; omega⟩, by rw [HTS.out]; exact f4.heap X8.out (fun h => by have h1 := N7.out _ h; have h2 := ZB.out; omega), (F.out.trans FC.out (by simp)).trans f4 (fun i hi => .inr (N7.out i hi))⟩
                  have HNW := Lib.hid hnew
                  have KP := Lib.hid hlt
                  clear hnew o4 f4 n4 d2
                  go_wp2_with fail
                  go_roundw
                  case rel => exact HNW.out
                  case measure => have := KP.out; simp [intOf]; omega
                exact AllReady.nil
              exact AllReady.nil
            exact AllReady.nil
          exact AllReady.nil
        exact AllReady.nil
      · have hka9 : ((k : Int) == (at' : Int)) = false := by simp; omega
        generalize hx : turnsP s0 (filled l) (List.range k) = x at *
        have HX := Lib.hid hx
        clear hx
        go_upto_region 17 with (fail)
        refine at_world (p := fun W => Code.wp _ _ _ _ W) (R := fun Y => Frm [] wr Y ∧ IsW Y b8 36 x.l ∧ Y.cell? ⟨g, k, none⟩ = some (.slice (some ⟨gu, 0, none⟩) 64 capu)) ⟨Frm.refl [] _, H.out, d2⟩ ?_
        clear d2
        rintro W0 ⟨fc, x8, d2⟩
        have D2 := Lib.hid (show wr.cell? ⟨g, k, none⟩ = some (.slice (some ⟨gu, 0, none⟩) 64 capu) from D0.out)
        refine wp_region_any (by kernel_rfl) ?_
        change wpAny _ _ _ _ _ _ _ (World.drew _)
        refine wpAny_take (i := 1) (oi := { dst := some 64, op := Op.move (Operand.tmp 6), type := 25, pos := "outright.go:58", after := #[], guard := none }) (v := ?_) rfl (by kernel_rfl) (by kernel_rfl) (by kernel_rfl) (fun _ _ _ h => h) (Or.inl ⟨by rfl, ?_⟩) ?_
        rotate_left
        focus (intro w; go_simp; try with_reducible rfl)
        try simp only [Act.put, List.setIfInBounds_toArray, List.set_cons_zero, List.set_cons_succ]
        refine wpAny_take (i := 2) (oi := { dst := some 65, op := Op.move (Operand.tmp 9), type := 3, pos := "outright.go:58", after := #[], guard := none }) (v := ?_) rfl (by kernel_rfl) (by kernel_rfl) (by kernel_rfl) (fun _ _ _ h => h) (Or.inl ⟨by rfl, ?_⟩) ?_
        rotate_left
        focus (intro w; go_simp; try with_reducible rfl)
        try simp only [Act.put, List.setIfInBounds_toArray, List.set_cons_zero, List.set_cons_succ]
        refine wpAny_take (i := 3) (oi := { dst := some 66, op := Op.indexAddr 25 (Operand.tmp 64) (Operand.tmp 65), type := 0, pos := "outright.go:58", after := #[{ on := 1, ground := Ground.data }, { on := 2, ground := Ground.data }], guard := none }) (v := ?_) rfl (by kernel_rfl) (by kernel_rfl) (by kernel_rfl) (fun _ _ _ h => h) (Or.inl ⟨by rfl, ?_⟩) ?_
        rotate_left
        focus (intro w; go_simp; try with_reducible rfl)
        try simp only [Act.put, List.setIfInBounds_toArray, List.set_cons_zero, List.set_cons_succ]
        refine at_world (p := fun W => wpAny _ _ _ _ _ _ _ W) (R := fun Y => Frm [] wr Y ∧ IsW Y b8 36 x.l ∧ Y.cell? ⟨g, k, none⟩ = some (.slice (some ⟨gu, 0, none⟩) 64 capu)) ⟨fc.drew, x8, d2⟩ ?_
        clear fc x8 d2
        rintro Y0 ⟨fc, x8, d2⟩
        refine wpAny_ready (rs := [0, 4, 9]) (by kernel_rfl) (by simp) ?_
        refine AllReady.cons (o := { dst := some 63, op := Op.load 36 (Operand.tmp 8), type := 36, pos := "outright.go:58", after := #[], guard := none }) rfl (fun K hK => ?_) ?_
        · rw [if_pos (by rfl)]
          refine wp_load_row 36 (.tmp 8) rfl b8 rfl 36 (W32 x.l).toArray (0, 0) _ x8 d36 rfl (by rw [W32_sz]; exact i36) ?_
          refine hK _ _ ?_
          clear hK K
          try simp only [Act.put, List.setIfInBounds_toArray, List.set_cons_zero, List.set_cons_succ]
          refine wpAny_ready (rs := [4, 9]) (by kernel_rfl) (by simp) ?_
          refine AllReady.cons (o := { dst := some 67, op := Op.load 22 (Operand.tmp 66), type := 22, pos := "outright.go:58", after := #[{ on := 3, ground := Ground.data }], guard := none }) rfl (fun K hK => ?_) ?_
          · go_simp
            refine hK _ _ ?_
            clear hK K
            refine wpAny_ready (rs := [5, 9]) (by kernel_rfl) (by simp) ?_
            refine AllReady.cons (o := { dst := some 68, op := Op.call { callee := Callee.value (Operand.func 19), args := #[Operand.tmp 63, Operand.tmp 67], argTypes := #[36, 22] }, type := 38, pos := "outright.go:58", after := #[{ on := 0, ground := Ground.data }, { on := 4, ground := Ground.data }], guard := none }) rfl (fun K hK => ?_) ?_
            · go_simp
              refine (HC.out _ fc).mono ?_
              rintro r w9 ⟨rfl, f9⟩
              have x8 := x8.keepF f9
              have d2 := f9.cell d2 (by simp)
              have fc := fc.trans f9 (by simp)
              clear f9
              refine hK _ _ ?_
              clear hK K
              try simp only [Act.put, List.setIfInBounds_toArray, List.set_cons_zero, List.set_cons_succ]
              refine wpAny_take (i := 6) (oi := { dst := some 62, op := Op.move (Operand.tmp 68), type := 38, pos := "outright.go:58", after := #[{ on := 5, ground := Ground.data }], guard := none }) (v := ?_) rfl (by kernel_rfl) (by kernel_rfl) (by kernel_rfl) (fun _ _ _ h => h) (Or.inl ⟨by rfl, ?_⟩) ?_
              rotate_left
              focus (intro w; go_simp; try with_reducible rfl)
              try simp only [Act.put, List.setIfInBounds_toArray, List.set_cons_zero, List.set_cons_succ]
              refine wpAny_take (i := 7) (oi := { dst := some 69, op := Op.extract (Operand.tmp 62) 0, type := 36, pos := "outright.go:58", after := #[{ on := 6, ground := Ground.data }], guard := none }) (v := ?_) rfl (by kernel_rfl) (by kernel_rfl) (by kernel_rfl) (fun _ _ _ h => h) (Or.inl ⟨by rfl, ?_⟩) ?_
              rotate_left
              focus (intro w; go_simp; try with_reducible rfl)
              try simp only [Act.put, List.setIfInBounds_toArray, List.set_cons_zero, List.set_cons_succ]
              refine wpAny_take (i := 8) (oi := { dst := some 70, op := Op.extract (Operand.tmp 62) 1, type := 37, pos := "outright.go:58", after := #[{ on := 6, ground := Ground.data }, { on := 10, ground := Ground.gcOnly Departure.lateStores }], guard := none }) (v := ?_) rfl (by kernel_rfl) (by kernel_rfl) (by kernel_rfl) (fun _ _ _ h => h) (Or.inl ⟨by rfl, ?_⟩) ?_
              rotate_left
              focus (intro w; go_simp; try with_reducible rfl)
              try simp only [Act.put, List.setIfInBounds_toArray, List.set_cons_zero, List.set_cons_succ]
              refine wpAny_ready (rs := [9]) (by kernel_rfl) (by simp) ?_
              refine AllReady.cons (o := { dst := some 12, op := Op.alloc 36, type := 0, pos := "outright.go:58", after := #[], guard := none }) rfl (fun K hK => ?_) ?_
              · go_simp
                refine hK _ _ ?_
                clear hK K
                obtain ⟨b12, hb12⟩ : ∃ b12, w9.heap.size = b12 := ⟨_, rfl⟩
                rw [hb12]
                refine at_world (p := fun W => wpAny _ _ _ _ _ _ _ W) (R := fun Y => Frm [] wr Y ∧ IsW Y b8 36 x.l ∧ Y.cell? ⟨g, k, none⟩ = some (.slice (some ⟨gu, 0, none⟩) 64 capu) ∧ Y.heap[b12]? = some (.cells Z8 36 (0, 0)) ∧ wr.heap.size ≤ b12) ⟨fc.alloc _, x8.keepF ((Frm.refl [] _).alloc _), ((Frm.refl [] _).alloc _).cell d2 (by simp), heap_alloc_at hb12.symm, by have := fc.size; omega⟩ ?_
                clear hb12 fc x8 d2
                rintro Y2 ⟨fc, x8, d2, z12, q12⟩
                refine wpAny_ready (rs := [10]) (by kernel_rfl) (by simp) ?_
                refine AllReady.cons (o := { dst := none, op := Op.store 36 (Operand.tmp 12) (Operand.tmp 69), type := 0, pos := "outright.go:58", after := #[{ on := 9, ground := Ground.data }, { on := 7, ground := Ground.data }, { on := 5, ground := Ground.chain }, { on := 0, ground := Ground.phase }, { on := 1, ground := Ground.phase }, { on := 2, ground := Ground.phase }, { on := 3, ground := Ground.phase }, { on := 4, ground := Ground.phase }, { on := 5, ground := Ground.phase }, { on := 6, ground := Ground.phase }, { on := 7, ground := Ground.phase }, { on := 8, ground := Ground.textOnly Departure.lateStores }, { on := 9, ground := Ground.phase }], guard := none }) rfl (fun K hK => ?_) ?_
                · rw [if_pos (by rfl)]
                  refine wp_store_row 36 (.tmp 12) (.tmp 69) rfl b12 (W32 y.l).toArray rfl rfl 36 _ z12 (by rw [W32_sz]; exact i36) (by rw [W32_sz]; rfl) (W32_one _) ?_
                  refine hK _ _ ?_
                  clear hK K
                  try simp only [Act.put, List.setIfInBounds_toArray, List.set_cons_zero, List.set_cons_succ]
                  have hne : b8 ≠ b12 := by have h1 := lt_heap H.out; omega
                  refine at_world (p := fun W => wpAny _ _ _ _ _ _ _ W) (R := fun Y => Frm [] wr Y ∧ IsW Y b8 36 x.l ∧ Y.cell? ⟨g, k, none⟩ = some (.slice (some ⟨gu, 0, none⟩) 64 capu) ∧ IsW Y b12 36 y.l) ⟨fc.setRow _ _ (.inr q12), ((Frm.refl [b12] _).setRow _ _ (.inl (by simp))).heap x8 (by simpa using hne), ((Frm.refl [b12] _).setRow _ _ (.inl (by simp))).cell d2 (by have h1 := World.block_lt_of_cell? _ _ D2.out; simp at h1 ⊢; omega), setRow_heap _ _ _ _ _ _ z12⟩ ?_
                  clear fc x8 d2 z12
                  rintro Z0 ⟨fc, x8, d2, y12⟩
                  refine wpAny_take (i := 11) (oi := { dst := some 13, op := Op.assign (Operand.tmp 70), type := 37, pos := "outright.go:58", after := #[{ on := 8, ground := Ground.data }, { on := 10, ground := Ground.chain }, { on := 0, ground := Ground.phase }, { on := 1, ground := Ground.phase }, { on := 2, ground := Ground.phase }, { on := 3, ground := Ground.phase }, { on := 4, ground := Ground.phase }, { on := 5, ground := Ground.phase }, { on := 6, ground := Ground.phase }, { on := 7, ground := Ground.phase }, { on := 8, ground := Ground.phase }, { on := 9, ground := Ground.phase }, { on := 10, ground := Ground.phase }], guard := none }) (v := ?_) rfl (by kernel_rfl) (by kernel_rfl) (by kernel_rfl) (fun _ _ _ h => h) (Or.inl ⟨by rfl, ?_⟩) ?_
                  rotate_left
                  focus (intro w; go_simp; try with_reducible rfl)
                  try simp only [Act.put, List.setIfInBounds_toArray, List.set_cons_zero, List.set_cons_succ]
                  refine wpAny_done (by kernel_rfl) ?_ _
                  have FC := Lib.hid fc
                  have X8 := Lib.hid x8
                  have D3 := Lib.hid d2
                  have Y12 := Lib.hid y12
                  have HNE := Lib.hid hne
                  have Q12 := Lib.hid q12
                  clear fc x8 d2 y12 hne q12
                  go_upto_region 20 with (fail)
                  refine wp_region_lit ?_
                  refine wpList_load_row rfl 36 (.tmp 12) rfl b12 rfl 36 (W32 y.l).toArray (0, 0) _ Y12.out d36 rfl (by rw [W32_sz]; exact i36) ?_
                  refine wpList_store_row rfl 36 (.tmp 8) (.tmp 73) rfl b8 (W32 y.l).toArray rfl rfl 36 _ X8.out (by rw [W32_sz]; exact i36) (by rw [W32_sz, W32_sz]) (W32_one _) ?_
                  refine wpList_nil ?_
                  refine at_world (p := fun W => Exit.then _ _ _ _ W) (R := fun Y => Frm [b8] wr Y ∧ IsW Y b8 36 y.l ∧ Y.cell? ⟨g, k, none⟩ = some (.slice (some ⟨gu, 0, none⟩) 64 capu)) ⟨(FC.out.mono (by simp)).setRow _ _ (.inl (by simp)), setRow_heap _ _ _ _ _ _ X8.out, ((Frm.refl [b8] _).setRow _ _ (.inl (by simp))).cell D3.out (by have h := HGB.out; simpa using h)⟩ ?_
                  clear X8 D3 Y12 FC
                  rintro V0 ⟨fc, x8, d2⟩
                  have FC := Lib.hid fc
                  have X8 := Lib.hid x8
                  clear fc x8
                  have OC := Lib.hid (O7.out.keep FC.out (fun i hi h => by have h1 := N7.out i hi; have h2 := ZB.out; simp at h; omega))
                  have SC := Lib.hid (O2.out.sl.keep FC.out (by have h := HUB.out; simpa [blk] using h))
                  have JL := Lib.hid (show (joinK (filled l) k).length + (pieceL (filled l) k).length = (joinK (filled l) (k + 1)).length by rw [HJS.out, List.length_append])
                  have BD := Lib.hid (show (joinK (filled l) k).length + (pieceL (filled l) k).length ≤ 140737488355328 by have h1 := joinK_len (filled l) k; have h2 := HPL.out; have h3 := hlt; have h4 := HPC.out; omega)
                  go_wp2_with (at_builtin; refine wpList_append_bytes BT OC.out SC.out BD.out rfl (.tmp 74) (.tmp 78) rfl rfl rfl ?_; intro a4 cap4 w4 sp4 o4 f4 n4)
                  rw [JL.out] at o4 n4 ⊢
                  rw [← HJS.out] at o4
                  have hnew : PieRel w5 (filled l) (pcs l.length) b8 (.slice a4 (joinK (filled l) (k + 1)).length cap4) (.int .i64 ((k : Int) + 1)) w4 := ⟨k + 1, by omega, by go_num, ⟨_, _, sp4, rfl, o4, fun i hi => by
                    rcases n4 i hi with h | h
                    · exact N7.out i h
                    · have h1 := FC.out.size; have h2 := F.out.size; omega⟩, by rw [HTS.out]; exact f4.heap X8.out (fun h => by have h1 := N7.out _ h; have h2 := ZB.out; omega), (F.out.trans FC.out (by simp)).trans f4 (fun i hi => .inr (N7.out i hi))⟩
                  have HNW := Lib.hid hnew
                  have KP := Lib.hid hlt
                  clear hnew o4 f4 n4 d2
                  go_wp2_with fail
                  go_roundw
                  case rel => exact HNW.out
                  case measure => have := KP.out; simp [intOf]; omega
                exact AllReady.nil
              exact AllReady.nil
            refine AllReady.cons (o := { dst := some 12, op := Op.alloc 36, type := 0, pos := "outright.go:58", after := #[], guard := none }) rfl (fun K hK => ?_) ?_
            · go_simp
              refine hK _ _ ?_
              clear hK K
              obtain ⟨b12, hb12⟩ : ∃ b12, Y0.heap.size = b12 := ⟨_, rfl⟩
              rw [hb12]
              refine at_world (p := fun W => wpAny _ _ _ _ _ _ _ W) (R := fun Y => Frm [] wr Y ∧ IsW Y b8 36 x.l ∧ Y.cell? ⟨g, k, none⟩ = some (.slice (some ⟨gu, 0, none⟩) 64 capu) ∧ Y.heap[b12]? = some (.cells Z8 36 (0, 0)) ∧ wr.heap.size ≤ b12) ⟨fc.alloc _, x8.keepF ((Frm.refl [] _).alloc _), ((Frm.refl [] _).alloc _).cell d2 (by simp), heap_alloc_at hb12.symm, by have := fc.size; omega⟩ ?_
              clear hb12 fc x8 d2
              rintro Y3 ⟨fc, x8, d2, z12, q12⟩
              refine wpAny_ready (rs := [5]) (by kernel_rfl) (by simp) ?_
              refine AllReady.cons (o := { dst := some 68, op := Op.call { callee := Callee.value (Operand.func 19), args := #[Operand.tmp 63, Operand.tmp 67], argTypes := #[36, 22] }, type := 38, pos := "outright.go:58", after := #[{ on := 0, ground := Ground.data }, { on := 4, ground := Ground.data }], guard := none }) rfl (fun K hK => ?_) ?_
              · go_simp
                refine (HC.out _ fc).mono ?_
                rintro r w9 ⟨rfl, f9⟩
                have x8 := x8.keepF f9
                have d2 := f9.cell d2 (by simp)
                have fc := fc.trans f9 (by simp)
                have z12 := f9.heap z12 (by simp)
                clear f9
                refine hK _ _ ?_
                clear hK K
                try simp only [Act.put, List.setIfInBounds_toArray, List.set_cons_zero, List.set_cons_succ]
                refine wpAny_take (i := 6) (oi := { dst := some 62, op := Op.move (Operand.tmp 68), type := 38, pos := "outright.go:58", after := #[{ on := 5, ground := Ground.data }], guard := none }) (v := ?_) rfl (by kernel_rfl) (by kernel_rfl) (by kernel_rfl) (fun _ _ _ h => h) (Or.inl ⟨by rfl, ?_⟩) ?_
                rotate_left
                focus (intro w; go_simp; try with_reducible rfl)
                try simp only [Act.put, List.setIfInBounds_toArray, List.set_cons_zero, List.set_cons_succ]
                refine wpAny_take (i := 7) (oi := { dst := some 69, op := Op.extract (Operand.tmp 62) 0, type := 36, pos := "outright.go:58", after := #[{ on := 6, ground := Ground.data }], guard := none }) (v := ?_) rfl (by kernel_rfl) (by kernel_rfl) (by kernel_rfl) (fun _ _ _ h => h) (Or.inl ⟨by rfl, ?_⟩) ?_
                rotate_left
                focus (intro w; go_simp; try with_reducible rfl)
                try simp only [Act.put, List.setIfInBounds_toArray, List.set_cons_zero, List.set_cons_succ]
                refine wpAny_take (i := 8) (oi := { dst := some 70, op := Op.extract (Operand.tmp 62) 1, type := 37, pos := "outright.go:58", after := #[{ on := 6, ground := Ground.data }, { on := 10, ground := Ground.gcOnly Departure.lateStores }], guard := none }) (v := ?_) rfl (by kernel_rfl) (by kernel_rfl) (by kernel_rfl) (fun _ _ _ h => h) (Or.inl ⟨by rfl, ?_⟩) ?_
                rotate_left
                focus (intro w; go_simp; try with_reducible rfl)
                try simp only [Act.put, List.setIfInBounds_toArray, List.set_cons_zero, List.set_cons_succ]
                refine wpAny_ready (rs := [10]) (by kernel_rfl) (by simp) ?_
                refine AllReady.cons (o := { dst := none, op := Op.store 36 (Operand.tmp 12) (Operand.tmp 69), type := 0, pos := "outright.go:58", after := #[{ on := 9, ground := Ground.data }, { on := 7, ground := Ground.data }, { on := 5, ground := Ground.chain }, { on := 0, ground := Ground.phase }, { on := 1, ground := Ground.phase }, { on := 2, ground := Ground.phase }, { on := 3, ground := Ground.phase }, { on := 4, ground := Ground.phase }, { on := 5, ground := Ground.phase }, { on := 6, ground := Ground.phase }, { on := 7, ground := Ground.phase }, { on := 8, ground := Ground.textOnly Departure.lateStores }, { on := 9, ground := Ground.phase }], guard := none }) rfl (fun K hK => ?_) ?_
                · rw [if_pos (by rfl)]
                  refine wp_store_row 36 (.tmp 12) (.tmp 69) rfl b12 (W32 y.l).toArray rfl rfl 36 _ z12 (by rw [W32_sz]; exact i36) (by rw [W32_sz]; rfl) (W32_one _) ?_
                  refine hK _ _ ?_
                  clear hK K
                  try simp only [Act.put, List.setIfInBounds_toArray, List.set_cons_zero, List.set_cons_succ]
                  have hne : b8 ≠ b12 := by have h1 := lt_heap H.out; omega
                  refine at_world (p := fun W => wpAny _ _ _ _ _ _ _ W) (R := fun Y => Frm [] wr Y ∧ IsW Y b8 36 x.l ∧ Y.cell? ⟨g, k, none⟩ = some (.slice (some ⟨gu, 0, none⟩) 64 capu) ∧ IsW Y b12 36 y.l) ⟨fc.setRow _ _ (.inr q12), ((Frm.refl [b12] _).setRow _ _ (.inl (by simp))).heap x8 (by simpa using hne), ((Frm.refl [b12] _).setRow _ _ (.inl (by simp))).cell d2 (by have h1 := World.block_lt_of_cell? _ _ D2.out; simp at h1 ⊢; omega), setRow_heap _ _ _ _ _ _ z12⟩ ?_
                  clear fc x8 d2 z12
                  rintro Z0 ⟨fc, x8, d2, y12⟩
                  refine wpAny_take (i := 11) (oi := { dst := some 13, op := Op.assign (Operand.tmp 70), type := 37, pos := "outright.go:58", after := #[{ on := 8, ground := Ground.data }, { on := 10, ground := Ground.chain }, { on := 0, ground := Ground.phase }, { on := 1, ground := Ground.phase }, { on := 2, ground := Ground.phase }, { on := 3, ground := Ground.phase }, { on := 4, ground := Ground.phase }, { on := 5, ground := Ground.phase }, { on := 6, ground := Ground.phase }, { on := 7, ground := Ground.phase }, { on := 8, ground := Ground.phase }, { on := 9, ground := Ground.phase }, { on := 10, ground := Ground.phase }], guard := none }) (v := ?_) rfl (by kernel_rfl) (by kernel_rfl) (by kernel_rfl) (fun _ _ _ h => h) (Or.inl ⟨by rfl, ?_⟩) ?_
                  rotate_left
                  focus (intro w; go_simp; try with_reducible rfl)
                  try simp only [Act.put, List.setIfInBounds_toArray, List.set_cons_zero, List.set_cons_succ]
                  refine wpAny_done (by kernel_rfl) ?_ _
                  have FC := Lib.hid fc
                  have X8 := Lib.hid x8
                  have D3 := Lib.hid d2
                  have Y12 := Lib.hid y12
                  have HNE := Lib.hid hne
                  have Q12 := Lib.hid q12
                  clear fc x8 d2 y12 hne q12
                  go_upto_region 20 with (fail)
                  refine wp_region_lit ?_
                  refine wpList_load_row rfl 36 (.tmp 12) rfl b12 rfl 36 (W32 y.l).toArray (0, 0) _ Y12.out d36 rfl (by rw [W32_sz]; exact i36) ?_
                  refine wpList_store_row rfl 36 (.tmp 8) (.tmp 73) rfl b8 (W32 y.l).toArray rfl rfl 36 _ X8.out (by rw [W32_sz]; exact i36) (by rw [W32_sz, W32_sz]) (W32_one _) ?_
                  refine wpList_nil ?_
                  refine at_world (p := fun W => Exit.then _ _ _ _ W) (R := fun Y => Frm [b8] wr Y ∧ IsW Y b8 36 y.l ∧ Y.cell? ⟨g, k, none⟩ = some (.slice (some ⟨gu, 0, none⟩) 64 capu)) ⟨(FC.out.mono (by simp)).setRow _ _ (.inl (by simp)), setRow_heap _ _ _ _ _ _ X8.out, ((Frm.refl [b8] _).setRow _ _ (.inl (by simp))).cell D3.out (by have h := HGB.out; simpa using h)⟩ ?_
                  clear X8 D3 Y12 FC
                  rintro V0 ⟨fc, x8, d2⟩
                  have FC := Lib.hid fc
                  have X8 := Lib.hid x8
                  clear fc x8
                  have OC := Lib.hid (O7.out.keep FC.out (fun i hi h => by have h1 := N7.out i hi; have h2 := ZB.out; simp at h; omega))
                  have SC := Lib.hid (O2.out.sl.keep FC.out (by have h := HUB.out; simpa [blk] using h))
                  have JL := Lib.hid (show (joinK (filled l) k).length + (pieceL (filled l) k).length = (joinK (filled l) (k + 1)).length by rw [HJS.out, List.length_append])
                  have BD := Lib.hid (show (joinK (filled l) k).length + (pieceL (filled l) k).length ≤ 140737488355328 by have h1 := joinK_len (filled l) k; have h2 := HPL.out; have h3 := hlt; have h4 := HPC.out; omega)
                  go_wp2_with (at_builtin; refine wpList_append_bytes BT OC.out SC.out BD.out rfl (.tmp 74) (.tmp 78) rfl rfl rfl ?_; intro a4 cap4 w4 sp4 o4 f4 n4)
                  rw [JL.out] at o4 n4 ⊢
                  rw [← HJS.out] at o4
                  have hnew : PieRel w5 (filled l) (pcs l.length) b8 (.slice a4 (joinK (filled l) (k + 1)).length cap4) (.int .i64 ((k : Int) + 1)) w4 := ⟨k + 1, by omega, by go_num, ⟨_, _, sp4, rfl, o4, fun i hi => by
                    rcases n4 i hi with h | h
                    · exact N7.out i h
                    · have h1 := FC.out.size; have h2 := F.out.size; omega⟩, by rw [HTS.out]; exact f4.heap X8.out (fun h => by have h1 := N7.out _ h; have h2 := ZB.out; omega), (F.out.trans FC.out (by simp)).trans f4 (fun i hi => .inr (N7.out i hi))⟩
                  have HNW := Lib.hid hnew
                  have KP := Lib.hid hlt
                  clear hnew o4 f4 n4 d2
                  go_wp2_with fail
                  go_roundw
                  case rel => exact HNW.out
                  case measure => have := KP.out; simp [intOf]; omega
                exact AllReady.nil
              exact AllReady.nil
            exact AllReady.nil
          refine AllReady.cons (o := { dst := some 12, op := Op.alloc 36, type := 0, pos := "outright.go:58", after := #[], guard := none }) rfl (fun K hK => ?_) ?_
          · go_simp
            refine hK _ _ ?_
            clear hK K
            obtain ⟨b12, hb12⟩ : ∃ b12, Y0.heap.size = b12 := ⟨_, rfl⟩
            rw [hb12]
            refine at_world (p := fun W => wpAny _ _ _ _ _ _ _ W) (R := fun Y => Frm [] wr Y ∧ IsW Y b8 36 x.l ∧ Y.cell? ⟨g, k, none⟩ = some (.slice (some ⟨gu, 0, none⟩) 64 capu) ∧ Y.heap[b12]? = some (.cells Z8 36 (0, 0)) ∧ wr.heap.size ≤ b12) ⟨fc.alloc _, x8.keepF ((Frm.refl [] _).alloc _), ((Frm.refl [] _).alloc _).cell d2 (by simp), heap_alloc_at hb12.symm, by have := fc.size; omega⟩ ?_
            clear hb12 fc x8 d2
            rintro Y5 ⟨fc, x8, d2, z12, q12⟩
            refine wpAny_ready (rs := [4]) (by kernel_rfl) (by simp) ?_
            refine AllReady.cons (o := { dst := some 67, op := Op.load 22 (Operand.tmp 66), type := 22, pos := "outright.go:58", after := #[{ on := 3, ground := Ground.data }], guard := none }) rfl (fun K hK => ?_) ?_
            · go_simp
              refine hK _ _ ?_
              clear hK K
              refine wpAny_ready (rs := [5]) (by kernel_rfl) (by simp) ?_
              refine AllReady.cons (o := { dst := some 68, op := Op.call { callee := Callee.value (Operand.func 19), args := #[Operand.tmp 63, Operand.tmp 67], argTypes := #[36, 22] }, type := 38, pos := "outright.go:58", after := #[{ on := 0, ground := Ground.data }, { on := 4, ground := Ground.data }], guard := none }) rfl (fun K hK => ?_) ?_
              · go_simp
                refine (HC.out _ fc).mono ?_
                rintro r w9 ⟨rfl, f9⟩
                have x8 := x8.keepF f9
                have d2 := f9.cell d2 (by simp)
                have fc := fc.trans f9 (by simp)
                have z12 := f9.heap z12 (by simp)
                clear f9
                refine hK _ _ ?_
                clear hK K
                try simp only [Act.put, List.setIfInBounds_toArray, List.set_cons_zero, List.set_cons_succ]
                refine wpAny_take (i := 6) (oi := { dst := some 62, op := Op.move (Operand.tmp 68), type := 38, pos := "outright.go:58", after := #[{ on := 5, ground := Ground.data }], guard := none }) (v := ?_) rfl (by kernel_rfl) (by kernel_rfl) (by kernel_rfl) (fun _ _ _ h => h) (Or.inl ⟨by rfl, ?_⟩) ?_
                rotate_left
                focus (intro w; go_simp; try with_reducible rfl)
                try simp only [Act.put, List.setIfInBounds_toArray, List.set_cons_zero, List.set_cons_succ]
                refine wpAny_take (i := 7) (oi := { dst := some 69, op := Op.extract (Operand.tmp 62) 0, type := 36, pos := "outright.go:58", after := #[{ on := 6, ground := Ground.data }], guard := none }) (v := ?_) rfl (by kernel_rfl) (by kernel_rfl) (by kernel_rfl) (fun _ _ _ h => h) (Or.inl ⟨by rfl, ?_⟩) ?_
                rotate_left
                focus (intro w; go_simp; try with_reducible rfl)
                try simp only [Act.put, List.setIfInBounds_toArray, List.set_cons_zero, List.set_cons_succ]
                refine wpAny_take (i := 8) (oi := { dst := some 70, op := Op.extract (Operand.tmp 62) 1, type := 37, pos := "outright.go:58", after := #[{ on := 6, ground := Ground.data }, { on := 10, ground := Ground.gcOnly Departure.lateStores }], guard := none }) (v := ?_) rfl (by kernel_rfl) (by kernel_rfl) (by kernel_rfl) (fun _ _ _ h => h) (Or.inl ⟨by rfl, ?_⟩) ?_
                rotate_left
                focus (intro w; go_simp; try with_reducible rfl)
                try simp only [Act.put, List.setIfInBounds_toArray, List.set_cons_zero, List.set_cons_succ]
                refine wpAny_ready (rs := [10]) (by kernel_rfl) (by simp) ?_
                refine AllReady.cons (o := { dst := none, op := Op.store 36 (Operand.tmp 12) (Operand.tmp 69), type := 0, pos := "outright.go:58", after := #[{ on := 9, ground := Ground.data }, { on := 7, ground := Ground.data }, { on := 5, ground := Ground.chain }, { on := 0, ground := Ground.phase }, { on := 1, ground := Ground.phase }, { on := 2, ground := Ground.phase }, { on := 3, ground := Ground.phase }, { on := 4, ground := Ground.phase }, { on := 5, ground := Ground.phase }, { on := 6, ground := Ground.phase }, { on := 7, ground := Ground.phase }, { on := 8, ground := Ground.textOnly Departure.lateStores }, { on := 9, ground := Ground.phase }], guard := none }) rfl (fun K hK => ?_) ?_
                · rw [if_pos (by rfl)]
                  refine wp_store_row 36 (.tmp 12) (.tmp 69) rfl b12 (W32 y.l).toArray rfl rfl 36 _ z12 (by rw [W32_sz]; exact i36) (by rw [W32_sz]; rfl) (W32_one _) ?_
                  refine hK _ _ ?_
                  clear hK K
                  try simp only [Act.put, List.setIfInBounds_toArray, List.set_cons_zero, List.set_cons_succ]
                  have hne : b8 ≠ b12 := by have h1 := lt_heap H.out; omega
                  refine at_world (p := fun W => wpAny _ _ _ _ _ _ _ W) (R := fun Y => Frm [] wr Y ∧ IsW Y b8 36 x.l ∧ Y.cell? ⟨g, k, none⟩ = some (.slice (some ⟨gu, 0, none⟩) 64 capu) ∧ IsW Y b12 36 y.l) ⟨fc.setRow _ _ (.inr q12), ((Frm.refl [b12] _).setRow _ _ (.inl (by simp))).heap x8 (by simpa using hne), ((Frm.refl [b12] _).setRow _ _ (.inl (by simp))).cell d2 (by have h1 := World.block_lt_of_cell? _ _ D2.out; simp at h1 ⊢; omega), setRow_heap _ _ _ _ _ _ z12⟩ ?_
                  clear fc x8 d2 z12
                  rintro Z0 ⟨fc, x8, d2, y12⟩
                  refine wpAny_take (i := 11) (oi := { dst := some 13, op := Op.assign (Operand.tmp 70), type := 37, pos := "outright.go:58", after := #[{ on := 8, ground := Ground.data }, { on := 10, ground := Ground.chain }, { on := 0, ground := Ground.phase }, { on := 1, ground := Ground.phase }, { on := 2, ground := Ground.phase }, { on := 3, ground := Ground.phase }, { on := 4, ground := Ground.phase }, { on := 5, ground := Ground.phase }, { on := 6, ground := Ground.phase }, { on := 7, ground := Ground.phase }, { on := 8, ground := Ground.phase }, { on := 9, ground := Ground.phase }, { on := 10, ground := Ground.phase }], guard := none }) (v := ?_) rfl (by kernel_rfl) (by kernel_rfl) (by kernel_rfl) (fun _ _ _ h => h) (Or.inl ⟨by rfl, ?_⟩) ?_
                  rotate_left
                  focus (intro w; go_simp; try with_reducible rfl)
                  try simp only [Act.put, List.setIfInBounds_toArray, List.set_cons_zero, List.set_cons_succ]
                  refine wpAny_done (by kernel_rfl) ?_ _
                  have FC := Lib.hid fc
                  have X8 := Lib.hid x8
                  have D3 := Lib.hid d2
                  have Y12 := Lib.hid y12
                  have HNE := Lib.hid hne
                  have Q12 := Lib.hid q12
                  clear fc x8 d2 y12 hne q12
                  go_upto_region 20 with (fail)
                  refine wp_region_lit ?_
                  refine wpList_load_row rfl 36 (.tmp 12) rfl b12 rfl 36 (W32 y.l).toArray (0, 0) _ Y12.out d36 rfl (by rw [W32_sz]; exact i36) ?_
                  refine wpList_store_row rfl 36 (.tmp 8) (.tmp 73) rfl b8 (W32 y.l).toArray rfl rfl 36 _ X8.out (by rw [W32_sz]; exact i36) (by rw [W32_sz, W32_sz]) (W32_one _) ?_
                  refine wpList_nil ?_
                  refine at_world (p := fun W => Exit.then _ _ _ _ W) (R := fun Y => Frm [b8] wr Y ∧ IsW Y b8 36 y.l ∧ Y.cell? ⟨g, k, none⟩ = some (.slice (some ⟨gu, 0, none⟩) 64 capu)) ⟨(FC.out.mono (by simp)).setRow _ _ (.inl (by simp)), setRow_heap _ _ _ _ _ _ X8.out, ((Frm.refl [b8] _).setRow _ _ (.inl (by simp))).cell D3.out (by have h := HGB.out; simpa using h)⟩ ?_
                  clear X8 D3 Y12 FC
                  rintro V0 ⟨fc, x8, d2⟩
                  have FC := Lib.hid fc
                  have X8 := Lib.hid x8
                  clear fc x8
                  have OC := Lib.hid (O7.out.keep FC.out (fun i hi h => by have h1 := N7.out i hi; have h2 := ZB.out; simp at h; omega))
                  have SC := Lib.hid (O2.out.sl.keep FC.out (by have h := HUB.out; simpa [blk] using h))
                  have JL := Lib.hid (show (joinK (filled l) k).length + (pieceL (filled l) k).length = (joinK (filled l) (k + 1)).length by rw [HJS.out, List.length_append])
                  have BD := Lib.hid (show (joinK (filled l) k).length + (pieceL (filled l) k).length ≤ 140737488355328 by have h1 := joinK_len (filled l) k; have h2 := HPL.out; have h3 := hlt; have h4 := HPC.out; omega)
                  go_wp2_with (at_builtin; refine wpList_append_bytes BT OC.out SC.out BD.out rfl (.tmp 74) (.tmp 78) rfl rfl rfl ?_; intro a4 cap4 w4 sp4 o4 f4 n4)
                  rw [JL.out] at o4 n4 ⊢
                  rw [← HJS.out] at o4
                  have hnew : PieRel w5 (filled l) (pcs l.length) b8 (.slice a4 (joinK (filled l) (k + 1)).length cap4) (.int .i64 ((k : Int) + 1)) w4 := ⟨k + 1, by omega, by go_num, ⟨_, _, sp4, rfl, o4, fun i hi => by
                    rcases n4 i hi with h | h
                    · exact N7.out i h
                    · have h1 := FC.out.size; have h2 := F.out.size; omega⟩, by rw [HTS.out]; exact f4.heap X8.out (fun h => by have h1 := N7.out _ h; have h2 := ZB.out; omega), (F.out.trans FC.out (by simp)).trans f4 (fun i hi => .inr (N7.out i hi))⟩
                  have HNW := Lib.hid hnew
                  have KP := Lib.hid hlt
                  clear hnew o4 f4 n4 d2
                  go_wp2_with fail
                  go_roundw
                  case rel => exact HNW.out
                  case measure => have := KP.out; simp [intOf]; omega
                exact AllReady.nil
              exact AllReady.nil
            exact AllReady.nil
          exact AllReady.nil
        refine AllReady.cons (o := { dst := some 67, op := Op.load 22 (Operand.tmp 66), type := 22, pos := "outright.go:58", after := #[{ on := 3, ground := Ground.data }], guard := none }) rfl (fun K hK => ?_) ?_
        · go_simp
          refine hK _ _ ?_
          clear hK K
          refine wpAny_ready (rs := [0, 9]) (by kernel_rfl) (by simp) ?_
          refine AllReady.cons (o := { dst := some 63, op := Op.load 36 (Operand.tmp 8), type := 36, pos := "outright.go:58", after := #[], guard := none }) rfl (fun K hK => ?_) ?_
          · rw [if_pos (by rfl)]
            refine wp_load_row 36 (.tmp 8) rfl b8 rfl 36 (W32 x.l).toArray (0, 0) _ x8 d36 rfl (by rw [W32_sz]; exact i36) ?_
            refine hK _ _ ?_
            clear hK K
            try simp only [Act.put, List.setIfInBounds_toArray, List.set_cons_zero, List.set_cons_succ]
            refine wpAny_ready (rs := [5, 9]) (by kernel_rfl) (by simp) ?_
            refine AllReady.cons (o := { dst := some 68, op := Op.call { callee := Callee.value (Operand.func 19), args := #[Operand.tmp 63, Operand.tmp 67], argTypes := #[36, 22] }, type := 38, pos := "outright.go:58", after := #[{ on := 0, ground := Ground.data }, { on := 4, ground := Ground.data }], guard := none }) rfl (fun K hK => ?_) ?_
            · go_simp
              refine (HC.out _ fc).mono ?_
              rintro r w9 ⟨rfl, f9⟩
              have x8 := x8.keepF f9
              have d2 := f9.cell d2 (by simp)
              have fc := fc.trans f9 (by simp)
              clear f9
              refine hK _ _ ?_
              clear hK K
              try simp only [Act.put, List.setIfInBounds_toArray, List.set_cons_zero, List.set_cons_succ]
              refine wpAny_take (i := 6) (oi := { dst := some 62, op := Op.move (Operand.tmp 68), type := 38, pos := "outright.go:58", after := #[{ on := 5, ground := Ground.data }], guard := none }) (v := ?_) rfl (by kernel_rfl) (by kernel_rfl) (by kernel_rfl) (fun _ _ _ h => h) (Or.inl ⟨by rfl, ?_⟩) ?_
              rotate_left
              focus (intro w; go_simp; try with_reducible rfl)
              try simp only [Act.put, List.setIfInBounds_toArray, List.set_cons_zero, List.set_cons_succ]
              refine wpAny_take (i := 7) (oi := { dst := some 69, op := Op.extract (Operand.tmp 62) 0, type := 36, pos := "outright.go:58", after := #[{ on := 6, ground := Ground.data }], guard := none }) (v := ?_) rfl (by kernel_rfl) (by kernel_rfl) (by kernel_rfl) (fun _ _ _ h => h) (Or.inl ⟨by rfl, ?_⟩) ?_
              rotate_left
              focus (intro w; go_simp; try with_reducible rfl)
              try simp only [Act.put, List.setIfInBounds_toArray, List.set_cons_zero, List.set_cons_succ]
              refine wpAny_take (i := 8) (oi := { dst := some 70, op := Op.extract (Operand.tmp 62) 1, type := 37, pos := "outright.go:58", after := #[{ on := 6, ground := Ground.data }, { on := 10, ground := Ground.gcOnly Departure.lateStores }], guard := none }) (v := ?_) rfl (by kernel_rfl) (by kernel_rfl) (by kernel_rfl) (fun _ _ _ h => h) (Or.inl ⟨by rfl, ?_⟩) ?_
              rotate_left
              focus (intro w; go_simp; try with_reducible rfl)
              try simp only [Act.put, List.setIfInBounds_toArray, List.set_cons_zero, List.set_cons_succ]
              refine wpAny_ready (rs := [9]) (by kernel_rfl) (by simp) ?_
              refine AllReady.cons (o := { dst := some 12, op := Op.alloc 36, type := 0, pos := "outright.go:58", after := #[], guard := none }) rfl (fun K hK => ?_) ?_
              · go_simp
                refine hK _ _ ?_
                clear hK K
                obtain ⟨b12, hb12⟩ : ∃ b12, w9.heap.size = b12 := ⟨_, rfl⟩
                rw [hb12]
                refine at_world (p := fun W => wpAny _ _ _ _ _ _ _ W) (R := fun Y => Frm [] wr Y ∧ IsW Y b8 36 x.l ∧ Y.cell? ⟨g, k, none⟩ = some (.slice (some ⟨gu, 0, none⟩) 64 capu) ∧ Y.heap[b12]? = some (.cells Z8 36 (0, 0)) ∧ wr.heap.size ≤ b12) ⟨fc.alloc _, x8.keepF ((Frm.refl [] _).alloc _), ((Frm.refl [] _).alloc _).cell d2 (by simp), heap_alloc_at hb12.symm, by have := fc.size; omega⟩ ?_
                clear hb12 fc x8 d2
                rintro Y8 ⟨fc, x8, d2, z12, q12⟩
                refine wpAny_ready (rs := [10]) (by kernel_rfl) (by simp) ?_
                refine AllReady.cons (o := { dst := none, op := Op.store 36 (Operand.tmp 12) (Operand.tmp 69), type := 0, pos := "outright.go:58", after := #[{ on := 9, ground := Ground.data }, { on := 7, ground := Ground.data }, { on := 5, ground := Ground.chain }, { on := 0, ground := Ground.phase }, { on := 1, ground := Ground.phase }, { on := 2, ground := Ground.phase }, { on := 3, ground := Ground.phase }, { on := 4, ground := Ground.phase }, { on := 5, ground := Ground.phase }, { on := 6, ground := Ground.phase }, { on := 7, ground := Ground.phase }, { on := 8, ground := Ground.textOnly Departure.lateStores }, { on := 9, ground := Ground.phase }], guard := none }) rfl (fun K hK => ?_) ?_
                · rw [if_pos (by rfl)]
                  refine wp_store_row 36 (.tmp 12) (.tmp 69) rfl b12 (W32 y.l).toArray rfl rfl 36 _ z12 (by rw [W32_sz]; exact i36) (by rw [W32_sz]; rfl) (W32_one _) ?_
                  refine hK _ _ ?_
                  clear hK K
                  try simp only [Act.put, List.setIfInBounds_toArray, List.set_cons_zero, List.set_cons_succ]
                  have hne : b8 ≠ b12 := by have h1 := lt_heap H.out; omega
                  refine at_world (p := fun W => wpAny _ _ _ _ _ _ _ W) (R := fun Y => Frm [] wr Y ∧ IsW Y b8 36 x.l ∧ Y.cell? ⟨g, k, none⟩ = some (.slice (some ⟨gu, 0, none⟩) 64 capu) ∧ IsW Y b12 36 y.l) ⟨fc.setRow _ _ (.inr q12), ((Frm.refl [b12] _).setRow _ _ (.inl (by simp))).heap x8 (by simpa using hne), ((Frm.refl [b12] _).setRow _ _ (.inl (by simp))).cell d2 (by have h1 := World.block_lt_of_cell? _ _ D2.out; simp at h1 ⊢; omega), setRow_heap _ _ _ _ _ _ z12⟩ ?_
                  clear fc x8 d2 z12
                  rintro Z0 ⟨fc, x8, d2, y12⟩
                  refine wpAny_take (i := 11) (oi := { dst := some 13, op := Op.assign (Operand.tmp 70), type := 37, pos := "outright.go:58", after := #[{ on := 8, ground := Ground.data }, { on := 10, ground := Ground.chain }, { on := 0, ground := Ground.phase }, { on := 1, ground := Ground.phase }, { on := 2, ground := Ground.phase }, { on := 3, ground := Ground.phase }, { on := 4, ground := Ground.phase }, { on := 5, ground := Ground.phase }, { on := 6, ground := Ground.phase }, { on := 7, ground := Ground.phase }, { on := 8, ground := Ground.phase }, { on := 9, ground := Ground.phase }, { on := 10, ground := Ground.phase }], guard := none }) (v := ?_) rfl (by kernel_rfl) (by kernel_rfl) (by kernel_rfl) (fun _ _ _ h => h) (Or.inl ⟨by rfl, ?_⟩) ?_
                  rotate_left
                  focus (intro w; go_simp; try with_reducible rfl)
                  try simp only [Act.put, List.setIfInBounds_toArray, List.set_cons_zero, List.set_cons_succ]
                  refine wpAny_done (by kernel_rfl) ?_ _
                  have FC := Lib.hid fc
                  have X8 := Lib.hid x8
                  have D3 := Lib.hid d2
                  have Y12 := Lib.hid y12
                  have HNE := Lib.hid hne
                  have Q12 := Lib.hid q12
                  clear fc x8 d2 y12 hne q12
                  go_upto_region 20 with (fail)
                  refine wp_region_lit ?_
                  refine wpList_load_row rfl 36 (.tmp 12) rfl b12 rfl 36 (W32 y.l).toArray (0, 0) _ Y12.out d36 rfl (by rw [W32_sz]; exact i36) ?_
                  refine wpList_store_row rfl 36 (.tmp 8) (.tmp 73) rfl b8 (W32 y.l).toArray rfl rfl 36 _ X8.out (by rw [W32_sz]; exact i36) (by rw [W32_sz, W32_sz]) (W32_one _) ?_
                  refine wpList_nil ?_
                  refine at_world (p := fun W => Exit.then _ _ _ _ W) (R := fun Y => Frm [b8] wr Y ∧ IsW Y b8 36 y.l ∧ Y.cell? ⟨g, k, none⟩ = some (.slice (some ⟨gu, 0, none⟩) 64 capu)) ⟨(FC.out.mono (by simp)).setRow _ _ (.inl (by simp)), setRow_heap _ _ _ _ _ _ X8.out, ((Frm.refl [b8] _).setRow _ _ (.inl (by simp))).cell D3.out (by have h := HGB.out; simpa using h)⟩ ?_
                  clear X8 D3 Y12 FC
                  rintro V0 ⟨fc, x8, d2⟩
                  have FC := Lib.hid fc
                  have X8 := Lib.hid x8
                  clear fc x8
                  have OC := Lib.hid (O7.out.keep FC.out (fun i hi h => by have h1 := N7.out i hi; have h2 := ZB.out; simp at h; omega))
                  have SC := Lib.hid (O2.out.sl.keep FC.out (by have h := HUB.out; simpa [blk] using h))
                  have JL := Lib.hid (show (joinK (filled l) k).length + (pieceL (filled l) k).length = (joinK (filled l) (k + 1)).length by rw [HJS.out, List.length_append])
                  have BD := Lib.hid (show (joinK (filled l) k).length + (pieceL (filled l) k).length ≤ 140737488355328 by have h1 := joinK_len (filled l) k; have h2 := HPL.out; have h3 := hlt; have h4 := HPC.out; omega)
                  go_wp2_with (at_builtin; refine wpList_append_bytes BT OC.out SC.out BD.out rfl (.tmp 74) (.tmp 78) rfl rfl rfl ?_; intro a4 cap4 w4 sp4 o4 f4 n4)
                  rw [JL.out] at o4 n4 ⊢
                  rw [← HJS.out] at o4
                  have hnew : PieRel w5 (filled l) (pcs l.length) b8 (.slice a4 (joinK (filled l) (k + 1)).length cap4) (.int .i64 ((k : Int) + 1)) w4 := ⟨k + 1, by omega, by go_num, ⟨_, _, sp4, rfl, o4, fun i hi => by
                    rcases n4 i hi with h | h
                    · exact N7.out i h
                    · have h1 := FC.out.size; have h2 := F.out.size; omega⟩, by rw [HTS.out]; exact f4.heap X8.out (fun h => by have h1 := N7.out _ h; have h2 := ZB.out; omega), (F.out.trans FC.out (by simp)).trans f4 (fun i hi => .inr (N7.out i hi))⟩
                  have HNW := Lib.hid hnew
                  have KP := Lib.hid hlt
                  clear hnew o4 f4 n4 d2
                  go_wp2_with fail
                  go_roundw
                  case rel => exact HNW.out
                  case measure => have := KP.out; simp [intOf]; omega
                exact AllReady.nil
              exact AllReady.nil
            refine AllReady.cons (o := { dst := some 12, op := Op.alloc 36, type := 0, pos := "outright.go:58", after := #[], guard := none }) rfl (fun K hK => ?_) ?_
            · go_simp
              refine hK _ _ ?_
              clear hK K
              obtain ⟨b12, hb12⟩ : ∃ b12, Y0.heap.size = b12 := ⟨_, rfl⟩
              rw [hb12]
              refine at_world (p := fun W => wpAny _ _ _ _ _ _ _ W) (R := fun Y => Frm [] wr Y ∧ IsW Y b8 36 x.l ∧ Y.cell? ⟨g, k, none⟩ = some (.slice (some ⟨gu, 0, none⟩) 64 capu) ∧ Y.heap[b12]? = some (.cells Z8 36 (0, 0)) ∧ wr.heap.size ≤ b12) ⟨fc.alloc _, x8.keepF ((Frm.refl [] _).alloc _), ((Frm.refl [] _).alloc _).cell d2 (by simp), heap_alloc_at hb12.symm, by have := fc.size; omega⟩ ?_
              clear hb12 fc x8 d2
              rintro Y9 ⟨fc, x8, d2, z12, q12⟩
              refine wpAny_ready (rs := [5]) (by kernel_rfl) (by simp) ?_
              refine AllReady.cons (o := { dst := some 68, op := Op.call { callee := Callee.value (Operand.func 19), args := #[Operand.tmp 63, Operand.tmp 67], argTypes := #[36, 22] }, type := 38, pos := "outright.go:58", after := #[{ on := 0, ground := Ground.data }, { on := 4, ground := Ground.data }], guard := none }) rfl (fun K hK => ?_) ?_
              · go_simp
                refine (HC.out _ fc).mono ?_
                rintro r w9 ⟨rfl, f9⟩
                have x8 := x8.keepF f9
                have d2 := f9.cell d2 (by simp)
                have fc := fc.trans f9 (by simp)
                have z12 := f9.heap z12 (by simp)
                clear f9
                refine hK _ _ ?_
                clear hK K
                try simp only [Act.put, List.setIfInBounds_toArray, List.set_cons_zero, List.set_cons_succ]
                refine wpAny_take (i := 6) (oi := { dst := some 62, op := Op.move (Operand.tmp 68), type := 38, pos := "outright.go:58", after := #[{ on := 5, ground := Ground.data }], guard := none }) (v := ?_) rfl (by kernel_rfl) (by kernel_rfl) (by kernel_rfl) (fun _ _ _ h => h) (Or.inl ⟨by rfl, ?_⟩) ?_
                rotate_left
                focus (intro w; go_simp; try with_reducible rfl)
                try simp only [Act.put, List.setIfInBounds_toArray, List.set_cons_zero, List.set_cons_succ]
                refine wpAny_take (i := 7) (oi := { dst := some 69, op := Op.extract (Operand.tmp 62) 0, type := 36, pos := "outright.go:58", after := #[{ on := 6, ground := Ground.data }], guard := none }) (v := ?_) rfl (by kernel_rfl) (by kernel_rfl) (by kernel_rfl) (fun _ _ _ h => h) (Or.inl ⟨by rfl, ?_⟩) ?_
                rotate_left
                focus (intro w; go_simp; try with_reducible rfl)
                try simp only [Act.put, List.setIfInBounds_toArray, List.set_cons_zero, List.set_cons_succ]
                refine wpAny_take (i := 8) (oi := { dst := some 70, op := Op.extract (Operand.tmp 62) 1, type := 37, pos := "outright.go:58", after := #[{ on := 6, ground := Ground.data }, { on := 10, ground := Ground.gcOnly Departure.lateStores }], guard := none }) (v := ?_) rfl (by kernel_rfl) (by kernel_rfl) (by kernel_rfl) (fun _ _ _ h => h) (Or.inl ⟨by rfl, ?_⟩) ?_
                rotate_left
                focus (intro w; go_simp; try with_reducible rfl)
                try simp only [Act.put, List.setIfInBounds_toArray, List.set_cons_zero, List.set_cons_succ]
                refine wpAny_ready (rs := [10]) (by kernel_rfl) (by simp) ?_
                refine AllReady.cons (o := { dst := none, op := Op.store 36 (Operand.tmp 12) (Operand.tmp 69), type := 0, pos := "outright.go:58", after := #[{ on := 9, ground := Ground.data }, { on := 7, ground := Ground.data }, { on := 5, ground := Ground.chain }, { on := 0, ground := Ground.phase }, { on := 1, ground := Ground.phase }, { on := 2, ground := Ground.phase }, { on := 3, ground := Ground.phase }, { on := 4, ground := Ground.phase }, { on := 5, ground := Ground.phase }, { on := 6, ground := Ground.phase }, { on := 7, ground := Ground.phase }, { on := 8, ground := Ground.textOnly Departure.lateStores }, { on := 9, ground := Ground.phase }], guard := none }) rfl (fun K hK => ?_) ?_
                · rw [if_pos (by rfl)]
                  refine wp_store_row 36 (.tmp 12) (.tmp 69) rfl b12 (W32 y.l).toArray rfl rfl 36 _ z12 (by rw [W32_sz]; exact i36) (by rw [W32_sz]; rfl) (W32_one _) ?_
                  refine hK _ _ ?_
                  clear hK K
                  try simp only [Act.put, List.setIfInBounds_toArray, List.set_cons_zero, List.set_cons_succ]
                  have hne : b8 ≠ b12 := by have h1 := lt_heap H.out; omega
                  refine at_world (p := fun W => wpAny _ _ _ _ _ _ _ W) (R := fun Y => Frm [] wr Y ∧ IsW Y b8 36 x.l ∧ Y.cell? ⟨g, k, none⟩ = some (.slice (some ⟨gu, 0, none⟩) 64 capu) ∧ IsW Y b12 36 y.l) ⟨fc.setRow _ _ (.inr q12), ((Frm.refl [b12] _).setRow _ _ (.inl (by simp))).heap x8 (by simpa using hne), ((Frm.refl [b12] _).setRow _ _ (.inl (by simp))).cell d2 (by have h1 := World.block_lt_of_cell? _ _ D2.out; simp at h1 ⊢; omega), setRow_heap _ _ _ _ _ _ z12⟩ ?_
                  clear fc x8 d2 z12
                  rintro Z0 ⟨fc, x8, d2, y12⟩
                  refine wpAny_take (i := 11) (oi := { dst := some 13, op := Op.assign (Operand.tmp 70), type := 37, pos := "outright.go:58", after := #[{ on := 8, ground := Ground.data }, { on := 10, ground := Ground.chain }, { on := 0, ground := Ground.phase }, { on := 1, ground := Ground.phase }, { on := 2, ground := Ground.phase }, { on := 3, ground := Ground.phase }, { on := 4, ground := Ground.phase }, { on := 5, ground := Ground.phase }, { on := 6, ground := Ground.phase }, { on := 7, ground := Ground.phase }, { on := 8, ground := Ground.phase }, { on := 9, ground := Ground.phase }, { on := 10, ground := Ground.phase }], guard := none }) (v := ?_) rfl (by kernel_rfl) (by kernel_rfl) (by kernel_rfl) (fun _ _ _ h => h) (Or.inl ⟨by rfl, ?_⟩) ?_
                  rotate_left
                  focus (intro w; go_simp; try with_reducible rfl)
                  try simp only [Act.put, List.setIfInBounds_toArray, List.set_cons_zero, List.set_cons_succ]
                  refine wpAny_done (by kernel_rfl) ?_ _
                  have FC := Lib.hid fc
                  have X8 := Lib.hid x8
                  have D3 := Lib.hid d2
                  have Y12 := Lib.hid y12
                  have HNE := Lib.hid hne
                  have Q12 := Lib.hid q12
                  clear fc x8 d2 y12 hne q12
                  go_upto_region 20 with (fail)
                  refine wp_region_lit ?_
                  refine wpList_load_row rfl 36 (.tmp 12) rfl b12 rfl 36 (W32 y.l).toArray (0, 0) _ Y12.out d36 rfl (by rw [W32_sz]; exact i36) ?_
                  refine wpList_store_row rfl 36 (.tmp 8) (.tmp 73) rfl b8 (W32 y.l).toArray rfl rfl 36 _ X8.out (by rw [W32_sz]; exact i36) (by rw [W32_sz, W32_sz]) (W32_one _) ?_
                  refine wpList_nil ?_
                  refine at_world (p := fun W => Exit.then _ _ _ _ W) (R := fun Y => Frm [b8] wr Y ∧ IsW Y b8 36 y.l ∧ Y.cell? ⟨g, k, none⟩ = some (.slice (some ⟨gu, 0, none⟩) 64 capu)) ⟨(FC.out.mono (by simp)).setRow _ _ (.inl (by simp)), setRow_heap _ _ _ _ _ _ X8.out, ((Frm.refl [b8] _).setRow _ _ (.inl (by simp))).cell D3.out (by have h := HGB.out; simpa using h)⟩ ?_
                  clear X8 D3 Y12 FC
                  rintro V0 ⟨fc, x8, d2⟩
                  have FC := Lib.hid fc
                  have X8 := Lib.hid x8
                  clear fc x8
                  have OC := Lib.hid (O7.out.keep FC.out (fun i hi h => by have h1 := N7.out i hi; have h2 := ZB.out; simp at h; omega))
                  have SC := Lib.hid (O2.out.sl.keep FC.out (by have h := HUB.out; simpa [blk] using h))
                  have JL := Lib.hid (show (joinK (filled l) k).length + (pieceL (filled l) k).length = (joinK (filled l) (k + 1)).length by rw [HJS.out, List.length_append])
                  have BD := Lib.hid (show (joinK (filled l) k).length + (pieceL (filled l) k).length ≤ 140737488355328 by have h1 := joinK_len (filled l) k; have h2 := HPL.out; have h3 := hlt; have h4 := HPC.out; omega)
                  go_wp2_with (at_builtin; refine wpList_append_bytes BT OC.out SC.out BD.out rfl (.tmp 74) (.tmp 78) rfl rfl rfl ?_; intro a4 cap4 w4 sp4 o4 f4 n4)
                  rw [JL.out] at o4 n4 ⊢
                  rw [← HJS.out] at o4
                  have hnew : PieRel w5 (filled l) (pcs l.length) b8 (.slice a4 (joinK (filled l) (k + 1)).length cap4) (.int .i64 ((k : Int) + 1)) w4 := ⟨k + 1, by omega, by go_num, ⟨_, _, sp4, rfl, o4, fun i hi => by
                    rcases n4 i hi with h | h
                    · exact N7.out i h
                    · have h1 := FC.out.size; have h2 := F.out.size; omega⟩, by rw [HTS.out]; exact f4.heap X8.out (fun h => by have h1 := N7.out _ h; have h2 := ZB.out; omega), (F.out.trans FC.out (by simp)).trans f4 (fun i hi => .inr (N7.out i hi))⟩
                  have HNW := Lib.hid hnew
                  have KP := Lib.hid hlt
                  clear hnew o4 f4 n4 d2
                  go_wp2_with fail
                  go_roundw
                  case rel => exact HNW.out
                  case measure => have := KP.out; simp [intOf]; omega
                exact AllReady.nil
              exact AllReady.nil
            exact AllReady.nil
          refine AllReady.cons (o := { dst := some 12, op := Op.alloc 36, type := 0, pos := "outright.go:58", after := #[], guard := none }) rfl (fun K hK => ?_) ?_
          · go_simp
            refine hK _ _ ?_
            clear hK K
            obtain ⟨b12, hb12⟩ : ∃ b12, Y0.heap.size = b12 := ⟨_, rfl⟩
            rw [hb12]
            refine at_world (p := fun W => wpAny _ _ _ _ _ _ _ W) (R := fun Y => Frm [] wr Y ∧ IsW Y b8 36 x.l ∧ Y.cell? ⟨g, k, none⟩ = some (.slice (some ⟨gu, 0, none⟩) 64 capu) ∧ Y.heap[b12]? = some (.cells Z8 36 (0, 0)) ∧ wr.heap.size ≤ b12) ⟨fc.alloc _, x8.keepF ((Frm.refl [] _).alloc _), ((Frm.refl [] _).alloc _).cell d2 (by simp), heap_alloc_at hb12.symm, by have := fc.size; omega⟩ ?_
            clear hb12 fc x8 d2
            rintro Y11 ⟨fc, x8, d2, z12, q12⟩
            refine wpAny_ready (rs := [0]) (by kernel_rfl) (by simp) ?_
            refine AllReady.cons (o := { dst := some 63, op := Op.load 36 (Operand.tmp 8), type := 36, pos := "outright.go:58", after := #[], guard := none }) rfl (fun K hK => ?_) ?_
            · rw [if_pos (by rfl)]
              refine wp_load_row 36 (.tmp 8) rfl b8 rfl 36 (W32 x.l).toArray (0, 0) _ x8 d36 rfl (by rw [W32_sz]; exact i36) ?_
              refine hK _ _ ?_
              clear hK K
              try simp only [Act.put, List.setIfInBounds_toArray, List.set_cons_zero, List.set_cons_succ]
              refine wpAny_ready (rs := [5]) (by kernel_rfl) (by simp) ?_
              refine AllReady.cons (o := { dst := some 68, op := Op.call { callee := Callee.value (Operand.func 19), args := #[Operand.tmp 63, Operand.tmp 67], argTypes := #[36, 22] }, type := 38, pos := "outright.go:58", after := #[{ on := 0, ground := Ground.data }, { on := 4, ground := Ground.data }], guard := none }) rfl (fun K hK => ?_) ?_
              · go_simp
                refine (HC.out _ fc).mono ?_
                rintro r w9 ⟨rfl, f9⟩
                have x8 := x8.keepF f9
                have d2 := f9.cell d2 (by simp)
                have fc := fc.trans f9 (by simp)
                have z12 := f9.heap z12 (by simp)
                clear f9
                refine hK _ _ ?_
                clear hK K
                try simp only [Act.put, List.setIfInBounds_toArray, List.set_cons_zero, List.set_cons_succ]
                refine wpAny_take (i := 6) (oi := { dst := some 62, op := Op.move (Operand.tmp 68), type := 38, pos := "outright.go:58", after := #[{ on := 5, ground := Ground.data }], guard := none }) (v := ?_) rfl (by kernel_rfl) (by kernel_rfl) (by kernel_rfl) (fun _ _ _ h => h) (Or.inl ⟨by rfl, ?_⟩) ?_
                rotate_left
                focus (intro w; go_simp; try with_reducible rfl)
                try simp only [Act.put, List.setIfInBounds_toArray, List.set_cons_zero, List.set_cons_succ]
                refine wpAny_take (i := 7) (oi := { dst := some 69, op := Op.extract (Operand.tmp 62) 0, type := 36, pos := "outright.go:58", after := #[{ on := 6, ground := Ground.data }], guard := none }) (v := ?_) rfl (by kernel_rfl) (by kernel_rfl) (by kernel_rfl) (fun _ _ _ h => h) (Or.inl ⟨by rfl, ?_⟩) ?_
                rotate_left
                focus (intro w; go_simp; try with_reducible rfl)
                try simp only [Act.put, List.setIfInBounds_toArray, List.set_cons_zero, List.set_cons_succ]
                refine wpAny_take (i := 8) (oi := { dst := some 70, op := Op.extract (Operand.tmp 62) 1, type := 37, pos := "outright.go:58", after := #[{ on := 6, ground := Ground.data }, { on := 10, ground := Ground.gcOnly Departure.lateStores }], guard := none }) (v := ?_) rfl (by kernel_rfl) (by kernel_rfl) (by kernel_rfl) (fun _ _ _ h => h) (Or.inl ⟨by rfl, ?_⟩) ?_
                rotate_left
                focus (intro w; go_simp; try with_reducible rfl)
                try simp only [Act.put, List.setIfInBounds_toArray, List.set_cons_zero, List.set_cons_succ]
                refine wpAny_ready (rs := [10]) (by kernel_rfl) (by simp) ?_
                refine AllReady.cons (o := { dst := none, op := Op.store 36 (Operand.tmp 12) (Operand.tmp 69), type := 0, pos := "outright.go:58", after := #[{ on := 9, ground := Ground.data }, { on := 7, ground := Ground.data }, { on := 5, ground := Ground.chain }, { on := 0, ground := Ground.phase }, { on := 1, ground := Ground.phase }, { on := 2, ground := Ground.phase }, { on := 3, ground := Ground.phase }, { on := 4, ground := Ground.phase }, { on := 5, ground := Ground.phase }, { on := 6, ground := Ground.phase }, { on := 7, ground := Ground.phase }, { on := 8, ground := Ground.textOnly Departure.lateStores }, { on := 9, ground := Ground.phase }], guard := none }) rfl (fun K hK => ?_) ?_
                · rw [if_pos (by rfl)]
                  refine wp_store_row 36 (.tmp 12) (.tmp 69) rfl b12 (W32 y.l).toArray rfl rfl 36 _ z12 (by rw [W32_sz]; exact i36) (by rw [W32_sz]; rfl) (W32_one _) ?_
                  refine hK _ _ ?_
                  clear hK K
                  try simp only [Act.put, List.setIfInBounds_toArray, List.set_cons_zero, List.set_cons_succ]
                  have hne : b8 ≠ b12 := by have h1 := lt_heap H.out; omega
                  refine at_world (p := fun W => wpAny _ _ _ _ _ _ _ W) (R := fun Y => Frm [] wr Y ∧ IsW Y b8 36 x.l ∧ Y.cell? ⟨g, k, none⟩ = some (.slice (some ⟨gu, 0, none⟩) 64 capu) ∧ IsW Y b12 36 y.l) ⟨fc.setRow _ _ (.inr q12), ((Frm.refl [b12] _).setRow _ _ (.inl (by simp))).heap x8 (by simpa using hne), ((Frm.refl [b12] _).setRow _ _ (.inl (by simp))).cell d2 (by have h1 := World.block_lt_of_cell? _ _ D2.out; simp at h1 ⊢; omega), setRow_heap _ _ _ _ _ _ z12⟩ ?_
                  clear fc x8 d2 z12
                  rintro Z0 ⟨fc, x8, d2, y12⟩
                  refine wpAny_take (i := 11) (oi := { dst := some 13, op := Op.assign (Operand.tmp 70), type := 37, pos := "outright.go:58", after := #[{ on := 8, ground := Ground.data }, { on := 10, ground := Ground.chain }, { on := 0, ground := Ground.phase }, { on := 1, ground := Ground.phase }, { on := 2, ground := Ground.phase }, { on := 3, ground := Ground.phase }, { on := 4, ground := Ground.phase }, { on := 5, ground := Ground.phase }, { on := 6, ground := Ground.phase }, { on := 7, ground := Ground.phase }, { on := 8, ground := Ground.phase }, { on := 9, ground := Ground.phase }, { on := 10, ground := Ground.phase }], guard := none }) (v := ?_) rfl (by kernel_rfl) (by kernel_rfl) (by kernel_rfl) (fun _ _ _ h => h) (Or.inl ⟨by rfl, ?_⟩) ?_
                  rotate_left
                  focus (intro w; go_simp; try with_reducible rfl)
                  try simp only [Act.put, List.setIfInBounds_toArray, List.set_cons_zero, List.set_cons_succ]
                  refine wpAny_done (by kernel_rfl) ?_ _
                  have FC := Lib.hid fc
                  have X8 := Lib.hid x8
                  have D3 := Lib.hid d2
                  have Y12 := Lib.hid y12
                  have HNE := Lib.hid hne
                  have Q12 := Lib.hid q12
                  clear fc x8 d2 y12 hne q12
                  go_upto_region 20 with (fail)
                  refine wp_region_lit ?_
                  refine wpList_load_row rfl 36 (.tmp 12) rfl b12 rfl 36 (W32 y.l).toArray (0, 0) _ Y12.out d36 rfl (by rw [W32_sz]; exact i36) ?_
                  refine wpList_store_row rfl 36 (.tmp 8) (.tmp 73) rfl b8 (W32 y.l).toArray rfl rfl 36 _ X8.out (by rw [W32_sz]; exact i36) (by rw [W32_sz, W32_sz]) (W32_one _) ?_
                  refine wpList_nil ?_
                  refine at_world (p := fun W => Exit.then _ _ _ _ W) (R := fun Y => Frm [b8] wr Y ∧ IsW Y b8 36 y.l ∧ Y.cell? ⟨g, k, none⟩ = some (.slice (some ⟨gu, 0, none⟩) 64 capu)) ⟨(FC.out.mono (by simp)).setRow _ _ (.inl (by simp)), setRow_heap _ _ _ _ _ _ X8.out, ((Frm.refl [b8] _).setRow _ _ (.inl (by simp))).cell D3.out (by have h := HGB.out; simpa using h)⟩ ?_
                  clear X8 D3 Y12 FC
                  rintro V0 ⟨fc, x8, d2⟩
                  have FC := Lib.hid fc
                  have X8 := Lib.hid x8
                  clear fc x8
                  have OC := Lib.hid (O7.out.keep FC.out (fun i hi h => by have h1 := N7.out i hi; have h2 := ZB.out; simp at h; omega))
                  have SC := Lib.hid (O2.out.sl.keep FC.out (by have h := HUB.out; simpa [blk] using h))
                  have JL := Lib.hid (show (joinK (filled l) k).length + (pieceL (filled l) k).length = (joinK (filled l) (k + 1)).length by rw [HJS.out, List.length_append])
                  have BD := Lib.hid (show (joinK (filled l) k).length + (pieceL (filled l) k).length ≤ 140737488355328 by have h1 := joinK_len (filled l) k; have h2 := HPL.out; have h3 := hlt; have h4 := HPC.out; omega)
                  go_wp2_with (at_builtin; refine wpList_append_bytes BT OC.out SC.out BD.out rfl (.tmp 74) (.tmp 78) rfl rfl rfl ?_; intro a4 cap4 w4 sp4 o4 f4 n4)
                  rw [JL.out] at o4 n4 ⊢
                  rw [← HJS.out] at o4
                  have hnew : PieRel w5 (filled l) (pcs l.length) b8 (.slice a4 (joinK (filled l) (k + 1)).length cap4) (.int .i64 ((k : Int) + 1)) w4 := ⟨k + 1, by omega, by go_num, ⟨_, _, sp4, rfl, o4, fun i hi => by
                    rcases n4 i hi with h | h
                    · exact N7.out i h
                    · have h1 := FC.out.size; have h2 := F.out.size; omega⟩, by rw [HTS.out]; exact f4.heap X8.out (fun h => by have h1 := N7.out _ h; have h2 := ZB.out; omega), (F.out.trans FC.out (by simp)).trans f4 (fun i hi => .inr (N7.out i hi))⟩
                  have HNW := Lib.hid hnew
                  have KP := Lib.hid hlt
                  clear hnew o4 f4 n4 d2
                  go_wp2_with fail
                  go_roundw
                  case rel => exact HNW.out
                  case measure => have := KP.out; simp [intOf]; omega
                exact AllReady.nil
              exact AllReady.nil
            exact AllReady.nil
          exact AllReady.nil
        refine AllReady.cons (o := { dst := some 12, op := Op.alloc 36, type := 0, pos := "outright.go:58", after := #[], guard := none }) rfl (fun K hK => ?_) ?_
        · go_simp
          refine hK _ _ ?_
          clear hK K
          obtain ⟨b12, hb12⟩ : ∃ b12, Y0.heap.size = b12 := ⟨_, rfl⟩
          rw [hb12]
          refine at_world (p := fun W => wpAny _ _ _ _ _ _ _ W) (R := fun Y => Frm [] wr Y ∧ IsW Y b8 36 x.l ∧ Y.cell? ⟨g, k, none⟩ = some (.slice (some ⟨gu, 0, none⟩) 64 capu) ∧ Y.heap[b12]? = some (.cells Z8 36 (0, 0)) ∧ wr.heap.size ≤ b12) ⟨fc.alloc _, x8.keepF ((Frm.refl [] _).alloc _), ((Frm.refl [] _).alloc _).cell d2 (by simp), heap_alloc_at hb12.symm, by have := fc.size; omega⟩ ?_
          clear hb12 fc x8 d2
          rintro Y13 ⟨fc, x8, d2, z12, q12⟩
          refine wpAny_ready (rs := [0, 4]) (by kernel_rfl) (by simp) ?_
          refine AllReady.cons (o := { dst := some 63, op := Op.load 36 (Operand.tmp 8), type := 36, pos := "outright.go:58", after := #[], guard := none }) rfl (fun K hK => ?_) ?_
          · rw [if_pos (by rfl)]
            refine wp_load_row 36 (.tmp 8) rfl b8 rfl 36 (W32 x.l).toArray (0, 0) _ x8 d36 rfl (by rw [W32_sz]; exact i36) ?_
            refine hK _ _ ?_
            clear hK K
            try simp only [Act.put, List.setIfInBounds_toArray, List.set_cons_zero, List.set_cons_succ]
            refine wpAny_ready (rs := [4]) (by kernel_rfl) (by simp) ?_
            refine AllReady.cons (o := { dst := some 67, op := Op.load 22 (Operand.tmp 66), type := 22, pos := "outright.go:58", after := #[{ on := 3, ground := Ground.data }], guard := none }) rfl (fun K hK => ?_) ?_
            · go_simp
              refine hK _ _ ?_
              clear hK K
              refine wpAny_ready (rs := [5]) (by kernel_rfl) (by simp) ?_
              refine AllReady.cons (o := { dst := some 68, op := Op.call { callee := Callee.value (Operand.func 19), args := #[Operand.tmp 63, Operand.tmp 67], argTypes := #[36, 22] }, type := 38, pos := "outright.go:58", after := #[{ on := 0, ground := Ground.data }, { on := 4, ground := Ground.data }], guard := none }) rfl (fun K hK => ?_) ?_
              · go_simp
                refine (HC.out _ fc).mono ?_
                rintro r w9 ⟨rfl, f9⟩
                have x8 := x8.keepF f9
                have d2 := f9.cell d2 (by simp)
                have fc := fc.trans f9 (by simp)
                have z12 := f9.heap z12 (by simp)
                clear f9
                refine hK _ _ ?_
                clear hK K
                try simp only [Act.put, List.setIfInBounds_toArray, List.set_cons_zero, List.set_cons_succ]
                refine wpAny_take (i := 6) (oi := { dst := some 62, op := Op.move (Operand.tmp 68), type := 38, pos := "outright.go:58", after := #[{ on := 5, ground := Ground.data }], guard := none }) (v := ?_) rfl (by kernel_rfl) (by kernel_rfl) (by kernel_rfl) (fun _ _ _ h => h) (Or.inl ⟨by rfl, ?_⟩) ?_
                rotate_left
                focus (intro w; go_simp; try with_reducible rfl)
                try simp only [Act.put, List.setIfInBounds_toArray, List.set_cons_zero, List.set_cons_succ]
                refine wpAny_take (i := 7) (oi := { dst := some 69, op := Op.extract (Operand.tmp 62) 0, type := 36, pos := "outright.go:58", after := #[{ on := 6, ground := Ground.data }], guard := none }) (v := ?_) rfl (by kernel_rfl) (by kernel_rfl) (by kernel_rfl) (fun _ _ _ h => h) (Or.inl ⟨by rfl, ?_⟩) ?_
                rotate_left
                focus (intro w; go_simp; try with_reducible rfl)
                try simp only [Act.put, List.setIfInBounds_toArray, List.set_cons_zero, List.set_cons_succ]
                refine wpAny_take (i := 8) (oi := { dst := some 70, op := Op.extract (Operand.tmp 62) 1, type := 37, pos := "outright.go:58", after := #[{ on := 6, ground := Ground.data }, { on := 10, ground := Ground.gcOnly Departure.lateStores }], guard := none }) (v := ?_) rfl (by kernel_rfl) (by kernel_rfl) (by kernel_rfl) (fun _ _ _ h => h) (Or.inl ⟨by rfl, ?_⟩) ?_
                rotate_left
                focus (intro w; go_simp; try with_reducible rfl)
                try simp only [Act.put, List.setIfInBounds_toArray, List.set_cons_zero, List.set_cons_succ]
                refine wpAny_ready (rs := [10]) (by kernel_rfl) (by simp) ?_
                refine AllReady.cons (o := { dst := none, op := Op.store 36 (Operand.tmp 12) (Operand.tmp 69), type := 0, pos := "outright.go:58", after := #[{ on := 9, ground := Ground.data }, { on := 7, ground := Ground.data }, { on := 5, ground := Ground.chain }, { on := 0, ground := Ground.phase }, { on := 1, ground := Ground.phase }, { on := 2, ground := Ground.phase }, { on := 3, ground := Ground.phase }, { on := 4, ground := Ground.phase }, { on := 5, ground := Ground.phase }, { on := 6, ground := Ground.phase }, { on := 7, ground := Ground.phase }, { on := 8, ground := Ground.textOnly Departure.lateStores }, { on := 9, ground := Ground.phase }], guard := none }) rfl (fun K hK => ?_) ?_
                · rw [if_pos (by rfl)]
                  refine wp_store_row 36 (.tmp 12) (.tmp 69) rfl b12 (W32 y.l).toArray rfl rfl 36 _ z12 (by rw [W32_sz]; exact i36) (by rw [W32_sz]; rfl) (W32_one _) ?_
                  refine hK _ _ ?_
                  clear hK K
                  try simp only [Act.put, List.setIfInBounds_toArray, List.set_cons_zero, List.set_cons_succ]
                  have hne : b8 ≠ b12 := by have h1 := lt_heap H.out; omega
                  refine at_world (p := fun W => wpAny _ _ _ _ _ _ _ W) (R := fun Y => Frm [] wr Y ∧ IsW Y b8 36 x.l ∧ Y.cell? ⟨g, k, none⟩ = some (.slice (some ⟨gu, 0, none⟩) 64 capu) ∧ IsW Y b12 36 y.l) ⟨fc.setRow _ _ (.inr q12), ((Frm.refl [b12] _).setRow _ _ (.inl (by simp))).heap x8 (by simpa using hne), ((Frm.refl [b12] _).setRow _ _ (.inl (by simp))).cell d2 (by have h1 := World.block_lt_of_cell? _ _ D2.out; simp at h1 ⊢; omega), setRow_heap _ _ _ _ _ _ z12⟩ ?_
                  clear fc x8 d2 z12
                  rintro Z0 ⟨fc, x8, d2, y12⟩
                  refine wpAny_take (i := 11) (oi := { dst := some 13, op := Op.assign (Operand.tmp 70), type := 37, pos := "outright.go:58", after := #[{ on := 8, ground := Ground.data }, { on := 10, ground := Ground.chain }, { on := 0, ground := Ground.phase }, { on := 1, ground := Ground.phase }, { on := 2, ground := Ground.phase }, { on := 3, ground := Ground.phase }, { on := 4, ground := Ground.phase }, { on := 5, ground := Ground.phase }, { on := 6, ground := Ground.phase }, { on := 7, ground := Ground.phase }, { on := 8, ground := Ground.phase }, { on := 9, ground := Ground.phase }, { on := 10, ground := Ground.phase }], guard := none }) (v := ?_) rfl (by kernel_rfl) (by kernel_rfl) (by kernel_rfl) (fun _ _ _ h => h) (Or.inl ⟨by rfl, ?_⟩) ?_
                  rotate_left
                  focus (intro w; go_simp; try with_reducible rfl)
                  try simp only [Act.put, List.setIfInBounds_toArray, List.set_cons_zero, List.set_cons_succ]
                  refine wpAny_done (by kernel_rfl) ?_ _
                  have FC := Lib.hid fc
                  have X8 := Lib.hid x8
                  have D3 := Lib.hid d2
                  have Y12 := Lib.hid y12
                  have HNE := Lib.hid hne
                  have Q12 := Lib.hid q12
                  clear fc x8 d2 y12 hne q12
                  go_upto_region 20 with (fail)
                  refine wp_region_lit ?_
                  refine wpList_load_row rfl 36 (.tmp 12) rfl b12 rfl 36 (W32 y.l).toArray (0, 0) _ Y12.out d36 rfl (by rw [W32_sz]; exact i36) ?_
                  refine wpList_store_row rfl 36 (.tmp 8) (.tmp 73) rfl b8 (W32 y.l).toArray rfl rfl 36 _ X8.out (by rw [W32_sz]; exact i36) (by rw [W32_sz, W32_sz]) (W32_one _) ?_
                  refine wpList_nil ?_
                  refine at_world (p := fun W => Exit.then _ _ _ _ W) (R := fun Y => Frm [b8] wr Y ∧ IsW Y b8 36 y.l ∧ Y.cell? ⟨g, k, none⟩ = some (.slice (some ⟨gu, 0, none⟩) 64 capu)) ⟨(FC.out.mono (by simp)).setRow _ _ (.inl (by simp)), setRow_heap _ _ _ _ _ _ X8.out, ((Frm.refl [b8] _).setRow _ _ (.inl (by simp))).cell D3.out (by have h := HGB.out; simpa using h)⟩ ?_
                  clear X8 D3 Y12 FC
                  rintro V0 ⟨fc, x8, d2⟩
                  have FC := Lib.hid fc
                  have X8 := Lib.hid x8
                  clear fc x8
                  have OC := Lib.hid (O7.out.keep FC.out (fun i hi h => by have h1 := N7.out i hi; have h2 := ZB.out; simp at h; omega))
                  have SC := Lib.hid (O2.out.sl.keep FC.out (by have h := HUB.out; simpa [blk] using h))
                  have JL := Lib.hid (show (joinK (filled l) k).length + (pieceL (filled l) k).length = (joinK (filled l) (k + 1)).length by rw [HJS.out, List.length_append])
                  have BD := Lib.hid (show (joinK (filled l) k).length + (pieceL (filled l) k).length ≤ 140737488355328 by have h1 := joinK_len (filled l) k; have h2 := HPL.out; have h3 := hlt; have h4 := HPC.out; omega)
                  go_wp2_with (at_builtin; refine wpList_append_bytes BT OC.out SC.out BD.out rfl (.tmp 74) (.tmp 78) rfl rfl rfl ?_; intro a4 cap4 w4 sp4 o4 f4 n4)
                  rw [JL.out] at o4 n4 ⊢
                  rw [← HJS.out] at o4
                  have hnew : PieRel w5 (filled l) (pcs l.length) b8 (.slice a4 (joinK (filled l) (k + 1)).length cap4) (.int .i64 ((k : Int) + 1)) w4 := ⟨k + 1, by omega, by go_num, ⟨_, _, sp4, rfl, o4, fun i hi => by
                    rcases n4 i hi with h | h
                    · exact N7.out i h
                    · have h1 := FC.out.size; have h2 := F.out.size; omega⟩, by rw [HTS.out]; exact f4.heap X8.out (fun h => by have h1 := N7.out _ h; have h2 := ZB.out; omega), (F.out.trans FC.out (by simp)).trans f4 (fun i hi => .inr (N7.out i hi))⟩
                  have HNW := Lib.hid hnew
                  have KP := Lib.hid hlt
                  clear hnew o4 f4 n4 d2
                  go_wp2_with fail
                  go_roundw
                  case rel => exact HNW.out
                  case measure => have := KP.out; simp [intOf]; omega
                exact AllReady.nil
              exact AllReady.nil
            exact AllReady.nil
          refine AllReady.cons (o := { dst := some 67, op := Op.load 22 (Operand.tmp 66), type := 22, pos := "outright.go:58", after := #[{ on := 3, ground := Ground.data }], guard := none }) rfl (fun K hK => ?_) ?_
          · go_simp
            refine hK _ _ ?_
            clear hK K
            refine wpAny_ready (rs := [0]) (by kernel_rfl) (by simp) ?_
            refine AllReady.cons (o := { dst := some 63, op := Op.load 36 (Operand.tmp 8), type := 36, pos := "outright.go:58", after := #[], guard := none }) rfl (fun K hK => ?_) ?_
            · rw [if_pos (by rfl)]
              refine wp_load_row 36 (.tmp 8) rfl b8 rfl 36 (W32 x.l).toArray (0, 0) _ x8 d36 rfl (by rw [W32_sz]; exact i36) ?_
              refine hK _ _ ?_
              clear hK K
              try simp only [Act.put, List.setIfInBounds_toArray, List.set_cons_zero, List.set_cons_succ]
              refine wpAny_ready (rs := [5]) (by kernel_rfl) (by simp) ?_
              refine AllReady.cons (o := { dst := some 68, op := Op.call { callee := Callee.value (Operand.func 19), args := #[Operand.tmp 63, Operand.tmp 67], argTypes := #[36, 22] }, type := 38, pos := "outright.go:58", after := #[{ on := 0, ground := Ground.data }, { on := 4, ground := Ground.data }], guard := none }) rfl (fun K hK => ?_) ?_
              · go_simp
                refine (HC.out _ fc).mono ?_
                rintro r w9 ⟨rfl, f9⟩
                have x8 := x8.keepF f9
                have d2 := f9.cell d2 (by simp)
                have fc := fc.trans f9 (by simp)
                have z12 := f9.heap z12 (by simp)
                clear f9
                refine hK _ _ ?_
                clear hK K
                try simp only [Act.put, List.setIfInBounds_toArray, List.set_cons_zero, List.set_cons_succ]
                refine wpAny_take (i := 6) (oi := { dst := some 62, op := Op.move (Operand.tmp 68), type := 38, pos := "outright.go:58", after := #[{ on := 5, ground := Ground.data }], guard := none }) (v := ?_) rfl (by kernel_rfl) (by kernel_rfl) (by kernel_rfl) (fun _ _ _ h => h) (Or.inl ⟨by rfl, ?_⟩) ?_
                rotate_left
                focus (intro w; go_simp; try with_reducible rfl)
                try simp only [Act.put, List.setIfInBounds_toArray, List.set_cons_zero, List.set_cons_succ]
                refine wpAny_take (i := 7) (oi := { dst := some 69, op := Op.extract (Operand.tmp 62) 0, type := 36, pos := "outright.go:58", after := #[{ on := 6, ground := Ground.data }], guard := none }) (v := ?_) rfl (by kernel_rfl) (by kernel_rfl) (by kernel_rfl) (fun _ _ _ h => h) (Or.inl ⟨by rfl, ?_⟩) ?_
                rotate_left
                focus (intro w; go_simp; try with_reducible rfl)
                try simp only [Act.put, List.setIfInBounds_toArray, List.set_cons_zero, List.set_cons_succ]
                refine wpAny_take (i := 8) (oi := { dst := some 70, op := Op.extract (Operand.tmp 62) 1, type := 37, pos := "outright.go:58", after := #[{ on := 6, ground := Ground.data }, { on := 10, ground := Ground.gcOnly Departure.lateStores }], guard := none }) (v := ?_) rfl (by kernel_rfl) (by kernel_rfl) (by kernel_rfl) (fun _ _ _ h => h) (Or.inl ⟨by rfl, ?_⟩) ?_
                rotate_left
                focus (intro w; go_simp; try with_reducible rfl)
                try simp only [Act.put, List.setIfInBounds_toArray, List.set_cons_zero, List.set_cons_succ]
                refine wpAny_ready (rs := [10]) (by kernel_rfl) (by simp) ?_
                refine AllReady.cons (o := { dst := none, op := Op.store 36 (Operand.tmp 12) (Operand.tmp 69), type := 0, pos := "outright.go:58", after := #[{ on := 9, ground := Ground.data }, { on := 7, ground := Ground.data }, { on := 5, ground := Ground.chain }, { on := 0, ground := Ground.phase }, { on := 1, ground := Ground.phase }, { on := 2, ground := Ground.phase }, { on := 3, ground := Ground.phase }, { on := 4, ground := Ground.phase }, { on := 5, ground := Ground.phase }, { on := 6, ground := Ground.phase }, { on := 7, ground := Ground.phase }, { on := 8, ground := Ground.textOnly Departure.lateStores }, { on := 9, ground := Ground.phase }], guard := none }) rfl (fun K hK => ?_) ?_
                · rw [if_pos (by rfl)]
                  refine wp_store_row 36 (.tmp 12) (.tmp 69) rfl b12 (W32 y.l).toArray rfl rfl 36 _ z12 (by rw [W32_sz]; exact i36) (by rw [W32_sz]; rfl) (W32_one _) ?_
                  refine hK _ _ ?_
                  clear hK K
                  try simp only [Act.put, List.setIfInBounds_toArray, List.set_cons_zero, List.set_cons_succ]
                  have hne : b8 ≠ b12 := by have h1 := lt_heap H.out; omega
                  refine at_world (p := fun W => wpAny _ _ _ _ _ _ _ W) (R := fun Y => Frm [] wr Y ∧ IsW Y b8 36 x.l ∧ Y.cell? ⟨g, k, none⟩ = some (.slice (some ⟨gu, 0, none⟩) 64 capu) ∧ IsW Y b12 36 y.l) ⟨fc.setRow _ _ (.inr q12), ((Frm.refl [b12] _).setRow _ _ (.inl (by simp))).heap x8 (by simpa using hne), ((Frm.refl [b12] _).setRow _ _ (.inl (by simp))).cell d2 (by have h1 := World.block_lt_of_cell? _ _ D2.out; simp at h1 ⊢; omega), setRow_heap _ _ _ _ _ _ z12⟩ ?_
                  clear fc x8 d2 z12
                  rintro Z0 ⟨fc, x8, d2, y12⟩
                  refine wpAny_take (i := 11) (oi := { dst := some 13, op := Op.assign (Operand.tmp 70), type := 37, pos := "outright.go:58", after := #[{ on := 8, ground := Ground.data }, { on := 10, ground := Ground.chain }, { on := 0, ground := Ground.phase }, { on := 1, ground := Ground.phase }, { on := 2, ground := Ground.phase }, { on := 3, ground := Ground.phase }, { on := 4, ground := Ground.phase }, { on := 5, ground := Ground.phase }, { on := 6, ground := Ground.phase }, { on := 7, ground := Ground.phase }, { on := 8, ground := Ground.phase }, { on := 9, ground := Ground.phase }, { on := 10, ground := Ground.phase }], guard := none }) (v := ?_) rfl (by kernel_rfl) (by kernel_rfl) (by kernel_rfl) (fun _ _ _ h => h) (Or.inl ⟨by rfl, ?_⟩) ?_
                  rotate_left
                  focus (intro w; go_simp; try with_reducible rfl)
                  try simp only [Act.put, List.setIfInBounds_toArray, List.set_cons_zero, List.set_cons_succ]
                  refine wpAny_done (by kernel_rfl) ?_ _
                  have FC := Lib.hid fc
                  have X8 := Lib.hid x8
                  have D3 := Lib.hid d2
                  have Y12 := Lib.hid y12
                  have HNE := Lib.hid hne
                  have Q12 := Lib.hid q12
                  clear fc x8 d2 y12 hne q12
                  go_upto_region 20 with (fail)
                  refine wp_region_lit ?_
                  refine wpList_load_row rfl 36 (.tmp 12) rfl b12 rfl 36 (W32 y.l).toArray (0, 0) _ Y12.out d36 rfl (by rw [W32_sz]; exact i36) ?_
                  refine wpList_store_row rfl 36 (.tmp 8) (.tmp 73) rfl b8 (W32 y.l).toArray rfl rfl 36 _ X8.out (by rw [W32_sz]; exact i36) (by rw [W32_sz, W32_sz]) (W32_one _) ?_
                  refine wpList_nil ?_
                  refine at_world (p := fun W => Exit.then _ _ _ _ W) (R := fun Y => Frm [b8] wr Y ∧ IsW Y b8 36 y.l ∧ Y.cell? ⟨g, k, none⟩ = some (.slice (some ⟨gu, 0, none⟩) 64 capu)) ⟨(FC.out.mono (by simp)).setRow _ _ (.inl (by simp)), setRow_heap _ _ _ _ _ _ X8.out, ((Frm.refl [b8] _).setRow _ _ (.inl (by simp))).cell D3.out (by have h := HGB.out; simpa using h)⟩ ?_
                  clear X8 D3 Y12 FC
                  rintro V0 ⟨fc, x8, d2⟩
                  have FC := Lib.hid fc
                  have X8 := Lib.hid x8
                  clear fc x8
                  have OC := Lib.hid (O7.out.keep FC.out (fun i hi h => by have h1 := N7.out i hi; have h2 := ZB.out; simp at h; omega))
                  have SC := Lib.hid (O2.out.sl.keep FC.out (by have h := HUB.out; simpa [blk] using h))
                  have JL := Lib.hid (show (joinK (filled l) k).length + (pieceL (filled l) k).length = (joinK (filled l) (k + 1)).length by rw [HJS.out, List.length_append])
                  have BD := Lib.hid (show (joinK (filled l) k).length + (pieceL (filled l) k).length ≤ 140737488355328 by have h1 := joinK_len (filled l) k; have h2 := HPL.out; have h3 := hlt; have h4 := HPC.out; omega)
                  go_wp2_with (at_builtin; refine wpList_append_bytes BT OC.out SC.out BD.out rfl (.tmp 74) (.tmp 78) rfl rfl rfl ?_; intro a4 cap4 w4 sp4 o4 f4 n4)
                  rw [JL.out] at o4 n4 ⊢
                  rw [← HJS.out] at o4
                  have hnew : PieRel w5 (filled l) (pcs l.length) b8 (.slice a4 (joinK (filled l) (k + 1)).length cap4) (.int .i64 ((k : Int) + 1)) w4 := ⟨k + 1, by omega, by go_num, ⟨_, _, sp4, rfl, o4, fun i hi => by
                    rcases n4 i hi with h | h
                    · exact N7.out i h
                    · have h1 := FC.out.size; have h2 := F.out.size; omega⟩, by rw [HTS.out]; exact f4.heap X8.out (fun h => by have h1 := N7.out _ h; have h2 := ZB.out; omega), (F.out.trans FC.out (by simp)).trans f4 (fun i hi => .inr (N7.out i hi))⟩
                  have HNW := Lib.hid hnew
                  have KP := Lib.hid hlt
                  clear hnew o4 f4 n4 d2
                  go_wp2_with fail
                  go_roundw
                  case rel => exact HNW.out
                  case measure => have := KP.out; simp [intOf]; omega
                exact AllReady.nil
              exact AllReady.nil
            exact AllReady.nil
          exact AllReady.nil
        exact AllReady.nil
    · obtain rfl : k = pcs l.length := by omega
      generalize wr = wo at *
      have hja : joinK (filled l) (pcs l.length) = filled l := joinK_all _ _ (pcs_len l)
      have hfr := filled_room l
      have hfl : (filled l).length = l.length + 1 + zs l.length + 8 := by rw [filled_form]; simp [cnts_length]; omega
      rw [hja] at o7 n7 ⊢
      have hsha : sha l = digK (turnsP s0 (filled l) (List.range (pcs l.length))).l 32 := rfl
      generalize turnsP s0 (filled l) (List.range (pcs l.length)) = x at *
      have hl1 : l.length ≤ 1000 := HL.out
      have h8 : w.heap.size ≤ b8 := by have h1 := HB8.out; have h2 := F3.out.size; omega
      have SA := Lib.hid (SlB.stay HS.out (HS.out.keep F5.out (by simp)) f (by simp; omega))
      have FW := Lib.hid (F5.out.trans f (fun i hi => by simp at hi; omega))
      have GW := Lib.hid ((HG.out.keep F5.out (by simp)).keep f (by have := World.block_lt_of_cell? w _ (HG.out 0 (by omega)); simp at this ⊢; omega))
      have OC := Lib.hid o7
      have H := Lib.hid h
      have SH := Lib.hid hsha
      have FF := Lib.hid (filled_form l)
      have FL := Lib.hid hfl
      generalize filled l = fl at *
      generalize hz : zs l.length = z at *
      have HZ := Lib.hid hz
      have hz9 : z ≤ 63 := by have := padN_ge l.length; unfold zs at hz; omega
      have Z9 := Lib.hid hz9
      have q1 : decide ((fl.length : Int) < (l.length : Int) + 9) = false := by simp; omega
      have q2 : decide ((l.length : Int) + 72 < (fl.length : Int)) = false := by simp; omega
      have q3 : (fl.length : Int) ≤ 1100 := by omega
      have q4 : (2 : Int) ≤ (fl.length : Int) := by omega
      clear hja hfr hfl hsha f o7 n7 h hz hz9 h8 hl1 hk H5 HL5 FT
      go_wp2_with fail
      refine (CopyB_any _ l sp _ SA.out (by have := HL.out; omega)).mono ?_
      rintro r w2 ⟨a2, k2, sp2, rfl, o2, f2, n2⟩
      have OC2 := Lib.hid (OC.out.keep f2 (by simp))
      have F2' := Lib.hid f2
      have O2 := Lib.hid (o2.keep ((Frm.refl [] w2).alloc (.cells #[.int .u8 128] 5)) (by simp))
      have N2 := Lib.hid n2
      clear o2 f2 n2
      go_wp2_with (at_builtin; refine wpList_append_bytes BT O2.out (slb_new w2 [128] 1 _ (0, 0) rfl rfl (by simp [maxLen])) (by have := HL.out; simp; omega) rfl (.tmp 95) (.tmp 96) rfl rfl rfl ?_; intro a3 k3 w3 sp3 o3 f3 n3)
      have hA : WantR wo l 0 (.slice a3 (l.length + 1) k3) w3 := ⟨a3, k3, sp3, by simp, by simpa using o3, (F2'.out.alloc _).trans f3 (fun i hi => .inr (N2.out i hi)), fun i hi => by
        rcases n3 i (by simpa using hi) with h | h
        · exact N2.out i h
        · have := F2'.out.size; simp at h; omega⟩
      have A3 := Lib.hid hA
      have e101 : IntKind.i64.wrap ((fl.length : Int) - 2) = (fl.length : Int) - 2 := IntWalk.i64_in _ (by omega)
      clear hA o3 f3 n3 O2 N2 F2' OC2
      go_loopw [15] (fun v wr' => ∃ j, j ≤ z + 6 ∧ WantR wo l j v wr') (fun v _ => l.length + 1 + z + 6 - slLen v)
      case atStart => exact ⟨0, by omega, A3.out⟩
      case round =>
        clear A3
        obtain ⟨j, hj, a4, k4, sp4, rfl, o4, f4, n4⟩ := hrel
        have hlen : (l ++ [128] ++ List.replicate j (0 : UInt8)).length = l.length + 1 + j := by simp; omega
        by_cases hlt : j < z + 6
        · have hrep : l ++ [128] ++ List.replicate j (0 : UInt8) ++ [0] = l ++ [128] ++ List.replicate (j + 1) 0 := by simp [List.replicate_succ']
          generalize l ++ [128] ++ List.replicate j (0 : UInt8) = L at *
          have t1 : decide ((L.length : Int) < (fl.length : Int) - 2) = true := by have := FL.out; simp; omega
          have O := Lib.hid (o4.keep ((Frm.refl [] _).alloc (.cells #[.int .u8 0] 5)) (by simp))
          have F := Lib.hid f4
          have G := Lib.hid n4
          have HLN := Lib.hid hlen
          have HR := Lib.hid hrep
          have JJ := Lib.hid hlt
          clear o4 f4 n4 hlen hrep
          go_wp2_with (at_builtin; refine wpList_append_bytes BT O.out (slb_new _ [0] 1 _ (0, 0) rfl rfl (by simp [maxLen])) (by have := HLN.out; have := HL.out; have := Z9.out; simp; omega) rfl (.tmp 103) (.tmp 104) rfl rfl rfl ?_; intro a5 k5 w5' sp5 o5 f5 n5)
          have hnew : WantR wo l (j + 1) (.slice a5 (L.length + 1) k5) w5' := ⟨a5, k5, sp5, by rw [← HR.out]; simp, by rw [← HR.out]; simpa using o5, (F.out.alloc _).trans f5 (fun i hi => .inr (G.out i hi)), fun i hi => by
            rw [← HR.out] at hi
            rcases n5 i (by simpa using hi) with h | h
            · exact G.out i h
            · have := F.out.size; simp at h; omega⟩
          have HNW := Lib.hid hnew
          clear hnew o5 f5 n5
          go_wp2_with fail
          go_roundw
          case rel => exact ⟨j + 1, JJ.out, HNW.out⟩
          case measure => have := HLN.out; have := JJ.out; simp [slLen]; omega
        · obtain rfl : j = z + 6 := by omega
          have hform : l ++ [128] ++ List.replicate (z + 6) (0 : UInt8) ++ [UInt8.ofNat (l.length / 32), UInt8.ofNat (8 * l.length)] = fl := by rw [FF.out]; exact want_form l z (by have := HL.out; omega)
          generalize l ++ [128] ++ List.replicate (z + 6) (0 : UInt8) = L at *
          have t1 : decide ((L.length : Int) < (fl.length : Int) - 2) = false := by have := FL.out; simp; omega
          have O := Lib.hid o4
          have F := Lib.hid f4
          have HLN := Lib.hid hlen
          have HFM := Lib.hid hform
          clear o4 f4 hlen hform
          have e109 : (l.length : Int) / 32 = ((l.length / 32 : Nat) : Int) := by omega
          have hb1 : (l.length : Int) / 32 % 256 = ((UInt8.ofNat (l.length / 32)).toNat : Int) := by rw [UInt8.toNat_ofNat']; omega
          have hb2 : 8 * (l.length : Int) % 256 = ((UInt8.ofNat (8 * l.length)).toNat : Int) := by rw [UInt8.toNat_ofNat']; omega
          generalize UInt8.ofNat (l.length / 32) = c1 at *
          generalize UInt8.ofNat (8 * l.length) = c2' at *
          have hu8 : ∀ y : Int, IntKind.u8.wrap y = y % 256 := fun y => by simp [IntKind.wrap, IntKind.bits, IntKind.signed]
          have HW1 := Lib.hid (show IntKind.u8.wrap (IntKind.i64.wrap ((l.length : Int) / 32)) = (c1.toNat : Int) by rw [IntWalk.i64_in _ (by have := HL.out; omega), hu8]; exact hb1)
          have HW2 := Lib.hid (show IntKind.u8.wrap (IntKind.i64.wrap (8 * (l.length : Int))) = (c2'.toNat : Int) by rw [IntWalk.i64_in _ (by have := HL.out; omega), hu8]; exact hb2)
          clear e109 hb1 hb2 hu8
          go_upto_region 28 with (fail)
          refine wp_region_lit ?_
          refine wpList_step (fun K hK => ?_)
          go_simp
          refine hK _ _ ?_
          clear hK K
          refine wpList_step (fun K hK => ?_)
          go_simp
          refine hK _ _ ?_
          clear hK K
          refine wpList_step (fun K hK => ?_)
          go_simp
          refine hK _ _ ?_
          clear hK K
          refine wpList_step (fun K hK => ?_)
          go_simp
          refine hK _ _ ?_
          clear hK K
          refine wpList_step (fun K hK => ?_)
          go_simp
          refine hK _ _ ?_
          clear hK K
          refine wpList_step (fun K hK => ?_)
          go_simp
          refine hK _ _ ?_
          clear hK K
          refine wpList_step (fun K hK => ?_)
          go_simp
          refine hK _ _ ?_
          clear hK K
          refine wpList_step (fun K hK => ?_)
          go_simp
          refine hK _ _ ?_
          clear hK K
          refine wpList_step (fun K hK => ?_)
          go_simp
          refine hK _ _ ?_
          clear hK K
          refine wpList_step (fun K hK => ?_)
          go_simp
          refine hK _ _ ?_
          clear hK K
          rw [HW1.out, HW2.out]
          refine wpList_append_bytes BT (O.out.keep ((Frm.refl [] _).alloc (.cells #[.int .u8 (c1.toNat : Int), .int .u8 (c2'.toNat : Int)] 5)) (by simp)) (slb_new _ [c1, c2'] 2 _ (0, 0) rfl rfl (by simp [maxLen])) (by have := HLN.out; have := HL.out; have := Z9.out; simp; omega) rfl (.tmp 106) (.tmp 115) rfl rfl rfl ?_
          intro a6 k6 w6 sp6 o6 f6 n6
          have hfl2 : L.length + [c1, c2'].length = fl.length := by rw [← HFM.out]; simp
          rw [hfl2] at o6 n6 ⊢
          rw [HFM.out] at o6
          have G6 := Lib.hid ((F.out.alloc (.cells #[.int .u8 (c1.toNat : Int), .int .u8 (c2'.toNat : Int)] 5)).trans f6 (fun i hi => .inr (n4 i hi)))
          have O6 := Lib.hid o6
          clear o6 f6 n6 hfl2 HW1 HW2
          refine wpList_step (fun K hK => ?_)
          go_simp
          refine hK _ _ ?_
          clear hK K
          refine wpList_nil ?_
          have hbq : (fl == fl) = true := by simp
          have hsame := Same_any (.slice a7 fl.length c7) (.slice a6 fl.length k6) fl sp7 fl sp6 w6 (OC.out.keep G6.out (by simp)).sl O6.out.sl
          rw [hbq] at hsame
          have HSM := Lib.hid hsame
          clear hbq hsame n4
          go_wp2_with fail
          refine HSM.out.mono ?_
          rintro r w7 ⟨rfl, hw7⟩
          subst hw7
          go_upto_region 31 with (fail)
          refine wp_region_lit ?_
          refine wpList_step (fun K hK => ?_)
          go_simp
          refine hK _ _ ?_
          clear hK K
          refine wpList_step (fun K hK => ?_)
          go_simp
          refine (Sum_any _ l sp _ (SA.out.keep G6.out (by simp)) (by have := HL.out; omega) (GW.out.keep G6.out (by simp))).mono ?_
          rintro r w8 ⟨rfl, f8⟩
          have G8 := Lib.hid (G6.out.trans f8 (by simp))
          clear f8
          rw [SH.out]
          have hsz : (bvs (digK x.l 32)).toArray.size = 32 := by simp [bvs_length, digK_length]
          have HSZ := Lib.hid hsz
          clear hsz
          refine hK _ _ ?_
          clear hK K
          refine wpList_step (fun K hK => ?_)
          go_simp
          refine hK _ _ ?_
          clear hK K
          obtain ⟨b16, hb16⟩ : ∃ b16, w8.heap.size = b16 := ⟨_, rfl⟩
          rw [hb16]
          refine wpList_store_row rfl 29 (.tmp 16) (.tmp 122) rfl b16 (bvs (digK x.l 32)).toArray rfl rfl 29 _ (heap_alloc_at hb16.symm) (by rw [HSZ.out]; exact i29) (by rw [HSZ.out]; exact Z32_size) (bvs_oneA _) ?_
          refine wpList_nil ?_
          refine at_world (p := fun W => Exit.then _ _ _ _ W) (R := fun Y => Frm [] wo Y ∧ IsB Y b16 29 (digK x.l 32) ∧ IsW Y b8 36 x.l) ⟨(G8.out.alloc _).setRow _ _ (.inr (by have := G8.out.size; omega)), setRow_heap _ _ _ _ _ _ (heap_alloc_at hb16.symm), (H.out.keepF (G8.out.alloc (.cells Z32 29))) |> fun h => ((Frm.refl [b16] _).setRow _ _ (.inl (by simp))).heap h (by have h1 := lt_heap H.out; have h2 := G8.out.size; simp; omega)⟩ ?_
          rintro V0 ⟨fv, y16, y8⟩
          have FV := Lib.hid fv
          have Y16 := Lib.hid y16
          have Y8 := Lib.hid y8
          clear fv y16 y8 hb16 H G8 G6 OC O6 O F HSM HSZ SA GW
          go_wp2_with fail
          go_loopw [17] (LRel V0) (fun c _ => 32 - (intOf c).toNat)
          case atStart => exact ⟨0, by omega, rfl, Frm.refl _ _⟩
          case round =>
            obtain ⟨k, hk, rfl, fk⟩ := hrel
            by_cases hlt : k < 32
            · have hxl : x.l.length = 8 := rfl
              have hql : k / 4 < x.l.length := by rw [hxl]; omega
              have cq := (Y8.out.keepF fk).cell (k / 4) hql
              rw [at32_lt] at cq
              have hdl : k < (digK x.l 32).length := by rw [digK_length]; exact hlt
              have cx := (Y16.out.keepF fk).cell k hdl
              have hge : (digK x.l 32)[k]'hdl = digB x.l k := by simp [digK]
              rw [hge] at cx
              have hdb : digB x.l k = UInt8.ofNat ((at32 x.l (k / 4)).toNat / 2 ^ (24 - 8 * (k % 4))) := rfl
              have hdv := dig_val (at32 x.l (k / 4)) (24 - 8 * (k % 4))
              rw [← hdb] at hdv
              obtain ⟨q, hq⟩ : ∃ q, k / 4 = q := ⟨_, rfl⟩
              obtain ⟨r, hr⟩ : ∃ r, k % 4 = r := ⟨_, rfl⟩
              have hq0 : (k : Int) / 4 = (q : Int) := by omega
              have hr0 : (k : Int) % 4 = (r : Int) := by omega
              have hr4 : (r : Int) < 4 := by omega
              have hq8 : (q : Int) < 8 := by omega
              have hrp : (0 : Int) ≤ (r : Int) := by omega
              have hqp : (0 : Int) ≤ (q : Int) := by omega
              rw [hq] at cq hdv
              rw [hr] at hdv
              generalize at32 x.l q = xq at *
              generalize digB x.l k = db at *
              have HK := Lib.hid hlt
              have FK := Lib.hid fk
              clear hdb hxl hql hdl hge hq hr fk
              have hl3 : decide ((k : Int) < 32) = true := by simp; omega
              have hkw : IntKind.i64.wrap ((k : Int) + 1) = (k : Int) + 1 := IntWalk.i64_in _ (by omega)
              generalize digK x.l 32 = dg at *
              clear hlt hk
              go_upto_region 35 with (fail)
              go_quiet (fail)
              clear hq0 hr0 hr4 hq8 hrp hqp cx cq hl3 q1 q2 q3 q4 t1 hj e101 hq
              go_wp2_with fail
              refine ⟨⟨k + 1, by have := HK.out; omega, by go_num, FK.out.drewN _⟩, by have := HK.out; simp [intOf]; omega⟩
            · obtain rfl : k = 32 := by omega
              clear hlt
              go_wp2_with fail
              go_ret
              exact ⟨rfl, (FW.out.trans FV.out (by simp)).trans fk (by simp)⟩
end Go.Proofs.YtopjbiccipgnjaaDoor
