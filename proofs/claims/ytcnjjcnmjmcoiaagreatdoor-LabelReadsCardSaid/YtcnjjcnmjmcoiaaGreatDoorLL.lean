/-
  Contract of the document's Unpack. No conditions but those that each theorem names.
-/
import Derived.Test.YtcnjjcnmjmcoiaaGreatDoorLI
import Derived.Test.YtcnjjcnmjmcoiaaGreatDoorFB

namespace Go.Proofs.YtcnjjcnmjmcoiaaGreatDoor
open Go.RowKit
set_option linter.unusedVariables false
set_option linter.unusedSimpArgs false
set_option maxRecDepth 100000

theorem SlB.ltR {w : World} {v : Value} {l sp : List UInt8} (h : SlB w v l sp) (hl : 0 < l.length) : ∀ k ∈ blkR v, k < w.heap.size := by
  rcases h.cases with ⟨rfl, rfl⟩ | ⟨a, rfl, rfl⟩ | ⟨b, off, cap, rfl, _, _⟩
  · simp at hl
  · simp at hl
  · intro k hk
    have hc := h.cellAt 0 hl
    have hb := World.block_lt_of_cell? _ _ hc
    simp only [blkR] at hk
    split at hk
    · simp at hk
    · simp at hk; subst hk; exact hb
def NoRel (l : List UInt8) (w0 : World) (c : Value) (wr : World) : Prop := ∃ k : Nat, k ≤ l.length ∧ c = .int .i64 k ∧ (∀ j, j < k → l[j]? = some 0) ∧ wr = w0
theorem nought_any (v : Value) (l sp : List UInt8) (w : World) (hS : SlB w v l sp) (hl : l.length = 256) : Calls Tryz.prog 25 #[v] w fun r w' => r = .returned (.bool (decide (l.count 0 = 256))) ∧ w' = w := by
  rcases hS.cases with ⟨rfl, rfl⟩ | ⟨a, rfl, rfl⟩ | ⟨b, off, cap, rfl, hcap, _⟩
  · simp at hl
  · simp at hl
  · have HS := Lib.hid hS
    have HL := Lib.hid hl
    clear hS
    rw [hl] at hcap ⊢
    clear hl
    go_enter Tryz.func25, Tryz.ntmps25
    go_wp2_with fail
    go_loopw [3] (NoRel l w) (fun c _ => 256 - (intOf c).toNat)
    case atStart => exact ⟨0, by omega, rfl, fun j hj => by omega, rfl⟩
    case round =>
      obtain ⟨k, hk, rfl, hz, rfl⟩ := hrel
      rw [HL.out] at hk
      by_cases hlt : k < 256
      · have hc : wr.cell? ⟨b, off + k, none⟩ = some (.int .u8 (l[k]'(by rw [HL.out]; exact hlt)).toNat) := by
          have h := HS.out
          exact h.cellAt k (by rw [HL.out]; exact hlt)
        have hx : l[k]? = some (l[k]'(by rw [HL.out]; exact hlt)) := List.getElem?_eq_getElem _
        generalize (l[k]'(by rw [HL.out]; exact hlt)) = x at *
        have HZ := Lib.hid hz
        have HX := Lib.hid hx
        clear hz hx
        by_cases h0 : x = 0
        · subst h0
          have hd : ((((0 : UInt8).toNat : Nat) : Int) != 0) = false := rfl
          go_wp2_with fail
          go_roundw
          case rel => 
            refine ⟨k + 1, by rw [HL.out]; omega, by go_num, fun j hj => ?_, rfl⟩
            rcases Nat.lt_or_ge j k with h | h
            · exact HZ.out j h
            · obtain rfl : j = k := by omega
              exact HX.out
          case measure => simp [intOf]; omega
        · have hd : ((x.toNat : Int) != 0) = true := by
            have : x.toNat ≠ 0 := fun e => h0 (UInt8.toNat_inj.1 e)
            simp; omega
          have hno : decide (l.count 0 = 256) = false := by
            rw [decide_eq_false_iff_not]
            intro e
            rw [← HL.out, List.count_eq_length] at e
            exact h0 (e x (List.mem_of_getElem? HX.out)).symm
          clear h0
          go_wp2_with fail
          go_ret
          exact ⟨by rw [hno]; rfl, rfl⟩
      · obtain rfl : k = 256 := by omega
        have hyes : decide (l.count 0 = 256) = true := by
          rw [decide_eq_true_eq, ← HL.out, List.count_eq_length]
          intro x hx
          obtain ⟨j, hj, rfl⟩ := List.getElem_of_mem hx
          have := hz j (by rw [HL.out] at hj; exact hj)
          rw [List.getElem?_eq_getElem hj] at this
          exact (Option.some.inj this).symm
        clear hz
        go_wp2_with fail
        go_ret
        exact ⟨by rw [hyes]; rfl, rfl⟩
theorem RefUnpack_len (v : Value) (b sp : List UInt8) (w : World) (hS : SlB w v b sp) (hb : b.length ≤ 1000000) (hne : b.length ≠ 256) : Calls Tryz.prog 11 #[v] w (UnpP w b) := by
  obtain ⟨a0, c0, rfl, _, _⟩ := hS.form
  have B0 := LB.new w zeroLab_len
  have f0 : Frm [] w (w.alloc (.cells (lc zeroLab).toArray 28)) := (Frm.refl [] w).alloc _
  have hu : unp b = (zeroLab, 4) := by unfold unp; rw [if_pos hne]
  have HU := Lib.hid hu
  have hd : ((b.length : Int) != 256) = true := by simp; omega
  clear hS hu hne
  go_enter Tryz.func11, Tryz.ntmps11
  go_upto_region 1 with ((with_reducible (show wpList _ _ _ (Oper.mk _ (Op.alloc 28) _ _ _ _ :: _) _ _)); refine wpList_val rfl (exec_alloc28 rfl _) ?_)
  have B0h := Lib.hid B0
  have F0 := Lib.hid f0
  clear B0 f0
  generalize w.alloc (.cells (lc zeroLab).toArray 28) = W0 at *
  obtain ⟨R, hR⟩ : ∃ R, w.heap.size = R := ⟨_, rfl⟩
  rw [hR] at B0h ⊢
  have HRe := Lib.hid hR
  clear hR
  go_wp2_with (first
    | ((with_reducible (show wpList _ _ _ (Oper.mk _ (Op.build 28 _) _ _ _ _ :: _) _ _)); refine wpList_val rfl (exec_bld28z rfl _) ?_)
    | ((with_reducible (show wpList _ _ _ (Oper.mk _ (Op.store 28 _ _) _ _ _ _ :: _) _ _)); refine wpList_store28 rfl _ _ rfl B0h.out zeroLab_len rfl rfl ?_; intro W1 B1 F1))
  have e := HRe.out
  exact bodyPost_ret (v := .tuple #[lv zeroLab, .int .i64 4]) (unp_ret rfl B1 rfl rfl) rfl ⟨by rw [HU.out], F0.out.trans F1 (fun i hi => .inr (by simp at hi; omega))⟩
theorem vnum_at {b : List UInt8} {p n : Nat} {bw : Nat} {v : Value} {sp : List UInt8} {w : World} (h : p + n ≤ b.length) (hl : b.length ≤ 1000000) (h1 : 1 ≤ n) (h5 : n ≤ 5) (hi : Int) (hh : (256 : Int) ^ n ≤ hi + 1) (hR : Rv w bw v b sp (p, 0, 0)) :
    Calls Tryz.prog 28 #[.pointer (some ⟨bw, 0, none⟩), .int .i64 n, .int .i64 0, .int .i64 hi] w fun r w' => r = .returned (.int .i64 (beNat (seg b p n))) ∧ RvTo w bw v b sp (p + n, 0, 0) w' := by
  have h := VNum_any bw v b sp (p, 0, 0) n 0 hi w hR (by simp only; omega) (by omega)
  rw [num_at ‹p + n ≤ b.length› h1 h5 0 hh] at h
  exact h
theorem vraw_at {b : List UInt8} {p n : Nat} {bw : Nat} {v : Value} {sp : List UInt8} {w : World} (h : p + n ≤ b.length) (hl : b.length ≤ 1000000) (hR : Rv w bw v b sp (p, 0, 0)) :
    Calls Tryz.prog 27 #[.pointer (some ⟨bw, 0, none⟩), .int .i64 n] w fun r w' => RawV w bw v b sp (seg b p n) (p + n, 0, 0) r w' := by
  have h := VRaw_any bw v b sp (p, 0, 0) n w hR (by simp only; omega) (by omega)
  rw [raw_at ‹p + n ≤ b.length›] at h
  exact h
theorem copy_pool {w : World} {L c5 : Nat} {a5 : Option Addr} {l0 : Lab} {pl s5 : List UInt8} (ty : TypeId) (hB : LB w L l0) (hO : OwnB 5 w (.slice a5 32 c5) pl s5) (hp : pl.length = 32) :
    ∃ w', (Builtin.copy_ #[22, 22] ty #[.slice (some ⟨L, 0, none⟩) 32 32, .slice a5 32 c5]).run Tryz.prog w = .ok (goInt 32) w' ∧ LB w' L { l0 with pool := pl } ∧ Frm [L] w w' := by
  obtain ⟨i, hi, hz, hs, hby⟩ := info_parts BT.info
  have hS : Src Tryz.prog 1 22 (.slice a5 32 c5) pl.length (bvs pl) w := Sl.src Tryz.underlying22 hO.sl (bvs_one pl)
  have hcells := hS.cells
  have hlen := hS.len
  have hst := run_storeCells_at Tryz.prog L 0 28 (bvs pl) 0 (lc l0).toArray w hB.at' (by simp [bvs_length, hp, lc_length hB.2]) (bvs_one pl)
  simp only [Nat.add_zero] at hst
  have hcur : (lc l0).take 0 ++ bvs pl ++ (lc l0).drop (0 + pl.length) = lc { l0 with pool := pl } := by
    have h1 : (bvs l0.pool).length = pl.length := by rw [bvs_length, hB.2, hp]
    simp only [List.take_zero, List.nil_append, Nat.zero_add, lc]
    rw [← h1, List.drop_left]
  rw [hp] at hcells hlen hcur
  refine ⟨w.setRow L (lc { l0 with pool := pl }).toArray, ?_, ⟨setRow_heap w L _ _ _ _ hB.at', hp⟩, ⟨rfl, rfl, rfl, by simp [World.setRow], fun k hk hn => setRow_other w L k _ (by simpa using hn)⟩⟩
  rw [← hcur]
  simp [Builtin.copy_, run_underlying BT.sl, sizeOf, typeInfo, hi, hs, hlen, hcells, goInt, hst, bvs_length, hp]
theorem step_copy_pool {ops : Array Oper} {o : Oper} {a : Act} {w : World} {K : Act → World → Prop} {Q : Exit → Act → World → Prop} {E : Prop} {L c5 : Nat} {a5 : Option Addr} {l0 : Lab} {pl s5 : List UInt8} (hB : LB w L l0) (hO : OwnB 5 w (.slice a5 32 c5) pl s5) (hp : pl.length = 32) (hg : o.guard = none)
    (s x : Operand) (hop : o.op = Op.call { callee := Callee.builtin Builtin.copy, args := #[s, x], argTypes := #[22, 22] }) (hs : a.eval s = .slice (some ⟨L, 0, none⟩) 32 32) (hx : a.eval x = .slice a5 32 c5)
    (k : ∀ w', LB w' L { l0 with pool := pl } → Frm [L] w w' → K (a.put o.dst (goInt 32)) w') : if Region.wanted o (yielded ops a.tmps) = true then Oper.wp Tryz.prog o a w K Q else E := by
  obtain ⟨w', h1, h2, h3⟩ := copy_pool o.type hB hO hp
  refine step_val (w' := w') hg ?_ (k w' h2 h3)
  simp [execOp, hop, resolve, invoke, builtin, hs, hx, h1, Result.andThen]
set_option maxHeartbeats 4000000 in
theorem RefUnpack_full (v : Value) (b sp : List UInt8) (w : World) (hS : SlB w v b sp) (hb : b.length = 256) : Calls Tryz.prog 11 #[v] w (UnpP w b) := by
  have hform := hS.form
  rw [hb] at hform
  obtain ⟨a0, c0, rfl, _, _⟩ := hform
  have B0 := LB.new w zeroLab_len
  have f0 : Frm [] w (w.alloc (.cells (lc zeroLab).toArray 28)) := (Frm.refl [] w).alloc _
  have HS0 := Lib.hid (hS.keep f0 (by simp))
  have HB := Lib.hid hb
  clear hS hb
  go_enter Tryz.func11, Tryz.ntmps11
  go_upto_region 1 with ((with_reducible (show wpList _ _ _ (Oper.mk _ (Op.alloc 28) _ _ _ _ :: _) _ _)); refine wpList_val rfl (exec_alloc28 rfl _) ?_)
  have B0h := Lib.hid B0
  have F0 := Lib.hid f0
  clear B0 f0
  generalize w.alloc (.cells (lc zeroLab).toArray 28) = W0 at *
  obtain ⟨R, hR⟩ : ∃ R, w.heap.size = R := ⟨_, rfl⟩
  rw [hR] at B0h ⊢
  have HRe := Lib.hid hR
  clear hR
  have HC := Lib.hid (nought_any _ b sp _ HS0.out HB.out)
  by_cases hz : b.count 0 = 256
  · have HU := Lib.hid (unp_zero HB.out hz)
    rw [show decide (b.count 0 = 256) = true by simpa using hz] at HC
    clear hz
    go_wp2_with (first
      | (go_at_call 25; refine HC.out.mono ?_; rintro r w' ⟨rfl, rfl⟩)
      | ((with_reducible (show wpList _ _ _ (Oper.mk _ (Op.build 28 _) _ _ _ _ :: _) _ _)); refine wpList_val rfl (exec_bld28z rfl _) ?_)
      | ((with_reducible (show wpList _ _ _ (Oper.mk _ (Op.store 28 _ _) _ _ _ _ :: _) _ _)); refine wpList_store28 rfl _ _ rfl B0h.out zeroLab_len rfl rfl ?_; intro W1 B1 F1))
    have e := HRe.out
    exact bodyPost_ret (v := .tuple #[lv zeroLab, .int .i64 6]) (unp_ret rfl B1 rfl rfl) rfl ⟨by rw [HU.out], F0.out.trans F1 (fun i hi => .inr (by simp at hi; omega))⟩
  · have HU := Lib.hid (unp_rest HB.out hz)
    rw [show decide (b.count 0 = 256) = false by simpa using hz] at HC
    clear hz
    have HO := Lib.hid (VOpen_any _ b sp W0 HS0.out (HS0.out.ltR (by rw [HB.out]; decide)))
    have hbv : ∀ k ∈ blkR (.slice a0 256 c0), k < W0.heap.size := HS0.out.ltR (by rw [HB.out]; decide)
    have HBV := Lib.hid hbv
    clear hbv
    have hb9 : b.length ≤ 1000000 := by rw [HB.out]; decide
    go_upto_region 6 with (first
      | (go_at_call 25; refine HC.out.mono ?_; rintro r W0 ⟨rfl, rfl⟩)
      | (go_at_call 26; refine HO.out.mono ?_; rintro r W1 ⟨rfl, hv1, f1⟩))
    have ZR := Lib.hid (show R < W0.heap.size from B0h.out.lt)
    have V1 := Lib.hid hv1
    have F1 := Lib.hid f1
    have ZV := Lib.hid (lt_heap hv1.1)
    clear hv1 f1 HO HC
    obtain ⟨br, hbr⟩ : ∃ br, W0.heap.size = br := ⟨_, rfl⟩
    rw [hbr] at V1 ZR ZV HBV ⊢
    have HBR := Lib.hid hbr
    clear hbr
    have C1 := Lib.hid (vraw_at (n := 8) (by rw [HB.out]; decide) hb9 V1.out)
    go_upto_region 7 with (go_at_call 27; refine C1.out.mono ?_; rintro r W2 ⟨a2, c2, s2, rfl, _, _, hv2⟩)
    have V2 := Lib.hid hv2.1
    have F2 := Lib.hid (show Frm [br] W1 W2 from hv2.2)
    clear hv2 C1 V1
    go_upto_region 8 with ((with_reducible (show wpList _ _ _ (Oper.mk _ (Op.alloc 28) _ _ _ _ :: _) _ _)); refine wpList_val rfl (exec_alloc28 rfl _) ?_)
    have f3 : Frm [] W2 (W2.alloc (.cells (lc zeroLab).toArray 28)) := (Frm.refl [] W2).alloc _
    have BL := Lib.hid (LB.new W2 zeroLab_len)
    have V3 := Lib.hid (show Rv _ br _ b sp (0 + 8, 0, 0) from V2.out.keep f3 (by simp) (by simp))
    have F3 := Lib.hid (F2.out.trans f3 (by simp))
    have ZL := Lib.hid (show br < W2.heap.size from lt_heap V2.out.1)
    have ZL2 := Lib.hid (show W1.heap.size ≤ W2.heap.size from F2.out.size)
    clear f3 V2 F2
    generalize W2.alloc (.cells (lc zeroLab).toArray 28) = W3 at *
    obtain ⟨L, hL⟩ : ∃ L, W2.heap.size = L := ⟨_, rfl⟩
    rw [hL] at BL ZL ZL2 ⊢
    clear hL
    have C2 := Lib.hid (vraw_at (p := 8) (n := 32) (by rw [HB.out]; decide) hb9 V3.out)
    obtain ⟨pl, hpl⟩ : ∃ pl, seg b 8 32 = pl := ⟨_, rfl⟩
    have hsg : pl.length = 32 := by rw [← hpl]; exact seg_length (by rw [HB.out]; decide)
    rw [hpl] at C2
    have HPL := Lib.hid hpl
    have hsA := sliceAt26
    clear hpl
    go_upto_region 8 with (fail)
    refine wp_region_held_drew (S := fun z => Frm [br, L] W3 z) (by kernel_rfl) ((Frm.refl [br, L] W3).drew) (fun hHeld => ?_)
    refine wpAnyH_take (i := 0) (oi := { dst := some 19, op := Op.fieldAddr 28 (Operand.tmp 5) 0, type := 0, pos := "ref.go:67", after := #[], guard := none }) (v := ?_) rfl (by kernel_rfl) (by kernel_rfl) (by kernel_rfl) (fun _ _ _ h => h) (Or.inl ⟨by rfl, ?_⟩) hHeld ?_
    rotate_left
    focus (intro z hSw; clear hSw; go_simp; try with_reducible rfl)
    try simp only [Act.put, List.setIfInBounds_toArray, List.set_cons_zero, List.set_cons_succ]
    refine wpAnyH_take (i := 1) (oi := { dst := some 20, op := Op.slice 26 (Operand.tmp 19) none none none, type := 22, pos := "ref.go:67", after := #[{ on := 0, ground := Ground.data }], guard := none }) (v := ?_) rfl (by kernel_rfl) (by kernel_rfl) (by kernel_rfl) (fun _ _ _ h => h) (Or.inl ⟨by rfl, ?_⟩) hHeld ?_
    rotate_left
    focus (intro z hSw; clear hSw; go_simp; try with_reducible rfl)
    try simp only [Act.put, List.setIfInBounds_toArray, List.set_cons_zero, List.set_cons_succ]
    refine wpAnyH_take (i := 2) (oi := { dst := some 21, op := Op.move (Operand.tmp 4), type := 49, pos := "ref.go:67", after := #[], guard := none }) (v := ?_) rfl (by kernel_rfl) (by kernel_rfl) (by kernel_rfl) (fun _ _ _ h => h) (Or.inl ⟨by rfl, ?_⟩) hHeld ?_
    rotate_left
    focus (intro z hSw; clear hSw; go_simp; try with_reducible rfl)
    try simp only [Act.put, List.setIfInBounds_toArray, List.set_cons_zero, List.set_cons_succ]
    refine wpAnyH_ready (rs := [3]) (by kernel_rfl) (by simp) ?_
    refine AllReadyH.cons (o := { dst := some 22, op := Op.call { callee := Callee.value (Operand.func 27), args := #[Operand.tmp 21, Operand.const (Value.int IntKind.i64 32)], argTypes := #[49, 3] }, type := 22, pos := "ref.go:67", after := #[{ on := 2, ground := Ground.data }], guard := none }) rfl (fun K hK => ?_) AllReadyH.nil
    go_simp
    refine ((vraw_at (p := 8) (n := 32) (by rw [HB.out]; decide) hb9 (V3.out.keep ((Frm.refl [] W3).drew) (by simp) (by simp)))).mono ?_
    rintro r W5 ⟨a5, c5, s5, hr5, o5, n5, hd5⟩
    rw [HPL.out, hsg] at hr5 o5 n5
    subst hr5
    have V5 := Lib.hid hd5.1
    have F5 := Lib.hid hd5.2
    have BL5 := Lib.hid (BL.out.keep (((Frm.refl [br] W3).drew).trans hd5.2 (by simp)) (by have := ZL.out; simp; omega))
    refine hK.out _ _ ?_ (fun hNext => ?_)
    · exact ((Frm.refl [br, L] W3).drew).trans hd5.2 (by simp)
    clear hK K hHeld
    have hHeld := hNext
    clear hNext
    try simp only [Act.put, List.setIfInBounds_toArray, List.set_cons_zero, List.set_cons_succ]
    refine wpAnyH_ready (rs := [4]) (by kernel_rfl) (by simp) ?_
    refine AllReadyH.cons (o := { dst := some 23, op := Op.call { callee := Callee.builtin Builtin.copy, args := #[Operand.tmp 20, Operand.tmp 22], argTypes := #[22, 22] }, type := 3, pos := "ref.go:67", after := #[{ on := 1, ground := Ground.data }, { on := 3, ground := Ground.data }, { on := 3, ground := Ground.chain }], guard := none }) rfl (fun K hK => ?_) AllReadyH.nil
    refine step_copy_pool BL5.out o5 hsg rfl (.tmp 20) (.tmp 22) rfl rfl rfl ?_
    intro W6 BL6 f6
    have F6 := Lib.hid f6
    have BL6h := Lib.hid BL6
    clear f6 BL6
    refine hK.out _ _ ?_ (fun hNext => ?_)
    · exact hHeld.trans F6.out (by simp)
    clear hK K hHeld
    have hHeld := hNext
    clear hNext
    try simp only [Act.put, List.setIfInBounds_toArray, List.set_cons_zero, List.set_cons_succ]
    refine wpAnyH_done (by kernel_rfl) ?_ _
    have V6 := Lib.hid (show Rv W6 br _ b sp (40, 0, 0) from V5.out.keep F6.out (by have := ZL.out; simp; omega) (fun k hk hm => by have := HBV.out k hk; have := ZL.out; simp at hm; omega))
    have G6 := Lib.hid hHeld
    have L6 := Lib.hid (show LB W6 L ⟨pl, 0, 0, 0, 0, 0⟩ from BL6h.out)
    clear hHeld V5 F5 BL5 F6 BL6h o5 n5 hd5 C2 BL V3 hsA

    have C7 := Lib.hid (vnum_at (n := 1) (by rw [HB.out]; decide) hb9 (by decide) (by decide) 255 (by decide) V6.out)
    go_upto_region 10 with (go_at_call 28; refine C7.out.mono ?_; rintro r X7 ⟨rfl, hx⟩; have LX7 := Lib.hid (L6.out.keep hx.2 (by have := ZL.out; simp; omega)); have VX7 := Lib.hid hx.1; have GX7 := Lib.hid (G6.out.trans hx.2 (by simp)); have c7 := LX7.out.gets.c1; have z7 := frozen_of_heap LX7.out.at' 32; clear hx)
    have y7 := LX7.out.set (m := ⟨pl, beNat (seg b 40 1), 0, 0, 0, 0⟩) 0 (.int .i64 (beNat (seg b 40 1))) rfl rfl
    have fs7 := (Frm.refl [L] X7).setCell ⟨L, 32 + 0, none⟩ (.int .i64 (beNat (seg b 40 1))) (.inl (by simp))
    simp only [Nat.add_zero, Nat.reduceAdd] at y7 fs7
    obtain ⟨W7, hW7⟩ : ∃ W, X7.setCell ⟨L, 32, none⟩ (.int .i64 (beNat (seg b 40 1))) = W := ⟨_, rfl⟩
    rw [hW7] at y7 fs7 ⊢
    have L7 := Lib.hid y7
    have V7 := Lib.hid (show Rv W7 br _ b sp (41, 0, 0) from VX7.out.keep fs7 (by have := ZL.out; simp; omega) (fun k hk hm => by have := HBV.out k hk; have := ZL.out; simp at hm; omega))
    have G7 := Lib.hid (GX7.out.trans fs7 (by simp))
    clear hW7 y7 fs7 c7 z7 LX7 VX7 GX7 C7 V6 G6 L6
    have C8 := Lib.hid (vnum_at (n := 1) (by rw [HB.out]; decide) hb9 (by decide) (by decide) 255 (by decide) V7.out)
    go_upto_region 11 with (go_at_call 28; refine C8.out.mono ?_; rintro r X8 ⟨rfl, hx⟩; have LX8 := Lib.hid (L7.out.keep hx.2 (by have := ZL.out; simp; omega)); have VX8 := Lib.hid hx.1; have GX8 := Lib.hid (G7.out.trans hx.2 (by simp)); have c8 := LX8.out.gets.c2; have z8 := frozen_of_heap LX8.out.at' 33; clear hx)
    have y8 := LX8.out.set (m := ⟨pl, beNat (seg b 40 1), beNat (seg b 41 1), 0, 0, 0⟩) 1 (.int .i64 (beNat (seg b 41 1))) rfl rfl
    have fs8 := (Frm.refl [L] X8).setCell ⟨L, 32 + 1, none⟩ (.int .i64 (beNat (seg b 41 1))) (.inl (by simp))
    simp only [Nat.add_zero, Nat.reduceAdd] at y8 fs8
    obtain ⟨W8, hW8⟩ : ∃ W, X8.setCell ⟨L, 33, none⟩ (.int .i64 (beNat (seg b 41 1))) = W := ⟨_, rfl⟩
    rw [hW8] at y8 fs8 ⊢
    have L8 := Lib.hid y8
    have V8 := Lib.hid (show Rv W8 br _ b sp (42, 0, 0) from VX8.out.keep fs8 (by have := ZL.out; simp; omega) (fun k hk hm => by have := HBV.out k hk; have := ZL.out; simp at hm; omega))
    have G8 := Lib.hid (GX8.out.trans fs8 (by simp))
    clear hW8 y8 fs8 c8 z8 LX8 VX8 GX8 C8 V7 G7 L7
    have C9 := Lib.hid (vnum_at (n := 1) (by rw [HB.out]; decide) hb9 (by decide) (by decide) 255 (by decide) V8.out)
    go_upto_region 12 with (go_at_call 28; refine C9.out.mono ?_; rintro r X9 ⟨rfl, hx⟩; have LX9 := Lib.hid (L8.out.keep hx.2 (by have := ZL.out; simp; omega)); have VX9 := Lib.hid hx.1; have GX9 := Lib.hid (G8.out.trans hx.2 (by simp)); have c9 := LX9.out.gets.c3; have z9 := frozen_of_heap LX9.out.at' 34; clear hx)
    have y9 := LX9.out.set (m := ⟨pl, beNat (seg b 40 1), beNat (seg b 41 1), beNat (seg b 42 1), 0, 0⟩) 2 (.int .i64 (beNat (seg b 42 1))) rfl rfl
    have fs9 := (Frm.refl [L] X9).setCell ⟨L, 32 + 2, none⟩ (.int .i64 (beNat (seg b 42 1))) (.inl (by simp))
    simp only [Nat.add_zero, Nat.reduceAdd] at y9 fs9
    obtain ⟨W9, hW9⟩ : ∃ W, X9.setCell ⟨L, 34, none⟩ (.int .i64 (beNat (seg b 42 1))) = W := ⟨_, rfl⟩
    rw [hW9] at y9 fs9 ⊢
    have L9 := Lib.hid y9
    have V9 := Lib.hid (show Rv W9 br _ b sp (43, 0, 0) from VX9.out.keep fs9 (by have := ZL.out; simp; omega) (fun k hk hm => by have := HBV.out k hk; have := ZL.out; simp at hm; omega))
    have G9 := Lib.hid (GX9.out.trans fs9 (by simp))
    clear hW9 y9 fs9 c9 z9 LX9 VX9 GX9 C9 V8 G8 L8
    have C10 := Lib.hid (vnum_at (n := 2) (by rw [HB.out]; decide) hb9 (by decide) (by decide) 65535 (by decide) V9.out)
    go_upto_region 13 with (go_at_call 28; refine C10.out.mono ?_; rintro r X10 ⟨rfl, hx⟩; have LX10 := Lib.hid (L9.out.keep hx.2 (by have := ZL.out; simp; omega)); have VX10 := Lib.hid hx.1; have GX10 := Lib.hid (G9.out.trans hx.2 (by simp)); have c10 := LX10.out.gets.c4; have z10 := frozen_of_heap LX10.out.at' 35; clear hx)
    have y10 := LX10.out.set (m := ⟨pl, beNat (seg b 40 1), beNat (seg b 41 1), beNat (seg b 42 1), beNat (seg b 43 2), 0⟩) 3 (.int .i64 (beNat (seg b 43 2))) rfl rfl
    have fs10 := (Frm.refl [L] X10).setCell ⟨L, 32 + 3, none⟩ (.int .i64 (beNat (seg b 43 2))) (.inl (by simp))
    simp only [Nat.add_zero, Nat.reduceAdd] at y10 fs10
    obtain ⟨W10, hW10⟩ : ∃ W, X10.setCell ⟨L, 35, none⟩ (.int .i64 (beNat (seg b 43 2))) = W := ⟨_, rfl⟩
    rw [hW10] at y10 fs10 ⊢
    have L10 := Lib.hid y10
    have V10 := Lib.hid (show Rv W10 br _ b sp (45, 0, 0) from VX10.out.keep fs10 (by have := ZL.out; simp; omega) (fun k hk hm => by have := HBV.out k hk; have := ZL.out; simp at hm; omega))
    have G10 := Lib.hid (GX10.out.trans fs10 (by simp))
    clear hW10 y10 fs10 c10 z10 LX10 VX10 GX10 C10 V9 G9 L9
    have C11 := Lib.hid (vnum_at (n := 5) (by rw [HB.out]; decide) hb9 (by decide) (by decide) 1099511627776 (by decide) V10.out)
    go_upto_region 14 with (go_at_call 28; refine C11.out.mono ?_; rintro r X11 ⟨rfl, hx⟩; have LX11 := Lib.hid (L10.out.keep hx.2 (by have := ZL.out; simp; omega)); have VX11 := Lib.hid hx.1; have GX11 := Lib.hid (G10.out.trans hx.2 (by simp)); have c11 := LX11.out.gets.c5; have z11 := frozen_of_heap LX11.out.at' 36; clear hx)
    have y11 := LX11.out.set (m := ⟨pl, beNat (seg b 40 1), beNat (seg b 41 1), beNat (seg b 42 1), beNat (seg b 43 2), beNat (seg b 45 5)⟩) 4 (.int .i64 (beNat (seg b 45 5))) rfl rfl
    have fs11 := (Frm.refl [L] X11).setCell ⟨L, 32 + 4, none⟩ (.int .i64 (beNat (seg b 45 5))) (.inl (by simp))
    simp only [Nat.add_zero, Nat.reduceAdd] at y11 fs11
    obtain ⟨W11, hW11⟩ : ∃ W, X11.setCell ⟨L, 36, none⟩ (.int .i64 (beNat (seg b 45 5))) = W := ⟨_, rfl⟩
    rw [hW11] at y11 fs11 ⊢
    have L11 := Lib.hid y11
    have V11 := Lib.hid (show Rv W11 br _ b sp (50, 0, 0) from VX11.out.keep fs11 (by have := ZL.out; simp; omega) (fun k hk hm => by have := HBV.out k hk; have := ZL.out; simp at hm; omega))
    have G11 := Lib.hid (GX11.out.trans fs11 (by simp))
    clear hW11 y11 fs11 c11 z11 LX11 VX11 GX11 C11 V10 G10 L10
    rw [parse_as b ⟨pl, beNat (seg b 40 1), beNat (seg b 41 1), beNat (seg b 42 1), beNat (seg b 43 2), beNat (seg b 45 5)⟩ HPL.out.symm rfl rfl rfl rfl rfl] at L11
    have hpp : (parse b).pool.length = 32 := parse_pool HB.out
    have FB := Lib.hid (show Frm [] W0 W11 from ((F1.out.trans F3.out (L := []) (L' := [br]) (fun i hi => .inr (by have := HBR.out; simp at hi; omega))).trans G11.out (fun i hi => .inr (by have := HBR.out; have := ZL.out; simp at hi; omega))))
    have B11 := Lib.hid (B0h.out.keep0 FB.out)
    have GA := Lib.hid L11.out.gets.all
    have HPk := Lib.hid (RefPack_any (parse b) hpp W11)
    clear F1 F3 G11 B0h V11
    go_upto_region 15 with (first
      | ((with_reducible (show wpList _ _ _ (Oper.mk _ (Op.load 28 _) _ _ _ _ :: _) _ _)); refine wpList_load_g (by rfl) 28 _ rfl _ rfl GA.out ?_)
      | (go_at_call 29; refine HPk.out.mono ?_; rintro r W12 ⟨a4, c4, s4, rfl, o4, f4, n4⟩))
    have F4 := Lib.hid (FB.out.trans f4 (by simp))
    have B4 := Lib.hid (B11.out.keep0 f4)
    have BL4 := Lib.hid (L11.out.keep0 f4)
    have e1 := convert_bytes BT o4.sl Tryz.underlying9
    have e2 := convert_bytes BT (HS0.out.keep F4.out (by simp)) Tryz.underlying9
    have DB := Lib.hid (show ∀ W1 (tmps : Array Value), unp b = (zeroLab, 11) → LB W1 R zeroLab → Frm [R] W12 W1 → tmps.getD 2 undef = .pointer (some ⟨R, 0, none⟩) → tmps.getD 3 undef = .int .i64 11 → bodyPost Tryz.prog Tryz.f11 (UnpP w b) Exit.ret { tmps := tmps, defers := [] } W1 from fun W1 tmps hu B1 F1 h2 h3 => by
      have e := HRe.out
      exact bodyPost_ret (v := .tuple #[lv zeroLab, .int .i64 11]) (unp_ret rfl B1 h2 h3) rfl ⟨by rw [hu], (F0.out.trans F4.out (by simp)).trans F1 (fun i hi => .inr (by simp at hi; omega))⟩)
    clear f4 n4 o4 FB B11 L11 GA HPk
    obtain ⟨X, hX⟩ : ∃ X : ByteArray, (⟨(packO (parse b)).toArray⟩ : ByteArray) = X := ⟨_, rfl⟩
    obtain ⟨Y, hY⟩ : ∃ Y : ByteArray, (⟨b.toArray⟩ : ByteArray) = Y := ⟨_, rfl⟩
    rw [hX] at e1
    rw [hY] at e2
    have hXY : (X.toList == Y.toList) = (packO (parse b) == b) := by rw [← hX, ← hY, ByteArray.toList_eq, ByteArray.toList_eq]
    clear hX hY
    by_cases hm : May (parse b)
    · rw [mayE_yes hm]
      by_cases he : packL (parse b) = b
      · have hq : (packO (parse b) == b) = true := by rw [packO_yes hm]; simpa using he
        rw [hq] at hXY
        have hu := HU.out
        rw [if_pos ⟨mayB_iff.2 hm, he⟩] at hu
        have HU2 := Lib.hid hu
        have G4 := Lib.hid BL4.out.gets.all
        clear hm he hq hu
        go_wp2_with (first
          | ((with_reducible (show wpList _ _ _ (Oper.mk _ (Op.load 28 _) _ _ _ _ :: _) _ _)); refine wpList_load_g (by rfl) 28 _ rfl _ rfl G4.out ?_)
          | ((with_reducible (show wpList _ _ _ (Oper.mk _ (Op.store 28 _ _) _ _ _ _ :: _) _ _)); refine wpList_store28 rfl _ _ rfl B4.out hpp rfl rfl ?_; intro W1 B1 F1))
        have e := HRe.out
        exact bodyPost_ret (v := .tuple #[lv (parse b), .int .i64 0]) (unp_ret rfl B1 rfl rfl) rfl ⟨by rw [HU2.out], (F0.out.trans F4.out (by simp)).trans F1 (fun i hi => .inr (by simp at hi; omega))⟩
      · have hq : (packO (parse b) == b) = false := by rw [packO_yes hm]; simpa using he
        rw [hq] at hXY
        have hu := HU.out
        rw [if_neg (fun h => he h.2)] at hu
        have HU2 := Lib.hid hu
        clear hm he hq hu
        go_wp2_with (first
          | ((with_reducible (show wpList _ _ _ (Oper.mk _ (Op.build 28 _) _ _ _ _ :: _) _ _)); refine wpList_val rfl (exec_bld28z rfl _) ?_)
          | ((with_reducible (show wpList _ _ _ (Oper.mk _ (Op.store 28 _ _) _ _ _ _ :: _) _ _)); refine wpList_store28 rfl _ _ rfl B4.out zeroLab_len rfl rfl ?_; intro W1 B1 F1))
        exact DB.out _ _ HU2.out B1 F1 rfl rfl
    · rw [mayE_no hm]
      have hu := HU.out
      rw [if_neg (fun h => hm (mayB_iff.1 h.1))] at hu
      have HU2 := Lib.hid hu
      clear hm hu e1 e2 hXY
      go_wp2_with (first
        | ((with_reducible (show wpList _ _ _ (Oper.mk _ (Op.build 28 _) _ _ _ _ :: _) _ _)); refine wpList_val rfl (exec_bld28z rfl _) ?_)
        | ((with_reducible (show wpList _ _ _ (Oper.mk _ (Op.store 28 _ _) _ _ _ _ :: _) _ _)); refine wpList_store28 rfl _ _ rfl B4.out zeroLab_len rfl rfl ?_; intro W1 B1 F1))
      exact DB.out _ _ HU2.out B1 F1 rfl rfl
theorem RefUnpack_any (v : Value) (b sp : List UInt8) (w : World) (hS : SlB w v b sp) (hb : b.length ≤ 1000000) : Calls Tryz.prog 11 #[v] w (UnpP w b) := by
  by_cases h : b.length = 256
  · exact RefUnpack_full v b sp w hS h
  · exact RefUnpack_len v b sp w hS hb h
end Go.Proofs.YtcnjjcnmjmcoiaaGreatDoor
