/-
  Contract of the document's Unpack of uberblocks. No conditions but those that each theorem names.
-/
import Derived.Test.YtjdejhgfkjeeiaaGreatDoorVG
import Derived.Test.YtjdejhgfkjeeiaaGreatDoorVC
import Derived.Test.YtjdejhgfkjeeiaaGreatDoorPQ
import Derived.Test.YtjdejhgfkjeeiaaGreatDoorFB
namespace Go.Proofs.YtjdejhgfkjeeiaaGreatDoor
open Go.RowKit
set_option linter.unusedVariables false
set_option linter.unusedSimpArgs false
set_option maxRecDepth 100000

open Pt (Pt may enc readPt readE readAt zeroPt pc pv PtV SlA OwnA)
theorem SlB.ltR {w : World} {v : Value} {l sp : List UInt8} (h : SlB w v l sp) (hl : 0 < l.length) : ∀ k ∈ blkR v, k < w.heap.size := by
  rcases h.cases with ⟨rfl, rfl⟩ | ⟨a, rfl, rfl⟩ | ⟨b, off, cap, rfl, _, _⟩
  · simp at hl
  · simp at hl
  · intro k hk
    have hc := h.cellAt 0 hl
    have hb := World.block_lt_of_cell? _ _ hc
    simp only [blkR] at hk
    split at hk
    · simp at hk
    · simp at hk; subst hk; exact hb
theorem asks_err {b m : List UInt8} (hm : seg b 48 47 = m) (h : readE m ≠ 0) : asks b = false := by
  unfold asks
  rw [hm, show (readE m == 0) = false from beq_eq_false_iff_ne.2 h]
  simp
theorem unp_z : unp zeros256 = (zeroU, 6) := by
  unfold unp
  rw [if_neg (by simp [zeros256, -List.reduceReplicate]), if_pos (show zeros256 = List.replicate 256 0 from rfl)]
def NoRel (l : List UInt8) (w0 : World) (c : Value) (wr : World) : Prop := ∃ k : Nat, k ≤ l.length ∧ c = .int .i64 k ∧ (∀ j, j < k → l[j]? = some 0) ∧ wr = w0
theorem nought_any (v : Value) (l sp : List UInt8) (w : World) (hS : SlB w v l sp) (hl : l.length = 256) : Calls Tryz.prog 75 #[v] w fun r w' => r = .returned (.bool (decide (l = zeros256))) ∧ w' = w := by
  rcases hS.cases with ⟨rfl, rfl⟩ | ⟨a, rfl, rfl⟩ | ⟨b, off, cap, rfl, hcap, _⟩
  · simp at hl
  · simp at hl
  · have HS := Lib.hid hS
    have HL := Lib.hid hl
    clear hS
    rw [hl] at hcap ⊢
    clear hl
    go_enter Tryz.func75, Tryz.ntmps75
    go_wp2_with fail
    go_loopw [3] (NoRel l w) (fun c _ => 256 - (intOf c).toNat)
    case atStart => exact ⟨0, by omega, rfl, fun j hj => by omega, rfl⟩
    case round =>
      obtain ⟨k, hk, rfl, hz, rfl⟩ := hrel
      rw [HL.out] at hk
      by_cases hlt : k < 256
      · have hc : wr.cell? ⟨b, off + k, none⟩ = some (.int .u8 (l[k]'(by rw [HL.out]; exact hlt)).toNat) := by
          have h := HS.out
          exact h.cellAt k (by rw [HL.out]; exact hlt)
        have hx : l[k]? = some (l[k]'(by rw [HL.out]; exact hlt)) := List.getElem?_eq_getElem _
        generalize (l[k]'(by rw [HL.out]; exact hlt)) = x at *
        have HZ := Lib.hid hz
        have HX := Lib.hid hx
        clear hz hx
        by_cases h0 : x = 0
        · subst h0
          have hd : ((((0 : UInt8).toNat : Nat) : Int) != 0) = false := rfl
          go_wp2_with fail
          go_roundw
          case rel => 
            refine ⟨k + 1, by rw [HL.out]; omega, by go_num, fun j hj => ?_, rfl⟩
            rcases Nat.lt_or_ge j k with h | h
            · exact HZ.out j h
            · obtain rfl : j = k := by omega
              exact HX.out
          case measure => simp [intOf]; omega
        · have hd : ((x.toNat : Int) != 0) = true := by
            have : x.toNat ≠ 0 := fun e => h0 (UInt8.toNat_inj.1 e)
            simp; omega
          have hno : decide (l = zeros256) = false := by
            rw [decide_eq_false_iff_not]
            intro e
            rw [e] at HX
            have := HX.out
            unfold zeros256 at this
            rw [List.getElem?_replicate_of_lt hlt] at this
            exact h0 (Option.some.inj this).symm
          clear h0
          go_wp2_with fail
          go_ret
          exact ⟨by rw [hno]; rfl, rfl⟩
      · obtain rfl : k = 256 := by omega
        have hyes : decide (l = zeros256) = true := by
          rw [decide_eq_true_eq]
          unfold zeros256
          rw [List.eq_replicate_iff]
          refine ⟨HL.out, fun x hx => ?_⟩
          obtain ⟨j, hj, rfl⟩ := List.getElem_of_mem hx
          have := hz j (by rw [HL.out] at hj; exact hj)
          rw [List.getElem?_eq_getElem hj] at this
          exact Option.some.inj this
        clear hz
        go_wp2_with fail
        go_ret
        exact ⟨by rw [hyes]; rfl, rfl⟩
theorem vnum_at {b : List UInt8} {p n : Nat} {bw : Nat} {v : Value} {sp : List UInt8} {w : World} (h : p + n ≤ b.length) (hl : b.length ≤ 1000000) (h1 : 1 ≤ n) (h5 : n ≤ 5) (hi : Int) (hh : (256 : Int) ^ n ≤ hi + 1) (hR : Rv w bw v b sp (p, 0, 0)) :
    Calls Tryz.prog 78 #[.pointer (some ⟨bw, 0, none⟩), .int .i64 n, .int .i64 0, .int .i64 hi] w fun r w' => r = .returned (.int .i64 (beNat (seg b p n))) ∧ RvTo w bw v b sp (p + n, 0, 0) w' := by
  have h := VNum_any bw v b sp (p, 0, 0) n 0 hi w hR (by simp only; omega) (by omega)
  rw [num_at ‹p + n ≤ b.length› h1 h5 0 hh] at h
  exact h
theorem vraw_at {b : List UInt8} {p n : Nat} {bw : Nat} {v : Value} {sp : List UInt8} {w : World} (h : p + n ≤ b.length) (hl : b.length ≤ 1000000) (hR : Rv w bw v b sp (p, 0, 0)) :
    Calls Tryz.prog 77 #[.pointer (some ⟨bw, 0, none⟩), .int .i64 n] w fun r w' => RawV w bw v b sp (seg b p n) (p + n, 0, 0) r w' := by
  have h := VRaw_any bw v b sp (p, 0, 0) n w hR (by simp only; omega) (by omega)
  rw [raw_at ‹p + n ≤ b.length›] at h
  exact h
theorem UB.setPool {w : World} {L : Nat} {v : Value} {u : Ub} {pl : List UInt8} (hB : UB w L v u) (hp : pl.length = 32) : UB (w.setRow L ((uc v u).take 37 ++ bvs pl ++ (uc v u).drop (37 + (bvs pl).length)).toArray) L v { u with pool := pl } := by
  have h := hB.wf
  have e : (uc v u).take 37 ++ bvs pl ++ (uc v u).drop (37 + (bvs pl).length) = uc v { u with pool := pl } := by
    have h1 : (Value.int IntKind.i64 u.txg :: (pc v u.root.b u.root.l u.root.s ++ [Value.int IntKind.i64 u.len])).length = 37 := by simp [pc_length h.sum]
    rw [List.drop_eq_nil_of_le (by rw [uc_length h, bvs_length, hp]; decide), uc_split2, List.take_left' h1, uc_split2]
    simp
  rw [e]
  exact ⟨setRow_heap w L _ _ _ _ hB.1, ⟨hp, h.sum⟩⟩
theorem copy_pool {w : World} {L c5 : Nat} {a5 : Option Addr} {v : Value} {u : Ub} {pl s5 : List UInt8} (ty : TypeId) (hB : UB w L v u) (hO : OwnB 5 w (.slice a5 32 c5) pl s5) (hp : pl.length = 32) :
    ∃ w', (Builtin.copy_ #[32, 32] ty #[.slice (some ⟨L, 37, none⟩) 32 32, .slice a5 32 c5]).run Tryz.prog w = .ok (goInt 32) w' ∧ UB w' L v { u with pool := pl } ∧ Frm [L] w w' := by
  obtain ⟨i, hi, hz, hs, hby⟩ := info_parts BT.info
  have hS : Src Tryz.prog 1 32 (.slice a5 32 c5) pl.length (bvs pl) w := Sl.src Tryz.underlying32 hO.sl (bvs_one pl)
  have hcells := hS.cells
  have hlen := hS.len
  have hst := run_storeCells_at Tryz.prog L 37 28 (bvs pl) 0 (uc v u).toArray w hB.1 (by simp [bvs_length, hp, uc_length hB.wf]) (bvs_one pl)
  simp only [Nat.add_zero] at hst
  rw [hp] at hcells hlen
  refine ⟨_, ?_, hB.setPool hp, ⟨rfl, rfl, rfl, by simp [World.setRow], fun k hk hn => setRow_other w L k _ (by simpa using hn)⟩⟩
  simp [Builtin.copy_, run_underlying BT.sl, sizeOf, typeInfo, hi, hs, hlen, hcells, goInt, hst, bvs_length, hp]
theorem step_copy_pool {ops : Array Oper} {o : Oper} {a : Act} {w : World} {K : Act → World → Prop} {Q : Exit → Act → World → Prop} {E : Prop} {L c5 : Nat} {a5 : Option Addr} {v : Value} {u : Ub} {pl s5 : List UInt8} (hB : UB w L v u) (hO : OwnB 5 w (.slice a5 32 c5) pl s5) (hp : pl.length = 32) (hg : o.guard = none)
    (s x : Operand) (hop : o.op = Op.call { callee := Callee.builtin Builtin.copy, args := #[s, x], argTypes := #[32, 32] }) (hs : a.eval s = .slice (some ⟨L, 37, none⟩) 32 32) (hx : a.eval x = .slice a5 32 c5)
    (k : ∀ w', UB w' L v { u with pool := pl } → Frm [L] w w' → K (a.put o.dst (goInt 32)) w') : if Region.wanted o (yielded ops a.tmps) = true then Oper.wp Tryz.prog o a w K Q else E := by
  obtain ⟨w', h1, h2, h3⟩ := copy_pool o.type hB hO hp
  refine step_val (w' := w') hg ?_ (k w' h2 h3)
  simp [execOp, hop, resolve, invoke, builtin, hs, hx, h1, Result.andThen]
theorem RefUnpack_len (v : Value) (b sp : List UInt8) (w : World) (hS : SlB w v b sp) (hb : b.length ≤ 1000000) (hne : b.length ≠ 256) : Calls Tryz.prog 27 #[v] w (UnpP b w) := by
  obtain ⟨a0, c0, rfl, _, _⟩ := hS.form
  have B0 := UB.new w nilS zeroU_wf
  have f0 : Frm [] w (w.alloc (.cells (uc nilS zeroU).toArray 28)) := (Frm.refl [] w).alloc _
  have hu : unp b = (zeroU, 4) := by unfold unp; rw [if_pos hne]
  have HU := Lib.hid hu
  have hd : ((b.length : Int) != 256) = true := by simp; omega
  clear hS hu hne
  go_enter Tryz.func27, Tryz.ntmps27
  go_upto_region 1 with ((with_reducible (show wpList _ _ _ (Oper.mk _ (Op.alloc 28) _ _ _ _ :: _) _ _)); refine wpList_val rfl (exec_alloc28 rfl _) ?_)
  have B0h := Lib.hid B0
  have F0 := Lib.hid f0
  clear B0 f0
  generalize w.alloc (.cells (uc nilS zeroU).toArray 28) = W0 at *
  obtain ⟨R, hR⟩ : ∃ R, w.heap.size = R := ⟨_, rfl⟩
  rw [hR] at B0h ⊢
  have HRe := Lib.hid hR
  clear hR
  go_wp2_with (first
    | ((with_reducible (show wpList _ _ _ (Oper.mk _ (Op.build 28 _) _ _ _ _ :: _) _ _)); refine wpList_val rfl (exec_bld28z rfl _) ?_)
    | ((with_reducible (show wpList _ _ _ (Oper.mk _ (Op.store 28 _ _) _ _ _ _ :: _) _ _)); refine wpList_store28 rfl _ _ rfl rfl B0h.out zeroU_wf rfl rfl ?_; intro W1 B1 F1))
  have e := HRe.out
  refine bodyPost_ret (v := .tuple #[uv nilS zeroU, .int .i64 4]) (results_cell_slot rfl _ _ rfl rfl B1.gets.var) rfl ?_
  exact ⟨none, 0, [], by rw [HU.out]; rfl, by rw [HU.out]; exact Pt.SlA.nil _, F0.out.trans F1 (fun i hi => .inr (by simp at hi; omega)), by simp [blk]⟩
set_option maxHeartbeats 4000000 in
theorem RefUnpack_full (v : Value) (b sp : List UInt8) (w : World) (hS : SlB w v b sp) (hb : b.length = 256) : Calls Tryz.prog 27 #[v] w (UnpP b w) := by
  have hform := hS.form
  rw [hb] at hform
  obtain ⟨a0, c0, rfl, _, _⟩ := hform
  have B0 := UB.new w nilS zeroU_wf
  have f0 : Frm [] w (w.alloc (.cells (uc nilS zeroU).toArray 28)) := (Frm.refl [] w).alloc _
  have HS0 := Lib.hid (hS.keep f0 (by simp))
  have HB := Lib.hid hb
  clear hS hb
  go_enter Tryz.func27, Tryz.ntmps27
  go_upto_region 1 with ((with_reducible (show wpList _ _ _ (Oper.mk _ (Op.alloc 28) _ _ _ _ :: _) _ _)); refine wpList_val rfl (exec_alloc28 rfl _) ?_)
  have B0h := Lib.hid B0
  have F0 := Lib.hid f0
  clear B0 f0
  generalize w.alloc (.cells (uc nilS zeroU).toArray 28) = W0 at *
  obtain ⟨R, hR⟩ : ∃ R, w.heap.size = R := ⟨_, rfl⟩
  rw [hR] at B0h ⊢
  have HRe := Lib.hid hR
  clear hR
  have HC := Lib.hid (nought_any _ b sp _ HS0.out HB.out)
  by_cases hz : b = zeros256
  · have HU := Lib.hid (show unp b = (zeroU, 6) by rw [hz]; exact unp_z)
    rw [show decide (b = zeros256) = true by simpa using hz] at HC
    clear hz
    go_wp2_with (first
      | (go_at_call 75; refine HC.out.mono ?_; rintro r w' ⟨rfl, rfl⟩)
      | ((with_reducible (show wpList _ _ _ (Oper.mk _ (Op.build 28 _) _ _ _ _ :: _) _ _)); refine wpList_val rfl (exec_bld28z rfl _) ?_)
      | ((with_reducible (show wpList _ _ _ (Oper.mk _ (Op.store 28 _ _) _ _ _ _ :: _) _ _)); refine wpList_store28 rfl _ _ rfl rfl B0h.out zeroU_wf rfl rfl ?_; intro W1 B1 F1))
    have e := HRe.out
    refine bodyPost_ret (v := .tuple #[uv nilS zeroU, .int .i64 6]) (results_cell_slot rfl _ _ rfl rfl B1.gets.var) rfl ?_
    exact ⟨none, 0, [], by rw [HU.out]; rfl, by rw [HU.out]; exact Pt.SlA.nil _, F0.out.trans F1 (fun i hi => .inr (by simp at hi; omega)), by simp [blk]⟩
  · have hz' : ¬ b = List.replicate 256 0 := hz
    have HU := Lib.hid (show unp b = if asks b = true then (parse b, 0) else (zeroU, 11) by rw [unp_full HB.out, if_neg hz'])
    rw [show decide (b = zeros256) = false by simpa using hz] at HC
    clear hz hz'
    have HO := Lib.hid (VOpen_any _ b sp W0 HS0.out (HS0.out.ltR (by rw [HB.out]; decide)))
    have hbv : ∀ k ∈ blkR (.slice a0 256 c0), k < W0.heap.size := HS0.out.ltR (by rw [HB.out]; decide)
    have HBV := Lib.hid hbv
    clear hbv
    have hb9 : b.length ≤ 1000000 := by rw [HB.out]; decide
    go_upto_region 6 with (first
      | (go_at_call 75; refine HC.out.mono ?_; rintro r W0 ⟨rfl, rfl⟩)
      | (go_at_call 76; refine HO.out.mono ?_; rintro r W1 ⟨rfl, hv1, f1⟩))
    have ZR := Lib.hid (show R < W0.heap.size from B0h.out.lt)
    have V1 := Lib.hid hv1
    have F1 := Lib.hid f1
    have ZV := Lib.hid (lt_heap hv1.1)
    clear hv1 f1 HO HC
    obtain ⟨br, hbr⟩ : ∃ br, W0.heap.size = br := ⟨_, rfl⟩
    rw [hbr] at V1 ZR ZV HBV ⊢
    have HBR := Lib.hid hbr
    clear hbr
    have C1 := Lib.hid (vraw_at (n := 8) (by rw [HB.out]; decide) hb9 V1.out)
    go_upto_region 7 with (go_at_call 77; refine C1.out.mono ?_; rintro r W2 ⟨a2, c2, s2, rfl, _, _, hv2⟩)
    have V2 := Lib.hid hv2.1
    have F2 := Lib.hid (show Frm [br] W1 W2 from hv2.2)
    clear hv2 C1 V1
    go_upto_region 8 with ((with_reducible (show wpList _ _ _ (Oper.mk _ (Op.alloc 28) _ _ _ _ :: _) _ _)); refine wpList_val rfl (exec_alloc28 rfl _) ?_)
    have f3 : Frm [] W2 (W2.alloc (.cells (uc nilS zeroU).toArray 28)) := (Frm.refl [] W2).alloc _
    have BL := Lib.hid (UB.new W2 nilS zeroU_wf)
    have V3 := Lib.hid (show Rv _ br _ b sp (0 + 8, 0, 0) from V2.out.keep f3 (by simp) (by simp))
    have F3 := Lib.hid (F2.out.trans f3 (by simp))
    have ZL := Lib.hid (show br < W2.heap.size from lt_heap V2.out.1)
    have ZL2 := Lib.hid (show W1.heap.size ≤ W2.heap.size from F2.out.size)
    clear f3 V2 F2
    generalize W2.alloc (.cells (uc nilS zeroU).toArray 28) = W3 at *
    obtain ⟨L, hL⟩ : ∃ L, W2.heap.size = L := ⟨_, rfl⟩
    rw [hL] at BL ZL ZL2 ⊢
    clear hL
    have C2 := Lib.hid (vraw_at (p := 8) (n := 32) (by rw [HB.out]; decide) hb9 V3.out)
    obtain ⟨pl, hpl⟩ : ∃ pl, seg b 8 32 = pl := ⟨_, rfl⟩
    have hsg : pl.length = 32 := by rw [← hpl]; exact seg_length (by rw [HB.out]; decide)
    rw [hpl] at C2
    have HPL := Lib.hid hpl
    have hsA := sliceAt24
    clear hpl
    refine wp_region_held_drew (S := fun z => Frm [br, L] W3 z) (by kernel_rfl) ((Frm.refl [br, L] W3).drew) (fun hHeld => ?_)
    refine wpAnyH_take (i := 0) (oi := { dst := some 21, op := Op.fieldAddr 28 (Operand.tmp 5) 3, type := 0, pos := "ref.go:75", after := #[], guard := none }) (v := ?_) rfl (by kernel_rfl) (by kernel_rfl) (by kernel_rfl) (fun _ _ _ h => h) (Or.inl ⟨by rfl, ?_⟩) hHeld ?_
    rotate_left
    focus (intro z hSw; clear hSw; go_simp; try with_reducible rfl)
    try simp only [Act.put, List.setIfInBounds_toArray, List.set_cons_zero, List.set_cons_succ]
    refine wpAnyH_take (i := 1) (oi := { dst := some 22, op := Op.slice 24 (Operand.tmp 21) none none none, type := 32, pos := "ref.go:75", after := #[{ on := 0, ground := Ground.data }], guard := none }) (v := ?_) rfl (by kernel_rfl) (by kernel_rfl) (by kernel_rfl) (fun _ _ _ h => h) (Or.inl ⟨by rfl, ?_⟩) hHeld ?_
    rotate_left
    focus (intro z hSw; clear hSw; go_simp; try with_reducible rfl)
    try simp only [Act.put, List.setIfInBounds_toArray, List.set_cons_zero, List.set_cons_succ]
    refine wpAnyH_take (i := 2) (oi := { dst := some 23, op := Op.move (Operand.tmp 4), type := 96, pos := "ref.go:75", after := #[], guard := none }) (v := ?_) rfl (by kernel_rfl) (by kernel_rfl) (by kernel_rfl) (fun _ _ _ h => h) (Or.inl ⟨by rfl, ?_⟩) hHeld ?_
    rotate_left
    focus (intro z hSw; clear hSw; go_simp; try with_reducible rfl)
    try simp only [Act.put, List.setIfInBounds_toArray, List.set_cons_zero, List.set_cons_succ]
    refine wpAnyH_ready (rs := [3]) (by kernel_rfl) (by simp) ?_
    refine AllReadyH.cons (o := { dst := some 24, op := Op.call { callee := Callee.value (Operand.func 77), args := #[Operand.tmp 23, Operand.const (Value.int IntKind.i64 32)], argTypes := #[96, 3] }, type := 32, pos := "ref.go:75", after := #[{ on := 2, ground := Ground.data }], guard := none }) rfl (fun K hK => ?_) AllReadyH.nil
    go_simp
    refine ((vraw_at (p := 8) (n := 32) (by rw [HB.out]; decide) hb9 (V3.out.keep ((Frm.refl [] W3).drew) (by simp) (by simp)))).mono ?_
    rintro r W5 ⟨a5, c5, s5, hr5, o5, n5, hd5⟩
    rw [HPL.out, hsg] at hr5 o5 n5
    subst hr5
    have V5 := Lib.hid hd5.1
    have F5 := Lib.hid hd5.2
    have BL5 := Lib.hid (BL.out.keep (((Frm.refl [br] W3).drew).trans hd5.2 (by simp)) (by have := ZL.out; simp; omega))
    refine hK.out _ _ ?_ (fun hNext => ?_)
    · exact ((Frm.refl [br, L] W3).drew).trans hd5.2 (by simp)
    clear hK K hHeld
    have hHeld := hNext
    clear hNext
    try simp only [Act.put, List.setIfInBounds_toArray, List.set_cons_zero, List.set_cons_succ]
    refine wpAnyH_ready (rs := [4]) (by kernel_rfl) (by simp) ?_
    refine AllReadyH.cons (o := { dst := some 25, op := Op.call { callee := Callee.builtin Builtin.copy, args := #[Operand.tmp 22, Operand.tmp 24], argTypes := #[32, 32] }, type := 3, pos := "ref.go:75", after := #[{ on := 1, ground := Ground.data }, { on := 3, ground := Ground.data }, { on := 3, ground := Ground.chain }], guard := none }) rfl (fun K hK => ?_) AllReadyH.nil
    refine step_copy_pool BL5.out o5 hsg rfl (.tmp 22) (.tmp 24) rfl rfl rfl ?_
    intro W6 BL6 f6
    have F6 := Lib.hid f6
    have BL6h := Lib.hid BL6
    clear f6 BL6
    refine hK.out _ _ ?_ (fun hNext => ?_)
    · exact hHeld.trans F6.out (by simp)
    clear hK K hHeld
    have hHeld := hNext
    clear hNext
    try simp only [Act.put, List.setIfInBounds_toArray, List.set_cons_zero, List.set_cons_succ]
    refine wpAnyH_done (by kernel_rfl) ?_ _
    have V6 := Lib.hid (show Rv W6 br _ b sp (40, 0, 0) from V5.out.keep F6.out (by have := ZL.out; simp; omega) (fun k hk hm => by have := HBV.out k hk; have := ZL.out; simp at hm; omega))
    have G6 := Lib.hid hHeld
    have L6 := Lib.hid (show UB W6 L nilS { zeroU with pool := pl } from BL6h.out)
    clear hHeld V5 F5 BL5 F6 BL6h o5 n5 hd5 C2 BL V3 hsA
    have C7 := Lib.hid (vnum_at (n := 5) (by rw [HB.out]; decide) hb9 (by decide) (by decide) 1099511627776 (by decide) V6.out)
    go_upto_region 10 with (go_at_call 78; refine C7.out.mono ?_; rintro r X7 ⟨rfl, hx⟩; have LX7 := Lib.hid (L6.out.keep hx.2 (by have := ZL.out; simp; omega)); have VX7 := Lib.hid hx.1; have GX7 := Lib.hid (G6.out.trans hx.2 (by simp)); have c7 := LX7.out.gets.c0; have z7 := LX7.out.1.frozen 0; clear hx)
    have y7 := LX7.out.setTxg (beNat (seg b 40 5))
    have fs7 := (Frm.refl [L] X7).setCell ⟨L, 0, none⟩ (.int .i64 (beNat (seg b 40 5))) (.inl (by simp))
    obtain ⟨W7, hW7⟩ : ∃ W, X7.setCell ⟨L, 0, none⟩ (.int .i64 (beNat (seg b 40 5))) = W := ⟨_, rfl⟩
    rw [hW7] at y7 fs7 ⊢
    have L7 := Lib.hid y7
    have V7 := Lib.hid (show Rv W7 br _ b sp (45, 0, 0) from VX7.out.keep fs7 (by have := ZL.out; simp; omega) (fun k hk hm => by have := HBV.out k hk; have := ZL.out; simp at hm; omega))
    have G7 := Lib.hid (GX7.out.trans fs7 (by simp))
    clear hW7 y7 fs7 c7 z7 LX7 VX7 GX7 C7 V6 G6 L6
    have C8 := Lib.hid (vnum_at (n := 3) (by rw [HB.out]; decide) hb9 (by decide) (by decide) 16777216 (by decide) V7.out)
    go_upto_region 11 with (go_at_call 78; refine C8.out.mono ?_; rintro r X8 ⟨rfl, hx⟩; have LX8 := Lib.hid (L7.out.keep hx.2 (by have := ZL.out; simp; omega)); have VX8 := Lib.hid hx.1; have GX8 := Lib.hid (G7.out.trans hx.2 (by simp)); have c8 := LX8.out.gets.c36; have z8 := LX8.out.1.frozen 36; clear hx)
    have y8 := LX8.out.setLen (beNat (seg b 45 3))
    have fs8 := (Frm.refl [L] X8).setCell ⟨L, 36, none⟩ (.int .i64 (beNat (seg b 45 3))) (.inl (by simp))
    obtain ⟨W8, hW8⟩ : ∃ W, X8.setCell ⟨L, 36, none⟩ (.int .i64 (beNat (seg b 45 3))) = W := ⟨_, rfl⟩
    rw [hW8] at y8 fs8 ⊢
    have L8 := Lib.hid y8
    have V8 := Lib.hid (show Rv W8 br _ b sp (48, 0, 0) from VX8.out.keep fs8 (by have := ZL.out; simp; omega) (fun k hk hm => by have := HBV.out k hk; have := ZL.out; simp at hm; omega))
    have G8 := Lib.hid (GX8.out.trans fs8 (by simp))
    clear hW8 y8 fs8 c8 z8 LX8 VX8 GX8 C8 V7 G7 L7
    have C9 := Lib.hid (vraw_at (p := 48) (n := 47) (by rw [HB.out]; decide) hb9 V8.out)
    have hsg2 : (seg b 48 47).length = 47 := seg_length (by rw [HB.out]; decide)
    obtain ⟨m, hm⟩ : ∃ m, seg b 48 47 = m := ⟨_, rfl⟩
    rw [hm] at C9 hsg2
    have HME := Lib.hid hm
    have HSG := Lib.hid hsg2
    have HPLL := Lib.hid hsg
    clear hm hsg2 hsg
    have ha := asks_err (b := b) (m := m) HME.out
    go_upto_region 12 with (first
      | (go_at_call 77; refine C9.out.mono ?_; rintro r w1 ⟨a1, c1, s1', rfl, o1, n1, hv1⟩; have K1 := Lib.hid hv1.2; have HP := Lib.hid (Pt.RefReadN_any _ m s1' w1 o1.sl (by rw [HSG.out]; decide)); clear o1 n1 hv1)
      | (go_at_call 79; refine HP.out.mono ?_; rintro r w2 ⟨x, rfl, ⟨xa, xc, xs, rfl, hxs, h32⟩, f2, hn⟩; have K2 := Lib.hid f2; have HXS := Lib.hid hxs; have HN := Lib.hid hn; clear hxs hn f2)
      | ((with_reducible (show wpList _ _ _ (Oper.mk _ (Op.alloc 26) _ _ _ _ :: _) _ _)); refine wpList_lay2 rfl rfl rfl rfl rfl rfl _ _ _ _ rfl rfl h32 rfl rfl rfl rfl ?_))
    have fa : Frm [] w2 ((w2.alloc (.cells (pc (.slice xa (readPt m).ads.length xc) (readPt m).b (readPt m).l (readPt m).s).toArray 26)).alloc (.cells #[.int .i64 (readE m), .int .i64 (readAt m)] 101)) := ((Frm.refl [] w2).alloc _).alloc _
    have b1 : Blk ((w2.alloc (.cells (pc (.slice xa (readPt m).ads.length xc) (readPt m).b (readPt m).l (readPt m).s).toArray 26)).alloc (.cells #[.int .i64 (readE m), .int .i64 (readAt m)] 101)) w2.heap.size 26 (pc (.slice xa (readPt m).ads.length xc) (readPt m).b (readPt m).l (readPt m).s) := (Blk.new _ _ _).keep0 ((Frm.refl [] _).alloc _)
    have b2 : Blk ((w2.alloc (.cells (pc (.slice xa (readPt m).ads.length xc) (readPt m).b (readPt m).l (readPt m).s).toArray 26)).alloc (.cells #[.int .i64 (readE m), .int .i64 (readAt m)] 101)) (w2.heap.size + 1) 101 [.int .i64 (readE m), .int .i64 (readAt m)] := heap_alloc_at (by simp)
    have LD := Lib.hid (b1.load0 d26 (by rw [i26, pc_length h32]))
    have SX := Lib.hid (HXS.out.keep fa (by simp))
    have NXL := Lib.hid (show ∀ i ∈ blk (.slice xa (readPt m).ads.length xc), w1.heap.size ≤ i from fun i hi => HN.out i (by rw [Pt.ptBlk_pv]; exact hi))
    have L9 := Lib.hid ((L8.out.keep K1.out (by have := ZL.out; simp; omega)).keep0 (K2.out.trans fa (by simp)))
    have ZW1 := Lib.hid (show W3.heap.size ≤ w1.heap.size by have := G8.out.size; have := K1.out.size; omega)
    have ZL3 := Lib.hid (show L < w1.heap.size from (L8.out.keep K1.out (by have := ZL.out; simp; omega)).lt)
    have G9 := Lib.hid ((G8.out.trans K1.out (by simp)).trans (K2.out.trans fa (by simp)) (by simp))
    have c0 := b2.cell 0 rfl
    have H32 := Lib.hid h32
    clear fa b1 b2 HXS HN h32 K1 K2 HP C9 L8 G8 V8
    generalize (w2.alloc (.cells (pc (.slice xa (readPt m).ads.length xc) (readPt m).b (readPt m).l (readPt m).s).toArray 26)).alloc (.cells #[.int .i64 (readE m), .int .i64 (readAt m)] 101) = W9 at *
    generalize w2.heap.size = gb at *
    have FB := Lib.hid (show Frm [] W0 W9 from ((F1.out.trans F3.out (L := []) (L' := [br]) (fun i hi => .inr (by have := HBR.out; simp at hi; omega))).trans G9.out (fun i hi => .inr (by have := HBR.out; have := ZL.out; simp at hi; omega))))
    have B9 := Lib.hid (B0h.out.keep0 FB.out)
    have DB := Lib.hid (show ∀ W1 (tmps : Array Value), unp b = (zeroU, 11) → UB W1 R nilS zeroU → Frm [] w W1 → tmps.getD 2 undef = .pointer (some ⟨R, 0, none⟩) → tmps.getD 3 undef = .int .i64 11 → bodyPost Tryz.prog Tryz.f27 (UnpP b w) Exit.ret { tmps := tmps, defers := [] } W1 from fun W1 tmps hu B1 F1 h2 h3 => by
      refine bodyPost_ret (v := .tuple #[uv nilS zeroU, .int .i64 11]) (results_cell_slot rfl _ _ h2 h3 B1.gets.var) rfl ?_
      exact ⟨none, 0, [], by rw [hu]; rfl, by rw [hu]; exact Pt.SlA.nil _, F1, by simp [blk]⟩)
    clear B0h F1 F3 G9
    by_cases hre : readE m = 0
    · rw [hre] at c0
      have HR0 := Lib.hid hre
      clear hre ha
      have hp := Pt.pc_size (.slice xa (readPt m).ads.length xc) (readPt m).b (readPt m).l (readPt m).s
      obtain ⟨RP, hRP⟩ : ∃ RP, readPt m = RP := ⟨_, rfl⟩
      have HRP := Lib.hid hRP
      rw [hRP] at LD SX NXL H32 hp
      clear hRP
      go_upto_region 15 with (first
        | ((with_reducible (show wpList _ _ _ (Oper.mk _ (Op.load 26 _) _ _ _ _ :: _) _ _)); refine wpList_load_g (by rfl) 26 _ rfl _ rfl LD.out ?_)
        | ((with_reducible (show wpList _ _ _ (Oper.mk _ (Op.store 26 _ _) _ _ _ _ :: _) _ _)); refine wpList_store_mid rfl 26 (.tmp 43) (.tmp 42) rfl L 1 (pc (.slice xa RP.ads.length xc) RP.b RP.l RP.s).toArray rfl rfl (by rw [Pt.pc_size, H32.out]; exact L9.out.1.there 35 (by rw [uc_length L9.out.wf]; decide)) (by rw [i26, Pt.pc_size, H32.out]) (Pt.pc_one _ _ _) ?_))
      have hq : (parse b).root = RP := by unfold parse; rw [HME.out]; exact HRP.out
      have hpar : ({ txg := beNat (seg b 40 5), root := RP, len := beNat (seg b 45 3), pool := pl } : Ub) = parse b := by rw [← hq, ← HPL.out]; rfl
      have y10 := L9.out.setRoot (v' := .slice xa RP.ads.length xc) (p := RP) H32.out
      have f10 : Frm [L] W9 (W9.setCells L 1 (pc (.slice xa RP.ads.length xc) RP.b RP.l RP.s)) := Frm.setCells _ _ _ (Frm.refl _ _) (.inl (by simp))
      have L10 : UB (W9.setCells L 1 (pc (.slice xa RP.ads.length xc) RP.b RP.l RP.s)) L (.slice xa RP.ads.length xc) (parse b) := by rw [← hpar]; exact y10
      have SX10 := SX.out.keep f10 (fun i hi hm => by have := NXL.out i hi; have := ZL3.out; simp at hm; omega)
      have HWF := Lib.hid (parse_wf HB.out)
      have HAL := Lib.hid (parse_ads b)
      have HUY := Lib.hid (fun (h : mayUB (parse b) = true ∧ packU (parse b) = b) => show unp b = (parse b, 0) by rw [HU.out, if_pos ((asks_iff HB.out).2 h)])
      have HUN := Lib.hid (fun (h : ¬ (mayUB (parse b) = true ∧ packU (parse b) = b)) => show unp b = (zeroU, 11) by rw [HU.out, if_neg (fun k => h ((asks_iff HB.out).1 k))])
      have B10 := Lib.hid (B9.out.keep f10 (by have := ZR.out; have := ZL.out; simp; omega))
      have FW := Lib.hid (((F0.out.trans FB.out (by simp)).trans f10 (fun i hi => .inr (by have := HRe.out; have := ZR.out; have := ZL.out; simp at hi; omega))))
      have FZ := Lib.hid (show Frm [] W0 (W9.setCells L 1 (pc (.slice xa RP.ads.length xc) RP.b RP.l RP.s)) from FB.out.trans f10 (fun i hi => .inr (by have := HBR.out; have := ZL.out; simp at hi; omega)))
      clear hpar y10 f10 HPL HME HRP HU L9 SX B9 FB HSG HR0 H32 hp LD
      generalize parse b = u at *
      subst hq
      have LL := Lib.hid L10
      have SS := Lib.hid SX10
      have GA := Lib.hid L10.gets.all
      generalize W9.setCells L 1 (pc (.slice xa u.root.ads.length xc) u.root.b u.root.l u.root.s) = W10 at *
      have HPk := Lib.hid (RefPack_any (uv (.slice xa u.root.ads.length xc) u) u W10 ⟨xa, xc, xs, rfl, SX10, HWF.out⟩ HAL.out)
      unfold PackP at HPk
      clear L10 SX10
      go_upto_region 16 with (first
        | ((with_reducible (show wpList _ _ _ (Oper.mk _ (Op.load 28 _) _ _ _ _ :: _) _ _)); refine wpList_load_g (by rfl) 28 _ rfl _ rfl GA.out ?_)
        | (go_at_call 17; refine HPk.out.mono ?_; rintro r W12 ⟨a4, c4, s4, rfl, o4, f4, n4⟩))
      have F4 := Lib.hid (FW.out.trans f4 (by simp))
      have B4 := Lib.hid (B10.out.keep0 f4)
      have BL4 := Lib.hid (LL.out.keep0 f4)
      have SS4 := Lib.hid (SS.out.keep f4 (by simp))
      have e1 := convert_bytes BT o4.sl Tryz.underlying9
      have e2 := convert_bytes BT (HS0.out.keep ((show Frm [] W0 W12 from FZ.out.trans f4 (by simp))) (by simp)) Tryz.underlying9
      clear f4 n4 o4 GA HPk LL SS B10 FW
      obtain ⟨X, hX⟩ : ∃ X : ByteArray, (⟨(packO u).toArray⟩ : ByteArray) = X := ⟨_, rfl⟩
      obtain ⟨Y, hY⟩ : ∃ Y : ByteArray, (⟨b.toArray⟩ : ByteArray) = Y := ⟨_, rfl⟩
      rw [hX] at e1
      rw [hY] at e2
      have hXY : (X.toList == Y.toList) = (packO u == b) := by rw [← hX, ← hY, ByteArray.toList_eq, ByteArray.toList_eq]
      clear hX hY
      by_cases hm : MayU u
      · rw [mayE_yes hm]
        by_cases he : packU u = b
        · have hqq : (packO u == b) = true := by rw [packO_yes hm]; simpa using he
          rw [hqq] at hXY
          have HU2 := Lib.hid (HUY.out ⟨mayUB_iff.2 hm, he⟩)
          have G4 := Lib.hid BL4.out.gets.all
          clear hm he hqq
          have hpp := HWF.out
          go_wp2_with (first
            | ((with_reducible (show wpList _ _ _ (Oper.mk _ (Op.load 28 _) _ _ _ _ :: _) _ _)); refine wpList_load_g (by rfl) 28 _ rfl _ rfl G4.out ?_)
            | ((with_reducible (show wpList _ _ _ (Oper.mk _ (Op.store 28 _ _) _ _ _ _ :: _) _ _)); refine wpList_store28 rfl _ _ rfl rfl B4.out hpp rfl rfl ?_; intro W1 B1 F1))
          refine bodyPost_ret (v := .tuple #[uv (.slice xa u.root.ads.length xc) u, .int .i64 0]) (results_cell_slot rfl _ _ rfl rfl B1.gets.var) rfl ?_
          exact ⟨xa, xc, xs, by rw [HU2.out], by rw [HU2.out]; exact SS4.out.keep F1 (fun i hi hm => by have := NXL.out i hi; have := ZL3.out; have := ZR.out; have := ZL.out; simp at hm; omega), F4.out.trans F1 (fun i hi => .inr (by have := HRe.out; simp at hi; omega)), by rw [HU2.out]; exact fun i hi => by have := NXL.out i hi; have := ZL3.out; have := ZR.out; have := ZL.out; have := HRe.out; omega⟩
        · have hqq : (packO u == b) = false := by rw [packO_yes hm]; simpa using he
          rw [hqq] at hXY
          have HU2 := Lib.hid (HUN.out (fun h => he h.2))
          clear hm he hqq
          go_wp2_with (first
            | ((with_reducible (show wpList _ _ _ (Oper.mk _ (Op.build 28 _) _ _ _ _ :: _) _ _)); refine wpList_val rfl (exec_bld28z rfl _) ?_)
            | ((with_reducible (show wpList _ _ _ (Oper.mk _ (Op.store 28 _ _) _ _ _ _ :: _) _ _)); refine wpList_store28 rfl _ _ rfl rfl B4.out zeroU_wf rfl rfl ?_; intro W1 B1 F1))
          exact DB.out _ _ HU2.out B1 (F4.out.trans F1 (fun i hi => .inr (by have := HRe.out; simp at hi; omega))) rfl rfl
      · rw [mayE_no hm]
        have HU2 := Lib.hid (HUN.out (fun h => hm (mayUB_iff.1 h.1)))
        clear hm e1 e2 hXY
        go_wp2_with (first
          | ((with_reducible (show wpList _ _ _ (Oper.mk _ (Op.build 28 _) _ _ _ _ :: _) _ _)); refine wpList_val rfl (exec_bld28z rfl _) ?_)
          | ((with_reducible (show wpList _ _ _ (Oper.mk _ (Op.store 28 _ _) _ _ _ _ :: _) _ _)); refine wpList_store28 rfl _ _ rfl rfl B4.out zeroU_wf rfl rfl ?_; intro W1 B1 F1))
        exact DB.out _ _ HU2.out B1 (F4.out.trans F1 (fun i hi => .inr (by have := HRe.out; simp at hi; omega))) rfl rfl
    · have hre' : (readE m == 0) = false := beq_eq_false_iff_ne.2 hre
      have hu := HU.out
      rw [ha hre, if_neg (by decide)] at hu
      have HU2 := Lib.hid hu
      have hre2 : (readE m != 0) = true := by simpa using hre
      clear hu ha hre
      go_wp2_with (first
        | ((with_reducible (show wpList _ _ _ (Oper.mk _ (Op.build 28 _) _ _ _ _ :: _) _ _)); refine wpList_val rfl (exec_bld28z rfl _) ?_)
        | ((with_reducible (show wpList _ _ _ (Oper.mk _ (Op.store 28 _ _) _ _ _ _ :: _) _ _)); refine wpList_store28 rfl _ _ rfl rfl B9.out zeroU_wf rfl rfl ?_; intro W1 B1 F1))
      have e := HRe.out
      exact DB.out _ _ HU2.out B1 ((F0.out.trans FB.out (by simp)).trans F1 (fun i hi => .inr (by simp at hi; omega))) rfl rfl
theorem RefUnpack_any (v : Value) (b sp : List UInt8) (w : World) (hS : SlB w v b sp) (hb : b.length ≤ 1000000) : Calls Tryz.prog 27 #[v] w (UnpP b w) := by
  by_cases h : b.length = 256
  · exact RefUnpack_full v b sp w hS h
  · exact RefUnpack_len v b sp w hS hb h
end Go.Proofs.YtjdejhgfkjeeiaaGreatDoor
