/-
  Contract of pointerOf. No conditions but those that each theorem names.
-/
import Derived.Test.YtjdejhgfkjeeiaaGreatDoorPX
namespace Go.Proofs.YtjdejhgfkjeeiaaGreatDoor.Pt
open Go.RowKit
set_option linter.unusedVariables false
set_option linter.unusedSimpArgs false
set_option maxRecDepth 100000

theorem bld12 (x y : Int) (W : World) : (Instr.build 26 #[(1, .int .i64 x), (2, .int .i64 y)]).run Tryz.prog W = .ok (pv (.slice none 0 0) x y (List.replicate 32 0)) W := by kernel_rfl
theorem exec_bld12 {o : Oper} {a : Act} {x y : Int} (s t : Operand) (hop : o.op = Op.build 26 #[(1, s), (2, t)]) (h1 : a.eval s = .int .i64 x) (h2 : a.eval t = .int .i64 y) (W : World) : (execOp a.eval o).run Tryz.prog W = .ok (.value (pv (.slice none 0 0) x y (List.replicate 32 0))) W := by
  have hb := bld12 x y W
  have hm : (#[(1, s), (2, t)].map fun ((i, x) : Nat × Operand) => (i, a.eval x)) = #[(1, .int .i64 x), (2, .int .i64 y)] := by simp [h1, h2]
  simp only [execOp, hop, hm, Sem.run_bind, Sem.run_pure, hb, Result.andThen_ok]
theorem alloc26 (W : World) : (Instr.alloc 26 true (.tuple #[])).run Tryz.prog W = .ok (.pointer (some ⟨W.heap.size, 0, none⟩)) (W.alloc (.cells (pc (.slice none 0 0) 0 0 (List.replicate 32 0)).toArray 26)) := by kernel_rfl
theorem exec_alloc26 {o : Oper} {a : Act} (hop : o.op = Op.alloc 26) (W : World) : (execOp a.eval o).run Tryz.prog W = .ok (.value (.pointer (some ⟨W.heap.size, 0, none⟩))) (W.alloc (.cells (pc (.slice none 0 0) 0 0 (List.replicate 32 0)).toArray 26)) := by
  have h := alloc26 W
  generalize W.alloc (.cells (pc (.slice none 0 0) 0 0 (List.replicate 32 0)).toArray 26) = W2 at *
  simp only [execOp, hop, Sem.run_bind, Sem.run_pure, h, Result.andThen_ok]
theorem pc_size (v : Value) (b l : Int) (s : List UInt8) : (pc v b l s).toArray.size = 3 + s.length := by simp [pc, bvs_length]; omega
theorem pc_one {a : Option Addr} {n cap : Nat} (b l : Int) (s : List UInt8) : (pc (.slice a n cap) b l s).toArray.all (·.oneCell') = true := all_oneCell_toArray (fun u hu => by
  simp only [pc, List.mem_cons] at hu
  rcases hu with rfl | rfl | rfl | hu
  · rfl
  · rfl
  · rfl
  · exact bvs_one s u hu)
/-- The i-th address that bytes say. -/
def rawAd (l : List UInt8) (i : Nat) : Ad := ((beNat ((l.drop (1 + 3 * i)).take 1) : Int), (beNat ((l.drop (2 + 3 * i)).take 2) : Int))
def rawN (l : List UInt8) : Nat := beNat (l.take 1)
/-- The pointer that bytes say. -/
def rawPt (l : List UInt8) : Pt := ⟨(List.range (rawN l)).map (rawAd l), beNat ((l.drop 10).take 4), beNat ((l.drop 14).take 1), l.drop 15⟩
def RawP (l : List UInt8) (w : World) (e : Ending) (w' : World) : Prop := ((3 < rawN l ∧ e = GaveUp 2 0) ∨ (rawN l ≤ 3 ∧ ∃ x, e = .returned x ∧ PtO w' x (rawPt l) ∧ ∀ i ∈ ptBlk x, w.heap.size ≤ i)) ∧ Frm [] w w'
theorem rawAd_eq (l : List UInt8) (k : Nat) : rawAd l k = ((beNat (((l.drop (1 + 3 * k)).take 3).take 1) : Int), (beNat (((l.drop (1 + 3 * k)).take 3).drop 1) : Int)) := by
  unfold rawAd
  rw [List.take_take, List.drop_take, List.drop_drop, show 2 + 3 * k = 1 + 3 * k + 1 by omega]
  rfl
theorem pc_splice {v : Value} {b l : Int} {z s : List UInt8} (hz : z.length = s.length) : (pc v b l z).take 3 ++ bvs s ++ (pc v b l z).drop (3 + (bvs s).length) = pc v b l s := by
  have h : (bvs z).drop (bvs s).length = [] := List.drop_eq_nil_of_le (by simp [bvs_length, hz])
  rw [show 3 + (bvs s).length = (bvs s).length + 1 + 1 + 1 by omega]
  simp [pc, h]
theorem exec_copy_run {P : Program} {tS tx : TypeId} {w w' : World} {o : Oper} {a : Act} {vd vx r : Value} (d x : Operand)
    (hop : o.op = Op.call { callee := Callee.builtin Builtin.copy, args := #[d, x], argTypes := #[tS, tx] }) (hd : a.eval d = vd) (hx : a.eval x = vx) (h : (Builtin.copy_ #[tS, tx] o.type #[vd, vx]).run P w = .ok r w') :
    (execOp a.eval o).run P w = .ok (.value r) w' := by simp [execOp, hop, resolve, invoke, builtin, hd, hx, h, Result.andThen]
theorem one_slA {w : World} {x : Ad} {g : Nat} (hg : w.heap[g]? = some (.cells #[.int .i64 x.1, .int .i64 x.2] 47 (0, 0))) : SlA w (.slice (some ⟨g, 0, none⟩) 1 1) [x] [] :=
  (OwnA.of_heap (T := 47) (l := [x]) (sp := []) (by simpa [eas, ea] using hg) rfl rfl (by simp [maxLen])).sl
def RawRel (l : List UInt8) (n g4 nb nl : Nat) (w2 : World) (cv : Value) (wr : World) : Prop := ∃ (k : Nat) (a : Option Addr) (cap : Nat) (sp : List Ad), k ≤ n ∧ cv = .int .i64 k ∧ PB wr g4 (.slice a k cap) nb nl (List.replicate 32 0) ∧
  OwnA 47 wr (.slice a k cap) ((List.range k).map (rawAd l)) sp ∧ (∀ i ∈ blk (.slice a k cap), g4 < i) ∧ Frm [] w2 wr
theorem pb_store {w : World} {g : Nat} {v v' : Value} {b l : Int} {s : List UInt8} (h : PB w g v b l s) : PB (w.setCell ⟨g, 0, none⟩ v') g v' b l s := by
  unfold PB at *
  rw [heap_setCell_same _ h]
  rfl
set_option maxHeartbeats 8000000 in
theorem pointerOf_any (v : Value) (l sp : List UInt8) (w : World) (hS : SlB w v l sp) (hl : l.length = 47) : Calls Tryz.prog 154 #[v] w (RawP l w) := by
  obtain ⟨a, cap, rfl, _, _⟩ := hS.form
  obtain ⟨a1, c1, hs1, S1⟩ := slice_h BT hS 1 (by omega)
  obtain ⟨a2, c2, hs2, S2⟩ := slice_lh BT hS 10 14 (by omega) (by omega)
  obtain ⟨a3, c3, hs3, S3⟩ := slice_lh BT hS 14 15 (by omega) (by omega)
  have HS := Lib.hid hS
  have HL := Lib.hid hl
  rw [hl] at hs1 hs2 hs3 ⊢
  have H1 := Lib.hid (fun wx => hs1 1 wx rfl)
  have H2 := Lib.hid (fun wx => hs2 10 14 wx rfl rfl)
  have H3 := Lib.hid (fun wx => hs3 14 15 wx rfl rfl)
  have HS1 := Lib.hid S1
  have HS2 := Lib.hid S2
  have HS3 := Lib.hid S3
  clear hs1 hs2 hs3 S1 S2 S3 hS hl
  have hN1 := Lib.hid (fun W (f : Frm [] w W) => numberOf_any (.slice a1 1 c1) (l.take 1) _ W (HS1.out.keep f (by simp)) (by simp; omega))
  have hN2 := Lib.hid (fun W (f : Frm [] w W) => numberOf_any (.slice a2 (14 - 10) c2) ((l.drop 10).take (14 - 10)) _ W (HS2.out.keep f (by simp)) (by simp; omega))
  have hN3 := Lib.hid (fun W (f : Frm [] w W) => numberOf_any (.slice a3 (15 - 14) c3) ((l.drop 14).take (15 - 14)) _ W (HS3.out.keep f (by simp)) (by simp; omega))
  have hrN : beNat (l.take 1) = rawN l := rfl
  rw [hrN] at hN1
  have HP := Lib.hid (show rawPt l = ⟨(List.range (rawN l)).map (rawAd l), beNat ((l.drop 10).take (14 - 10)), beNat ((l.drop 14).take (15 - 14)), l.drop 15⟩ from rfl)
  generalize beNat ((l.drop 10).take (14 - 10)) = nb at *
  generalize beNat ((l.drop 14).take (15 - 14)) = nl at *
  generalize hn : rawN l = n at *
  have HN := Lib.hid hn
  clear hn hrN
  go_enter Tryz.func154, Tryz.ntmps154
  have f0 : Frm [] w (w.alloc (.cells (pc (.slice none 0 0) 0 0 (List.replicate 32 0)).toArray 26)) := (Frm.refl [] w).alloc _
  have z0 := PB.new w (.slice none 0 0) 0 0 (List.replicate 32 0)
  go_upto_region 1 with (fail)
  rw [show #[Value.slice none 0 0, .int .i64 0, .int .i64 0, .int .u8 0, .int .u8 0, .int .u8 0, .int .u8 0, .int .u8 0, .int .u8 0, .int .u8 0, .int .u8 0, .int .u8 0, .int .u8 0, .int .u8 0, .int .u8 0, .int .u8 0, .int .u8 0, .int .u8 0, .int .u8 0, .int .u8 0, .int .u8 0, .int .u8 0, .int .u8 0, .int .u8 0, .int .u8 0, .int .u8 0, .int .u8 0, .int .u8 0, .int .u8 0, .int .u8 0, .int .u8 0, .int .u8 0, .int .u8 0, .int .u8 0, .int .u8 0] = (pc (.slice none 0 0) 0 0 (List.replicate 32 0)).toArray from rfl]
  have hwlt : w.heap.size < (w.alloc (.cells (pc (.slice none 0 0) 0 0 (List.replicate 32 0)).toArray 26)).heap.size := by simp
  generalize w.alloc (.cells (pc (.slice none 0 0) 0 0 (List.replicate 32 0)).toArray 26) = W at *
  have F0 := Lib.hid f0
  have Z0 := Lib.hid z0
  clear f0 z0
  go_upto_region 2 with (first | ((with_reducible (show wpList _ _ _ (Oper.mk _ (Op.slice 32 _ _ _ _) _ _ _ _ :: _) _ _)); refine wpList_val rfl (exec_slice_hA (.tmp 6) (.const (.int .i64 1)) rfl rfl rfl BT.sl (H1.out _)) ?_) | (go_at_call 177; refine (hN1.out _ F0.out).mono ?_; rintro r w1 ⟨rfl, rfl⟩))
  go_upto_region 3 with (go_at_call 178; refine (within_any _ _ _ _).mono ?_; rintro r w2 ⟨⟨rfl, hb⟩ | ⟨rfl, hb⟩, rfl⟩; rotate_left; exact ⟨rfl, Or.inl ⟨by rw [HN.out]; omega, rfl⟩, F0.out⟩)
  rename_i K0 hK0
  have REST : ∀ V : World, Frm [] w2 V → V.heap[w2.heap.size]? = some (.cells (pc (.slice none 0 0) nb nl (List.replicate 32 0)).toArray 26 (0, 0)) →
      Exit.then K0 (bodyPost Tryz.prog Tryz.f154 (RawP l w)) Exit.normal { tmps := #[Value.slice a 47 cap, undef, Value.pointer (some { block := w.heap.size, off := 0 }), Value.int IntKind.i64 n, Value.pointer (some { block := w2.heap.size, off := 0 }), undef, Value.slice a 47 cap, Value.slice a1 1 c1, Value.int IntKind.i64 n, Value.int IntKind.i64 n, Value.tuple #[], Value.slice a 47 cap, Value.slice a2 4 c2, Value.int IntKind.i64 nb, Value.slice a 47 cap, Value.slice a3 1 c3, Value.int IntKind.i64 nl, pv (Value.slice none 0 0) nb nl (List.replicate 32 0), undef, undef, undef, undef, undef, undef, undef, undef, undef, undef, undef, undef, undef, undef, undef, undef, undef, undef, undef, undef, undef, undef, undef], defers := [] } V := by
    intro V fV pV
    refine hK0 _ _ ?_
    have FV := Lib.hid fV
    have PV := Lib.hid pV
    have hn9 : (n : Int) ≤ 3 := by omega
    clear hK0 fV pV hN1 hN2 hN3 H1 H2 H3 HS1 HS2 HS3
    go_wp2_with fail
    go_loopw [19] (RawRel l n w2.heap.size nb nl w2) (fun cv _ => n - (intOf cv).toNat)
    case atStart => exact ⟨0, none, 0, [], by omega, rfl, PV.out, OwnA.nil _ _, by simp [blk], FV.out⟩
    case round =>
      obtain ⟨k, xa, xc, xsp, hk, rfl, pb, o, nb4, f⟩ := hrel
      have PBk := Lib.hid pb
      have Ok := Lib.hid o
      have NB := Lib.hid nb4
      have Fk := Lib.hid f
      have Fw := Lib.hid (F0.out.trans f (by simp))
      clear pb o nb4 f
      by_cases hlt : k < n
      · obtain ⟨q, hq⟩ : ∃ q, q = 1 + 3 * k := ⟨_, rfl⟩
        obtain ⟨a5, c5, hs5, S5⟩ := slice_l BT HS.out q (by rw [HL.out]; omega)
        rw [HL.out] at hs5 S5
        have hlen5 : (l.drop q).length = 47 - q := by rw [List.length_drop, HL.out]
        obtain ⟨a6, c6, hs6, S6⟩ := slice_h BT S5 3 (by rw [hlen5]; omega)
        have H5 := Lib.hid (fun wx => hs5 (q : Int) wx rfl)
        have H6 := Lib.hid (fun wx => hs6 3 wx rfl)
        have hlen6 : ((l.drop q).take 3).length = 3 := by rw [List.length_take, hlen5]; omega
        have hA := Lib.hid (fun W (f : Frm [] w W) => addrOf_any (.slice a6 3 c6) ((l.drop q).take 3) _ W (S6.keep f (by simp)) hlen6)
        have hx : rawAd l k = ((beNat (((l.drop q).take 3).take 1) : Int), (beNat (((l.drop q).take 3).drop 1) : Int)) := by rw [rawAd_eq, hq]
        generalize beNat (((l.drop q).take 3).take 1) = y1 at *
        generalize beNat (((l.drop q).take 3).drop 1) = y2 at *
        have HX := Lib.hid hx
        have hq47 : q ≤ 47 := by omega
        have hk3' : (k : Int) < 3 := by omega
        have hw3 : IntKind.i64.wrap ((k : Int) * 3) = (k : Int) * 3 := IntWalk.i64_in _ (by omega)
        have hwq : IntKind.i64.wrap (1 + (k : Int) * 3) = (q : Int) := by rw [IntWalk.i64_in _ (by omega)]; omega
        have c0 := (PBk.out.gets (by simp)).c0
        have g4lt := PBk.out.lt
        have hk3 : (k : Int) < 3 := by omega
        have z0 : wr.frozen? ⟨w2.heap.size, 0, none⟩ = false := frozen_of_heap PBk.out 0
        have hlenr : ((List.range k).map (rawAd l)).length = k := by simp
        have HLR := Lib.hid hlenr
        clear hs5 hs6 S5 S6 hlen5 hlen6 hx hlenr hq
        go_upto_region 7 with (fail)
        refine wp_region_any (by kernel_rfl) ?_
        change wpAny _ _ _ _ _ _ _ (World.drew _)
        refine wpAny_take (i := 0) (oi := { dst := some 22, op := Op.fieldAddr 26 (Operand.tmp 4) 0, type := 0, pos := "fields.go:52", after := #[], guard := none }) (v := ?_) rfl (by kernel_rfl) (by kernel_rfl) (by kernel_rfl) (fun _ _ _ h => h) (Or.inl ⟨by rfl, ?_⟩) ?_
        rotate_left
        focus (intro z; go_simp; try with_reducible rfl)
        try simp only [Act.put, List.setIfInBounds_toArray, List.set_cons_zero, List.set_cons_succ]
        refine wpAny_take (i := 2) (oi := { dst := some 24, op := Op.move (Operand.tmp 0), type := 32, pos := "fields.go:52", after := #[], guard := none }) (v := ?_) rfl (by kernel_rfl) (by kernel_rfl) (by kernel_rfl) (fun _ _ _ h => h) (Or.inl ⟨by rfl, ?_⟩) ?_
        rotate_left
        focus (intro z; go_simp; try with_reducible rfl)
        try simp only [Act.put, List.setIfInBounds_toArray, List.set_cons_zero, List.set_cons_succ]
        refine wpAny_take (i := 3) (oi := { dst := some 25, op := Op.move (Operand.tmp 5), type := 3, pos := "fields.go:52", after := #[], guard := none }) (v := ?_) rfl (by kernel_rfl) (by kernel_rfl) (by kernel_rfl) (fun _ _ _ h => h) (Or.inl ⟨by rfl, ?_⟩) ?_
        rotate_left
        focus (intro z; go_simp; try with_reducible rfl)
        try simp only [Act.put, List.setIfInBounds_toArray, List.set_cons_zero, List.set_cons_succ]
        refine wpAny_take (i := 4) (oi := { dst := some 26, op := Op.binOp BinOp.mul 3 (Operand.tmp 25) (Operand.const (Value.int IntKind.i64 3)) 3, type := 3, pos := "fields.go:52", after := #[{ on := 3, ground := Ground.data }], guard := none }) (v := ?_) rfl (by kernel_rfl) (by kernel_rfl) (by kernel_rfl) (fun _ _ _ h => h) (Or.inl ⟨by rfl, ?_⟩) ?_
        rotate_left
        focus (intro z; go_simp; try with_reducible rfl)
        try simp only [Act.put, List.setIfInBounds_toArray, List.set_cons_zero, List.set_cons_succ]
        refine wpAny_take (i := 5) (oi := { dst := some 27, op := Op.binOp BinOp.add 3 (Operand.const (Value.int IntKind.i64 1)) (Operand.tmp 26) 3, type := 3, pos := "fields.go:52", after := #[{ on := 4, ground := Ground.data }], guard := none }) (v := ?_) rfl (by kernel_rfl) (by kernel_rfl) (by kernel_rfl) (fun _ _ _ h => h) (Or.inl ⟨by rfl, ?_⟩) ?_
        rotate_left
        focus (intro z; go_simp; try with_reducible rfl)
        try simp only [Act.put, List.setIfInBounds_toArray, List.set_cons_zero, List.set_cons_succ]
        refine wpAny_take (i := 6) (oi := { dst := some 28, op := Op.slice 32 (Operand.tmp 24) (some (Operand.tmp 27)) none none, type := 32, pos := "fields.go:52", after := #[{ on := 2, ground := Ground.data }, { on := 5, ground := Ground.data }], guard := none }) rfl (by kernel_rfl) (by kernel_rfl) (by kernel_rfl) (fun _ _ _ h => h) (Or.inl ⟨by rfl, fun z => exec_slice_lA (.tmp 24) (.tmp 27) rfl rfl rfl BT.sl (H5.out z)⟩) ?_
        try simp only [Act.put, List.setIfInBounds_toArray, List.set_cons_zero, List.set_cons_succ]
        refine wpAny_take (i := 7) (oi := { dst := some 29, op := Op.slice 32 (Operand.tmp 28) none (some (Operand.const (Value.int IntKind.i64 3))) none, type := 32, pos := "fields.go:52", after := #[{ on := 6, ground := Ground.data }], guard := none }) rfl (by kernel_rfl) (by kernel_rfl) (by kernel_rfl) (fun _ _ _ h => h) (Or.inl ⟨by rfl, fun z => exec_slice_hA (.tmp 28) (.const (.int .i64 3)) rfl rfl rfl BT.sl (H6.out z)⟩) ?_
        try simp only [Act.put, List.setIfInBounds_toArray, List.set_cons_zero, List.set_cons_succ]
        refine wpAny_ready (rs := [1, 8]) (by kernel_rfl) (by simp) ?_
        refine AllReady.cons (o := { dst := some 23, op := Op.load 22 (Operand.tmp 22), type := 22, pos := "fields.go:52", after := #[{ on := 0, ground := Ground.data }], guard := none }) rfl (fun K hK => ?_) ?_
        · go_simp
          refine hK _ _ ?_
          clear hK K
          try simp only [Act.put, List.setIfInBounds_toArray, List.set_cons_zero, List.set_cons_succ]
          refine wpAny_ready (rs := [8]) (by kernel_rfl) (by simp) ?_
          refine AllReady.cons (o := { dst := some 30, op := Op.call { callee := Callee.value (Operand.func 179), args := #[Operand.tmp 29], argTypes := #[32] }, type := 47, pos := "fields.go:52", after := #[{ on := 7, ground := Ground.data }], guard := none }) rfl (fun K hK => ?_) ?_
          · go_simp
            refine (hA.out _ Fw.out.drew).mono ?_
            rintro r w9 ⟨rfl, fw⟩
            simp only [av]
            refine hK _ _ ?_
            clear hK K
            try simp only [Act.put, List.setIfInBounds_toArray, List.set_cons_zero, List.set_cons_succ]
            refine wpAny_ready (rs := [9]) (by kernel_rfl) (by simp) ?_
            refine AllReady.cons (o := { dst := some 31, op := Op.buildSlice 22 1 #[(0, Operand.tmp 30)], type := 22, pos := "fields.go:52", after := #[{ on := 8, ground := Ground.data }], guard := none }) rfl (fun K hK => ?_) ?_
            · go_simp
              refine hK _ _ ?_
              clear hK K
              try simp only [Act.put, List.setIfInBounds_toArray, List.set_cons_zero, List.set_cons_succ]
              refine wpAny_ready (rs := [10]) (by kernel_rfl) (by simp) ?_
              refine AllReady.cons (o := { dst := some 32, op := Op.call { callee := Callee.builtin Builtin.append, args := #[Operand.tmp 23, Operand.tmp 31], argTypes := #[22, 22] }, type := 22, pos := "fields.go:52", after := #[{ on := 1, ground := Ground.data }, { on := 9, ground := Ground.data }, { on := 8, ground := Ground.chain }], guard := none }) rfl (fun K hK => ?_) ?_
              · refine step_append_ads AT (Ok.out.keep (((Frm.refl [] wr).drew.trans fw (by simp)).alloc _) (by simp)) (one_slA (x := ((y1 : Int), (y2 : Int))) (heap_alloc_at rfl)) (by rw [HLR.out]; simp; omega) rfl (.tmp 23) (.tmp 31) rfl rfl rfl ?_
                intro xa2 xc2 w10 xsp2 o10 f10 n10
                refine hK _ _ ?_
                clear hK K
                try simp only [Act.put, List.setIfInBounds_toArray, List.set_cons_zero, List.set_cons_succ]
                refine wpAny_take (i := 11) (oi := { dst := some 33, op := Op.fieldAddr 26 (Operand.tmp 4) 0, type := 0, pos := "fields.go:52", after := #[{ on := 0, ground := Ground.phase }, { on := 1, ground := Ground.phase }, { on := 2, ground := Ground.phase }, { on := 3, ground := Ground.phase }, { on := 4, ground := Ground.phase }, { on := 5, ground := Ground.phase }, { on := 6, ground := Ground.phase }, { on := 7, ground := Ground.phase }, { on := 8, ground := Ground.phase }, { on := 9, ground := Ground.phase }, { on := 10, ground := Ground.phase }], guard := none }) (v := ?_) rfl (by kernel_rfl) (by kernel_rfl) (by kernel_rfl) (fun _ _ _ h => h) (Or.inl ⟨by rfl, ?_⟩) ?_
                rotate_left
                focus (intro z; go_simp; try with_reducible rfl)
                try simp only [Act.put, List.setIfInBounds_toArray, List.set_cons_zero, List.set_cons_succ]
                refine wpAny_ready (rs := [12]) (by kernel_rfl) (by simp) ?_
                refine AllReady.cons (o := { dst := none, op := Op.store 22 (Operand.tmp 33) (Operand.tmp 32), type := 0, pos := "fields.go:52", after := #[{ on := 11, ground := Ground.data }, { on := 10, ground := Ground.data }, { on := 10, ground := Ground.chain }, { on := 0, ground := Ground.phase }, { on := 1, ground := Ground.phase }, { on := 2, ground := Ground.phase }, { on := 3, ground := Ground.phase }, { on := 4, ground := Ground.phase }, { on := 5, ground := Ground.phase }, { on := 6, ground := Ground.phase }, { on := 7, ground := Ground.phase }, { on := 8, ground := Ground.phase }, { on := 9, ground := Ground.phase }, { on := 10, ground := Ground.phase }], guard := none }) rfl (fun K hK => ?_) ?_
                · have pb10 : PB w10 w2.heap.size (.slice xa k xc) nb nl (List.replicate 32 0) := (PBk.out.keep (((Frm.refl [] wr).drew.trans fw (by simp)).alloc _) (by simp)).keep f10 (fun h => Nat.lt_irrefl _ (NB.out _ h))
                  have c10 := (pb10.gets (by simp)).c0
                  have z10 : w10.frozen? ⟨w2.heap.size, 0, none⟩ = false := frozen_of_heap pb10 0
                  go_simp
                  refine hK _ _ ?_
                  clear hK K
                  try simp only [Act.put, List.setIfInBounds_toArray, List.set_cons_zero, List.set_cons_succ]
                  refine wpAny_done (by kernel_rfl) ?_ _
                  have fwr : Frm [] w2 w10 := (Fk.out.trans (((Frm.refl [] wr).drew.trans fw (by simp)).alloc _) (by simp)).trans f10 (fun i hi => .inr (Nat.le_of_lt (NB.out i hi) |> fun h => Nat.le_trans (Nat.le_refl _) h))
                  have nb10 : ∀ i ∈ blk (.slice xa2 (((List.range k).map (rawAd l)).length + [((y1 : Int), (y2 : Int))].length) xc2), w2.heap.size < i := fun i hi => by
                    rcases n10 i hi with h | h
                    · exact NB.out i h
                    · have := fw.size; simp at h this; omega
                  have hsn : (List.range k).map (rawAd l) ++ [((y1 : Int), (y2 : Int))] = (List.range (k + 1)).map (rawAd l) := by rw [List.range_succ, List.map_append, List.map_cons, List.map_nil, HX.out]
                  rw [hsn] at o10
                  have PB11 := Lib.hid (pb_store (v' := .slice xa2 (k + 1) xc2) pb10)
                  have hl1 : ((List.range k).map (rawAd l)).length + [((y1 : Int), (y2 : Int))].length = k + 1 := by simp
                  rw [hl1] at o10 nb10
                  have O11 := Lib.hid (o10.keep ((Frm.refl [w2.heap.size] w10).setCell ⟨w2.heap.size, 0, none⟩ (.slice xa2 (k + 1) xc2) (by simp)) (fun i hi => by have := nb10 i hi; simp; omega))
                  have FR11 := Lib.hid (fwr.setCell ⟨w2.heap.size, 0, none⟩ (.slice xa2 (k + 1) xc2) (.inr (Nat.le_refl _)))
                  have NB11 := Lib.hid nb10
                  generalize w10.setCell ⟨w2.heap.size, 0, none⟩ (.slice xa2 (k + 1) xc2) = w11 at *
                  clear hsn hl1 nb10 fwr o10 f10 n10 pb10 c10 z10 fw c0 z0 g4lt hw3 hwq
                  go_wp2_with fail
                  go_roundw
                  case rel => exact ⟨k + 1, xa2, xc2, xsp2, by omega, by go_num, PB11.out, O11.out, NB11.out, FR11.out⟩
                  case measure => simp [intOf]; omega
                exact AllReady.nil
              exact AllReady.nil
            exact AllReady.nil
          exact AllReady.nil
        refine AllReady.cons (o := { dst := some 30, op := Op.call { callee := Callee.value (Operand.func 179), args := #[Operand.tmp 29], argTypes := #[32] }, type := 47, pos := "fields.go:52", after := #[{ on := 7, ground := Ground.data }], guard := none }) rfl (fun K hK => ?_) ?_
        · go_simp
          refine (hA.out _ Fw.out.drew).mono ?_
          rintro r w9 ⟨rfl, fw⟩
          simp only [av]
          refine hK _ _ ?_
          clear hK K
          try simp only [Act.put, List.setIfInBounds_toArray, List.set_cons_zero, List.set_cons_succ]
          refine wpAny_ready (rs := [1, 9]) (by kernel_rfl) (by simp) ?_
          refine AllReady.cons (o := { dst := some 23, op := Op.load 22 (Operand.tmp 22), type := 22, pos := "fields.go:52", after := #[{ on := 0, ground := Ground.data }], guard := none }) rfl (fun K hK => ?_) ?_
          · have c9 := fw.cell (show wr.drew.cell? _ = _ from c0) (by simp)
            go_simp
            refine hK _ _ ?_
            clear hK K
            try simp only [Act.put, List.setIfInBounds_toArray, List.set_cons_zero, List.set_cons_succ]
            refine wpAny_ready (rs := [9]) (by kernel_rfl) (by simp) ?_
            refine AllReady.cons (o := { dst := some 31, op := Op.buildSlice 22 1 #[(0, Operand.tmp 30)], type := 22, pos := "fields.go:52", after := #[{ on := 8, ground := Ground.data }], guard := none }) rfl (fun K hK => ?_) ?_
            · go_simp
              refine hK _ _ ?_
              clear hK K
              try simp only [Act.put, List.setIfInBounds_toArray, List.set_cons_zero, List.set_cons_succ]
              refine wpAny_ready (rs := [10]) (by kernel_rfl) (by simp) ?_
              refine AllReady.cons (o := { dst := some 32, op := Op.call { callee := Callee.builtin Builtin.append, args := #[Operand.tmp 23, Operand.tmp 31], argTypes := #[22, 22] }, type := 22, pos := "fields.go:52", after := #[{ on := 1, ground := Ground.data }, { on := 9, ground := Ground.data }, { on := 8, ground := Ground.chain }], guard := none }) rfl (fun K hK => ?_) ?_
              · refine step_append_ads AT (Ok.out.keep (((Frm.refl [] wr).drew.trans fw (by simp)).alloc _) (by simp)) (one_slA (x := ((y1 : Int), (y2 : Int))) (heap_alloc_at rfl)) (by rw [HLR.out]; simp; omega) rfl (.tmp 23) (.tmp 31) rfl rfl rfl ?_
                intro xa2 xc2 w10 xsp2 o10 f10 n10
                refine hK _ _ ?_
                clear hK K
                try simp only [Act.put, List.setIfInBounds_toArray, List.set_cons_zero, List.set_cons_succ]
                refine wpAny_take (i := 11) (oi := { dst := some 33, op := Op.fieldAddr 26 (Operand.tmp 4) 0, type := 0, pos := "fields.go:52", after := #[{ on := 0, ground := Ground.phase }, { on := 1, ground := Ground.phase }, { on := 2, ground := Ground.phase }, { on := 3, ground := Ground.phase }, { on := 4, ground := Ground.phase }, { on := 5, ground := Ground.phase }, { on := 6, ground := Ground.phase }, { on := 7, ground := Ground.phase }, { on := 8, ground := Ground.phase }, { on := 9, ground := Ground.phase }, { on := 10, ground := Ground.phase }], guard := none }) (v := ?_) rfl (by kernel_rfl) (by kernel_rfl) (by kernel_rfl) (fun _ _ _ h => h) (Or.inl ⟨by rfl, ?_⟩) ?_
                rotate_left
                focus (intro z; go_simp; try with_reducible rfl)
                try simp only [Act.put, List.setIfInBounds_toArray, List.set_cons_zero, List.set_cons_succ]
                refine wpAny_ready (rs := [12]) (by kernel_rfl) (by simp) ?_
                refine AllReady.cons (o := { dst := none, op := Op.store 22 (Operand.tmp 33) (Operand.tmp 32), type := 0, pos := "fields.go:52", after := #[{ on := 11, ground := Ground.data }, { on := 10, ground := Ground.data }, { on := 10, ground := Ground.chain }, { on := 0, ground := Ground.phase }, { on := 1, ground := Ground.phase }, { on := 2, ground := Ground.phase }, { on := 3, ground := Ground.phase }, { on := 4, ground := Ground.phase }, { on := 5, ground := Ground.phase }, { on := 6, ground := Ground.phase }, { on := 7, ground := Ground.phase }, { on := 8, ground := Ground.phase }, { on := 9, ground := Ground.phase }, { on := 10, ground := Ground.phase }], guard := none }) rfl (fun K hK => ?_) ?_
                · have pb10 : PB w10 w2.heap.size (.slice xa k xc) nb nl (List.replicate 32 0) := (PBk.out.keep (((Frm.refl [] wr).drew.trans fw (by simp)).alloc _) (by simp)).keep f10 (fun h => Nat.lt_irrefl _ (NB.out _ h))
                  have c10 := (pb10.gets (by simp)).c0
                  have z10 : w10.frozen? ⟨w2.heap.size, 0, none⟩ = false := frozen_of_heap pb10 0
                  go_simp
                  refine hK _ _ ?_
                  clear hK K
                  try simp only [Act.put, List.setIfInBounds_toArray, List.set_cons_zero, List.set_cons_succ]
                  refine wpAny_done (by kernel_rfl) ?_ _
                  have fwr : Frm [] w2 w10 := (Fk.out.trans (((Frm.refl [] wr).drew.trans fw (by simp)).alloc _) (by simp)).trans f10 (fun i hi => .inr (Nat.le_of_lt (NB.out i hi) |> fun h => Nat.le_trans (Nat.le_refl _) h))
                  have nb10 : ∀ i ∈ blk (.slice xa2 (((List.range k).map (rawAd l)).length + [((y1 : Int), (y2 : Int))].length) xc2), w2.heap.size < i := fun i hi => by
                    rcases n10 i hi with h | h
                    · exact NB.out i h
                    · have := fw.size; simp at h this; omega
                  have hsn : (List.range k).map (rawAd l) ++ [((y1 : Int), (y2 : Int))] = (List.range (k + 1)).map (rawAd l) := by rw [List.range_succ, List.map_append, List.map_cons, List.map_nil, HX.out]
                  rw [hsn] at o10
                  have PB11 := Lib.hid (pb_store (v' := .slice xa2 (k + 1) xc2) pb10)
                  have hl1 : ((List.range k).map (rawAd l)).length + [((y1 : Int), (y2 : Int))].length = k + 1 := by simp
                  rw [hl1] at o10 nb10
                  have O11 := Lib.hid (o10.keep ((Frm.refl [w2.heap.size] w10).setCell ⟨w2.heap.size, 0, none⟩ (.slice xa2 (k + 1) xc2) (by simp)) (fun i hi => by have := nb10 i hi; simp; omega))
                  have FR11 := Lib.hid (fwr.setCell ⟨w2.heap.size, 0, none⟩ (.slice xa2 (k + 1) xc2) (.inr (Nat.le_refl _)))
                  have NB11 := Lib.hid nb10
                  generalize w10.setCell ⟨w2.heap.size, 0, none⟩ (.slice xa2 (k + 1) xc2) = w11 at *
                  clear hsn hl1 nb10 fwr o10 f10 n10 pb10 c10 z10 fw c0 z0 g4lt hw3 hwq
                  go_wp2_with fail
                  go_roundw
                  case rel => exact ⟨k + 1, xa2, xc2, xsp2, by omega, by go_num, PB11.out, O11.out, NB11.out, FR11.out⟩
                  case measure => simp [intOf]; omega
                exact AllReady.nil
              exact AllReady.nil
            exact AllReady.nil
          refine AllReady.cons (o := { dst := some 31, op := Op.buildSlice 22 1 #[(0, Operand.tmp 30)], type := 22, pos := "fields.go:52", after := #[{ on := 8, ground := Ground.data }], guard := none }) rfl (fun K hK => ?_) ?_
          · go_simp
            refine hK _ _ ?_
            clear hK K
            try simp only [Act.put, List.setIfInBounds_toArray, List.set_cons_zero, List.set_cons_succ]
            refine wpAny_ready (rs := [1]) (by kernel_rfl) (by simp) ?_
            refine AllReady.cons (o := { dst := some 23, op := Op.load 22 (Operand.tmp 22), type := 22, pos := "fields.go:52", after := #[{ on := 0, ground := Ground.data }], guard := none }) rfl (fun K hK => ?_) ?_
            · have c9 := fw.cell (show wr.drew.cell? _ = _ from c0) (by simp)
              have c8 := ((Frm.refl [] w9).alloc (.cells #[.int .i64 y1, .int .i64 y2] 47)).cell c9 (by simp)
              go_simp
              refine hK _ _ ?_
              clear hK K
              try simp only [Act.put, List.setIfInBounds_toArray, List.set_cons_zero, List.set_cons_succ]
              refine wpAny_ready (rs := [10]) (by kernel_rfl) (by simp) ?_
              refine AllReady.cons (o := { dst := some 32, op := Op.call { callee := Callee.builtin Builtin.append, args := #[Operand.tmp 23, Operand.tmp 31], argTypes := #[22, 22] }, type := 22, pos := "fields.go:52", after := #[{ on := 1, ground := Ground.data }, { on := 9, ground := Ground.data }, { on := 8, ground := Ground.chain }], guard := none }) rfl (fun K hK => ?_) ?_
              · refine step_append_ads AT (Ok.out.keep (((Frm.refl [] wr).drew.trans fw (by simp)).alloc _) (by simp)) (one_slA (x := ((y1 : Int), (y2 : Int))) (heap_alloc_at rfl)) (by rw [HLR.out]; simp; omega) rfl (.tmp 23) (.tmp 31) rfl rfl rfl ?_
                intro xa2 xc2 w10 xsp2 o10 f10 n10
                refine hK _ _ ?_
                clear hK K
                try simp only [Act.put, List.setIfInBounds_toArray, List.set_cons_zero, List.set_cons_succ]
                refine wpAny_take (i := 11) (oi := { dst := some 33, op := Op.fieldAddr 26 (Operand.tmp 4) 0, type := 0, pos := "fields.go:52", after := #[{ on := 0, ground := Ground.phase }, { on := 1, ground := Ground.phase }, { on := 2, ground := Ground.phase }, { on := 3, ground := Ground.phase }, { on := 4, ground := Ground.phase }, { on := 5, ground := Ground.phase }, { on := 6, ground := Ground.phase }, { on := 7, ground := Ground.phase }, { on := 8, ground := Ground.phase }, { on := 9, ground := Ground.phase }, { on := 10, ground := Ground.phase }], guard := none }) (v := ?_) rfl (by kernel_rfl) (by kernel_rfl) (by kernel_rfl) (fun _ _ _ h => h) (Or.inl ⟨by rfl, ?_⟩) ?_
                rotate_left
                focus (intro z; go_simp; try with_reducible rfl)
                try simp only [Act.put, List.setIfInBounds_toArray, List.set_cons_zero, List.set_cons_succ]
                refine wpAny_ready (rs := [12]) (by kernel_rfl) (by simp) ?_
                refine AllReady.cons (o := { dst := none, op := Op.store 22 (Operand.tmp 33) (Operand.tmp 32), type := 0, pos := "fields.go:52", after := #[{ on := 11, ground := Ground.data }, { on := 10, ground := Ground.data }, { on := 10, ground := Ground.chain }, { on := 0, ground := Ground.phase }, { on := 1, ground := Ground.phase }, { on := 2, ground := Ground.phase }, { on := 3, ground := Ground.phase }, { on := 4, ground := Ground.phase }, { on := 5, ground := Ground.phase }, { on := 6, ground := Ground.phase }, { on := 7, ground := Ground.phase }, { on := 8, ground := Ground.phase }, { on := 9, ground := Ground.phase }, { on := 10, ground := Ground.phase }], guard := none }) rfl (fun K hK => ?_) ?_
                · have pb10 : PB w10 w2.heap.size (.slice xa k xc) nb nl (List.replicate 32 0) := (PBk.out.keep (((Frm.refl [] wr).drew.trans fw (by simp)).alloc _) (by simp)).keep f10 (fun h => Nat.lt_irrefl _ (NB.out _ h))
                  have c10 := (pb10.gets (by simp)).c0
                  have z10 : w10.frozen? ⟨w2.heap.size, 0, none⟩ = false := frozen_of_heap pb10 0
                  go_simp
                  refine hK _ _ ?_
                  clear hK K
                  try simp only [Act.put, List.setIfInBounds_toArray, List.set_cons_zero, List.set_cons_succ]
                  refine wpAny_done (by kernel_rfl) ?_ _
                  have fwr : Frm [] w2 w10 := (Fk.out.trans (((Frm.refl [] wr).drew.trans fw (by simp)).alloc _) (by simp)).trans f10 (fun i hi => .inr (Nat.le_of_lt (NB.out i hi) |> fun h => Nat.le_trans (Nat.le_refl _) h))
                  have nb10 : ∀ i ∈ blk (.slice xa2 (((List.range k).map (rawAd l)).length + [((y1 : Int), (y2 : Int))].length) xc2), w2.heap.size < i := fun i hi => by
                    rcases n10 i hi with h | h
                    · exact NB.out i h
                    · have := fw.size; simp at h this; omega
                  have hsn : (List.range k).map (rawAd l) ++ [((y1 : Int), (y2 : Int))] = (List.range (k + 1)).map (rawAd l) := by rw [List.range_succ, List.map_append, List.map_cons, List.map_nil, HX.out]
                  rw [hsn] at o10
                  have PB11 := Lib.hid (pb_store (v' := .slice xa2 (k + 1) xc2) pb10)
                  have hl1 : ((List.range k).map (rawAd l)).length + [((y1 : Int), (y2 : Int))].length = k + 1 := by simp
                  rw [hl1] at o10 nb10
                  have O11 := Lib.hid (o10.keep ((Frm.refl [w2.heap.size] w10).setCell ⟨w2.heap.size, 0, none⟩ (.slice xa2 (k + 1) xc2) (by simp)) (fun i hi => by have := nb10 i hi; simp; omega))
                  have FR11 := Lib.hid (fwr.setCell ⟨w2.heap.size, 0, none⟩ (.slice xa2 (k + 1) xc2) (.inr (Nat.le_refl _)))
                  have NB11 := Lib.hid nb10
                  generalize w10.setCell ⟨w2.heap.size, 0, none⟩ (.slice xa2 (k + 1) xc2) = w11 at *
                  clear hsn hl1 nb10 fwr o10 f10 n10 pb10 c10 z10 fw c0 z0 g4lt hw3 hwq
                  go_wp2_with fail
                  go_roundw
                  case rel => exact ⟨k + 1, xa2, xc2, xsp2, by omega, by go_num, PB11.out, O11.out, NB11.out, FR11.out⟩
                  case measure => simp [intOf]; omega
                exact AllReady.nil
              exact AllReady.nil
            exact AllReady.nil
          exact AllReady.nil
        exact AllReady.nil
      · obtain rfl : k = n := by omega
        obtain ⟨a5, c5, hs5, S5⟩ := slice_l BT HS.out 15 (by rw [HL.out]; omega)
        rw [HL.out] at hs5 S5
        have H5 := Lib.hid (fun wx => hs5 15 wx rfl)
        have hs32 : (l.drop 15).length = 32 := by rw [List.length_drop, HL.out]
        obtain ⟨i5, hi5, hz5, hsz5, hby5⟩ := info_parts BT.info
        have hrun := copy_raw (P := Tryz.prog) (tS := 32) (tx := 32) 3 BT.sl hi5 hsz5 (show wr.drew.heap[w2.heap.size]? = _ from PBk.out) 3 (dLen := 32) (dCap := 32) (Sl.src BT.sl (S5.keep Fw.out.drew (by simp)) (bvs_one (l.drop 15))) (by rw [hs32]; omega) (by simp [pc, bvs_length, hs32])
        rw [show (pc (.slice xa k xc) nb nl (List.replicate 32 0)).take 3 ++ bvs (l.drop 15) ++ (pc (.slice xa k xc) nb nl (List.replicate 32 0)).drop (3 + (bvs (l.drop 15)).length) = pc (.slice xa k xc) nb nl (l.drop 15) from pc_splice (by rw [hs32]; rfl), hs32] at hrun
        have HR := Lib.hid hrun
        have HS32 := Lib.hid hs32
        have hsr := setRow_heap wr.drew w2.heap.size _ (pc (.slice xa k xc) nb nl (l.drop 15)).toArray _ _ (show wr.drew.heap[w2.heap.size]? = _ from PBk.out)
        have fR : Frm [w2.heap.size] wr (wr.drew.setRow w2.heap.size (pc (.slice xa k xc) nb nl (l.drop 15)).toArray) := ⟨rfl, rfl, rfl, by simp [World.setRow], fun k hk hn => setRow_other _ _ k _ (by simpa using hn)⟩
        have HSR := Lib.hid hsr
        have FR := Lib.hid fR
        clear hs5 hrun S5 hsr fR hs32 hi5 hsz5
        generalize l.drop 15 = s5 at *
        go_upto_region 9 with (fail)
        refine wp_region_any (by kernel_rfl) ?_
        change wpAny _ _ _ _ _ _ _ (World.drew _)
        refine wpAny_take (i := 0) (oi := { dst := some 35, op := Op.fieldAddr 26 (Operand.tmp 4) 3, type := 0, pos := "fields.go:54", after := #[], guard := none }) (v := ?_) rfl (by kernel_rfl) (by kernel_rfl) (by kernel_rfl) (fun _ _ _ h => h) (Or.inl ⟨by rfl, ?_⟩) ?_
        rotate_left
        focus (intro z; go_simp; try with_reducible rfl)
        try simp only [Act.put, List.setIfInBounds_toArray, List.set_cons_zero, List.set_cons_succ]
        refine wpAny_take (i := 1) (oi := { dst := some 36, op := Op.slice 24 (Operand.tmp 35) none none none, type := 32, pos := "fields.go:54", after := #[{ on := 0, ground := Ground.data }], guard := none }) (v := ?_) rfl (by kernel_rfl) (by kernel_rfl) (by kernel_rfl) (fun _ _ _ h => h) (Or.inl ⟨by rfl, ?_⟩) ?_
        rotate_left
        focus (intro z; go_simp; try with_reducible rfl)
        try simp only [Act.put, List.setIfInBounds_toArray, List.set_cons_zero, List.set_cons_succ]
        refine wpAny_take (i := 2) (oi := { dst := some 37, op := Op.move (Operand.tmp 0), type := 32, pos := "fields.go:54", after := #[], guard := none }) (v := ?_) rfl (by kernel_rfl) (by kernel_rfl) (by kernel_rfl) (fun _ _ _ h => h) (Or.inl ⟨by rfl, ?_⟩) ?_
        rotate_left
        focus (intro z; go_simp; try with_reducible rfl)
        try simp only [Act.put, List.setIfInBounds_toArray, List.set_cons_zero, List.set_cons_succ]
        refine wpAny_take (i := 3) (oi := { dst := some 38, op := Op.slice 32 (Operand.tmp 37) (some (Operand.const (Value.int IntKind.i64 15))) none none, type := 32, pos := "fields.go:54", after := #[{ on := 2, ground := Ground.data }], guard := none }) rfl (by kernel_rfl) (by kernel_rfl) (by kernel_rfl) (fun _ _ _ h => h) (Or.inl ⟨by rfl, fun z => exec_slice_lA (.tmp 37) (.const (.int .i64 15)) rfl rfl rfl BT.sl (H5.out z)⟩) ?_
        try simp only [Act.put, List.setIfInBounds_toArray, List.set_cons_zero, List.set_cons_succ]
        refine wpAny_ready (rs := [4]) (by kernel_rfl) (by simp) ?_
        refine AllReady.cons (o := { dst := some 39, op := Op.call { callee := Callee.builtin Builtin.copy, args := #[Operand.tmp 36, Operand.tmp 38], argTypes := #[32, 32] }, type := 3, pos := "fields.go:54", after := #[{ on := 1, ground := Ground.data }, { on := 3, ground := Ground.data }], guard := none }) rfl (fun K hK => ?_) ?_
        · refine step_val rfl (exec_copy_run (.tmp 36) (.tmp 38) rfl rfl rfl HR.out) ?_
          refine hK _ _ ?_
          clear hK K
          try simp only [Act.put, List.setIfInBounds_toArray, List.set_cons_zero, List.set_cons_succ]
          refine wpAny_done (by kernel_rfl) ?_ _
          have Z9 := Lib.hid (FR.out.heap (Fk.out.heap Z0.out (by simp)) (show w.heap.size ∉ [w2.heap.size] by simp; omega))
          generalize wr.drew.setRow w2.heap.size (pc (.slice xa k xc) nb nl s5).toArray = w9 at *
          have G9 := Lib.hid ((show PB w9 w2.heap.size (.slice xa k xc) nb nl s5 from HSR.out).gets HS32.out)
          go_upto_region 10 with (fail)
          refine wp_region_lit ?_
          refine wpList_load_g (by rfl) 26 (.tmp 4) rfl _ rfl G9.out.all ?_
          refine wpList_store_row rfl 26 (.tmp 2) (.tmp 40) rfl w.heap.size (pc (.slice xa k xc) nb nl s5).toArray rfl rfl 26 _ Z9.out (by rw [i26, pc_size, HS32.out]) (by rw [pc_size, pc_size, HS32.out]; rfl) (pc_one _ _ _) ?_
          have hfin := setRow_heap w9 w.heap.size _ (pc (.slice xa k xc) nb nl s5).toArray 26 (0, 0) Z9.out
          have ffin : Frm [w2.heap.size, w.heap.size] wr (w9.setRow w.heap.size (pc (.slice xa k xc) nb nl s5).toArray) := (FR.out.mono (by simp)).trans (L' := [w.heap.size]) ⟨rfl, rfl, rfl, by simp [World.setRow], fun k hk hn => setRow_other _ _ k _ (by simpa using hn)⟩ (by simp)
          have ofin := Ok.out.keep ffin (fun i hi => by have := NB.out i (by simpa using hi); simp; omega)
          have hww : Frm [] w (w9.setRow w.heap.size (pc (.slice xa k xc) nb nl s5).toArray) := Fw.out.trans ffin (fun i hi => by simp at hi; rcases hi with rfl | rfl; exact .inr F0.out.size; exact .inr (Nat.le_refl _))
          generalize w9.setRow w.heap.size (pc (.slice xa k xc) nb nl s5).toArray = w10 at *
          have HF := Lib.hid hfin
          have OF := Lib.hid ofin
          have HW := Lib.hid hww
          clear hfin ffin ofin hww
          go_wp2_with fail
          refine bodyPost_ret (v := pv (.slice xa k xc) nb nl s5) (results_cell_row (p := 2) rfl _ _ w.heap.size 26 _ (0, 0) _ rfl HF.out Tryz.underlying26 rfl (by rw [i26, pc_size, HS32.out])) rfl ⟨Or.inr ⟨by rw [HN.out]; omega, _, rfl, ?_, fun i hi => by rw [ptBlk_pv] at hi; have := NB.out i hi; have := F0.out.size; omega⟩, HW.out⟩
          rw [HP.out]
          have hln : ((List.range k).map (rawAd l)).length = k := by simp
          exact ⟨xa, xc, xsp, by rw [hln], by rw [hln]; exact OF.out, HS32.out⟩
        exact AllReady.nil
  clear hK0
  refine wp_region_any (by kernel_rfl) ?_
  change wpAny _ _ _ _ _ _ _ (World.drew _)
  refine wpAny_take (i := 0) (oi := { dst := some 11, op := Op.move (Operand.tmp 0), type := 32, pos := "fields.go:50", after := #[], guard := none }) (v := ?_) rfl (by kernel_rfl) (by kernel_rfl) (by kernel_rfl) (fun _ _ _ h => h) (Or.inl ⟨by rfl, ?_⟩) ?_
  rotate_left
  focus (intro z; go_simp; try with_reducible rfl)
  try simp only [Act.put, List.setIfInBounds_toArray, List.set_cons_zero, List.set_cons_succ]
  refine wpAny_take (i := 1) (oi := { dst := some 12, op := Op.slice 32 (Operand.tmp 11) (some (Operand.const (Value.int IntKind.i64 10))) (some (Operand.const (Value.int IntKind.i64 14))) none, type := 32, pos := "fields.go:50", after := #[{ on := 0, ground := Ground.data }], guard := none }) rfl (by kernel_rfl) (by kernel_rfl) (by kernel_rfl) (fun _ _ _ h => h) (Or.inl ⟨by rfl, fun z => exec_slice_lh (.tmp 11) (.const (.int .i64 10)) (.const (.int .i64 14)) rfl rfl rfl rfl BT.sl (H2.out z)⟩) ?_
  try simp only [Act.put, List.setIfInBounds_toArray, List.set_cons_zero, List.set_cons_succ]
  refine wpAny_take (i := 3) (oi := { dst := some 14, op := Op.move (Operand.tmp 0), type := 32, pos := "fields.go:50", after := #[], guard := none }) (v := ?_) rfl (by kernel_rfl) (by kernel_rfl) (by kernel_rfl) (fun _ _ _ h => h) (Or.inl ⟨by rfl, ?_⟩) ?_
  rotate_left
  focus (intro z; go_simp; try with_reducible rfl)
  try simp only [Act.put, List.setIfInBounds_toArray, List.set_cons_zero, List.set_cons_succ]
  refine wpAny_take (i := 4) (oi := { dst := some 15, op := Op.slice 32 (Operand.tmp 14) (some (Operand.const (Value.int IntKind.i64 14))) (some (Operand.const (Value.int IntKind.i64 15))) none, type := 32, pos := "fields.go:50", after := #[{ on := 3, ground := Ground.data }], guard := none }) rfl (by kernel_rfl) (by kernel_rfl) (by kernel_rfl) (fun _ _ _ h => h) (Or.inl ⟨by rfl, fun z => exec_slice_lh (.tmp 14) (.const (.int .i64 14)) (.const (.int .i64 15)) rfl rfl rfl rfl BT.sl (H3.out z)⟩) ?_
  try simp only [Act.put, List.setIfInBounds_toArray, List.set_cons_zero, List.set_cons_succ]
  refine wpAny_ready (rs := [2, 7]) (by kernel_rfl) (by simp) ?_
  refine AllReady.cons (o := { dst := some 13, op := Op.call { callee := Callee.value (Operand.func 177), args := #[Operand.tmp 12], argTypes := #[32] }, type := 3, pos := "fields.go:50", after := #[{ on := 1, ground := Ground.data }], guard := none }) rfl (fun K hK => ?_) ?_
  · go_simp
    refine (hN2.out _ F0.out.drew).mono ?_
    rintro r w9 ⟨rfl, rfl⟩
    refine hK _ _ ?_
    clear hK K
    try simp only [Act.put, List.setIfInBounds_toArray, List.set_cons_zero, List.set_cons_succ]
    refine wpAny_ready (rs := [5, 7]) (by kernel_rfl) (by simp) ?_
    refine AllReady.cons (o := { dst := some 16, op := Op.call { callee := Callee.value (Operand.func 177), args := #[Operand.tmp 15], argTypes := #[32] }, type := 3, pos := "fields.go:50", after := #[{ on := 4, ground := Ground.data }, { on := 2, ground := Ground.chain }], guard := none }) rfl (fun K hK => ?_) ?_
    · go_simp
      refine (hN3.out _ F0.out.drew).mono ?_
      rintro r w9 ⟨rfl, rfl⟩
      refine hK _ _ ?_
      clear hK K
      try simp only [Act.put, List.setIfInBounds_toArray, List.set_cons_zero, List.set_cons_succ]
      refine wpAny_take (i := 6) (oi := { dst := some 17, op := Op.build 26 #[(1, Operand.tmp 13), (2, Operand.tmp 16)], type := 26, pos := "fields.go:50", after := #[{ on := 2, ground := Ground.data }, { on := 5, ground := Ground.data }], guard := none }) rfl (by kernel_rfl) (by kernel_rfl) (by kernel_rfl) (fun _ _ _ h => h) (Or.inl ⟨by rfl, fun z => exec_bld12 (.tmp 13) (.tmp 16) rfl rfl rfl z⟩) ?_
      try simp only [Act.put, List.setIfInBounds_toArray, List.set_cons_zero, List.set_cons_succ]
      refine wpAny_ready (rs := [7]) (by kernel_rfl) (by simp) ?_
      refine AllReady.cons (o := { dst := some 4, op := Op.alloc 26, type := 0, pos := "fields.go:50", after := #[], guard := none }) rfl (fun K hK => ?_) ?_
      · refine step_val rfl (exec_alloc26 rfl _) ?_
        refine hK _ _ ?_
        clear hK K
        try simp only [Act.put, List.setIfInBounds_toArray, List.set_cons_zero, List.set_cons_succ]
        refine wpAny_ready (rs := [8]) (by kernel_rfl) (by simp) ?_
        refine AllReady.cons (o := { dst := none, op := Op.store 26 (Operand.tmp 4) (Operand.tmp 17), type := 0, pos := "fields.go:50", after := #[{ on := 7, ground := Ground.data }, { on := 6, ground := Ground.data }, { on := 5, ground := Ground.chain }, { on := 0, ground := Ground.phase }, { on := 1, ground := Ground.phase }, { on := 2, ground := Ground.phase }, { on := 3, ground := Ground.phase }, { on := 4, ground := Ground.phase }, { on := 5, ground := Ground.phase }, { on := 6, ground := Ground.phase }, { on := 7, ground := Ground.phase }], guard := none }) rfl (fun K hK => ?_) ?_
        · rw [if_pos (by rfl)]
          refine wp_store_row 26 (.tmp 4) (.tmp 17) rfl w2.heap.size (pc (.slice none 0 0) nb nl (List.replicate 32 0)).toArray rfl rfl 26 (pc (.slice none 0 0) 0 0 (List.replicate 32 0)).toArray (heap_alloc_new w2.drew _) (by rw [i26, pc_size]; rfl) (by rw [pc_size, pc_size]) (pc_one _ _ _) ?_
          refine hK _ _ ?_
          clear hK K
          try simp only [Act.put, List.setIfInBounds_toArray, List.set_cons_zero, List.set_cons_succ]
          refine wpAny_done (by kernel_rfl) ?_ _
          exact REST _ (((Frm.refl [] w2).drew.alloc _).trans (L' := [w2.heap.size]) ⟨rfl, rfl, rfl, by simp [World.setRow], fun k hk hn => setRow_other _ _ k _ (by simpa using hn)⟩ (fun i hi => by simp at hi; subst hi; exact .inr (Nat.le_refl _))) (setRow_heap _ _ _ _ _ _ (heap_alloc_new w2.drew _))
        exact AllReady.nil
      exact AllReady.nil
    refine AllReady.cons (o := { dst := some 4, op := Op.alloc 26, type := 0, pos := "fields.go:50", after := #[], guard := none }) rfl (fun K hK => ?_) ?_
    · refine step_val rfl (exec_alloc26 rfl _) ?_
      refine hK _ _ ?_
      clear hK K
      try simp only [Act.put, List.setIfInBounds_toArray, List.set_cons_zero, List.set_cons_succ]
      refine wpAny_ready (rs := [5]) (by kernel_rfl) (by simp) ?_
      refine AllReady.cons (o := { dst := some 16, op := Op.call { callee := Callee.value (Operand.func 177), args := #[Operand.tmp 15], argTypes := #[32] }, type := 3, pos := "fields.go:50", after := #[{ on := 4, ground := Ground.data }, { on := 2, ground := Ground.chain }], guard := none }) rfl (fun K hK => ?_) ?_
      · go_simp
        refine (hN3.out _ (F0.out.drew.alloc _)).mono ?_
        rintro r w9 ⟨rfl, rfl⟩
        refine hK _ _ ?_
        clear hK K
        try simp only [Act.put, List.setIfInBounds_toArray, List.set_cons_zero, List.set_cons_succ]
        refine wpAny_take (i := 6) (oi := { dst := some 17, op := Op.build 26 #[(1, Operand.tmp 13), (2, Operand.tmp 16)], type := 26, pos := "fields.go:50", after := #[{ on := 2, ground := Ground.data }, { on := 5, ground := Ground.data }], guard := none }) rfl (by kernel_rfl) (by kernel_rfl) (by kernel_rfl) (fun _ _ _ h => h) (Or.inl ⟨by rfl, fun z => exec_bld12 (.tmp 13) (.tmp 16) rfl rfl rfl z⟩) ?_
        try simp only [Act.put, List.setIfInBounds_toArray, List.set_cons_zero, List.set_cons_succ]
        refine wpAny_ready (rs := [8]) (by kernel_rfl) (by simp) ?_
        refine AllReady.cons (o := { dst := none, op := Op.store 26 (Operand.tmp 4) (Operand.tmp 17), type := 0, pos := "fields.go:50", after := #[{ on := 7, ground := Ground.data }, { on := 6, ground := Ground.data }, { on := 5, ground := Ground.chain }, { on := 0, ground := Ground.phase }, { on := 1, ground := Ground.phase }, { on := 2, ground := Ground.phase }, { on := 3, ground := Ground.phase }, { on := 4, ground := Ground.phase }, { on := 5, ground := Ground.phase }, { on := 6, ground := Ground.phase }, { on := 7, ground := Ground.phase }], guard := none }) rfl (fun K hK => ?_) ?_
        · rw [if_pos (by rfl)]
          refine wp_store_row 26 (.tmp 4) (.tmp 17) rfl w2.heap.size (pc (.slice none 0 0) nb nl (List.replicate 32 0)).toArray rfl rfl 26 (pc (.slice none 0 0) 0 0 (List.replicate 32 0)).toArray (heap_alloc_new w2.drew _) (by rw [i26, pc_size]; rfl) (by rw [pc_size, pc_size]) (pc_one _ _ _) ?_
          refine hK _ _ ?_
          clear hK K
          try simp only [Act.put, List.setIfInBounds_toArray, List.set_cons_zero, List.set_cons_succ]
          refine wpAny_done (by kernel_rfl) ?_ _
          exact REST _ (((Frm.refl [] w2).drew.alloc _).trans (L' := [w2.heap.size]) ⟨rfl, rfl, rfl, by simp [World.setRow], fun k hk hn => setRow_other _ _ k _ (by simpa using hn)⟩ (fun i hi => by simp at hi; subst hi; exact .inr (Nat.le_refl _))) (setRow_heap _ _ _ _ _ _ (heap_alloc_new w2.drew _))
        exact AllReady.nil
      exact AllReady.nil
    exact AllReady.nil
  refine AllReady.cons (o := { dst := some 4, op := Op.alloc 26, type := 0, pos := "fields.go:50", after := #[], guard := none }) rfl (fun K hK => ?_) ?_
  · refine step_val rfl (exec_alloc26 rfl _) ?_
    refine hK _ _ ?_
    clear hK K
    try simp only [Act.put, List.setIfInBounds_toArray, List.set_cons_zero, List.set_cons_succ]
    refine wpAny_ready (rs := [2]) (by kernel_rfl) (by simp) ?_
    refine AllReady.cons (o := { dst := some 13, op := Op.call { callee := Callee.value (Operand.func 177), args := #[Operand.tmp 12], argTypes := #[32] }, type := 3, pos := "fields.go:50", after := #[{ on := 1, ground := Ground.data }], guard := none }) rfl (fun K hK => ?_) ?_
    · go_simp
      refine (hN2.out _ (F0.out.drew.alloc _)).mono ?_
      rintro r w9 ⟨rfl, rfl⟩
      refine hK _ _ ?_
      clear hK K
      try simp only [Act.put, List.setIfInBounds_toArray, List.set_cons_zero, List.set_cons_succ]
      refine wpAny_ready (rs := [5]) (by kernel_rfl) (by simp) ?_
      refine AllReady.cons (o := { dst := some 16, op := Op.call { callee := Callee.value (Operand.func 177), args := #[Operand.tmp 15], argTypes := #[32] }, type := 3, pos := "fields.go:50", after := #[{ on := 4, ground := Ground.data }, { on := 2, ground := Ground.chain }], guard := none }) rfl (fun K hK => ?_) ?_
      · go_simp
        refine (hN3.out _ (F0.out.drew.alloc _)).mono ?_
        rintro r w9 ⟨rfl, rfl⟩
        refine hK _ _ ?_
        clear hK K
        try simp only [Act.put, List.setIfInBounds_toArray, List.set_cons_zero, List.set_cons_succ]
        refine wpAny_take (i := 6) (oi := { dst := some 17, op := Op.build 26 #[(1, Operand.tmp 13), (2, Operand.tmp 16)], type := 26, pos := "fields.go:50", after := #[{ on := 2, ground := Ground.data }, { on := 5, ground := Ground.data }], guard := none }) rfl (by kernel_rfl) (by kernel_rfl) (by kernel_rfl) (fun _ _ _ h => h) (Or.inl ⟨by rfl, fun z => exec_bld12 (.tmp 13) (.tmp 16) rfl rfl rfl z⟩) ?_
        try simp only [Act.put, List.setIfInBounds_toArray, List.set_cons_zero, List.set_cons_succ]
        refine wpAny_ready (rs := [8]) (by kernel_rfl) (by simp) ?_
        refine AllReady.cons (o := { dst := none, op := Op.store 26 (Operand.tmp 4) (Operand.tmp 17), type := 0, pos := "fields.go:50", after := #[{ on := 7, ground := Ground.data }, { on := 6, ground := Ground.data }, { on := 5, ground := Ground.chain }, { on := 0, ground := Ground.phase }, { on := 1, ground := Ground.phase }, { on := 2, ground := Ground.phase }, { on := 3, ground := Ground.phase }, { on := 4, ground := Ground.phase }, { on := 5, ground := Ground.phase }, { on := 6, ground := Ground.phase }, { on := 7, ground := Ground.phase }], guard := none }) rfl (fun K hK => ?_) ?_
        · rw [if_pos (by rfl)]
          refine wp_store_row 26 (.tmp 4) (.tmp 17) rfl w2.heap.size (pc (.slice none 0 0) nb nl (List.replicate 32 0)).toArray rfl rfl 26 (pc (.slice none 0 0) 0 0 (List.replicate 32 0)).toArray (heap_alloc_new w2.drew _) (by rw [i26, pc_size]; rfl) (by rw [pc_size, pc_size]) (pc_one _ _ _) ?_
          refine hK _ _ ?_
          clear hK K
          try simp only [Act.put, List.setIfInBounds_toArray, List.set_cons_zero, List.set_cons_succ]
          refine wpAny_done (by kernel_rfl) ?_ _
          exact REST _ (((Frm.refl [] w2).drew.alloc _).trans (L' := [w2.heap.size]) ⟨rfl, rfl, rfl, by simp [World.setRow], fun k hk hn => setRow_other _ _ k _ (by simpa using hn)⟩ (fun i hi => by simp at hi; subst hi; exact .inr (Nat.le_refl _))) (setRow_heap _ _ _ _ _ _ (heap_alloc_new w2.drew _))
        exact AllReady.nil
      exact AllReady.nil
    exact AllReady.nil
  exact AllReady.nil
end Go.Proofs.YtjdejhgfkjeeiaaGreatDoor.Pt
