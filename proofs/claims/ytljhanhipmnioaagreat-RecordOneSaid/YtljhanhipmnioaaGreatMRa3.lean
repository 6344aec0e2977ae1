/-
  Contract of pointerOf. No conditions but those that each theorem names. Contract of Bytes, of the answer of the document. No conditions but those that each theorem names. Contracts of pointer: Read, Same, and plain facts. No conditions but those that each theorem names. What a row's own reading gives the walks: bytes, addresses, pointers. No conditions but those that each theorem names.
-/
import Derived.Test.YtljhanhipmnioaaGreatMRa1
import Derived.Test.YtljhanhipmnioaaGreatMRa2
import Derived.Deep.WholeRow
import Derived.Deep.SlicePairs
import Derived.Deep.Strs
import Derived.ChangeSame
import Derived.WalkKit
import Derived.WalkSpells
import Derived.WalkLawsBesides
import Derived.Deep.AppendSrc
import Derived.Laws.CopyOwn
import Derived.Laws.BytesArg
import Derived.Carry
import Derived.Laws.BytesString
import Derived.Deep.Cut
import Derived.Lib.Hide
import Derived.Test.YtljhanhipmnioaaGreatChecked
import Derived.ChangeKeysEq
import Derived.Deep.MidRow
import Derived.Deep.RegionHeld3
import Derived.OpenShut
import Derived.WalkHide
import Derived.IntWalk
import Derived.StillTailTactics
import Derived.Deep.RegionLaw
import Derived.Deep.RegionWith
import Derived.Deep.QuietTactic
import Derived.BigQuiet
import Derived.OrdersHeld
import Derived.Deep.CutBlock
import Derived.Deep.DeepCutAuto
import Derived.Deep.Slices
import Derived.Defers
import Derived.Recover
namespace Go.Proofs.YtljhanhipmnioaaGreat.Pt
open Go.RowKit
set_option linter.unusedVariables false
set_option linter.unusedSimpArgs false
set_option maxRecDepth 100000

theorem bld12 (x y : Int) (W : World) : (Instr.build 54 #[(1, .int .i64 x), (2, .int .i64 y)]).run Tryz.prog W = .ok (pv (.slice none 0 0) x y (List.replicate 32 0)) W := by kernel_rfl
theorem exec_bld12 {o : Oper} {a : Act} {x y : Int} (s t : Operand) (hop : o.op = Op.build 54 #[(1, s), (2, t)]) (h1 : a.eval s = .int .i64 x) (h2 : a.eval t = .int .i64 y) (W : World) : (execOp a.eval o).run Tryz.prog W = .ok (.value (pv (.slice none 0 0) x y (List.replicate 32 0))) W := by
  have hb := bld12 x y W
  have hm : (#[(1, s), (2, t)].map fun ((i, x) : Nat × Operand) => (i, a.eval x)) = #[(1, .int .i64 x), (2, .int .i64 y)] := by simp [h1, h2]
  simp only [execOp, hop, hm, Sem.run_bind, Sem.run_pure, hb, Result.andThen_ok]
theorem alloc26 (W : World) : (Instr.alloc 54 true (.tuple #[])).run Tryz.prog W = .ok (.pointer (some ⟨W.heap.size, 0, none⟩)) (W.alloc (.cells (pc (.slice none 0 0) 0 0 (List.replicate 32 0)).toArray 54)) := by kernel_rfl
theorem exec_alloc26 {o : Oper} {a : Act} (hop : o.op = Op.alloc 54) (W : World) : (execOp a.eval o).run Tryz.prog W = .ok (.value (.pointer (some ⟨W.heap.size, 0, none⟩))) (W.alloc (.cells (pc (.slice none 0 0) 0 0 (List.replicate 32 0)).toArray 54)) := by
  have h := alloc26 W
  generalize W.alloc (.cells (pc (.slice none 0 0) 0 0 (List.replicate 32 0)).toArray 54) = W2 at *
  simp only [execOp, hop, Sem.run_bind, Sem.run_pure, h, Result.andThen_ok]
theorem pc_size (v : Value) (b l : Int) (s : List UInt8) : (pc v b l s).toArray.size = 3 + s.length := by simp [pc, bvs_length]; omega
theorem pc_one {a : Option Addr} {n cap : Nat} (b l : Int) (s : List UInt8) : (pc (.slice a n cap) b l s).toArray.all (·.oneCell') = true := all_oneCell_toArray (fun u hu => by
  simp only [pc, List.mem_cons] at hu
  rcases hu with rfl | rfl | rfl | hu
  · rfl
  · rfl
  · rfl
  · exact bvs_one s u hu)
/-- The i-th address that bytes say. -/
def rawAd (l : List UInt8) (i : Nat) : Ad := ((beNat ((l.drop (1 + 3 * i)).take 1) : Int), (beNat ((l.drop (2 + 3 * i)).take 2) : Int))
def rawN (l : List UInt8) : Nat := beNat (l.take 1)
/-- The pointer that bytes say. -/
def rawPt (l : List UInt8) : Pt := ⟨(List.range (rawN l)).map (rawAd l), beNat ((l.drop 10).take 4), beNat ((l.drop 14).take 1), l.drop 15⟩
def RawP (l : List UInt8) (w : World) (e : Ending) (w' : World) : Prop := ((3 < rawN l ∧ e = GaveUp 2 0) ∨ (rawN l ≤ 3 ∧ ∃ x, e = .returned x ∧ PtO w' x (rawPt l) ∧ ∀ i ∈ ptBlk x, w.heap.size ≤ i)) ∧ Frm [] w w'
theorem rawAd_eq (l : List UInt8) (k : Nat) : rawAd l k = ((beNat (((l.drop (1 + 3 * k)).take 3).take 1) : Int), (beNat (((l.drop (1 + 3 * k)).take 3).drop 1) : Int)) := by
  unfold rawAd
  rw [List.take_take, List.drop_take, List.drop_drop, show 2 + 3 * k = 1 + 3 * k + 1 by omega]
  rfl
theorem pc_splice {v : Value} {b l : Int} {z s : List UInt8} (hz : z.length = s.length) : (pc v b l z).take 3 ++ bvs s ++ (pc v b l z).drop (3 + (bvs s).length) = pc v b l s := by
  have h : (bvs z).drop (bvs s).length = [] := List.drop_eq_nil_of_le (by simp [bvs_length, hz])
  rw [show 3 + (bvs s).length = (bvs s).length + 1 + 1 + 1 by omega]
  simp [pc, h]
theorem exec_copy_run {P : Program} {tS tx : TypeId} {w w' : World} {o : Oper} {a : Act} {vd vx r : Value} (d x : Operand)
    (hop : o.op = Op.call { callee := Callee.builtin Builtin.copy, args := #[d, x], argTypes := #[tS, tx] }) (hd : a.eval d = vd) (hx : a.eval x = vx) (h : (Builtin.copy_ #[tS, tx] o.type #[vd, vx]).run P w = .ok r w') :
    (execOp a.eval o).run P w = .ok (.value r) w' := by simp [execOp, hop, resolve, invoke, builtin, hd, hx, h, Result.andThen]
theorem one_slA {w : World} {x : Ad} {g : Nat} (hg : w.heap[g]? = some (.cells #[.int .i64 x.1, .int .i64 x.2] 148 (0, 0))) : SlA w (.slice (some ⟨g, 0, none⟩) 1 1) [x] [] :=
  (OwnA.of_heap (T := 148) (l := [x]) (sp := []) (by simpa [eas, ea] using hg) rfl rfl (by simp [maxLen])).sl
def RawRel (l : List UInt8) (n g4 nb nl : Nat) (w2 : World) (cv : Value) (wr : World) : Prop := ∃ (k : Nat) (a : Option Addr) (cap : Nat) (sp : List Ad), k ≤ n ∧ cv = .int .i64 k ∧ PB wr g4 (.slice a k cap) nb nl (List.replicate 32 0) ∧
  OwnA 148 wr (.slice a k cap) ((List.range k).map (rawAd l)) sp ∧ (∀ i ∈ blk (.slice a k cap), g4 < i) ∧ Frm [] w2 wr
theorem pb_store {w : World} {g : Nat} {v v' : Value} {b l : Int} {s : List UInt8} (h : PB w g v b l s) : PB (w.setCell ⟨g, 0, none⟩ v') g v' b l s := by
  unfold PB at *
  rw [heap_setCell_same _ h]
  rfl
set_option maxHeartbeats 8000000 in
theorem pointerOf_any (v : Value) (l sp : List UInt8) (w : World) (hS : SlB w v l sp) (hl : l.length = 47) : Calls Tryz.prog 237 #[v] w (RawP l w) := by
  obtain ⟨a, cap, rfl, _, _⟩ := hS.form
  obtain ⟨a1, c1, hs1, S1⟩ := slice_h BT hS 1 (by omega)
  obtain ⟨a2, c2, hs2, S2⟩ := slice_lh BT hS 10 14 (by omega) (by omega)
  obtain ⟨a3, c3, hs3, S3⟩ := slice_lh BT hS 14 15 (by omega) (by omega)
  have HS := Lib.hid hS
  have HL := Lib.hid hl
  rw [hl] at hs1 hs2 hs3 ⊢
  have H1 := Lib.hid (fun wx => hs1 1 wx rfl)
  have H2 := Lib.hid (fun wx => hs2 10 14 wx rfl rfl)
  have H3 := Lib.hid (fun wx => hs3 14 15 wx rfl rfl)
  have HS1 := Lib.hid S1
  have HS2 := Lib.hid S2
  have HS3 := Lib.hid S3
  clear hs1 hs2 hs3 S1 S2 S3 hS hl
  have hN1 := Lib.hid (fun W (f : Frm [] w W) => numberOf_any (.slice a1 1 c1) (l.take 1) _ W (HS1.out.keep f (by simp)) (by simp; omega))
  have hN2 := Lib.hid (fun W (f : Frm [] w W) => numberOf_any (.slice a2 (14 - 10) c2) ((l.drop 10).take (14 - 10)) _ W (HS2.out.keep f (by simp)) (by simp; omega))
  have hN3 := Lib.hid (fun W (f : Frm [] w W) => numberOf_any (.slice a3 (15 - 14) c3) ((l.drop 14).take (15 - 14)) _ W (HS3.out.keep f (by simp)) (by simp; omega))
  have hrN : beNat (l.take 1) = rawN l := rfl
  rw [hrN] at hN1
  have HP := Lib.hid (show rawPt l = ⟨(List.range (rawN l)).map (rawAd l), beNat ((l.drop 10).take (14 - 10)), beNat ((l.drop 14).take (15 - 14)), l.drop 15⟩ from rfl)
  generalize beNat ((l.drop 10).take (14 - 10)) = nb at *
  generalize beNat ((l.drop 14).take (15 - 14)) = nl at *
  generalize hn : rawN l = n at *
  have HN := Lib.hid hn
  clear hn hrN
  go_enter Tryz.func237, Tryz.ntmps237
  have f0 : Frm [] w (w.alloc (.cells (pc (.slice none 0 0) 0 0 (List.replicate 32 0)).toArray 54)) := (Frm.refl [] w).alloc _
  have z0 := PB.new w (.slice none 0 0) 0 0 (List.replicate 32 0)
  go_upto_region 1 with (fail)
  rw [show #[Value.slice none 0 0, .int .i64 0, .int .i64 0, .int .u8 0, .int .u8 0, .int .u8 0, .int .u8 0, .int .u8 0, .int .u8 0, .int .u8 0, .int .u8 0, .int .u8 0, .int .u8 0, .int .u8 0, .int .u8 0, .int .u8 0, .int .u8 0, .int .u8 0, .int .u8 0, .int .u8 0, .int .u8 0, .int .u8 0, .int .u8 0, .int .u8 0, .int .u8 0, .int .u8 0, .int .u8 0, .int .u8 0, .int .u8 0, .int .u8 0, .int .u8 0, .int .u8 0, .int .u8 0, .int .u8 0, .int .u8 0] = (pc (.slice none 0 0) 0 0 (List.replicate 32 0)).toArray from rfl]
  have hwlt : w.heap.size < (w.alloc (.cells (pc (.slice none 0 0) 0 0 (List.replicate 32 0)).toArray 54)).heap.size := by simp
  generalize w.alloc (.cells (pc (.slice none 0 0) 0 0 (List.replicate 32 0)).toArray 54) = W at *
  have F0 := Lib.hid f0
  have Z0 := Lib.hid z0
  clear f0 z0
  go_upto_region 2 with (first | ((with_reducible (show wpList _ _ _ (Oper.mk _ (Op.slice 31 _ _ _ _) _ _ _ _ :: _) _ _)); refine wpList_val rfl (exec_slice_hA (.tmp 6) (.const (.int .i64 1)) rfl rfl rfl BT.sl (H1.out _)) ?_) | (go_at_call 248; refine (hN1.out _ F0.out).mono ?_; rintro r w1 ⟨rfl, rfl⟩))
  go_upto_region 3 with (go_at_call 232; refine (within_any _ _ _ _).mono ?_; rintro r w2 ⟨⟨rfl, hb⟩ | ⟨rfl, hb⟩, rfl⟩; rotate_left; exact ⟨rfl, Or.inl ⟨by rw [HN.out]; omega, rfl⟩, F0.out⟩)
  rename_i K0 hK0
  have REST : ∀ V : World, Frm [] w2 V → V.heap[w2.heap.size]? = some (.cells (pc (.slice none 0 0) nb nl (List.replicate 32 0)).toArray 54 (0, 0)) →
      Exit.then K0 (bodyPost Tryz.prog Tryz.f237 (RawP l w)) Exit.normal { tmps := #[Value.slice a 47 cap, undef, Value.pointer (some { block := w.heap.size, off := 0 }), Value.int IntKind.i64 n, Value.pointer (some { block := w2.heap.size, off := 0 }), undef, Value.slice a 47 cap, Value.slice a1 1 c1, Value.int IntKind.i64 n, Value.int IntKind.i64 n, Value.tuple #[], Value.slice a 47 cap, Value.slice a2 4 c2, Value.int IntKind.i64 nb, Value.slice a 47 cap, Value.slice a3 1 c3, Value.int IntKind.i64 nl, pv (Value.slice none 0 0) nb nl (List.replicate 32 0), undef, undef, undef, undef, undef, undef, undef, undef, undef, undef, undef, undef, undef, undef, undef, undef, undef, undef, undef, undef, undef, undef, undef], defers := [] } V := by
    intro V fV pV
    refine hK0 _ _ ?_
    have FV := Lib.hid fV
    have PV := Lib.hid pV
    have hn9 : (n : Int) ≤ 3 := by omega
    clear hK0 fV pV hN1 hN2 hN3 H1 H2 H3 HS1 HS2 HS3
    go_wp2_with fail
    go_loopw [19] (RawRel l n w2.heap.size nb nl w2) (fun cv _ => n - (intOf cv).toNat)
    case atStart => exact ⟨0, none, 0, [], by omega, rfl, PV.out, OwnA.nil _ _, by simp [blk], FV.out⟩
    case round =>
      obtain ⟨k, xa, xc, xsp, hk, rfl, pb, o, nb4, f⟩ := hrel
      have PBk := Lib.hid pb
      have Ok := Lib.hid o
      have NB := Lib.hid nb4
      have Fk := Lib.hid f
      have Fw := Lib.hid (F0.out.trans f (by simp))
      clear pb o nb4 f
      by_cases hlt : k < n
      · obtain ⟨q, hq⟩ : ∃ q, q = 1 + 3 * k := ⟨_, rfl⟩
        obtain ⟨a5, c5, hs5, S5⟩ := slice_l BT HS.out q (by rw [HL.out]; omega)
        rw [HL.out] at hs5 S5
        have hlen5 : (l.drop q).length = 47 - q := by rw [List.length_drop, HL.out]
        obtain ⟨a6, c6, hs6, S6⟩ := slice_h BT S5 3 (by rw [hlen5]; omega)
        have H5 := Lib.hid (fun wx => hs5 (q : Int) wx rfl)
        have H6 := Lib.hid (fun wx => hs6 3 wx rfl)
        have hlen6 : ((l.drop q).take 3).length = 3 := by rw [List.length_take, hlen5]; omega
        have hA := Lib.hid (fun W (f : Frm [] w W) => addrOf_any (.slice a6 3 c6) ((l.drop q).take 3) _ W (S6.keep f (by simp)) hlen6)
        have hx : rawAd l k = ((beNat (((l.drop q).take 3).take 1) : Int), (beNat (((l.drop q).take 3).drop 1) : Int)) := by rw [rawAd_eq, hq]
        generalize beNat (((l.drop q).take 3).take 1) = y1 at *
        generalize beNat (((l.drop q).take 3).drop 1) = y2 at *
        have HX := Lib.hid hx
        have hq47 : q ≤ 47 := by omega
        have hk3' : (k : Int) < 3 := by omega
        have hw3 : IntKind.i64.wrap ((k : Int) * 3) = (k : Int) * 3 := IntWalk.i64_in _ (by omega)
        have hwq : IntKind.i64.wrap (1 + (k : Int) * 3) = (q : Int) := by rw [IntWalk.i64_in _ (by omega)]; omega
        have c0 := (PBk.out.gets (by simp)).c0
        have g4lt := PBk.out.lt
        have hk3 : (k : Int) < 3 := by omega
        have z0 : wr.frozen? ⟨w2.heap.size, 0, none⟩ = false := frozen_of_heap PBk.out 0
        have hlenr : ((List.range k).map (rawAd l)).length = k := by simp
        have HLR := Lib.hid hlenr
        clear hs5 hs6 S5 S6 hlen5 hlen6 hx hlenr hq
        go_upto_region 7 with (fail)
        refine wp_region_any (by kernel_rfl) ?_
        change wpAny _ _ _ _ _ _ _ (World.drew _)
        refine wpAny_take (i := 0) (oi := ⟨some 22, .fieldAddr 54 (.tmp 4) 0, _, _, _, none⟩) (v := ?_) rfl (by kernel_rfl) (by kernel_rfl) (by kernel_rfl) (fun _ _ _ h => h) (Or.inl ⟨by rfl, ?_⟩) ?_
        rotate_left
        focus (intro z; go_simp; try with_reducible rfl)
        try simp only [Act.put, List.setIfInBounds_toArray, List.set_cons_zero, List.set_cons_succ]
        refine wpAny_take (i := 2) (oi := ⟨some 24, .move (.tmp 0), _, _, _, none⟩) (v := ?_) rfl (by kernel_rfl) (by kernel_rfl) (by kernel_rfl) (fun _ _ _ h => h) (Or.inl ⟨by rfl, ?_⟩) ?_
        rotate_left
        focus (intro z; go_simp; try with_reducible rfl)
        try simp only [Act.put, List.setIfInBounds_toArray, List.set_cons_zero, List.set_cons_succ]
        refine wpAny_take (i := 3) (oi := ⟨some 25, .move (.tmp 5), _, _, _, none⟩) (v := ?_) rfl (by kernel_rfl) (by kernel_rfl) (by kernel_rfl) (fun _ _ _ h => h) (Or.inl ⟨by rfl, ?_⟩) ?_
        rotate_left
        focus (intro z; go_simp; try with_reducible rfl)
        try simp only [Act.put, List.setIfInBounds_toArray, List.set_cons_zero, List.set_cons_succ]
        refine wpAny_take (i := 4) (oi := ⟨some 26, .binOp .mul 3 (.tmp 25) (.const (.int .i64 3)) 3, _, _, _, none⟩) (v := ?_) rfl (by kernel_rfl) (by kernel_rfl) (by kernel_rfl) (fun _ _ _ h => h) (Or.inl ⟨by rfl, ?_⟩) ?_
        rotate_left
        focus (intro z; go_simp; try with_reducible rfl)
        try simp only [Act.put, List.setIfInBounds_toArray, List.set_cons_zero, List.set_cons_succ]
        refine wpAny_take (i := 5) (oi := ⟨some 27, .binOp .add 3 (.const (.int .i64 1)) (.tmp 26) 3, _, _, _, none⟩) (v := ?_) rfl (by kernel_rfl) (by kernel_rfl) (by kernel_rfl) (fun _ _ _ h => h) (Or.inl ⟨by rfl, ?_⟩) ?_
        rotate_left
        focus (intro z; go_simp; try with_reducible rfl)
        try simp only [Act.put, List.setIfInBounds_toArray, List.set_cons_zero, List.set_cons_succ]
        refine wpAny_take (i := 6) (oi := ⟨some 28, .slice 31 (.tmp 24) (some (.tmp 27)) none none, _, _, _, none⟩) rfl (by kernel_rfl) (by kernel_rfl) (by kernel_rfl) (fun _ _ _ h => h) (Or.inl ⟨by rfl, fun z => exec_slice_lA (.tmp 24) (.tmp 27) rfl rfl rfl BT.sl (H5.out z)⟩) ?_
        try simp only [Act.put, List.setIfInBounds_toArray, List.set_cons_zero, List.set_cons_succ]
        refine wpAny_take (i := 7) (oi := ⟨some 29, .slice 31 (.tmp 28) none (some (.const (.int .i64 3))) none, _, _, _, none⟩) rfl (by kernel_rfl) (by kernel_rfl) (by kernel_rfl) (fun _ _ _ h => h) (Or.inl ⟨by rfl, fun z => exec_slice_hA (.tmp 28) (.const (.int .i64 3)) rfl rfl rfl BT.sl (H6.out z)⟩) ?_
        try simp only [Act.put, List.setIfInBounds_toArray, List.set_cons_zero, List.set_cons_succ]
        refine wpAny_ready (rs := [1, 8]) (by kernel_rfl) (by simp) ?_
        refine AllReady.cons (o := ⟨some 23, .load 50 (.tmp 22), _, _, _, none⟩) rfl (fun K hK => ?_) ?_
        · go_simp
          refine hK _ _ ?_
          clear hK K
          try simp only [Act.put, List.setIfInBounds_toArray, List.set_cons_zero, List.set_cons_succ]
          refine wpAny_ready (rs := [8]) (by kernel_rfl) (by simp) ?_
          refine AllReady.cons (o := ⟨some 30, .call { callee := .value (.func 249), args := #[.tmp 29], argTypes := #[31] }, _, _, _, none⟩) rfl (fun K hK => ?_) ?_
          · go_simp
            refine (hA.out _ Fw.out.drew).mono ?_
            rintro r w9 ⟨rfl, fw⟩
            simp only [av]
            refine hK _ _ ?_
            clear hK K
            try simp only [Act.put, List.setIfInBounds_toArray, List.set_cons_zero, List.set_cons_succ]
            refine wpAny_ready (rs := [9]) (by kernel_rfl) (by simp) ?_
            refine AllReady.cons (o := ⟨some 31, .buildSlice 50 1 #[(0, .tmp 30)], _, _, _, none⟩) rfl (fun K hK => ?_) ?_
            · go_simp
              refine hK _ _ ?_
              clear hK K
              try simp only [Act.put, List.setIfInBounds_toArray, List.set_cons_zero, List.set_cons_succ]
              refine wpAny_ready (rs := [10]) (by kernel_rfl) (by simp) ?_
              refine AllReady.cons (o := ⟨some 32, .call { callee := .builtin .append, args := #[.tmp 23, .tmp 31], argTypes := #[50, 50] }, _, _, _, none⟩) rfl (fun K hK => ?_) ?_
              · refine step_append_ads AT (Ok.out.keep (((Frm.refl [] wr).drew.trans fw (by simp)).alloc _) (by simp)) (one_slA (x := ((y1 : Int), (y2 : Int))) (heap_alloc_at rfl)) (by rw [HLR.out]; simp; omega) rfl (.tmp 23) (.tmp 31) rfl rfl rfl ?_
                intro xa2 xc2 w10 xsp2 o10 f10 n10
                refine hK _ _ ?_
                clear hK K
                try simp only [Act.put, List.setIfInBounds_toArray, List.set_cons_zero, List.set_cons_succ]
                refine wpAny_take (i := 11) (oi := ⟨some 33, .fieldAddr 54 (.tmp 4) 0, _, _, _, none⟩) (v := ?_) rfl (by kernel_rfl) (by kernel_rfl) (by kernel_rfl) (fun _ _ _ h => h) (Or.inl ⟨by rfl, ?_⟩) ?_
                rotate_left
                focus (intro z; go_simp; try with_reducible rfl)
                try simp only [Act.put, List.setIfInBounds_toArray, List.set_cons_zero, List.set_cons_succ]
                refine wpAny_ready (rs := [12]) (by kernel_rfl) (by simp) ?_
                refine AllReady.cons (o := ⟨none, .store 50 (.tmp 33) (.tmp 32), _, _, _, none⟩) rfl (fun K hK => ?_) ?_
                · have pb10 : PB w10 w2.heap.size (.slice xa k xc) nb nl (List.replicate 32 0) := (PBk.out.keep (((Frm.refl [] wr).drew.trans fw (by simp)).alloc _) (by simp)).keep f10 (fun h => Nat.lt_irrefl _ (NB.out _ h))
                  have c10 := (pb10.gets (by simp)).c0
                  have z10 : w10.frozen? ⟨w2.heap.size, 0, none⟩ = false := frozen_of_heap pb10 0
                  go_simp
                  refine hK _ _ ?_
                  clear hK K
                  try simp only [Act.put, List.setIfInBounds_toArray, List.set_cons_zero, List.set_cons_succ]
                  refine wpAny_done (by kernel_rfl) ?_ _
                  have fwr : Frm [] w2 w10 := (Fk.out.trans (((Frm.refl [] wr).drew.trans fw (by simp)).alloc _) (by simp)).trans f10 (fun i hi => .inr (Nat.le_of_lt (NB.out i hi) |> fun h => Nat.le_trans (Nat.le_refl _) h))
                  have nb10 : ∀ i ∈ blk (.slice xa2 (((List.range k).map (rawAd l)).length + [((y1 : Int), (y2 : Int))].length) xc2), w2.heap.size < i := fun i hi => by
                    rcases n10 i hi with h | h
                    · exact NB.out i h
                    · have := fw.size; simp at h this; omega
                  have hsn : (List.range k).map (rawAd l) ++ [((y1 : Int), (y2 : Int))] = (List.range (k + 1)).map (rawAd l) := by rw [List.range_succ, List.map_append, List.map_cons, List.map_nil, HX.out]
                  rw [hsn] at o10
                  have PB11 := Lib.hid (pb_store (v' := .slice xa2 (k + 1) xc2) pb10)
                  have hl1 : ((List.range k).map (rawAd l)).length + [((y1 : Int), (y2 : Int))].length = k + 1 := by simp
                  rw [hl1] at o10 nb10
                  have O11 := Lib.hid (o10.keep ((Frm.refl [w2.heap.size] w10).setCell ⟨w2.heap.size, 0, none⟩ (.slice xa2 (k + 1) xc2) (by simp)) (fun i hi => by have := nb10 i hi; simp; omega))
                  have FR11 := Lib.hid (fwr.setCell ⟨w2.heap.size, 0, none⟩ (.slice xa2 (k + 1) xc2) (.inr (Nat.le_refl _)))
                  have NB11 := Lib.hid nb10
                  generalize w10.setCell ⟨w2.heap.size, 0, none⟩ (.slice xa2 (k + 1) xc2) = w11 at *
                  clear hsn hl1 nb10 fwr o10 f10 n10 pb10 c10 z10 fw c0 z0 g4lt hw3 hwq
                  go_wp2_with fail
                  go_roundw
                  case rel => exact ⟨k + 1, xa2, xc2, xsp2, by omega, by go_num, PB11.out, O11.out, NB11.out, FR11.out⟩
                  case measure => simp [intOf]; omega
                exact AllReady.nil
              exact AllReady.nil
            exact AllReady.nil
          exact AllReady.nil
        refine AllReady.cons (o := ⟨some 30, .call { callee := .value (.func 249), args := #[.tmp 29], argTypes := #[31] }, _, _, _, none⟩) rfl (fun K hK => ?_) ?_
        · go_simp
          refine (hA.out _ Fw.out.drew).mono ?_
          rintro r w9 ⟨rfl, fw⟩
          simp only [av]
          refine hK _ _ ?_
          clear hK K
          try simp only [Act.put, List.setIfInBounds_toArray, List.set_cons_zero, List.set_cons_succ]
          refine wpAny_ready (rs := [1, 9]) (by kernel_rfl) (by simp) ?_
          refine AllReady.cons (o := ⟨some 23, .load 50 (.tmp 22), _, _, _, none⟩) rfl (fun K hK => ?_) ?_
          · have c9 := fw.cell (show wr.drew.cell? _ = _ from c0) (by simp)
            go_simp
            refine hK _ _ ?_
            clear hK K
            try simp only [Act.put, List.setIfInBounds_toArray, List.set_cons_zero, List.set_cons_succ]
            refine wpAny_ready (rs := [9]) (by kernel_rfl) (by simp) ?_
            refine AllReady.cons (o := ⟨some 31, .buildSlice 50 1 #[(0, .tmp 30)], _, _, _, none⟩) rfl (fun K hK => ?_) ?_
            · go_simp
              refine hK _ _ ?_
              clear hK K
              try simp only [Act.put, List.setIfInBounds_toArray, List.set_cons_zero, List.set_cons_succ]
              refine wpAny_ready (rs := [10]) (by kernel_rfl) (by simp) ?_
              refine AllReady.cons (o := ⟨some 32, .call { callee := .builtin .append, args := #[.tmp 23, .tmp 31], argTypes := #[50, 50] }, _, _, _, none⟩) rfl (fun K hK => ?_) ?_
              · refine step_append_ads AT (Ok.out.keep (((Frm.refl [] wr).drew.trans fw (by simp)).alloc _) (by simp)) (one_slA (x := ((y1 : Int), (y2 : Int))) (heap_alloc_at rfl)) (by rw [HLR.out]; simp; omega) rfl (.tmp 23) (.tmp 31) rfl rfl rfl ?_
                intro xa2 xc2 w10 xsp2 o10 f10 n10
                refine hK _ _ ?_
                clear hK K
                try simp only [Act.put, List.setIfInBounds_toArray, List.set_cons_zero, List.set_cons_succ]
                refine wpAny_take (i := 11) (oi := ⟨some 33, .fieldAddr 54 (.tmp 4) 0, _, _, _, none⟩) (v := ?_) rfl (by kernel_rfl) (by kernel_rfl) (by kernel_rfl) (fun _ _ _ h => h) (Or.inl ⟨by rfl, ?_⟩) ?_
                rotate_left
                focus (intro z; go_simp; try with_reducible rfl)
                try simp only [Act.put, List.setIfInBounds_toArray, List.set_cons_zero, List.set_cons_succ]
                refine wpAny_ready (rs := [12]) (by kernel_rfl) (by simp) ?_
                refine AllReady.cons (o := ⟨none, .store 50 (.tmp 33) (.tmp 32), _, _, _, none⟩) rfl (fun K hK => ?_) ?_
                · have pb10 : PB w10 w2.heap.size (.slice xa k xc) nb nl (List.replicate 32 0) := (PBk.out.keep (((Frm.refl [] wr).drew.trans fw (by simp)).alloc _) (by simp)).keep f10 (fun h => Nat.lt_irrefl _ (NB.out _ h))
                  have c10 := (pb10.gets (by simp)).c0
                  have z10 : w10.frozen? ⟨w2.heap.size, 0, none⟩ = false := frozen_of_heap pb10 0
                  go_simp
                  refine hK _ _ ?_
                  clear hK K
                  try simp only [Act.put, List.setIfInBounds_toArray, List.set_cons_zero, List.set_cons_succ]
                  refine wpAny_done (by kernel_rfl) ?_ _
                  have fwr : Frm [] w2 w10 := (Fk.out.trans (((Frm.refl [] wr).drew.trans fw (by simp)).alloc _) (by simp)).trans f10 (fun i hi => .inr (Nat.le_of_lt (NB.out i hi) |> fun h => Nat.le_trans (Nat.le_refl _) h))
                  have nb10 : ∀ i ∈ blk (.slice xa2 (((List.range k).map (rawAd l)).length + [((y1 : Int), (y2 : Int))].length) xc2), w2.heap.size < i := fun i hi => by
                    rcases n10 i hi with h | h
                    · exact NB.out i h
                    · have := fw.size; simp at h this; omega
                  have hsn : (List.range k).map (rawAd l) ++ [((y1 : Int), (y2 : Int))] = (List.range (k + 1)).map (rawAd l) := by rw [List.range_succ, List.map_append, List.map_cons, List.map_nil, HX.out]
                  rw [hsn] at o10
                  have PB11 := Lib.hid (pb_store (v' := .slice xa2 (k + 1) xc2) pb10)
                  have hl1 : ((List.range k).map (rawAd l)).length + [((y1 : Int), (y2 : Int))].length = k + 1 := by simp
                  rw [hl1] at o10 nb10
                  have O11 := Lib.hid (o10.keep ((Frm.refl [w2.heap.size] w10).setCell ⟨w2.heap.size, 0, none⟩ (.slice xa2 (k + 1) xc2) (by simp)) (fun i hi => by have := nb10 i hi; simp; omega))
                  have FR11 := Lib.hid (fwr.setCell ⟨w2.heap.size, 0, none⟩ (.slice xa2 (k + 1) xc2) (.inr (Nat.le_refl _)))
                  have NB11 := Lib.hid nb10
                  generalize w10.setCell ⟨w2.heap.size, 0, none⟩ (.slice xa2 (k + 1) xc2) = w11 at *
                  clear hsn hl1 nb10 fwr o10 f10 n10 pb10 c10 z10 fw c0 z0 g4lt hw3 hwq
                  go_wp2_with fail
                  go_roundw
                  case rel => exact ⟨k + 1, xa2, xc2, xsp2, by omega, by go_num, PB11.out, O11.out, NB11.out, FR11.out⟩
                  case measure => simp [intOf]; omega
                exact AllReady.nil
              exact AllReady.nil
            exact AllReady.nil
          refine AllReady.cons (o := ⟨some 31, .buildSlice 50 1 #[(0, .tmp 30)], _, _, _, none⟩) rfl (fun K hK => ?_) ?_
          · go_simp
            refine hK _ _ ?_
            clear hK K
            try simp only [Act.put, List.setIfInBounds_toArray, List.set_cons_zero, List.set_cons_succ]
            refine wpAny_ready (rs := [1]) (by kernel_rfl) (by simp) ?_
            refine AllReady.cons (o := ⟨some 23, .load 50 (.tmp 22), _, _, _, none⟩) rfl (fun K hK => ?_) ?_
            · have c9 := fw.cell (show wr.drew.cell? _ = _ from c0) (by simp)
              have c8 := ((Frm.refl [] w9).alloc (.cells #[.int .i64 y1, .int .i64 y2] 148)).cell c9 (by simp)
              go_simp
              refine hK _ _ ?_
              clear hK K
              try simp only [Act.put, List.setIfInBounds_toArray, List.set_cons_zero, List.set_cons_succ]
              refine wpAny_ready (rs := [10]) (by kernel_rfl) (by simp) ?_
              refine AllReady.cons (o := ⟨some 32, .call { callee := .builtin .append, args := #[.tmp 23, .tmp 31], argTypes := #[50, 50] }, _, _, _, none⟩) rfl (fun K hK => ?_) ?_
              · refine step_append_ads AT (Ok.out.keep (((Frm.refl [] wr).drew.trans fw (by simp)).alloc _) (by simp)) (one_slA (x := ((y1 : Int), (y2 : Int))) (heap_alloc_at rfl)) (by rw [HLR.out]; simp; omega) rfl (.tmp 23) (.tmp 31) rfl rfl rfl ?_
                intro xa2 xc2 w10 xsp2 o10 f10 n10
                refine hK _ _ ?_
                clear hK K
                try simp only [Act.put, List.setIfInBounds_toArray, List.set_cons_zero, List.set_cons_succ]
                refine wpAny_take (i := 11) (oi := ⟨some 33, .fieldAddr 54 (.tmp 4) 0, _, _, _, none⟩) (v := ?_) rfl (by kernel_rfl) (by kernel_rfl) (by kernel_rfl) (fun _ _ _ h => h) (Or.inl ⟨by rfl, ?_⟩) ?_
                rotate_left
                focus (intro z; go_simp; try with_reducible rfl)
                try simp only [Act.put, List.setIfInBounds_toArray, List.set_cons_zero, List.set_cons_succ]
                refine wpAny_ready (rs := [12]) (by kernel_rfl) (by simp) ?_
                refine AllReady.cons (o := ⟨none, .store 50 (.tmp 33) (.tmp 32), _, _, _, none⟩) rfl (fun K hK => ?_) ?_
                · have pb10 : PB w10 w2.heap.size (.slice xa k xc) nb nl (List.replicate 32 0) := (PBk.out.keep (((Frm.refl [] wr).drew.trans fw (by simp)).alloc _) (by simp)).keep f10 (fun h => Nat.lt_irrefl _ (NB.out _ h))
                  have c10 := (pb10.gets (by simp)).c0
                  have z10 : w10.frozen? ⟨w2.heap.size, 0, none⟩ = false := frozen_of_heap pb10 0
                  go_simp
                  refine hK _ _ ?_
                  clear hK K
                  try simp only [Act.put, List.setIfInBounds_toArray, List.set_cons_zero, List.set_cons_succ]
                  refine wpAny_done (by kernel_rfl) ?_ _
                  have fwr : Frm [] w2 w10 := (Fk.out.trans (((Frm.refl [] wr).drew.trans fw (by simp)).alloc _) (by simp)).trans f10 (fun i hi => .inr (Nat.le_of_lt (NB.out i hi) |> fun h => Nat.le_trans (Nat.le_refl _) h))
                  have nb10 : ∀ i ∈ blk (.slice xa2 (((List.range k).map (rawAd l)).length + [((y1 : Int), (y2 : Int))].length) xc2), w2.heap.size < i := fun i hi => by
                    rcases n10 i hi with h | h
                    · exact NB.out i h
                    · have := fw.size; simp at h this; omega
                  have hsn : (List.range k).map (rawAd l) ++ [((y1 : Int), (y2 : Int))] = (List.range (k + 1)).map (rawAd l) := by rw [List.range_succ, List.map_append, List.map_cons, List.map_nil, HX.out]
                  rw [hsn] at o10
                  have PB11 := Lib.hid (pb_store (v' := .slice xa2 (k + 1) xc2) pb10)
                  have hl1 : ((List.range k).map (rawAd l)).length + [((y1 : Int), (y2 : Int))].length = k + 1 := by simp
                  rw [hl1] at o10 nb10
                  have O11 := Lib.hid (o10.keep ((Frm.refl [w2.heap.size] w10).setCell ⟨w2.heap.size, 0, none⟩ (.slice xa2 (k + 1) xc2) (by simp)) (fun i hi => by have := nb10 i hi; simp; omega))
                  have FR11 := Lib.hid (fwr.setCell ⟨w2.heap.size, 0, none⟩ (.slice xa2 (k + 1) xc2) (.inr (Nat.le_refl _)))
                  have NB11 := Lib.hid nb10
                  generalize w10.setCell ⟨w2.heap.size, 0, none⟩ (.slice xa2 (k + 1) xc2) = w11 at *
                  clear hsn hl1 nb10 fwr o10 f10 n10 pb10 c10 z10 fw c0 z0 g4lt hw3 hwq
                  go_wp2_with fail
                  go_roundw
                  case rel => exact ⟨k + 1, xa2, xc2, xsp2, by omega, by go_num, PB11.out, O11.out, NB11.out, FR11.out⟩
                  case measure => simp [intOf]; omega
                exact AllReady.nil
              exact AllReady.nil
            exact AllReady.nil
          exact AllReady.nil
        exact AllReady.nil
      · obtain rfl : k = n := by omega
        obtain ⟨a5, c5, hs5, S5⟩ := slice_l BT HS.out 15 (by rw [HL.out]; omega)
        rw [HL.out] at hs5 S5
        have H5 := Lib.hid (fun wx => hs5 15 wx rfl)
        have hs32 : (l.drop 15).length = 32 := by rw [List.length_drop, HL.out]
        obtain ⟨i5, hi5, hz5, hsz5, hby5⟩ := info_parts BT.info
        have hrun := copy_raw (P := Tryz.prog) (tS := 31) (tx := 31) 3 BT.sl hi5 hsz5 (show wr.drew.heap[w2.heap.size]? = _ from PBk.out) 3 (dLen := 32) (dCap := 32) (Sl.src BT.sl (S5.keep Fw.out.drew (by simp)) (bvs_one (l.drop 15))) (by rw [hs32]; omega) (by simp [pc, bvs_length, hs32])
        rw [show (pc (.slice xa k xc) nb nl (List.replicate 32 0)).take 3 ++ bvs (l.drop 15) ++ (pc (.slice xa k xc) nb nl (List.replicate 32 0)).drop (3 + (bvs (l.drop 15)).length) = pc (.slice xa k xc) nb nl (l.drop 15) from pc_splice (by rw [hs32]; rfl), hs32] at hrun
        have HR := Lib.hid hrun
        have HS32 := Lib.hid hs32
        have hsr := setRow_heap wr.drew w2.heap.size _ (pc (.slice xa k xc) nb nl (l.drop 15)).toArray _ _ (show wr.drew.heap[w2.heap.size]? = _ from PBk.out)
        have fR : Frm [w2.heap.size] wr (wr.drew.setRow w2.heap.size (pc (.slice xa k xc) nb nl (l.drop 15)).toArray) := ⟨rfl, rfl, rfl, by simp [World.setRow], fun k hk hn => setRow_other _ _ k _ (by simpa using hn)⟩
        have HSR := Lib.hid hsr
        have FR := Lib.hid fR
        clear hs5 hrun S5 hsr fR hs32 hi5 hsz5
        generalize l.drop 15 = s5 at *
        go_upto_region 9 with (fail)
        refine wp_region_any (by kernel_rfl) ?_
        change wpAny _ _ _ _ _ _ _ (World.drew _)
        refine wpAny_take (i := 0) (oi := ⟨some 35, .fieldAddr 54 (.tmp 4) 3, _, _, _, none⟩) (v := ?_) rfl (by kernel_rfl) (by kernel_rfl) (by kernel_rfl) (fun _ _ _ h => h) (Or.inl ⟨by rfl, ?_⟩) ?_
        rotate_left
        focus (intro z; go_simp; try with_reducible rfl)
        try simp only [Act.put, List.setIfInBounds_toArray, List.set_cons_zero, List.set_cons_succ]
        refine wpAny_take (i := 1) (oi := ⟨some 36, .slice 52 (.tmp 35) none none none, _, _, _, none⟩) (v := ?_) rfl (by kernel_rfl) (by kernel_rfl) (by kernel_rfl) (fun _ _ _ h => h) (Or.inl ⟨by rfl, ?_⟩) ?_
        rotate_left
        focus (intro z; go_simp; try with_reducible rfl)
        try simp only [Act.put, List.setIfInBounds_toArray, List.set_cons_zero, List.set_cons_succ]
        refine wpAny_take (i := 2) (oi := ⟨some 37, .move (.tmp 0), _, _, _, none⟩) (v := ?_) rfl (by kernel_rfl) (by kernel_rfl) (by kernel_rfl) (fun _ _ _ h => h) (Or.inl ⟨by rfl, ?_⟩) ?_
        rotate_left
        focus (intro z; go_simp; try with_reducible rfl)
        try simp only [Act.put, List.setIfInBounds_toArray, List.set_cons_zero, List.set_cons_succ]
        refine wpAny_take (i := 3) (oi := ⟨some 38, .slice 31 (.tmp 37) (some (.const (.int .i64 15))) none none, _, _, _, none⟩) rfl (by kernel_rfl) (by kernel_rfl) (by kernel_rfl) (fun _ _ _ h => h) (Or.inl ⟨by rfl, fun z => exec_slice_lA (.tmp 37) (.const (.int .i64 15)) rfl rfl rfl BT.sl (H5.out z)⟩) ?_
        try simp only [Act.put, List.setIfInBounds_toArray, List.set_cons_zero, List.set_cons_succ]
        refine wpAny_ready (rs := [4]) (by kernel_rfl) (by simp) ?_
        refine AllReady.cons (o := ⟨some 39, .call { callee := .builtin .copy, args := #[.tmp 36, .tmp 38], argTypes := #[31, 31] }, _, _, _, none⟩) rfl (fun K hK => ?_) ?_
        · refine step_val rfl (exec_copy_run (.tmp 36) (.tmp 38) rfl rfl rfl HR.out) ?_
          refine hK _ _ ?_
          clear hK K
          try simp only [Act.put, List.setIfInBounds_toArray, List.set_cons_zero, List.set_cons_succ]
          refine wpAny_done (by kernel_rfl) ?_ _
          have Z9 := Lib.hid (FR.out.heap (Fk.out.heap Z0.out (by simp)) (show w.heap.size ∉ [w2.heap.size] by simp; omega))
          generalize wr.drew.setRow w2.heap.size (pc (.slice xa k xc) nb nl s5).toArray = w9 at *
          have G9 := Lib.hid ((show PB w9 w2.heap.size (.slice xa k xc) nb nl s5 from HSR.out).gets HS32.out)
          go_upto_region 10 with (fail)
          refine wp_region_lit ?_
          refine wpList_load_g (by rfl) 54 (.tmp 4) rfl _ rfl G9.out.all ?_
          refine wpList_store_row rfl 54 (.tmp 2) (.tmp 40) rfl w.heap.size (pc (.slice xa k xc) nb nl s5).toArray rfl rfl 54 _ Z9.out (by rw [i26, pc_size, HS32.out]) (by rw [pc_size, pc_size, HS32.out]; rfl) (pc_one _ _ _) ?_
          have hfin := setRow_heap w9 w.heap.size _ (pc (.slice xa k xc) nb nl s5).toArray 54 (0, 0) Z9.out
          have ffin : Frm [w2.heap.size, w.heap.size] wr (w9.setRow w.heap.size (pc (.slice xa k xc) nb nl s5).toArray) := (FR.out.mono (by simp)).trans (L' := [w.heap.size]) ⟨rfl, rfl, rfl, by simp [World.setRow], fun k hk hn => setRow_other _ _ k _ (by simpa using hn)⟩ (by simp)
          have ofin := Ok.out.keep ffin (fun i hi => by have := NB.out i (by simpa using hi); simp; omega)
          have hww : Frm [] w (w9.setRow w.heap.size (pc (.slice xa k xc) nb nl s5).toArray) := Fw.out.trans ffin (fun i hi => by simp at hi; rcases hi with rfl | rfl; exact .inr F0.out.size; exact .inr (Nat.le_refl _))
          generalize w9.setRow w.heap.size (pc (.slice xa k xc) nb nl s5).toArray = w10 at *
          have HF := Lib.hid hfin
          have OF := Lib.hid ofin
          have HW := Lib.hid hww
          clear hfin ffin ofin hww
          go_wp2_with fail
          refine bodyPost_ret (v := pv (.slice xa k xc) nb nl s5) (results_cell_row (p := 2) rfl _ _ w.heap.size 54 _ (0, 0) _ rfl HF.out Tryz.underlying54 rfl (by rw [i26, pc_size, HS32.out])) rfl ⟨Or.inr ⟨by rw [HN.out]; omega, _, rfl, ?_, fun i hi => by rw [ptBlk_pv] at hi; have := NB.out i hi; have := F0.out.size; omega⟩, HW.out⟩
          rw [HP.out]
          have hln : ((List.range k).map (rawAd l)).length = k := by simp
          exact ⟨xa, xc, xsp, by rw [hln], by rw [hln]; exact OF.out, HS32.out⟩
        exact AllReady.nil
  clear hK0
  refine wp_region_any (by kernel_rfl) ?_
  change wpAny _ _ _ _ _ _ _ (World.drew _)
  refine wpAny_take (i := 0) (oi := ⟨some 11, .move (.tmp 0), _, _, _, none⟩) (v := ?_) rfl (by kernel_rfl) (by kernel_rfl) (by kernel_rfl) (fun _ _ _ h => h) (Or.inl ⟨by rfl, ?_⟩) ?_
  rotate_left
  focus (intro z; go_simp; try with_reducible rfl)
  try simp only [Act.put, List.setIfInBounds_toArray, List.set_cons_zero, List.set_cons_succ]
  refine wpAny_take (i := 1) (oi := ⟨some 12, .slice 31 (.tmp 11) (some (.const (.int .i64 10))) (some (.const (.int .i64 14))) none, _, _, _, none⟩) rfl (by kernel_rfl) (by kernel_rfl) (by kernel_rfl) (fun _ _ _ h => h) (Or.inl ⟨by rfl, fun z => exec_slice_lh (.tmp 11) (.const (.int .i64 10)) (.const (.int .i64 14)) rfl rfl rfl rfl BT.sl (H2.out z)⟩) ?_
  try simp only [Act.put, List.setIfInBounds_toArray, List.set_cons_zero, List.set_cons_succ]
  refine wpAny_take (i := 3) (oi := ⟨some 14, .move (.tmp 0), _, _, _, none⟩) (v := ?_) rfl (by kernel_rfl) (by kernel_rfl) (by kernel_rfl) (fun _ _ _ h => h) (Or.inl ⟨by rfl, ?_⟩) ?_
  rotate_left
  focus (intro z; go_simp; try with_reducible rfl)
  try simp only [Act.put, List.setIfInBounds_toArray, List.set_cons_zero, List.set_cons_succ]
  refine wpAny_take (i := 4) (oi := ⟨some 15, .slice 31 (.tmp 14) (some (.const (.int .i64 14))) (some (.const (.int .i64 15))) none, _, _, _, none⟩) rfl (by kernel_rfl) (by kernel_rfl) (by kernel_rfl) (fun _ _ _ h => h) (Or.inl ⟨by rfl, fun z => exec_slice_lh (.tmp 14) (.const (.int .i64 14)) (.const (.int .i64 15)) rfl rfl rfl rfl BT.sl (H3.out z)⟩) ?_
  try simp only [Act.put, List.setIfInBounds_toArray, List.set_cons_zero, List.set_cons_succ]
  refine wpAny_ready (rs := [2, 7]) (by kernel_rfl) (by simp) ?_
  refine AllReady.cons (o := ⟨some 13, .call { callee := .value (.func 248), args := #[.tmp 12], argTypes := #[31] }, _, _, _, none⟩) rfl (fun K hK => ?_) ?_
  · go_simp
    refine (hN2.out _ F0.out.drew).mono ?_
    rintro r w9 ⟨rfl, rfl⟩
    refine hK _ _ ?_
    clear hK K
    try simp only [Act.put, List.setIfInBounds_toArray, List.set_cons_zero, List.set_cons_succ]
    refine wpAny_ready (rs := [5, 7]) (by kernel_rfl) (by simp) ?_
    refine AllReady.cons (o := ⟨some 16, .call { callee := .value (.func 248), args := #[.tmp 15], argTypes := #[31] }, _, _, _, none⟩) rfl (fun K hK => ?_) ?_
    · go_simp
      refine (hN3.out _ F0.out.drew).mono ?_
      rintro r w9 ⟨rfl, rfl⟩
      refine hK _ _ ?_
      clear hK K
      try simp only [Act.put, List.setIfInBounds_toArray, List.set_cons_zero, List.set_cons_succ]
      refine wpAny_take (i := 6) (oi := ⟨some 17, .build 54 #[(1, .tmp 13), (2, .tmp 16)], _, _, _, none⟩) rfl (by kernel_rfl) (by kernel_rfl) (by kernel_rfl) (fun _ _ _ h => h) (Or.inl ⟨by rfl, fun z => exec_bld12 (.tmp 13) (.tmp 16) rfl rfl rfl z⟩) ?_
      try simp only [Act.put, List.setIfInBounds_toArray, List.set_cons_zero, List.set_cons_succ]
      refine wpAny_ready (rs := [7]) (by kernel_rfl) (by simp) ?_
      refine AllReady.cons (o := ⟨some 4, .alloc 54, _, _, _, none⟩) rfl (fun K hK => ?_) ?_
      · refine step_val rfl (exec_alloc26 rfl _) ?_
        refine hK _ _ ?_
        clear hK K
        try simp only [Act.put, List.setIfInBounds_toArray, List.set_cons_zero, List.set_cons_succ]
        refine wpAny_ready (rs := [8]) (by kernel_rfl) (by simp) ?_
        refine AllReady.cons (o := ⟨none, .store 54 (.tmp 4) (.tmp 17), _, _, _, none⟩) rfl (fun K hK => ?_) ?_
        · rw [if_pos (by rfl)]
          refine wp_store_row 54 (.tmp 4) (.tmp 17) rfl w2.heap.size (pc (.slice none 0 0) nb nl (List.replicate 32 0)).toArray rfl rfl 54 (pc (.slice none 0 0) 0 0 (List.replicate 32 0)).toArray (heap_alloc_new w2.drew _) (by rw [i26, pc_size]; rfl) (by rw [pc_size, pc_size]) (pc_one _ _ _) ?_
          refine hK _ _ ?_
          clear hK K
          try simp only [Act.put, List.setIfInBounds_toArray, List.set_cons_zero, List.set_cons_succ]
          refine wpAny_done (by kernel_rfl) ?_ _
          exact REST _ (((Frm.refl [] w2).drew.alloc _).trans (L' := [w2.heap.size]) ⟨rfl, rfl, rfl, by simp [World.setRow], fun k hk hn => setRow_other _ _ k _ (by simpa using hn)⟩ (fun i hi => by simp at hi; subst hi; exact .inr (Nat.le_refl _))) (setRow_heap _ _ _ _ _ _ (heap_alloc_new w2.drew _))
        exact AllReady.nil
      exact AllReady.nil
    refine AllReady.cons (o := ⟨some 4, .alloc 54, _, _, _, none⟩) rfl (fun K hK => ?_) ?_
    · refine step_val rfl (exec_alloc26 rfl _) ?_
      refine hK _ _ ?_
      clear hK K
      try simp only [Act.put, List.setIfInBounds_toArray, List.set_cons_zero, List.set_cons_succ]
      refine wpAny_ready (rs := [5]) (by kernel_rfl) (by simp) ?_
      refine AllReady.cons (o := ⟨some 16, .call { callee := .value (.func 248), args := #[.tmp 15], argTypes := #[31] }, _, _, _, none⟩) rfl (fun K hK => ?_) ?_
      · go_simp
        refine (hN3.out _ (F0.out.drew.alloc _)).mono ?_
        rintro r w9 ⟨rfl, rfl⟩
        refine hK _ _ ?_
        clear hK K
        try simp only [Act.put, List.setIfInBounds_toArray, List.set_cons_zero, List.set_cons_succ]
        refine wpAny_take (i := 6) (oi := ⟨some 17, .build 54 #[(1, .tmp 13), (2, .tmp 16)], _, _, _, none⟩) rfl (by kernel_rfl) (by kernel_rfl) (by kernel_rfl) (fun _ _ _ h => h) (Or.inl ⟨by rfl, fun z => exec_bld12 (.tmp 13) (.tmp 16) rfl rfl rfl z⟩) ?_
        try simp only [Act.put, List.setIfInBounds_toArray, List.set_cons_zero, List.set_cons_succ]
        refine wpAny_ready (rs := [8]) (by kernel_rfl) (by simp) ?_
        refine AllReady.cons (o := ⟨none, .store 54 (.tmp 4) (.tmp 17), _, _, _, none⟩) rfl (fun K hK => ?_) ?_
        · rw [if_pos (by rfl)]
          refine wp_store_row 54 (.tmp 4) (.tmp 17) rfl w2.heap.size (pc (.slice none 0 0) nb nl (List.replicate 32 0)).toArray rfl rfl 54 (pc (.slice none 0 0) 0 0 (List.replicate 32 0)).toArray (heap_alloc_new w2.drew _) (by rw [i26, pc_size]; rfl) (by rw [pc_size, pc_size]) (pc_one _ _ _) ?_
          refine hK _ _ ?_
          clear hK K
          try simp only [Act.put, List.setIfInBounds_toArray, List.set_cons_zero, List.set_cons_succ]
          refine wpAny_done (by kernel_rfl) ?_ _
          exact REST _ (((Frm.refl [] w2).drew.alloc _).trans (L' := [w2.heap.size]) ⟨rfl, rfl, rfl, by simp [World.setRow], fun k hk hn => setRow_other _ _ k _ (by simpa using hn)⟩ (fun i hi => by simp at hi; subst hi; exact .inr (Nat.le_refl _))) (setRow_heap _ _ _ _ _ _ (heap_alloc_new w2.drew _))
        exact AllReady.nil
      exact AllReady.nil
    exact AllReady.nil
  refine AllReady.cons (o := ⟨some 4, .alloc 54, _, _, _, none⟩) rfl (fun K hK => ?_) ?_
  · refine step_val rfl (exec_alloc26 rfl _) ?_
    refine hK _ _ ?_
    clear hK K
    try simp only [Act.put, List.setIfInBounds_toArray, List.set_cons_zero, List.set_cons_succ]
    refine wpAny_ready (rs := [2]) (by kernel_rfl) (by simp) ?_
    refine AllReady.cons (o := ⟨some 13, .call { callee := .value (.func 248), args := #[.tmp 12], argTypes := #[31] }, _, _, _, none⟩) rfl (fun K hK => ?_) ?_
    · go_simp
      refine (hN2.out _ (F0.out.drew.alloc _)).mono ?_
      rintro r w9 ⟨rfl, rfl⟩
      refine hK _ _ ?_
      clear hK K
      try simp only [Act.put, List.setIfInBounds_toArray, List.set_cons_zero, List.set_cons_succ]
      refine wpAny_ready (rs := [5]) (by kernel_rfl) (by simp) ?_
      refine AllReady.cons (o := ⟨some 16, .call { callee := .value (.func 248), args := #[.tmp 15], argTypes := #[31] }, _, _, _, none⟩) rfl (fun K hK => ?_) ?_
      · go_simp
        refine (hN3.out _ (F0.out.drew.alloc _)).mono ?_
        rintro r w9 ⟨rfl, rfl⟩
        refine hK _ _ ?_
        clear hK K
        try simp only [Act.put, List.setIfInBounds_toArray, List.set_cons_zero, List.set_cons_succ]
        refine wpAny_take (i := 6) (oi := ⟨some 17, .build 54 #[(1, .tmp 13), (2, .tmp 16)], _, _, _, none⟩) rfl (by kernel_rfl) (by kernel_rfl) (by kernel_rfl) (fun _ _ _ h => h) (Or.inl ⟨by rfl, fun z => exec_bld12 (.tmp 13) (.tmp 16) rfl rfl rfl z⟩) ?_
        try simp only [Act.put, List.setIfInBounds_toArray, List.set_cons_zero, List.set_cons_succ]
        refine wpAny_ready (rs := [8]) (by kernel_rfl) (by simp) ?_
        refine AllReady.cons (o := ⟨none, .store 54 (.tmp 4) (.tmp 17), _, _, _, none⟩) rfl (fun K hK => ?_) ?_
        · rw [if_pos (by rfl)]
          refine wp_store_row 54 (.tmp 4) (.tmp 17) rfl w2.heap.size (pc (.slice none 0 0) nb nl (List.replicate 32 0)).toArray rfl rfl 54 (pc (.slice none 0 0) 0 0 (List.replicate 32 0)).toArray (heap_alloc_new w2.drew _) (by rw [i26, pc_size]; rfl) (by rw [pc_size, pc_size]) (pc_one _ _ _) ?_
          refine hK _ _ ?_
          clear hK K
          try simp only [Act.put, List.setIfInBounds_toArray, List.set_cons_zero, List.set_cons_succ]
          refine wpAny_done (by kernel_rfl) ?_ _
          exact REST _ (((Frm.refl [] w2).drew.alloc _).trans (L' := [w2.heap.size]) ⟨rfl, rfl, rfl, by simp [World.setRow], fun k hk hn => setRow_other _ _ k _ (by simpa using hn)⟩ (fun i hi => by simp at hi; subst hi; exact .inr (Nat.le_refl _))) (setRow_heap _ _ _ _ _ _ (heap_alloc_new w2.drew _))
        exact AllReady.nil
      exact AllReady.nil
    exact AllReady.nil
  exact AllReady.nil
end Go.Proofs.YtljhanhipmnioaaGreat.Pt

namespace Go.Proofs.YtljhanhipmnioaaGreat.Pt
open Go.RowKit
set_option linter.unusedVariables false
set_option linter.unusedSimpArgs false
set_option maxRecDepth 100000

theorem lst_slB {w : World} {cs : Array Value} {l : List UInt8} {g n : Nat} (hg : w.heap[g]? = some (.cells cs 5 (0, 0))) (hc : cs = (bvs l).toArray) (hn : n = l.length) (hl : l.length ≤ 1000) : SlB w (.slice (some ⟨g, 0, none⟩) n n) l [] := by
  subst hc
  subst hn
  exact (OwnB.of_heap (T := 5) (l := l) (sp := []) (by simpa using hg) rfl (by simp) (by simp [maxLen]; omega)).sl
end Go.Proofs.YtljhanhipmnioaaGreat.Pt

namespace Go.Proofs.YtljhanhipmnioaaGreat.Pt
open Go.RowKit
set_option linter.unusedVariables false
set_option linter.unusedSimpArgs false
set_option maxRecDepth 100000

/-- Bytes that are a pointer's. -/
def goodB (l : List UInt8) : Bool := (l.length == 47) && decide (rawN l ≤ 3) && mayB (rawPt l) && (enc (rawPt l) == l)
theorem goodB_iff (l : List UInt8) : goodB l = true ↔ l.length = 47 ∧ rawN l ≤ 3 ∧ may (rawPt l) ∧ enc (rawPt l) = l := by
  simp only [goodB, Bool.and_eq_true, beq_iff_eq, decide_eq_true_eq, mayB_iff, and_assoc]
def readPt (l : List UInt8) : Pt := if goodB l = true then rawPt l else zeroPt
def readE (l : List UInt8) : Int := if goodB l = true then 0 else if l.length = 47 then 2 else 4
def readAt (l : List UInt8) : Int := if goodB l = true then 0 else if l.length = 47 then 0 else if l.length < 47 then l.length else 47
def Read1 (l : List UInt8) (g : Nat) (w : World) (e : Ending) (w' : World) : Prop :=
  (goodB l = false ∧ e = GaveUp (readE l) (readAt l) ∧ Frm [] w w') ∨
  (goodB l = true ∧ e = .returned (.tuple #[]) ∧ Frm [g] w w' ∧ ∃ a cap sp, PB w' g (.slice a (rawPt l).ads.length cap) (rawPt l).b (rawPt l).l (rawPt l).s ∧ OwnA 148 w' (.slice a (rawPt l).ads.length cap) (rawPt l).ads sp ∧ ∀ i ∈ blk (.slice a (rawPt l).ads.length cap), w.heap.size ≤ i)
theorem read1_no {l : List UInt8} {g : Nat} {w w' : World} (h : l.length = 47) (hn : ¬ (rawN l ≤ 3 ∧ may (rawPt l) ∧ enc (rawPt l) = l)) (f : Frm [] w w') : Read1 l g w (GaveUp 2 0) w' := by
  have hg : goodB l = false := by
    cases hb : goodB l with
    | false => rfl
    | true => exact absurd ((goodB_iff l).1 hb).2 hn
  exact Or.inl ⟨hg, by simp [readE, readAt, hg, h], f⟩
theorem read1_len {l : List UInt8} {g : Nat} {w w' : World} {n : Int} (h : l.length ≠ 47) (hn : n = if l.length < 47 then (l.length : Int) else 47) (f : Frm [] w w') : Read1 l g w (GaveUp 4 n) w' := by
  have hg : goodB l = false := by
    cases hb : goodB l with
    | false => rfl
    | true => exact absurd ((goodB_iff l).1 hb).1 h
  exact Or.inl ⟨hg, by simp [readE, readAt, hg, h, hn], f⟩
/-- A pointer is stored into a block that was just made. -/
theorem wpList_store_new {ops : Array Oper} {rest : List Oper} {op : Oper} {a : Act} {W : World} {Q : Exit → Act → World → Prop} (hgd : op.guard = none) (x y : Operand) (ho : op.op = .store 54 x y) {Z : Array Value} (hZ : Z.size = 35)
    {v : Option Addr} {n cap : Nat} {b l : Int} {s : List UInt8} (hs : s.length = 32) (hx : a.eval x = .pointer (some ⟨W.heap.size, 0, none⟩)) (hy : a.eval y = pv (.slice v n cap) b l s)
    (k : wpList Tryz.prog ops Q rest (a.put op.dst undef) (W.alloc (.cells (pc (.slice v n cap) b l s).toArray 54))) : wpList Tryz.prog ops Q (op :: rest) a (W.alloc (.cells Z 54)) := by
  refine wpList_store_row hgd 54 x y ho W.heap.size (pc (.slice v n cap) b l s).toArray hx hy 54 Z (heap_alloc_new _ _) (by rw [i26, pc_size, hs]) (by rw [pc_size, hs, hZ]) (pc_one _ _ _) ?_
  rw [World.setRow_alloc_new]
  exact k
set_option maxHeartbeats 8000000 in
theorem readStep_any (g0 g1 : Nat) (v : Value) (l sp : List UInt8) (w : World) (hS : SlB w v l sp) (h0 : w.heap[g0]? = some (.cells #[v] 31 (0, 0))) (h1 : PB w g1 (.slice none 0 0) 0 0 (List.replicate 32 0)) (hl : l.length ≤ 1000000) :
    Calls Tryz.prog 236 #[.pointer (some ⟨g0, 0, none⟩), .pointer (some ⟨g1, 0, none⟩)] w (Read1 l g1 w) := by
  obtain ⟨a, cap, rfl, _, _⟩ := hS.form
  have c0 : w.cell? ⟨g0, 0, none⟩ = some (.slice a l.length cap) := by rw [cell_of_heap h0]; rfl
  have H0 := Lib.hid h0
  have H1 := Lib.hid h1
  have HS := Lib.hid hS
  have g1lt := h1.lt
  clear h0 h1 hS
  by_cases h47 : l.length = 47
  · have H47 := Lib.hid h47
    have hpo := Lib.hid (fun W (f : Frm [] w W) => pointerOf_any (.slice a l.length cap) l sp W (HS.out.keep f (by simp)) h47)
    rw [h47] at c0 HS hpo
    clear hl
    go_enter Tryz.func236, Tryz.ntmps236
    go_upto_region 1 with (go_at_call 233; refine (demand_yes _ _ _).mono ?_; rintro r w1 ⟨rfl, rfl⟩)
    go_upto_region 2 with (first | (go_at_call 237; refine (hpo.out _ (Frm.refl [] _)).mono ?_; rintro r w2 ⟨⟨hn, rfl⟩ | ⟨hn, x, rfl, hx, hfr⟩, f2⟩; exact ⟨rfl, read1_no H47.out (fun h => by have := h.1; omega) f2⟩; obtain ⟨xa, xc, xsp, rfl, sx, zx⟩ := hx) | ((with_reducible (show wpList _ _ _ (Oper.mk _ (Op.store 54 _ _) _ _ _ _ :: _) _ _)); refine wpList_store_new rfl (.tmp 2) (.tmp 11) rfl rfl zx rfl rfl ?_))
    rw [ptBlk_pv] at hfr
    have HFR := Lib.hid hfr
    have HN := Lib.hid hn
    have F2 := Lib.hid f2
    have B3 := Lib.hid (PB.new w2 (.slice xa (rawPt l).ads.length xc) (rawPt l).b (rawPt l).l (rawPt l).s)
    have F3 := Lib.hid (f2.alloc (.cells (pc (.slice xa (rawPt l).ads.length xc) (rawPt l).b (rawPt l).l (rawPt l).s).toArray 54))
    have hlen : (rawPt l).ads.length ≤ 3 := by simp [rawPt]; omega
    have HLN := Lib.hid hlen
    have SX := Lib.hid (sx.keep ((Frm.refl [] w2).alloc (.cells (pc (.slice xa (rawPt l).ads.length xc) (rawPt l).b (rawPt l).l (rawPt l).s).toArray 54)) (by simp))
    have ZX := Lib.hid zx
    have hlt2 : w2.heap.size < (w2.alloc (.cells (pc (.slice xa (rawPt l).ads.length xc) (rawPt l).b (rawPt l).l (rawPt l).s).toArray 54)).heap.size := by simp
    clear hn f2 sx zx hpo hlen hfr
    generalize w2.alloc (.cells (pc (.slice xa (rawPt l).ads.length xc) (rawPt l).b (rawPt l).l (rawPt l).s).toArray 54) = V at *
    have hg1 : g1 < w2.heap.size := Nat.lt_of_lt_of_le g1lt F2.out.size
    have hpv := fun W (f : Frm [] V W) => (⟨xa, xc, xsp, rfl, (SX.out.keep f (by simp)).sl, ZX.out⟩ : PtV W (pv (.slice xa (rawPt l).ads.length xc) (rawPt l).b (rawPt l).l (rawPt l).s) (rawPt l))
    have HPV := Lib.hid hpv
    have hdm := Lib.hid (fun W (f : Frm [] V W) => demandMay_any _ (rawPt l) W (HPV.out W f) (by have := HLN.out; omega))
    have hfo := Lib.hid (fun (hm : may (rawPt l)) W (f : Frm [] V W) => show Calls Tryz.prog 234 #[pv (.slice xa (rawPt l).ads.length xc) (rawPt l).b (rawPt l).l (rawPt l).s] W (Told W (enc (rawPt l))) from by
      obtain ⟨L, b, lv, e1, e2, h3, hb, hb4, hlv⟩ := may_nat hm
      rw [e2]
      refine fieldsOf_any _ L b lv (rawPt l).s W ?_ h3 (fun y hy => by have := hb y hy; omega) (by omega) (by omega)
      have := HPV.out W f
      rw [← e1]
      exact this)
    have c3 := F3.out.cell c0 (by simp)
    clear hpv c0
    generalize hq : rawPt l = p at *
    have HQ := Lib.hid hq
    clear hq
    generalize hg2 : w2.heap.size = g2 at *
    clear hg2
    go_upto_region 3 with (first | ((with_reducible (show wpList _ _ _ (Oper.mk _ (Op.load 54 _) _ _ _ _ :: _) _ _)); refine wpList_load_g (by rfl) 54 _ rfl _ rfl (B3.out.gets ZX.out).all ?_) | (go_at_call 222; refine (hdm.out _ (Frm.refl [] V)).mono ?_; rintro r w4 ⟨⟨rfl, hm⟩ | ⟨rfl, hm⟩, f4⟩; rotate_left; exact ⟨rfl, read1_no H47.out (fun h => hm (by rw [← HQ.out]; exact h.2.1)) (F3.out.trans f4 (by simp))⟩))
    have HM := Lib.hid hm
    have F4 := Lib.hid (F3.out.trans f4 (by simp))
    have FV := Lib.hid f4
    have B4 := Lib.hid (B3.out.keep f4 (by simp))
    have c4 := f4.cell c3 (by simp)
    have C4 := Lib.hid c4
    clear c3 f4 hm hdm c4
    refine wp_region_held_drew (S := fun z => Frm [] w4 z) (by kernel_rfl) ((Frm.refl [] w4).drew) (fun hHeld => ?_)
    refine wpAnyH_take (i := 0) (oi := ⟨some 14, .load 54 (.tmp 2), _, _, _, none⟩) rfl (by kernel_rfl) (by kernel_rfl) (by kernel_rfl) (fun _ _ _ h => h) (yieldsIf_ld (by rfl) 54 _ rfl _ rfl (fun z hSw => ((B4.out.keep hSw (by simp)).gets ZX.out).all)) hHeld ?_
    try simp only [Act.put, List.setIfInBounds_toArray, List.set_cons_zero, List.set_cons_succ]
    refine wpAnyH_take (i := 2) (oi := ⟨some 16, .load 31 (.tmp 0), _, _, _, none⟩) (v := ?_) rfl (by kernel_rfl) (by kernel_rfl) (by kernel_rfl) (fun _ _ _ h => h) (Or.inl ⟨by rfl, ?_⟩) hHeld ?_
    rotate_left
    focus (intro z hSw; have c5 := hSw.cell C4.out (by simp); clear hSw; go_simp; try with_reducible rfl)
    try simp only [Act.put, List.setIfInBounds_toArray, List.set_cons_zero, List.set_cons_succ]
    refine wpAnyH_ready (rs := [1]) (by kernel_rfl) (by simp) ?_
    refine AllReadyH.cons (o := ⟨some 15, .call { callee := .value (.func 234), args := #[.tmp 14], argTypes := #[54] }, _, _, _, none⟩) rfl (fun K hK => ?_) AllReadyH.nil
    go_simp
    refine (hfo.out HM.out _ (FV.out.trans hHeld (by simp))).mono ?_
    rintro r w5 ⟨a5, cap5, sp5, rfl, o5, f5, n5⟩
    have O5 := Lib.hid o5
    generalize hen : enc p = le at *
    have HEN := Lib.hid hen
    clear hen
    refine hK.out _ _ ?_ (fun hNext => ?_)
    · exact hHeld.trans f5 (by simp)
    clear hK K hHeld
    have hHeld := hNext
    clear hNext
    try simp only [Act.put, List.setIfInBounds_toArray, List.set_cons_zero, List.set_cons_succ]
    refine wpAnyH_ready (rs := [3]) (by kernel_rfl) (by simp) ?_
    refine AllReadyH.cons (o := ⟨some 17, .call { callee := .value (.func 151), args := #[.tmp 15, .tmp 16], argTypes := #[31, 31] }, _, _, _, none⟩) rfl (fun K hK => ?_) AllReadyH.nil
    go_simp
    refine (bytesEqual_any _ _ le sp5 l sp _ O5.out.sl (HS.out.keep (F4.out.trans hHeld (by simp)) (by simp))).mono ?_
    rintro r w6 ⟨rfl, rfl⟩
    refine hK.out _ _ ?_ (fun hNext => ?_)
    · exact hHeld
    clear hK K hHeld
    have hHeld := hNext
    clear hNext
    try simp only [Act.put, List.setIfInBounds_toArray, List.set_cons_zero, List.set_cons_succ]
    refine wpAnyH_ready (rs := [4]) (by kernel_rfl) (by simp) ?_
    refine AllReadyH.cons (o := ⟨some 18, .call { callee := .value (.func 233), args := #[.tmp 17, .const (.int .i64 2), .const (.int .i64 0)], argTypes := #[4, 32, 3] }, _, _, _, none⟩) rfl (fun K hK => ?_) AllReadyH.nil
    go_simp
    refine (demand_any _ _).mono ?_
    rintro r w7 ⟨⟨rfl, hb⟩ | ⟨rfl, hb⟩, rfl⟩
    rotate_left
    exact ⟨rfl, read1_no H47.out (fun h => hb (by have := h.2.2; rw [HQ.out, HEN.out] at this; simp [this])) (F4.out.trans hHeld (by simp))⟩
    refine hK.out _ _ ?_ (fun hNext => ?_)
    · exact hHeld
    clear hK K hHeld
    have hHeld := hNext
    clear hNext
    try simp only [Act.put, List.setIfInBounds_toArray, List.set_cons_zero, List.set_cons_succ]
    refine wpAnyH_done (by kernel_rfl) ?_ _
    have FX := Lib.hid hHeld
    have G7 := Lib.hid ((B4.out.keep hHeld (by simp)).gets ZX.out)
    have Z7 := Lib.hid (H1.out.keep (F4.out.trans hHeld (by simp)) (by simp))
    have HB := Lib.hid hb
    clear hHeld hb hfo
    go_upto_region 4 with (fail)
    refine wp_region_lit ?_
    refine wpList_load_g (by rfl) 54 (.tmp 2) rfl _ rfl G7.out.all ?_
    refine wpList_store_row rfl 54 (.tmp 1) (.tmp 19) rfl g1 (pc (.slice xa p.ads.length xc) p.b p.l p.s).toArray rfl rfl 54 _ Z7.out (by rw [i26, pc_size, ZX.out]) (by rw [pc_size, pc_size, ZX.out]; rfl) (pc_one _ _ _) ?_
    have hfin := setRow_heap w7 g1 _ (pc (.slice xa p.ads.length xc) p.b p.l p.s).toArray 54 (0, 0) Z7.out
    have ffin : Frm [g1] w7 (w7.setRow g1 (pc (.slice xa p.ads.length xc) p.b p.l p.s).toArray) := ⟨rfl, rfl, rfl, by simp [World.setRow], fun k hk hn => setRow_other _ _ k _ (by simpa using hn)⟩
    have sfin := (SX.out.keep (FV.out.trans FX.out (by simp)) (by simp)).keep ffin (fun i hi => by have := HFR.out i hi; simp; omega)
    have fall : Frm [g1] w1 (w7.setRow g1 (pc (.slice xa p.ads.length xc) p.b p.l p.s).toArray) := ((F4.out.trans FX.out (by simp)).mono (by simp)).trans ffin (by simp)
    generalize w7.setRow g1 (pc (.slice xa p.ads.length xc) p.b p.l p.s).toArray = w8 at *
    have HF := Lib.hid hfin
    have SF := Lib.hid sfin
    have FA := Lib.hid fall
    clear hfin sfin ffin fall
    go_wp2_with fail
    go_end0
    have hgood : goodB l = true := (goodB_iff l).2 ⟨H47.out, HN.out, by rw [HQ.out]; exact HM.out, by rw [HQ.out, HEN.out]; have := HB.out; simpa using this⟩
    refine Or.inr ⟨hgood, rfl, FA.out, xa, xc, xsp, ?_, ?_, ?_⟩
    · rw [HQ.out]; exact HF.out
    · rw [HQ.out]; exact SF.out
    · rw [HQ.out]; exact HFR.out
  · have H47 := Lib.hid h47
    have hd : ((l.length : Int) == 47) = false := by simp; omega
    have hne : ¬ ((l.length : Int) = 47) := by omega
    by_cases hlt : l.length < 47
    · go_enter Tryz.func236, Tryz.ntmps236
      go_wp2_with (go_at_call 233; refine (demand_no _ _ _).mono ?_; rintro r w1 ⟨rfl, rfl⟩; exact ⟨rfl, read1_len H47.out (by first | (simp [hlt]; done) | (simp [hlt]; omega)) (Frm.refl _ _)⟩)
    · go_enter Tryz.func236, Tryz.ntmps236
      go_wp2_with (go_at_call 233; refine (demand_no _ _ _).mono ?_; rintro r w1 ⟨rfl, rfl⟩; exact ⟨rfl, read1_len H47.out (by first | (simp [hlt]; done) | (simp [hlt]; omega)) (Frm.refl _ _)⟩)
end Go.Proofs.YtljhanhipmnioaaGreat.Pt

namespace Go.Proofs.YtljhanhipmnioaaGreat.Pt
open Go.RowKit
set_option linter.unusedVariables false
set_option linter.unusedSimpArgs false
set_option maxRecDepth 100000

set_option maxHeartbeats 1000000 in
theorem faultOf_retL (L : List Nat) (K : FuncId) (cap : Array Value) (R : World → Prop) (w : World) (hL : w.heap.size ∉ L)
    (hcf : ∀ w, (callFunc K cap).run Tryz.prog w = .ok (.enter K cap) w) (hstep : ∀ w1, Frm [] w w1 → w.heap.size < w1.heap.size → Calls Tryz.prog K cap w1 fun e w' => e = .returned (.tuple #[]) ∧ Frm L w1 w' ∧ R w') :
    Calls Tryz.prog 220 #[.func (.func K) #[] cap] w (Through R w) := by
  have HS := Lib.hid hstep
  clear hstep
  have hmf : ∀ (fn : Fn) (first cap : Array Value) (w : World), (Instr.makeFunc fn first cap).run Tryz.prog w = .ok (.func fn first cap) w := fun _ _ _ _ => rfl
  go_enter_defers Tryz.func220, Tryz.ntmps220
  go_wp2_with fail
  have hn := heap_alloc_new w (.cells #[.int .i64 0, .int .i64 0] 44)
  refine (HS.out _ ((Frm.refl [] _).alloc _) (by simp)).mono ?_
  rintro e w1 ⟨rfl, f1, hr⟩
  have hb := f1.heap hn hL
  have c0 : w1.cell? ⟨w.heap.size, 0, none⟩ = some (.int .i64 0) := by rw [cell_of_heap hb]; rfl
  have c1 : w1.cell? ⟨w.heap.size, 1, none⟩ = some (.int .i64 0) := by rw [cell_of_heap hb]; rfl
  have z0 := frozen_of_heap hb 0
  have z1 := frozen_of_heap hb 1
  have hb2 : ((w1.setCell ⟨w.heap.size, 0, none⟩ (.int .i64 0)).setCell ⟨w.heap.size, 1, none⟩ (.int .i64 0)).heap[w.heap.size]? = some (.cells #[.int .i64 0, .int .i64 0] 44 (0, 0)) := by rw [heap_setCell_same _ (heap_setCell_same _ hb)]; rfl
  have f2 : Frm [w.heap.size] w1 ((w1.setCell ⟨w.heap.size, 0, none⟩ (.int .i64 0)).setCell ⟨w.heap.size, 1, none⟩ (.int .i64 0)) := ((Frm.refl _ w1).setCell _ _ (by simp)).setCell _ _ (by simp)
  have HB2 := Lib.hid hb2
  have F2 := Lib.hid f2
  have HRR := Lib.hid hr
  clear hn hb hb2 f2 f1 hr HS
  go_wp2
  generalize (w1.setCell ⟨w.heap.size, 0, none⟩ (.int .i64 0)).setCell ⟨w.heap.size, 1, none⟩ (.int .i64 0) = W2 at *
  refine leaves_cons (f := 231) (args := #[.pointer (some ⟨w.heap.size, 0, none⟩)]) (by simp) (by simp [go_sem]) ?_
  refine (catch_idle ⟨w.heap.size, 0, none⟩ _).mono ?_
  rintro e u' w3 ⟨rfl, rfl, f3⟩
  have hb3 := f3.heap HB2.out (by simp)
  have k0 : w3.cell? ⟨w.heap.size, 0, none⟩ = some (.int .i64 0) := by rw [cell_of_heap hb3]; rfl
  have k1 : w3.cell? ⟨w.heap.size, 1, none⟩ = some (.int .i64 0) := by rw [cell_of_heap hb3]; rfl
  simp [Leaves, settle, results, Tryz.results220, go_sem, k0, k1]
  exact ⟨rfl, w1, HRR.out, F2.out.trans f3 (by simp)⟩
/-- Results that lie in two cells. -/
theorem results_two {P : Program} {fn : Func} {p q : Tmp} {t1 t2 : TypeId} (h : fn.results = #[.cell p t1, .cell q t2]) (tmps : Array Value) (w : World) {a1 a2 : Addr} {v1 v2 : Value} (h1 : tmps.getD p undef = .pointer (some a1)) (h2 : tmps.getD q undef = .pointer (some a2))
    (k1 : (loadVar t1 a1).run P w = .ok v1 w) (k2 : (loadVar t2 a2).run P w = .ok v2 w) : (results fn tmps).run P w = .ok (.tuple #[v1, v2]) w := by
  have h1' : tmps[p]?.getD undef = .pointer (some a1) := by simpa using h1
  have h2' : tmps[q]?.getD undef = .pointer (some a2) := by simpa using h2
  simp [results, h, h1', h2', asAddr, k1, k2, Result.andThen]
def zs : List UInt8 := List.replicate 32 0
theorem zs_len : zs.length = 32 := rfl
theorem exec_alloc26z {o : Oper} {a : Act} (hop : o.op = Op.alloc 54) (W : World) : (execOp a.eval o).run Tryz.prog W = .ok (.value (.pointer (some ⟨W.heap.size, 0, none⟩))) (W.alloc (.cells (pc (.slice none 0 0) 0 0 zs).toArray 54)) := exec_alloc26 hop W
def ReadP (l : List UInt8) (w : World) (e : Ending) (w' : World) : Prop := ∃ x, e = .returned (.tuple #[x, .agg #[.int .i64 (readE l), .int .i64 (readAt l)]]) ∧ PtV w' x (readPt l) ∧ Frm [] w w'
theorem pto_zero (w : World) : PtO w (pv (.slice none 0 0) 0 0 (List.replicate 32 0)) zeroPt := ⟨none, 0, [], rfl, OwnA.nil _ _, rfl⟩
/-- The same, and the list of what is told is new, and its own. -/
def ReadO (l : List UInt8) (w : World) (e : Ending) (w' : World) : Prop := ∃ x, e = .returned (.tuple #[x, .agg #[.int .i64 (readE l), .int .i64 (readAt l)]]) ∧ PtO w' x (readPt l) ∧ Frm [] w w' ∧ ∀ i ∈ ptBlk x, w.heap.size ≤ i
theorem d40 : (Tryz.prog.info? 44).map (·.size) = some 2 := by kernel_rfl
set_option maxHeartbeats 8000000 in
theorem ReadO_any (v : Value) (l sp : List UInt8) (w : World) (hS : SlB w v l sp) (hl : l.length ≤ 1000000) : Calls Tryz.prog 226 #[v] w (ReadO l w) := by
  obtain ⟨a, cap, rfl, _, _⟩ := hS.form
  have HS := Lib.hid hS
  have HL := Lib.hid hl
  clear hl hS
  have hmf : ∀ (fn : Fn) (first cap : Array Value) (w : World), (Instr.makeFunc fn first cap).run Tryz.prog w = .ok (.func fn first cap) w := fun _ _ _ _ => rfl
  go_enter Tryz.func226, Tryz.ntmps226
  go_upto_region 2 with ((with_reducible (show wpList _ _ _ (Oper.mk _ (Op.alloc 54) _ _ _ _ :: _) _ _)); refine wpList_val rfl (exec_alloc26z rfl _) ?_)
  simp only [World.size_alloc]
  have hb0 : ((((w.alloc (.cells #[.slice a l.length cap] 31)).alloc (.cells (pc (.slice none 0 0) 0 0 zs).toArray 54)).alloc (.cells #[.int .i64 0, .int .i64 0] 44)).alloc (.cells (pc (.slice none 0 0) 0 0 zs).toArray 54)).heap[w.heap.size]? = some (.cells #[.slice a l.length cap] 31 (0, 0)) := heap_alloc_lt (heap_alloc_lt (heap_alloc_lt (heap_alloc_new _ _)))
  have hb1 : ((((w.alloc (.cells #[.slice a l.length cap] 31)).alloc (.cells (pc (.slice none 0 0) 0 0 zs).toArray 54)).alloc (.cells #[.int .i64 0, .int .i64 0] 44)).alloc (.cells (pc (.slice none 0 0) 0 0 zs).toArray 54)).heap[w.heap.size + 1]? = some (.cells (pc (.slice none 0 0) 0 0 zs).toArray 54 (0, 0)) := heap_alloc_lt (heap_alloc_lt (heap_alloc_at (by simp)))
  have hb2 : ((((w.alloc (.cells #[.slice a l.length cap] 31)).alloc (.cells (pc (.slice none 0 0) 0 0 zs).toArray 54)).alloc (.cells #[.int .i64 0, .int .i64 0] 44)).alloc (.cells (pc (.slice none 0 0) 0 0 zs).toArray 54)).heap[w.heap.size + 1 + 1]? = some (.cells #[.int .i64 0, .int .i64 0] 44 (0, 0)) := heap_alloc_lt (heap_alloc_at (by simp))
  have hb3 : ((((w.alloc (.cells #[.slice a l.length cap] 31)).alloc (.cells (pc (.slice none 0 0) 0 0 zs).toArray 54)).alloc (.cells #[.int .i64 0, .int .i64 0] 44)).alloc (.cells (pc (.slice none 0 0) 0 0 zs).toArray 54)).heap[w.heap.size + 1 + 1 + 1]? = some (.cells (pc (.slice none 0 0) 0 0 zs).toArray 54 (0, 0)) := heap_alloc_at (by simp)
  have hf : Frm [] w ((((w.alloc (.cells #[.slice a l.length cap] 31)).alloc (.cells (pc (.slice none 0 0) 0 0 zs).toArray 54)).alloc (.cells #[.int .i64 0, .int .i64 0] 44)).alloc (.cells (pc (.slice none 0 0) 0 0 zs).toArray 54)) := ((((Frm.refl [] w).alloc _).alloc _).alloc _).alloc _
  have hsz : ((((w.alloc (.cells #[.slice a l.length cap] 31)).alloc (.cells (pc (.slice none 0 0) 0 0 zs).toArray 54)).alloc (.cells #[.int .i64 0, .int .i64 0] 44)).alloc (.cells (pc (.slice none 0 0) 0 0 zs).toArray 54)).heap.size = w.heap.size + 4 := by simp
  generalize (((w.alloc (.cells #[.slice a l.length cap] 31)).alloc (.cells (pc (.slice none 0 0) 0 0 zs).toArray 54)).alloc (.cells #[.int .i64 0, .int .i64 0] 44)).alloc (.cells (pc (.slice none 0 0) 0 0 zs).toArray 54) = W at *
  generalize hg3 : w.heap.size + 1 + 1 + 1 = g3 at *
  generalize hg2 : w.heap.size + 1 + 1 = g2 at *
  generalize hg1 : w.heap.size + 1 = g1 at *
  have HB0 := Lib.hid hb0
  have HB1 := Lib.hid hb1
  have HB2 := Lib.hid hb2
  have HB3 := Lib.hid hb3
  have HF := Lib.hid hf
  have HSZ := Lib.hid (show g1 = w.heap.size + 1 ∧ g2 = w.heap.size + 2 ∧ g3 = w.heap.size + 3 ∧ W.heap.size = w.heap.size + 4 from by omega)
  have hst := fun w1 (f1 : Frm [] W w1) => readStep_any w.heap.size g3 (.slice a l.length cap) l sp w1 (HS.out.keep (HF.out.trans f1 (by simp)) (by simp)) (f1.heap HB0.out (by simp)) (f1.heap HB3.out (by simp)) HL.out
  have HST := Lib.hid hst
  clear hb0 hb1 hb2 hb3 hf hsz hst hg1 hg2 hg3
  cases hg : goodB l with
  | true =>
    have HGD := Lib.hid hg
    have hF := faultOf_retL [g3] 236 #[.pointer (some ⟨w.heap.size, 0, none⟩), .pointer (some ⟨g3, 0, none⟩)] (fun z => Frm [g3] W z ∧ ∃ a cap sp, PB z (g3) (.slice a (rawPt l).ads.length cap) (rawPt l).b (rawPt l).l (rawPt l).s ∧ OwnA 148 z (.slice a (rawPt l).ads.length cap) (rawPt l).ads sp ∧ ∀ i ∈ blk (.slice a (rawPt l).ads.length cap), W.heap.size < i) W (by have := HSZ.out; simp; omega) (fun w => enter_of Tryz.func236 (by kernel_rfl) (by kernel_rfl) _ w) (fun w1 f1 hsz1 => (HST.out w1 f1).mono (by
      rintro e w' (⟨hb, _⟩ | ⟨hb, rfl, f2, xa, xc, xsp, q1, q2, q3⟩)
      · rw [hg] at hb; cases hb
      · exact ⟨rfl, f2, (f1.mono (by simp)).trans f2 (by simp), xa, xc, xsp, q1, q2, fun i hi => Nat.lt_of_lt_of_le hsz1 (q3 i hi)⟩))
    have HFF := Lib.hid hF
    clear hF hg
    go_upto_region 3 with (go_at_call 220; refine HFF.out.mono ?_; rintro r w5 ⟨rfl, w4, ⟨f4, xa, xc, xsp, pb4, sx4, nb4⟩, f5⟩)
    have F45 := Lib.hid ((f4.mono (L' := [g3, W.heap.size]) (by simp)).trans (L' := [W.heap.size]) f5 (by simp))
    have ZL := Lib.hid (show (rawPt l).s.length = 32 from by have := ((goodB_iff l).1 HGD.out).1; simp [rawPt]; omega)
    have PB5 := Lib.hid (pb4.keep f5 (by have := HSZ.out; simp; omega))
    have SX5 := Lib.hid (sx4.keep f5 (fun i hi => by have := nb4 i hi; simp; omega))
    have NX5 := Lib.hid nb4
    have SXV := Lib.hid (SX5.out.keep ((Frm.refl [] w5).alloc (.cells #[.int .i64 0, .int .i64 0] 44)) (by simp))
    clear pb4 sx4 nb4 f4 f5
    have hv : (w5.alloc (.cells #[.int .i64 0, .int .i64 0] 44)).heap[w5.heap.size]? = some (.cells #[.int .i64 0, .int .i64 0] 44 (0, 0)) := heap_alloc_new _ _
    have fv : Frm [g3, W.heap.size] W (w5.alloc (.cells #[.int .i64 0, .int .i64 0] 44)) := F45.out.alloc _
    have pv5 : PB (w5.alloc (.cells #[.int .i64 0, .int .i64 0] 44)) g3 (.slice xa (rawPt l).ads.length xc) (rawPt l).b (rawPt l).l (rawPt l).s := PB5.out.alloc _
    have hw5 : W.heap.size ≤ w5.heap.size := F45.out.size
    generalize w5.alloc (.cells #[.int .i64 0, .int .i64 0] 44) = V at *
    generalize w5.heap.size = g5 at *
    have hgs : g1 ≠ g2 ∧ g1 ≠ g3 ∧ g2 ≠ g3 ∧ g1 ≠ g5 ∧ g2 ≠ g5 ∧ w.heap.size ≤ g1 ∧ w.heap.size ≤ g2 ∧ g1 < W.heap.size ∧ g2 < W.heap.size := by have := HSZ.out; omega
    have HGS := Lib.hid hgs
    have PV5 := Lib.hid pv5
    have HV := Lib.hid hv
    have V1 := Lib.hid (fv.heap HB1.out (by have := HGS.out; simp; omega))
    have V2 := Lib.hid (fv.heap HB2.out (by have := HGS.out; simp; omega))
    have FVV := Lib.hid fv
    clear hv fv pv5 hw5 hgs
    refine wp_region_held_drew (S := fun z => Frm [g1, g2] V z) (by kernel_rfl) ((Frm.refl [g1, g2] V).drew) (fun hHeld => ?_)
    refine wpAnyH_take (i := 0) (oi := ⟨some 8, .load 54 (.tmp 4), _, _, _, none⟩) rfl (by kernel_rfl) (by kernel_rfl) (by kernel_rfl) (fun _ _ _ h => h) (yieldsIf_ld (by rfl) 54 _ rfl _ rfl (fun z hSw => ((PV5.out.keep hSw (by have := HGS.out; simp; omega)).gets ZL.out).all)) hHeld ?_
    try simp only [Act.put, List.setIfInBounds_toArray, List.set_cons_zero, List.set_cons_succ]
    refine wpAnyH_take (i := 1) (oi := ⟨some 9, .load 44 (.tmp 5), _, _, _, none⟩) (v := ?_) rfl (by kernel_rfl) (by kernel_rfl) (by kernel_rfl) (fun _ _ _ h => h) (Or.inl ⟨by rfl, ?_⟩) hHeld ?_
    rotate_left
    focus (intro z hSw; have hz := hSw.heap HV.out (by have := HGS.out; simp; omega); have c0 : z.cell? ⟨g5, 0, none⟩ = _ := cell_of_heap hz 0; have c1 : z.cell? ⟨g5, 1, none⟩ = _ := cell_of_heap hz 1; clear hSw hz; go_simp; try with_reducible rfl)
    try simp only [Act.put, List.setIfInBounds_toArray, List.set_cons_zero, List.set_cons_succ]
    refine wpAnyH_ready (rs := [2]) (by kernel_rfl) (by simp) ?_
    refine AllReadyH.cons (o := ⟨none, .store 54 (.tmp 2) (.tmp 8), _, _, _, none⟩) rfl (fun K hK => ?_) AllReadyH.nil
    rw [if_pos (by rfl)]
    refine wp_store_row 54 (.tmp 2) (.tmp 8) rfl g1 (pc (.slice xa (rawPt l).ads.length xc) (rawPt l).b (rawPt l).l (rawPt l).s).toArray rfl rfl 54 _ (show V.drew.heap[g1]? = _ from V1.out) (by rw [i26, pc_size, ZL.out]) (by simp only [pc_size, ZL.out, zs_len]) (pc_one _ _ _) ?_
    refine hK.out _ _ ?_ (fun hNext => ?_)
    · exact hHeld.trans (L' := [g1]) ⟨rfl, rfl, rfl, by simp [World.setRow], fun k hk hn => setRow_other _ _ k _ (by simpa using hn)⟩ (by simp)
    clear hK K hHeld
    have hHeld := hNext
    clear hNext
    try simp only [Act.put, List.setIfInBounds_toArray, List.set_cons_zero, List.set_cons_succ]
    refine wpAnyH_ready (rs := [3]) (by kernel_rfl) (by simp) ?_
    refine AllReadyH.cons (o := ⟨none, .store 44 (.tmp 3) (.tmp 9), _, _, _, none⟩) rfl (fun K hK => ?_) AllReadyH.nil
    have v2 : (V.drew.setRow g1 (pc (.slice xa (rawPt l).ads.length xc) (rawPt l).b (rawPt l).l (rawPt l).s).toArray).heap[g2]? = _ := (setRow_other _ _ g2 _ (fun h => HGS.out.1 h.symm)).trans V2.out
    have k0 := cell_of_heap v2 0
    have k1 := cell_of_heap v2 1
    have z0 := frozen_of_heap v2 0
    have z1 := frozen_of_heap v2 1
    simp only [List.getElem?_toArray, List.getElem?_cons_zero, List.getElem?_cons_succ] at k0 k1
    go_simp
    refine hK.out _ _ ?_ (fun hNext => ?_)
    · exact (hHeld.setCell _ _ (.inl (by simp))).setCell _ _ (.inl (by simp))
    clear hK K hHeld
    have hHeld := hNext
    clear hNext
    try simp only [Act.put, List.setIfInBounds_toArray, List.set_cons_zero, List.set_cons_succ]
    refine wpAnyH_done (by kernel_rfl) ?_ _
    have hf1 : (((V.drew.setRow g1 (pc (.slice xa (rawPt l).ads.length xc) (rawPt l).b (rawPt l).l (rawPt l).s).toArray).setCell ⟨g2, 0, none⟩ (.int .i64 0)).setCell ⟨g2, 1, none⟩ (.int .i64 0)).heap[g1]? = some (.cells (pc (.slice xa (rawPt l).ads.length xc) (rawPt l).b (rawPt l).l (rawPt l).s).toArray 54 (0, 0)) := (heap_setCell_ne _ HGS.out.1).trans ((heap_setCell_ne _ HGS.out.1).trans (setRow_heap V.drew g1 _ _ 54 (0, 0) V1.out))
    have hf2 : (((V.drew.setRow g1 (pc (.slice xa (rawPt l).ads.length xc) (rawPt l).b (rawPt l).l (rawPt l).s).toArray).setCell ⟨g2, 0, none⟩ (.int .i64 0)).setCell ⟨g2, 1, none⟩ (.int .i64 0)).heap[g2]? = some (.cells #[.int .i64 0, .int .i64 0] 44 (0, 0)) := by
      rw [heap_setCell_same _ (heap_setCell_same _ ((setRow_other V.drew g1 g2 (pc (.slice xa (rawPt l).ads.length xc) (rawPt l).b (rawPt l).l (rawPt l).s).toArray (fun h => HGS.out.1 h.symm)).trans V2.out))]
      rfl
    have ff : Frm [] w (((V.drew.setRow g1 (pc (.slice xa (rawPt l).ads.length xc) (rawPt l).b (rawPt l).l (rawPt l).s).toArray).setCell ⟨g2, 0, none⟩ (.int .i64 0)).setCell ⟨g2, 1, none⟩ (.int .i64 0)) := (HF.out.trans FVV.out (fun i hi => by have := HGS.out; have := HSZ.out; simp at hi; omega)).trans hHeld (fun i hi => by have := HGS.out; simp at hi; omega)
    have fvx := Lib.hid hHeld
    have HF1 := Lib.hid hf1
    have HF2 := Lib.hid hf2
    have FFF := Lib.hid ff
    clear hf1 hf2 ff hHeld
    generalize (((V.drew.setRow g1 (pc (.slice xa (rawPt l).ads.length xc) (rawPt l).b (rawPt l).l (rawPt l).s).toArray).setCell ⟨g2, 0, none⟩ (.int .i64 0)).setCell ⟨g2, 1, none⟩ (.int .i64 0)) = Y at *
    go_wp2_with fail
    refine bodyPost_ret (v := .tuple #[pv (.slice xa (rawPt l).ads.length xc) (rawPt l).b (rawPt l).l (rawPt l).s, .agg #[.int .i64 0, .int .i64 0]]) (results_two (p := 2) (q := 3) rfl _ _ rfl rfl (run_loadVar_row Y g1 54 54 _ (0, 0) _ HF1.out Tryz.underlying54 rfl (by rw [i26]; simp only [pc_size, ZL.out])) (run_loadVar_row Y g2 44 44 _ (0, 0) _ HF2.out Tryz.underlying44 rfl (by rw [d40]; rfl))) rfl ?_
    have hE : readE l = 0 := by simp [readE, HGD.out]
    have hA : readAt l = 0 := by simp [readAt, HGD.out]
    have hP : readPt l = rawPt l := by simp [readPt, HGD.out]
    exact ⟨_, by rw [hE, hA], by rw [hP]; exact ⟨xa, xc, xsp, rfl, SXV.out.keep fvx.out (fun i hi => by have := NX5.out i hi; have := HGS.out; simp; omega), ZL.out⟩, FFF.out, fun i hi => by rw [ptBlk_pv] at hi; have := NX5.out i hi; have := HSZ.out; omega⟩
  | false =>
    have HGD := Lib.hid hg
    have hF := faultOf_gave 236 #[.pointer (some ⟨w.heap.size, 0, none⟩), .pointer (some ⟨g3, 0, none⟩)] (readE l) (readAt l) W (fun w => enter_of Tryz.func236 (by kernel_rfl) (by kernel_rfl) _ w) (fun w1 f1 => (HST.out w1 f1).mono (by
      rintro e w' (⟨hb, rfl, f2⟩ | ⟨hb, _⟩)
      · exact ⟨rfl, f2⟩
      · rw [hg] at hb; cases hb))
    have HFF := Lib.hid hF
    clear hF hg
    go_upto_region 3 with (go_at_call 220; refine HFF.out.mono ?_; rintro r w5 ⟨rfl, f5⟩)
    have F45 := Lib.hid (f5.mono (L' := [g3, W.heap.size]) (by simp))
    have PB5 := Lib.hid (show PB w5 g3 (.slice none 0 0) 0 0 zs from f5.heap HB3.out (by simp))
    have hv : (w5.alloc (.cells #[.int .i64 (readE l), .int .i64 (readAt l)] 44)).heap[w5.heap.size]? = some (.cells #[.int .i64 (readE l), .int .i64 (readAt l)] 44 (0, 0)) := heap_alloc_new _ _
    have fv : Frm [g3, W.heap.size] W (w5.alloc (.cells #[.int .i64 (readE l), .int .i64 (readAt l)] 44)) := F45.out.alloc _
    have pv5 : PB (w5.alloc (.cells #[.int .i64 (readE l), .int .i64 (readAt l)] 44)) g3 (.slice none 0 0) 0 0 zs := PB5.out.alloc _
    have hw5 : W.heap.size ≤ w5.heap.size := F45.out.size
    generalize w5.alloc (.cells #[.int .i64 (readE l), .int .i64 (readAt l)] 44) = V at *
    generalize w5.heap.size = g5 at *
    have hgs : g1 ≠ g2 ∧ g1 ≠ g3 ∧ g2 ≠ g3 ∧ g1 ≠ g5 ∧ g2 ≠ g5 ∧ w.heap.size ≤ g1 ∧ w.heap.size ≤ g2 ∧ g1 < W.heap.size ∧ g2 < W.heap.size := by have := HSZ.out; omega
    have HGS := Lib.hid hgs
    have PV5 := Lib.hid pv5
    have HV := Lib.hid hv
    have V1 := Lib.hid (fv.heap HB1.out (by have := HGS.out; simp; omega))
    have V2 := Lib.hid (fv.heap HB2.out (by have := HGS.out; simp; omega))
    have FVV := Lib.hid fv
    clear hv fv pv5 hw5 hgs
    refine wp_region_held_drew (S := fun z => Frm [g1, g2] V z) (by kernel_rfl) ((Frm.refl [g1, g2] V).drew) (fun hHeld => ?_)
    refine wpAnyH_take (i := 0) (oi := ⟨some 8, .load 54 (.tmp 4), _, _, _, none⟩) rfl (by kernel_rfl) (by kernel_rfl) (by kernel_rfl) (fun _ _ _ h => h) (yieldsIf_ld (by rfl) 54 _ rfl _ rfl (fun z hSw => ((PV5.out.keep hSw (by have := HGS.out; simp; omega)).gets zs_len).all)) hHeld ?_
    try simp only [Act.put, List.setIfInBounds_toArray, List.set_cons_zero, List.set_cons_succ]
    refine wpAnyH_take (i := 1) (oi := ⟨some 9, .load 44 (.tmp 5), _, _, _, none⟩) (v := ?_) rfl (by kernel_rfl) (by kernel_rfl) (by kernel_rfl) (fun _ _ _ h => h) (Or.inl ⟨by rfl, ?_⟩) hHeld ?_
    rotate_left
    focus (intro z hSw; have hz := hSw.heap HV.out (by have := HGS.out; simp; omega); have c0 : z.cell? ⟨g5, 0, none⟩ = _ := cell_of_heap hz 0; have c1 : z.cell? ⟨g5, 1, none⟩ = _ := cell_of_heap hz 1; clear hSw hz; go_simp; try with_reducible rfl)
    try simp only [Act.put, List.setIfInBounds_toArray, List.set_cons_zero, List.set_cons_succ]
    refine wpAnyH_ready (rs := [2]) (by kernel_rfl) (by simp) ?_
    refine AllReadyH.cons (o := ⟨none, .store 54 (.tmp 2) (.tmp 8), _, _, _, none⟩) rfl (fun K hK => ?_) AllReadyH.nil
    rw [if_pos (by rfl)]
    refine wp_store_row 54 (.tmp 2) (.tmp 8) rfl g1 (pc (.slice none 0 0) 0 0 zs).toArray rfl rfl 54 _ (show V.drew.heap[g1]? = _ from V1.out) (by rw [i26, pc_size, zs_len]) (by simp only [pc_size]) (pc_one _ _ _) ?_
    refine hK.out _ _ ?_ (fun hNext => ?_)
    · exact hHeld.trans (L' := [g1]) ⟨rfl, rfl, rfl, by simp [World.setRow], fun k hk hn => setRow_other _ _ k _ (by simpa using hn)⟩ (by simp)
    clear hK K hHeld
    have hHeld := hNext
    clear hNext
    try simp only [Act.put, List.setIfInBounds_toArray, List.set_cons_zero, List.set_cons_succ]
    refine wpAnyH_ready (rs := [3]) (by kernel_rfl) (by simp) ?_
    refine AllReadyH.cons (o := ⟨none, .store 44 (.tmp 3) (.tmp 9), _, _, _, none⟩) rfl (fun K hK => ?_) AllReadyH.nil
    have v2 : (V.drew.setRow g1 (pc (.slice none 0 0) 0 0 zs).toArray).heap[g2]? = _ := (setRow_other _ _ g2 _ (fun h => HGS.out.1 h.symm)).trans V2.out
    have k0 := cell_of_heap v2 0
    have k1 := cell_of_heap v2 1
    have z0 := frozen_of_heap v2 0
    have z1 := frozen_of_heap v2 1
    simp only [List.getElem?_toArray, List.getElem?_cons_zero, List.getElem?_cons_succ] at k0 k1
    go_simp
    refine hK.out _ _ ?_ (fun hNext => ?_)
    · exact (hHeld.setCell _ _ (.inl (by simp))).setCell _ _ (.inl (by simp))
    clear hK K hHeld
    have hHeld := hNext
    clear hNext
    try simp only [Act.put, List.setIfInBounds_toArray, List.set_cons_zero, List.set_cons_succ]
    refine wpAnyH_done (by kernel_rfl) ?_ _
    have hf1 : (((V.drew.setRow g1 (pc (.slice none 0 0) 0 0 zs).toArray).setCell ⟨g2, 0, none⟩ (.int .i64 (readE l))).setCell ⟨g2, 1, none⟩ (.int .i64 (readAt l))).heap[g1]? = some (.cells (pc (.slice none 0 0) 0 0 zs).toArray 54 (0, 0)) := (heap_setCell_ne _ HGS.out.1).trans ((heap_setCell_ne _ HGS.out.1).trans (setRow_heap V.drew g1 _ _ 54 (0, 0) V1.out))
    have hf2 : (((V.drew.setRow g1 (pc (.slice none 0 0) 0 0 zs).toArray).setCell ⟨g2, 0, none⟩ (.int .i64 (readE l))).setCell ⟨g2, 1, none⟩ (.int .i64 (readAt l))).heap[g2]? = some (.cells #[.int .i64 (readE l), .int .i64 (readAt l)] 44 (0, 0)) := by
      rw [heap_setCell_same _ (heap_setCell_same _ ((setRow_other V.drew g1 g2 (pc (.slice none 0 0) 0 0 zs).toArray (fun h => HGS.out.1 h.symm)).trans V2.out))]
      rfl
    have ff : Frm [] w (((V.drew.setRow g1 (pc (.slice none 0 0) 0 0 zs).toArray).setCell ⟨g2, 0, none⟩ (.int .i64 (readE l))).setCell ⟨g2, 1, none⟩ (.int .i64 (readAt l))) := (HF.out.trans FVV.out (fun i hi => by have := HGS.out; have := HSZ.out; simp at hi; omega)).trans hHeld (fun i hi => by have := HGS.out; simp at hi; omega)
    have fvx := Lib.hid hHeld
    have HF1 := Lib.hid hf1
    have HF2 := Lib.hid hf2
    have FFF := Lib.hid ff
    clear hf1 hf2 ff hHeld
    generalize (((V.drew.setRow g1 (pc (.slice none 0 0) 0 0 zs).toArray).setCell ⟨g2, 0, none⟩ (.int .i64 (readE l))).setCell ⟨g2, 1, none⟩ (.int .i64 (readAt l))) = Y at *
    go_wp2_with fail
    refine bodyPost_ret (v := .tuple #[pv (.slice none 0 0) 0 0 zs, .agg #[.int .i64 (readE l), .int .i64 (readAt l)]]) (results_two (p := 2) (q := 3) rfl _ _ rfl rfl (run_loadVar_row Y g1 54 54 _ (0, 0) _ HF1.out Tryz.underlying54 rfl (by rw [i26]; simp only [pc_size, zs_len])) (run_loadVar_row Y g2 44 44 _ (0, 0) _ HF2.out Tryz.underlying44 rfl (by rw [d40]; rfl))) rfl ?_
    have hP : readPt l = zeroPt := by simp [readPt, HGD.out]
    exact ⟨_, rfl, by rw [hP]; exact pto_zero _, FFF.out, fun i hi => by rw [ptBlk_pv] at hi; simp [blk] at hi⟩
theorem Read_any (v : Value) (l sp : List UInt8) (w : World) (hS : SlB w v l sp) (hl : l.length ≤ 1000000) : Calls Tryz.prog 226 #[v] w (ReadP l w) :=
  (ReadO_any v l sp w hS hl).mono fun e w' ⟨x, h1, h2, h3, _⟩ => ⟨x, h1, h2.v, h3⟩
end Go.Proofs.YtljhanhipmnioaaGreat.Pt

namespace Go.Proofs.YtljhanhipmnioaaGreat.Pt
set_option linter.unusedVariables false
set_option linter.unusedSimpArgs false
set_option maxRecDepth 100000

theorem be1_nat (n : Nat) (h : n < 256) : beNat [UInt8.ofNat n] = n := by simp [beNat]; omega
theorem be2_nat (n : Nat) (h : n < 65536) : beNat [UInt8.ofNat (n / 256), UInt8.ofNat n] = n := by simp [beNat]; omega
theorem be4_nat (n : Nat) (h : n < 4294967296) : beNat [UInt8.ofNat (n / 16777216), UInt8.ofNat (n / 65536), UInt8.ofNat (n / 256), UInt8.ofNat n] = n := by simp [beNat]; omega
theorem ptB_cons (L : List (Nat × Nat)) (b lv : Nat) (s : List UInt8) : ptB L b lv s = UInt8.ofNat L.length :: ((pad3 L).flatMap adB ++ (be4 b ++ (UInt8.ofNat lv :: s))) := by simp [ptB, addrsB, be1]
theorem raw_ptB (L : List (Nat × Nat)) (b lv : Nat) (s : List UInt8) (hs : s.length = 32) (h3 : L.length ≤ 3) (hb : ∀ x ∈ L, x.1 < 8 ∧ x.2 < 4096) (hb4 : b ≤ 2147483648) (hlv : lv ≤ 3) :
    (ptB L b lv s).length = 47 ∧ rawN (ptB L b lv s) ≤ 3 ∧ rawPt (ptB L b lv s) = ptN L b lv s := by
  have e1 : ∀ n, n ≤ 3 → beNat [UInt8.ofNat n] = n := fun n h => be1_nat n (by omega)
  have e4 := be4_nat b (by omega)
  match L, h3, hb with
  | [], _, hb =>
    refine ⟨by simp [ptB_cons, pad3, adB, be1, be2, be4, hs], by simp [ptB_cons, rawN]; exact e1 0 (by omega) ▸ (by omega), ?_⟩
    have hn : rawN (ptB [] b lv s) = 0 := by simp only [ptB_cons, rawN, List.take_succ_cons, List.take_zero]; exact e1 0 (by omega)
    refine Pt.ext' ?_ ?_ ?_ ?_
    · simp only [rawPt, hn]; rfl
    · simp [rawPt, ptB_cons, pad3, adB, be1, be2, be4, e4, ptN]
    · simp [rawPt, ptB_cons, pad3, adB, be1, be2, be4, e1 lv hlv, ptN]
    · simp [rawPt, ptB_cons, pad3, adB, be1, be2, be4, ptN]
  | [x0], _, hb => 
    have k0 := hb x0 (by simp)
    have a0 := be1_nat x0.1 (by omega)
    have c0 := be2_nat x0.2 (by omega)
    have hn : rawN (ptB [x0] b lv s) = 1 := by simp only [ptB_cons, rawN, List.take_succ_cons, List.take_zero]; exact e1 1 (by omega)
    refine ⟨by simp [ptB_cons, pad3, adB, be1, be2, be4, hs], by omega, ?_⟩
    refine Pt.ext' ?_ ?_ ?_ ?_
    · simp only [rawPt, hn]; simp [List.range_succ, rawAd, ptB_cons, pad3, adB, be1, be2, be4, ptN, adI, a0, c0]
    · simp [rawPt, ptB_cons, pad3, adB, be1, be2, be4, e4, ptN]
    · simp [rawPt, ptB_cons, pad3, adB, be1, be2, be4, e1 lv hlv, ptN]
    · simp [rawPt, ptB_cons, pad3, adB, be1, be2, be4, ptN]
  | [x0, x1], _, hb =>
    have k0 := hb x0 (by simp)
    have a0 := be1_nat x0.1 (by omega)
    have c0 := be2_nat x0.2 (by omega)
    have k1 := hb x1 (by simp)
    have a1 := be1_nat x1.1 (by omega)
    have c1 := be2_nat x1.2 (by omega)
    have hn : rawN (ptB [x0, x1] b lv s) = 2 := by simp only [ptB_cons, rawN, List.take_succ_cons, List.take_zero]; exact e1 2 (by omega)
    refine ⟨by simp [ptB_cons, pad3, adB, be1, be2, be4, hs], by omega, ?_⟩
    refine Pt.ext' ?_ ?_ ?_ ?_
    · simp only [rawPt, hn]; simp [List.range_succ, rawAd, ptB_cons, pad3, adB, be1, be2, be4, ptN, adI, a0, c0, a1, c1]
    · simp [rawPt, ptB_cons, pad3, adB, be1, be2, be4, e4, ptN]
    · simp [rawPt, ptB_cons, pad3, adB, be1, be2, be4, e1 lv hlv, ptN]
    · simp [rawPt, ptB_cons, pad3, adB, be1, be2, be4, ptN]
  | [x0, x1, x2], _, hb =>
    have k0 := hb x0 (by simp)
    have a0 := be1_nat x0.1 (by omega)
    have c0 := be2_nat x0.2 (by omega)
    have k1 := hb x1 (by simp)
    have a1 := be1_nat x1.1 (by omega)
    have c1 := be2_nat x1.2 (by omega)
    have k2 := hb x2 (by simp)
    have a2 := be1_nat x2.1 (by omega)
    have c2 := be2_nat x2.2 (by omega)
    have hn : rawN (ptB [x0, x1, x2] b lv s) = 3 := by simp only [ptB_cons, rawN, List.take_succ_cons, List.take_zero]; exact e1 3 (by omega)
    refine ⟨by simp [ptB_cons, pad3, adB, be1, be2, be4, hs], by omega, ?_⟩
    refine Pt.ext' ?_ ?_ ?_ ?_
    · simp only [rawPt, hn]; simp [List.range_succ, rawAd, ptB_cons, pad3, adB, be1, be2, be4, ptN, adI, a0, c0, a1, c1, a2, c2]
    · simp [rawPt, ptB_cons, pad3, adB, be1, be2, be4, e4, ptN]
    · simp [rawPt, ptB_cons, pad3, adB, be1, be2, be4, e1 lv hlv, ptN]
    · simp [rawPt, ptB_cons, pad3, adB, be1, be2, be4, ptN]
  | _ :: _ :: _ :: _ :: _, h, _ => simp at h
/-- A pointer's bytes are read as it. -/
theorem enc_good {p : Pt} (h : may p) (hs : p.s.length = 32) : goodB (enc p) = true ∧ rawPt (enc p) = p := by
  obtain ⟨L, b, lv, e1, e2, h3, hb, hb4, hlv⟩ := may_nat h
  obtain ⟨r1, r2, r3⟩ := raw_ptB L b lv p.s hs h3 hb hb4 hlv
  rw [← e2] at r1 r2 r3
  rw [← e1] at r3
  refine ⟨(goodB_iff _).2 ⟨r1, r2, by rw [r3]; exact h, by rw [r3]⟩, r3⟩
theorem enc_len {p : Pt} (h : may p) (hs : p.s.length = 32) : (enc p).length = 47 := ((goodB_iff _).1 (enc_good h hs).1).1
end Go.Proofs.YtljhanhipmnioaaGreat.Pt

namespace Go.Proofs.YtljhanhipmnioaaGreat.Pt
open Go.RowKit
set_option linter.unusedVariables false
set_option linter.unusedSimpArgs false
set_option maxRecDepth 100000

/-- A box that holds a pointer. -/
def Boxed (w : World) (g : Nat) (x : Value) (p : Pt) : Prop := ∃ a cap, x = pv (.slice a p.ads.length cap) p.b p.l p.s ∧ PB w g (.slice a p.ads.length cap) p.b p.l p.s ∧ p.s.length = 32
theorem Boxed.load {w : World} {g : Nat} {x : Value} {p : Pt} (h : Boxed w g x p) : (Instr.loadAt 54 (.pointer (some ⟨g, 0, none⟩))).run Tryz.prog w = .ok x w := by
  obtain ⟨a, cap, rfl, h1, h2⟩ := h
  exact (h1.gets h2).all
theorem Boxed.c0 {w : World} {g : Nat} {x : Value} {p : Pt} (h : Boxed w g x p) : ∃ a cap, w.cell? ⟨g, 0, none⟩ = some (.slice a p.ads.length cap) := by
  obtain ⟨a, cap, rfl, h1, h2⟩ := h
  exact ⟨a, cap, (h1.gets h2).c0⟩
theorem Boxed.keep {w w' : World} {L : List Nat} {g : Nat} {x : Value} {p : Pt} (h : Boxed w g x p) (f : Frm L w w') (hn : g ∉ L) : Boxed w' g x p := by
  obtain ⟨a, cap, e, h1, h2⟩ := h
  exact ⟨a, cap, e, h1.keep f hn, h2⟩
theorem Boxed.keep0 {w w' : World} {g : Nat} {x : Value} {p : Pt} (h : Boxed w g x p) (f : Frm [] w w') : Boxed w' g x p := h.keep f (by simp)
theorem Boxed.lt {w : World} {g : Nat} {x : Value} {p : Pt} (h : Boxed w g x p) : g < w.heap.size := by
  obtain ⟨a, cap, e, h1, h2⟩ := h
  exact h1.lt
theorem PtV.box {w : World} {x : Value} {p : Pt} (h : PtV w x p) : ∃ A : Array Value, x = .agg A ∧ A.size = 35 ∧ ∀ W : World, Boxed (W.alloc (.cells A 54)) W.heap.size (.agg A) p := by
  obtain ⟨a, cap, sp, rfl, h2, h3⟩ := h
  exact ⟨_, rfl, by rw [pc_size, h3], fun W => ⟨a, cap, rfl, PB.new _ _ _ _ _, h3⟩⟩
theorem PtV.len {w : World} {x : Value} {p : Pt} (h : PtV w x p) : p.s.length = 32 := by
  obtain ⟨a, cap, sp, rfl, h2, h3⟩ := h
  exact h3
theorem chk_cases (p : Pt) : (may p ∧ chk p = 0 ∧ outB p = enc p) ∨ (¬ may p ∧ chk p = 2 ∧ outB p = []) := by
  by_cases h : may p
  · exact .inl ⟨h, by simp [chk, (mayB_iff p).2 h], by simp [outB, (mayB_iff p).2 h]⟩
  · exact .inr ⟨h, by simp [chk, (mayB_not p).2 h], by simp [outB, (mayB_not p).2 h]⟩
end Go.Proofs.YtljhanhipmnioaaGreat.Pt

namespace Go.Proofs.YtljhanhipmnioaaGreat.Pt
open Go.RowKit
set_option linter.unusedVariables false
set_option linter.unusedSimpArgs false
set_option maxRecDepth 100000

/-- What bytes are told as, that were told of a pointer. -/
theorem read_enc {p : Pt} (h : may p) (hs : p.s.length = 32) : readE (enc p) = 0 ∧ readAt (enc p) = 0 ∧ readPt (enc p) = p := by
  obtain ⟨h1, h2⟩ := enc_good h hs
  exact ⟨by simp [readE, h1], by simp [readAt, h1], by simp [readPt, h1, h2]⟩
theorem read_cases (l : List UInt8) : (readE l = 0 ∧ may (readPt l) ∧ enc (readPt l) = l ∧ (readPt l).ads.length ≤ 3) ∨ (readE l ≠ 0 ∧ 0 ≤ readAt l ∧ readAt l ≤ l.length) := by
  by_cases h : goodB l = true
  · obtain ⟨h1, h2, h3, h4⟩ := (goodB_iff l).1 h
    refine .inl ⟨by simp [readE, h], by simp [readPt, h, h3], by simp [readPt, h, h4], ?_⟩
    simp [readPt, h, rawPt]
    exact h2
  · right
    have h' : goodB l = false := by simpa using h
    by_cases h47 : l.length = 47
    · exact ⟨by simp [readE, h', h47], by simp [readAt, h', h47], by simp [readAt, h', h47]⟩
    · by_cases h2 : l.length < 47
      · exact ⟨by simp [readE, h', h47], by simp [readAt, h', h47, h2], by simp [readAt, h', h47, h2]⟩
      · exact ⟨by simp [readE, h', h47], by simp [readAt, h', h47, h2], by simp [readAt, h', h47, h2]; omega⟩
theorem read_len (l : List UInt8) : (readPt l).ads.length ≤ 3 := by
  by_cases h : goodB l = true
  · obtain ⟨h1, h2, h3, h4⟩ := (goodB_iff l).1 h
    simp [readPt, h, rawPt]
    exact h2
  · have h' : goodB l = false := by simpa using h
    simp [readPt, h', zeroPt]
end Go.Proofs.YtljhanhipmnioaaGreat.Pt

namespace Go.Proofs.YtljhanhipmnioaaGreat.Pt
open Go.RowKit
set_option linter.unusedVariables false
set_option linter.unusedSimpArgs false
set_option maxRecDepth 100000

end Go.Proofs.YtljhanhipmnioaaGreat.Pt

namespace Go.Proofs.YtljhanhipmnioaaGreat.Pt
open Go.RowKit Go.ChangeShapes Go.WideShapes Go.Deep
set_option linter.unusedVariables false
set_option maxRecDepth 100000
set_option linter.unusedSimpArgs false

theorem cells3 : Tryz.prog.cellsOf 3 = 1 := by kernel_rfl
theorem cells5 : Tryz.prog.cellsOf 5 = 1 := by kernel_rfl
theorem cells46 : Tryz.prog.cellsOf 148 = 2 := by kernel_rfl
theorem cells22 : Tryz.prog.cellsOf 50 = 1 := by kernel_rfl
theorem cells24 : Tryz.prog.cellsOf 52 = 32 := by kernel_rfl
theorem cells26 : Tryz.prog.cellsOf 54 = 35 := by kernel_rfl
theorem own : ownKnob Tryz.prog.godebug = none := by kernel_rfl
theorem laidOut : laidOutB Tryz.prog = true := by kernel_rfl
theorem one_of {v u : Value} (h : [v] = [u]) : v = u := by simpa using h
def WfA (x : Ad) : Prop := (Lit.int .i64 x.1).wf = true ∧ (Lit.int .i64 x.2).wf = true
theorem sla_of_trod {H : Type} {enc : TypeId × Value → H} {W : World} {fuel : Nat} {cs : List Value} {x : DataW H × List MemPlace} (h : DataW.trod enc Tryz.prog W 0 (fun _ => true) true fuel 50 cs = some x) :
    ∃ a cap l sp, cs = [.slice a (l : List Ad).length cap] ∧ SlA W (.slice a l.length cap) l sp ∧ ∀ x ∈ l, WfA x := by
  rcases open_slice_pairs Tryz.underlying50 Tryz.underlying148 cells46 rfl rfl cells3 cells3 h with ⟨rfl, _⟩ | ⟨a, len, cap, m, n, V0, V1, D0, D1, P0, P1, rfl, _, hl, hm, hmm, _, hi⟩
  · exact ⟨none, 0, [], [], rfl, SlA.nil _, by simp⟩
  · simp at hmm
    subst hmm
    have hex : ∀ i, ∃ y : Ad, i < m → W.cell? (a.add (i * 2)) = some (.int .i64 y.1) ∧ W.cell? (a.add (i * 2 + 1)) = some (.int .i64 y.2) ∧ WfA y := fun i => by
      by_cases hlt : i < m
      · obtain ⟨c0, c1, t0, t1⟩ := hi i hlt
        obtain ⟨z0, k0, _, w0⟩ := DataW.trod_int Tryz.underlying3 t0
        obtain ⟨z1, k1, _, w1⟩ := DataW.trod_int Tryz.underlying3 t1
        exact ⟨(z0, z1), fun _ => ⟨by rw [c0, one_of k0], by rw [c1, one_of k1], w0, w1⟩⟩
      · exact ⟨(0, 0), fun h => absurd h hlt⟩
    obtain ⟨f, hf⟩ := Classical.axiomOfChoice hex
    have hall : ∀ L : List Ad, L = (List.range m).map f → L.length = m := fun L h => by rw [h]; simp
    obtain ⟨L, hL⟩ : ∃ L, L = (List.range m).map f := ⟨_, rfl⟩
    have hLl := hall L hL
    have hget : ∀ i (h : i < L.length), L[i] = f i := fun i h => by subst hL; simp
    have htl : (L.take len).length = len := by simp; omega
    by_cases hc : m = 0
    · subst hc
      obtain rfl : len = 0 := by omega
      exact ⟨some a, 0, [], [], rfl, ⟨rfl, .inr (.inl ⟨a, rfl, rfl, rfl⟩)⟩, by simp⟩
    · obtain ⟨b, off, spot⟩ := a
      have h0 := (hf 0 (by omega)).1
      have hspot : spot = none := by simpa [Addr.add] using World.cell?_spot h0
      subst hspot
      refine ⟨some ⟨b, off, none⟩, m, L.take len, L.drop len, by rw [htl], ?_, fun x hx => ?_⟩
      · rw [htl]
        refine ⟨by rw [eas_length, htl], .inr (.inr ⟨b, off, m, by rw [htl], by omega, hm, ?_, fun i u hu => ?_⟩)⟩
        · rw [← eas_append, List.take_append_drop, eas_length, hLl]
        · rw [← eas_append, List.take_append_drop] at hu
          have hi2 : i < L.length * 2 := by
            rcases Nat.lt_or_ge i (L.length * 2) with h | h
            · exact h
            · rw [List.getElem?_eq_none (by rw [eas_length]; exact h)] at hu; cases hu
          have hq : i / 2 < L.length := by omega
          obtain ⟨c0, c1, _⟩ := hf (i / 2) (by omega)
          by_cases h2 : i % 2 = 0
          · have e : i / 2 * 2 = i := by omega
            have g := eas_get0 L (i / 2) hq
            rw [e] at g c0
            rw [g] at hu
            cases hu
            rw [add_plain] at c0
            rw [c0, hget]
          · have e : i / 2 * 2 + 1 = i := by omega
            have g := eas_get1 L (i / 2) hq
            rw [e] at g c1
            rw [g] at hu
            cases hu
            rw [add_plain] at c1
            rw [c1, hget]
      · obtain ⟨i, hi', rfl⟩ := List.getElem_of_mem (List.mem_of_mem_take hx)
        rw [hget]
        exact (hf i (by omega)).2.2
/-- The blocks that a slice can be read from: none, if it has no room. -/
def blkR : Value → List Nat
  | .slice (some a) _ cap => if cap = 0 then [] else [a.block]
  | _ => []
/-- Numbers that fit a byte, as bytes. -/
def asBytes (zs : List Int) : List UInt8 := zs.map fun n => UInt8.ofNat n.toNat
theorem bvs_asBytes {zs : List Int} (h : ∀ n ∈ zs, (Lit.int .u8 n).wf = true) : bvs (asBytes zs) = zs.map (Value.int .u8) := by
  unfold bvs asBytes
  rw [List.map_map]
  refine List.map_congr_left fun n hn => ?_
  have := bounds_u8 (h n hn)
  simp [bv]
  omega
theorem slb_of_trod {H : Type} {enc : TypeId × Value → H} {W : World} {fuel : Nat} {cs : List Value} {x : DataW H × List MemPlace} (h : DataW.trod enc Tryz.prog W 0 (fun _ => true) true fuel 31 cs = some x) :
    ∃ a cap l sp, cs = [.slice a (l : List UInt8).length cap] ∧ SlB W (.slice a l.length cap) l sp ∧ ∀ k ∈ blkR (.slice a l.length cap), k < W.heap.size := by
  rcases open_ints Tryz.underlying31 Tryz.underlying5 cells5 h with ⟨rfl, _⟩ | ⟨a, len, cap, zs, rfl, _, hl, hm, hz, _, hcell, hwz⟩
  · exact ⟨none, 0, [], [], rfl, SlB.nil _, by simp [blkR]⟩
  · have hzl : zs.length = cap := by simpa using hz
    have hlen : ((asBytes zs).take len).length = len := by simp [asBytes]; omega
    by_cases hc : cap = 0
    · subst hc
      obtain rfl : len = 0 := by omega
      exact ⟨some a, 0, [], [], rfl, ⟨rfl, .inr (.inl ⟨a, rfl, rfl, rfl⟩)⟩, by simp [blkR]⟩
    · obtain ⟨b, off, spot⟩ := a
      have h0 := hcell 0 (by omega)
      have hspot : spot = none := by simpa [Addr.add] using World.cell?_spot h0
      subst hspot
      refine ⟨some ⟨b, off, none⟩, cap, (asBytes zs).take len, (asBytes zs).drop len, by rw [hlen], ?_, ?_⟩
      · rw [hlen]
        refine ⟨by simp [bvs_length, hlen], .inr (.inr ⟨b, off, cap, by rw [hlen], by omega, hm, ?_, fun i u hu => ?_⟩)⟩
        · rw [← bvs_append, List.take_append_drop]; simp [bvs_length, asBytes, hzl]
        · rw [← bvs_append, List.take_append_drop, bvs_asBytes hwz] at hu
          have hi : i < zs.length := by
            rcases Nat.lt_or_ge i zs.length with h | h
            · exact h
            · rw [List.getElem?_eq_none (by simpa using h)] at hu; cases hu
          have := hcell i hi
          rw [add_plain] at this
          rw [this]
          rw [List.getElem?_map, List.getElem?_eq_getElem hi] at hu
          simp at hu
          rw [← hu]
          simp [List.getD, List.getElem?_eq_getElem hi]
      · intro k hk
        simp [blkR, hc] at hk
        subst hk
        rw [add_plain] at h0
        exact World.block_lt_of_cell? W _ h0
section
variable {H : Type} {enc : TypeId × Value → H} {P : Program} {w : World} {base : Nat} {spare : Nat → Bool} {held : Bool}
theorem trod_struct4 {t : TypeId} {f0 f1 f2 f3 : Field} {fuel : Nat} {cs : List Value} {x : DataW H × List MemPlace} (ht : P.underlying t = some (.struct #[f0, f1, f2, f3])) (h : DataW.trod enc P w base spare held fuel t cs = some x) :
    ∃ y0 y1 y2 y3 n, cs.length = P.cellsOf t ∧ DataW.trod enc P w base spare held n f0.type ((cs.drop f0.offset).take (P.cellsOf f0.type)) = some y0 ∧
      DataW.trod enc P w base spare held n f1.type ((cs.drop f1.offset).take (P.cellsOf f1.type)) = some y1 ∧ DataW.trod enc P w base spare held n f2.type ((cs.drop f2.offset).take (P.cellsOf f2.type)) = some y2 ∧
      DataW.trod enc P w base spare held n f3.type ((cs.drop f3.offset).take (P.cellsOf f3.type)) = some y3 := by
  obtain ⟨xs, n, _, rfl, hl, hlen, hf⟩ := DataW.trod_struct ht h
  match xs, hlen with
  | [y0, y1, y2, y3], _ => exact ⟨y0, y1, y2, y3, n, hl, by simpa using hf 0 f0 rfl, by simpa using hf 1 f1 rfl, by simpa using hf 2 f2 rfl, by simpa using hf 3 f3 rfl⟩
end
theorem id_of_trod {H : Type} {enc : TypeId × Value → H} {W : World} {fuel : Nat} {cs : List Value} {x : DataW H × List MemPlace} (h : DataW.trod enc Tryz.prog W 0 (fun _ => true) true fuel 52 cs = some x) :
    ∃ s : List UInt8, cs = bvs s ∧ s.length = 32 := by
  obtain ⟨xs, m, rfl, hx, hlen, hn, hel⟩ := DataW.trod_array Tryz.underlying52 h
  rw [cells24] at hlen
  have key : ∀ i, i < 32 → ∃ b : UInt8, cs[i]? = some (bv b) := fun i hi => by
    have h1 := hel i hi
    obtain ⟨b, hb⟩ : ∃ b, xs[i]? = some b := ⟨xs[i]'(by omega), List.getElem?_eq_getElem (by omega)⟩
    rw [hb, cells5] at h1
    obtain ⟨z, e1, _, e3⟩ := DataW.trod_int Tryz.underlying5 h1
    have := bounds_u8 e3
    refine ⟨UInt8.ofNat z.toNat, ?_⟩
    have := congrArg (·[0]?) e1
    have h2 : cs[i]? = some (.int .u8 z) := by simpa [List.getElem?_take, List.getElem?_drop] using this
    rw [h2]
    simp [bv]
    omega
  have hall : ∀ u ∈ cs, ∃ b, u = bv b := fun u hu => by
    obtain ⟨i, hi, rfl⟩ := List.getElem_of_mem hu
    obtain ⟨b, hb⟩ := key i (by omega)
    rw [List.getElem?_eq_getElem hi] at hb
    exact ⟨b, Option.some.inj hb⟩
  obtain ⟨s, rfl⟩ := bvs_of hall
  exact ⟨s, rfl, by simpa [bvs_length] using hlen⟩
theorem pt_of_trod {H : Type} {enc : TypeId × Value → H} {W : World} {fuel : Nat} {cs : List Value} {x : DataW H × List MemPlace} (h : DataW.trod enc Tryz.prog W 0 (fun _ => true) true fuel 54 cs = some x) :
    ∃ a cap, ∃ p : Pt, ∃ sp, cs = pc (.slice a p.ads.length cap) p.b p.l p.s ∧ SlA W (.slice a p.ads.length cap) p.ads sp ∧ p.s.length = 32 := by
  obtain ⟨y0, y1, y2, y3, n, hl, t0, t1, t2, t3⟩ := trod_struct4 Tryz.underlying54 h
  rw [cells26] at hl
  rw [show Tryz.prog.cellsOf (Field.mk "Addrs" 50 0 false "" "" 0).type = 1 from cells22] at t0
  rw [show Tryz.prog.cellsOf (Field.mk "Birth" 3 1 false "" "" 24).type = 1 from cells3] at t1
  rw [show Tryz.prog.cellsOf (Field.mk "Level" 3 2 false "" "" 32).type = 1 from cells3] at t2
  rw [show Tryz.prog.cellsOf (Field.mk "Sum" 52 3 false "" "" 40).type = 32 from cells24] at t3
  obtain ⟨a, cap, l, sp, e0, hS, _⟩ := sla_of_trod t0
  obtain ⟨z1, e1, _, _⟩ := DataW.trod_int Tryz.underlying3 t1
  obtain ⟨z2, e2, _, _⟩ := DataW.trod_int Tryz.underlying3 t2
  obtain ⟨s, e3, hs⟩ := id_of_trod t3
  refine ⟨a, cap, ⟨l, z1, z2, s⟩, sp, ?_, hS, hs⟩
  match cs, hl with
  | c0 :: c1 :: c2 :: r, hl =>
    simp at e0 e1 e2 e3
    subst e0 e1 e2
    have hr : r.take 32 = r := List.take_of_length_le (by simp at hl; omega)
    rw [hr] at e3
    subst e3
    rfl
theorem open_bytes {H : Type} {enc : TypeId × Value → H} {W : World} {r : Reach} {b0 : Nat} {v : Value} {d : DataW H} {p : List MemPlace} (hv : Value.okWide Tryz.prog W r b0 31 v) (h : DataW.Trod enc Tryz.prog W 0 (fun _ => true) true 31 v d p) :
    ∃ l sp, SlB W v l sp := by
  obtain ⟨a, len, cap, rfl⟩ := okWide_slice Tryz.underlying31 hv
  obtain ⟨fuel, hf⟩ := h
  obtain ⟨a', c', l, sp, e, hS, _⟩ := slb_of_trod hf
  simp [Value.cells] at e
  obtain ⟨rfl, rfl, rfl⟩ := e
  exact ⟨l, sp, hS⟩
end Go.Proofs.YtljhanhipmnioaaGreat.Pt
