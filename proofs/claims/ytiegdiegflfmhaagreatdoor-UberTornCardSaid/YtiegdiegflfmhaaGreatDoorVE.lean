/-
  The walk of UberTorn. No conditions but those that each theorem names.
-/
import Derived.Test.YtiegdiegflfmhaaGreatDoorVC
import Derived.Test.YtiegdiegflfmhaaGreatDoorHS
namespace Go.Proofs.YtiegdiegflfmhaaGreatDoor
open Go.RowKit
set_option linter.unusedVariables false
set_option linter.unusedSimpArgs false
set_option maxRecDepth 100000

open Pt (Pt may enc readPt readE zeroPt pc pv PtV SlA OwnA)
theorem mayOr (u : Ub) : (mayE u = 0 ∧ MayU u) ∨ (mayE u = 2 ∧ ¬ MayU u) := by
  by_cases h : MayU u
  · exact .inl ⟨mayE_yes h, h⟩
  · exact .inr ⟨mayE_no h, h⟩
def InI (n : Int) : Prop := -9223372036854775808 ≤ n ∧ n ≤ 9223372036854775807
theorem wf_iff (n : Int) : (Lit.int .i64 n).wf = true ↔ InI n := by
  simp [Lit.wf, IntKind.min, IntKind.max, IntKind.bits, IntKind.signed, InI]
theorem Pick_any (n : Int) (k : Nat) (hk : 1 ≤ k) (hk2 : k ≤ 1000000) (hn : InI n) (w : World) :
    Calls Tryz.prog 25 #[.int .i64 n, .int .i64 (k : Int)] w fun r w' => ∃ j : Nat, j < k ∧ r = .returned (.int .i64 (j : Int)) ∧ Frm [] w w' := by
  have h1 : -(k : Int) < n.tmod k := by
    rcases Int.le_total 0 n with h | h
    · have := Int.tmod_nonneg (k : Int) h; omega
    · have h3 := Int.tmod_nonneg (k : Int) (a := -n) (by omega)
      have h4 := Int.tmod_lt_of_pos (-n) (b := (k : Int)) (by omega)
      rw [Int.neg_tmod] at h3 h4
      omega
  have h2 : n.tmod k < (k : Int) := Int.tmod_lt_of_pos n (by omega)
  have hk9 : (k : Int) ≤ 1000000 := by omega
  have hk1 : (1 : Int) ≤ (k : Int) := by omega
  have hk0 : ((k : Int) == 0) = false := by simp; omega
  have hw : IntKind.i64.wrap (n.tmod k) = n.tmod k := IntWalk.i64_in _ (by omega)
  generalize hm : n.tmod k = m at *
  go_enter Tryz.func25, Tryz.ntmps25
  by_cases hneg : m < 0
  · go_wp2_with fail
    go_ret
    refine ⟨(m + k).toNat, by omega, ?_, ?_⟩
    · rw [Int.toNat_of_nonneg (by omega)]; rfl
    · exact Frm.refl _ _
  · go_wp2_with fail
    go_ret
    refine ⟨m.toNat, by omega, ?_, ?_⟩
    · rw [Int.toNat_of_nonneg (by omega)]; rfl
    · exact Frm.refl _ _
theorem step_append_bytes_g {P : Program} {tS T : TypeId} (B : ByteTys P tS T) {w : World} {ops : Array Oper} {o : Oper} {a : Act} {K : Act → World → Prop} {Q : Exit → Act → World → Prop} {E : Prop}
    {v y : Value} {l sp m msp : List UInt8} (hO : OwnB T w v l sp) (hS : SlB w y m msp) (hb : l.length + m.length ≤ 140737488355328)
    (hw : Region.wanted o (yielded ops a.tmps) = true) (s x : Operand) (hop : o.op = Op.call { callee := Callee.builtin Builtin.append, args := #[s, x], argTypes := #[tS, tS] }) (hs : a.eval s = v) (hx : a.eval x = y)
    (k : ∀ a' cap' w' sp', OwnB T w' (.slice a' (l.length + m.length) cap') (l ++ m) sp' → Frm (blk v) w w' → K (a.put o.dst (.slice a' (l.length + m.length) cap')) w') :
    if Region.wanted o (yielded ops a.tmps) = true then Oper.wp P o a w K Q else E := by
  obtain ⟨v', w', sp', h1, h2, h3, h4⟩ := append_bytes (x := y) B o.type hO hS hb
  obtain ⟨a', cap', rfl, _, _⟩ := h2.sl.form
  rw [List.length_append] at h1 h2 h4
  rw [if_pos hw]
  refine Hs.wp_val (w' := w') ?_ (k a' cap' w' sp' h2 h3)
  simp [execOp, hop, resolve, invoke, builtin, hs, hx, h1, Result.andThen]
set_option maxHeartbeats 16000000 in
theorem torn_law (x : Value) (u : Ub) (y : Value) (t : Ub) (q : Bool) (n : Int) {w : World} (hx : UbV w x u) (hy : UbV w y t) (hn : InI n) {s0 s1 s2 : Addr} (hs : Sens w s0 s1 s2) (hG : Hs.Glob w) : Calls Tryz.prog 7 #[x, y, .bool q, .int .i64 n] w (Yes w) := by
  obtain ⟨ax, cx, spx, rfl, hA, hw⟩ := id hx
  obtain ⟨ay, cy, spy, rfl, hA2, hw2⟩ := id hy
  have HX := Lib.hid hx
  have HY := Lib.hid hy
  have B1 := UB.new w (.slice ax u.root.ads.length cx) hw
  have hlx : uv (.slice ax u.root.ads.length cx) u = .agg (uc (.slice ax u.root.ads.length cx) u).toArray := rfl
  have hly : uv (.slice ay t.root.ads.length cy) t = .agg (uc (.slice ay t.root.ads.length cy) t).toArray := rfl
  have f1 : Frm [] w (w.alloc (.cells (uc (.slice ax u.root.ads.length cx) u).toArray 28)) := (Frm.refl [] w).alloc _
  have B2 := UB.new (w.alloc (.cells (uc (.slice ax u.root.ads.length cx) u).toArray 28)) (.slice ay t.root.ads.length cy) hw2
  have f2 : Frm [] (w.alloc (.cells (uc (.slice ax u.root.ads.length cx) u).toArray 28)) ((w.alloc (.cells (uc (.slice ax u.root.ads.length cx) u).toArray 28)).alloc (.cells (uc (.slice ay t.root.ads.length cy) t).toArray 28)) := (Frm.refl [] _).alloc _
  have B1' := B1.keep0 f2
  have f := f1.trans f2 (by simp)
  have HG := Lib.hid hG
  have HSE := Lib.hid hs
  have HK := Lib.hid (fun W (f : Frm [] w W) => awake_any W (hs.keep0 f) (HG.out.keep f (by simp)))
  have HP := Lib.hid (fun W (f : Frm [] w W) (hl : u.root.ads.length ≤ 1000000) => Pack_any _ u W (hx.keep0 f) hl (HG.out.keep f (by simp)))
  have HPT := Lib.hid (fun W (f : Frm [] w W) (hl : t.root.ads.length ≤ 1000000) => Pack_any _ t W (hy.keep0 f) hl (HG.out.keep f (by simp)))
  have HU := Lib.hid (fun v b sp W (f : Frm [] w W) (hS : SlB W v b sp) (hb : b.length ≤ 1000000) => Unpack_any v b sp W hS hb (hs.keep0 f) (HG.out.keep f (by simp)))
  have HPK := Lib.hid (fun W => Pick_any n 257 (by decide) (by decide) hn W)
  have HW1 := Lib.hid hw
  have HW2 := Lib.hid hw2
  unfold PackP at HP HPT
  rw [hlx, hly]
  clear hlx hly hG hw hw2 hA hA2 hx hy hs B1 f1 f2 hn
  obtain ⟨L1, hL1⟩ : ∃ L1, w.heap.size = L1 := ⟨_, rfl⟩
  generalize hAr : (uc (.slice ax u.root.ads.length cx) u).toArray = A at *
  generalize hBr : (uc (.slice ay t.root.ads.length cy) t).toArray = B at *
  obtain ⟨L2, hL2⟩ : ∃ L2, (w.alloc (.cells A 28)).heap.size = L2 := ⟨_, rfl⟩
  rw [hL1] at B1'
  rw [hL2] at B2
  go_enter Tryz.func7, Tryz.ntmps7
  go_upto_region 1 with (fail)
  generalize (w.alloc (.cells A 28)).alloc (.cells B 28) = W0 at *
  have BU0 := Lib.hid B1'
  have BT0 := Lib.hid B2
  have F0 := Lib.hid f
  clear B1' B2 f hL1 hL2 hAr hBr
  go_upto_region 2 with (go_at_call 8; refine (HK.out _ F0.out).mono ?_; rintro r W1 ⟨rfl, f1⟩)
  have F1 := Lib.hid (F0.out.trans f1 (by simp))
  have BU1 := Lib.hid (BU0.out.keep0 f1)
  have BT1 := Lib.hid (BT0.out.keep0 f1)
  have k1 := BU1.out.gets.c1
  have k2 := BT1.out.gets.c1
  clear f1 F0 BU0 BT0
  by_cases hla : 20 < u.root.ads.length
  · have hla' : (20 : Int) < u.root.ads.length := by omega
    clear hla
    go_wp2_with fail
    go_ret
    exact ⟨rfl, F1.out⟩
  have hla' : ¬ (20 : Int) < u.root.ads.length := by omega
  have HLA := Lib.hid (show u.root.ads.length ≤ 1000000 by omega)
  clear hla
  by_cases hlb : 20 < t.root.ads.length
  · have hlb' : (20 : Int) < t.root.ads.length := by omega
    clear hlb
    go_wp2_with fail
    go_ret
    exact ⟨rfl, F1.out⟩
  have hlb' : ¬ (20 : Int) < t.root.ads.length := by omega
  have HLB := Lib.hid (show t.root.ads.length ≤ 1000000 by omega)
  clear hlb
  go_upto_region 4 with fail
  clear k1 k2 hla' hlb'
  have G1 := Lib.hid BU1.out.gets.all
  go_upto_region 5 with (first | ((with_reducible (show wpList _ _ _ (Oper.mk _ (Op.load 28 _) _ _ _ _ :: _) _ _)); refine wpList_load_g (by rfl) 28 _ rfl _ rfl G1.out ?_) | (go_at_call 10; refine (HP.out _ F1.out HLA.out).mono ?_; rintro r W2 ⟨a2, c2, s2, rfl, o2, f2, n2⟩))
  have F2 := Lib.hid (F1.out.trans f2 (by simp))
  have G2 := Lib.hid (BT1.out.keep0 f2).gets.all
  have O2 := Lib.hid o2.sl
  clear f2 n2 o2 F1 BU1 BT1 G1
  go_upto_region 6 with (first | ((with_reducible (show wpList _ _ _ (Oper.mk _ (Op.load 28 _) _ _ _ _ :: _) _ _)); refine wpList_load_g (by rfl) 28 _ rfl _ rfl G2.out ?_) | (go_at_call 10; refine (HPT.out _ F2.out HLB.out).mono ?_; rintro r W3 ⟨a3, c3, s3, rfl, o3, f3, n3⟩))
  have F3 := Lib.hid (F2.out.trans f3 (by simp))
  have SU := Lib.hid (O2.out.keep f3 (by simp))
  have ST := Lib.hid o3.sl
  clear f3 n3 o3 F2 G2 O2 HP HPT
  rcases mayOr u with ⟨he, hm⟩ | ⟨he, hm⟩
  rotate_left
  · rw [he]
    clear he
    go_wp2_with fail
    go_ret
    exact ⟨rfl, F3.out⟩
  rcases mayOr t with ⟨he2, hm2⟩ | ⟨he2, hm2⟩
  rotate_left
  · rw [he, he2]
    clear he he2
    go_wp2_with fail
    go_ret
    exact ⟨rfl, F3.out⟩
  have HNO := Lib.hid (fun (b : List UInt8) (k : Nat) (hk : k ≤ 256) (hb : b = packU t ∨ b = List.replicate 256 0) h1 h2 hd => torn_no HW1.out hm k hk (hb.imp (fun e => ⟨t, HW2.out, hm2, e⟩) id) h1 h2 hd)
  have HPL := Lib.hid (packU_length HW1.out hm)
  have HTL := Lib.hid (packU_length HW2.out hm2)
  rw [packO_yes hm, HPL.out] at SU
  rw [packO_yes hm2, HTL.out] at ST
  rw [he, he2, packO_yes hm, packO_yes hm2, HPL.out, HTL.out]
  clear he he2 hm hm2
  generalize packU u = P at *
  generalize packU t = T at *
  clear HW1 HW2 HX HY HLA HLB
  go_upto_region 10 with fail
  cases q with
  | true =>
    go_upto_region 12 with (at_make; refine wpList_make_bytes BT 256 (by omega) rfl (.const (.int .i64 256)) (.const (.int .i64 256)) rfl rfl rfl rfl rfl ?_; intro W4 o4 f4)
    obtain ⟨b, hbe⟩ : ∃ b, List.replicate 256 (0 : UInt8) = b := ⟨_, rfl⟩
    have HBE := Lib.hid (show b = T ∨ b = List.replicate 256 0 from .inr hbe.symm)
    have HBL := Lib.hid (show b.length = 256 by rw [← hbe, List.length_replicate])
    rw [hbe] at o4
    have SU := Lib.hid (SU.out.keep f4 (by simp))
    have SB := Lib.hid o4.sl
    have FF := Lib.hid (F3.out.trans f4 (by simp))
    generalize W3.heap.size = g4 at *
    clear hbe o4 f4 F3 ST
    go_upto_region 13 with (go_at_call 25; refine (HPK.out _).mono ?_; rintro r W6 ⟨j, hj, rfl, f6⟩)
    have SU6 := SU.out.keep f6 (by simp)
    have SB6 := SB.out.keep f6 (by simp)
    obtain ⟨a5, c5, hs5, S5⟩ := slice_h BT SU6 j (by rw [HPL.out]; omega)
    obtain ⟨a6, c6, hs6, S6⟩ := slice_l BT SB6 j (by rw [HBL.out]; omega)
    obtain ⟨S, hSd⟩ : ∃ S, List.take j P ++ List.drop j b = S := ⟨_, rfl⟩
    have HSd := Lib.hid hSd
    have HSL := Lib.hid (show S.length = 256 by have := HPL.out; have := HBL.out; rw [← hSd]; simp; omega)
    have HN := Lib.hid (fun h1 h2 h3 => HNO.out b j (by omega) HBE.out h1 h2 h3)
    rw [hSd] at HN
    have H5 := Lib.hid (fun wx => hs5 j wx rfl)
    have H6 := Lib.hid (fun wx => hs6 j wx rfl)
    have FW := Lib.hid (FF.out.trans f6 (by simp))
    have KU := Lib.hid SU6
    have KB := Lib.hid SB6
    have K5 := Lib.hid S5
    have K6 := Lib.hid S6
    clear hs5 hs6 SU6 SB6 S5 S6 HNO hSd f6 FF
    refine wp_region_any (by kernel_rfl) ?_
    change wpAny _ _ _ _ _ _ _ (World.drew _)
    refine wpAny_take (i := 1) (oi := { dst := some 63, op := Op.move (Operand.tmp 10), type := 32, pos := "outright.go:83", after := #[], guard := none }) (v := ?_) rfl (by kernel_rfl) (by kernel_rfl) (by kernel_rfl) (fun _ _ _ h => h) (Or.inl ⟨by rfl, ?_⟩) ?_
    rotate_left
    focus (intro z; go_simp; try with_reducible rfl)
    try simp only [Act.put, List.setIfInBounds_toArray, List.set_cons_zero, List.set_cons_succ]
    refine wpAny_take (i := 2) (oi := { dst := some 64, op := Op.move (Operand.tmp 3), type := 3, pos := "outright.go:83", after := #[], guard := none }) (v := ?_) rfl (by kernel_rfl) (by kernel_rfl) (by kernel_rfl) (fun _ _ _ h => h) (Or.inl ⟨by rfl, ?_⟩) ?_
    rotate_left
    focus (intro z; go_simp; try with_reducible rfl)
    try simp only [Act.put, List.setIfInBounds_toArray, List.set_cons_zero, List.set_cons_succ]
    refine wpAny_take (i := 3) (oi := { dst := some 65, op := Op.slice 32 (Operand.tmp 63) none (some (Operand.tmp 64)) none, type := 32, pos := "outright.go:83", after := #[{ on := 1, ground := Ground.data }, { on := 2, ground := Ground.data }], guard := none }) rfl (by kernel_rfl) (by kernel_rfl) (by kernel_rfl) (fun _ _ _ h => h) (Or.inl ⟨by rfl, fun z => exec_slice_hA (.tmp 63) (.tmp 64) rfl rfl rfl BT.sl (H5.out z)⟩) ?_
    try simp only [Act.put, List.setIfInBounds_toArray, List.set_cons_zero, List.set_cons_succ]
    refine wpAny_take (i := 5) (oi := { dst := some 67, op := Op.move (Operand.tmp 12), type := 32, pos := "outright.go:83", after := #[], guard := none }) (v := ?_) rfl (by kernel_rfl) (by kernel_rfl) (by kernel_rfl) (fun _ _ _ h => h) (Or.inl ⟨by rfl, ?_⟩) ?_
    rotate_left
    focus (intro z; go_simp; try with_reducible rfl)
    try simp only [Act.put, List.setIfInBounds_toArray, List.set_cons_zero, List.set_cons_succ]
    refine wpAny_take (i := 6) (oi := { dst := some 68, op := Op.move (Operand.tmp 3), type := 3, pos := "outright.go:83", after := #[], guard := none }) (v := ?_) rfl (by kernel_rfl) (by kernel_rfl) (by kernel_rfl) (fun _ _ _ h => h) (Or.inl ⟨by rfl, ?_⟩) ?_
    rotate_left
    focus (intro z; go_simp; try with_reducible rfl)
    try simp only [Act.put, List.setIfInBounds_toArray, List.set_cons_zero, List.set_cons_succ]
    refine wpAny_take (i := 7) (oi := { dst := some 69, op := Op.slice 32 (Operand.tmp 67) (some (Operand.tmp 68)) none none, type := 32, pos := "outright.go:83", after := #[{ on := 5, ground := Ground.data }, { on := 6, ground := Ground.data }], guard := none }) rfl (by kernel_rfl) (by kernel_rfl) (by kernel_rfl) (fun _ _ _ h => h) (Or.inl ⟨by rfl, fun z => Pt.exec_slice_lA (.tmp 67) (.tmp 68) rfl rfl rfl BT.sl (H6.out z)⟩) ?_
    try simp only [Act.put, List.setIfInBounds_toArray, List.set_cons_zero, List.set_cons_succ]
    refine wpAny_ready (rs := [0]) (by kernel_rfl) (by simp) ?_
    refine AllReady.cons (o := { dst := some 62, op := Op.buildSlice 32 0 #[], type := 32, pos := "outright.go:83", after := #[], guard := none }) rfl (fun K hK => ?_) ?_
    · go_simp
      refine hK _ _ ?_
      clear hK K
      try simp only [Act.put, List.setIfInBounds_toArray, List.set_cons_zero, List.set_cons_succ]
      refine wpAny_ready (rs := [4]) (by kernel_rfl) (by simp) ?_
      refine AllReady.cons (o := { dst := some 66, op := Op.call { callee := Callee.builtin Builtin.append, args := #[Operand.tmp 62, Operand.tmp 65], argTypes := #[32, 32] }, type := 32, pos := "outright.go:83", after := #[{ on := 0, ground := Ground.data }, { on := 3, ground := Ground.data }], guard := none }) rfl (fun K hK => ?_) ?_
      · refine step_append_bytes BT (OwnB.of_heap (l := []) (sp := []) (heap_alloc_at rfl) rfl rfl (by decide)) (K5.out.keep ((Frm.refl [] W6).drew.alloc _) (by simp)) (by have := HPL.out; simp; omega) rfl (.tmp 62) (.tmp 65) rfl rfl rfl ?_
        intro a7 c7 w7 sp7 o7 f7 n7
        refine hK _ _ ?_
        clear hK K
        try simp only [Act.put, List.setIfInBounds_toArray, List.set_cons_zero, List.set_cons_succ]
        refine wpAny_ready (rs := [8]) (by kernel_rfl) (by simp) ?_
        refine AllReady.cons (o := { dst := some 70, op := Op.call { callee := Callee.builtin Builtin.append, args := #[Operand.tmp 66, Operand.tmp 69], argTypes := #[32, 32] }, type := 32, pos := "outright.go:83", after := #[{ on := 4, ground := Ground.data }, { on := 7, ground := Ground.data }, { on := 4, ground := Ground.chain }], guard := none }) rfl (fun K hK => ?_) ?_
        · refine step_append_bytes BT o7 (K6.out.keep (((Frm.refl [] W6).drew.alloc (.cells #[] 5)).trans f7 (fun i hi => .inr (by simp [blk] at hi; omega))) (by simp)) (by have := HPL.out; have := HBL.out; simp; omega) rfl (.tmp 66) (.tmp 69) rfl rfl rfl ?_
          intro a8 c8 w8 sp8 o8 f8 n8
          refine hK _ _ ?_
          clear hK K
          try simp only [Act.put, List.setIfInBounds_toArray, List.set_cons_zero, List.set_cons_succ]
          refine wpAny_take (i := 9) (oi := { dst := some 14, op := Op.assign (Operand.tmp 70), type := 32, pos := "outright.go:83", after := #[{ on := 8, ground := Ground.data }, { on := 8, ground := Ground.chain }, { on := 0, ground := Ground.phase }, { on := 1, ground := Ground.phase }, { on := 2, ground := Ground.phase }, { on := 3, ground := Ground.phase }, { on := 4, ground := Ground.phase }, { on := 5, ground := Ground.phase }, { on := 6, ground := Ground.phase }, { on := 7, ground := Ground.phase }, { on := 8, ground := Ground.phase }], guard := none }) (v := ?_) rfl (by kernel_rfl) (by kernel_rfl) (by kernel_rfl) (fun _ _ _ h => h) (Or.inl ⟨by rfl, ?_⟩) ?_
          rotate_left
          focus (intro z; go_simp; try with_reducible rfl)
          try simp only [Act.put, List.setIfInBounds_toArray, List.set_cons_zero, List.set_cons_succ]
          refine wpAny_done (by kernel_rfl) ?_ _
          have el2 : min j P.length + (b.length - j) = 256 := by have := HPL.out; have := HBL.out; omega
          have es : ([] ++ List.take j P) ++ List.drop j b = S := by rw [List.nil_append]; exact HSd.out
          have el : ([] ++ List.take j P).length + (List.drop j b).length = 256 := by simpa using el2
          have FN := Lib.hid (FW.out.trans ((((Frm.refl [] W6).drew.alloc (.cells #[] 5)).trans f7 (fun i hi => .inr (by simp [blk] at hi; omega))).trans f8 (fun i hi => .inr (by rcases n7 i hi with h | h <;> (try simp [blk] at h) <;> (try simp) <;> omega))) (by simp))
          have FM := (((Frm.refl [] W6).drew.alloc (.cells #[] 5)).trans f7 (fun i hi => .inr (by simp [blk] at hi; omega))).trans f8 (fun i hi => .inr (by rcases n7 i hi with h | h <;> (try simp [blk] at h) <;> (try simp) <;> omega))
          rw [es, el] at o8
          rw [el2]
          have LU := Lib.hid (KU.out.keep FM (by simp))
          have LB := Lib.hid (KB.out.keep FM (by simp))
          have LS := Lib.hid o8.sl
          clear es el el2 FM o8 o7 f7 f8 n7 n8 FW KU KB K5 K6 H5 H6 HSd
          by_cases h1 : S = P
          · have HS1 := Lib.hid (Same_any _ _ _ _ _ _ w8 LS.out LU.out)
            rw [show (S == P) = true from beq_iff_eq.2 h1] at HS1
            clear h1
            go_wp2_with (go_at_call 12; refine HS1.out.mono ?_; rintro r w9 ⟨rfl, rfl⟩)
            go_ret
            exact ⟨rfl, FN.out⟩
          have HS1 := Lib.hid (Same_any _ _ _ _ _ _ w8 LS.out LU.out)
          rw [show (S == P) = false from beq_eq_false_iff_ne.2 h1] at HS1
          by_cases h2 : S = b
          · have HS2 := Lib.hid (Same_any _ _ _ _ _ _ w8 LS.out LB.out)
            rw [show (S == b) = true from beq_iff_eq.2 h2] at HS2
            clear h1 h2
            go_wp2_with (go_at_call 12; first | (with_reducible refine Calls.mono HS1.out ?_; rintro r w9 ⟨rfl, rfl⟩) | (with_reducible refine Calls.mono HS2.out ?_; rintro r w9 ⟨rfl, rfl⟩))
            go_ret
            exact ⟨rfl, FN.out⟩
          have HS2 := Lib.hid (Same_any _ _ _ _ _ _ w8 LS.out LB.out)
          rw [show (S == b) = false from beq_eq_false_iff_ne.2 h2] at HS2
          have HN2 := Lib.hid (fun h3 => HN.out h1 h2 h3)
          clear h1 h2 HN
          go_upto_region 16 with (go_at_call 12; first | (with_reducible refine Calls.mono HS1.out ?_; rintro r w9 ⟨rfl, rfl⟩) | (with_reducible refine Calls.mono HS2.out ?_; rintro r w10 ⟨rfl, rfl⟩))
          clear HS1 HS2
          obtain ⟨a9, c9, hs9, S9⟩ := slice_h BT LS.out 224 (by rw [HSL.out]; omega)
          have H9 := Lib.hid (fun wx => hs9 224 wx rfl)
          obtain ⟨D, hD⟩ : ∃ D, Hs.sha (List.take 224 S) = D := ⟨_, rfl⟩
          have HR := Lib.hid (Hs.RefSum_any _ _ _ _ S9 (by have := HSL.out; simp; omega))
          have hDl := sha_length (List.take 224 S)
          rw [hD] at HR hDl
          have HD := Lib.hid hD
          have HDL := Lib.hid hDl
          have M9 := Lib.hid S9
          clear hs9 S9 hD
          go_upto_region 17 with (first
            | ((with_reducible (show wpList _ _ _ (Oper.mk _ (Op.slice 32 _ _ _ _) _ _ _ _ :: _) _ _)); refine wpList_val_g (by rfl) (exec_slice_hA (.tmp 80) (.const (.int .i64 224)) rfl rfl rfl BT.sl (H9.out _)) ?_)
            | ((with_reducible (show wpList _ _ _ (Oper.mk _ (Op.alloc 24) _ _ _ _ :: _) _ _)); refine wpList_lay24 rfl rfl rfl _ _ rfl (s := D) hDl rfl rfl ?_)
            | (go_at_call 26; refine HR.out.mono ?_; rintro r wd ⟨rfl, fd⟩))
          have fe : Frm [] wd (wd.alloc (.cells (bvs D).toArray 24)) := (Frm.refl [] wd).alloc _
          have hb9 : (wd.alloc (.cells (bvs D).toArray 24)).heap[wd.heap.size]? = some (.cells (bvs (D ++ [])).toArray 24 (0, 0)) := by rw [List.append_nil]; exact heap_alloc_new _ _
          have fde := fd.trans fe (by simp)
          have FP := Lib.hid (FN.out.trans fde (by simp))
          have QS := Lib.hid (LS.out.keep fde (by simp))
          have Q9 := Lib.hid (M9.out.keep fde (by simp))
          have QU := LU.out.keep fde (by simp)
          have QB := LB.out.keep fde (by simp)
          have QD := Lib.hid (OwnB.of_heap (l := D) (sp := []) (n := 32) (cap := 32) hb9 hDl.symm (by simp [hDl]) (by decide)).sl
          clear fd fe fde hb9 FN LS M9 LU LB HR hDl
          generalize wd.alloc (.cells (bvs D).toArray 24) = W9 at *
          generalize wd.heap.size = g9 at *
          obtain ⟨au, cu, hsu, SU9⟩ := slice_h BT QU 224 (by rw [HPL.out]; omega)
          obtain ⟨ab, cb, hsb, SB9⟩ := slice_h BT QB 224 (by rw [HBL.out]; omega)
          obtain ⟨at', ct, hst, ST9⟩ := slice_l BT QS.out 224 (by rw [HSL.out]; omega)
          rw [HSL.out] at hst ST9
          simp only [Nat.reduceSub] at hst ST9
          have HU9 := Lib.hid (fun wx => hsu 224 wx rfl)
          have HB9 := Lib.hid (fun wx => hsb 224 wx rfl)
          have HT9 := Lib.hid (fun wx => hst 224 wx rfl)
          have RU9 := Lib.hid SU9
          have RB9 := Lib.hid SB9
          have RT9 := Lib.hid ST9
          have C1 := Lib.hid (fun z (f : Frm [] W9 z) => (Same_any _ _ _ _ _ _ z (Q9.out.keep f (by simp)) (RU9.out.keep f (by simp))).mono (fun r w' (h : _ ∧ _) => (⟨h.1, h.2 ▸ Frm.refl [] z⟩ : _ ∧ Frm [] z w')))
          have C2 := Lib.hid (fun z (f : Frm [] W9 z) => (Same_any _ _ _ _ _ _ z (Q9.out.keep f (by simp)) (RB9.out.keep f (by simp))).mono (fun r w' (h : _ ∧ _) => (⟨h.1, h.2 ▸ Frm.refl [] z⟩ : _ ∧ Frm [] z w')))
          have HUS0 := Lib.hid (fun W (f : Frm [] W9 W) => HU.out _ S _ W (FP.out.trans f (by simp)) (QS.out.keep f (by simp)) (by rw [HSL.out]; decide))
          have zl := zeroU_wf
          have HSZ := Lib.hid (fun x W (h : UbV W x zeroU) => SameUber_any x (uv nilS zeroU) zeroU zeroU W h ⟨none, 0, [], rfl, Pt.SlA.nil W, zeroU_wf⟩ (by decide))
          rw [sameU_refl] at HSZ
          unfold UnpP at HUS0
          clear hsu hsb hst QU QB SU9 SB9 ST9
          by_cases h3 : List.take 224 S = List.take 224 P
          · rw [show (List.take 224 S == List.take 224 P) = true from beq_iff_eq.2 h3] at C1
            have hun := HN2.out (fun h => absurd h3 h)
            rw [hun] at HUS0
            clear hun h3 HN2
            refine wp_region_held_drew (S := fun z => Frm [] W9 z) (by kernel_rfl) ((Frm.refl [] W9).drew) (fun hHeld => ?_)
            refine wpAnyH_take (i := 0) (oi := { dst := some 83, op := Op.move (Operand.tmp 14), type := 32, pos := "outright.go:88", after := #[], guard := none }) (v := ?_) rfl (by kernel_rfl) (by kernel_rfl) (by kernel_rfl) (fun _ _ _ h => h) (Or.inl ⟨by rfl, ?_⟩) hHeld ?_
            rotate_left
            focus (intro z hSw; clear hSw; go_simp; try with_reducible rfl)
            try simp only [Act.put, List.setIfInBounds_toArray, List.set_cons_zero, List.set_cons_succ]
            refine wpAnyH_take (i := 1) (oi := { dst := some 84, op := Op.slice 32 (Operand.tmp 83) none (some (Operand.const (Value.int IntKind.i64 224))) none, type := 32, pos := "outright.go:88", after := #[{ on := 0, ground := Ground.data }], guard := none }) rfl (by kernel_rfl) (by kernel_rfl) (by kernel_rfl) (fun _ _ _ h => h) (Or.inl ⟨by rfl, fun z hSw => exec_slice_hA (.tmp 83) (.const (.int .i64 224)) rfl rfl rfl BT.sl (H9.out z)⟩) hHeld ?_
            try simp only [Act.put, List.setIfInBounds_toArray, List.set_cons_zero, List.set_cons_succ]
            refine wpAnyH_take (i := 2) (oi := { dst := some 85, op := Op.move (Operand.tmp 10), type := 32, pos := "outright.go:88", after := #[], guard := none }) (v := ?_) rfl (by kernel_rfl) (by kernel_rfl) (by kernel_rfl) (fun _ _ _ h => h) (Or.inl ⟨by rfl, ?_⟩) hHeld ?_
            rotate_left
            focus (intro z hSw; clear hSw; go_simp; try with_reducible rfl)
            try simp only [Act.put, List.setIfInBounds_toArray, List.set_cons_zero, List.set_cons_succ]
            refine wpAnyH_take (i := 3) (oi := { dst := some 86, op := Op.slice 32 (Operand.tmp 85) none (some (Operand.const (Value.int IntKind.i64 224))) none, type := 32, pos := "outright.go:88", after := #[{ on := 2, ground := Ground.data }], guard := none }) rfl (by kernel_rfl) (by kernel_rfl) (by kernel_rfl) (fun _ _ _ h => h) (Or.inl ⟨by rfl, fun z hSw => exec_slice_hA (.tmp 85) (.const (.int .i64 224)) rfl rfl rfl BT.sl (HU9.out z)⟩) hHeld ?_
            try simp only [Act.put, List.setIfInBounds_toArray, List.set_cons_zero, List.set_cons_succ]
            refine wpAnyH_ready (rs := [4]) (by kernel_rfl) (by simp) ?_
            refine AllReadyH.cons (o := { dst := some 87, op := Op.call { callee := Callee.value (Operand.func 12), args := #[Operand.tmp 84, Operand.tmp 86], argTypes := #[32, 32] }, type := 4, pos := "outright.go:88", after := #[{ on := 1, ground := Ground.data }, { on := 3, ground := Ground.data }], guard := none }) rfl (fun K hK => ?_) AllReadyH.nil
            go_simp
            refine (C1.out _ hHeld).mono ?_
            rintro r wn ⟨rfl, fn⟩
            refine hK.out _ _ ?_ (fun hNext => ?_)
            · exact hHeld.trans fn (by simp)
            clear hK K hHeld
            have hHeld := hNext
            clear hNext
            try simp only [Act.put, List.setIfInBounds_toArray, List.set_cons_zero, List.set_cons_succ]
            refine wpAnyH_take (i := 5) (oi := { dst := some 88, op := Op.move (Operand.tmp 87), type := 4, pos := "outright.go:88", after := #[{ on := 4, ground := Ground.data }, { on := 4, ground := Ground.chain }], guard := none }) (v := ?_) rfl (by kernel_rfl) (by kernel_rfl) (by kernel_rfl) (fun _ _ _ h => h) (Or.inl ⟨by rfl, ?_⟩) hHeld ?_
            rotate_left
            focus (intro z hSw; clear hSw; go_simp; try with_reducible rfl)
            try simp only [Act.put, List.setIfInBounds_toArray, List.set_cons_zero, List.set_cons_succ]
            refine wpAnyH_take (i := 6) (oi := { dst := some 89, op := Op.move (Operand.tmp 14), type := 32, pos := "outright.go:88", after := #[{ on := 5, ground := Ground.guard }], guard := some (5, false) }) (v := undef) rfl (by kernel_rfl) (by kernel_rfl) (by kernel_rfl) (fun _ _ _ h => h) (Or.inr ⟨by rfl, rfl⟩) hHeld ?_
            try simp only [Act.put, List.setIfInBounds_toArray, List.set_cons_zero, List.set_cons_succ]
            refine wpAnyH_take (i := 7) (oi := { dst := some 90, op := Op.slice 32 (Operand.tmp 89) none (some (Operand.const (Value.int IntKind.i64 224))) none, type := 32, pos := "outright.go:88", after := #[{ on := 6, ground := Ground.data }, { on := 5, ground := Ground.guard }], guard := some (5, false) }) (v := undef) rfl (by kernel_rfl) (by kernel_rfl) (by kernel_rfl) (fun _ _ _ h => h) (Or.inr ⟨by rfl, rfl⟩) hHeld ?_
            try simp only [Act.put, List.setIfInBounds_toArray, List.set_cons_zero, List.set_cons_succ]
            refine wpAnyH_take (i := 8) (oi := { dst := some 91, op := Op.move (Operand.tmp 12), type := 32, pos := "outright.go:88", after := #[{ on := 5, ground := Ground.guard }], guard := some (5, false) }) (v := undef) rfl (by kernel_rfl) (by kernel_rfl) (by kernel_rfl) (fun _ _ _ h => h) (Or.inr ⟨by rfl, rfl⟩) hHeld ?_
            try simp only [Act.put, List.setIfInBounds_toArray, List.set_cons_zero, List.set_cons_succ]
            refine wpAnyH_take (i := 9) (oi := { dst := some 92, op := Op.slice 32 (Operand.tmp 91) none (some (Operand.const (Value.int IntKind.i64 224))) none, type := 32, pos := "outright.go:88", after := #[{ on := 8, ground := Ground.data }, { on := 5, ground := Ground.guard }], guard := some (5, false) }) (v := undef) rfl (by kernel_rfl) (by kernel_rfl) (by kernel_rfl) (fun _ _ _ h => h) (Or.inr ⟨by rfl, rfl⟩) hHeld ?_
            try simp only [Act.put, List.setIfInBounds_toArray, List.set_cons_zero, List.set_cons_succ]
            refine wpAnyH_take (i := 10) (oi := { dst := some 93, op := Op.call { callee := Callee.value (Operand.func 12), args := #[Operand.tmp 90, Operand.tmp 92], argTypes := #[32, 32] }, type := 4, pos := "outright.go:88", after := #[{ on := 7, ground := Ground.data }, { on := 9, ground := Ground.data }, { on := 5, ground := Ground.chain }, { on := 5, ground := Ground.guard }], guard := some (5, false) }) (v := undef) rfl (by kernel_rfl) (by kernel_rfl) (by kernel_rfl) (fun _ _ _ h => h) (Or.inr ⟨by rfl, rfl⟩) hHeld ?_
            try simp only [Act.put, List.setIfInBounds_toArray, List.set_cons_zero, List.set_cons_succ]
            refine wpAnyH_take (i := 11) (oi := { dst := some 94, op := Op.pick (Operand.tmp 88) (Operand.const (Value.bool true)) (Operand.tmp 93), type := 4, pos := "outright.go:88", after := #[{ on := 5, ground := Ground.data }, { on := 10, ground := Ground.data }], guard := none }) (v := ?_) rfl (by kernel_rfl) (by kernel_rfl) (by kernel_rfl) (fun _ _ _ h => h) (Or.inl ⟨by rfl, ?_⟩) hHeld ?_
            rotate_left
            focus (intro z hSw; clear hSw; go_simp; try with_reducible rfl)
            try simp only [Act.put, List.setIfInBounds_toArray, List.set_cons_zero, List.set_cons_succ]
            refine wpAnyH_take (i := 12) (oi := { dst := some 16, op := Op.assign (Operand.tmp 94), type := 4, pos := "outright.go:88", after := #[{ on := 11, ground := Ground.data }, { on := 10, ground := Ground.chain }, { on := 0, ground := Ground.phase }, { on := 1, ground := Ground.phase }, { on := 2, ground := Ground.phase }, { on := 3, ground := Ground.phase }, { on := 4, ground := Ground.phase }, { on := 5, ground := Ground.phase }, { on := 6, ground := Ground.phase }, { on := 7, ground := Ground.phase }, { on := 8, ground := Ground.phase }, { on := 9, ground := Ground.phase }, { on := 10, ground := Ground.phase }, { on := 11, ground := Ground.phase }], guard := none }) (v := ?_) rfl (by kernel_rfl) (by kernel_rfl) (by kernel_rfl) (fun _ _ _ h => h) (Or.inl ⟨by rfl, ?_⟩) hHeld ?_
            rotate_left
            focus (intro z hSw; clear hSw; go_simp; try with_reducible rfl)
            try simp only [Act.put, List.setIfInBounds_toArray, List.set_cons_zero, List.set_cons_succ]
            refine wpAnyH_done (by kernel_rfl) ?_ _
            have FH := Lib.hid hHeld
            clear hHeld
            go_upto_region 18 with fail
            refine wp_region_held_drew (S := fun z => Frm [] W9 z) (by kernel_rfl) (FH.out.drew) (fun hHeld => ?_)
            refine wpAnyH_take (i := 0) (oi := { dst := some 95, op := Op.move (Operand.tmp 16), type := 4, pos := "outright.go:89", after := #[], guard := none }) (v := ?_) rfl (by kernel_rfl) (by kernel_rfl) (by kernel_rfl) (fun _ _ _ h => h) (Or.inl ⟨by rfl, ?_⟩) hHeld ?_
            rotate_left
            focus (intro z hSw; clear hSw; go_simp; try with_reducible rfl)
            try simp only [Act.put, List.setIfInBounds_toArray, List.set_cons_zero, List.set_cons_succ]
            refine wpAnyH_take (i := 1) (oi := { dst := some 96, op := Op.unOp UnOp.not 4 (Operand.tmp 95), type := 4, pos := "outright.go:89", after := #[{ on := 0, ground := Ground.data }], guard := none }) (v := ?_) rfl (by kernel_rfl) (by kernel_rfl) (by kernel_rfl) (fun _ _ _ h => h) (Or.inl ⟨by rfl, ?_⟩) hHeld ?_
            rotate_left
            focus (intro z hSw; clear hSw; go_simp; try with_reducible rfl)
            try simp only [Act.put, List.setIfInBounds_toArray, List.set_cons_zero, List.set_cons_succ]
            refine wpAnyH_take (i := 2) (oi := { dst := some 97, op := Op.move (Operand.tmp 96), type := 4, pos := "outright.go:89", after := #[{ on := 1, ground := Ground.data }], guard := none }) (v := ?_) rfl (by kernel_rfl) (by kernel_rfl) (by kernel_rfl) (fun _ _ _ h => h) (Or.inl ⟨by rfl, ?_⟩) hHeld ?_
            rotate_left
            focus (intro z hSw; clear hSw; go_simp; try with_reducible rfl)
            try simp only [Act.put, List.setIfInBounds_toArray, List.set_cons_zero, List.set_cons_succ]
            refine wpAnyH_take (i := 3) (oi := { dst := some 98, op := Op.buildSlice 32 0 #[], type := 32, pos := "outright.go:89", after := #[{ on := 2, ground := Ground.guard }], guard := some (2, true) }) (v := undef) rfl (by kernel_rfl) (by kernel_rfl) (by kernel_rfl) (fun _ _ _ h => h) (Or.inr ⟨by rfl, rfl⟩) hHeld ?_
            try simp only [Act.put, List.setIfInBounds_toArray, List.set_cons_zero, List.set_cons_succ]
            refine wpAnyH_take (i := 4) (oi := { dst := some 99, op := Op.slice 24 (Operand.tmp 15) none none none, type := 32, pos := "outright.go:89", after := #[{ on := 2, ground := Ground.guard }], guard := some (2, true) }) (v := undef) rfl (by kernel_rfl) (by kernel_rfl) (by kernel_rfl) (fun _ _ _ h => h) (Or.inr ⟨by rfl, rfl⟩) hHeld ?_
            try simp only [Act.put, List.setIfInBounds_toArray, List.set_cons_zero, List.set_cons_succ]
            refine wpAnyH_take (i := 5) (oi := { dst := some 100, op := Op.call { callee := Callee.builtin Builtin.append, args := #[Operand.tmp 98, Operand.tmp 99], argTypes := #[32, 32] }, type := 32, pos := "outright.go:89", after := #[{ on := 3, ground := Ground.data }, { on := 4, ground := Ground.data }, { on := 2, ground := Ground.chain }, { on := 2, ground := Ground.guard }], guard := some (2, true) }) (v := undef) rfl (by kernel_rfl) (by kernel_rfl) (by kernel_rfl) (fun _ _ _ h => h) (Or.inr ⟨by rfl, rfl⟩) hHeld ?_
            try simp only [Act.put, List.setIfInBounds_toArray, List.set_cons_zero, List.set_cons_succ]
            refine wpAnyH_take (i := 6) (oi := { dst := some 101, op := Op.move (Operand.tmp 14), type := 32, pos := "outright.go:89", after := #[{ on := 2, ground := Ground.guard }], guard := some (2, true) }) (v := undef) rfl (by kernel_rfl) (by kernel_rfl) (by kernel_rfl) (fun _ _ _ h => h) (Or.inr ⟨by rfl, rfl⟩) hHeld ?_
            try simp only [Act.put, List.setIfInBounds_toArray, List.set_cons_zero, List.set_cons_succ]
            refine wpAnyH_take (i := 7) (oi := { dst := some 102, op := Op.slice 32 (Operand.tmp 101) (some (Operand.const (Value.int IntKind.i64 224))) none none, type := 32, pos := "outright.go:89", after := #[{ on := 6, ground := Ground.data }, { on := 2, ground := Ground.guard }], guard := some (2, true) }) (v := undef) rfl (by kernel_rfl) (by kernel_rfl) (by kernel_rfl) (fun _ _ _ h => h) (Or.inr ⟨by rfl, rfl⟩) hHeld ?_
            try simp only [Act.put, List.setIfInBounds_toArray, List.set_cons_zero, List.set_cons_succ]
            refine wpAnyH_take (i := 8) (oi := { dst := some 103, op := Op.call { callee := Callee.value (Operand.func 12), args := #[Operand.tmp 100, Operand.tmp 102], argTypes := #[32, 32] }, type := 4, pos := "outright.go:89", after := #[{ on := 5, ground := Ground.data }, { on := 7, ground := Ground.data }, { on := 5, ground := Ground.chain }, { on := 2, ground := Ground.guard }], guard := some (2, true) }) (v := undef) rfl (by kernel_rfl) (by kernel_rfl) (by kernel_rfl) (fun _ _ _ h => h) (Or.inr ⟨by rfl, rfl⟩) hHeld ?_
            try simp only [Act.put, List.setIfInBounds_toArray, List.set_cons_zero, List.set_cons_succ]
            refine wpAnyH_take (i := 9) (oi := { dst := some 104, op := Op.pick (Operand.tmp 97) (Operand.tmp 103) (Operand.const (Value.bool false)), type := 4, pos := "outright.go:89", after := #[{ on := 2, ground := Ground.data }, { on := 8, ground := Ground.data }], guard := none }) (v := ?_) rfl (by kernel_rfl) (by kernel_rfl) (by kernel_rfl) (fun _ _ _ h => h) (Or.inl ⟨by rfl, ?_⟩) hHeld ?_
            rotate_left
            focus (intro z hSw; clear hSw; go_simp; try with_reducible rfl)
            try simp only [Act.put, List.setIfInBounds_toArray, List.set_cons_zero, List.set_cons_succ]
            refine wpAnyH_done (by kernel_rfl) ?_ _
            have FH := Lib.hid hHeld
            clear hHeld
            go_upto_region 21 with (first
              | ((with_reducible (show wpList _ _ _ (Oper.mk _ (Op.alloc 28) _ _ _ _ :: _) _ _)); refine wpList_lay28 rfl rfl rfl _ _ rfl (v := .slice xa zeroU.root.ads.length xc) rfl (u := zeroU) zl rfl rfl ?_)
              | (go_at_call 20; refine (HUS0.out _ FH.out).mono ?_; rintro r wa ⟨xa, xc, xsp, rfl, hxa, fa, na⟩))
            have fb : Frm [] wa (wa.alloc (.cells (uc (.slice xa zeroU.root.ads.length xc) zeroU).toArray 28)) := (Frm.refl [] wa).alloc _
            have G8 := Lib.hid (UB.new wa (.slice xa zeroU.root.ads.length xc) zl).gets.all
            have HX8 := Lib.hid (show UbV (wa.alloc (.cells (uc (.slice xa zeroU.root.ads.length xc) zeroU).toArray 28)) (uv (.slice xa zeroU.root.ads.length xc) zeroU) zeroU from ⟨xa, xc, xsp, rfl, hxa.keep fb (by simp), zeroU_wf⟩)
            have FR := Lib.hid (((FP.out.trans FH.out (by simp)).trans fa (by simp)).trans fb (by simp))
            clear fa fb hxa na
            generalize wa.alloc (.cells (uc (.slice xa zeroU.root.ads.length xc) zeroU).toArray 28) = WB at *
            generalize wa.heap.size = L8 at *
            go_wp2_with (first
              | ((with_reducible (show wpList _ _ _ (Oper.mk _ (Op.load 28 _) _ _ _ _ :: _) _ _)); refine wpList_load_g (by rfl) 28 _ rfl _ rfl G8.out ?_)
              | ((with_reducible (show wpList _ _ _ (Oper.mk _ (Op.build 28 _) _ _ _ _ :: _) _ _)); refine wpList_val_g (by rfl) (exec_bld28z rfl _) ?_)
              | (go_at_call 18; refine (HSZ.out _ _ HX8.out).mono ?_; rintro r wc ⟨rfl, fc⟩))
            go_ret
            exact ⟨rfl, FR.out.trans fc (by simp)⟩
          · rw [show (List.take 224 S == List.take 224 P) = false from beq_eq_false_iff_ne.2 h3] at C1
            by_cases h4 : List.take 224 S = List.take 224 b
            · rw [show (List.take 224 S == List.take 224 b) = true from beq_iff_eq.2 h4] at C2
              have hun := HN2.out (fun _ h => absurd h4 h)
              rw [hun] at HUS0
              clear hun h3 h4 HN2
              refine wp_region_held_drew (S := fun z => Frm [] W9 z) (by kernel_rfl) ((Frm.refl [] W9).drew) (fun hHeld => ?_)
              refine wpAnyH_take (i := 0) (oi := { dst := some 83, op := Op.move (Operand.tmp 14), type := 32, pos := "outright.go:88", after := #[], guard := none }) (v := ?_) rfl (by kernel_rfl) (by kernel_rfl) (by kernel_rfl) (fun _ _ _ h => h) (Or.inl ⟨by rfl, ?_⟩) hHeld ?_
              rotate_left
              focus (intro z hSw; clear hSw; go_simp; try with_reducible rfl)
              try simp only [Act.put, List.setIfInBounds_toArray, List.set_cons_zero, List.set_cons_succ]
              refine wpAnyH_take (i := 1) (oi := { dst := some 84, op := Op.slice 32 (Operand.tmp 83) none (some (Operand.const (Value.int IntKind.i64 224))) none, type := 32, pos := "outright.go:88", after := #[{ on := 0, ground := Ground.data }], guard := none }) rfl (by kernel_rfl) (by kernel_rfl) (by kernel_rfl) (fun _ _ _ h => h) (Or.inl ⟨by rfl, fun z hSw => exec_slice_hA (.tmp 83) (.const (.int .i64 224)) rfl rfl rfl BT.sl (H9.out z)⟩) hHeld ?_
              try simp only [Act.put, List.setIfInBounds_toArray, List.set_cons_zero, List.set_cons_succ]
              refine wpAnyH_take (i := 2) (oi := { dst := some 85, op := Op.move (Operand.tmp 10), type := 32, pos := "outright.go:88", after := #[], guard := none }) (v := ?_) rfl (by kernel_rfl) (by kernel_rfl) (by kernel_rfl) (fun _ _ _ h => h) (Or.inl ⟨by rfl, ?_⟩) hHeld ?_
              rotate_left
              focus (intro z hSw; clear hSw; go_simp; try with_reducible rfl)
              try simp only [Act.put, List.setIfInBounds_toArray, List.set_cons_zero, List.set_cons_succ]
              refine wpAnyH_take (i := 3) (oi := { dst := some 86, op := Op.slice 32 (Operand.tmp 85) none (some (Operand.const (Value.int IntKind.i64 224))) none, type := 32, pos := "outright.go:88", after := #[{ on := 2, ground := Ground.data }], guard := none }) rfl (by kernel_rfl) (by kernel_rfl) (by kernel_rfl) (fun _ _ _ h => h) (Or.inl ⟨by rfl, fun z hSw => exec_slice_hA (.tmp 85) (.const (.int .i64 224)) rfl rfl rfl BT.sl (HU9.out z)⟩) hHeld ?_
              try simp only [Act.put, List.setIfInBounds_toArray, List.set_cons_zero, List.set_cons_succ]
              refine wpAnyH_ready (rs := [4]) (by kernel_rfl) (by simp) ?_
              refine AllReadyH.cons (o := { dst := some 87, op := Op.call { callee := Callee.value (Operand.func 12), args := #[Operand.tmp 84, Operand.tmp 86], argTypes := #[32, 32] }, type := 4, pos := "outright.go:88", after := #[{ on := 1, ground := Ground.data }, { on := 3, ground := Ground.data }], guard := none }) rfl (fun K hK => ?_) AllReadyH.nil
              go_simp
              refine (C1.out _ hHeld).mono ?_
              rintro r wn ⟨rfl, fn⟩
              refine hK.out _ _ ?_ (fun hNext => ?_)
              · exact hHeld.trans fn (by simp)
              clear hK K hHeld
              have hHeld := hNext
              clear hNext
              try simp only [Act.put, List.setIfInBounds_toArray, List.set_cons_zero, List.set_cons_succ]
              refine wpAnyH_take (i := 5) (oi := { dst := some 88, op := Op.move (Operand.tmp 87), type := 4, pos := "outright.go:88", after := #[{ on := 4, ground := Ground.data }, { on := 4, ground := Ground.chain }], guard := none }) (v := ?_) rfl (by kernel_rfl) (by kernel_rfl) (by kernel_rfl) (fun _ _ _ h => h) (Or.inl ⟨by rfl, ?_⟩) hHeld ?_
              rotate_left
              focus (intro z hSw; clear hSw; go_simp; try with_reducible rfl)
              try simp only [Act.put, List.setIfInBounds_toArray, List.set_cons_zero, List.set_cons_succ]
              refine wpAnyH_take (i := 6) (oi := { dst := some 89, op := Op.move (Operand.tmp 14), type := 32, pos := "outright.go:88", after := #[{ on := 5, ground := Ground.guard }], guard := some (5, false) }) (v := ?_) rfl (by kernel_rfl) (by kernel_rfl) (by kernel_rfl) (fun _ _ _ h => h) (Or.inl ⟨by rfl, ?_⟩) hHeld ?_
              rotate_left
              focus (intro z hSw; clear hSw; go_simp; try with_reducible rfl)
              try simp only [Act.put, List.setIfInBounds_toArray, List.set_cons_zero, List.set_cons_succ]
              refine wpAnyH_take (i := 7) (oi := { dst := some 90, op := Op.slice 32 (Operand.tmp 89) none (some (Operand.const (Value.int IntKind.i64 224))) none, type := 32, pos := "outright.go:88", after := #[{ on := 6, ground := Ground.data }, { on := 5, ground := Ground.guard }], guard := some (5, false) }) rfl (by kernel_rfl) (by kernel_rfl) (by kernel_rfl) (fun _ _ _ h => h) (Or.inl ⟨by rfl, fun z hSw => exec_slice_hA (.tmp 89) (.const (.int .i64 224)) rfl rfl rfl BT.sl (H9.out z)⟩) hHeld ?_
              try simp only [Act.put, List.setIfInBounds_toArray, List.set_cons_zero, List.set_cons_succ]
              refine wpAnyH_take (i := 8) (oi := { dst := some 91, op := Op.move (Operand.tmp 12), type := 32, pos := "outright.go:88", after := #[{ on := 5, ground := Ground.guard }], guard := some (5, false) }) (v := ?_) rfl (by kernel_rfl) (by kernel_rfl) (by kernel_rfl) (fun _ _ _ h => h) (Or.inl ⟨by rfl, ?_⟩) hHeld ?_
              rotate_left
              focus (intro z hSw; clear hSw; go_simp; try with_reducible rfl)
              try simp only [Act.put, List.setIfInBounds_toArray, List.set_cons_zero, List.set_cons_succ]
              refine wpAnyH_take (i := 9) (oi := { dst := some 92, op := Op.slice 32 (Operand.tmp 91) none (some (Operand.const (Value.int IntKind.i64 224))) none, type := 32, pos := "outright.go:88", after := #[{ on := 8, ground := Ground.data }, { on := 5, ground := Ground.guard }], guard := some (5, false) }) rfl (by kernel_rfl) (by kernel_rfl) (by kernel_rfl) (fun _ _ _ h => h) (Or.inl ⟨by rfl, fun z hSw => exec_slice_hA (.tmp 91) (.const (.int .i64 224)) rfl rfl rfl BT.sl (HB9.out z)⟩) hHeld ?_
              try simp only [Act.put, List.setIfInBounds_toArray, List.set_cons_zero, List.set_cons_succ]
              refine wpAnyH_ready (rs := [10]) (by kernel_rfl) (by simp) ?_
              refine AllReadyH.cons (o := { dst := some 93, op := Op.call { callee := Callee.value (Operand.func 12), args := #[Operand.tmp 90, Operand.tmp 92], argTypes := #[32, 32] }, type := 4, pos := "outright.go:88", after := #[{ on := 7, ground := Ground.data }, { on := 9, ground := Ground.data }, { on := 5, ground := Ground.chain }, { on := 5, ground := Ground.guard }], guard := some (5, false) }) rfl (fun K hK => ?_) AllReadyH.nil
              go_simp
              refine (C2.out _ hHeld).mono ?_
              rintro r wn ⟨rfl, fn⟩
              refine hK.out _ _ ?_ (fun hNext => ?_)
              · exact hHeld.trans fn (by simp)
              clear hK K hHeld
              have hHeld := hNext
              clear hNext
              try simp only [Act.put, List.setIfInBounds_toArray, List.set_cons_zero, List.set_cons_succ]
              refine wpAnyH_take (i := 11) (oi := { dst := some 94, op := Op.pick (Operand.tmp 88) (Operand.const (Value.bool true)) (Operand.tmp 93), type := 4, pos := "outright.go:88", after := #[{ on := 5, ground := Ground.data }, { on := 10, ground := Ground.data }], guard := none }) (v := ?_) rfl (by kernel_rfl) (by kernel_rfl) (by kernel_rfl) (fun _ _ _ h => h) (Or.inl ⟨by rfl, ?_⟩) hHeld ?_
              rotate_left
              focus (intro z hSw; clear hSw; go_simp; try with_reducible rfl)
              try simp only [Act.put, List.setIfInBounds_toArray, List.set_cons_zero, List.set_cons_succ]
              refine wpAnyH_take (i := 12) (oi := { dst := some 16, op := Op.assign (Operand.tmp 94), type := 4, pos := "outright.go:88", after := #[{ on := 11, ground := Ground.data }, { on := 10, ground := Ground.chain }, { on := 0, ground := Ground.phase }, { on := 1, ground := Ground.phase }, { on := 2, ground := Ground.phase }, { on := 3, ground := Ground.phase }, { on := 4, ground := Ground.phase }, { on := 5, ground := Ground.phase }, { on := 6, ground := Ground.phase }, { on := 7, ground := Ground.phase }, { on := 8, ground := Ground.phase }, { on := 9, ground := Ground.phase }, { on := 10, ground := Ground.phase }, { on := 11, ground := Ground.phase }], guard := none }) (v := ?_) rfl (by kernel_rfl) (by kernel_rfl) (by kernel_rfl) (fun _ _ _ h => h) (Or.inl ⟨by rfl, ?_⟩) hHeld ?_
              rotate_left
              focus (intro z hSw; clear hSw; go_simp; try with_reducible rfl)
              try simp only [Act.put, List.setIfInBounds_toArray, List.set_cons_zero, List.set_cons_succ]
              refine wpAnyH_done (by kernel_rfl) ?_ _
              have FH := Lib.hid hHeld
              clear hHeld
              go_upto_region 18 with fail
              refine wp_region_held_drew (S := fun z => Frm [] W9 z) (by kernel_rfl) (FH.out.drew) (fun hHeld => ?_)
              refine wpAnyH_take (i := 0) (oi := { dst := some 95, op := Op.move (Operand.tmp 16), type := 4, pos := "outright.go:89", after := #[], guard := none }) (v := ?_) rfl (by kernel_rfl) (by kernel_rfl) (by kernel_rfl) (fun _ _ _ h => h) (Or.inl ⟨by rfl, ?_⟩) hHeld ?_
              rotate_left
              focus (intro z hSw; clear hSw; go_simp; try with_reducible rfl)
              try simp only [Act.put, List.setIfInBounds_toArray, List.set_cons_zero, List.set_cons_succ]
              refine wpAnyH_take (i := 1) (oi := { dst := some 96, op := Op.unOp UnOp.not 4 (Operand.tmp 95), type := 4, pos := "outright.go:89", after := #[{ on := 0, ground := Ground.data }], guard := none }) (v := ?_) rfl (by kernel_rfl) (by kernel_rfl) (by kernel_rfl) (fun _ _ _ h => h) (Or.inl ⟨by rfl, ?_⟩) hHeld ?_
              rotate_left
              focus (intro z hSw; clear hSw; go_simp; try with_reducible rfl)
              try simp only [Act.put, List.setIfInBounds_toArray, List.set_cons_zero, List.set_cons_succ]
              refine wpAnyH_take (i := 2) (oi := { dst := some 97, op := Op.move (Operand.tmp 96), type := 4, pos := "outright.go:89", after := #[{ on := 1, ground := Ground.data }], guard := none }) (v := ?_) rfl (by kernel_rfl) (by kernel_rfl) (by kernel_rfl) (fun _ _ _ h => h) (Or.inl ⟨by rfl, ?_⟩) hHeld ?_
              rotate_left
              focus (intro z hSw; clear hSw; go_simp; try with_reducible rfl)
              try simp only [Act.put, List.setIfInBounds_toArray, List.set_cons_zero, List.set_cons_succ]
              refine wpAnyH_take (i := 3) (oi := { dst := some 98, op := Op.buildSlice 32 0 #[], type := 32, pos := "outright.go:89", after := #[{ on := 2, ground := Ground.guard }], guard := some (2, true) }) (v := undef) rfl (by kernel_rfl) (by kernel_rfl) (by kernel_rfl) (fun _ _ _ h => h) (Or.inr ⟨by rfl, rfl⟩) hHeld ?_
              try simp only [Act.put, List.setIfInBounds_toArray, List.set_cons_zero, List.set_cons_succ]
              refine wpAnyH_take (i := 4) (oi := { dst := some 99, op := Op.slice 24 (Operand.tmp 15) none none none, type := 32, pos := "outright.go:89", after := #[{ on := 2, ground := Ground.guard }], guard := some (2, true) }) (v := undef) rfl (by kernel_rfl) (by kernel_rfl) (by kernel_rfl) (fun _ _ _ h => h) (Or.inr ⟨by rfl, rfl⟩) hHeld ?_
              try simp only [Act.put, List.setIfInBounds_toArray, List.set_cons_zero, List.set_cons_succ]
              refine wpAnyH_take (i := 5) (oi := { dst := some 100, op := Op.call { callee := Callee.builtin Builtin.append, args := #[Operand.tmp 98, Operand.tmp 99], argTypes := #[32, 32] }, type := 32, pos := "outright.go:89", after := #[{ on := 3, ground := Ground.data }, { on := 4, ground := Ground.data }, { on := 2, ground := Ground.chain }, { on := 2, ground := Ground.guard }], guard := some (2, true) }) (v := undef) rfl (by kernel_rfl) (by kernel_rfl) (by kernel_rfl) (fun _ _ _ h => h) (Or.inr ⟨by rfl, rfl⟩) hHeld ?_
              try simp only [Act.put, List.setIfInBounds_toArray, List.set_cons_zero, List.set_cons_succ]
              refine wpAnyH_take (i := 6) (oi := { dst := some 101, op := Op.move (Operand.tmp 14), type := 32, pos := "outright.go:89", after := #[{ on := 2, ground := Ground.guard }], guard := some (2, true) }) (v := undef) rfl (by kernel_rfl) (by kernel_rfl) (by kernel_rfl) (fun _ _ _ h => h) (Or.inr ⟨by rfl, rfl⟩) hHeld ?_
              try simp only [Act.put, List.setIfInBounds_toArray, List.set_cons_zero, List.set_cons_succ]
              refine wpAnyH_take (i := 7) (oi := { dst := some 102, op := Op.slice 32 (Operand.tmp 101) (some (Operand.const (Value.int IntKind.i64 224))) none none, type := 32, pos := "outright.go:89", after := #[{ on := 6, ground := Ground.data }, { on := 2, ground := Ground.guard }], guard := some (2, true) }) (v := undef) rfl (by kernel_rfl) (by kernel_rfl) (by kernel_rfl) (fun _ _ _ h => h) (Or.inr ⟨by rfl, rfl⟩) hHeld ?_
              try simp only [Act.put, List.setIfInBounds_toArray, List.set_cons_zero, List.set_cons_succ]
              refine wpAnyH_take (i := 8) (oi := { dst := some 103, op := Op.call { callee := Callee.value (Operand.func 12), args := #[Operand.tmp 100, Operand.tmp 102], argTypes := #[32, 32] }, type := 4, pos := "outright.go:89", after := #[{ on := 5, ground := Ground.data }, { on := 7, ground := Ground.data }, { on := 5, ground := Ground.chain }, { on := 2, ground := Ground.guard }], guard := some (2, true) }) (v := undef) rfl (by kernel_rfl) (by kernel_rfl) (by kernel_rfl) (fun _ _ _ h => h) (Or.inr ⟨by rfl, rfl⟩) hHeld ?_
              try simp only [Act.put, List.setIfInBounds_toArray, List.set_cons_zero, List.set_cons_succ]
              refine wpAnyH_take (i := 9) (oi := { dst := some 104, op := Op.pick (Operand.tmp 97) (Operand.tmp 103) (Operand.const (Value.bool false)), type := 4, pos := "outright.go:89", after := #[{ on := 2, ground := Ground.data }, { on := 8, ground := Ground.data }], guard := none }) (v := ?_) rfl (by kernel_rfl) (by kernel_rfl) (by kernel_rfl) (fun _ _ _ h => h) (Or.inl ⟨by rfl, ?_⟩) hHeld ?_
              rotate_left
              focus (intro z hSw; clear hSw; go_simp; try with_reducible rfl)
              try simp only [Act.put, List.setIfInBounds_toArray, List.set_cons_zero, List.set_cons_succ]
              refine wpAnyH_done (by kernel_rfl) ?_ _
              have FH := Lib.hid hHeld
              clear hHeld
              go_upto_region 21 with (first
                | ((with_reducible (show wpList _ _ _ (Oper.mk _ (Op.alloc 28) _ _ _ _ :: _) _ _)); refine wpList_lay28 rfl rfl rfl _ _ rfl (v := .slice xa zeroU.root.ads.length xc) rfl (u := zeroU) zl rfl rfl ?_)
                | (go_at_call 20; refine (HUS0.out _ FH.out).mono ?_; rintro r wa ⟨xa, xc, xsp, rfl, hxa, fa, na⟩))
              have fb : Frm [] wa (wa.alloc (.cells (uc (.slice xa zeroU.root.ads.length xc) zeroU).toArray 28)) := (Frm.refl [] wa).alloc _
              have G8 := Lib.hid (UB.new wa (.slice xa zeroU.root.ads.length xc) zl).gets.all
              have HX8 := Lib.hid (show UbV (wa.alloc (.cells (uc (.slice xa zeroU.root.ads.length xc) zeroU).toArray 28)) (uv (.slice xa zeroU.root.ads.length xc) zeroU) zeroU from ⟨xa, xc, xsp, rfl, hxa.keep fb (by simp), zeroU_wf⟩)
              have FR := Lib.hid (((FP.out.trans FH.out (by simp)).trans fa (by simp)).trans fb (by simp))
              clear fa fb hxa na
              generalize wa.alloc (.cells (uc (.slice xa zeroU.root.ads.length xc) zeroU).toArray 28) = WB at *
              generalize wa.heap.size = L8 at *
              go_wp2_with (first
                | ((with_reducible (show wpList _ _ _ (Oper.mk _ (Op.load 28 _) _ _ _ _ :: _) _ _)); refine wpList_load_g (by rfl) 28 _ rfl _ rfl G8.out ?_)
                | ((with_reducible (show wpList _ _ _ (Oper.mk _ (Op.build 28 _) _ _ _ _ :: _) _ _)); refine wpList_val_g (by rfl) (exec_bld28z rfl _) ?_)
                | (go_at_call 18; refine (HSZ.out _ _ HX8.out).mono ?_; rintro r wc ⟨rfl, fc⟩))
              go_ret
              exact ⟨rfl, FR.out.trans fc (by simp)⟩
            · rw [show (List.take 224 S == List.take 224 b) = false from beq_eq_false_iff_ne.2 h4] at C2
              have HN3 := Lib.hid (fun (h : D ≠ List.drop 224 S) => HN2.out (fun _ _ e => h (HD.out.symm.trans e)))
              clear h3 h4 HN2
              refine wp_region_held_drew (S := fun z => Frm [] W9 z) (by kernel_rfl) ((Frm.refl [] W9).drew) (fun hHeld => ?_)
              refine wpAnyH_take (i := 0) (oi := { dst := some 83, op := Op.move (Operand.tmp 14), type := 32, pos := "outright.go:88", after := #[], guard := none }) (v := ?_) rfl (by kernel_rfl) (by kernel_rfl) (by kernel_rfl) (fun _ _ _ h => h) (Or.inl ⟨by rfl, ?_⟩) hHeld ?_
              rotate_left
              focus (intro z hSw; clear hSw; go_simp; try with_reducible rfl)
              try simp only [Act.put, List.setIfInBounds_toArray, List.set_cons_zero, List.set_cons_succ]
              refine wpAnyH_take (i := 1) (oi := { dst := some 84, op := Op.slice 32 (Operand.tmp 83) none (some (Operand.const (Value.int IntKind.i64 224))) none, type := 32, pos := "outright.go:88", after := #[{ on := 0, ground := Ground.data }], guard := none }) rfl (by kernel_rfl) (by kernel_rfl) (by kernel_rfl) (fun _ _ _ h => h) (Or.inl ⟨by rfl, fun z hSw => exec_slice_hA (.tmp 83) (.const (.int .i64 224)) rfl rfl rfl BT.sl (H9.out z)⟩) hHeld ?_
              try simp only [Act.put, List.setIfInBounds_toArray, List.set_cons_zero, List.set_cons_succ]
              refine wpAnyH_take (i := 2) (oi := { dst := some 85, op := Op.move (Operand.tmp 10), type := 32, pos := "outright.go:88", after := #[], guard := none }) (v := ?_) rfl (by kernel_rfl) (by kernel_rfl) (by kernel_rfl) (fun _ _ _ h => h) (Or.inl ⟨by rfl, ?_⟩) hHeld ?_
              rotate_left
              focus (intro z hSw; clear hSw; go_simp; try with_reducible rfl)
              try simp only [Act.put, List.setIfInBounds_toArray, List.set_cons_zero, List.set_cons_succ]
              refine wpAnyH_take (i := 3) (oi := { dst := some 86, op := Op.slice 32 (Operand.tmp 85) none (some (Operand.const (Value.int IntKind.i64 224))) none, type := 32, pos := "outright.go:88", after := #[{ on := 2, ground := Ground.data }], guard := none }) rfl (by kernel_rfl) (by kernel_rfl) (by kernel_rfl) (fun _ _ _ h => h) (Or.inl ⟨by rfl, fun z hSw => exec_slice_hA (.tmp 85) (.const (.int .i64 224)) rfl rfl rfl BT.sl (HU9.out z)⟩) hHeld ?_
              try simp only [Act.put, List.setIfInBounds_toArray, List.set_cons_zero, List.set_cons_succ]
              refine wpAnyH_ready (rs := [4]) (by kernel_rfl) (by simp) ?_
              refine AllReadyH.cons (o := { dst := some 87, op := Op.call { callee := Callee.value (Operand.func 12), args := #[Operand.tmp 84, Operand.tmp 86], argTypes := #[32, 32] }, type := 4, pos := "outright.go:88", after := #[{ on := 1, ground := Ground.data }, { on := 3, ground := Ground.data }], guard := none }) rfl (fun K hK => ?_) AllReadyH.nil
              go_simp
              refine (C1.out _ hHeld).mono ?_
              rintro r wn ⟨rfl, fn⟩
              refine hK.out _ _ ?_ (fun hNext => ?_)
              · exact hHeld.trans fn (by simp)
              clear hK K hHeld
              have hHeld := hNext
              clear hNext
              try simp only [Act.put, List.setIfInBounds_toArray, List.set_cons_zero, List.set_cons_succ]
              refine wpAnyH_take (i := 5) (oi := { dst := some 88, op := Op.move (Operand.tmp 87), type := 4, pos := "outright.go:88", after := #[{ on := 4, ground := Ground.data }, { on := 4, ground := Ground.chain }], guard := none }) (v := ?_) rfl (by kernel_rfl) (by kernel_rfl) (by kernel_rfl) (fun _ _ _ h => h) (Or.inl ⟨by rfl, ?_⟩) hHeld ?_
              rotate_left
              focus (intro z hSw; clear hSw; go_simp; try with_reducible rfl)
              try simp only [Act.put, List.setIfInBounds_toArray, List.set_cons_zero, List.set_cons_succ]
              refine wpAnyH_take (i := 6) (oi := { dst := some 89, op := Op.move (Operand.tmp 14), type := 32, pos := "outright.go:88", after := #[{ on := 5, ground := Ground.guard }], guard := some (5, false) }) (v := ?_) rfl (by kernel_rfl) (by kernel_rfl) (by kernel_rfl) (fun _ _ _ h => h) (Or.inl ⟨by rfl, ?_⟩) hHeld ?_
              rotate_left
              focus (intro z hSw; clear hSw; go_simp; try with_reducible rfl)
              try simp only [Act.put, List.setIfInBounds_toArray, List.set_cons_zero, List.set_cons_succ]
              refine wpAnyH_take (i := 7) (oi := { dst := some 90, op := Op.slice 32 (Operand.tmp 89) none (some (Operand.const (Value.int IntKind.i64 224))) none, type := 32, pos := "outright.go:88", after := #[{ on := 6, ground := Ground.data }, { on := 5, ground := Ground.guard }], guard := some (5, false) }) rfl (by kernel_rfl) (by kernel_rfl) (by kernel_rfl) (fun _ _ _ h => h) (Or.inl ⟨by rfl, fun z hSw => exec_slice_hA (.tmp 89) (.const (.int .i64 224)) rfl rfl rfl BT.sl (H9.out z)⟩) hHeld ?_
              try simp only [Act.put, List.setIfInBounds_toArray, List.set_cons_zero, List.set_cons_succ]
              refine wpAnyH_take (i := 8) (oi := { dst := some 91, op := Op.move (Operand.tmp 12), type := 32, pos := "outright.go:88", after := #[{ on := 5, ground := Ground.guard }], guard := some (5, false) }) (v := ?_) rfl (by kernel_rfl) (by kernel_rfl) (by kernel_rfl) (fun _ _ _ h => h) (Or.inl ⟨by rfl, ?_⟩) hHeld ?_
              rotate_left
              focus (intro z hSw; clear hSw; go_simp; try with_reducible rfl)
              try simp only [Act.put, List.setIfInBounds_toArray, List.set_cons_zero, List.set_cons_succ]
              refine wpAnyH_take (i := 9) (oi := { dst := some 92, op := Op.slice 32 (Operand.tmp 91) none (some (Operand.const (Value.int IntKind.i64 224))) none, type := 32, pos := "outright.go:88", after := #[{ on := 8, ground := Ground.data }, { on := 5, ground := Ground.guard }], guard := some (5, false) }) rfl (by kernel_rfl) (by kernel_rfl) (by kernel_rfl) (fun _ _ _ h => h) (Or.inl ⟨by rfl, fun z hSw => exec_slice_hA (.tmp 91) (.const (.int .i64 224)) rfl rfl rfl BT.sl (HB9.out z)⟩) hHeld ?_
              try simp only [Act.put, List.setIfInBounds_toArray, List.set_cons_zero, List.set_cons_succ]
              refine wpAnyH_ready (rs := [10]) (by kernel_rfl) (by simp) ?_
              refine AllReadyH.cons (o := { dst := some 93, op := Op.call { callee := Callee.value (Operand.func 12), args := #[Operand.tmp 90, Operand.tmp 92], argTypes := #[32, 32] }, type := 4, pos := "outright.go:88", after := #[{ on := 7, ground := Ground.data }, { on := 9, ground := Ground.data }, { on := 5, ground := Ground.chain }, { on := 5, ground := Ground.guard }], guard := some (5, false) }) rfl (fun K hK => ?_) AllReadyH.nil
              go_simp
              refine (C2.out _ hHeld).mono ?_
              rintro r wn ⟨rfl, fn⟩
              refine hK.out _ _ ?_ (fun hNext => ?_)
              · exact hHeld.trans fn (by simp)
              clear hK K hHeld
              have hHeld := hNext
              clear hNext
              try simp only [Act.put, List.setIfInBounds_toArray, List.set_cons_zero, List.set_cons_succ]
              refine wpAnyH_take (i := 11) (oi := { dst := some 94, op := Op.pick (Operand.tmp 88) (Operand.const (Value.bool true)) (Operand.tmp 93), type := 4, pos := "outright.go:88", after := #[{ on := 5, ground := Ground.data }, { on := 10, ground := Ground.data }], guard := none }) (v := ?_) rfl (by kernel_rfl) (by kernel_rfl) (by kernel_rfl) (fun _ _ _ h => h) (Or.inl ⟨by rfl, ?_⟩) hHeld ?_
              rotate_left
              focus (intro z hSw; clear hSw; go_simp; try with_reducible rfl)
              try simp only [Act.put, List.setIfInBounds_toArray, List.set_cons_zero, List.set_cons_succ]
              refine wpAnyH_take (i := 12) (oi := { dst := some 16, op := Op.assign (Operand.tmp 94), type := 4, pos := "outright.go:88", after := #[{ on := 11, ground := Ground.data }, { on := 10, ground := Ground.chain }, { on := 0, ground := Ground.phase }, { on := 1, ground := Ground.phase }, { on := 2, ground := Ground.phase }, { on := 3, ground := Ground.phase }, { on := 4, ground := Ground.phase }, { on := 5, ground := Ground.phase }, { on := 6, ground := Ground.phase }, { on := 7, ground := Ground.phase }, { on := 8, ground := Ground.phase }, { on := 9, ground := Ground.phase }, { on := 10, ground := Ground.phase }, { on := 11, ground := Ground.phase }], guard := none }) (v := ?_) rfl (by kernel_rfl) (by kernel_rfl) (by kernel_rfl) (fun _ _ _ h => h) (Or.inl ⟨by rfl, ?_⟩) hHeld ?_
              rotate_left
              focus (intro z hSw; clear hSw; go_simp; try with_reducible rfl)
              try simp only [Act.put, List.setIfInBounds_toArray, List.set_cons_zero, List.set_cons_succ]
              refine wpAnyH_done (by kernel_rfl) ?_ _
              have FH := Lib.hid hHeld
              clear hHeld
              go_upto_region 18 with fail
              by_cases h5 : D = List.drop 224 S
              · have HEQ := Lib.hid (show (D == List.drop 224 S) = true from beq_iff_eq.2 h5)
                clear h5 HN3
                refine wp_region_any (by kernel_rfl) ?_
                change wpAny _ _ _ _ _ _ _ (World.drew _)
                refine wpAny_take (i := 0) (oi := { dst := some 95, op := Op.move (Operand.tmp 16), type := 4, pos := "outright.go:89", after := #[], guard := none }) (v := ?_) rfl (by kernel_rfl) (by kernel_rfl) (by kernel_rfl) (fun _ _ _ h => h) (Or.inl ⟨by rfl, ?_⟩) ?_
                rotate_left
                focus (intro z; go_simp; try with_reducible rfl)
                try simp only [Act.put, List.setIfInBounds_toArray, List.set_cons_zero, List.set_cons_succ]
                refine wpAny_take (i := 1) (oi := { dst := some 96, op := Op.unOp UnOp.not 4 (Operand.tmp 95), type := 4, pos := "outright.go:89", after := #[{ on := 0, ground := Ground.data }], guard := none }) (v := ?_) rfl (by kernel_rfl) (by kernel_rfl) (by kernel_rfl) (fun _ _ _ h => h) (Or.inl ⟨by rfl, ?_⟩) ?_
                rotate_left
                focus (intro z; go_simp; try with_reducible rfl)
                try simp only [Act.put, List.setIfInBounds_toArray, List.set_cons_zero, List.set_cons_succ]
                refine wpAny_take (i := 2) (oi := { dst := some 97, op := Op.move (Operand.tmp 96), type := 4, pos := "outright.go:89", after := #[{ on := 1, ground := Ground.data }], guard := none }) (v := ?_) rfl (by kernel_rfl) (by kernel_rfl) (by kernel_rfl) (fun _ _ _ h => h) (Or.inl ⟨by rfl, ?_⟩) ?_
                rotate_left
                focus (intro z; go_simp; try with_reducible rfl)
                try simp only [Act.put, List.setIfInBounds_toArray, List.set_cons_zero, List.set_cons_succ]
                refine wpAny_take (i := 4) (oi := { dst := some 99, op := Op.slice 24 (Operand.tmp 15) none none none, type := 32, pos := "outright.go:89", after := #[{ on := 2, ground := Ground.guard }], guard := some (2, true) }) (v := ?_) rfl (by kernel_rfl) (by kernel_rfl) (by kernel_rfl) (fun _ _ _ h => h) (Or.inl ⟨by rfl, ?_⟩) ?_
                rotate_left
                focus (intro z; go_simp; try with_reducible rfl)
                try simp only [Act.put, List.setIfInBounds_toArray, List.set_cons_zero, List.set_cons_succ]
                refine wpAny_take (i := 6) (oi := { dst := some 101, op := Op.move (Operand.tmp 14), type := 32, pos := "outright.go:89", after := #[{ on := 2, ground := Ground.guard }], guard := some (2, true) }) (v := ?_) rfl (by kernel_rfl) (by kernel_rfl) (by kernel_rfl) (fun _ _ _ h => h) (Or.inl ⟨by rfl, ?_⟩) ?_
                rotate_left
                focus (intro z; go_simp; try with_reducible rfl)
                try simp only [Act.put, List.setIfInBounds_toArray, List.set_cons_zero, List.set_cons_succ]
                refine wpAny_take (i := 7) (oi := { dst := some 102, op := Op.slice 32 (Operand.tmp 101) (some (Operand.const (Value.int IntKind.i64 224))) none none, type := 32, pos := "outright.go:89", after := #[{ on := 6, ground := Ground.data }, { on := 2, ground := Ground.guard }], guard := some (2, true) }) rfl (by kernel_rfl) (by kernel_rfl) (by kernel_rfl) (fun _ _ _ h => h) (Or.inl ⟨by rfl, fun z => Pt.exec_slice_lA (.tmp 101) (.const (.int .i64 224)) rfl rfl rfl BT.sl (HT9.out z)⟩) ?_
                try simp only [Act.put, List.setIfInBounds_toArray, List.set_cons_zero, List.set_cons_succ]
                refine wpAny_ready (rs := [3]) (by kernel_rfl) (by simp) ?_
                refine AllReady.cons (o := { dst := some 98, op := Op.buildSlice 32 0 #[], type := 32, pos := "outright.go:89", after := #[{ on := 2, ground := Ground.guard }], guard := some (2, true) }) rfl (fun K hK => ?_) ?_
                · go_simp
                  refine hK _ _ ?_
                  clear hK K
                  try simp only [Act.put, List.setIfInBounds_toArray, List.set_cons_zero, List.set_cons_succ]
                  refine wpAny_ready (rs := [5]) (by kernel_rfl) (by simp) ?_
                  refine AllReady.cons (o := { dst := some 100, op := Op.call { callee := Callee.builtin Builtin.append, args := #[Operand.tmp 98, Operand.tmp 99], argTypes := #[32, 32] }, type := 32, pos := "outright.go:89", after := #[{ on := 3, ground := Ground.data }, { on := 4, ground := Ground.data }, { on := 2, ground := Ground.chain }, { on := 2, ground := Ground.guard }], guard := some (2, true) }) rfl (fun K hK => ?_) ?_
                  · refine step_append_bytes_g BT (OwnB.of_heap (l := []) (sp := []) (heap_alloc_at rfl) rfl rfl (by decide)) (QD.out.keep (FH.out.drew.alloc _) (by simp)) (by have := HDL.out; simp; omega) (by rfl) (.tmp 98) (.tmp 99) rfl rfl rfl ?_
                    intro ae ce we spe oe fe
                    have FE := Lib.hid ((FH.out.drew.alloc (.cells #[] 5)).trans fe (fun i hi => .inr (by have := FH.out.size; simp [blk] at hi; omega)))
                    have el : ([] : List UInt8).length + D.length = 32 := by rw [HDL.out]; rfl
                    rw [el, List.nil_append] at oe
                    rw [el]
                    clear el fe
                    refine hK _ _ ?_
                    clear hK K
                    try simp only [Act.put, List.setIfInBounds_toArray, List.set_cons_zero, List.set_cons_succ]
                    refine wpAny_ready (rs := [8]) (by kernel_rfl) (by simp) ?_
                    refine AllReady.cons (o := { dst := some 103, op := Op.call { callee := Callee.value (Operand.func 12), args := #[Operand.tmp 100, Operand.tmp 102], argTypes := #[32, 32] }, type := 4, pos := "outright.go:89", after := #[{ on := 5, ground := Ground.data }, { on := 7, ground := Ground.data }, { on := 5, ground := Ground.chain }, { on := 2, ground := Ground.guard }], guard := some (2, true) }) rfl (fun K hK => ?_) ?_
                    · have HS9 := Same_any _ _ _ _ _ _ we oe.sl (RT9.out.keep FE.out (by simp))
                      rw [HEQ.out] at HS9
                      go_simp
                      refine HS9.mono ?_
                      rintro r wf ⟨rfl, rfl⟩
                      clear HS9 oe
                      refine hK _ _ ?_
                      clear hK K
                      try simp only [Act.put, List.setIfInBounds_toArray, List.set_cons_zero, List.set_cons_succ]
                      refine wpAny_take (i := 9) (oi := { dst := some 104, op := Op.pick (Operand.tmp 97) (Operand.tmp 103) (Operand.const (Value.bool false)), type := 4, pos := "outright.go:89", after := #[{ on := 2, ground := Ground.data }, { on := 8, ground := Ground.data }], guard := none }) (v := ?_) rfl (by kernel_rfl) (by kernel_rfl) (by kernel_rfl) (fun _ _ _ h => h) (Or.inl ⟨by rfl, ?_⟩) ?_
                      rotate_left
                      focus (intro z; go_simp; try with_reducible rfl)
                      try simp only [Act.put, List.setIfInBounds_toArray, List.set_cons_zero, List.set_cons_succ]
                      refine wpAny_done (by kernel_rfl) ?_ _
                      go_wp2_with fail
                      go_ret
                      exact ⟨rfl, FP.out.trans FE.out (by simp)⟩
                    exact AllReady.nil
                  exact AllReady.nil
                exact AllReady.nil
              · have HEQ := Lib.hid (show (D == List.drop 224 S) = false from beq_eq_false_iff_ne.2 h5)
                have hun := HN3.out h5
                rw [hun] at HUS0
                clear h5 HN3 hun
                refine wp_region_any (by kernel_rfl) ?_
                change wpAny _ _ _ _ _ _ _ (World.drew _)
                refine wpAny_take (i := 0) (oi := { dst := some 95, op := Op.move (Operand.tmp 16), type := 4, pos := "outright.go:89", after := #[], guard := none }) (v := ?_) rfl (by kernel_rfl) (by kernel_rfl) (by kernel_rfl) (fun _ _ _ h => h) (Or.inl ⟨by rfl, ?_⟩) ?_
                rotate_left
                focus (intro z; go_simp; try with_reducible rfl)
                try simp only [Act.put, List.setIfInBounds_toArray, List.set_cons_zero, List.set_cons_succ]
                refine wpAny_take (i := 1) (oi := { dst := some 96, op := Op.unOp UnOp.not 4 (Operand.tmp 95), type := 4, pos := "outright.go:89", after := #[{ on := 0, ground := Ground.data }], guard := none }) (v := ?_) rfl (by kernel_rfl) (by kernel_rfl) (by kernel_rfl) (fun _ _ _ h => h) (Or.inl ⟨by rfl, ?_⟩) ?_
                rotate_left
                focus (intro z; go_simp; try with_reducible rfl)
                try simp only [Act.put, List.setIfInBounds_toArray, List.set_cons_zero, List.set_cons_succ]
                refine wpAny_take (i := 2) (oi := { dst := some 97, op := Op.move (Operand.tmp 96), type := 4, pos := "outright.go:89", after := #[{ on := 1, ground := Ground.data }], guard := none }) (v := ?_) rfl (by kernel_rfl) (by kernel_rfl) (by kernel_rfl) (fun _ _ _ h => h) (Or.inl ⟨by rfl, ?_⟩) ?_
                rotate_left
                focus (intro z; go_simp; try with_reducible rfl)
                try simp only [Act.put, List.setIfInBounds_toArray, List.set_cons_zero, List.set_cons_succ]
                refine wpAny_take (i := 4) (oi := { dst := some 99, op := Op.slice 24 (Operand.tmp 15) none none none, type := 32, pos := "outright.go:89", after := #[{ on := 2, ground := Ground.guard }], guard := some (2, true) }) (v := ?_) rfl (by kernel_rfl) (by kernel_rfl) (by kernel_rfl) (fun _ _ _ h => h) (Or.inl ⟨by rfl, ?_⟩) ?_
                rotate_left
                focus (intro z; go_simp; try with_reducible rfl)
                try simp only [Act.put, List.setIfInBounds_toArray, List.set_cons_zero, List.set_cons_succ]
                refine wpAny_take (i := 6) (oi := { dst := some 101, op := Op.move (Operand.tmp 14), type := 32, pos := "outright.go:89", after := #[{ on := 2, ground := Ground.guard }], guard := some (2, true) }) (v := ?_) rfl (by kernel_rfl) (by kernel_rfl) (by kernel_rfl) (fun _ _ _ h => h) (Or.inl ⟨by rfl, ?_⟩) ?_
                rotate_left
                focus (intro z; go_simp; try with_reducible rfl)
                try simp only [Act.put, List.setIfInBounds_toArray, List.set_cons_zero, List.set_cons_succ]
                refine wpAny_take (i := 7) (oi := { dst := some 102, op := Op.slice 32 (Operand.tmp 101) (some (Operand.const (Value.int IntKind.i64 224))) none none, type := 32, pos := "outright.go:89", after := #[{ on := 6, ground := Ground.data }, { on := 2, ground := Ground.guard }], guard := some (2, true) }) rfl (by kernel_rfl) (by kernel_rfl) (by kernel_rfl) (fun _ _ _ h => h) (Or.inl ⟨by rfl, fun z => Pt.exec_slice_lA (.tmp 101) (.const (.int .i64 224)) rfl rfl rfl BT.sl (HT9.out z)⟩) ?_
                try simp only [Act.put, List.setIfInBounds_toArray, List.set_cons_zero, List.set_cons_succ]
                refine wpAny_ready (rs := [3]) (by kernel_rfl) (by simp) ?_
                refine AllReady.cons (o := { dst := some 98, op := Op.buildSlice 32 0 #[], type := 32, pos := "outright.go:89", after := #[{ on := 2, ground := Ground.guard }], guard := some (2, true) }) rfl (fun K hK => ?_) ?_
                · go_simp
                  refine hK _ _ ?_
                  clear hK K
                  try simp only [Act.put, List.setIfInBounds_toArray, List.set_cons_zero, List.set_cons_succ]
                  refine wpAny_ready (rs := [5]) (by kernel_rfl) (by simp) ?_
                  refine AllReady.cons (o := { dst := some 100, op := Op.call { callee := Callee.builtin Builtin.append, args := #[Operand.tmp 98, Operand.tmp 99], argTypes := #[32, 32] }, type := 32, pos := "outright.go:89", after := #[{ on := 3, ground := Ground.data }, { on := 4, ground := Ground.data }, { on := 2, ground := Ground.chain }, { on := 2, ground := Ground.guard }], guard := some (2, true) }) rfl (fun K hK => ?_) ?_
                  · refine step_append_bytes_g BT (OwnB.of_heap (l := []) (sp := []) (heap_alloc_at rfl) rfl rfl (by decide)) (QD.out.keep (FH.out.drew.alloc _) (by simp)) (by have := HDL.out; simp; omega) (by rfl) (.tmp 98) (.tmp 99) rfl rfl rfl ?_
                    intro ae ce we spe oe fe
                    have FE := Lib.hid ((FH.out.drew.alloc (.cells #[] 5)).trans fe (fun i hi => .inr (by have := FH.out.size; simp [blk] at hi; omega)))
                    have el : ([] : List UInt8).length + D.length = 32 := by rw [HDL.out]; rfl
                    rw [el, List.nil_append] at oe
                    rw [el]
                    clear el fe
                    refine hK _ _ ?_
                    clear hK K
                    try simp only [Act.put, List.setIfInBounds_toArray, List.set_cons_zero, List.set_cons_succ]
                    refine wpAny_ready (rs := [8]) (by kernel_rfl) (by simp) ?_
                    refine AllReady.cons (o := { dst := some 103, op := Op.call { callee := Callee.value (Operand.func 12), args := #[Operand.tmp 100, Operand.tmp 102], argTypes := #[32, 32] }, type := 4, pos := "outright.go:89", after := #[{ on := 5, ground := Ground.data }, { on := 7, ground := Ground.data }, { on := 5, ground := Ground.chain }, { on := 2, ground := Ground.guard }], guard := some (2, true) }) rfl (fun K hK => ?_) ?_
                    · have HS9 := Same_any _ _ _ _ _ _ we oe.sl (RT9.out.keep FE.out (by simp))
                      rw [HEQ.out] at HS9
                      go_simp
                      refine HS9.mono ?_
                      rintro r wf ⟨rfl, rfl⟩
                      clear HS9 oe
                      refine hK _ _ ?_
                      clear hK K
                      try simp only [Act.put, List.setIfInBounds_toArray, List.set_cons_zero, List.set_cons_succ]
                      refine wpAny_take (i := 9) (oi := { dst := some 104, op := Op.pick (Operand.tmp 97) (Operand.tmp 103) (Operand.const (Value.bool false)), type := 4, pos := "outright.go:89", after := #[{ on := 2, ground := Ground.data }, { on := 8, ground := Ground.data }], guard := none }) (v := ?_) rfl (by kernel_rfl) (by kernel_rfl) (by kernel_rfl) (fun _ _ _ h => h) (Or.inl ⟨by rfl, ?_⟩) ?_
                      rotate_left
                      focus (intro z; go_simp; try with_reducible rfl)
                      try simp only [Act.put, List.setIfInBounds_toArray, List.set_cons_zero, List.set_cons_succ]
                      refine wpAny_done (by kernel_rfl) ?_ _
                      have FH := FE
                      clear FE
                      go_upto_region 21 with (first
                        | ((with_reducible (show wpList _ _ _ (Oper.mk _ (Op.alloc 28) _ _ _ _ :: _) _ _)); refine wpList_lay28 rfl rfl rfl _ _ rfl (v := .slice xa zeroU.root.ads.length xc) rfl (u := zeroU) zl rfl rfl ?_)
                        | (go_at_call 20; refine (HUS0.out _ FH.out).mono ?_; rintro r wa ⟨xa, xc, xsp, rfl, hxa, fa, na⟩))
                      have fb : Frm [] wa (wa.alloc (.cells (uc (.slice xa zeroU.root.ads.length xc) zeroU).toArray 28)) := (Frm.refl [] wa).alloc _
                      have G8 := Lib.hid (UB.new wa (.slice xa zeroU.root.ads.length xc) zl).gets.all
                      have HX8 := Lib.hid (show UbV (wa.alloc (.cells (uc (.slice xa zeroU.root.ads.length xc) zeroU).toArray 28)) (uv (.slice xa zeroU.root.ads.length xc) zeroU) zeroU from ⟨xa, xc, xsp, rfl, hxa.keep fb (by simp), zeroU_wf⟩)
                      have FR := Lib.hid (((FP.out.trans FH.out (by simp)).trans fa (by simp)).trans fb (by simp))
                      clear fa fb hxa na
                      generalize wa.alloc (.cells (uc (.slice xa zeroU.root.ads.length xc) zeroU).toArray 28) = WB at *
                      generalize wa.heap.size = L8 at *
                      go_wp2_with (first
                        | ((with_reducible (show wpList _ _ _ (Oper.mk _ (Op.load 28 _) _ _ _ _ :: _) _ _)); refine wpList_load_g (by rfl) 28 _ rfl _ rfl G8.out ?_)
                        | ((with_reducible (show wpList _ _ _ (Oper.mk _ (Op.build 28 _) _ _ _ _ :: _) _ _)); refine wpList_val_g (by rfl) (exec_bld28z rfl _) ?_)
                        | (go_at_call 18; refine (HSZ.out _ _ HX8.out).mono ?_; rintro r wc ⟨rfl, fc⟩))
                      go_ret
                      exact ⟨rfl, FR.out.trans fc (by simp)⟩
                    exact AllReady.nil
                  exact AllReady.nil
                exact AllReady.nil
        exact AllReady.nil
      exact AllReady.nil
    exact AllReady.nil
  | false =>
    obtain ⟨b, hbe⟩ : ∃ b, T = b := ⟨_, rfl⟩
    have HBE := Lib.hid (show b = T ∨ b = List.replicate 256 0 from .inl hbe.symm)
    have HBL := Lib.hid (show b.length = 256 by rw [← hbe, HTL.out])
    have SB := Lib.hid (show SlB W3 (.slice a3 256 c3) b s3 by rw [← hbe]; exact ST.out)
    have FF := F3
    clear hbe F3 ST
    go_upto_region 13 with (go_at_call 25; refine (HPK.out _).mono ?_; rintro r W6 ⟨j, hj, rfl, f6⟩)
    have SU6 := SU.out.keep f6 (by simp)
    have SB6 := SB.out.keep f6 (by simp)
    obtain ⟨a5, c5, hs5, S5⟩ := slice_h BT SU6 j (by rw [HPL.out]; omega)
    obtain ⟨a6, c6, hs6, S6⟩ := slice_l BT SB6 j (by rw [HBL.out]; omega)
    obtain ⟨S, hSd⟩ : ∃ S, List.take j P ++ List.drop j b = S := ⟨_, rfl⟩
    have HSd := Lib.hid hSd
    have HSL := Lib.hid (show S.length = 256 by have := HPL.out; have := HBL.out; rw [← hSd]; simp; omega)
    have HN := Lib.hid (fun h1 h2 h3 => HNO.out b j (by omega) HBE.out h1 h2 h3)
    rw [hSd] at HN
    have H5 := Lib.hid (fun wx => hs5 j wx rfl)
    have H6 := Lib.hid (fun wx => hs6 j wx rfl)
    have FW := Lib.hid (FF.out.trans f6 (by simp))
    have KU := Lib.hid SU6
    have KB := Lib.hid SB6
    have K5 := Lib.hid S5
    have K6 := Lib.hid S6
    clear hs5 hs6 SU6 SB6 S5 S6 HNO hSd f6 FF
    refine wp_region_any (by kernel_rfl) ?_
    change wpAny _ _ _ _ _ _ _ (World.drew _)
    refine wpAny_take (i := 1) (oi := { dst := some 63, op := Op.move (Operand.tmp 10), type := 32, pos := "outright.go:83", after := #[], guard := none }) (v := ?_) rfl (by kernel_rfl) (by kernel_rfl) (by kernel_rfl) (fun _ _ _ h => h) (Or.inl ⟨by rfl, ?_⟩) ?_
    rotate_left
    focus (intro z; go_simp; try with_reducible rfl)
    try simp only [Act.put, List.setIfInBounds_toArray, List.set_cons_zero, List.set_cons_succ]
    refine wpAny_take (i := 2) (oi := { dst := some 64, op := Op.move (Operand.tmp 3), type := 3, pos := "outright.go:83", after := #[], guard := none }) (v := ?_) rfl (by kernel_rfl) (by kernel_rfl) (by kernel_rfl) (fun _ _ _ h => h) (Or.inl ⟨by rfl, ?_⟩) ?_
    rotate_left
    focus (intro z; go_simp; try with_reducible rfl)
    try simp only [Act.put, List.setIfInBounds_toArray, List.set_cons_zero, List.set_cons_succ]
    refine wpAny_take (i := 3) (oi := { dst := some 65, op := Op.slice 32 (Operand.tmp 63) none (some (Operand.tmp 64)) none, type := 32, pos := "outright.go:83", after := #[{ on := 1, ground := Ground.data }, { on := 2, ground := Ground.data }], guard := none }) rfl (by kernel_rfl) (by kernel_rfl) (by kernel_rfl) (fun _ _ _ h => h) (Or.inl ⟨by rfl, fun z => exec_slice_hA (.tmp 63) (.tmp 64) rfl rfl rfl BT.sl (H5.out z)⟩) ?_
    try simp only [Act.put, List.setIfInBounds_toArray, List.set_cons_zero, List.set_cons_succ]
    refine wpAny_take (i := 5) (oi := { dst := some 67, op := Op.move (Operand.tmp 12), type := 32, pos := "outright.go:83", after := #[], guard := none }) (v := ?_) rfl (by kernel_rfl) (by kernel_rfl) (by kernel_rfl) (fun _ _ _ h => h) (Or.inl ⟨by rfl, ?_⟩) ?_
    rotate_left
    focus (intro z; go_simp; try with_reducible rfl)
    try simp only [Act.put, List.setIfInBounds_toArray, List.set_cons_zero, List.set_cons_succ]
    refine wpAny_take (i := 6) (oi := { dst := some 68, op := Op.move (Operand.tmp 3), type := 3, pos := "outright.go:83", after := #[], guard := none }) (v := ?_) rfl (by kernel_rfl) (by kernel_rfl) (by kernel_rfl) (fun _ _ _ h => h) (Or.inl ⟨by rfl, ?_⟩) ?_
    rotate_left
    focus (intro z; go_simp; try with_reducible rfl)
    try simp only [Act.put, List.setIfInBounds_toArray, List.set_cons_zero, List.set_cons_succ]
    refine wpAny_take (i := 7) (oi := { dst := some 69, op := Op.slice 32 (Operand.tmp 67) (some (Operand.tmp 68)) none none, type := 32, pos := "outright.go:83", after := #[{ on := 5, ground := Ground.data }, { on := 6, ground := Ground.data }], guard := none }) rfl (by kernel_rfl) (by kernel_rfl) (by kernel_rfl) (fun _ _ _ h => h) (Or.inl ⟨by rfl, fun z => Pt.exec_slice_lA (.tmp 67) (.tmp 68) rfl rfl rfl BT.sl (H6.out z)⟩) ?_
    try simp only [Act.put, List.setIfInBounds_toArray, List.set_cons_zero, List.set_cons_succ]
    refine wpAny_ready (rs := [0]) (by kernel_rfl) (by simp) ?_
    refine AllReady.cons (o := { dst := some 62, op := Op.buildSlice 32 0 #[], type := 32, pos := "outright.go:83", after := #[], guard := none }) rfl (fun K hK => ?_) ?_
    · go_simp
      refine hK _ _ ?_
      clear hK K
      try simp only [Act.put, List.setIfInBounds_toArray, List.set_cons_zero, List.set_cons_succ]
      refine wpAny_ready (rs := [4]) (by kernel_rfl) (by simp) ?_
      refine AllReady.cons (o := { dst := some 66, op := Op.call { callee := Callee.builtin Builtin.append, args := #[Operand.tmp 62, Operand.tmp 65], argTypes := #[32, 32] }, type := 32, pos := "outright.go:83", after := #[{ on := 0, ground := Ground.data }, { on := 3, ground := Ground.data }], guard := none }) rfl (fun K hK => ?_) ?_
      · refine step_append_bytes BT (OwnB.of_heap (l := []) (sp := []) (heap_alloc_at rfl) rfl rfl (by decide)) (K5.out.keep ((Frm.refl [] W6).drew.alloc _) (by simp)) (by have := HPL.out; simp; omega) rfl (.tmp 62) (.tmp 65) rfl rfl rfl ?_
        intro a7 c7 w7 sp7 o7 f7 n7
        refine hK _ _ ?_
        clear hK K
        try simp only [Act.put, List.setIfInBounds_toArray, List.set_cons_zero, List.set_cons_succ]
        refine wpAny_ready (rs := [8]) (by kernel_rfl) (by simp) ?_
        refine AllReady.cons (o := { dst := some 70, op := Op.call { callee := Callee.builtin Builtin.append, args := #[Operand.tmp 66, Operand.tmp 69], argTypes := #[32, 32] }, type := 32, pos := "outright.go:83", after := #[{ on := 4, ground := Ground.data }, { on := 7, ground := Ground.data }, { on := 4, ground := Ground.chain }], guard := none }) rfl (fun K hK => ?_) ?_
        · refine step_append_bytes BT o7 (K6.out.keep (((Frm.refl [] W6).drew.alloc (.cells #[] 5)).trans f7 (fun i hi => .inr (by simp [blk] at hi; omega))) (by simp)) (by have := HPL.out; have := HBL.out; simp; omega) rfl (.tmp 66) (.tmp 69) rfl rfl rfl ?_
          intro a8 c8 w8 sp8 o8 f8 n8
          refine hK _ _ ?_
          clear hK K
          try simp only [Act.put, List.setIfInBounds_toArray, List.set_cons_zero, List.set_cons_succ]
          refine wpAny_take (i := 9) (oi := { dst := some 14, op := Op.assign (Operand.tmp 70), type := 32, pos := "outright.go:83", after := #[{ on := 8, ground := Ground.data }, { on := 8, ground := Ground.chain }, { on := 0, ground := Ground.phase }, { on := 1, ground := Ground.phase }, { on := 2, ground := Ground.phase }, { on := 3, ground := Ground.phase }, { on := 4, ground := Ground.phase }, { on := 5, ground := Ground.phase }, { on := 6, ground := Ground.phase }, { on := 7, ground := Ground.phase }, { on := 8, ground := Ground.phase }], guard := none }) (v := ?_) rfl (by kernel_rfl) (by kernel_rfl) (by kernel_rfl) (fun _ _ _ h => h) (Or.inl ⟨by rfl, ?_⟩) ?_
          rotate_left
          focus (intro z; go_simp; try with_reducible rfl)
          try simp only [Act.put, List.setIfInBounds_toArray, List.set_cons_zero, List.set_cons_succ]
          refine wpAny_done (by kernel_rfl) ?_ _
          have el2 : min j P.length + (b.length - j) = 256 := by have := HPL.out; have := HBL.out; omega
          have es : ([] ++ List.take j P) ++ List.drop j b = S := by rw [List.nil_append]; exact HSd.out
          have el : ([] ++ List.take j P).length + (List.drop j b).length = 256 := by simpa using el2
          have FN := Lib.hid (FW.out.trans ((((Frm.refl [] W6).drew.alloc (.cells #[] 5)).trans f7 (fun i hi => .inr (by simp [blk] at hi; omega))).trans f8 (fun i hi => .inr (by rcases n7 i hi with h | h <;> (try simp [blk] at h) <;> (try simp) <;> omega))) (by simp))
          have FM := (((Frm.refl [] W6).drew.alloc (.cells #[] 5)).trans f7 (fun i hi => .inr (by simp [blk] at hi; omega))).trans f8 (fun i hi => .inr (by rcases n7 i hi with h | h <;> (try simp [blk] at h) <;> (try simp) <;> omega))
          rw [es, el] at o8
          rw [el2]
          have LU := Lib.hid (KU.out.keep FM (by simp))
          have LB := Lib.hid (KB.out.keep FM (by simp))
          have LS := Lib.hid o8.sl
          clear es el el2 FM o8 o7 f7 f8 n7 n8 FW KU KB K5 K6 H5 H6 HSd
          by_cases h1 : S = P
          · have HS1 := Lib.hid (Same_any _ _ _ _ _ _ w8 LS.out LU.out)
            rw [show (S == P) = true from beq_iff_eq.2 h1] at HS1
            clear h1
            go_wp2_with (go_at_call 12; refine HS1.out.mono ?_; rintro r w9 ⟨rfl, rfl⟩)
            go_ret
            exact ⟨rfl, FN.out⟩
          have HS1 := Lib.hid (Same_any _ _ _ _ _ _ w8 LS.out LU.out)
          rw [show (S == P) = false from beq_eq_false_iff_ne.2 h1] at HS1
          by_cases h2 : S = b
          · have HS2 := Lib.hid (Same_any _ _ _ _ _ _ w8 LS.out LB.out)
            rw [show (S == b) = true from beq_iff_eq.2 h2] at HS2
            clear h1 h2
            go_wp2_with (go_at_call 12; first | (with_reducible refine Calls.mono HS1.out ?_; rintro r w9 ⟨rfl, rfl⟩) | (with_reducible refine Calls.mono HS2.out ?_; rintro r w9 ⟨rfl, rfl⟩))
            go_ret
            exact ⟨rfl, FN.out⟩
          have HS2 := Lib.hid (Same_any _ _ _ _ _ _ w8 LS.out LB.out)
          rw [show (S == b) = false from beq_eq_false_iff_ne.2 h2] at HS2
          have HN2 := Lib.hid (fun h3 => HN.out h1 h2 h3)
          clear h1 h2 HN
          go_upto_region 16 with (go_at_call 12; first | (with_reducible refine Calls.mono HS1.out ?_; rintro r w9 ⟨rfl, rfl⟩) | (with_reducible refine Calls.mono HS2.out ?_; rintro r w10 ⟨rfl, rfl⟩))
          clear HS1 HS2
          obtain ⟨a9, c9, hs9, S9⟩ := slice_h BT LS.out 224 (by rw [HSL.out]; omega)
          have H9 := Lib.hid (fun wx => hs9 224 wx rfl)
          obtain ⟨D, hD⟩ : ∃ D, Hs.sha (List.take 224 S) = D := ⟨_, rfl⟩
          have HR := Lib.hid (Hs.RefSum_any _ _ _ _ S9 (by have := HSL.out; simp; omega))
          have hDl := sha_length (List.take 224 S)
          rw [hD] at HR hDl
          have HD := Lib.hid hD
          have HDL := Lib.hid hDl
          have M9 := Lib.hid S9
          clear hs9 S9 hD
          go_upto_region 17 with (first
            | ((with_reducible (show wpList _ _ _ (Oper.mk _ (Op.slice 32 _ _ _ _) _ _ _ _ :: _) _ _)); refine wpList_val_g (by rfl) (exec_slice_hA (.tmp 80) (.const (.int .i64 224)) rfl rfl rfl BT.sl (H9.out _)) ?_)
            | ((with_reducible (show wpList _ _ _ (Oper.mk _ (Op.alloc 24) _ _ _ _ :: _) _ _)); refine wpList_lay24 rfl rfl rfl _ _ rfl (s := D) hDl rfl rfl ?_)
            | (go_at_call 26; refine HR.out.mono ?_; rintro r wd ⟨rfl, fd⟩))
          have fe : Frm [] wd (wd.alloc (.cells (bvs D).toArray 24)) := (Frm.refl [] wd).alloc _
          have hb9 : (wd.alloc (.cells (bvs D).toArray 24)).heap[wd.heap.size]? = some (.cells (bvs (D ++ [])).toArray 24 (0, 0)) := by rw [List.append_nil]; exact heap_alloc_new _ _
          have fde := fd.trans fe (by simp)
          have FP := Lib.hid (FN.out.trans fde (by simp))
          have QS := Lib.hid (LS.out.keep fde (by simp))
          have Q9 := Lib.hid (M9.out.keep fde (by simp))
          have QU := LU.out.keep fde (by simp)
          have QB := LB.out.keep fde (by simp)
          have QD := Lib.hid (OwnB.of_heap (l := D) (sp := []) (n := 32) (cap := 32) hb9 hDl.symm (by simp [hDl]) (by decide)).sl
          clear fd fe fde hb9 FN LS M9 LU LB HR hDl
          generalize wd.alloc (.cells (bvs D).toArray 24) = W9 at *
          generalize wd.heap.size = g9 at *
          obtain ⟨au, cu, hsu, SU9⟩ := slice_h BT QU 224 (by rw [HPL.out]; omega)
          obtain ⟨ab, cb, hsb, SB9⟩ := slice_h BT QB 224 (by rw [HBL.out]; omega)
          obtain ⟨at', ct, hst, ST9⟩ := slice_l BT QS.out 224 (by rw [HSL.out]; omega)
          rw [HSL.out] at hst ST9
          simp only [Nat.reduceSub] at hst ST9
          have HU9 := Lib.hid (fun wx => hsu 224 wx rfl)
          have HB9 := Lib.hid (fun wx => hsb 224 wx rfl)
          have HT9 := Lib.hid (fun wx => hst 224 wx rfl)
          have RU9 := Lib.hid SU9
          have RB9 := Lib.hid SB9
          have RT9 := Lib.hid ST9
          have C1 := Lib.hid (fun z (f : Frm [] W9 z) => (Same_any _ _ _ _ _ _ z (Q9.out.keep f (by simp)) (RU9.out.keep f (by simp))).mono (fun r w' (h : _ ∧ _) => (⟨h.1, h.2 ▸ Frm.refl [] z⟩ : _ ∧ Frm [] z w')))
          have C2 := Lib.hid (fun z (f : Frm [] W9 z) => (Same_any _ _ _ _ _ _ z (Q9.out.keep f (by simp)) (RB9.out.keep f (by simp))).mono (fun r w' (h : _ ∧ _) => (⟨h.1, h.2 ▸ Frm.refl [] z⟩ : _ ∧ Frm [] z w')))
          have HUS0 := Lib.hid (fun W (f : Frm [] W9 W) => HU.out _ S _ W (FP.out.trans f (by simp)) (QS.out.keep f (by simp)) (by rw [HSL.out]; decide))
          have zl := zeroU_wf
          have HSZ := Lib.hid (fun x W (h : UbV W x zeroU) => SameUber_any x (uv nilS zeroU) zeroU zeroU W h ⟨none, 0, [], rfl, Pt.SlA.nil W, zeroU_wf⟩ (by decide))
          rw [sameU_refl] at HSZ
          unfold UnpP at HUS0
          clear hsu hsb hst QU QB SU9 SB9 ST9
          by_cases h3 : List.take 224 S = List.take 224 P
          · rw [show (List.take 224 S == List.take 224 P) = true from beq_iff_eq.2 h3] at C1
            have hun := HN2.out (fun h => absurd h3 h)
            rw [hun] at HUS0
            clear hun h3 HN2
            refine wp_region_held_drew (S := fun z => Frm [] W9 z) (by kernel_rfl) ((Frm.refl [] W9).drew) (fun hHeld => ?_)
            refine wpAnyH_take (i := 0) (oi := { dst := some 83, op := Op.move (Operand.tmp 14), type := 32, pos := "outright.go:88", after := #[], guard := none }) (v := ?_) rfl (by kernel_rfl) (by kernel_rfl) (by kernel_rfl) (fun _ _ _ h => h) (Or.inl ⟨by rfl, ?_⟩) hHeld ?_
            rotate_left
            focus (intro z hSw; clear hSw; go_simp; try with_reducible rfl)
            try simp only [Act.put, List.setIfInBounds_toArray, List.set_cons_zero, List.set_cons_succ]
            refine wpAnyH_take (i := 1) (oi := { dst := some 84, op := Op.slice 32 (Operand.tmp 83) none (some (Operand.const (Value.int IntKind.i64 224))) none, type := 32, pos := "outright.go:88", after := #[{ on := 0, ground := Ground.data }], guard := none }) rfl (by kernel_rfl) (by kernel_rfl) (by kernel_rfl) (fun _ _ _ h => h) (Or.inl ⟨by rfl, fun z hSw => exec_slice_hA (.tmp 83) (.const (.int .i64 224)) rfl rfl rfl BT.sl (H9.out z)⟩) hHeld ?_
            try simp only [Act.put, List.setIfInBounds_toArray, List.set_cons_zero, List.set_cons_succ]
            refine wpAnyH_take (i := 2) (oi := { dst := some 85, op := Op.move (Operand.tmp 10), type := 32, pos := "outright.go:88", after := #[], guard := none }) (v := ?_) rfl (by kernel_rfl) (by kernel_rfl) (by kernel_rfl) (fun _ _ _ h => h) (Or.inl ⟨by rfl, ?_⟩) hHeld ?_
            rotate_left
            focus (intro z hSw; clear hSw; go_simp; try with_reducible rfl)
            try simp only [Act.put, List.setIfInBounds_toArray, List.set_cons_zero, List.set_cons_succ]
            refine wpAnyH_take (i := 3) (oi := { dst := some 86, op := Op.slice 32 (Operand.tmp 85) none (some (Operand.const (Value.int IntKind.i64 224))) none, type := 32, pos := "outright.go:88", after := #[{ on := 2, ground := Ground.data }], guard := none }) rfl (by kernel_rfl) (by kernel_rfl) (by kernel_rfl) (fun _ _ _ h => h) (Or.inl ⟨by rfl, fun z hSw => exec_slice_hA (.tmp 85) (.const (.int .i64 224)) rfl rfl rfl BT.sl (HU9.out z)⟩) hHeld ?_
            try simp only [Act.put, List.setIfInBounds_toArray, List.set_cons_zero, List.set_cons_succ]
            refine wpAnyH_ready (rs := [4]) (by kernel_rfl) (by simp) ?_
            refine AllReadyH.cons (o := { dst := some 87, op := Op.call { callee := Callee.value (Operand.func 12), args := #[Operand.tmp 84, Operand.tmp 86], argTypes := #[32, 32] }, type := 4, pos := "outright.go:88", after := #[{ on := 1, ground := Ground.data }, { on := 3, ground := Ground.data }], guard := none }) rfl (fun K hK => ?_) AllReadyH.nil
            go_simp
            refine (C1.out _ hHeld).mono ?_
            rintro r wn ⟨rfl, fn⟩
            refine hK.out _ _ ?_ (fun hNext => ?_)
            · exact hHeld.trans fn (by simp)
            clear hK K hHeld
            have hHeld := hNext
            clear hNext
            try simp only [Act.put, List.setIfInBounds_toArray, List.set_cons_zero, List.set_cons_succ]
            refine wpAnyH_take (i := 5) (oi := { dst := some 88, op := Op.move (Operand.tmp 87), type := 4, pos := "outright.go:88", after := #[{ on := 4, ground := Ground.data }, { on := 4, ground := Ground.chain }], guard := none }) (v := ?_) rfl (by kernel_rfl) (by kernel_rfl) (by kernel_rfl) (fun _ _ _ h => h) (Or.inl ⟨by rfl, ?_⟩) hHeld ?_
            rotate_left
            focus (intro z hSw; clear hSw; go_simp; try with_reducible rfl)
            try simp only [Act.put, List.setIfInBounds_toArray, List.set_cons_zero, List.set_cons_succ]
            refine wpAnyH_take (i := 6) (oi := { dst := some 89, op := Op.move (Operand.tmp 14), type := 32, pos := "outright.go:88", after := #[{ on := 5, ground := Ground.guard }], guard := some (5, false) }) (v := undef) rfl (by kernel_rfl) (by kernel_rfl) (by kernel_rfl) (fun _ _ _ h => h) (Or.inr ⟨by rfl, rfl⟩) hHeld ?_
            try simp only [Act.put, List.setIfInBounds_toArray, List.set_cons_zero, List.set_cons_succ]
            refine wpAnyH_take (i := 7) (oi := { dst := some 90, op := Op.slice 32 (Operand.tmp 89) none (some (Operand.const (Value.int IntKind.i64 224))) none, type := 32, pos := "outright.go:88", after := #[{ on := 6, ground := Ground.data }, { on := 5, ground := Ground.guard }], guard := some (5, false) }) (v := undef) rfl (by kernel_rfl) (by kernel_rfl) (by kernel_rfl) (fun _ _ _ h => h) (Or.inr ⟨by rfl, rfl⟩) hHeld ?_
            try simp only [Act.put, List.setIfInBounds_toArray, List.set_cons_zero, List.set_cons_succ]
            refine wpAnyH_take (i := 8) (oi := { dst := some 91, op := Op.move (Operand.tmp 12), type := 32, pos := "outright.go:88", after := #[{ on := 5, ground := Ground.guard }], guard := some (5, false) }) (v := undef) rfl (by kernel_rfl) (by kernel_rfl) (by kernel_rfl) (fun _ _ _ h => h) (Or.inr ⟨by rfl, rfl⟩) hHeld ?_
            try simp only [Act.put, List.setIfInBounds_toArray, List.set_cons_zero, List.set_cons_succ]
            refine wpAnyH_take (i := 9) (oi := { dst := some 92, op := Op.slice 32 (Operand.tmp 91) none (some (Operand.const (Value.int IntKind.i64 224))) none, type := 32, pos := "outright.go:88", after := #[{ on := 8, ground := Ground.data }, { on := 5, ground := Ground.guard }], guard := some (5, false) }) (v := undef) rfl (by kernel_rfl) (by kernel_rfl) (by kernel_rfl) (fun _ _ _ h => h) (Or.inr ⟨by rfl, rfl⟩) hHeld ?_
            try simp only [Act.put, List.setIfInBounds_toArray, List.set_cons_zero, List.set_cons_succ]
            refine wpAnyH_take (i := 10) (oi := { dst := some 93, op := Op.call { callee := Callee.value (Operand.func 12), args := #[Operand.tmp 90, Operand.tmp 92], argTypes := #[32, 32] }, type := 4, pos := "outright.go:88", after := #[{ on := 7, ground := Ground.data }, { on := 9, ground := Ground.data }, { on := 5, ground := Ground.chain }, { on := 5, ground := Ground.guard }], guard := some (5, false) }) (v := undef) rfl (by kernel_rfl) (by kernel_rfl) (by kernel_rfl) (fun _ _ _ h => h) (Or.inr ⟨by rfl, rfl⟩) hHeld ?_
            try simp only [Act.put, List.setIfInBounds_toArray, List.set_cons_zero, List.set_cons_succ]
            refine wpAnyH_take (i := 11) (oi := { dst := some 94, op := Op.pick (Operand.tmp 88) (Operand.const (Value.bool true)) (Operand.tmp 93), type := 4, pos := "outright.go:88", after := #[{ on := 5, ground := Ground.data }, { on := 10, ground := Ground.data }], guard := none }) (v := ?_) rfl (by kernel_rfl) (by kernel_rfl) (by kernel_rfl) (fun _ _ _ h => h) (Or.inl ⟨by rfl, ?_⟩) hHeld ?_
            rotate_left
            focus (intro z hSw; clear hSw; go_simp; try with_reducible rfl)
            try simp only [Act.put, List.setIfInBounds_toArray, List.set_cons_zero, List.set_cons_succ]
            refine wpAnyH_take (i := 12) (oi := { dst := some 16, op := Op.assign (Operand.tmp 94), type := 4, pos := "outright.go:88", after := #[{ on := 11, ground := Ground.data }, { on := 10, ground := Ground.chain }, { on := 0, ground := Ground.phase }, { on := 1, ground := Ground.phase }, { on := 2, ground := Ground.phase }, { on := 3, ground := Ground.phase }, { on := 4, ground := Ground.phase }, { on := 5, ground := Ground.phase }, { on := 6, ground := Ground.phase }, { on := 7, ground := Ground.phase }, { on := 8, ground := Ground.phase }, { on := 9, ground := Ground.phase }, { on := 10, ground := Ground.phase }, { on := 11, ground := Ground.phase }], guard := none }) (v := ?_) rfl (by kernel_rfl) (by kernel_rfl) (by kernel_rfl) (fun _ _ _ h => h) (Or.inl ⟨by rfl, ?_⟩) hHeld ?_
            rotate_left
            focus (intro z hSw; clear hSw; go_simp; try with_reducible rfl)
            try simp only [Act.put, List.setIfInBounds_toArray, List.set_cons_zero, List.set_cons_succ]
            refine wpAnyH_done (by kernel_rfl) ?_ _
            have FH := Lib.hid hHeld
            clear hHeld
            go_upto_region 18 with fail
            refine wp_region_held_drew (S := fun z => Frm [] W9 z) (by kernel_rfl) (FH.out.drew) (fun hHeld => ?_)
            refine wpAnyH_take (i := 0) (oi := { dst := some 95, op := Op.move (Operand.tmp 16), type := 4, pos := "outright.go:89", after := #[], guard := none }) (v := ?_) rfl (by kernel_rfl) (by kernel_rfl) (by kernel_rfl) (fun _ _ _ h => h) (Or.inl ⟨by rfl, ?_⟩) hHeld ?_
            rotate_left
            focus (intro z hSw; clear hSw; go_simp; try with_reducible rfl)
            try simp only [Act.put, List.setIfInBounds_toArray, List.set_cons_zero, List.set_cons_succ]
            refine wpAnyH_take (i := 1) (oi := { dst := some 96, op := Op.unOp UnOp.not 4 (Operand.tmp 95), type := 4, pos := "outright.go:89", after := #[{ on := 0, ground := Ground.data }], guard := none }) (v := ?_) rfl (by kernel_rfl) (by kernel_rfl) (by kernel_rfl) (fun _ _ _ h => h) (Or.inl ⟨by rfl, ?_⟩) hHeld ?_
            rotate_left
            focus (intro z hSw; clear hSw; go_simp; try with_reducible rfl)
            try simp only [Act.put, List.setIfInBounds_toArray, List.set_cons_zero, List.set_cons_succ]
            refine wpAnyH_take (i := 2) (oi := { dst := some 97, op := Op.move (Operand.tmp 96), type := 4, pos := "outright.go:89", after := #[{ on := 1, ground := Ground.data }], guard := none }) (v := ?_) rfl (by kernel_rfl) (by kernel_rfl) (by kernel_rfl) (fun _ _ _ h => h) (Or.inl ⟨by rfl, ?_⟩) hHeld ?_
            rotate_left
            focus (intro z hSw; clear hSw; go_simp; try with_reducible rfl)
            try simp only [Act.put, List.setIfInBounds_toArray, List.set_cons_zero, List.set_cons_succ]
            refine wpAnyH_take (i := 3) (oi := { dst := some 98, op := Op.buildSlice 32 0 #[], type := 32, pos := "outright.go:89", after := #[{ on := 2, ground := Ground.guard }], guard := some (2, true) }) (v := undef) rfl (by kernel_rfl) (by kernel_rfl) (by kernel_rfl) (fun _ _ _ h => h) (Or.inr ⟨by rfl, rfl⟩) hHeld ?_
            try simp only [Act.put, List.setIfInBounds_toArray, List.set_cons_zero, List.set_cons_succ]
            refine wpAnyH_take (i := 4) (oi := { dst := some 99, op := Op.slice 24 (Operand.tmp 15) none none none, type := 32, pos := "outright.go:89", after := #[{ on := 2, ground := Ground.guard }], guard := some (2, true) }) (v := undef) rfl (by kernel_rfl) (by kernel_rfl) (by kernel_rfl) (fun _ _ _ h => h) (Or.inr ⟨by rfl, rfl⟩) hHeld ?_
            try simp only [Act.put, List.setIfInBounds_toArray, List.set_cons_zero, List.set_cons_succ]
            refine wpAnyH_take (i := 5) (oi := { dst := some 100, op := Op.call { callee := Callee.builtin Builtin.append, args := #[Operand.tmp 98, Operand.tmp 99], argTypes := #[32, 32] }, type := 32, pos := "outright.go:89", after := #[{ on := 3, ground := Ground.data }, { on := 4, ground := Ground.data }, { on := 2, ground := Ground.chain }, { on := 2, ground := Ground.guard }], guard := some (2, true) }) (v := undef) rfl (by kernel_rfl) (by kernel_rfl) (by kernel_rfl) (fun _ _ _ h => h) (Or.inr ⟨by rfl, rfl⟩) hHeld ?_
            try simp only [Act.put, List.setIfInBounds_toArray, List.set_cons_zero, List.set_cons_succ]
            refine wpAnyH_take (i := 6) (oi := { dst := some 101, op := Op.move (Operand.tmp 14), type := 32, pos := "outright.go:89", after := #[{ on := 2, ground := Ground.guard }], guard := some (2, true) }) (v := undef) rfl (by kernel_rfl) (by kernel_rfl) (by kernel_rfl) (fun _ _ _ h => h) (Or.inr ⟨by rfl, rfl⟩) hHeld ?_
            try simp only [Act.put, List.setIfInBounds_toArray, List.set_cons_zero, List.set_cons_succ]
            refine wpAnyH_take (i := 7) (oi := { dst := some 102, op := Op.slice 32 (Operand.tmp 101) (some (Operand.const (Value.int IntKind.i64 224))) none none, type := 32, pos := "outright.go:89", after := #[{ on := 6, ground := Ground.data }, { on := 2, ground := Ground.guard }], guard := some (2, true) }) (v := undef) rfl (by kernel_rfl) (by kernel_rfl) (by kernel_rfl) (fun _ _ _ h => h) (Or.inr ⟨by rfl, rfl⟩) hHeld ?_
            try simp only [Act.put, List.setIfInBounds_toArray, List.set_cons_zero, List.set_cons_succ]
            refine wpAnyH_take (i := 8) (oi := { dst := some 103, op := Op.call { callee := Callee.value (Operand.func 12), args := #[Operand.tmp 100, Operand.tmp 102], argTypes := #[32, 32] }, type := 4, pos := "outright.go:89", after := #[{ on := 5, ground := Ground.data }, { on := 7, ground := Ground.data }, { on := 5, ground := Ground.chain }, { on := 2, ground := Ground.guard }], guard := some (2, true) }) (v := undef) rfl (by kernel_rfl) (by kernel_rfl) (by kernel_rfl) (fun _ _ _ h => h) (Or.inr ⟨by rfl, rfl⟩) hHeld ?_
            try simp only [Act.put, List.setIfInBounds_toArray, List.set_cons_zero, List.set_cons_succ]
            refine wpAnyH_take (i := 9) (oi := { dst := some 104, op := Op.pick (Operand.tmp 97) (Operand.tmp 103) (Operand.const (Value.bool false)), type := 4, pos := "outright.go:89", after := #[{ on := 2, ground := Ground.data }, { on := 8, ground := Ground.data }], guard := none }) (v := ?_) rfl (by kernel_rfl) (by kernel_rfl) (by kernel_rfl) (fun _ _ _ h => h) (Or.inl ⟨by rfl, ?_⟩) hHeld ?_
            rotate_left
            focus (intro z hSw; clear hSw; go_simp; try with_reducible rfl)
            try simp only [Act.put, List.setIfInBounds_toArray, List.set_cons_zero, List.set_cons_succ]
            refine wpAnyH_done (by kernel_rfl) ?_ _
            have FH := Lib.hid hHeld
            clear hHeld
            go_upto_region 21 with (first
              | ((with_reducible (show wpList _ _ _ (Oper.mk _ (Op.alloc 28) _ _ _ _ :: _) _ _)); refine wpList_lay28 rfl rfl rfl _ _ rfl (v := .slice xa zeroU.root.ads.length xc) rfl (u := zeroU) zl rfl rfl ?_)
              | (go_at_call 20; refine (HUS0.out _ FH.out).mono ?_; rintro r wa ⟨xa, xc, xsp, rfl, hxa, fa, na⟩))
            have fb : Frm [] wa (wa.alloc (.cells (uc (.slice xa zeroU.root.ads.length xc) zeroU).toArray 28)) := (Frm.refl [] wa).alloc _
            have G8 := Lib.hid (UB.new wa (.slice xa zeroU.root.ads.length xc) zl).gets.all
            have HX8 := Lib.hid (show UbV (wa.alloc (.cells (uc (.slice xa zeroU.root.ads.length xc) zeroU).toArray 28)) (uv (.slice xa zeroU.root.ads.length xc) zeroU) zeroU from ⟨xa, xc, xsp, rfl, hxa.keep fb (by simp), zeroU_wf⟩)
            have FR := Lib.hid (((FP.out.trans FH.out (by simp)).trans fa (by simp)).trans fb (by simp))
            clear fa fb hxa na
            generalize wa.alloc (.cells (uc (.slice xa zeroU.root.ads.length xc) zeroU).toArray 28) = WB at *
            generalize wa.heap.size = L8 at *
            go_wp2_with (first
              | ((with_reducible (show wpList _ _ _ (Oper.mk _ (Op.load 28 _) _ _ _ _ :: _) _ _)); refine wpList_load_g (by rfl) 28 _ rfl _ rfl G8.out ?_)
              | ((with_reducible (show wpList _ _ _ (Oper.mk _ (Op.build 28 _) _ _ _ _ :: _) _ _)); refine wpList_val_g (by rfl) (exec_bld28z rfl _) ?_)
              | (go_at_call 18; refine (HSZ.out _ _ HX8.out).mono ?_; rintro r wc ⟨rfl, fc⟩))
            go_ret
            exact ⟨rfl, FR.out.trans fc (by simp)⟩
          · rw [show (List.take 224 S == List.take 224 P) = false from beq_eq_false_iff_ne.2 h3] at C1
            by_cases h4 : List.take 224 S = List.take 224 b
            · rw [show (List.take 224 S == List.take 224 b) = true from beq_iff_eq.2 h4] at C2
              have hun := HN2.out (fun _ h => absurd h4 h)
              rw [hun] at HUS0
              clear hun h3 h4 HN2
              refine wp_region_held_drew (S := fun z => Frm [] W9 z) (by kernel_rfl) ((Frm.refl [] W9).drew) (fun hHeld => ?_)
              refine wpAnyH_take (i := 0) (oi := { dst := some 83, op := Op.move (Operand.tmp 14), type := 32, pos := "outright.go:88", after := #[], guard := none }) (v := ?_) rfl (by kernel_rfl) (by kernel_rfl) (by kernel_rfl) (fun _ _ _ h => h) (Or.inl ⟨by rfl, ?_⟩) hHeld ?_
              rotate_left
              focus (intro z hSw; clear hSw; go_simp; try with_reducible rfl)
              try simp only [Act.put, List.setIfInBounds_toArray, List.set_cons_zero, List.set_cons_succ]
              refine wpAnyH_take (i := 1) (oi := { dst := some 84, op := Op.slice 32 (Operand.tmp 83) none (some (Operand.const (Value.int IntKind.i64 224))) none, type := 32, pos := "outright.go:88", after := #[{ on := 0, ground := Ground.data }], guard := none }) rfl (by kernel_rfl) (by kernel_rfl) (by kernel_rfl) (fun _ _ _ h => h) (Or.inl ⟨by rfl, fun z hSw => exec_slice_hA (.tmp 83) (.const (.int .i64 224)) rfl rfl rfl BT.sl (H9.out z)⟩) hHeld ?_
              try simp only [Act.put, List.setIfInBounds_toArray, List.set_cons_zero, List.set_cons_succ]
              refine wpAnyH_take (i := 2) (oi := { dst := some 85, op := Op.move (Operand.tmp 10), type := 32, pos := "outright.go:88", after := #[], guard := none }) (v := ?_) rfl (by kernel_rfl) (by kernel_rfl) (by kernel_rfl) (fun _ _ _ h => h) (Or.inl ⟨by rfl, ?_⟩) hHeld ?_
              rotate_left
              focus (intro z hSw; clear hSw; go_simp; try with_reducible rfl)
              try simp only [Act.put, List.setIfInBounds_toArray, List.set_cons_zero, List.set_cons_succ]
              refine wpAnyH_take (i := 3) (oi := { dst := some 86, op := Op.slice 32 (Operand.tmp 85) none (some (Operand.const (Value.int IntKind.i64 224))) none, type := 32, pos := "outright.go:88", after := #[{ on := 2, ground := Ground.data }], guard := none }) rfl (by kernel_rfl) (by kernel_rfl) (by kernel_rfl) (fun _ _ _ h => h) (Or.inl ⟨by rfl, fun z hSw => exec_slice_hA (.tmp 85) (.const (.int .i64 224)) rfl rfl rfl BT.sl (HU9.out z)⟩) hHeld ?_
              try simp only [Act.put, List.setIfInBounds_toArray, List.set_cons_zero, List.set_cons_succ]
              refine wpAnyH_ready (rs := [4]) (by kernel_rfl) (by simp) ?_
              refine AllReadyH.cons (o := { dst := some 87, op := Op.call { callee := Callee.value (Operand.func 12), args := #[Operand.tmp 84, Operand.tmp 86], argTypes := #[32, 32] }, type := 4, pos := "outright.go:88", after := #[{ on := 1, ground := Ground.data }, { on := 3, ground := Ground.data }], guard := none }) rfl (fun K hK => ?_) AllReadyH.nil
              go_simp
              refine (C1.out _ hHeld).mono ?_
              rintro r wn ⟨rfl, fn⟩
              refine hK.out _ _ ?_ (fun hNext => ?_)
              · exact hHeld.trans fn (by simp)
              clear hK K hHeld
              have hHeld := hNext
              clear hNext
              try simp only [Act.put, List.setIfInBounds_toArray, List.set_cons_zero, List.set_cons_succ]
              refine wpAnyH_take (i := 5) (oi := { dst := some 88, op := Op.move (Operand.tmp 87), type := 4, pos := "outright.go:88", after := #[{ on := 4, ground := Ground.data }, { on := 4, ground := Ground.chain }], guard := none }) (v := ?_) rfl (by kernel_rfl) (by kernel_rfl) (by kernel_rfl) (fun _ _ _ h => h) (Or.inl ⟨by rfl, ?_⟩) hHeld ?_
              rotate_left
              focus (intro z hSw; clear hSw; go_simp; try with_reducible rfl)
              try simp only [Act.put, List.setIfInBounds_toArray, List.set_cons_zero, List.set_cons_succ]
              refine wpAnyH_take (i := 6) (oi := { dst := some 89, op := Op.move (Operand.tmp 14), type := 32, pos := "outright.go:88", after := #[{ on := 5, ground := Ground.guard }], guard := some (5, false) }) (v := ?_) rfl (by kernel_rfl) (by kernel_rfl) (by kernel_rfl) (fun _ _ _ h => h) (Or.inl ⟨by rfl, ?_⟩) hHeld ?_
              rotate_left
              focus (intro z hSw; clear hSw; go_simp; try with_reducible rfl)
              try simp only [Act.put, List.setIfInBounds_toArray, List.set_cons_zero, List.set_cons_succ]
              refine wpAnyH_take (i := 7) (oi := { dst := some 90, op := Op.slice 32 (Operand.tmp 89) none (some (Operand.const (Value.int IntKind.i64 224))) none, type := 32, pos := "outright.go:88", after := #[{ on := 6, ground := Ground.data }, { on := 5, ground := Ground.guard }], guard := some (5, false) }) rfl (by kernel_rfl) (by kernel_rfl) (by kernel_rfl) (fun _ _ _ h => h) (Or.inl ⟨by rfl, fun z hSw => exec_slice_hA (.tmp 89) (.const (.int .i64 224)) rfl rfl rfl BT.sl (H9.out z)⟩) hHeld ?_
              try simp only [Act.put, List.setIfInBounds_toArray, List.set_cons_zero, List.set_cons_succ]
              refine wpAnyH_take (i := 8) (oi := { dst := some 91, op := Op.move (Operand.tmp 12), type := 32, pos := "outright.go:88", after := #[{ on := 5, ground := Ground.guard }], guard := some (5, false) }) (v := ?_) rfl (by kernel_rfl) (by kernel_rfl) (by kernel_rfl) (fun _ _ _ h => h) (Or.inl ⟨by rfl, ?_⟩) hHeld ?_
              rotate_left
              focus (intro z hSw; clear hSw; go_simp; try with_reducible rfl)
              try simp only [Act.put, List.setIfInBounds_toArray, List.set_cons_zero, List.set_cons_succ]
              refine wpAnyH_take (i := 9) (oi := { dst := some 92, op := Op.slice 32 (Operand.tmp 91) none (some (Operand.const (Value.int IntKind.i64 224))) none, type := 32, pos := "outright.go:88", after := #[{ on := 8, ground := Ground.data }, { on := 5, ground := Ground.guard }], guard := some (5, false) }) rfl (by kernel_rfl) (by kernel_rfl) (by kernel_rfl) (fun _ _ _ h => h) (Or.inl ⟨by rfl, fun z hSw => exec_slice_hA (.tmp 91) (.const (.int .i64 224)) rfl rfl rfl BT.sl (HB9.out z)⟩) hHeld ?_
              try simp only [Act.put, List.setIfInBounds_toArray, List.set_cons_zero, List.set_cons_succ]
              refine wpAnyH_ready (rs := [10]) (by kernel_rfl) (by simp) ?_
              refine AllReadyH.cons (o := { dst := some 93, op := Op.call { callee := Callee.value (Operand.func 12), args := #[Operand.tmp 90, Operand.tmp 92], argTypes := #[32, 32] }, type := 4, pos := "outright.go:88", after := #[{ on := 7, ground := Ground.data }, { on := 9, ground := Ground.data }, { on := 5, ground := Ground.chain }, { on := 5, ground := Ground.guard }], guard := some (5, false) }) rfl (fun K hK => ?_) AllReadyH.nil
              go_simp
              refine (C2.out _ hHeld).mono ?_
              rintro r wn ⟨rfl, fn⟩
              refine hK.out _ _ ?_ (fun hNext => ?_)
              · exact hHeld.trans fn (by simp)
              clear hK K hHeld
              have hHeld := hNext
              clear hNext
              try simp only [Act.put, List.setIfInBounds_toArray, List.set_cons_zero, List.set_cons_succ]
              refine wpAnyH_take (i := 11) (oi := { dst := some 94, op := Op.pick (Operand.tmp 88) (Operand.const (Value.bool true)) (Operand.tmp 93), type := 4, pos := "outright.go:88", after := #[{ on := 5, ground := Ground.data }, { on := 10, ground := Ground.data }], guard := none }) (v := ?_) rfl (by kernel_rfl) (by kernel_rfl) (by kernel_rfl) (fun _ _ _ h => h) (Or.inl ⟨by rfl, ?_⟩) hHeld ?_
              rotate_left
              focus (intro z hSw; clear hSw; go_simp; try with_reducible rfl)
              try simp only [Act.put, List.setIfInBounds_toArray, List.set_cons_zero, List.set_cons_succ]
              refine wpAnyH_take (i := 12) (oi := { dst := some 16, op := Op.assign (Operand.tmp 94), type := 4, pos := "outright.go:88", after := #[{ on := 11, ground := Ground.data }, { on := 10, ground := Ground.chain }, { on := 0, ground := Ground.phase }, { on := 1, ground := Ground.phase }, { on := 2, ground := Ground.phase }, { on := 3, ground := Ground.phase }, { on := 4, ground := Ground.phase }, { on := 5, ground := Ground.phase }, { on := 6, ground := Ground.phase }, { on := 7, ground := Ground.phase }, { on := 8, ground := Ground.phase }, { on := 9, ground := Ground.phase }, { on := 10, ground := Ground.phase }, { on := 11, ground := Ground.phase }], guard := none }) (v := ?_) rfl (by kernel_rfl) (by kernel_rfl) (by kernel_rfl) (fun _ _ _ h => h) (Or.inl ⟨by rfl, ?_⟩) hHeld ?_
              rotate_left
              focus (intro z hSw; clear hSw; go_simp; try with_reducible rfl)
              try simp only [Act.put, List.setIfInBounds_toArray, List.set_cons_zero, List.set_cons_succ]
              refine wpAnyH_done (by kernel_rfl) ?_ _
              have FH := Lib.hid hHeld
              clear hHeld
              go_upto_region 18 with fail
              refine wp_region_held_drew (S := fun z => Frm [] W9 z) (by kernel_rfl) (FH.out.drew) (fun hHeld => ?_)
              refine wpAnyH_take (i := 0) (oi := { dst := some 95, op := Op.move (Operand.tmp 16), type := 4, pos := "outright.go:89", after := #[], guard := none }) (v := ?_) rfl (by kernel_rfl) (by kernel_rfl) (by kernel_rfl) (fun _ _ _ h => h) (Or.inl ⟨by rfl, ?_⟩) hHeld ?_
              rotate_left
              focus (intro z hSw; clear hSw; go_simp; try with_reducible rfl)
              try simp only [Act.put, List.setIfInBounds_toArray, List.set_cons_zero, List.set_cons_succ]
              refine wpAnyH_take (i := 1) (oi := { dst := some 96, op := Op.unOp UnOp.not 4 (Operand.tmp 95), type := 4, pos := "outright.go:89", after := #[{ on := 0, ground := Ground.data }], guard := none }) (v := ?_) rfl (by kernel_rfl) (by kernel_rfl) (by kernel_rfl) (fun _ _ _ h => h) (Or.inl ⟨by rfl, ?_⟩) hHeld ?_
              rotate_left
              focus (intro z hSw; clear hSw; go_simp; try with_reducible rfl)
              try simp only [Act.put, List.setIfInBounds_toArray, List.set_cons_zero, List.set_cons_succ]
              refine wpAnyH_take (i := 2) (oi := { dst := some 97, op := Op.move (Operand.tmp 96), type := 4, pos := "outright.go:89", after := #[{ on := 1, ground := Ground.data }], guard := none }) (v := ?_) rfl (by kernel_rfl) (by kernel_rfl) (by kernel_rfl) (fun _ _ _ h => h) (Or.inl ⟨by rfl, ?_⟩) hHeld ?_
              rotate_left
              focus (intro z hSw; clear hSw; go_simp; try with_reducible rfl)
              try simp only [Act.put, List.setIfInBounds_toArray, List.set_cons_zero, List.set_cons_succ]
              refine wpAnyH_take (i := 3) (oi := { dst := some 98, op := Op.buildSlice 32 0 #[], type := 32, pos := "outright.go:89", after := #[{ on := 2, ground := Ground.guard }], guard := some (2, true) }) (v := undef) rfl (by kernel_rfl) (by kernel_rfl) (by kernel_rfl) (fun _ _ _ h => h) (Or.inr ⟨by rfl, rfl⟩) hHeld ?_
              try simp only [Act.put, List.setIfInBounds_toArray, List.set_cons_zero, List.set_cons_succ]
              refine wpAnyH_take (i := 4) (oi := { dst := some 99, op := Op.slice 24 (Operand.tmp 15) none none none, type := 32, pos := "outright.go:89", after := #[{ on := 2, ground := Ground.guard }], guard := some (2, true) }) (v := undef) rfl (by kernel_rfl) (by kernel_rfl) (by kernel_rfl) (fun _ _ _ h => h) (Or.inr ⟨by rfl, rfl⟩) hHeld ?_
              try simp only [Act.put, List.setIfInBounds_toArray, List.set_cons_zero, List.set_cons_succ]
              refine wpAnyH_take (i := 5) (oi := { dst := some 100, op := Op.call { callee := Callee.builtin Builtin.append, args := #[Operand.tmp 98, Operand.tmp 99], argTypes := #[32, 32] }, type := 32, pos := "outright.go:89", after := #[{ on := 3, ground := Ground.data }, { on := 4, ground := Ground.data }, { on := 2, ground := Ground.chain }, { on := 2, ground := Ground.guard }], guard := some (2, true) }) (v := undef) rfl (by kernel_rfl) (by kernel_rfl) (by kernel_rfl) (fun _ _ _ h => h) (Or.inr ⟨by rfl, rfl⟩) hHeld ?_
              try simp only [Act.put, List.setIfInBounds_toArray, List.set_cons_zero, List.set_cons_succ]
              refine wpAnyH_take (i := 6) (oi := { dst := some 101, op := Op.move (Operand.tmp 14), type := 32, pos := "outright.go:89", after := #[{ on := 2, ground := Ground.guard }], guard := some (2, true) }) (v := undef) rfl (by kernel_rfl) (by kernel_rfl) (by kernel_rfl) (fun _ _ _ h => h) (Or.inr ⟨by rfl, rfl⟩) hHeld ?_
              try simp only [Act.put, List.setIfInBounds_toArray, List.set_cons_zero, List.set_cons_succ]
              refine wpAnyH_take (i := 7) (oi := { dst := some 102, op := Op.slice 32 (Operand.tmp 101) (some (Operand.const (Value.int IntKind.i64 224))) none none, type := 32, pos := "outright.go:89", after := #[{ on := 6, ground := Ground.data }, { on := 2, ground := Ground.guard }], guard := some (2, true) }) (v := undef) rfl (by kernel_rfl) (by kernel_rfl) (by kernel_rfl) (fun _ _ _ h => h) (Or.inr ⟨by rfl, rfl⟩) hHeld ?_
              try simp only [Act.put, List.setIfInBounds_toArray, List.set_cons_zero, List.set_cons_succ]
              refine wpAnyH_take (i := 8) (oi := { dst := some 103, op := Op.call { callee := Callee.value (Operand.func 12), args := #[Operand.tmp 100, Operand.tmp 102], argTypes := #[32, 32] }, type := 4, pos := "outright.go:89", after := #[{ on := 5, ground := Ground.data }, { on := 7, ground := Ground.data }, { on := 5, ground := Ground.chain }, { on := 2, ground := Ground.guard }], guard := some (2, true) }) (v := undef) rfl (by kernel_rfl) (by kernel_rfl) (by kernel_rfl) (fun _ _ _ h => h) (Or.inr ⟨by rfl, rfl⟩) hHeld ?_
              try simp only [Act.put, List.setIfInBounds_toArray, List.set_cons_zero, List.set_cons_succ]
              refine wpAnyH_take (i := 9) (oi := { dst := some 104, op := Op.pick (Operand.tmp 97) (Operand.tmp 103) (Operand.const (Value.bool false)), type := 4, pos := "outright.go:89", after := #[{ on := 2, ground := Ground.data }, { on := 8, ground := Ground.data }], guard := none }) (v := ?_) rfl (by kernel_rfl) (by kernel_rfl) (by kernel_rfl) (fun _ _ _ h => h) (Or.inl ⟨by rfl, ?_⟩) hHeld ?_
              rotate_left
              focus (intro z hSw; clear hSw; go_simp; try with_reducible rfl)
              try simp only [Act.put, List.setIfInBounds_toArray, List.set_cons_zero, List.set_cons_succ]
              refine wpAnyH_done (by kernel_rfl) ?_ _
              have FH := Lib.hid hHeld
              clear hHeld
              go_upto_region 21 with (first
                | ((with_reducible (show wpList _ _ _ (Oper.mk _ (Op.alloc 28) _ _ _ _ :: _) _ _)); refine wpList_lay28 rfl rfl rfl _ _ rfl (v := .slice xa zeroU.root.ads.length xc) rfl (u := zeroU) zl rfl rfl ?_)
                | (go_at_call 20; refine (HUS0.out _ FH.out).mono ?_; rintro r wa ⟨xa, xc, xsp, rfl, hxa, fa, na⟩))
              have fb : Frm [] wa (wa.alloc (.cells (uc (.slice xa zeroU.root.ads.length xc) zeroU).toArray 28)) := (Frm.refl [] wa).alloc _
              have G8 := Lib.hid (UB.new wa (.slice xa zeroU.root.ads.length xc) zl).gets.all
              have HX8 := Lib.hid (show UbV (wa.alloc (.cells (uc (.slice xa zeroU.root.ads.length xc) zeroU).toArray 28)) (uv (.slice xa zeroU.root.ads.length xc) zeroU) zeroU from ⟨xa, xc, xsp, rfl, hxa.keep fb (by simp), zeroU_wf⟩)
              have FR := Lib.hid (((FP.out.trans FH.out (by simp)).trans fa (by simp)).trans fb (by simp))
              clear fa fb hxa na
              generalize wa.alloc (.cells (uc (.slice xa zeroU.root.ads.length xc) zeroU).toArray 28) = WB at *
              generalize wa.heap.size = L8 at *
              go_wp2_with (first
                | ((with_reducible (show wpList _ _ _ (Oper.mk _ (Op.load 28 _) _ _ _ _ :: _) _ _)); refine wpList_load_g (by rfl) 28 _ rfl _ rfl G8.out ?_)
                | ((with_reducible (show wpList _ _ _ (Oper.mk _ (Op.build 28 _) _ _ _ _ :: _) _ _)); refine wpList_val_g (by rfl) (exec_bld28z rfl _) ?_)
                | (go_at_call 18; refine (HSZ.out _ _ HX8.out).mono ?_; rintro r wc ⟨rfl, fc⟩))
              go_ret
              exact ⟨rfl, FR.out.trans fc (by simp)⟩
            · rw [show (List.take 224 S == List.take 224 b) = false from beq_eq_false_iff_ne.2 h4] at C2
              have HN3 := Lib.hid (fun (h : D ≠ List.drop 224 S) => HN2.out (fun _ _ e => h (HD.out.symm.trans e)))
              clear h3 h4 HN2
              refine wp_region_held_drew (S := fun z => Frm [] W9 z) (by kernel_rfl) ((Frm.refl [] W9).drew) (fun hHeld => ?_)
              refine wpAnyH_take (i := 0) (oi := { dst := some 83, op := Op.move (Operand.tmp 14), type := 32, pos := "outright.go:88", after := #[], guard := none }) (v := ?_) rfl (by kernel_rfl) (by kernel_rfl) (by kernel_rfl) (fun _ _ _ h => h) (Or.inl ⟨by rfl, ?_⟩) hHeld ?_
              rotate_left
              focus (intro z hSw; clear hSw; go_simp; try with_reducible rfl)
              try simp only [Act.put, List.setIfInBounds_toArray, List.set_cons_zero, List.set_cons_succ]
              refine wpAnyH_take (i := 1) (oi := { dst := some 84, op := Op.slice 32 (Operand.tmp 83) none (some (Operand.const (Value.int IntKind.i64 224))) none, type := 32, pos := "outright.go:88", after := #[{ on := 0, ground := Ground.data }], guard := none }) rfl (by kernel_rfl) (by kernel_rfl) (by kernel_rfl) (fun _ _ _ h => h) (Or.inl ⟨by rfl, fun z hSw => exec_slice_hA (.tmp 83) (.const (.int .i64 224)) rfl rfl rfl BT.sl (H9.out z)⟩) hHeld ?_
              try simp only [Act.put, List.setIfInBounds_toArray, List.set_cons_zero, List.set_cons_succ]
              refine wpAnyH_take (i := 2) (oi := { dst := some 85, op := Op.move (Operand.tmp 10), type := 32, pos := "outright.go:88", after := #[], guard := none }) (v := ?_) rfl (by kernel_rfl) (by kernel_rfl) (by kernel_rfl) (fun _ _ _ h => h) (Or.inl ⟨by rfl, ?_⟩) hHeld ?_
              rotate_left
              focus (intro z hSw; clear hSw; go_simp; try with_reducible rfl)
              try simp only [Act.put, List.setIfInBounds_toArray, List.set_cons_zero, List.set_cons_succ]
              refine wpAnyH_take (i := 3) (oi := { dst := some 86, op := Op.slice 32 (Operand.tmp 85) none (some (Operand.const (Value.int IntKind.i64 224))) none, type := 32, pos := "outright.go:88", after := #[{ on := 2, ground := Ground.data }], guard := none }) rfl (by kernel_rfl) (by kernel_rfl) (by kernel_rfl) (fun _ _ _ h => h) (Or.inl ⟨by rfl, fun z hSw => exec_slice_hA (.tmp 85) (.const (.int .i64 224)) rfl rfl rfl BT.sl (HU9.out z)⟩) hHeld ?_
              try simp only [Act.put, List.setIfInBounds_toArray, List.set_cons_zero, List.set_cons_succ]
              refine wpAnyH_ready (rs := [4]) (by kernel_rfl) (by simp) ?_
              refine AllReadyH.cons (o := { dst := some 87, op := Op.call { callee := Callee.value (Operand.func 12), args := #[Operand.tmp 84, Operand.tmp 86], argTypes := #[32, 32] }, type := 4, pos := "outright.go:88", after := #[{ on := 1, ground := Ground.data }, { on := 3, ground := Ground.data }], guard := none }) rfl (fun K hK => ?_) AllReadyH.nil
              go_simp
              refine (C1.out _ hHeld).mono ?_
              rintro r wn ⟨rfl, fn⟩
              refine hK.out _ _ ?_ (fun hNext => ?_)
              · exact hHeld.trans fn (by simp)
              clear hK K hHeld
              have hHeld := hNext
              clear hNext
              try simp only [Act.put, List.setIfInBounds_toArray, List.set_cons_zero, List.set_cons_succ]
              refine wpAnyH_take (i := 5) (oi := { dst := some 88, op := Op.move (Operand.tmp 87), type := 4, pos := "outright.go:88", after := #[{ on := 4, ground := Ground.data }, { on := 4, ground := Ground.chain }], guard := none }) (v := ?_) rfl (by kernel_rfl) (by kernel_rfl) (by kernel_rfl) (fun _ _ _ h => h) (Or.inl ⟨by rfl, ?_⟩) hHeld ?_
              rotate_left
              focus (intro z hSw; clear hSw; go_simp; try with_reducible rfl)
              try simp only [Act.put, List.setIfInBounds_toArray, List.set_cons_zero, List.set_cons_succ]
              refine wpAnyH_take (i := 6) (oi := { dst := some 89, op := Op.move (Operand.tmp 14), type := 32, pos := "outright.go:88", after := #[{ on := 5, ground := Ground.guard }], guard := some (5, false) }) (v := ?_) rfl (by kernel_rfl) (by kernel_rfl) (by kernel_rfl) (fun _ _ _ h => h) (Or.inl ⟨by rfl, ?_⟩) hHeld ?_
              rotate_left
              focus (intro z hSw; clear hSw; go_simp; try with_reducible rfl)
              try simp only [Act.put, List.setIfInBounds_toArray, List.set_cons_zero, List.set_cons_succ]
              refine wpAnyH_take (i := 7) (oi := { dst := some 90, op := Op.slice 32 (Operand.tmp 89) none (some (Operand.const (Value.int IntKind.i64 224))) none, type := 32, pos := "outright.go:88", after := #[{ on := 6, ground := Ground.data }, { on := 5, ground := Ground.guard }], guard := some (5, false) }) rfl (by kernel_rfl) (by kernel_rfl) (by kernel_rfl) (fun _ _ _ h => h) (Or.inl ⟨by rfl, fun z hSw => exec_slice_hA (.tmp 89) (.const (.int .i64 224)) rfl rfl rfl BT.sl (H9.out z)⟩) hHeld ?_
              try simp only [Act.put, List.setIfInBounds_toArray, List.set_cons_zero, List.set_cons_succ]
              refine wpAnyH_take (i := 8) (oi := { dst := some 91, op := Op.move (Operand.tmp 12), type := 32, pos := "outright.go:88", after := #[{ on := 5, ground := Ground.guard }], guard := some (5, false) }) (v := ?_) rfl (by kernel_rfl) (by kernel_rfl) (by kernel_rfl) (fun _ _ _ h => h) (Or.inl ⟨by rfl, ?_⟩) hHeld ?_
              rotate_left
              focus (intro z hSw; clear hSw; go_simp; try with_reducible rfl)
              try simp only [Act.put, List.setIfInBounds_toArray, List.set_cons_zero, List.set_cons_succ]
              refine wpAnyH_take (i := 9) (oi := { dst := some 92, op := Op.slice 32 (Operand.tmp 91) none (some (Operand.const (Value.int IntKind.i64 224))) none, type := 32, pos := "outright.go:88", after := #[{ on := 8, ground := Ground.data }, { on := 5, ground := Ground.guard }], guard := some (5, false) }) rfl (by kernel_rfl) (by kernel_rfl) (by kernel_rfl) (fun _ _ _ h => h) (Or.inl ⟨by rfl, fun z hSw => exec_slice_hA (.tmp 91) (.const (.int .i64 224)) rfl rfl rfl BT.sl (HB9.out z)⟩) hHeld ?_
              try simp only [Act.put, List.setIfInBounds_toArray, List.set_cons_zero, List.set_cons_succ]
              refine wpAnyH_ready (rs := [10]) (by kernel_rfl) (by simp) ?_
              refine AllReadyH.cons (o := { dst := some 93, op := Op.call { callee := Callee.value (Operand.func 12), args := #[Operand.tmp 90, Operand.tmp 92], argTypes := #[32, 32] }, type := 4, pos := "outright.go:88", after := #[{ on := 7, ground := Ground.data }, { on := 9, ground := Ground.data }, { on := 5, ground := Ground.chain }, { on := 5, ground := Ground.guard }], guard := some (5, false) }) rfl (fun K hK => ?_) AllReadyH.nil
              go_simp
              refine (C2.out _ hHeld).mono ?_
              rintro r wn ⟨rfl, fn⟩
              refine hK.out _ _ ?_ (fun hNext => ?_)
              · exact hHeld.trans fn (by simp)
              clear hK K hHeld
              have hHeld := hNext
              clear hNext
              try simp only [Act.put, List.setIfInBounds_toArray, List.set_cons_zero, List.set_cons_succ]
              refine wpAnyH_take (i := 11) (oi := { dst := some 94, op := Op.pick (Operand.tmp 88) (Operand.const (Value.bool true)) (Operand.tmp 93), type := 4, pos := "outright.go:88", after := #[{ on := 5, ground := Ground.data }, { on := 10, ground := Ground.data }], guard := none }) (v := ?_) rfl (by kernel_rfl) (by kernel_rfl) (by kernel_rfl) (fun _ _ _ h => h) (Or.inl ⟨by rfl, ?_⟩) hHeld ?_
              rotate_left
              focus (intro z hSw; clear hSw; go_simp; try with_reducible rfl)
              try simp only [Act.put, List.setIfInBounds_toArray, List.set_cons_zero, List.set_cons_succ]
              refine wpAnyH_take (i := 12) (oi := { dst := some 16, op := Op.assign (Operand.tmp 94), type := 4, pos := "outright.go:88", after := #[{ on := 11, ground := Ground.data }, { on := 10, ground := Ground.chain }, { on := 0, ground := Ground.phase }, { on := 1, ground := Ground.phase }, { on := 2, ground := Ground.phase }, { on := 3, ground := Ground.phase }, { on := 4, ground := Ground.phase }, { on := 5, ground := Ground.phase }, { on := 6, ground := Ground.phase }, { on := 7, ground := Ground.phase }, { on := 8, ground := Ground.phase }, { on := 9, ground := Ground.phase }, { on := 10, ground := Ground.phase }, { on := 11, ground := Ground.phase }], guard := none }) (v := ?_) rfl (by kernel_rfl) (by kernel_rfl) (by kernel_rfl) (fun _ _ _ h => h) (Or.inl ⟨by rfl, ?_⟩) hHeld ?_
              rotate_left
              focus (intro z hSw; clear hSw; go_simp; try with_reducible rfl)
              try simp only [Act.put, List.setIfInBounds_toArray, List.set_cons_zero, List.set_cons_succ]
              refine wpAnyH_done (by kernel_rfl) ?_ _
              have FH := Lib.hid hHeld
              clear hHeld
              go_upto_region 18 with fail
              by_cases h5 : D = List.drop 224 S
              · have HEQ := Lib.hid (show (D == List.drop 224 S) = true from beq_iff_eq.2 h5)
                clear h5 HN3
                refine wp_region_any (by kernel_rfl) ?_
                change wpAny _ _ _ _ _ _ _ (World.drew _)
                refine wpAny_take (i := 0) (oi := { dst := some 95, op := Op.move (Operand.tmp 16), type := 4, pos := "outright.go:89", after := #[], guard := none }) (v := ?_) rfl (by kernel_rfl) (by kernel_rfl) (by kernel_rfl) (fun _ _ _ h => h) (Or.inl ⟨by rfl, ?_⟩) ?_
                rotate_left
                focus (intro z; go_simp; try with_reducible rfl)
                try simp only [Act.put, List.setIfInBounds_toArray, List.set_cons_zero, List.set_cons_succ]
                refine wpAny_take (i := 1) (oi := { dst := some 96, op := Op.unOp UnOp.not 4 (Operand.tmp 95), type := 4, pos := "outright.go:89", after := #[{ on := 0, ground := Ground.data }], guard := none }) (v := ?_) rfl (by kernel_rfl) (by kernel_rfl) (by kernel_rfl) (fun _ _ _ h => h) (Or.inl ⟨by rfl, ?_⟩) ?_
                rotate_left
                focus (intro z; go_simp; try with_reducible rfl)
                try simp only [Act.put, List.setIfInBounds_toArray, List.set_cons_zero, List.set_cons_succ]
                refine wpAny_take (i := 2) (oi := { dst := some 97, op := Op.move (Operand.tmp 96), type := 4, pos := "outright.go:89", after := #[{ on := 1, ground := Ground.data }], guard := none }) (v := ?_) rfl (by kernel_rfl) (by kernel_rfl) (by kernel_rfl) (fun _ _ _ h => h) (Or.inl ⟨by rfl, ?_⟩) ?_
                rotate_left
                focus (intro z; go_simp; try with_reducible rfl)
                try simp only [Act.put, List.setIfInBounds_toArray, List.set_cons_zero, List.set_cons_succ]
                refine wpAny_take (i := 4) (oi := { dst := some 99, op := Op.slice 24 (Operand.tmp 15) none none none, type := 32, pos := "outright.go:89", after := #[{ on := 2, ground := Ground.guard }], guard := some (2, true) }) (v := ?_) rfl (by kernel_rfl) (by kernel_rfl) (by kernel_rfl) (fun _ _ _ h => h) (Or.inl ⟨by rfl, ?_⟩) ?_
                rotate_left
                focus (intro z; go_simp; try with_reducible rfl)
                try simp only [Act.put, List.setIfInBounds_toArray, List.set_cons_zero, List.set_cons_succ]
                refine wpAny_take (i := 6) (oi := { dst := some 101, op := Op.move (Operand.tmp 14), type := 32, pos := "outright.go:89", after := #[{ on := 2, ground := Ground.guard }], guard := some (2, true) }) (v := ?_) rfl (by kernel_rfl) (by kernel_rfl) (by kernel_rfl) (fun _ _ _ h => h) (Or.inl ⟨by rfl, ?_⟩) ?_
                rotate_left
                focus (intro z; go_simp; try with_reducible rfl)
                try simp only [Act.put, List.setIfInBounds_toArray, List.set_cons_zero, List.set_cons_succ]
                refine wpAny_take (i := 7) (oi := { dst := some 102, op := Op.slice 32 (Operand.tmp 101) (some (Operand.const (Value.int IntKind.i64 224))) none none, type := 32, pos := "outright.go:89", after := #[{ on := 6, ground := Ground.data }, { on := 2, ground := Ground.guard }], guard := some (2, true) }) rfl (by kernel_rfl) (by kernel_rfl) (by kernel_rfl) (fun _ _ _ h => h) (Or.inl ⟨by rfl, fun z => Pt.exec_slice_lA (.tmp 101) (.const (.int .i64 224)) rfl rfl rfl BT.sl (HT9.out z)⟩) ?_
                try simp only [Act.put, List.setIfInBounds_toArray, List.set_cons_zero, List.set_cons_succ]
                refine wpAny_ready (rs := [3]) (by kernel_rfl) (by simp) ?_
                refine AllReady.cons (o := { dst := some 98, op := Op.buildSlice 32 0 #[], type := 32, pos := "outright.go:89", after := #[{ on := 2, ground := Ground.guard }], guard := some (2, true) }) rfl (fun K hK => ?_) ?_
                · go_simp
                  refine hK _ _ ?_
                  clear hK K
                  try simp only [Act.put, List.setIfInBounds_toArray, List.set_cons_zero, List.set_cons_succ]
                  refine wpAny_ready (rs := [5]) (by kernel_rfl) (by simp) ?_
                  refine AllReady.cons (o := { dst := some 100, op := Op.call { callee := Callee.builtin Builtin.append, args := #[Operand.tmp 98, Operand.tmp 99], argTypes := #[32, 32] }, type := 32, pos := "outright.go:89", after := #[{ on := 3, ground := Ground.data }, { on := 4, ground := Ground.data }, { on := 2, ground := Ground.chain }, { on := 2, ground := Ground.guard }], guard := some (2, true) }) rfl (fun K hK => ?_) ?_
                  · refine step_append_bytes_g BT (OwnB.of_heap (l := []) (sp := []) (heap_alloc_at rfl) rfl rfl (by decide)) (QD.out.keep (FH.out.drew.alloc _) (by simp)) (by have := HDL.out; simp; omega) (by rfl) (.tmp 98) (.tmp 99) rfl rfl rfl ?_
                    intro ae ce we spe oe fe
                    have FE := Lib.hid ((FH.out.drew.alloc (.cells #[] 5)).trans fe (fun i hi => .inr (by have := FH.out.size; simp [blk] at hi; omega)))
                    have el : ([] : List UInt8).length + D.length = 32 := by rw [HDL.out]; rfl
                    rw [el, List.nil_append] at oe
                    rw [el]
                    clear el fe
                    refine hK _ _ ?_
                    clear hK K
                    try simp only [Act.put, List.setIfInBounds_toArray, List.set_cons_zero, List.set_cons_succ]
                    refine wpAny_ready (rs := [8]) (by kernel_rfl) (by simp) ?_
                    refine AllReady.cons (o := { dst := some 103, op := Op.call { callee := Callee.value (Operand.func 12), args := #[Operand.tmp 100, Operand.tmp 102], argTypes := #[32, 32] }, type := 4, pos := "outright.go:89", after := #[{ on := 5, ground := Ground.data }, { on := 7, ground := Ground.data }, { on := 5, ground := Ground.chain }, { on := 2, ground := Ground.guard }], guard := some (2, true) }) rfl (fun K hK => ?_) ?_
                    · have HS9 := Same_any _ _ _ _ _ _ we oe.sl (RT9.out.keep FE.out (by simp))
                      rw [HEQ.out] at HS9
                      go_simp
                      refine HS9.mono ?_
                      rintro r wf ⟨rfl, rfl⟩
                      clear HS9 oe
                      refine hK _ _ ?_
                      clear hK K
                      try simp only [Act.put, List.setIfInBounds_toArray, List.set_cons_zero, List.set_cons_succ]
                      refine wpAny_take (i := 9) (oi := { dst := some 104, op := Op.pick (Operand.tmp 97) (Operand.tmp 103) (Operand.const (Value.bool false)), type := 4, pos := "outright.go:89", after := #[{ on := 2, ground := Ground.data }, { on := 8, ground := Ground.data }], guard := none }) (v := ?_) rfl (by kernel_rfl) (by kernel_rfl) (by kernel_rfl) (fun _ _ _ h => h) (Or.inl ⟨by rfl, ?_⟩) ?_
                      rotate_left
                      focus (intro z; go_simp; try with_reducible rfl)
                      try simp only [Act.put, List.setIfInBounds_toArray, List.set_cons_zero, List.set_cons_succ]
                      refine wpAny_done (by kernel_rfl) ?_ _
                      go_wp2_with fail
                      go_ret
                      exact ⟨rfl, FP.out.trans FE.out (by simp)⟩
                    exact AllReady.nil
                  exact AllReady.nil
                exact AllReady.nil
              · have HEQ := Lib.hid (show (D == List.drop 224 S) = false from beq_eq_false_iff_ne.2 h5)
                have hun := HN3.out h5
                rw [hun] at HUS0
                clear h5 HN3 hun
                refine wp_region_any (by kernel_rfl) ?_
                change wpAny _ _ _ _ _ _ _ (World.drew _)
                refine wpAny_take (i := 0) (oi := { dst := some 95, op := Op.move (Operand.tmp 16), type := 4, pos := "outright.go:89", after := #[], guard := none }) (v := ?_) rfl (by kernel_rfl) (by kernel_rfl) (by kernel_rfl) (fun _ _ _ h => h) (Or.inl ⟨by rfl, ?_⟩) ?_
                rotate_left
                focus (intro z; go_simp; try with_reducible rfl)
                try simp only [Act.put, List.setIfInBounds_toArray, List.set_cons_zero, List.set_cons_succ]
                refine wpAny_take (i := 1) (oi := { dst := some 96, op := Op.unOp UnOp.not 4 (Operand.tmp 95), type := 4, pos := "outright.go:89", after := #[{ on := 0, ground := Ground.data }], guard := none }) (v := ?_) rfl (by kernel_rfl) (by kernel_rfl) (by kernel_rfl) (fun _ _ _ h => h) (Or.inl ⟨by rfl, ?_⟩) ?_
                rotate_left
                focus (intro z; go_simp; try with_reducible rfl)
                try simp only [Act.put, List.setIfInBounds_toArray, List.set_cons_zero, List.set_cons_succ]
                refine wpAny_take (i := 2) (oi := { dst := some 97, op := Op.move (Operand.tmp 96), type := 4, pos := "outright.go:89", after := #[{ on := 1, ground := Ground.data }], guard := none }) (v := ?_) rfl (by kernel_rfl) (by kernel_rfl) (by kernel_rfl) (fun _ _ _ h => h) (Or.inl ⟨by rfl, ?_⟩) ?_
                rotate_left
                focus (intro z; go_simp; try with_reducible rfl)
                try simp only [Act.put, List.setIfInBounds_toArray, List.set_cons_zero, List.set_cons_succ]
                refine wpAny_take (i := 4) (oi := { dst := some 99, op := Op.slice 24 (Operand.tmp 15) none none none, type := 32, pos := "outright.go:89", after := #[{ on := 2, ground := Ground.guard }], guard := some (2, true) }) (v := ?_) rfl (by kernel_rfl) (by kernel_rfl) (by kernel_rfl) (fun _ _ _ h => h) (Or.inl ⟨by rfl, ?_⟩) ?_
                rotate_left
                focus (intro z; go_simp; try with_reducible rfl)
                try simp only [Act.put, List.setIfInBounds_toArray, List.set_cons_zero, List.set_cons_succ]
                refine wpAny_take (i := 6) (oi := { dst := some 101, op := Op.move (Operand.tmp 14), type := 32, pos := "outright.go:89", after := #[{ on := 2, ground := Ground.guard }], guard := some (2, true) }) (v := ?_) rfl (by kernel_rfl) (by kernel_rfl) (by kernel_rfl) (fun _ _ _ h => h) (Or.inl ⟨by rfl, ?_⟩) ?_
                rotate_left
                focus (intro z; go_simp; try with_reducible rfl)
                try simp only [Act.put, List.setIfInBounds_toArray, List.set_cons_zero, List.set_cons_succ]
                refine wpAny_take (i := 7) (oi := { dst := some 102, op := Op.slice 32 (Operand.tmp 101) (some (Operand.const (Value.int IntKind.i64 224))) none none, type := 32, pos := "outright.go:89", after := #[{ on := 6, ground := Ground.data }, { on := 2, ground := Ground.guard }], guard := some (2, true) }) rfl (by kernel_rfl) (by kernel_rfl) (by kernel_rfl) (fun _ _ _ h => h) (Or.inl ⟨by rfl, fun z => Pt.exec_slice_lA (.tmp 101) (.const (.int .i64 224)) rfl rfl rfl BT.sl (HT9.out z)⟩) ?_
                try simp only [Act.put, List.setIfInBounds_toArray, List.set_cons_zero, List.set_cons_succ]
                refine wpAny_ready (rs := [3]) (by kernel_rfl) (by simp) ?_
                refine AllReady.cons (o := { dst := some 98, op := Op.buildSlice 32 0 #[], type := 32, pos := "outright.go:89", after := #[{ on := 2, ground := Ground.guard }], guard := some (2, true) }) rfl (fun K hK => ?_) ?_
                · go_simp
                  refine hK _ _ ?_
                  clear hK K
                  try simp only [Act.put, List.setIfInBounds_toArray, List.set_cons_zero, List.set_cons_succ]
                  refine wpAny_ready (rs := [5]) (by kernel_rfl) (by simp) ?_
                  refine AllReady.cons (o := { dst := some 100, op := Op.call { callee := Callee.builtin Builtin.append, args := #[Operand.tmp 98, Operand.tmp 99], argTypes := #[32, 32] }, type := 32, pos := "outright.go:89", after := #[{ on := 3, ground := Ground.data }, { on := 4, ground := Ground.data }, { on := 2, ground := Ground.chain }, { on := 2, ground := Ground.guard }], guard := some (2, true) }) rfl (fun K hK => ?_) ?_
                  · refine step_append_bytes_g BT (OwnB.of_heap (l := []) (sp := []) (heap_alloc_at rfl) rfl rfl (by decide)) (QD.out.keep (FH.out.drew.alloc _) (by simp)) (by have := HDL.out; simp; omega) (by rfl) (.tmp 98) (.tmp 99) rfl rfl rfl ?_
                    intro ae ce we spe oe fe
                    have FE := Lib.hid ((FH.out.drew.alloc (.cells #[] 5)).trans fe (fun i hi => .inr (by have := FH.out.size; simp [blk] at hi; omega)))
                    have el : ([] : List UInt8).length + D.length = 32 := by rw [HDL.out]; rfl
                    rw [el, List.nil_append] at oe
                    rw [el]
                    clear el fe
                    refine hK _ _ ?_
                    clear hK K
                    try simp only [Act.put, List.setIfInBounds_toArray, List.set_cons_zero, List.set_cons_succ]
                    refine wpAny_ready (rs := [8]) (by kernel_rfl) (by simp) ?_
                    refine AllReady.cons (o := { dst := some 103, op := Op.call { callee := Callee.value (Operand.func 12), args := #[Operand.tmp 100, Operand.tmp 102], argTypes := #[32, 32] }, type := 4, pos := "outright.go:89", after := #[{ on := 5, ground := Ground.data }, { on := 7, ground := Ground.data }, { on := 5, ground := Ground.chain }, { on := 2, ground := Ground.guard }], guard := some (2, true) }) rfl (fun K hK => ?_) ?_
                    · have HS9 := Same_any _ _ _ _ _ _ we oe.sl (RT9.out.keep FE.out (by simp))
                      rw [HEQ.out] at HS9
                      go_simp
                      refine HS9.mono ?_
                      rintro r wf ⟨rfl, rfl⟩
                      clear HS9 oe
                      refine hK _ _ ?_
                      clear hK K
                      try simp only [Act.put, List.setIfInBounds_toArray, List.set_cons_zero, List.set_cons_succ]
                      refine wpAny_take (i := 9) (oi := { dst := some 104, op := Op.pick (Operand.tmp 97) (Operand.tmp 103) (Operand.const (Value.bool false)), type := 4, pos := "outright.go:89", after := #[{ on := 2, ground := Ground.data }, { on := 8, ground := Ground.data }], guard := none }) (v := ?_) rfl (by kernel_rfl) (by kernel_rfl) (by kernel_rfl) (fun _ _ _ h => h) (Or.inl ⟨by rfl, ?_⟩) ?_
                      rotate_left
                      focus (intro z; go_simp; try with_reducible rfl)
                      try simp only [Act.put, List.setIfInBounds_toArray, List.set_cons_zero, List.set_cons_succ]
                      refine wpAny_done (by kernel_rfl) ?_ _
                      have FH := FE
                      clear FE
                      go_upto_region 21 with (first
                        | ((with_reducible (show wpList _ _ _ (Oper.mk _ (Op.alloc 28) _ _ _ _ :: _) _ _)); refine wpList_lay28 rfl rfl rfl _ _ rfl (v := .slice xa zeroU.root.ads.length xc) rfl (u := zeroU) zl rfl rfl ?_)
                        | (go_at_call 20; refine (HUS0.out _ FH.out).mono ?_; rintro r wa ⟨xa, xc, xsp, rfl, hxa, fa, na⟩))
                      have fb : Frm [] wa (wa.alloc (.cells (uc (.slice xa zeroU.root.ads.length xc) zeroU).toArray 28)) := (Frm.refl [] wa).alloc _
                      have G8 := Lib.hid (UB.new wa (.slice xa zeroU.root.ads.length xc) zl).gets.all
                      have HX8 := Lib.hid (show UbV (wa.alloc (.cells (uc (.slice xa zeroU.root.ads.length xc) zeroU).toArray 28)) (uv (.slice xa zeroU.root.ads.length xc) zeroU) zeroU from ⟨xa, xc, xsp, rfl, hxa.keep fb (by simp), zeroU_wf⟩)
                      have FR := Lib.hid (((FP.out.trans FH.out (by simp)).trans fa (by simp)).trans fb (by simp))
                      clear fa fb hxa na
                      generalize wa.alloc (.cells (uc (.slice xa zeroU.root.ads.length xc) zeroU).toArray 28) = WB at *
                      generalize wa.heap.size = L8 at *
                      go_wp2_with (first
                        | ((with_reducible (show wpList _ _ _ (Oper.mk _ (Op.load 28 _) _ _ _ _ :: _) _ _)); refine wpList_load_g (by rfl) 28 _ rfl _ rfl G8.out ?_)
                        | ((with_reducible (show wpList _ _ _ (Oper.mk _ (Op.build 28 _) _ _ _ _ :: _) _ _)); refine wpList_val_g (by rfl) (exec_bld28z rfl _) ?_)
                        | (go_at_call 18; refine (HSZ.out _ _ HX8.out).mono ?_; rintro r wc ⟨rfl, fc⟩))
                      go_ret
                      exact ⟨rfl, FR.out.trans fc (by simp)⟩
                    exact AllReady.nil
                  exact AllReady.nil
                exact AllReady.nil
        exact AllReady.nil
      exact AllReady.nil
    exact AllReady.nil
end Go.Proofs.YtiegdiegflfmhaaGreatDoor
