/-
  The walk of UberPacks. No conditions but those that each theorem names.
-/
import Derived.Test.YtiegdiegflfmhaaGreatDoorVJ
import Derived.Test.YtiegdiegflfmhaaGreatDoorVG
namespace Go.Proofs.YtiegdiegflfmhaaGreatDoor
open Go.RowKit
set_option linter.unusedVariables false
set_option linter.unusedSimpArgs false
set_option maxRecDepth 100000

open Pt (Pt may enc readPt readE zeroPt pc pv PtV SlA OwnA)
theorem Copied.use {w w' : World} {u1 u2 : Ub} {r : Ending} (h : Copied w u1 u2 r w') (k1 : WfU u1) (k2 : WfU u2) : ∃ h c a1 c1 a2 c2 sp, r = .returned (.slice (some ⟨h, 0, none⟩) 2 c) ∧ Blk w' h 28 (uc (.slice a1 u1.root.ads.length c1) u1 ++ (uc (.slice a2 u2.root.ads.length c2) u2 ++ sp)) ∧
    UbV w' (uv (.slice a1 u1.root.ads.length c1) u1) u1 ∧ UbV w' (uv (.slice a2 u2.root.ads.length c2) u2) u2 ∧ Frm [] w w' ∧ (∀ j ∈ blk (.slice a1 u1.root.ads.length c1), j < w'.heap.size) ∧ (∀ j ∈ blk (.slice a2 u2.root.ads.length c2), j < w'.heap.size) := by
  obtain ⟨v, r1, r2, rfl, hm, ⟨a1, c1, s1, e1, o1, _⟩, ⟨a2, c2, s2, e2, o2, _⟩⟩ := h
  obtain ⟨av, cv, sv, rfl, ho, hb, hf⟩ := hm
  obtain ⟨hl, ⟨q1, q2, q3⟩ | ⟨g, cap, q1, q2, q3, q4, q5⟩⟩ := ho
  · simp at q2
  · cases q1
    refine ⟨g, _, a1, c1, a2, c2, sv, rfl, ?_, ⟨a1, c1, s1, rfl, o1.sl, k1⟩, ⟨a2, c2, s2, rfl, o2.sl, k2⟩, hf, o1.lt, o2.lt⟩
    rw [← e1, ← e2]
    show w'.heap[g]? = some (.cells (r1.1 ++ (r2.1 ++ sv)).toArray 28 (0, 0))
    rw [show r1.1 ++ (r2.1 ++ sv) = Kr.flt eR [r1, r2] ++ sv by simp [Kr.flt, eR]]
    exact q5
set_option maxHeartbeats 16000000 in
theorem packs_law (x : Value) (u : Ub) (y : Value) (t : Ub) {w : World} (hx : UbV w x u) (hy : UbV w y t) {s0 s1 s2 : Addr} (hs : Sens w s0 s1 s2) (hG : Hs.Glob w) : Calls Tryz.prog 3 #[x, y] w (Yes w) := by
  obtain ⟨ax, cx, spx, rfl, hA, hw⟩ := id hx
  obtain ⟨ay, cy, spy, rfl, hA2, hw2⟩ := id hy
  have HX := Lib.hid hx
  have HY := Lib.hid hy
  have B1 := UB.new w (.slice ax u.root.ads.length cx) hw
  have hlx : uv (.slice ax u.root.ads.length cx) u = .agg (uc (.slice ax u.root.ads.length cx) u).toArray := rfl
  have hly : uv (.slice ay t.root.ads.length cy) t = .agg (uc (.slice ay t.root.ads.length cy) t).toArray := rfl
  have f1 : Frm [] w (w.alloc (.cells (uc (.slice ax u.root.ads.length cx) u).toArray 28)) := (Frm.refl [] w).alloc _
  have B2 := UB.new (w.alloc (.cells (uc (.slice ax u.root.ads.length cx) u).toArray 28)) (.slice ay t.root.ads.length cy) hw2
  have f2 : Frm [] (w.alloc (.cells (uc (.slice ax u.root.ads.length cx) u).toArray 28)) ((w.alloc (.cells (uc (.slice ax u.root.ads.length cx) u).toArray 28)).alloc (.cells (uc (.slice ay t.root.ads.length cy) t).toArray 28)) := (Frm.refl [] _).alloc _
  have B1' := B1.keep0 f2
  have f := f1.trans f2 (by simp)
  have HG := Lib.hid hG
  have HK := Lib.hid (fun W (f : Frm [] w W) => awake_any W (hs.keep0 f) (HG.out.keep f (by simp)))
  have HPK := Lib.hid (fun x W (f : Frm [] w W) (hx : UbV W x u) (hl : u.root.ads.length ≤ 1000000) => Pack_any x u W hx hl (HG.out.keep f (by simp)))
  have HRP := Lib.hid (fun W (f : Frm [] w W) (hl : u.root.ads.length ≤ 1000000) => RefPack_any _ u W (hx.keep0 f) hl)
  have HCU := Lib.hid (fun g W (f : Frm [] w W) hb h1 h2 => CopyU_any g (.slice ax u.root.ads.length cx) (.slice ay t.root.ads.length cy) u t W hb rfl rfl (hx.keep0 f) (hy.keep0 f) h1 h2)
  have HW1 := Lib.hid hw
  have HW2 := Lib.hid hw2
  unfold PackP at HPK HRP
  rw [hlx, hly]
  have HLX := Lib.hid hlx
  have HLY := Lib.hid hly
  have hbs := built28x2 (uc_length (v := .slice ax u.root.ads.length cx) hw) (uc_length (v := .slice ay t.root.ads.length cy) hw2)
  clear hlx hly hG hw hw2 hA hA2 hx hy hs B1 f1 f2
  obtain ⟨L1, hL1⟩ : ∃ L1, w.heap.size = L1 := ⟨_, rfl⟩
  obtain ⟨A, hAr⟩ : ∃ A, (uc (.slice ax u.root.ads.length cx) u).toArray = A := ⟨_, rfl⟩
  obtain ⟨B, hBr⟩ : ∃ B, (uc (.slice ay t.root.ads.length cy) t).toArray = B := ⟨_, rfl⟩
  rw [hAr, hBr] at f B1' ⊢
  rw [hAr] at B2
  rw [hBr] at B2
  obtain ⟨L2, hL2⟩ : ∃ L2, (w.alloc (.cells A 28)).heap.size = L2 := ⟨_, rfl⟩
  rw [hL1] at B1'
  rw [hL2] at B2
  rw [hAr, hBr] at hbs
  have HBS := Lib.hid hbs
  have HAR := Lib.hid hAr
  have HBR := Lib.hid hBr
  clear hbs
  go_enter Tryz.func3, Tryz.ntmps3
  go_upto_region 1 with (fail)
  generalize (w.alloc (.cells A 28)).alloc (.cells B 28) = W0 at *
  have F0 := Lib.hid f
  have BU0 := Lib.hid B1'
  have BT0 := Lib.hid B2
  have k1 := B1'.gets.c1
  have k2 := B2.gets.c1
  clear B1' B2 f hL1 hL2 hAr hBr
  by_cases hla : 20 < u.root.ads.length
  · have hla' : (20 : Int) < u.root.ads.length := by omega
    clear hla
    go_wp2_with (go_at_call 8; refine (HK.out _ F0.out).mono ?_; rintro r W1 ⟨rfl, f1⟩)
    go_ret
    exact ⟨rfl, F0.out.trans f1 (by simp)⟩
  have hla' : ¬ (20 : Int) < u.root.ads.length := by omega
  have HLA := Lib.hid (show u.root.ads.length ≤ 1000000 by omega)
  clear hla
  by_cases hlb : 20 < t.root.ads.length
  · have hlb' : (20 : Int) < t.root.ads.length := by omega
    clear hlb
    go_wp2_with (go_at_call 8; refine (HK.out _ F0.out).mono ?_; rintro r W1 ⟨rfl, f1⟩)
    go_ret
    exact ⟨rfl, F0.out.trans f1 (by simp)⟩
  have hlb' : ¬ (20 : Int) < t.root.ads.length := by omega
  have HLB := Lib.hid (show t.root.ads.length ≤ 1000000 by omega)
  clear hlb
  go_upto_region 3 with fail
  clear k1 k2 hla' hlb'
  have G1 := Lib.hid BU0.out.gets.all
  have G2 := Lib.hid BT0.out.gets.all
  rw [HLX.out, HAR.out] at G1
  rw [HLY.out, HBR.out] at G2
  have fN : Frm [] W0 (W0.alloc (.cells (uc (.slice ax u.root.ads.length cx) u ++ uc (.slice ay t.root.ads.length cy) t).toArray 28)) := (Frm.refl [] W0).alloc _
  have HCp := Lib.hid (HCU.out W0.heap.size _ (F0.out.trans fN (by simp)) (heap_alloc_new W0 (.cells (uc (.slice ax u.root.ads.length cx) u ++ uc (.slice ay t.root.ads.length cy) t).toArray 28)) HLA.out HLB.out)
  have FN := Lib.hid fN
  clear fN
  go_upto_region 4 with (first
    | ((with_reducible (show wpList _ _ _ (Oper.mk (some 25) (Op.load 28 _) _ _ _ _ :: _) _ _)); refine wpList_load_g (by rfl) 28 _ rfl _ rfl G1.out ?_)
    | ((with_reducible (show wpList _ _ _ (Oper.mk (some 26) (Op.load 28 _) _ _ _ _ :: _) _ _)); refine wpList_load_g (by rfl) 28 _ rfl _ rfl G2.out ?_)
    | ((with_reducible (show wpList _ _ _ (Oper.mk _ (Op.buildSlice _ _ _) _ _ _ _ :: _) _ _)); refine Great.wpList_buildSliceTo rfl 30 28 2 #[(0, .tmp 25), (1, .tmp 26)] rfl W0.heap.size rfl (some 27) rfl Tryz.underlying30 (uc (.slice ax u.root.ads.length cx) u ++ uc (.slice ay t.root.ads.length cy) t).toArray (by simp only [List.map_toArray, List.map_cons, List.map_nil]; exact HBS.out) ?_)
    | (go_at_call 9; refine HCp.out.mono ?_; intro r W1 hcp; obtain ⟨h, c, a1, c1, a2, c2, sp, rfl, hbk, hu1, hu2, f1, z1, z2⟩ := hcp.use HW1.out HW2.out))
  have F1 := Lib.hid ((F0.out.trans FN.out (by simp)).trans f1 (by simp))
  have fz := FN.out.trans f1 (by simp)
  have ZF := Lib.hid F1.out.size
  have BU1 := Lib.hid (BU0.out.keep0 fz)
  have BT1 := Lib.hid (BT0.out.keep0 fz)
  have ZL := Lib.hid (show L1 < W1.heap.size ∧ L2 < W1.heap.size ∧ h < W1.heap.size from ⟨BU1.out.lt, BT1.out.lt, hbk.lt⟩)
  have BK1 := Lib.hid hbk
  have U1 := Lib.hid hu1
  have U2 := Lib.hid hu2
  have Z1 := Lib.hid z1
  have Z2 := Lib.hid z2
  have LD := Lib.hid (show (Instr.loadAt 28 (.pointer (some ⟨h, 0, none⟩))).run Tryz.prog W1 = .ok (uv (.slice a1 u.root.ads.length c1) u) W1 from Blk.load (pre := []) hbk rfl d28 (by rw [i28, uc_length HW1.out]))
  clear fz hbk hu1 hu2 z1 z2 f1 BU0 BT0 G1 G2 HCp FN F0 HBS HCU HLX HLY HAR HBR
  obtain ⟨P, hP⟩ : ∃ P, packO u = P := ⟨_, rfl⟩
  rw [hP] at HPK HRP
  obtain ⟨e, he⟩ : ∃ e, mayE u = e := ⟨_, rfl⟩
  have CK0 := Lib.hid (fun x W (hx : UbV W x u) => Check_any x u W hx HLA.out)
  have CK1 := Lib.hid (fun W (f : Frm [] w W) => RefUCheck_any _ u W (HX.out.keep0 f) HLA.out)
  rw [he] at HPK HRP CK0 CK1
  clear hP he
  go_upto_region 5 with (first
    | ((with_reducible (show wpList _ _ _ (Oper.mk _ (Op.load 28 _) _ _ _ _ :: _) _ _)); refine wpList_load_g (by rfl) 28 _ rfl _ rfl LD.out ?_)
    | (go_at_call 10; refine (HPK.out _ _ F1.out U1.out HLA.out).mono ?_; rintro r W2 ⟨a3, c3, s3, rfl, o3, f3, n3⟩))
  have F2 := Lib.hid (F1.out.trans f3 (by simp))
  have GU := Lib.hid (BU1.out.keep0 f3).gets.all
  clear LD
  go_upto_region 6 with (first
    | ((with_reducible (show wpList _ _ _ (Oper.mk _ (Op.load 28 _) _ _ _ _ :: _) _ _)); refine wpList_load_g (by rfl) 28 _ rfl _ rfl GU.out ?_)
    | (go_at_call 11; refine (HRP.out _ F2.out HLA.out).mono ?_; rintro r W3 ⟨a4, c4, s4, rfl, o4, f4, n4⟩))
  have f34 := f3.trans f4 (by simp)
  have F3 := Lib.hid (F2.out.trans f4 (by simp))
  have BU3 := Lib.hid (BU1.out.keep0 f34)
  have BT3 := Lib.hid (BT1.out.keep0 f34)
  have BK3 := Lib.hid (BK1.out.keep0 f34)
  have V1 := Lib.hid (U1.out.keep0 f34)
  have V2 := Lib.hid (U2.out.keep0 f34)
  have O3 := Lib.hid (o3.keep f4 (by simp))
  have O4 := Lib.hid o4.sl
  have N3 := Lib.hid (show ∀ i ∈ blk (.slice a3 P.length c3), W1.heap.size ≤ i from n3)
  have N4 := Lib.hid (show ∀ i ∈ blk (.slice a4 P.length c4), i ∉ blk (.slice a3 P.length c3) from fun i hi hm => by have := n4 i hi; have := o3.lt i hm; omega)
  have LD0 := Lib.hid (fun W (f : Frm [] W3 W) => show (Instr.loadAt 28 (.pointer (some ⟨h, 0, none⟩))).run Tryz.prog W = .ok (uv (.slice a1 u.root.ads.length c1) u) W from Blk.load (pre := []) (BK3.out.keep0 f) rfl d28 (by rw [i28, uc_length HW1.out]))
  have LD1 := Lib.hid (fun W (f : Frm [] W3 W) => show (Instr.loadAt 28 (.pointer (some ⟨h, 69, none⟩))).run Tryz.prog W = .ok (uv (.slice a2 t.root.ads.length c2) t) W from Blk.load (pre := uc (.slice a1 u.root.ads.length c1) u) (BK3.out.keep0 f) (uc_length HW1.out) d28 (by rw [i28, uc_length HW2.out]))
  have LU := Lib.hid (fun W (f : Frm [] W3 W) => (BU3.out.keep0 f).gets.all)
  have LT := Lib.hid (fun W (f : Frm [] W3 W) => (BT3.out.keep0 f).gets.all)
  have C12 := Lib.hid (fun z (f : Frm [] W3 z) => (Same_any _ _ _ _ _ _ z (O3.out.keep f (by simp)).sl (O4.out.keep f (by simp))).mono (fun r w' (h : _ ∧ _) => (⟨h.1, h.2 ▸ Frm.refl [] z⟩ : _ ∧ Frm [] z w')))
  rw [show (P == P) = true from beq_self_eq_true P] at C12
  have C15 := Lib.hid (fun z (f : Frm [] W3 z) => USame_any _ _ u t z (V1.out.keep0 f) (V2.out.keep0 f) HLA.out)
  have C16 := Lib.hid (fun z (f : Frm [] W3 z) => RefSame_any _ _ u t z (HX.out.keep0 (F3.out.trans f (by simp))) (HY.out.keep0 (F3.out.trans f (by simp))) HLA.out)
  obtain ⟨q, hq⟩ : ∃ q, sameU u t = q := ⟨_, rfl⟩
  rw [hq] at C15 C16
  clear hq f34 f3 f4 n3 n4 o3 o4 GU F2 F1 BU1 BT1 BK1 U1 U2 HRP
  refine wp_region_held_drew (S := fun z => Frm [] W3 z) (by kernel_rfl) ((Frm.refl [] W3).drew) (fun hHeld => ?_)
  refine wpAnyH_take (i := 0) (oi := { dst := some 41, op := Op.move (Operand.tmp 6), type := 32, pos := "law.go:19", after := #[], guard := none }) (v := ?_) rfl (by kernel_rfl) (by kernel_rfl) (by kernel_rfl) (fun _ _ _ h => h) (Or.inl ⟨by rfl, ?_⟩) hHeld ?_
  rotate_left
  focus (intro z hSw; clear hSw; go_simp; try with_reducible rfl)
  try simp only [Act.put, List.setIfInBounds_toArray, List.set_cons_zero, List.set_cons_succ]
  refine wpAnyH_take (i := 1) (oi := { dst := some 42, op := Op.move (Operand.tmp 8), type := 32, pos := "law.go:19", after := #[], guard := none }) (v := ?_) rfl (by kernel_rfl) (by kernel_rfl) (by kernel_rfl) (fun _ _ _ h => h) (Or.inl ⟨by rfl, ?_⟩) hHeld ?_
  rotate_left
  focus (intro z hSw; clear hSw; go_simp; try with_reducible rfl)
  try simp only [Act.put, List.setIfInBounds_toArray, List.set_cons_zero, List.set_cons_succ]
  refine wpAnyH_ready (rs := [2]) (by kernel_rfl) (by simp) ?_
  refine AllReadyH.cons (o := { dst := some 43, op := Op.call { callee := Callee.value (Operand.func 12), args := #[Operand.tmp 41, Operand.tmp 42], argTypes := #[32, 32] }, type := 4, pos := "law.go:19", after := #[{ on := 0, ground := Ground.data }, { on := 1, ground := Ground.data }], guard := none }) rfl (fun K hK => ?_) AllReadyH.nil
  go_simp
  refine (C12.out _ hHeld).mono ?_
  rintro r wn ⟨rfl, fn⟩
  refine hK.out _ _ ?_ (fun hNext => ?_)
  · exact hHeld.trans fn (by simp)
  clear hK K hHeld
  have hHeld := hNext
  clear hNext
  try simp only [Act.put, List.setIfInBounds_toArray, List.set_cons_zero, List.set_cons_succ]
  refine wpAnyH_take (i := 3) (oi := { dst := some 44, op := Op.unOp UnOp.not 4 (Operand.tmp 43), type := 4, pos := "law.go:19", after := #[{ on := 2, ground := Ground.data }], guard := none }) (v := ?_) rfl (by kernel_rfl) (by kernel_rfl) (by kernel_rfl) (fun _ _ _ h => h) (Or.inl ⟨by rfl, ?_⟩) hHeld ?_
  rotate_left
  focus (intro z hSw; clear hSw; go_simp; try with_reducible rfl)
  try simp only [Act.put, List.setIfInBounds_toArray, List.set_cons_zero, List.set_cons_succ]
  refine wpAnyH_take (i := 4) (oi := { dst := some 45, op := Op.move (Operand.tmp 44), type := 4, pos := "law.go:19", after := #[{ on := 3, ground := Ground.data }, { on := 2, ground := Ground.chain }], guard := none }) (v := ?_) rfl (by kernel_rfl) (by kernel_rfl) (by kernel_rfl) (fun _ _ _ h => h) (Or.inl ⟨by rfl, ?_⟩) hHeld ?_
  rotate_left
  focus (intro z hSw; clear hSw; go_simp; try with_reducible rfl)
  try simp only [Act.put, List.setIfInBounds_toArray, List.set_cons_zero, List.set_cons_succ]
  refine wpAnyH_take (i := 5) (oi := { dst := some 46, op := Op.move (Operand.tmp 7), type := 33, pos := "law.go:19", after := #[{ on := 4, ground := Ground.guard }], guard := some (4, false) }) (v := ?_) rfl (by kernel_rfl) (by kernel_rfl) (by kernel_rfl) (fun _ _ _ h => h) (Or.inl ⟨by rfl, ?_⟩) hHeld ?_
  rotate_left
  focus (intro z hSw; clear hSw; go_simp; try with_reducible rfl)
  try simp only [Act.put, List.setIfInBounds_toArray, List.set_cons_zero, List.set_cons_succ]
  refine wpAnyH_take (i := 6) (oi := { dst := some 47, op := Op.move (Operand.tmp 9), type := 33, pos := "law.go:19", after := #[{ on := 4, ground := Ground.guard }], guard := some (4, false) }) (v := ?_) rfl (by kernel_rfl) (by kernel_rfl) (by kernel_rfl) (fun _ _ _ h => h) (Or.inl ⟨by rfl, ?_⟩) hHeld ?_
  rotate_left
  focus (intro z hSw; clear hSw; go_simp; try with_reducible rfl)
  try simp only [Act.put, List.setIfInBounds_toArray, List.set_cons_zero, List.set_cons_succ]
  refine wpAnyH_take (i := 7) (oi := { dst := some 48, op := Op.binOp BinOp.neq 33 (Operand.tmp 46) (Operand.tmp 47) 33, type := 4, pos := "law.go:19", after := #[{ on := 5, ground := Ground.data }, { on := 6, ground := Ground.data }, { on := 4, ground := Ground.guard }], guard := some (4, false) }) (v := ?_) rfl (by kernel_rfl) (by kernel_rfl) (by kernel_rfl) (fun _ _ _ h => h) (Or.inl ⟨by rfl, ?_⟩) hHeld ?_
  rotate_left
  focus (intro z hSw; clear hSw; go_simp; try with_reducible rfl)
  try simp only [Act.put, List.setIfInBounds_toArray, List.set_cons_zero, List.set_cons_succ]
  refine wpAnyH_take (i := 8) (oi := { dst := some 49, op := Op.pick (Operand.tmp 45) (Operand.const (Value.bool true)) (Operand.tmp 48), type := 4, pos := "law.go:19", after := #[{ on := 4, ground := Ground.data }, { on := 7, ground := Ground.data }], guard := none }) (v := ?_) rfl (by kernel_rfl) (by kernel_rfl) (by kernel_rfl) (fun _ _ _ h => h) (Or.inl ⟨by rfl, ?_⟩) hHeld ?_
  rotate_left
  focus (intro z hSw; clear hSw; go_simp; try with_reducible rfl)
  try simp only [Act.put, List.setIfInBounds_toArray, List.set_cons_zero, List.set_cons_succ]
  refine wpAnyH_take (i := 9) (oi := { dst := some 50, op := Op.move (Operand.tmp 49), type := 4, pos := "law.go:19", after := #[{ on := 8, ground := Ground.data }, { on := 4, ground := Ground.chain }], guard := none }) (v := ?_) rfl (by kernel_rfl) (by kernel_rfl) (by kernel_rfl) (fun _ _ _ h => h) (Or.inl ⟨by rfl, ?_⟩) hHeld ?_
  rotate_left
  focus (intro z hSw; clear hSw; go_simp; try with_reducible rfl)
  try simp only [Act.put, List.setIfInBounds_toArray, List.set_cons_zero, List.set_cons_succ]
  refine wpAnyH_take (i := 10) (oi := { dst := some 51, op := Op.move (Operand.tmp 5), type := 30, pos := "law.go:19", after := #[{ on := 9, ground := Ground.guard }], guard := some (9, false) }) (v := ?_) rfl (by kernel_rfl) (by kernel_rfl) (by kernel_rfl) (fun _ _ _ h => h) (Or.inl ⟨by rfl, ?_⟩) hHeld ?_
  rotate_left
  focus (intro z hSw; clear hSw; go_simp; try with_reducible rfl)
  try simp only [Act.put, List.setIfInBounds_toArray, List.set_cons_zero, List.set_cons_succ]
  refine wpAnyH_take (i := 11) (oi := { dst := some 52, op := Op.indexAddr 30 (Operand.tmp 51) (Operand.const (Value.int IntKind.i64 0)), type := 0, pos := "law.go:19", after := #[{ on := 10, ground := Ground.data }, { on := 9, ground := Ground.guard }], guard := some (9, false) }) (v := ?_) rfl (by kernel_rfl) (by kernel_rfl) (by kernel_rfl) (fun _ _ _ h => h) (Or.inl ⟨by rfl, ?_⟩) hHeld ?_
  rotate_left
  focus (intro z hSw; clear hSw; go_simp; try with_reducible rfl)
  try simp only [Act.put, List.setIfInBounds_toArray, List.set_cons_zero, List.set_cons_succ]
  refine wpAnyH_take (i := 12) (oi := { dst := some 53, op := Op.load 28 (Operand.tmp 52), type := 28, pos := "law.go:19", after := #[{ on := 11, ground := Ground.data }, { on := 9, ground := Ground.guard }], guard := some (9, false) }) rfl (by kernel_rfl) (by kernel_rfl) (by kernel_rfl) (fun _ _ _ h => h) (yieldsIf_ld (by rfl) 28 _ rfl _ rfl (fun z hSw => LD0.out _ hSw)) hHeld ?_
  try simp only [Act.put, List.setIfInBounds_toArray, List.set_cons_zero, List.set_cons_succ]
  refine wpAnyH_take (i := 14) (oi := { dst := some 55, op := Op.load 28 (Operand.tmp 2), type := 28, pos := "law.go:19", after := #[{ on := 9, ground := Ground.guard }], guard := some (9, false) }) rfl (by kernel_rfl) (by kernel_rfl) (by kernel_rfl) (fun _ _ _ h => h) (yieldsIf_ld (by rfl) 28 _ rfl _ rfl (fun z hSw => LU.out _ hSw)) hHeld ?_
  try simp only [Act.put, List.setIfInBounds_toArray, List.set_cons_zero, List.set_cons_succ]
  refine wpAnyH_ready (rs := [13]) (by kernel_rfl) (by simp) ?_
  refine AllReadyH.cons (o := { dst := some 54, op := Op.call { callee := Callee.value (Operand.func 13), args := #[Operand.tmp 53], argTypes := #[28] }, type := 33, pos := "law.go:19", after := #[{ on := 12, ground := Ground.data }, { on := 9, ground := Ground.chain }, { on := 9, ground := Ground.guard }], guard := some (9, false) }) rfl (fun K hK => ?_) AllReadyH.nil
  go_simp
  refine (CK0.out _ _ (V1.out.keep0 hHeld)).mono ?_
  rintro r wn ⟨rfl, fn⟩
  refine hK.out _ _ ?_ (fun hNext => ?_)
  · exact hHeld.trans fn (by simp)
  clear hK K hHeld
  have hHeld := hNext
  clear hNext
  try simp only [Act.put, List.setIfInBounds_toArray, List.set_cons_zero, List.set_cons_succ]
  refine wpAnyH_ready (rs := [15]) (by kernel_rfl) (by simp) ?_
  refine AllReadyH.cons (o := { dst := some 56, op := Op.call { callee := Callee.value (Operand.func 14), args := #[Operand.tmp 55], argTypes := #[28] }, type := 33, pos := "law.go:19", after := #[{ on := 14, ground := Ground.data }, { on := 13, ground := Ground.chain }, { on := 9, ground := Ground.guard }], guard := some (9, false) }) rfl (fun K hK => ?_) AllReadyH.nil
  go_simp
  refine (CK1.out _ (F3.out.trans hHeld (by simp))).mono ?_
  rintro r wn ⟨rfl, fn⟩
  refine hK.out _ _ ?_ (fun hNext => ?_)
  · exact hHeld.trans fn (by simp)
  clear hK K hHeld
  have hHeld := hNext
  clear hNext
  try simp only [Act.put, List.setIfInBounds_toArray, List.set_cons_zero, List.set_cons_succ]
  refine wpAnyH_take (i := 16) (oi := { dst := some 57, op := Op.binOp BinOp.neq 33 (Operand.tmp 54) (Operand.tmp 56) 33, type := 4, pos := "law.go:19", after := #[{ on := 13, ground := Ground.data }, { on := 15, ground := Ground.data }, { on := 9, ground := Ground.guard }], guard := some (9, false) }) (v := ?_) rfl (by kernel_rfl) (by kernel_rfl) (by kernel_rfl) (fun _ _ _ h => h) (Or.inl ⟨by rfl, ?_⟩) hHeld ?_
  rotate_left
  focus (intro z hSw; clear hSw; go_simp; try with_reducible rfl)
  try simp only [Act.put, List.setIfInBounds_toArray, List.set_cons_zero, List.set_cons_succ]
  refine wpAnyH_take (i := 17) (oi := { dst := some 58, op := Op.pick (Operand.tmp 50) (Operand.const (Value.bool true)) (Operand.tmp 57), type := 4, pos := "law.go:19", after := #[{ on := 9, ground := Ground.data }, { on := 16, ground := Ground.data }], guard := none }) (v := ?_) rfl (by kernel_rfl) (by kernel_rfl) (by kernel_rfl) (fun _ _ _ h => h) (Or.inl ⟨by rfl, ?_⟩) hHeld ?_
  rotate_left
  focus (intro z hSw; clear hSw; go_simp; try with_reducible rfl)
  try simp only [Act.put, List.setIfInBounds_toArray, List.set_cons_zero, List.set_cons_succ]
  refine wpAnyH_take (i := 18) (oi := { dst := some 59, op := Op.move (Operand.tmp 58), type := 4, pos := "law.go:19", after := #[{ on := 17, ground := Ground.data }, { on := 15, ground := Ground.chain }], guard := none }) (v := ?_) rfl (by kernel_rfl) (by kernel_rfl) (by kernel_rfl) (fun _ _ _ h => h) (Or.inl ⟨by rfl, ?_⟩) hHeld ?_
  rotate_left
  focus (intro z hSw; clear hSw; go_simp; try with_reducible rfl)
  try simp only [Act.put, List.setIfInBounds_toArray, List.set_cons_zero, List.set_cons_succ]
  refine wpAnyH_take (i := 19) (oi := { dst := some 60, op := Op.move (Operand.tmp 5), type := 30, pos := "law.go:19", after := #[{ on := 18, ground := Ground.guard }], guard := some (18, false) }) (v := ?_) rfl (by kernel_rfl) (by kernel_rfl) (by kernel_rfl) (fun _ _ _ h => h) (Or.inl ⟨by rfl, ?_⟩) hHeld ?_
  rotate_left
  focus (intro z hSw; clear hSw; go_simp; try with_reducible rfl)
  try simp only [Act.put, List.setIfInBounds_toArray, List.set_cons_zero, List.set_cons_succ]
  refine wpAnyH_take (i := 20) (oi := { dst := some 61, op := Op.indexAddr 30 (Operand.tmp 60) (Operand.const (Value.int IntKind.i64 0)), type := 0, pos := "law.go:19", after := #[{ on := 19, ground := Ground.data }, { on := 18, ground := Ground.guard }], guard := some (18, false) }) (v := ?_) rfl (by kernel_rfl) (by kernel_rfl) (by kernel_rfl) (fun _ _ _ h => h) (Or.inl ⟨by rfl, ?_⟩) hHeld ?_
  rotate_left
  focus (intro z hSw; clear hSw; go_simp; try with_reducible rfl)
  try simp only [Act.put, List.setIfInBounds_toArray, List.set_cons_zero, List.set_cons_succ]
  refine wpAnyH_take (i := 21) (oi := { dst := some 62, op := Op.load 28 (Operand.tmp 61), type := 28, pos := "law.go:19", after := #[{ on := 20, ground := Ground.data }, { on := 18, ground := Ground.guard }], guard := some (18, false) }) rfl (by kernel_rfl) (by kernel_rfl) (by kernel_rfl) (fun _ _ _ h => h) (yieldsIf_ld (by rfl) 28 _ rfl _ rfl (fun z hSw => LD0.out _ hSw)) hHeld ?_
  try simp only [Act.put, List.setIfInBounds_toArray, List.set_cons_zero, List.set_cons_succ]
  refine wpAnyH_take (i := 22) (oi := { dst := some 63, op := Op.move (Operand.tmp 5), type := 30, pos := "law.go:19", after := #[{ on := 18, ground := Ground.guard }], guard := some (18, false) }) (v := ?_) rfl (by kernel_rfl) (by kernel_rfl) (by kernel_rfl) (fun _ _ _ h => h) (Or.inl ⟨by rfl, ?_⟩) hHeld ?_
  rotate_left
  focus (intro z hSw; clear hSw; go_simp; try with_reducible rfl)
  try simp only [Act.put, List.setIfInBounds_toArray, List.set_cons_zero, List.set_cons_succ]
  refine wpAnyH_take (i := 23) (oi := { dst := some 64, op := Op.indexAddr 30 (Operand.tmp 63) (Operand.const (Value.int IntKind.i64 1)), type := 0, pos := "law.go:19", after := #[{ on := 22, ground := Ground.data }, { on := 18, ground := Ground.guard }], guard := some (18, false) }) (v := ?_) rfl (by kernel_rfl) (by kernel_rfl) (by kernel_rfl) (fun _ _ _ h => h) (Or.inl ⟨by rfl, ?_⟩) hHeld ?_
  rotate_left
  focus (intro z hSw; clear hSw; go_simp; try with_reducible rfl)
  try simp only [Act.put, List.setIfInBounds_toArray, List.set_cons_zero, List.set_cons_succ]
  refine wpAnyH_take (i := 24) (oi := { dst := some 65, op := Op.load 28 (Operand.tmp 64), type := 28, pos := "law.go:19", after := #[{ on := 23, ground := Ground.data }, { on := 18, ground := Ground.guard }], guard := some (18, false) }) rfl (by kernel_rfl) (by kernel_rfl) (by kernel_rfl) (fun _ _ _ h => h) (yieldsIf_ld (by rfl) 28 _ rfl _ rfl (fun z hSw => LD1.out _ hSw)) hHeld ?_
  try simp only [Act.put, List.setIfInBounds_toArray, List.set_cons_zero, List.set_cons_succ]
  refine wpAnyH_take (i := 26) (oi := { dst := some 67, op := Op.load 28 (Operand.tmp 2), type := 28, pos := "law.go:19", after := #[{ on := 18, ground := Ground.guard }], guard := some (18, false) }) rfl (by kernel_rfl) (by kernel_rfl) (by kernel_rfl) (fun _ _ _ h => h) (yieldsIf_ld (by rfl) 28 _ rfl _ rfl (fun z hSw => LU.out _ hSw)) hHeld ?_
  try simp only [Act.put, List.setIfInBounds_toArray, List.set_cons_zero, List.set_cons_succ]
  refine wpAnyH_take (i := 27) (oi := { dst := some 68, op := Op.load 28 (Operand.tmp 3), type := 28, pos := "law.go:19", after := #[{ on := 18, ground := Ground.guard }], guard := some (18, false) }) rfl (by kernel_rfl) (by kernel_rfl) (by kernel_rfl) (fun _ _ _ h => h) (yieldsIf_ld (by rfl) 28 _ rfl _ rfl (fun z hSw => LT.out _ hSw)) hHeld ?_
  try simp only [Act.put, List.setIfInBounds_toArray, List.set_cons_zero, List.set_cons_succ]
  refine wpAnyH_ready (rs := [25]) (by kernel_rfl) (by simp) ?_
  refine AllReadyH.cons (o := { dst := some 66, op := Op.call { callee := Callee.value (Operand.func 15), args := #[Operand.tmp 62, Operand.tmp 65], argTypes := #[28, 28] }, type := 4, pos := "law.go:19", after := #[{ on := 21, ground := Ground.data }, { on := 24, ground := Ground.data }, { on := 18, ground := Ground.chain }, { on := 18, ground := Ground.guard }], guard := some (18, false) }) rfl (fun K hK => ?_) AllReadyH.nil
  go_simp
  refine (C15.out _ hHeld).mono ?_
  rintro r wn ⟨rfl, fn⟩
  refine hK.out _ _ ?_ (fun hNext => ?_)
  · exact hHeld.trans fn (by simp)
  clear hK K hHeld
  have hHeld := hNext
  clear hNext
  try simp only [Act.put, List.setIfInBounds_toArray, List.set_cons_zero, List.set_cons_succ]
  refine wpAnyH_ready (rs := [28]) (by kernel_rfl) (by simp) ?_
  refine AllReadyH.cons (o := { dst := some 69, op := Op.call { callee := Callee.value (Operand.func 16), args := #[Operand.tmp 67, Operand.tmp 68], argTypes := #[28, 28] }, type := 4, pos := "law.go:19", after := #[{ on := 26, ground := Ground.data }, { on := 27, ground := Ground.data }, { on := 25, ground := Ground.chain }, { on := 18, ground := Ground.guard }], guard := some (18, false) }) rfl (fun K hK => ?_) AllReadyH.nil
  go_simp
  refine (C16.out _ hHeld).mono ?_
  rintro r wn ⟨rfl, fn⟩
  refine hK.out _ _ ?_ (fun hNext => ?_)
  · exact hHeld.trans fn (by simp)
  clear hK K hHeld
  have hHeld := hNext
  clear hNext
  try simp only [Act.put, List.setIfInBounds_toArray, List.set_cons_zero, List.set_cons_succ]
  refine wpAnyH_take (i := 29) (oi := { dst := some 70, op := Op.binOp BinOp.neq 4 (Operand.tmp 66) (Operand.tmp 69) 4, type := 4, pos := "law.go:19", after := #[{ on := 25, ground := Ground.data }, { on := 28, ground := Ground.data }, { on := 18, ground := Ground.guard }], guard := some (18, false) }) (v := ?_) rfl (by kernel_rfl) (by kernel_rfl) (by kernel_rfl) (fun _ _ _ h => h) (Or.inl ⟨by rfl, ?_⟩) hHeld ?_
  rotate_left
  focus (intro z hSw; clear hSw; go_simp; try with_reducible rfl)
  try simp only [Act.put, List.setIfInBounds_toArray, List.set_cons_zero, List.set_cons_succ]
  refine wpAnyH_take (i := 30) (oi := { dst := some 71, op := Op.pick (Operand.tmp 59) (Operand.const (Value.bool true)) (Operand.tmp 70), type := 4, pos := "law.go:19", after := #[{ on := 18, ground := Ground.data }, { on := 29, ground := Ground.data }], guard := none }) (v := ?_) rfl (by kernel_rfl) (by kernel_rfl) (by kernel_rfl) (fun _ _ _ h => h) (Or.inl ⟨by rfl, ?_⟩) hHeld ?_
  rotate_left
  focus (intro z hSw; clear hSw; go_simp; try with_reducible rfl)
  try simp only [Act.put, List.setIfInBounds_toArray, List.set_cons_zero, List.set_cons_succ]
  refine wpAnyH_done (by kernel_rfl) ?_ _
  have FH := Lib.hid hHeld
  clear hHeld
  have HO := Lib.hid (fun W (f : Frm [] W3 W) => Pt.Over_all _ P s3 W (O3.out.keep f (by simp)))
  go_upto_region 9 with (go_at_call 17; refine (HO.out _ FH.out).mono ?_; rintro r W5 ⟨rfl, f5⟩)
  have fv : Frm (blk (.slice a3 P.length c3)) W3 W5 := (FH.out.mono (by simp)).trans f5 (fun i hi => .inl hi)
  have ZW := Lib.hid (show w.heap.size ≤ W1.heap.size from ZF.out)
  have F5 := Lib.hid (show Frm [] w W5 from F3.out.trans fv (fun i hi => .inr (by have := N3.out i hi; have := ZW.out; omega)))
  have BU5 := Lib.hid (BU3.out.keep fv (fun hm => by have := N3.out _ hm; have := ZL.out; omega))
  have BT5 := Lib.hid (BT3.out.keep fv (fun hm => by have := N3.out _ hm; have := ZL.out; omega))
  have BK5 := Lib.hid (BK3.out.keep fv (fun hm => by have := N3.out _ hm; have := ZL.out; omega))
  have X1 := Lib.hid (V1.out.keep fv (fun k hk hm => by rw [ubBlk_uv] at hk; have := N3.out k hm; have := Z1.out k hk; omega))
  have X2 := Lib.hid (V2.out.keep fv (fun k hk hm => by rw [ubBlk_uv] at hk; have := N3.out k hm; have := Z2.out k hk; omega))
  have O8 := Lib.hid (O4.out.keep fv N4.out)
  have LD := Lib.hid (show (Instr.loadAt 28 (.pointer (some ⟨h, 0, none⟩))).run Tryz.prog W5 = .ok (uv (.slice a1 u.root.ads.length c1) u) W5 from Blk.load (pre := []) BK5.out rfl d28 (by rw [i28, uc_length HW1.out]))
  clear fv f5 HO FH O3 O4 N3 N4 LD0 LD1 LU LT C12 C15 C16 BU3 BT3 BK3 V1 V2 F3 CK0 CK1
  go_upto_region 10 with (first
    | ((with_reducible (show wpList _ _ _ (Oper.mk _ (Op.load 28 _) _ _ _ _ :: _) _ _)); refine wpList_load_g (by rfl) 28 _ rfl _ rfl LD.out ?_)
    | (go_at_call 10; refine (HPK.out _ _ F5.out X1.out HLA.out).mono ?_; rintro r W6 ⟨a6, c6, s6, rfl, o6, f6, n6⟩))
  have F6 := Lib.hid (F5.out.trans f6 (by simp))
  have BU6 := Lib.hid (BU5.out.keep0 f6)
  have BT6 := Lib.hid (BT5.out.keep0 f6)
  have BK6 := Lib.hid (BK5.out.keep0 f6)
  have Y1 := Lib.hid (X1.out.keep0 f6)
  have Y2 := Lib.hid (X2.out.keep0 f6)
  have OA := Lib.hid o6.sl
  have OB := Lib.hid (O8.out.keep f6 (by simp))
  have MD0 := Lib.hid (fun W (f : Frm [] W6 W) => show (Instr.loadAt 28 (.pointer (some ⟨h, 0, none⟩))).run Tryz.prog W = .ok (uv (.slice a1 u.root.ads.length c1) u) W from Blk.load (pre := []) (BK6.out.keep0 f) rfl d28 (by rw [i28, uc_length HW1.out]))
  have MD1 := Lib.hid (fun W (f : Frm [] W6 W) => show (Instr.loadAt 28 (.pointer (some ⟨h, 69, none⟩))).run Tryz.prog W = .ok (uv (.slice a2 t.root.ads.length c2) t) W from Blk.load (pre := uc (.slice a1 u.root.ads.length c1) u) (BK6.out.keep0 f) (uc_length HW1.out) d28 (by rw [i28, uc_length HW2.out]))
  have MU := Lib.hid (fun W (f : Frm [] W6 W) => (BU6.out.keep0 f).gets.all)
  have MT := Lib.hid (fun W (f : Frm [] W6 W) => (BT6.out.keep0 f).gets.all)
  have D12 := Lib.hid (fun z (f : Frm [] W6 z) => (Same_any _ _ _ _ _ _ z (OA.out.keep f (by simp)) (OB.out.keep f (by simp))).mono (fun r w' (h : _ ∧ _) => (⟨h.1, h.2 ▸ Frm.refl [] z⟩ : _ ∧ Frm [] z w')))
  rw [show (P == P) = true from beq_self_eq_true P] at D12
  have D18 := Lib.hid (fun z (f : Frm [] W6 z) => SameUber_any _ _ u u z (Y1.out.keep0 f) (HX.out.keep0 (F6.out.trans f (by simp))) HLA.out)
  have D19 := Lib.hid (fun z (f : Frm [] W6 z) => SameUber_any _ _ t t z (Y2.out.keep0 f) (HY.out.keep0 (F6.out.trans f (by simp))) HLB.out)
  rw [sameU_refl] at D18 D19
  clear f6 o6 n6 F5 BU5 BT5 BK5 X1 X2 O8 LD HPK
  refine wp_region_held_drew (S := fun z => Frm [] W6 z) (by kernel_rfl) ((Frm.refl [] W6).drew) (fun hHeld => ?_)
  refine wpAnyH_take (i := 0) (oi := { dst := some 81, op := Op.move (Operand.tmp 10), type := 32, pos := "law.go:24", after := #[], guard := none }) (v := ?_) rfl (by kernel_rfl) (by kernel_rfl) (by kernel_rfl) (fun _ _ _ h => h) (Or.inl ⟨by rfl, ?_⟩) hHeld ?_
  rotate_left
  focus (intro z hSw; clear hSw; go_simp; try with_reducible rfl)
  try simp only [Act.put, List.setIfInBounds_toArray, List.set_cons_zero, List.set_cons_succ]
  refine wpAnyH_take (i := 1) (oi := { dst := some 82, op := Op.move (Operand.tmp 8), type := 32, pos := "law.go:24", after := #[], guard := none }) (v := ?_) rfl (by kernel_rfl) (by kernel_rfl) (by kernel_rfl) (fun _ _ _ h => h) (Or.inl ⟨by rfl, ?_⟩) hHeld ?_
  rotate_left
  focus (intro z hSw; clear hSw; go_simp; try with_reducible rfl)
  try simp only [Act.put, List.setIfInBounds_toArray, List.set_cons_zero, List.set_cons_succ]
  refine wpAnyH_ready (rs := [2]) (by kernel_rfl) (by simp) ?_
  refine AllReadyH.cons (o := { dst := some 83, op := Op.call { callee := Callee.value (Operand.func 12), args := #[Operand.tmp 81, Operand.tmp 82], argTypes := #[32, 32] }, type := 4, pos := "law.go:24", after := #[{ on := 0, ground := Ground.data }, { on := 1, ground := Ground.data }], guard := none }) rfl (fun K hK => ?_) AllReadyH.nil
  go_simp
  refine (D12.out _ hHeld).mono ?_
  rintro r wn ⟨rfl, fn⟩
  refine hK.out _ _ ?_ (fun hNext => ?_)
  · exact hHeld.trans fn (by simp)
  clear hK K hHeld
  have hHeld := hNext
  clear hNext
  try simp only [Act.put, List.setIfInBounds_toArray, List.set_cons_zero, List.set_cons_succ]
  refine wpAnyH_take (i := 3) (oi := { dst := some 84, op := Op.move (Operand.tmp 83), type := 4, pos := "law.go:24", after := #[{ on := 2, ground := Ground.data }, { on := 2, ground := Ground.chain }], guard := none }) (v := ?_) rfl (by kernel_rfl) (by kernel_rfl) (by kernel_rfl) (fun _ _ _ h => h) (Or.inl ⟨by rfl, ?_⟩) hHeld ?_
  rotate_left
  focus (intro z hSw; clear hSw; go_simp; try with_reducible rfl)
  try simp only [Act.put, List.setIfInBounds_toArray, List.set_cons_zero, List.set_cons_succ]
  refine wpAnyH_take (i := 4) (oi := { dst := some 85, op := Op.move (Operand.tmp 5), type := 30, pos := "law.go:24", after := #[{ on := 3, ground := Ground.guard }], guard := some (3, true) }) (v := ?_) rfl (by kernel_rfl) (by kernel_rfl) (by kernel_rfl) (fun _ _ _ h => h) (Or.inl ⟨by rfl, ?_⟩) hHeld ?_
  rotate_left
  focus (intro z hSw; clear hSw; go_simp; try with_reducible rfl)
  try simp only [Act.put, List.setIfInBounds_toArray, List.set_cons_zero, List.set_cons_succ]
  refine wpAnyH_take (i := 5) (oi := { dst := some 86, op := Op.indexAddr 30 (Operand.tmp 85) (Operand.const (Value.int IntKind.i64 0)), type := 0, pos := "law.go:24", after := #[{ on := 4, ground := Ground.data }, { on := 3, ground := Ground.guard }], guard := some (3, true) }) (v := ?_) rfl (by kernel_rfl) (by kernel_rfl) (by kernel_rfl) (fun _ _ _ h => h) (Or.inl ⟨by rfl, ?_⟩) hHeld ?_
  rotate_left
  focus (intro z hSw; clear hSw; go_simp; try with_reducible rfl)
  try simp only [Act.put, List.setIfInBounds_toArray, List.set_cons_zero, List.set_cons_succ]
  refine wpAnyH_take (i := 6) (oi := { dst := some 87, op := Op.load 28 (Operand.tmp 86), type := 28, pos := "law.go:24", after := #[{ on := 5, ground := Ground.data }, { on := 3, ground := Ground.guard }], guard := some (3, true) }) rfl (by kernel_rfl) (by kernel_rfl) (by kernel_rfl) (fun _ _ _ h => h) (yieldsIf_ld (by rfl) 28 _ rfl _ rfl (fun z hSw => MD0.out _ hSw)) hHeld ?_
  try simp only [Act.put, List.setIfInBounds_toArray, List.set_cons_zero, List.set_cons_succ]
  refine wpAnyH_take (i := 7) (oi := { dst := some 88, op := Op.load 28 (Operand.tmp 2), type := 28, pos := "law.go:24", after := #[{ on := 3, ground := Ground.guard }], guard := some (3, true) }) rfl (by kernel_rfl) (by kernel_rfl) (by kernel_rfl) (fun _ _ _ h => h) (yieldsIf_ld (by rfl) 28 _ rfl _ rfl (fun z hSw => MU.out _ hSw)) hHeld ?_
  try simp only [Act.put, List.setIfInBounds_toArray, List.set_cons_zero, List.set_cons_succ]
  refine wpAnyH_ready (rs := [8]) (by kernel_rfl) (by simp) ?_
  refine AllReadyH.cons (o := { dst := some 89, op := Op.call { callee := Callee.value (Operand.func 18), args := #[Operand.tmp 87, Operand.tmp 88], argTypes := #[28, 28] }, type := 4, pos := "law.go:24", after := #[{ on := 6, ground := Ground.data }, { on := 7, ground := Ground.data }, { on := 3, ground := Ground.chain }, { on := 3, ground := Ground.guard }], guard := some (3, true) }) rfl (fun K hK => ?_) AllReadyH.nil
  go_simp
  refine (D18.out _ hHeld).mono ?_
  rintro r wn ⟨rfl, fn⟩
  refine hK.out _ _ ?_ (fun hNext => ?_)
  · exact hHeld.trans fn (by simp)
  clear hK K hHeld
  have hHeld := hNext
  clear hNext
  try simp only [Act.put, List.setIfInBounds_toArray, List.set_cons_zero, List.set_cons_succ]
  refine wpAnyH_take (i := 9) (oi := { dst := some 90, op := Op.pick (Operand.tmp 84) (Operand.tmp 89) (Operand.const (Value.bool false)), type := 4, pos := "law.go:24", after := #[{ on := 3, ground := Ground.data }, { on := 8, ground := Ground.data }], guard := none }) (v := ?_) rfl (by kernel_rfl) (by kernel_rfl) (by kernel_rfl) (fun _ _ _ h => h) (Or.inl ⟨by rfl, ?_⟩) hHeld ?_
  rotate_left
  focus (intro z hSw; clear hSw; go_simp; try with_reducible rfl)
  try simp only [Act.put, List.setIfInBounds_toArray, List.set_cons_zero, List.set_cons_succ]
  refine wpAnyH_take (i := 10) (oi := { dst := some 91, op := Op.move (Operand.tmp 90), type := 4, pos := "law.go:24", after := #[{ on := 9, ground := Ground.data }, { on := 8, ground := Ground.chain }], guard := none }) (v := ?_) rfl (by kernel_rfl) (by kernel_rfl) (by kernel_rfl) (fun _ _ _ h => h) (Or.inl ⟨by rfl, ?_⟩) hHeld ?_
  rotate_left
  focus (intro z hSw; clear hSw; go_simp; try with_reducible rfl)
  try simp only [Act.put, List.setIfInBounds_toArray, List.set_cons_zero, List.set_cons_succ]
  refine wpAnyH_take (i := 11) (oi := { dst := some 92, op := Op.move (Operand.tmp 5), type := 30, pos := "law.go:24", after := #[{ on := 10, ground := Ground.guard }], guard := some (10, true) }) (v := ?_) rfl (by kernel_rfl) (by kernel_rfl) (by kernel_rfl) (fun _ _ _ h => h) (Or.inl ⟨by rfl, ?_⟩) hHeld ?_
  rotate_left
  focus (intro z hSw; clear hSw; go_simp; try with_reducible rfl)
  try simp only [Act.put, List.setIfInBounds_toArray, List.set_cons_zero, List.set_cons_succ]
  refine wpAnyH_take (i := 12) (oi := { dst := some 93, op := Op.indexAddr 30 (Operand.tmp 92) (Operand.const (Value.int IntKind.i64 1)), type := 0, pos := "law.go:24", after := #[{ on := 11, ground := Ground.data }, { on := 10, ground := Ground.guard }], guard := some (10, true) }) (v := ?_) rfl (by kernel_rfl) (by kernel_rfl) (by kernel_rfl) (fun _ _ _ h => h) (Or.inl ⟨by rfl, ?_⟩) hHeld ?_
  rotate_left
  focus (intro z hSw; clear hSw; go_simp; try with_reducible rfl)
  try simp only [Act.put, List.setIfInBounds_toArray, List.set_cons_zero, List.set_cons_succ]
  refine wpAnyH_take (i := 13) (oi := { dst := some 94, op := Op.load 28 (Operand.tmp 93), type := 28, pos := "law.go:24", after := #[{ on := 12, ground := Ground.data }, { on := 10, ground := Ground.guard }], guard := some (10, true) }) rfl (by kernel_rfl) (by kernel_rfl) (by kernel_rfl) (fun _ _ _ h => h) (yieldsIf_ld (by rfl) 28 _ rfl _ rfl (fun z hSw => MD1.out _ hSw)) hHeld ?_
  try simp only [Act.put, List.setIfInBounds_toArray, List.set_cons_zero, List.set_cons_succ]
  refine wpAnyH_take (i := 14) (oi := { dst := some 95, op := Op.load 28 (Operand.tmp 3), type := 28, pos := "law.go:24", after := #[{ on := 10, ground := Ground.guard }], guard := some (10, true) }) rfl (by kernel_rfl) (by kernel_rfl) (by kernel_rfl) (fun _ _ _ h => h) (yieldsIf_ld (by rfl) 28 _ rfl _ rfl (fun z hSw => MT.out _ hSw)) hHeld ?_
  try simp only [Act.put, List.setIfInBounds_toArray, List.set_cons_zero, List.set_cons_succ]
  refine wpAnyH_ready (rs := [15]) (by kernel_rfl) (by simp) ?_
  refine AllReadyH.cons (o := { dst := some 96, op := Op.call { callee := Callee.value (Operand.func 18), args := #[Operand.tmp 94, Operand.tmp 95], argTypes := #[28, 28] }, type := 4, pos := "law.go:24", after := #[{ on := 13, ground := Ground.data }, { on := 14, ground := Ground.data }, { on := 10, ground := Ground.chain }, { on := 10, ground := Ground.guard }], guard := some (10, true) }) rfl (fun K hK => ?_) AllReadyH.nil
  go_simp
  refine (D19.out _ hHeld).mono ?_
  rintro r wn ⟨rfl, fn⟩
  refine hK.out _ _ ?_ (fun hNext => ?_)
  · exact hHeld.trans fn (by simp)
  clear hK K hHeld
  have hHeld := hNext
  clear hNext
  try simp only [Act.put, List.setIfInBounds_toArray, List.set_cons_zero, List.set_cons_succ]
  refine wpAnyH_take (i := 16) (oi := { dst := some 97, op := Op.pick (Operand.tmp 91) (Operand.tmp 96) (Operand.const (Value.bool false)), type := 4, pos := "law.go:24", after := #[{ on := 10, ground := Ground.data }, { on := 15, ground := Ground.data }], guard := none }) (v := ?_) rfl (by kernel_rfl) (by kernel_rfl) (by kernel_rfl) (fun _ _ _ h => h) (Or.inl ⟨by rfl, ?_⟩) hHeld ?_
  rotate_left
  focus (intro z hSw; clear hSw; go_simp; try with_reducible rfl)
  try simp only [Act.put, List.setIfInBounds_toArray, List.set_cons_zero, List.set_cons_succ]
  refine wpAnyH_take (i := 17) (oi := { dst := some 98, op := Op.move (Operand.tmp 97), type := 4, pos := "law.go:24", after := #[{ on := 16, ground := Ground.data }, { on := 15, ground := Ground.chain }], guard := none }) (v := ?_) rfl (by kernel_rfl) (by kernel_rfl) (by kernel_rfl) (fun _ _ _ h => h) (Or.inl ⟨by rfl, ?_⟩) hHeld ?_
  rotate_left
  focus (intro z hSw; clear hSw; go_simp; try with_reducible rfl)
  try simp only [Act.put, List.setIfInBounds_toArray, List.set_cons_zero, List.set_cons_succ]
  refine wpAnyH_ready (rs := [18]) (by kernel_rfl) (by simp) ?_
  refine AllReadyH.cons (o := { dst := some 99, op := Op.call { callee := Callee.value (Operand.func 8), args := #[], argTypes := #[] }, type := 4, pos := "law.go:24", after := #[{ on := 17, ground := Ground.chain }, { on := 17, ground := Ground.guard }], guard := some (17, true) }) rfl (fun K hK => ?_) AllReadyH.nil
  go_simp
  refine (HK.out _ (F6.out.trans hHeld (by simp))).mono ?_
  rintro r wn ⟨rfl, fn⟩
  refine hK.out _ _ ?_ (fun hNext => ?_)
  · exact hHeld.trans fn (by simp)
  clear hK K hHeld
  have hHeld := hNext
  clear hNext
  try simp only [Act.put, List.setIfInBounds_toArray, List.set_cons_zero, List.set_cons_succ]
  refine wpAnyH_take (i := 19) (oi := { dst := some 100, op := Op.pick (Operand.tmp 98) (Operand.tmp 99) (Operand.const (Value.bool false)), type := 4, pos := "law.go:24", after := #[{ on := 17, ground := Ground.data }, { on := 18, ground := Ground.data }], guard := none }) (v := ?_) rfl (by kernel_rfl) (by kernel_rfl) (by kernel_rfl) (fun _ _ _ h => h) (Or.inl ⟨by rfl, ?_⟩) hHeld ?_
  rotate_left
  focus (intro z hSw; clear hSw; go_simp; try with_reducible rfl)
  try simp only [Act.put, List.setIfInBounds_toArray, List.set_cons_zero, List.set_cons_succ]
  refine wpAnyH_take (i := 20) (oi := { dst := some 4, op := Op.assign (Operand.tmp 100), type := 4, pos := "law.go:24", after := #[{ on := 19, ground := Ground.data }, { on := 18, ground := Ground.chain }, { on := 0, ground := Ground.phase }, { on := 1, ground := Ground.phase }, { on := 2, ground := Ground.phase }, { on := 3, ground := Ground.phase }, { on := 4, ground := Ground.phase }, { on := 5, ground := Ground.phase }, { on := 6, ground := Ground.phase }, { on := 7, ground := Ground.phase }, { on := 8, ground := Ground.phase }, { on := 9, ground := Ground.phase }, { on := 10, ground := Ground.phase }, { on := 11, ground := Ground.phase }, { on := 12, ground := Ground.phase }, { on := 13, ground := Ground.phase }, { on := 14, ground := Ground.phase }, { on := 15, ground := Ground.phase }, { on := 16, ground := Ground.phase }, { on := 17, ground := Ground.phase }, { on := 18, ground := Ground.phase }, { on := 19, ground := Ground.phase }], guard := none }) (v := ?_) rfl (by kernel_rfl) (by kernel_rfl) (by kernel_rfl) (fun _ _ _ h => h) (Or.inl ⟨by rfl, ?_⟩) hHeld ?_
  rotate_left
  focus (intro z hSw; clear hSw; go_simp; try with_reducible rfl)
  try simp only [Act.put, List.setIfInBounds_toArray, List.set_cons_zero, List.set_cons_succ]
  refine wpAnyH_done (by kernel_rfl) ?_ _
  go_wp2_with fail
  go_ret
  exact ⟨rfl, F6.out.trans hHeld (by simp)⟩
end Go.Proofs.YtiegdiegflfmhaaGreatDoor
