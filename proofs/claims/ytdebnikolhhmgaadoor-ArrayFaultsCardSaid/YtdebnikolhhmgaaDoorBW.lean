/-
  Fit. No conditions but those that each theorem names.
-/
import Derived.Test.YtdebnikolhhmgaaDoorBV
import Derived.OrdersHeld
import Derived.Deep.RegionLaw
namespace Go.Proofs.YtdebnikolhhmgaaDoor
open Go.RowKit
set_option linter.unusedVariables false
set_option linter.unusedSimpArgs false
set_option maxRecDepth 100000

open Kr (OwnE SlE Enco RowTys)
section
variable {lo : Nat} {w : World} {sn : Nat → Addr} {g : Nat} {s : St}
set_option maxHeartbeats 8000000 in
theorem Fit_any (d : Int) (hs : Sn w lo sn) (h : Arr lo w g s) (hrow : s.row.length ≤ 100000000) (hn : s.n ≤ 1000000) :
    Calls Tryd.prog 22 #[ptr g, .int .i64 d] w (MP lo g (mRes (nD s d, s) fun s => fitS s d) w) := by
  have HS := Lib.hid hs
  have AR := Lib.hid h
  have F := Lib.hid (Frm.refl [] w)
  unfold ptr
  clear h hs
  go_enter Tryd.func22, Tryd.ntmps22
  go_wp2_with (first
    | (go_at_call 50; refine (deviceOf_any _ _).mono ?_; rintro e w5 ⟨bd, rfl, hd1, f1⟩; have F := Lib.hid (F.out.trans f1 (by simp)); have LD := Lib.hid hd1;  clear hd1 f1))
  refine (demand_any (r := (nD s d, s)) _ [_] _ 1 (HS.out.keep0 (F.out.alloc _)) (AR.out.keep0 (F.out.alloc _)) (Fa.refl lo _) (heap_alloc_new _ _) rfl (by simp) (Dem.last (needD (HS.out.keep0 (F.out.alloc _)) ((Frm.refl [] _).alloc _ |>.heap LD.out (by simp))))).mono ?_
  rintro e w9 ⟨h1, h2, h3⟩
  have HS9 := Lib.hid ((HS.out.keep0 (F.out.alloc _)).fa h3)
  have F9 := Lib.hid ((Fa.of0 (F.out.alloc _) lo).trans h3)
  have A9 := Lib.hid h2
  clear h2 h3
  rcases h1 with ⟨hq, rfl⟩ | ⟨k2, tx, hq, hk6, rfl⟩
  rotate_left
  · unfold rfu
    have HQ := Lib.hid hq
    have NU := Lib.hid (number_any HS9.out tx k2 hk6)
    clear hq
    go_wp2_with (go_at_call 42; refine NU.out.mono ?_; rintro e w10 ⟨rfl, f10⟩; have F10 := Lib.hid f10; clear f10)
    go_ret
    have hq := HQ.out
    rw [mRes_some hq]
    exact ⟨rfl, A9.out.keep0 F10.out, F9.out.trans (Fa.of0 F10.out lo)⟩
  · obtain ⟨hi, hd0, hd9⟩ := okD_at (nD_ok hq)
    have e2 : (nD s d, s) = ((none, s) : Option Nat × St) := Prod.ext hq rfl
    rw [e2] at A9
    have A9 := Lib.hid (show Arr lo w9 g s from A9.out)
    have E2 := Lib.hid e2
    have TK := Lib.hid (takeLoose_any d A9.out hrow)
    clear hq e2 hrow
    go_upto_region 5 with (go_at_call 51; refine TK.out.mono ?_; rintro e w10 ⟨vt, rfl, r1, n1, a1, f1⟩; have A10 := Lib.hid a1; have F10 := Lib.hid (F9.out.trans f1); clear r1 n1 a1 f1 TK)
    obtain ⟨dv, rv, drs, dsp, rcs, rsp, h⟩ := A10.out
    have hiT : d.toNat < (takenS s d).devs.length := hi
    have hi2 : d.toNat < drs.length := by rw [h.dlen]; exact hiT
    obtain ⟨-, c1, c2, -⟩ := h.cells
    obtain ⟨gd, cap, sv, hdv, d0, d1, d2, d3, -, dz⟩ := h.dev _ hiT
    rw [hdv] at c2
    have c1 : w10.cell? ⟨g, 1, none⟩ = some (.int .i64 s.n) := c1
    have H := Lib.hid h
    have HDV := Lib.hid hdv
    have SD := Lib.hid (setD_nat (s := takenS s d) hiT fun _ => zDv s.n)
    have hd9T : d < ((takenS s d).devs.length : Int) := hd9
    have hn9 := hn
    have hlT : (takenS s d).devs.length ≤ 9223372036854775807 := A10.out.len
    have CC := Lib.hid (And.intro d0 (And.intro d1 (And.intro d2 (And.intro d3 dz))))
    clear h hdv d0 d1 d2 d3 dz
    refine wp_region_late 11 (S := fun z => z.cell? ⟨g, 2, none⟩ = some (.slice (some ⟨gd, 0, none⟩) (takenS s d).devs.length cap) ∧ z.cell? ⟨g, 1, none⟩ = some (.int .i64 s.n)) (by kernel_rfl) (⟨c2, c1⟩) (fun hHeld => ?_)
    refine wpAnyL_takeP (i := 0) (oi := { dst := some 18, op := Op.move (Operand.tmp 0), type := 29, pos := "array.go:153", after := #[], guard := none }) (v := ?_) rfl (by kernel_rfl) (by kernel_rfl) (by kernel_rfl) (fun _ _ _ h => h) (Or.inl ⟨by rfl, ?_⟩) hHeld ?_
    rotate_left
    focus (intro z hSw; clear hSw; go_simp; try with_reducible rfl)
    try simp only [Act.put, List.setIfInBounds_toArray, List.set_cons_zero, List.set_cons_succ]
    refine wpAnyL_takeP (i := 1) (oi := { dst := some 19, op := Op.nilCheck (Operand.tmp 18), type := 0, pos := "array.go:153", after := #[{ on := 0, ground := Ground.data }], guard := none }) (v := ?_) rfl (by kernel_rfl) (by kernel_rfl) (by kernel_rfl) (fun _ _ _ h => h) (Or.inl ⟨by rfl, ?_⟩) hHeld ?_
    rotate_left
    focus (intro z hSw; clear hSw; go_simp; try with_reducible rfl)
    try simp only [Act.put, List.setIfInBounds_toArray, List.set_cons_zero, List.set_cons_succ]
    refine wpAnyL_takeP (i := 2) (oi := { dst := some 20, op := Op.fieldAddr 35 (Operand.tmp 19) 2, type := 0, pos := "array.go:153", after := #[{ on := 1, ground := Ground.data }], guard := none }) (v := ?_) rfl (by kernel_rfl) (by kernel_rfl) (by kernel_rfl) (fun _ _ _ h => h) (Or.inl ⟨by rfl, ?_⟩) hHeld ?_
    rotate_left
    focus (intro z hSw; clear hSw; go_simp; try with_reducible rfl)
    try simp only [Act.put, List.setIfInBounds_toArray, List.set_cons_zero, List.set_cons_succ]
    refine wpAnyL_take (i := 3) (oi := { dst := some 21, op := Op.load 30 (Operand.tmp 20), type := 30, pos := "array.go:153", after := #[{ on := 2, ground := Ground.data }], guard := none }) (v := ?_) rfl (by kernel_rfl) (by kernel_rfl) (by kernel_rfl) (fun _ _ _ h => h) (Or.inl ⟨by rfl, ?_⟩) hHeld ?_
    rotate_left
    focus (intro z hSw; obtain ⟨q1, q2⟩ := hSw; go_simp; try with_reducible rfl)
    try simp only [Act.put, List.setIfInBounds_toArray, List.set_cons_zero, List.set_cons_succ]
    refine wpAnyL_takeP (i := 4) (oi := { dst := some 22, op := Op.move (Operand.tmp 1), type := 3, pos := "array.go:153", after := #[], guard := none }) (v := ?_) rfl (by kernel_rfl) (by kernel_rfl) (by kernel_rfl) (fun _ _ _ h => h) (Or.inl ⟨by rfl, ?_⟩) hHeld ?_
    rotate_left
    focus (intro z hSw; clear hSw; go_simp; try with_reducible rfl)
    try simp only [Act.put, List.setIfInBounds_toArray, List.set_cons_zero, List.set_cons_succ]
    refine wpAnyL_takeP (i := 5) (oi := { dst := some 23, op := Op.move (Operand.tmp 0), type := 29, pos := "array.go:153", after := #[], guard := none }) (v := ?_) rfl (by kernel_rfl) (by kernel_rfl) (by kernel_rfl) (fun _ _ _ h => h) (Or.inl ⟨by rfl, ?_⟩) hHeld ?_
    rotate_left
    focus (intro z hSw; clear hSw; go_simp; try with_reducible rfl)
    try simp only [Act.put, List.setIfInBounds_toArray, List.set_cons_zero, List.set_cons_succ]
    refine wpAnyL_takeP (i := 6) (oi := { dst := some 24, op := Op.nilCheck (Operand.tmp 23), type := 0, pos := "array.go:153", after := #[{ on := 5, ground := Ground.data }], guard := none }) (v := ?_) rfl (by kernel_rfl) (by kernel_rfl) (by kernel_rfl) (fun _ _ _ h => h) (Or.inl ⟨by rfl, ?_⟩) hHeld ?_
    rotate_left
    focus (intro z hSw; clear hSw; go_simp; try with_reducible rfl)
    try simp only [Act.put, List.setIfInBounds_toArray, List.set_cons_zero, List.set_cons_succ]
    refine wpAnyL_takeP (i := 7) (oi := { dst := some 25, op := Op.fieldAddr 35 (Operand.tmp 24) 1, type := 0, pos := "array.go:153", after := #[{ on := 6, ground := Ground.data }], guard := none }) (v := ?_) rfl (by kernel_rfl) (by kernel_rfl) (by kernel_rfl) (fun _ _ _ h => h) (Or.inl ⟨by rfl, ?_⟩) hHeld ?_
    rotate_left
    focus (intro z hSw; clear hSw; go_simp; try with_reducible rfl)
    try simp only [Act.put, List.setIfInBounds_toArray, List.set_cons_zero, List.set_cons_succ]
    refine wpAnyL_take (i := 8) (oi := { dst := some 26, op := Op.load 3 (Operand.tmp 25), type := 3, pos := "array.go:153", after := #[{ on := 7, ground := Ground.data }], guard := none }) (v := ?_) rfl (by kernel_rfl) (by kernel_rfl) (by kernel_rfl) (fun _ _ _ h => h) (Or.inl ⟨by rfl, ?_⟩) hHeld ?_
    rotate_left
    focus (intro z hSw; obtain ⟨q1, q2⟩ := hSw; go_simp; try with_reducible rfl)
    try simp only [Act.put, List.setIfInBounds_toArray, List.set_cons_zero, List.set_cons_succ]
    refine wpAnyL_one (i := 9) (o := { dst := some 27, op := Op.call { callee := Callee.value (Operand.func 58), args := #[Operand.tmp 26], argTypes := #[3] }, type := 86, pos := "array.go:153", after := #[{ on := 8, ground := Ground.data }], guard := none }) (by kernel_rfl) rfl (fun K hK => ?_)
    go_simp
    refine (blank_any s.n hn9 _).mono ?_
    rintro e w2 ⟨gs, rfl, hos, hgs, fb⟩
    unfold bv0
    refine hK.out _ _ ?_ (fun hNext => ?_)
    · exact ⟨fb.cell hHeld.1 (by simp), fb.cell hHeld.2 (by simp)⟩
    clear hK K hHeld
    have hHeld := hNext
    clear hNext
    try simp only [Act.put, List.setIfInBounds_toArray, List.set_cons_zero, List.set_cons_succ]
    refine wpAnyL_takeP (i := 10) (oi := { dst := some 28, op := Op.indexAddr 30 (Operand.tmp 21) (Operand.tmp 22), type := 0, pos := "array.go:153", after := #[{ on := 3, ground := Ground.data }, { on := 4, ground := Ground.data }, { on := 0, ground := Ground.phase }, { on := 1, ground := Ground.phase }, { on := 2, ground := Ground.phase }, { on := 3, ground := Ground.phase }, { on := 4, ground := Ground.phase }, { on := 5, ground := Ground.phase }, { on := 6, ground := Ground.phase }, { on := 7, ground := Ground.phase }, { on := 8, ground := Ground.phase }, { on := 9, ground := Ground.phase }], guard := none }) (v := ?_) rfl (by kernel_rfl) (by kernel_rfl) (by kernel_rfl) (fun _ _ _ h => h) (Or.inl ⟨by rfl, ?_⟩) hHeld ?_
    rotate_left
    focus (intro z hSw; clear hSw; go_simp; try with_reducible rfl)
    try simp only [Act.put, List.setIfInBounds_toArray, List.set_cons_zero, List.set_cons_succ]
    refine wpAnyL_last (o := { dst := none, op := Op.store 86 (Operand.tmp 28) (Operand.tmp 27), type := 0, pos := "array.go:153", after := #[{ on := 10, ground := Ground.data }, { on := 9, ground := Ground.data }, { on := 9, ground := Ground.chain }, { on := 0, ground := Ground.phase }, { on := 1, ground := Ground.phase }, { on := 2, ground := Ground.phase }, { on := 3, ground := Ground.phase }, { on := 4, ground := Ground.phase }, { on := 5, ground := Ground.phase }, { on := 6, ground := Ground.phase }, { on := 7, ground := Ground.phase }, { on := 8, ground := Ground.phase }, { on := 9, ground := Ground.phase }], guard := none }) (by kernel_rfl) rfl (by simp) (fun K hK => ?_)
    have fD0 := ((Frm.refl [] w10).drew).trans fb (by simp)
    have x0 := fD0.cell CC.out.1 (by simp)
    have x1 := fD0.cell CC.out.2.1 (by simp)
    have x2 := fD0.cell CC.out.2.2.1 (by simp)
    have x3 := fD0.cell CC.out.2.2.2.1 (by simp)
    have hFZ := H.out.own.keep fD0 (by simp)
    rw [HDV.out] at hFZ
    have hz := frozen_of_heap hFZ.heap
    have z0 := hz (d.toNat * 4)
    have z1 := hz (d.toNat * 4 + 1)
    have z2 := hz (d.toNat * 4 + 2)
    have z3 := hz (d.toNat * 4 + 3)
    clear hz hFZ fD0
    go_simp
    refine hK.out _ _ ?_
    clear hK K hHeld
    try simp only [Act.put, List.setIfInBounds_toArray, List.set_cons_zero, List.set_cons_succ]
    refine wpAny_done (by kernel_rfl) ?_ _
    have HB := Lib.hid fb
    have HO := Lib.hid hos
    have HG := Lib.hid hgs
    clear hos hgs fb c1 c2 x0 x1 x2 x3 z0 z1 z2 z3
    go_wp2_with fail
    go_ret
    have h := H.out
    have fD : Frm [] w10 w2 := ((Frm.refl [] w10).drew).trans HB.out (by simp)
    have hgs : w10.heap.size ≤ gs := HG.out
    have ho := h.own.keep fD (by simp)
    rw [HDV.out] at ho
    have o4 := OwnE.store4 ho d.toNat hi2 (bDr gs s.n)
    have fs : Frm (blk dv) w2 ((((w2.setCell ⟨gd, d.toNat * 4, none⟩ (.int .u8 0)).setCell ⟨gd, d.toNat * 4 + 1, none⟩ (.int .i64 0)).setCell ⟨gd, d.toNat * 4 + 2, none⟩ (.int .i64 0)).setCell ⟨gd, d.toNat * 4 + 3, none⟩ (.slice (some ⟨gs, 0, none⟩) s.n s.n)) := by
      rw [HDV.out]
      exact ((((Frm.refl _ w2).setCell _ _ (by simp [blk])).setCell _ _ (by simp [blk])).setCell _ _ (by simp [blk])).setCell _ _ (by simp [blk])
    have hlt : ∀ k ∈ blk dv, k < w10.heap.size := h.own.lt
    have hsec : SecP lo ((((w2.setCell ⟨gd, d.toNat * 4, none⟩ (.int .u8 0)).setCell ⟨gd, d.toNat * 4 + 1, none⟩ (.int .i64 0)).setCell ⟨gd, d.toNat * 4 + 2, none⟩ (.int .i64 0)).setCell ⟨gd, d.toNat * 4 + 3, none⟩ (.slice (some ⟨gs, 0, none⟩) s.n s.n)) (.slice (some ⟨gs, 0, none⟩) s.n s.n) (List.replicate s.n zSc) :=
      SecP.blank (HO.out.keep fs (fun j hj hm => by simp [blk] at hj; subst hj; have := hlt _ hm; omega)) (by have := h.lo_le; omega)
    obtain ⟨h6, fa6⟩ := h.swap d.toNat hiT hi2 (bDr gs s.n) (zDv s.n) (by rw [HDV.out]; exact o4) ((fD.mono (by simp)).trans fs (fun i hi => .inl hi)) rfl rfl rfl hsec (by simp [bDr, blk]; exact hgs) ⟨by simp [zDv], by simp [zDv], by simp [zDv], fun h => absurd (by simp [zDv]) h⟩
    rw [E2.out]
    exact ⟨rfl, show Arr lo _ g (fitS s d) from by unfold fitS; rw [SD.out]; exact ⟨_, _, _, _, _, _, h6⟩, F10.out.trans fa6⟩
end
end Go.Proofs.YtdebnikolhhmgaaDoor

