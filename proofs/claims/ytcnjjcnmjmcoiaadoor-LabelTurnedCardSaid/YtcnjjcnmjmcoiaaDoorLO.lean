/-
  The walk of LabelTurned. No conditions but those that each theorem names.
-/
import Derived.Test.YtcnjjcnmjmcoiaaDoorLK
import Derived.Test.YtcnjjcnmjmcoiaaDoorLF
import Derived.Test.YtcnjjcnmjmcoiaaDoorRL
import Derived.IntWalk
namespace Go.Proofs.YtcnjjcnmjmcoiaaDoor
open Go.RowKit
set_option linter.unusedVariables false
set_option linter.unusedSimpArgs false
set_option maxRecDepth 100000

theorem u8_xor_nat (a b : Nat) (ha : a < 256) (hb : b < 256) : bits BinOp.xor IntKind.u8 (a : Int) (b : Int) = ((a ^^^ b : Nat) : Int) := by
  have h := Nat.xor_lt_two_pow (n := 8) (show a < 2 ^ 8 by omega) (show b < 2 ^ 8 by omega)
  have e : ∀ n : Nat, n < 256 → (BitVec.ofInt 8 (n : Int)).toNat = n := by
    intro n hn
    simp [BitVec.toNat_ofInt]
    omega
  show IntKind.u8.wrap ((BitVec.ofInt 8 (a : Int) ^^^ BitVec.ofInt 8 (b : Int)).toNat : Int) = _
  rw [BitVec.toNat_xor, e a ha, e b hb]
  show ((a ^^^ b : Nat) : Int) % 256 = _
  omega
theorem u8_xor (x m : UInt8) : bits BinOp.xor IntKind.u8 (x.toNat : Int) (m.toNat : Int) = ((x ^^^ m).toNat : Int) := by
  rw [u8_xor_nat _ _ x.toNat_lt m.toNat_lt, UInt8.toNat_xor]
theorem bit_other {x m : UInt8} (h : m ≠ 0) : x ≠ x ^^^ m := by
  intro e
  have h2 : x ^^^ x = x ^^^ (x ^^^ m) := by rw [← e]
  rw [UInt8.xor_self, ← UInt8.xor_assoc, UInt8.xor_self, UInt8.zero_xor] at h2
  exact h h2.symm
def pick (x n : Int) : Int := if x.tmod n < 0 then x.tmod n + n else x.tmod n
theorem pick_range (x n : Int) (hn : 0 < n) : 0 ≤ pick x n ∧ pick x n < n := by
  unfold pick
  have h1 := Int.tmod_lt_of_pos x hn
  have h2 := Int.lt_tmod_of_pos x hn
  split <;> omega
theorem Pick_any (x n : Int) (hn : 0 < n) (hn2 : n ≤ 1000000) (w : World) : Calls Tryd.prog 12 #[.int .i64 x, .int .i64 n] w fun e w' => e = .returned (.int .i64 (pick x n)) ∧ w' = w := by
  have h1 := Int.tmod_lt_of_pos x hn
  have h2 := Int.lt_tmod_of_pos x hn
  have hw : IntKind.i64.wrap (x.tmod n) = x.tmod n := IntWalk.i64_in _ (by omega)
  have hw4 : IntKind.i64.wrap (x.tmod n + n) = x.tmod n + n := IntWalk.i64_in _ (by omega)
  have HP := Lib.hid (show pick x n = if x.tmod n < 0 then x.tmod n + n else x.tmod n from rfl)
  have hn0 : ¬ n < 1 := by omega
  have hnz : ¬ n = 0 := by omega
  have hnb : (n == 0) = false := by simp; omega
  by_cases h3 : x.tmod n < 0
  · go_enter Tryd.func12, Tryd.ntmps12
    go_wp2
    go_ret
    exact ⟨by rw [HP.out, if_pos h3]; rfl, rfl⟩
  · go_enter Tryd.func12, Tryd.ntmps12
    go_wp2
    go_ret
    exact ⟨by rw [HP.out, if_neg (by omega)]; rfl, rfl⟩
theorem SlB.cellAt' {w : World} {b n cap : Nat} {l sp : List UInt8} (h : SlB w (.slice (some ⟨b, 0, none⟩) n cap) l sp) (k : Nat) (hk : k < l.length) : w.cell? ⟨b, k, none⟩ = some (.int .u8 l[k].toNat) := by
  have := h.cellAt k hk
  rwa [Nat.zero_add] at this
set_option maxHeartbeats 4000000 in
theorem turned_law (l : Lab) (at0 m0 : Int) (hw : WfL l) (ha : InI at0) (hm0 : 0 ≤ m0 ∧ m0 ≤ 255) (w : World) (hG : Hs.Glob w) : Calls Tryd.prog 4 #[lv l, .int .i64 at0, .int .u8 m0] w (Yes w) := by
  obtain ⟨mk, rfl⟩ : ∃ mk : UInt8, m0 = mk.toNat := ⟨UInt8.ofNat m0.toNat, by simp; omega⟩
  have B1 := LB.new w hw.pool
  have hlv : lv l = .agg (lc l).toArray := rfl
  have f : Frm [] w (w.alloc (.cells (lc l).toArray 25)) := (Frm.refl [] w).alloc _
  have HG := Lib.hid hG
  have HA := Lib.hid (fun W (f : Frm [] w W) => awake_any W (HG.out.keep f (by simp)))
  have HP := Lib.hid (fun W (f : Frm [] w W) => Pack_any l hw.pool W (HG.out.keep f (by simp)))
  have HW := Lib.hid hw.pool
  have HPK := Lib.hid (Pick_any at0 256 (by omega) (by omega))
  have hpr := pick_range at0 256 (by omega)
  unfold PackP at HP
  rw [hlv]
  clear hlv hG hw hm0 ha
  generalize hA : (lc l).toArray = A at *
  go_enter Tryd.func4, Tryd.ntmps4
  go_upto_region 1 with (fail)
  generalize w.alloc (.cells A 25) = W0 at *
  have B0 := Lib.hid B1
  have F0 := Lib.hid f
  clear hA B1 f
  go_upto_region 2 with (go_at_call 11; refine (HA.out _ F0.out).mono ?_; rintro r W1 ⟨rfl, f1⟩)
  have F1 := Lib.hid (F0.out.trans f1 (by simp))
  have G1 := Lib.hid (B0.out.keep0 f1).gets.all
  clear f1 F0 B0
  by_cases hm : May l
  · rw [packO_yes hm, packL_length HW.out, mayE_yes hm] at HP
    have HM := Lib.hid hm
    clear hm
    go_upto_region 3 with (first | ((with_reducible (show wpList _ _ _ (Oper.mk _ (Op.load 25 _) _ _ _ _ :: _) _ _)); refine wpList_load_g (by rfl) 25 _ rfl _ rfl G1.out ?_) | (go_at_call 5; refine (HP.out _ F1.out).mono ?_; rintro r W2 ⟨a, c, sp, rfl, o2, f2, n2⟩))
    obtain ⟨gs, rfl⟩ := o2.at (by rw [packL_length HW.out]; decide)
    have F2 := Lib.hid (F1.out.trans f2 (by simp))
    have ZG := Lib.hid (show w.heap.size ≤ gs from Nat.le_trans F1.out.size (n2 gs (by simp [blk])))
    have O2 := Lib.hid o2
    clear f2 o2 n2 F1 G1 HP
    by_cases hmk : mk = 0
    · subst hmk
      have hz : ((((0 : UInt8).toNat : Nat) : Int) == 0) = true := rfl
      go_wp2_with fail
      go_ret
      exact ⟨rfl, F2.out⟩
    · have hz : ((mk.toNat : Int) == 0) = false := by
        have : mk.toNat ≠ 0 := fun e => hmk (UInt8.toNat_inj.1 e)
        simp; omega
      have HMK := Lib.hid hmk
      clear hmk
      generalize hpk : pick at0 256 = pk at *
      obtain ⟨p, rfl⟩ := Int.eq_ofNat_of_zero_le hpr.1
      have hp : p < 256 := by omega
      clear hpk hpr
      have hlen := packL_length HW.out
      have HLEN := Lib.hid hlen
      obtain ⟨a3, c3, hs3, S3⟩ := slice_h BT O2.out.sl 224 (by rw [hlen]; decide)
      have H3 := Lib.hid (fun wx => hs3 224 wx rfl)
      have HS1 := Lib.hid (Hs.RefSum_any _ _ _ W2 S3 (by simp; omega))
      have hsl := sha_length ((packL l).take 224)
      clear hs3 S3 hlen
      go_upto_region 9 with (first
        | (go_at_call 12; refine (HPK.out _).mono ?_; rintro r W2' ⟨rfl, rfl⟩)
        | ((with_reducible (show wpList _ _ _ (Oper.mk _ (Op.slice 26 (.tmp 31) _ _ _) _ _ _ _ :: _) _ _)); refine wpList_val_g (by rfl) (exec_slice_hA (.tmp 31) (.const (.int .i64 224)) rfl rfl rfl BT.sl (H3.out _)) ?_)
        | ((with_reducible (show wpList _ _ _ (Oper.mk _ (Op.alloc 23) _ _ _ _ :: _) _ _)); refine wpList_lay26 rfl rfl rfl _ _ rfl (s := Hs.sha ((packL l).take 224)) hsl rfl rfl ?_)
        | (go_at_call 13; refine HS1.out.mono ?_; rintro r W3 ⟨rfl, f3⟩))
      have f4 : Frm [] W3 (W3.alloc (.cells (bvs (Hs.sha ((packL l).take 224))).toArray 23)) := (Frm.refl [] W3).alloc _
      have hI := heap_alloc_new W3 (.cells (bvs (Hs.sha ((packL l).take 224))).toArray 23)
      have F4 := Lib.hid ((F2.out.trans f3 (by simp)).trans f4 (by simp))
      have O4 := Lib.hid (O2.out.keep (f3.trans f4 (by simp)) (by simp))
      have ZW := Lib.hid (show gs < W3.heap.size from Nat.lt_of_lt_of_le (O2.out.lt gs (by simp [blk])) f3.size)
      obtain ⟨D0, hD0⟩ : ∃ D0, Hs.sha ((packL l).take 224) = D0 := ⟨_, rfl⟩
      rw [hD0] at hI hsl F4 O4 ⊢
      have HI := Lib.hid hI
      have HSL := Lib.hid hsl
      have HD0 := Lib.hid hD0
      clear f3 f4 hI hsl hD0 F2 O2 H3 HS1
      generalize W3.alloc (.cells (bvs D0).toArray 23) = W4 at *
      generalize W3.heap.size = Lw at *
      have hpl : p < (packL l).length := by rw [HLEN.out]; exact hp
      obtain ⟨x, hx⟩ : ∃ x, (packL l)[p]'hpl = x := ⟨_, rfl⟩
      have hc : W4.cell? ⟨gs, p, none⟩ = some (.int .u8 x.toNat) := by
        have h := O4.out.sl.cellAt' p hpl
        rw [hx] at h
        exact h
      have hz9 := O4.out.frozen p
      have hxr := u8_xor x mk
      have HBO := Lib.hid (bit_other (x := x) HMK.out)
      obtain ⟨y, hy⟩ : ∃ y, x ^^^ mk = y := ⟨_, rfl⟩
      rw [hy] at hxr HBO
      clear hy
      have hst := O4.out.store p hpl y (u := .int .u8 (y.toNat : Int)) rfl
      have fst : Frm [gs] W4 (W4.setCell ⟨gs, p, none⟩ (.int .u8 (y.toNat : Int))) := (Frm.refl [gs] W4).setCell _ _ (.inl (by simp))
      have HX := Lib.hid hx
      have HST := Lib.hid hst
      have FST := Lib.hid fst
      have hp9 : (p : Int) < 256 := by omega
      clear hst fst hx
      go_upto_region 10 with (fail)
      obtain ⟨W5, hW5⟩ : ∃ W, W4.setCell ⟨gs, p, none⟩ (.int .u8 (y.toNat : Int)) = W := ⟨_, rfl⟩
      rw [hW5] at HST FST ⊢
      have HI5 := Lib.hid (FST.out.heap HI.out (by have := ZW.out; simp; omega))
      have F5 := Lib.hid (F4.out.trans FST.out (fun i hi => .inr (by have := ZG.out; simp at hi; omega)))
      obtain ⟨S', hS'⟩ : ∃ S', (packL l).set p y = S' := ⟨_, rfl⟩
      have hlS : S'.length = 256 := by rw [← hS', List.length_set, HLEN.out]
      rw [hS'] at HST
      have O5 := Lib.hid (show OwnB 5 W5 (.slice (some ⟨gs, 0, none⟩) 256 c) S' sp from HST.out)
      have HS' := Lib.hid hS'
      have HLS := Lib.hid hlS
      clear hW5 hc hz9 hxr HST O4 F4 HI hS' FST
      have HFIN := Lib.hid (show ∀ W, (binOp .eql 25 (lv zeroLab) (lv zeroLab)).run Tryd.prog W = .ok (.bool true) W from fun W => by rw [eql28 _ _ zeroLab_len zeroLab_len]; simp)
      have HGD := Lib.hid (fun op x y W => lab_guard op x y zeroLab zeroLab W)
      by_cases hlt : p < 224
      · have hlt9 : (p : Int) < 224 := by omega
        obtain ⟨a3, c3, hs3, S3⟩ := slice_h BT O5.out.sl 224 (by rw [hlS]; decide)
        have H3 := Lib.hid (fun wx => hs3 224 wx rfl)
        have HS3 := Lib.hid S3
        obtain ⟨D1, hD1⟩ : ∃ D1, Hs.sha (S'.take 224) = D1 := ⟨_, rfl⟩
        have HSm := Lib.hid (fun W (f : Frm [] W5 W) => show Calls Tryd.prog 13 #[.slice a3 224 c3] W fun r w' => r = .returned (idv (Hs.sha (S'.take 224))) ∧ Frm [] W w' from Hs.RefSum_any (.slice a3 224 c3) _ _ W (HS3.out.keep f (by simp)) (by simp; omega))
        rw [hD1] at HSm
        have hl1 : D1.length = 32 := by rw [← hD1]; exact sha_length _
        have HL1 := Lib.hid hl1
        have HD1 := Lib.hid hD1
        have hq : (binOp .eql 23 (idv D1) (idv D0)).run Tryd.prog = _ := funext fun W => Hs.eql29 D1 D0 hl1 HSL.out W
        have hg := fun op x y W => agg_guard op x y D1 D0 W
        have HLD := Lib.hid (show ∀ z, Frm [] W5 z → (Instr.loadAt 23 (.pointer (some ⟨Lw, 0, none⟩))).run Tryd.prog z = .ok (idv D0) z from fun z f => run_loadAt_mid z Lw 0 23 (bvs D0) _ (fun j u hu => by rw [cell_of_heap (f.heap HI5.out (by simp))]; simpa using hu) d26 rfl (by rw [i26, bvs_length, HSL.out]))
        clear hs3 S3 hD1 hl1
        by_cases he : D1 = D0
        · have hb : (D1 == D0) = true := by simpa using he
          rw [hb] at hq
          clear he hlS
          refine wp_region_held_drew (S := fun z => Frm [] W5 z) (by kernel_rfl) ((Frm.refl [] W5).drew) (fun hHeld => ?_)
          refine wpAnyH_take (i := 0) (oi := { dst := some 43, op := Op.move (Operand.tmp 1), type := 3, pos := "outright.go:84", after := #[], guard := none }) (v := ?_) rfl (by kernel_rfl) (by kernel_rfl) (by kernel_rfl) (fun _ _ _ h => h) (Or.inl ⟨by rfl, ?_⟩) hHeld ?_
          rotate_left
          focus (intro z hSw; clear hSw; go_simp; try with_reducible rfl)
          try simp only [Act.put, List.setIfInBounds_toArray, List.set_cons_zero, List.set_cons_succ]
          refine wpAnyH_take (i := 1) (oi := { dst := some 44, op := Op.binOp BinOp.lss 3 (Operand.tmp 43) (Operand.const (Value.int IntKind.i64 224)) 3, type := 4, pos := "outright.go:84", after := #[{ on := 0, ground := Ground.data }], guard := none }) (v := ?_) rfl (by kernel_rfl) (by kernel_rfl) (by kernel_rfl) (fun _ _ _ h => h) (Or.inl ⟨by rfl, ?_⟩) hHeld ?_
          rotate_left
          focus (intro z hSw; clear hSw; go_simp; try with_reducible rfl)
          try simp only [Act.put, List.setIfInBounds_toArray, List.set_cons_zero, List.set_cons_succ]
          refine wpAnyH_take (i := 2) (oi := { dst := some 45, op := Op.move (Operand.tmp 44), type := 4, pos := "outright.go:84", after := #[{ on := 1, ground := Ground.data }], guard := none }) (v := ?_) rfl (by kernel_rfl) (by kernel_rfl) (by kernel_rfl) (fun _ _ _ h => h) (Or.inl ⟨by rfl, ?_⟩) hHeld ?_
          rotate_left
          focus (intro z hSw; clear hSw; go_simp; try with_reducible rfl)
          try simp only [Act.put, List.setIfInBounds_toArray, List.set_cons_zero, List.set_cons_succ]
          refine wpAnyH_take (i := 3) (oi := { dst := some 46, op := Op.move (Operand.tmp 8), type := 26, pos := "outright.go:84", after := #[{ on := 2, ground := Ground.guard }], guard := some (2, true) }) (v := ?_) rfl (by kernel_rfl) (by kernel_rfl) (by kernel_rfl) (fun _ _ _ h => h) (Or.inl ⟨by rfl, ?_⟩) hHeld ?_
          rotate_left
          focus (intro z hSw; clear hSw; go_simp; try with_reducible rfl)
          try simp only [Act.put, List.setIfInBounds_toArray, List.set_cons_zero, List.set_cons_succ]
          refine wpAnyH_take (i := 4) (oi := { dst := some 47, op := Op.slice 26 (Operand.tmp 46) none (some (Operand.const (Value.int IntKind.i64 224))) none, type := 26, pos := "outright.go:84", after := #[{ on := 3, ground := Ground.data }, { on := 2, ground := Ground.guard }], guard := some (2, true) }) rfl (by kernel_rfl) (by kernel_rfl) (by kernel_rfl) (fun _ _ _ h => h) (Or.inl ⟨by rfl, fun z hSw => exec_slice_hA (.tmp 46) (.const (.int .i64 224)) rfl rfl rfl BT.sl (H3.out _)⟩) hHeld ?_
          try simp only [Act.put, List.setIfInBounds_toArray, List.set_cons_zero, List.set_cons_succ]
          refine wpAnyH_take (i := 6) (oi := { dst := some 49, op := Op.load 23 (Operand.tmp 10), type := 23, pos := "outright.go:84", after := #[{ on := 2, ground := Ground.guard }], guard := some (2, true) }) rfl (by kernel_rfl) (by kernel_rfl) (by kernel_rfl) (fun _ _ _ h => h) (yieldsIf_ld (by rfl) 23 _ rfl _ rfl (fun z hSw => HLD.out z hSw)) hHeld ?_
          try simp only [Act.put, List.setIfInBounds_toArray, List.set_cons_zero, List.set_cons_succ]
          refine wpAnyH_ready (rs := [5]) (by kernel_rfl) (by simp) ?_
          refine AllReadyH.cons (o := { dst := some 48, op := Op.call { callee := Callee.value (Operand.func 13), args := #[Operand.tmp 47], argTypes := #[26] }, type := 23, pos := "outright.go:84", after := #[{ on := 4, ground := Ground.data }, { on := 2, ground := Ground.chain }, { on := 2, ground := Ground.guard }], guard := some (2, true) }) rfl (fun K hK => ?_) AllReadyH.nil
          go_simp
          refine (HSm.out _ hHeld).mono ?_
          rintro r wn ⟨rfl, fn⟩
          refine hK.out _ _ ?_ (fun hNext => ?_)
          · exact hHeld.trans fn (by simp)
          clear hK K hHeld
          have hHeld := hNext
          clear hNext
          try simp only [Act.put, List.setIfInBounds_toArray, List.set_cons_zero, List.set_cons_succ]
          refine wpAnyH_take (i := 7) (oi := { dst := some 50, op := Op.binOp BinOp.eql 23 (Operand.tmp 48) (Operand.tmp 49) 23, type := 4, pos := "outright.go:84", after := #[{ on := 5, ground := Ground.data }, { on := 6, ground := Ground.data }, { on := 2, ground := Ground.guard }], guard := some (2, true) }) (v := ?_) rfl (by kernel_rfl) (by kernel_rfl) (by kernel_rfl) (fun _ _ _ h => h) (Or.inl ⟨by rfl, ?_⟩) hHeld ?_
          rotate_left
          focus (intro z hSw; clear hSw; go_simp; try with_reducible rfl)
          try simp only [Act.put, List.setIfInBounds_toArray, List.set_cons_zero, List.set_cons_succ]
          refine wpAnyH_take (i := 8) (oi := { dst := some 51, op := Op.pick (Operand.tmp 45) (Operand.tmp 50) (Operand.const (Value.bool false)), type := 4, pos := "outright.go:84", after := #[{ on := 2, ground := Ground.data }, { on := 7, ground := Ground.data }], guard := none }) (v := ?_) rfl (by kernel_rfl) (by kernel_rfl) (by kernel_rfl) (fun _ _ _ h => h) (Or.inl ⟨by rfl, ?_⟩) hHeld ?_
          rotate_left
          focus (intro z hSw; clear hSw; go_simp; try with_reducible rfl)
          try simp only [Act.put, List.setIfInBounds_toArray, List.set_cons_zero, List.set_cons_succ]
          refine wpAnyH_done (by kernel_rfl) ?_ _
          go_wp2_with fail
          go_ret
          exact ⟨rfl, F5.out.trans hHeld (by simp)⟩
        · have hb : (D1 == D0) = false := by simpa using he
          rw [hb] at hq
          have hu : unp S' = (zeroLab, 11) := by
            have h := turned_no HW.out p y hp (by rw [List.getD_eq_getElem?_getD, List.getElem?_eq_getElem hpl, Option.getD_some, HX.out]; exact HBO.out) (fun _ => by rw [HS'.out, HD0.out, HD1.out]; exact he)
            rwa [HS'.out] at h
          have HUn := Lib.hid (fun W (f : Frm [] W5 W) => Unpack_any (.slice (some ⟨gs, 0, none⟩) 256 c) S' sp W (O5.out.keep f (by simp)).sl (by rw [HLS.out]; decide) (HG.out.keep (F5.out.trans f (by simp)) (by simp)))
          unfold UnpP at HUn
          rw [hu] at HUn
          clear he hlS hu
          refine wp_region_held_drew (S := fun z => Frm [] W5 z) (by kernel_rfl) ((Frm.refl [] W5).drew) (fun hHeld => ?_)
          refine wpAnyH_take (i := 0) (oi := { dst := some 43, op := Op.move (Operand.tmp 1), type := 3, pos := "outright.go:84", after := #[], guard := none }) (v := ?_) rfl (by kernel_rfl) (by kernel_rfl) (by kernel_rfl) (fun _ _ _ h => h) (Or.inl ⟨by rfl, ?_⟩) hHeld ?_
          rotate_left
          focus (intro z hSw; clear hSw; go_simp; try with_reducible rfl)
          try simp only [Act.put, List.setIfInBounds_toArray, List.set_cons_zero, List.set_cons_succ]
          refine wpAnyH_take (i := 1) (oi := { dst := some 44, op := Op.binOp BinOp.lss 3 (Operand.tmp 43) (Operand.const (Value.int IntKind.i64 224)) 3, type := 4, pos := "outright.go:84", after := #[{ on := 0, ground := Ground.data }], guard := none }) (v := ?_) rfl (by kernel_rfl) (by kernel_rfl) (by kernel_rfl) (fun _ _ _ h => h) (Or.inl ⟨by rfl, ?_⟩) hHeld ?_
          rotate_left
          focus (intro z hSw; clear hSw; go_simp; try with_reducible rfl)
          try simp only [Act.put, List.setIfInBounds_toArray, List.set_cons_zero, List.set_cons_succ]
          refine wpAnyH_take (i := 2) (oi := { dst := some 45, op := Op.move (Operand.tmp 44), type := 4, pos := "outright.go:84", after := #[{ on := 1, ground := Ground.data }], guard := none }) (v := ?_) rfl (by kernel_rfl) (by kernel_rfl) (by kernel_rfl) (fun _ _ _ h => h) (Or.inl ⟨by rfl, ?_⟩) hHeld ?_
          rotate_left
          focus (intro z hSw; clear hSw; go_simp; try with_reducible rfl)
          try simp only [Act.put, List.setIfInBounds_toArray, List.set_cons_zero, List.set_cons_succ]
          refine wpAnyH_take (i := 3) (oi := { dst := some 46, op := Op.move (Operand.tmp 8), type := 26, pos := "outright.go:84", after := #[{ on := 2, ground := Ground.guard }], guard := some (2, true) }) (v := ?_) rfl (by kernel_rfl) (by kernel_rfl) (by kernel_rfl) (fun _ _ _ h => h) (Or.inl ⟨by rfl, ?_⟩) hHeld ?_
          rotate_left
          focus (intro z hSw; clear hSw; go_simp; try with_reducible rfl)
          try simp only [Act.put, List.setIfInBounds_toArray, List.set_cons_zero, List.set_cons_succ]
          refine wpAnyH_take (i := 4) (oi := { dst := some 47, op := Op.slice 26 (Operand.tmp 46) none (some (Operand.const (Value.int IntKind.i64 224))) none, type := 26, pos := "outright.go:84", after := #[{ on := 3, ground := Ground.data }, { on := 2, ground := Ground.guard }], guard := some (2, true) }) rfl (by kernel_rfl) (by kernel_rfl) (by kernel_rfl) (fun _ _ _ h => h) (Or.inl ⟨by rfl, fun z hSw => exec_slice_hA (.tmp 46) (.const (.int .i64 224)) rfl rfl rfl BT.sl (H3.out _)⟩) hHeld ?_
          try simp only [Act.put, List.setIfInBounds_toArray, List.set_cons_zero, List.set_cons_succ]
          refine wpAnyH_take (i := 6) (oi := { dst := some 49, op := Op.load 23 (Operand.tmp 10), type := 23, pos := "outright.go:84", after := #[{ on := 2, ground := Ground.guard }], guard := some (2, true) }) rfl (by kernel_rfl) (by kernel_rfl) (by kernel_rfl) (fun _ _ _ h => h) (yieldsIf_ld (by rfl) 23 _ rfl _ rfl (fun z hSw => HLD.out z hSw)) hHeld ?_
          try simp only [Act.put, List.setIfInBounds_toArray, List.set_cons_zero, List.set_cons_succ]
          refine wpAnyH_ready (rs := [5]) (by kernel_rfl) (by simp) ?_
          refine AllReadyH.cons (o := { dst := some 48, op := Op.call { callee := Callee.value (Operand.func 13), args := #[Operand.tmp 47], argTypes := #[26] }, type := 23, pos := "outright.go:84", after := #[{ on := 4, ground := Ground.data }, { on := 2, ground := Ground.chain }, { on := 2, ground := Ground.guard }], guard := some (2, true) }) rfl (fun K hK => ?_) AllReadyH.nil
          go_simp
          refine (HSm.out _ hHeld).mono ?_
          rintro r wn ⟨rfl, fn⟩
          refine hK.out _ _ ?_ (fun hNext => ?_)
          · exact hHeld.trans fn (by simp)
          clear hK K hHeld
          have hHeld := hNext
          clear hNext
          try simp only [Act.put, List.setIfInBounds_toArray, List.set_cons_zero, List.set_cons_succ]
          refine wpAnyH_take (i := 7) (oi := { dst := some 50, op := Op.binOp BinOp.eql 23 (Operand.tmp 48) (Operand.tmp 49) 23, type := 4, pos := "outright.go:84", after := #[{ on := 5, ground := Ground.data }, { on := 6, ground := Ground.data }, { on := 2, ground := Ground.guard }], guard := some (2, true) }) (v := ?_) rfl (by kernel_rfl) (by kernel_rfl) (by kernel_rfl) (fun _ _ _ h => h) (Or.inl ⟨by rfl, ?_⟩) hHeld ?_
          rotate_left
          focus (intro z hSw; clear hSw; go_simp; try with_reducible rfl)
          try simp only [Act.put, List.setIfInBounds_toArray, List.set_cons_zero, List.set_cons_succ]
          refine wpAnyH_take (i := 8) (oi := { dst := some 51, op := Op.pick (Operand.tmp 45) (Operand.tmp 50) (Operand.const (Value.bool false)), type := 4, pos := "outright.go:84", after := #[{ on := 2, ground := Ground.data }, { on := 7, ground := Ground.data }], guard := none }) (v := ?_) rfl (by kernel_rfl) (by kernel_rfl) (by kernel_rfl) (fun _ _ _ h => h) (Or.inl ⟨by rfl, ?_⟩) hHeld ?_
          rotate_left
          focus (intro z hSw; clear hSw; go_simp; try with_reducible rfl)
          try simp only [Act.put, List.setIfInBounds_toArray, List.set_cons_zero, List.set_cons_succ]
          refine wpAnyH_done (by kernel_rfl) ?_ _
          go_upto_region 13 with (first
            | ((with_reducible (show wpList _ _ _ (Oper.mk _ (Op.alloc 25) _ _ _ _ :: _) _ _)); refine wpList_lay28 rfl rfl rfl _ _ rfl (l := zeroLab) zeroLab_len rfl rfl ?_)
            | (go_at_call 14; refine (HUn.out _ hHeld).mono ?_; rintro r W7 ⟨rfl, f7⟩))
          have f8 : Frm [] W7 (W7.alloc (.cells (lc zeroLab).toArray 25)) := (Frm.refl [] W7).alloc _
          have G8 := Lib.hid (LB.new W7 zeroLab_len).gets.all
          have hf1 := HFIN.out
          have hf2 := HGD.out
          clear hq hg
          generalize W7.alloc (.cells (lc zeroLab).toArray 25) = W8 at *
          generalize W7.heap.size = L8 at *
          go_wp2_with (first
            | ((with_reducible (show wpList _ _ _ (Oper.mk _ (Op.load 25 _) _ _ _ _ :: _) _ _)); refine wpList_load_g (by rfl) 25 _ rfl _ rfl G8.out ?_)
            | ((with_reducible (show wpList _ _ _ (Oper.mk _ (Op.build 25 _) _ _ _ _ :: _) _ _)); refine wpList_val_g (by rfl) (exec_bld28z rfl _) ?_))
          go_ret
          exact ⟨rfl, ((F5.out.trans hHeld (by simp)).trans f7 (by simp)).trans f8 (by simp)⟩
      · have hlt9 : ¬ (p : Int) < 224 := by omega
        have hu : unp S' = (zeroLab, 11) := by
          have h := turned_no HW.out p y hp (by rw [List.getD_eq_getElem?_getD, List.getElem?_eq_getElem hpl, Option.getD_some, HX.out]; exact HBO.out) (fun h => absurd h hlt)
          rwa [HS'.out] at h
        have HUn := Lib.hid (fun W (f : Frm [] W5 W) => Unpack_any (.slice (some ⟨gs, 0, none⟩) 256 c) S' sp W (O5.out.keep f (by simp)).sl (by rw [HLS.out]; decide) (HG.out.keep (F5.out.trans f (by simp)) (by simp)))
        unfold UnpP at HUn
        rw [hu] at HUn
        clear hlS hu
        refine wp_region_held_drew (S := fun z => Frm [] W5 z) (by kernel_rfl) ((Frm.refl [] W5).drew) (fun hHeld => ?_)
        refine wpAnyH_take (i := 0) (oi := { dst := some 43, op := Op.move (Operand.tmp 1), type := 3, pos := "outright.go:84", after := #[], guard := none }) (v := ?_) rfl (by kernel_rfl) (by kernel_rfl) (by kernel_rfl) (fun _ _ _ h => h) (Or.inl ⟨by rfl, ?_⟩) hHeld ?_
        rotate_left
        focus (intro z hSw; clear hSw; go_simp; try with_reducible rfl)
        try simp only [Act.put, List.setIfInBounds_toArray, List.set_cons_zero, List.set_cons_succ]
        refine wpAnyH_take (i := 1) (oi := { dst := some 44, op := Op.binOp BinOp.lss 3 (Operand.tmp 43) (Operand.const (Value.int IntKind.i64 224)) 3, type := 4, pos := "outright.go:84", after := #[{ on := 0, ground := Ground.data }], guard := none }) (v := ?_) rfl (by kernel_rfl) (by kernel_rfl) (by kernel_rfl) (fun _ _ _ h => h) (Or.inl ⟨by rfl, ?_⟩) hHeld ?_
        rotate_left
        focus (intro z hSw; clear hSw; go_simp; try with_reducible rfl)
        try simp only [Act.put, List.setIfInBounds_toArray, List.set_cons_zero, List.set_cons_succ]
        refine wpAnyH_take (i := 2) (oi := { dst := some 45, op := Op.move (Operand.tmp 44), type := 4, pos := "outright.go:84", after := #[{ on := 1, ground := Ground.data }], guard := none }) (v := ?_) rfl (by kernel_rfl) (by kernel_rfl) (by kernel_rfl) (fun _ _ _ h => h) (Or.inl ⟨by rfl, ?_⟩) hHeld ?_
        rotate_left
        focus (intro z hSw; clear hSw; go_simp; try with_reducible rfl)
        try simp only [Act.put, List.setIfInBounds_toArray, List.set_cons_zero, List.set_cons_succ]
        refine wpAnyH_take (i := 3) (oi := { dst := some 46, op := Op.move (Operand.tmp 8), type := 26, pos := "outright.go:84", after := #[{ on := 2, ground := Ground.guard }], guard := some (2, true) }) (v := undef) rfl (by kernel_rfl) (by kernel_rfl) (by kernel_rfl) (fun _ _ _ h => h) (Or.inr ⟨by rfl, rfl⟩) hHeld ?_
        try simp only [Act.put, List.setIfInBounds_toArray, List.set_cons_zero, List.set_cons_succ]
        refine wpAnyH_take (i := 4) (oi := { dst := some 47, op := Op.slice 26 (Operand.tmp 46) none (some (Operand.const (Value.int IntKind.i64 224))) none, type := 26, pos := "outright.go:84", after := #[{ on := 3, ground := Ground.data }, { on := 2, ground := Ground.guard }], guard := some (2, true) }) (v := undef) rfl (by kernel_rfl) (by kernel_rfl) (by kernel_rfl) (fun _ _ _ h => h) (Or.inr ⟨by rfl, rfl⟩) hHeld ?_
        try simp only [Act.put, List.setIfInBounds_toArray, List.set_cons_zero, List.set_cons_succ]
        refine wpAnyH_take (i := 5) (oi := { dst := some 48, op := Op.call { callee := Callee.value (Operand.func 13), args := #[Operand.tmp 47], argTypes := #[26] }, type := 23, pos := "outright.go:84", after := #[{ on := 4, ground := Ground.data }, { on := 2, ground := Ground.chain }, { on := 2, ground := Ground.guard }], guard := some (2, true) }) (v := undef) rfl (by kernel_rfl) (by kernel_rfl) (by kernel_rfl) (fun _ _ _ h => h) (Or.inr ⟨by rfl, rfl⟩) hHeld ?_
        try simp only [Act.put, List.setIfInBounds_toArray, List.set_cons_zero, List.set_cons_succ]
        refine wpAnyH_take (i := 6) (oi := { dst := some 49, op := Op.load 23 (Operand.tmp 10), type := 23, pos := "outright.go:84", after := #[{ on := 2, ground := Ground.guard }], guard := some (2, true) }) (v := undef) rfl (by kernel_rfl) (by kernel_rfl) (by kernel_rfl) (fun _ _ _ h => h) (Or.inr ⟨by rfl, rfl⟩) hHeld ?_
        try simp only [Act.put, List.setIfInBounds_toArray, List.set_cons_zero, List.set_cons_succ]
        refine wpAnyH_take (i := 7) (oi := { dst := some 50, op := Op.binOp BinOp.eql 23 (Operand.tmp 48) (Operand.tmp 49) 23, type := 4, pos := "outright.go:84", after := #[{ on := 5, ground := Ground.data }, { on := 6, ground := Ground.data }, { on := 2, ground := Ground.guard }], guard := some (2, true) }) (v := undef) rfl (by kernel_rfl) (by kernel_rfl) (by kernel_rfl) (fun _ _ _ h => h) (Or.inr ⟨by rfl, rfl⟩) hHeld ?_
        try simp only [Act.put, List.setIfInBounds_toArray, List.set_cons_zero, List.set_cons_succ]
        refine wpAnyH_take (i := 8) (oi := { dst := some 51, op := Op.pick (Operand.tmp 45) (Operand.tmp 50) (Operand.const (Value.bool false)), type := 4, pos := "outright.go:84", after := #[{ on := 2, ground := Ground.data }, { on := 7, ground := Ground.data }], guard := none }) (v := ?_) rfl (by kernel_rfl) (by kernel_rfl) (by kernel_rfl) (fun _ _ _ h => h) (Or.inl ⟨by rfl, ?_⟩) hHeld ?_
        rotate_left
        focus (intro z hSw; clear hSw; go_simp; try with_reducible rfl)
        try simp only [Act.put, List.setIfInBounds_toArray, List.set_cons_zero, List.set_cons_succ]
        refine wpAnyH_done (by kernel_rfl) ?_ _
        go_upto_region 13 with (first
          | ((with_reducible (show wpList _ _ _ (Oper.mk _ (Op.alloc 25) _ _ _ _ :: _) _ _)); refine wpList_lay28 rfl rfl rfl _ _ rfl (l := zeroLab) zeroLab_len rfl rfl ?_)
          | (go_at_call 14; refine (HUn.out _ hHeld).mono ?_; rintro r W7 ⟨rfl, f7⟩))
        have f8 : Frm [] W7 (W7.alloc (.cells (lc zeroLab).toArray 25)) := (Frm.refl [] W7).alloc _
        have G8 := Lib.hid (LB.new W7 zeroLab_len).gets.all
        have hf1 := HFIN.out
        have hf2 := HGD.out
        generalize W7.alloc (.cells (lc zeroLab).toArray 25) = W8 at *
        generalize W7.heap.size = L8 at *
        go_wp2_with (first
          | ((with_reducible (show wpList _ _ _ (Oper.mk _ (Op.load 25 _) _ _ _ _ :: _) _ _)); refine wpList_load_g (by rfl) 25 _ rfl _ rfl G8.out ?_)
          | ((with_reducible (show wpList _ _ _ (Oper.mk _ (Op.build 25 _) _ _ _ _ :: _) _ _)); refine wpList_val_g (by rfl) (exec_bld28z rfl _) ?_))
        go_ret
        exact ⟨rfl, ((F5.out.trans hHeld (by simp)).trans f7 (by simp)).trans f8 (by simp)⟩
  · rw [mayE_no hm] at HP
    go_wp2_with (first | ((with_reducible (show wpList _ _ _ (Oper.mk _ (Op.load 25 _) _ _ _ _ :: _) _ _)); refine wpList_load_g (by rfl) 25 _ rfl _ rfl G1.out ?_) | (go_at_call 5; refine (HP.out _ F1.out).mono ?_; rintro r W2 ⟨a, c, sp, rfl, o2, f2, n2⟩))
    go_ret
    exact ⟨rfl, F1.out.trans f2 (by simp)⟩
end Go.Proofs.YtcnjjcnmjmcoiaaDoor
