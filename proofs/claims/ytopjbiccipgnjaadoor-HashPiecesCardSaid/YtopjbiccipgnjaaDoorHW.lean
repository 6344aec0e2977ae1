/-
  Contract of the document's words; no conditions but those that each theorem names.
-/
import Derived.Test.YtopjbiccipgnjaaDoorHT
import Derived.Test.YtopjbiccipgnjaaDoorHG
import Derived.StillTailTactics
import Derived.Deep.RegionHeld3
namespace Go.Proofs.YtopjbiccipgnjaaDoor
open Go.RowKit
set_option linter.unusedVariables false
set_option linter.unusedSimpArgs false
set_option maxRecDepth 100000

theorem or_high (a b i m : Nat) (hb : b < 2 ^ i) : a * 2 ^ i ||| b = a * 2 ^ i + b := by
  rw [Nat.mul_comm, ← Nat.two_pow_add_eq_or_of_lt hb]
theorem beW4 (x0 x1 x2 x3 : UInt8) : beW [x0, x1, x2, x3] = UInt32.ofNat (((x0.toNat * 256 + x1.toNat) * 256 + x2.toNat) * 256 + x3.toNat) := by
  have h0 := x0.toNat_lt
  have h1 := x1.toNat_lt
  have h2 := x2.toNat_lt
  have h3 := x3.toNat_lt
  apply UInt32.toNat_inj.1
  simp only [beW, List.foldl_cons, List.foldl_nil, stepB]
  have e : ∀ (a : Nat) (b : UInt8), a < 16777216 → a * 256 % 4294967296 ||| b.toNat = a * 256 + b.toNat := fun a b ha => by
    rw [Nat.mod_eq_of_lt (by omega)]
    exact or_high a b.toNat 8 0 b.toNat_lt
  rw [show (0 : UInt32).toNat = 0 from rfl, e 0 x0 (by omega)]
  have o : ∀ a, a < 4294967296 → (UInt32.ofNat a).toNat = a := fun a ha => by rw [UInt32.toNat_ofNat', Nat.mod_eq_of_lt ha]
  rw [o (0 * 256 + x0.toNat) (by omega), e _ x1 (by omega), o ((0 * 256 + x0.toNat) * 256 + x1.toNat) (by omega), e _ x2 (by omega), o (((0 * 256 + x0.toNat) * 256 + x1.toNat) * 256 + x2.toNat) (by omega), e _ x3 (by omega)]
  simp
theorem or4_val (x0 x1 x2 x3 : UInt8) : bits BinOp.or IntKind.u32 (bits BinOp.or IntKind.u32 (bits BinOp.or IntKind.u32 ((x0.toNat : Int) * 16777216) ((x1.toNat : Int) * 65536)) ((x2.toNat : Int) * 256)) (x3.toNat : Int) = wi (beW [x0, x1, x2, x3]) := by
  have h0 := x0.toNat_lt
  have h1 := x1.toNat_lt
  have h2 := x2.toNat_lt
  have h3 := x3.toNat_lt
  rw [beW4]
  rw [show (x0.toNat : Int) * 16777216 = ((x0.toNat * 2 ^ 24 : Nat) : Int) by simp, show (x1.toNat : Int) * 65536 = ((x1.toNat * 2 ^ 16 : Nat) : Int) by simp, show (x2.toNat : Int) * 256 = ((x2.toNat * 2 ^ 8 : Nat) : Int) by simp]
  rw [u32_or_nat _ _ (by omega) (by omega), or_high _ _ 24 0 (by omega)]
  rw [u32_or_nat _ _ (by omega) (by omega), show x0.toNat * 2 ^ 24 + x1.toNat * 2 ^ 16 = (x0.toNat * 256 + x1.toNat) * 2 ^ 16 by omega, or_high _ _ 16 0 (by omega)]
  rw [u32_or_nat _ _ (by omega) (by omega), show (x0.toNat * 256 + x1.toNat) * 2 ^ 16 + x2.toNat * 2 ^ 8 = ((x0.toNat * 256 + x1.toNat) * 256 + x2.toNat) * 2 ^ 8 by omega, or_high _ _ 8 0 (by omega)]
  unfold wi
  rw [UInt32.toNat_ofNat', Nat.mod_eq_of_lt (by omega)]
theorem RefRight_j (x : UInt32) (n : Int) (h1 : 1 ≤ n) (h2 : n ≤ 31) (w : World) : Calls Tryd.prog 41 #[.int .u32 (wi x), .int .i64 n] w fun e w' => e = .returned (.int .u32 (wi (ror32 x n.toNat))) ∧ ∃ m, w' = w.drewN m := by
  obtain ⟨k, rfl⟩ := Int.eq_ofNat_of_zero_le (show 0 ≤ n by omega)
  exact RefRight_any x k (by omega) (by omega) w
def zW (k : Nat) (ws : List UInt32) : List UInt32 := ws ++ List.replicate (64 - k) 0
def WdsRel (w : World) (p : List UInt8) (lo hi : Nat) (c : Value) (wr : World) : Prop :=
  ∃ k : Nat, lo ≤ k ∧ k ≤ hi ∧ c = .int .i64 k ∧ IsW wr w.heap.size 61 (List.replicate 64 0) ∧ IsW wr (w.heap.size + 1) 61 (zW k (wordsK p k)) ∧ Frm [] w wr
theorem take4 (l : List UInt8) (i : Nat) (h : i + 4 ≤ l.length) : (l.drop i).take 4 = [l[i], l[i + 1], l[i + 2], l[i + 3]] := by
  rw [List.drop_eq_getElem_cons (show i < l.length by omega), List.drop_eq_getElem_cons (show i + 1 < l.length by omega), List.drop_eq_getElem_cons (show i + 1 + 1 < l.length by omega), List.drop_eq_getElem_cons (show i + 1 + 1 + 1 < l.length by omega)]
  simp only [List.take_succ_cons, List.take_zero]
def S10 (b k i16 i7 : Nat) (a16 a7 : UInt32) (y : World) : Prop :=
  y.cell? ⟨b, i16, none⟩ = some (.int .u32 (wi a16)) ∧ y.cell? ⟨b, i7, none⟩ = some (.int .u32 (wi a7)) ∧ (∃ u, y.cell? ⟨b, k, none⟩ = some u) ∧ y.frozen? ⟨b, k, none⟩ = false
set_option maxHeartbeats 4000000 in
theorem RefWords_any (b off cap : Nat) (p : List UInt8) (hp : p.length = 64) (w : World) (hc : ∀ i (h : i < p.length), w.cell? ⟨b, off + i, none⟩ = some (.int .u8 (p[i].toNat : Int))) :
    Calls Tryd.prog 40 #[.slice (some ⟨b, off, none⟩) 64 cap] w fun r w' => r = .returned (.agg (W32 (wordsK p 64)).toArray) ∧ Frm [] w w' := by
  have HC := Lib.hid hc
  have HP := Lib.hid hp
  have hone : IsW ((w.alloc (.cells (W32 (List.replicate 64 0)).toArray 61)).alloc (.cells (W32 (List.replicate 64 0)).toArray 61)) w.heap.size 61 (List.replicate 64 0) := heap_alloc_lt (heap_alloc_new _ _)
  have htwo : IsW ((w.alloc (.cells (W32 (List.replicate 64 0)).toArray 61)).alloc (.cells (W32 (List.replicate 64 0)).toArray 61)) (w.heap.size + 1) 61 (zW 0 (wordsK p 0)) := heap_alloc_at (by simp)
  have hF : Frm [] w ((w.alloc (.cells (W32 (List.replicate 64 0)).toArray 61)).alloc (.cells (W32 (List.replicate 64 0)).toArray 61)) := ((Frm.refl _ _).alloc _).alloc _
  have H1 := Lib.hid hone
  have H2 := Lib.hid htwo
  have HF := Lib.hid hF
  clear hc hp hone htwo hF
  go_enter Tryd.func40, Tryd.ntmps40
  go_wp2_with fail
  change Code.wp _ _ _ _ ((w.alloc (.cells (W32 (List.replicate 64 0)).toArray 61)).alloc (.cells (W32 (List.replicate 64 0)).toArray 61))
  generalize (w.alloc (.cells (W32 (List.replicate 64 0)).toArray 61)).alloc (.cells (W32 (List.replicate 64 0)).toArray 61) = W at *
  go_loopw [4] (WdsRel w p 0 16) (fun c _ => 16 - (intOf c).toNat)
  case atStart => exact ⟨0, by omega, by omega, rfl, H1.out, H2.out, HF.out⟩
  case round =>
    clear H1 H2 HF
    obtain ⟨k, hk0, hk, rfl, h1, h2, f⟩ := hrel
    have F := Lib.hid f
    have H1 := Lib.hid h1
    have H2 := Lib.hid h2
    by_cases hlt : k < 16
    · have hkl := wordsK_length p k
      have hnx : nextW p (wordsK p k) = beW ((p.drop (4 * k)).take 4) := by unfold nextW; rw [hkl, if_pos hlt]
      have hset := words_set p k (by omega)
      rw [hnx, take4 p (4 * k) (by rw [HP.out]; omega)] at hset
      have c0 := f.cell (HC.out (4 * k) (by rw [HP.out]; omega)) (by simp)
      have c1 := f.cell (HC.out (4 * k + 1) (by rw [HP.out]; omega)) (by simp)
      have c2 := f.cell (HC.out (4 * k + 2) (by rw [HP.out]; omega)) (by simp)
      have c3 := f.cell (HC.out (4 * k + 3) (by rw [HP.out]; omega)) (by simp)
      have hkx : k < (zW k (wordsK p k)).length := by simp [zW, hkl]; omega
      have cx := h2.cell k hkx
      have zx := h2.frozen k
      have hor := or4_val (p[4 * k]'(by rw [HP.out]; omega)) (p[4 * k + 1]'(by rw [HP.out]; omega)) (p[4 * k + 2]'(by rw [HP.out]; omega)) (p[4 * k + 3]'(by rw [HP.out]; omega))
      generalize beW [p[4 * k]'(by rw [HP.out]; omega), p[4 * k + 1]'(by rw [HP.out]; omega), p[4 * k + 2]'(by rw [HP.out]; omega), p[4 * k + 3]'(by rw [HP.out]; omega)] = v at *
      generalize p[4 * k]'(by rw [HP.out]; omega) = x0 at *
      generalize p[4 * k + 1]'(by rw [HP.out]; omega) = x1 at *
      generalize p[4 * k + 2]'(by rw [HP.out]; omega) = x2 at *
      generalize p[4 * k + 3]'(by rw [HP.out]; omega) = x3 at *
      generalize (zW k (wordsK p k))[k]'hkx = y0 at *
      have HS := Lib.hid hset
      have b0 : ((x0.toNat : Nat) : Int) < 256 := by have := x0.toNat_lt; omega
      have b1 : ((x1.toNat : Nat) : Int) < 256 := by have := x1.toNat_lt; omega
      have b2 : ((x2.toNat : Nat) : Int) < 256 := by have := x2.toNat_lt; omega
      have b3 : ((x3.toNat : Nat) : Int) < 256 := by have := x3.toNat_lt; omega
      have hk16 : (k : Int) < 16 := by omega
      have hk64 : (k : Int) < 64 := by omega
      have u0 : IntKind.u32.wrap ((x0.toNat : Nat) : Int) = ((x0.toNat : Nat) : Int) := by show (_ : Int) % 4294967296 = _; omega
      have u1 : IntKind.u32.wrap ((x1.toNat : Nat) : Int) = ((x1.toNat : Nat) : Int) := by show (_ : Int) % 4294967296 = _; omega
      have u2 : IntKind.u32.wrap ((x2.toNat : Nat) : Int) = ((x2.toNat : Nat) : Int) := by show (_ : Int) % 4294967296 = _; omega
      have u3 : IntKind.u32.wrap ((x3.toNat : Nat) : Int) = ((x3.toNat : Nat) : Int) := by show (_ : Int) % 4294967296 = _; omega
      have v0 : IntKind.u32.wrap (((x0.toNat : Nat) : Int) * 16777216) = ((x0.toNat : Nat) : Int) * 16777216 := by show (_ : Int) % 4294967296 = _; omega
      have v1 : IntKind.u32.wrap (((x1.toNat : Nat) : Int) * 65536) = ((x1.toNat : Nat) : Int) * 65536 := by show (_ : Int) % 4294967296 = _; omega
      have v2 : IntKind.u32.wrap (((x2.toNat : Nat) : Int) * 256) = ((x2.toNat : Nat) : Int) * 256 := by show (_ : Int) % 4294967296 = _; omega
      have e0 : IntKind.i64.wrap (4 * (k : Int)) = 4 * (k : Int) := IntWalk.i64_in _ (by omega)
      have e1 : IntKind.i64.wrap (4 * (k : Int) + 1) = 4 * (k : Int) + 1 := IntWalk.i64_in _ (by omega)
      have e2 : IntKind.i64.wrap (4 * (k : Int) + 2) = 4 * (k : Int) + 2 := IntWalk.i64_in _ (by omega)
      have e3 : IntKind.i64.wrap (4 * (k : Int) + 3) = 4 * (k : Int) + 3 := IntWalk.i64_in _ (by omega)
      have n0 : (4 * (k : Int)).toNat = 4 * k := by omega
      have n1 : (4 * (k : Int) + 1).toNat = 4 * k + 1 := by omega
      have n2 : (4 * (k : Int) + 2).toNat = 4 * k + 2 := by omega
      have n3 : (4 * (k : Int) + 3).toNat = 4 * k + 3 := by omega
      have g0 : (0 : Int) ≤ 4 * (k : Int) := by omega
      have g1 : (0 : Int) ≤ 4 * (k : Int) + 1 := by omega
      have g2 : (0 : Int) ≤ 4 * (k : Int) + 2 := by omega
      have g3 : (0 : Int) ≤ 4 * (k : Int) + 3 := by omega
      have j0 : 4 * (k : Int) < 64 := by omega
      have j1 : 4 * (k : Int) + 1 < 64 := by omega
      have j2 : 4 * (k : Int) + 2 < 64 := by omega
      have j3 : 4 * (k : Int) + 3 < 64 := by omega
      clear f h1 h2 hset hnx hkl hkx
      go_wp2_with fail
      refine wp_region_still_tail 35 (by kernel_rfl) (by kernel_rfl) ?_
      change wpStill _ _ (World.drew _) _ _ _
      simp only [List.take_succ_cons, List.take_zero, List.drop_succ_cons, List.drop_zero]
      repeat still_step
      refine wpStill_nil ?_
      change wpList _ _ _ _ _ (World.drew _)
      go_wp2_with fail
      refine ⟨⟨k + 1, by omega, by omega, by go_num, H1.out.other _ _ (by simp <;> omega), ?_, (F.out.setCell _ _ (.inr (by simp <;> omega))).drew⟩, by simp [intOf]; omega⟩
      have h9 := H2.out.store k v
      rw [zW, HS.out] at h9
      exact h9
    · obtain rfl : k = 16 := by omega
      have HF := Lib.hid f
      clear f h1 h2
      go_wp2_with fail
      go_loopw [5] (WdsRel w p 16 64) (fun c _ => 64 - (intOf c).toNat)
      case atStart => exact ⟨16, by omega, by omega, rfl, H1.out, H2.out, HF.out⟩
      case round =>
        clear H1 H2 HF F
        obtain ⟨k, hk0, hk, rfl, h1, h2, f⟩ := hrel
        have HF := Lib.hid f
        have H1 := Lib.hid h1
        have H2 := Lib.hid h2
        by_cases hlt : k < 64
        · have hkl := wordsK_length p k
          have hnx : nextW p (wordsK p k) = at32 (wordsK p k) (k - 16) + (sig0 (at32 (wordsK p k) (k - 15)) + at32 (wordsK p k) (k - 7) + sig1 (at32 (wordsK p k) (k - 2))) := by unfold nextW; rw [hkl, if_neg (by omega)]
          have hset := words_set p k (by omega)
          have cell : ∀ j, j < k → wr.cell? ⟨w.heap.size + 1, j, none⟩ = some (.int .u32 (wi (at32 (wordsK p k) j))) := fun j hj => by
            have hjl : j < (zW k (wordsK p k)).length := by simp [zW, hkl]; omega
            have := h2.cell j hjl
            rw [this, show (zW k (wordsK p k))[j]'hjl = at32 (wordsK p k) j from by rw [at32_lt]; simp [zW, at32, List.getD_eq_getElem?_getD, List.getElem?_append_left (show j < (wordsK p k).length by omega)]]
          have c16 := cell (k - 16) (by omega)
          have c15 := cell (k - 15) (by omega)
          have c7 := cell (k - 7) (by omega)
          have c2 := cell (k - 2) (by omega)
          have hkx : k < (zW k (wordsK p k)).length := by simp [zW, hkl]; omega
          have cx := h2.cell k hkx
          have zx := h2.frozen k
          generalize (zW k (wordsK p k))[k]'hkx = y0 at *
          generalize at32 (wordsK p k) (k - 16) = a16 at *
          generalize at32 (wordsK p k) (k - 15) = a15 at *
          generalize at32 (wordsK p k) (k - 7) = a7 at *
          generalize at32 (wordsK p k) (k - 2) = a2 at *
          generalize nextW p (wordsK p k) = v at *
          have HS := Lib.hid hset
          have HNX := Lib.hid hnx
          have e16 : IntKind.i64.wrap ((k : Int) - 16) = (k : Int) - 16 := IntWalk.i64_in _ (by omega)
          have e15 : IntKind.i64.wrap ((k : Int) - 15) = (k : Int) - 15 := IntWalk.i64_in _ (by omega)
          have e7 : IntKind.i64.wrap ((k : Int) - 7) = (k : Int) - 7 := IntWalk.i64_in _ (by omega)
          have e2 : IntKind.i64.wrap ((k : Int) - 2) = (k : Int) - 2 := IntWalk.i64_in _ (by omega)
          have n16 : ((k : Int) - 16).toNat = k - 16 := by omega
          have n15 : ((k : Int) - 15).toNat = k - 15 := by omega
          have n7 : ((k : Int) - 7).toNat = k - 7 := by omega
          have n2 : ((k : Int) - 2).toNat = k - 2 := by omega
          have g16 : (0 : Int) ≤ (k : Int) - 16 := by omega
          have g15 : (0 : Int) ≤ (k : Int) - 15 := by omega
          have g7 : (0 : Int) ≤ (k : Int) - 7 := by omega
          have g2 : (0 : Int) ≤ (k : Int) - 2 := by omega
          have q16 : (16 : Int) ≤ (k : Int) := by omega
          have q15 : (15 : Int) ≤ (k : Int) := by omega
          have q7 : (7 : Int) ≤ (k : Int) := by omega
          have q2 : (2 : Int) ≤ (k : Int) := by omega
          have j16 : (k : Int) - 16 < 64 := by omega
          have j15 : (k : Int) - 15 < 64 := by omega
          have j7 : (k : Int) - 7 < 64 := by omega
          have j2 : (k : Int) - 2 < 64 := by omega
          have hk64 : (k : Int) < 64 := by omega
          clear f h1 h2 hset hnx hkl hkx cell
          go_wp2_with fail
          go_quiet (fail)
          go_wp2_with fail
          have hx1 := wi_xor
          have hx2 := wi_add
          have hx3 := wi_add'
          have hx4 := wi_shr3
          have hx5 := wi_shr10
          refine wp_region_held_drew (S := S10 (w.heap.size + 1) k (k - 16) (k - 7) a16 a7) (by kernel_rfl) ⟨c16, c7, ⟨_, cx⟩, zx⟩ (fun hHeld => ?_)
          refine wpAnyH_take (i := 0) (oi := { dst := some 59, op := Op.move (Operand.tmp 5), type := 3, pos := "ref.go:53", after := #[], guard := none }) (v := ?_) rfl (by kernel_rfl) (by kernel_rfl) (by kernel_rfl) (fun _ _ _ h => h) (Or.inl ⟨by rfl, ?_⟩) hHeld ?_
          rotate_left
          focus (intro w hSw; clear hSw; go_simp; try with_reducible rfl)
          try simp only [Act.put, List.setIfInBounds_toArray, List.set_cons_zero, List.set_cons_succ]
          refine wpAnyH_take (i := 1) (oi := { dst := some 60, op := Op.move (Operand.tmp 5), type := 3, pos := "ref.go:53", after := #[], guard := none }) (v := ?_) rfl (by kernel_rfl) (by kernel_rfl) (by kernel_rfl) (fun _ _ _ h => h) (Or.inl ⟨by rfl, ?_⟩) hHeld ?_
          rotate_left
          focus (intro w hSw; clear hSw; go_simp; try with_reducible rfl)
          try simp only [Act.put, List.setIfInBounds_toArray, List.set_cons_zero, List.set_cons_succ]
          refine wpAnyH_take (i := 2) (oi := { dst := some 61, op := Op.binOp BinOp.sub 3 (Operand.tmp 60) (Operand.const (Value.int IntKind.i64 16)) 3, type := 3, pos := "ref.go:53", after := #[{ on := 1, ground := Ground.data }], guard := none }) (v := ?_) rfl (by kernel_rfl) (by kernel_rfl) (by kernel_rfl) (fun _ _ _ h => h) (Or.inl ⟨by rfl, ?_⟩) hHeld ?_
          rotate_left
          focus (intro w hSw; clear hSw; go_simp; try with_reducible rfl)
          try simp only [Act.put, List.setIfInBounds_toArray, List.set_cons_zero, List.set_cons_succ]
          refine wpAnyH_take (i := 3) (oi := { dst := some 62, op := Op.indexAddr 61 (Operand.tmp 3) (Operand.tmp 61), type := 0, pos := "ref.go:53", after := #[{ on := 2, ground := Ground.data }], guard := none }) (v := ?_) rfl (by kernel_rfl) (by kernel_rfl) (by kernel_rfl) (fun _ _ _ h => h) (Or.inl ⟨by rfl, ?_⟩) hHeld ?_
          rotate_left
          focus (intro w hSw; clear hSw; go_simp; try with_reducible rfl)
          try simp only [Act.put, List.setIfInBounds_toArray, List.set_cons_zero, List.set_cons_succ]
          refine wpAnyH_take (i := 4) (oi := { dst := some 63, op := Op.load 35 (Operand.tmp 62), type := 35, pos := "ref.go:53", after := #[{ on := 3, ground := Ground.data }], guard := none }) (v := ?_) rfl (by kernel_rfl) (by kernel_rfl) (by kernel_rfl) (fun _ _ _ h => h) (Or.inl ⟨by rfl, ?_⟩) hHeld ?_
          rotate_left
          focus (intro w hSw; obtain ⟨k0, k1, ⟨u, k2⟩, k3⟩ := hSw; go_simp; try with_reducible rfl)
          try simp only [Act.put, List.setIfInBounds_toArray, List.set_cons_zero, List.set_cons_succ]
          refine wpAnyH_take (i := 5) (oi := { dst := some 64, op := Op.move (Operand.tmp 6), type := 35, pos := "ref.go:53", after := #[], guard := none }) (v := ?_) rfl (by kernel_rfl) (by kernel_rfl) (by kernel_rfl) (fun _ _ _ h => h) (Or.inl ⟨by rfl, ?_⟩) hHeld ?_
          rotate_left
          focus (intro w hSw; clear hSw; go_simp; try with_reducible rfl)
          try simp only [Act.put, List.setIfInBounds_toArray, List.set_cons_zero, List.set_cons_succ]
          refine wpAnyH_take (i := 7) (oi := { dst := some 66, op := Op.move (Operand.tmp 6), type := 35, pos := "ref.go:53", after := #[], guard := none }) (v := ?_) rfl (by kernel_rfl) (by kernel_rfl) (by kernel_rfl) (fun _ _ _ h => h) (Or.inl ⟨by rfl, ?_⟩) hHeld ?_
          rotate_left
          focus (intro w hSw; clear hSw; go_simp; try with_reducible rfl)
          try simp only [Act.put, List.setIfInBounds_toArray, List.set_cons_zero, List.set_cons_succ]
          refine wpAnyH_take (i := 10) (oi := { dst := some 69, op := Op.move (Operand.tmp 6), type := 35, pos := "ref.go:53", after := #[], guard := none }) (v := ?_) rfl (by kernel_rfl) (by kernel_rfl) (by kernel_rfl) (fun _ _ _ h => h) (Or.inl ⟨by rfl, ?_⟩) hHeld ?_
          rotate_left
          focus (intro w hSw; clear hSw; go_simp; try with_reducible rfl)
          try simp only [Act.put, List.setIfInBounds_toArray, List.set_cons_zero, List.set_cons_succ]
          refine wpAnyH_take (i := 11) (oi := { dst := some 70, op := Op.binOp BinOp.shr 35 (Operand.tmp 69) (Operand.const (Value.int IntKind.u64 3)) 66, type := 35, pos := "ref.go:53", after := #[{ on := 10, ground := Ground.data }], guard := none }) (v := ?_) rfl (by kernel_rfl) (by kernel_rfl) (by kernel_rfl) (fun _ _ _ h => h) (Or.inl ⟨by rfl, ?_⟩) hHeld ?_
          rotate_left
          focus (intro w hSw; clear hSw; go_simp; try with_reducible rfl)
          try simp only [Act.put, List.setIfInBounds_toArray, List.set_cons_zero, List.set_cons_succ]
          refine wpAnyH_take (i := 14) (oi := { dst := some 73, op := Op.move (Operand.tmp 5), type := 3, pos := "ref.go:53", after := #[], guard := none }) (v := ?_) rfl (by kernel_rfl) (by kernel_rfl) (by kernel_rfl) (fun _ _ _ h => h) (Or.inl ⟨by rfl, ?_⟩) hHeld ?_
          rotate_left
          focus (intro w hSw; clear hSw; go_simp; try with_reducible rfl)
          try simp only [Act.put, List.setIfInBounds_toArray, List.set_cons_zero, List.set_cons_succ]
          refine wpAnyH_take (i := 15) (oi := { dst := some 74, op := Op.binOp BinOp.sub 3 (Operand.tmp 73) (Operand.const (Value.int IntKind.i64 7)) 3, type := 3, pos := "ref.go:53", after := #[{ on := 14, ground := Ground.data }], guard := none }) (v := ?_) rfl (by kernel_rfl) (by kernel_rfl) (by kernel_rfl) (fun _ _ _ h => h) (Or.inl ⟨by rfl, ?_⟩) hHeld ?_
          rotate_left
          focus (intro w hSw; clear hSw; go_simp; try with_reducible rfl)
          try simp only [Act.put, List.setIfInBounds_toArray, List.set_cons_zero, List.set_cons_succ]
          refine wpAnyH_take (i := 16) (oi := { dst := some 75, op := Op.indexAddr 61 (Operand.tmp 3) (Operand.tmp 74), type := 0, pos := "ref.go:53", after := #[{ on := 15, ground := Ground.data }], guard := none }) (v := ?_) rfl (by kernel_rfl) (by kernel_rfl) (by kernel_rfl) (fun _ _ _ h => h) (Or.inl ⟨by rfl, ?_⟩) hHeld ?_
          rotate_left
          focus (intro w hSw; clear hSw; go_simp; try with_reducible rfl)
          try simp only [Act.put, List.setIfInBounds_toArray, List.set_cons_zero, List.set_cons_succ]
          refine wpAnyH_take (i := 17) (oi := { dst := some 76, op := Op.load 35 (Operand.tmp 75), type := 35, pos := "ref.go:53", after := #[{ on := 16, ground := Ground.data }], guard := none }) (v := ?_) rfl (by kernel_rfl) (by kernel_rfl) (by kernel_rfl) (fun _ _ _ h => h) (Or.inl ⟨by rfl, ?_⟩) hHeld ?_
          rotate_left
          focus (intro w hSw; obtain ⟨k0, k1, ⟨u, k2⟩, k3⟩ := hSw; go_simp; try with_reducible rfl)
          try simp only [Act.put, List.setIfInBounds_toArray, List.set_cons_zero, List.set_cons_succ]
          refine wpAnyH_take (i := 19) (oi := { dst := some 78, op := Op.move (Operand.tmp 7), type := 35, pos := "ref.go:53", after := #[], guard := none }) (v := ?_) rfl (by kernel_rfl) (by kernel_rfl) (by kernel_rfl) (fun _ _ _ h => h) (Or.inl ⟨by rfl, ?_⟩) hHeld ?_
          rotate_left
          focus (intro w hSw; clear hSw; go_simp; try with_reducible rfl)
          try simp only [Act.put, List.setIfInBounds_toArray, List.set_cons_zero, List.set_cons_succ]
          refine wpAnyH_take (i := 21) (oi := { dst := some 80, op := Op.move (Operand.tmp 7), type := 35, pos := "ref.go:53", after := #[], guard := none }) (v := ?_) rfl (by kernel_rfl) (by kernel_rfl) (by kernel_rfl) (fun _ _ _ h => h) (Or.inl ⟨by rfl, ?_⟩) hHeld ?_
          rotate_left
          focus (intro w hSw; clear hSw; go_simp; try with_reducible rfl)
          try simp only [Act.put, List.setIfInBounds_toArray, List.set_cons_zero, List.set_cons_succ]
          refine wpAnyH_take (i := 24) (oi := { dst := some 83, op := Op.move (Operand.tmp 7), type := 35, pos := "ref.go:53", after := #[], guard := none }) (v := ?_) rfl (by kernel_rfl) (by kernel_rfl) (by kernel_rfl) (fun _ _ _ h => h) (Or.inl ⟨by rfl, ?_⟩) hHeld ?_
          rotate_left
          focus (intro w hSw; clear hSw; go_simp; try with_reducible rfl)
          try simp only [Act.put, List.setIfInBounds_toArray, List.set_cons_zero, List.set_cons_succ]
          refine wpAnyH_take (i := 25) (oi := { dst := some 84, op := Op.binOp BinOp.shr 35 (Operand.tmp 83) (Operand.const (Value.int IntKind.u64 10)) 66, type := 35, pos := "ref.go:53", after := #[{ on := 24, ground := Ground.data }], guard := none }) (v := ?_) rfl (by kernel_rfl) (by kernel_rfl) (by kernel_rfl) (fun _ _ _ h => h) (Or.inl ⟨by rfl, ?_⟩) hHeld ?_
          rotate_left
          focus (intro w hSw; clear hSw; go_simp; try with_reducible rfl)
          try simp only [Act.put, List.setIfInBounds_toArray, List.set_cons_zero, List.set_cons_succ]
          refine wpAnyH_ready (rs := [6]) (by kernel_rfl) (by simp) ?_
          refine AllReadyH.cons (o := { dst := some 65, op := Op.call { callee := Callee.value (Operand.func 41), args := #[Operand.tmp 64, Operand.const (Value.int IntKind.i64 7)], argTypes := #[35, 3] }, type := 35, pos := "ref.go:53", after := #[{ on := 5, ground := Ground.data }], guard := none }) rfl (fun K hK => ?_) AllReadyH.nil
          go_simp
          refine (RefRight_j _ _ (by decide) (by decide) _).mono ?_
          rintro r wx ⟨rfl, mx, rfl⟩
          refine hK.out _ _ ?_ (fun hNext => ?_)
          · exact hHeld
          clear hK K hHeld
          have hHeld := hNext
          clear hNext
          try simp only [Act.put, List.setIfInBounds_toArray, List.set_cons_zero, List.set_cons_succ]
          refine wpAnyH_ready (rs := [8]) (by kernel_rfl) (by simp) ?_
          refine AllReadyH.cons (o := { dst := some 67, op := Op.call { callee := Callee.value (Operand.func 41), args := #[Operand.tmp 66, Operand.const (Value.int IntKind.i64 18)], argTypes := #[35, 3] }, type := 35, pos := "ref.go:53", after := #[{ on := 7, ground := Ground.data }, { on := 6, ground := Ground.chain }], guard := none }) rfl (fun K hK => ?_) AllReadyH.nil
          go_simp
          refine (RefRight_j _ _ (by decide) (by decide) _).mono ?_
          rintro r wx ⟨rfl, mx, rfl⟩
          refine hK.out _ _ ?_ (fun hNext => ?_)
          · exact hHeld
          clear hK K hHeld
          have hHeld := hNext
          clear hNext
          try simp only [Act.put, List.setIfInBounds_toArray, List.set_cons_zero, List.set_cons_succ]
          refine wpAnyH_take (i := 9) (oi := { dst := some 68, op := Op.binOp BinOp.xor 35 (Operand.tmp 65) (Operand.tmp 67) 35, type := 35, pos := "ref.go:53", after := #[{ on := 6, ground := Ground.data }, { on := 8, ground := Ground.data }], guard := none }) (v := ?_) rfl (by kernel_rfl) (by kernel_rfl) (by kernel_rfl) (fun _ _ _ h => h) (Or.inl ⟨by rfl, ?_⟩) hHeld ?_
          rotate_left
          focus (intro w hSw; clear hSw; go_simp; try with_reducible rfl)
          try simp only [Act.put, List.setIfInBounds_toArray, List.set_cons_zero, List.set_cons_succ]
          refine wpAnyH_take (i := 12) (oi := { dst := some 71, op := Op.binOp BinOp.xor 35 (Operand.tmp 68) (Operand.tmp 70) 35, type := 35, pos := "ref.go:53", after := #[{ on := 9, ground := Ground.data }, { on := 11, ground := Ground.data }], guard := none }) (v := ?_) rfl (by kernel_rfl) (by kernel_rfl) (by kernel_rfl) (fun _ _ _ h => h) (Or.inl ⟨by rfl, ?_⟩) hHeld ?_
          rotate_left
          focus (intro w hSw; clear hSw; go_simp; try with_reducible rfl)
          try simp only [Act.put, List.setIfInBounds_toArray, List.set_cons_zero, List.set_cons_succ]
          refine wpAnyH_take (i := 13) (oi := { dst := some 72, op := Op.binOp BinOp.add 35 (Operand.tmp 63) (Operand.tmp 71) 35, type := 35, pos := "ref.go:53", after := #[{ on := 4, ground := Ground.data }, { on := 12, ground := Ground.data }], guard := none }) (v := ?_) rfl (by kernel_rfl) (by kernel_rfl) (by kernel_rfl) (fun _ _ _ h => h) (Or.inl ⟨by rfl, ?_⟩) hHeld ?_
          rotate_left
          focus (intro w hSw; clear hSw; go_simp; try with_reducible rfl)
          try simp only [Act.put, List.setIfInBounds_toArray, List.set_cons_zero, List.set_cons_succ]
          refine wpAnyH_take (i := 18) (oi := { dst := some 77, op := Op.binOp BinOp.add 35 (Operand.tmp 72) (Operand.tmp 76) 35, type := 35, pos := "ref.go:53", after := #[{ on := 13, ground := Ground.data }, { on := 17, ground := Ground.data }], guard := none }) (v := ?_) rfl (by kernel_rfl) (by kernel_rfl) (by kernel_rfl) (fun _ _ _ h => h) (Or.inl ⟨by rfl, ?_⟩) hHeld ?_
          rotate_left
          focus (intro w hSw; clear hSw; go_simp; try with_reducible rfl)
          try simp only [Act.put, List.setIfInBounds_toArray, List.set_cons_zero, List.set_cons_succ]
          refine wpAnyH_ready (rs := [20]) (by kernel_rfl) (by simp) ?_
          refine AllReadyH.cons (o := { dst := some 79, op := Op.call { callee := Callee.value (Operand.func 41), args := #[Operand.tmp 78, Operand.const (Value.int IntKind.i64 17)], argTypes := #[35, 3] }, type := 35, pos := "ref.go:53", after := #[{ on := 19, ground := Ground.data }, { on := 8, ground := Ground.chain }], guard := none }) rfl (fun K hK => ?_) AllReadyH.nil
          go_simp
          refine (RefRight_j _ _ (by decide) (by decide) _).mono ?_
          rintro r wx ⟨rfl, mx, rfl⟩
          refine hK.out _ _ ?_ (fun hNext => ?_)
          · exact hHeld
          clear hK K hHeld
          have hHeld := hNext
          clear hNext
          try simp only [Act.put, List.setIfInBounds_toArray, List.set_cons_zero, List.set_cons_succ]
          refine wpAnyH_ready (rs := [22]) (by kernel_rfl) (by simp) ?_
          refine AllReadyH.cons (o := { dst := some 81, op := Op.call { callee := Callee.value (Operand.func 41), args := #[Operand.tmp 80, Operand.const (Value.int IntKind.i64 19)], argTypes := #[35, 3] }, type := 35, pos := "ref.go:53", after := #[{ on := 21, ground := Ground.data }, { on := 20, ground := Ground.chain }], guard := none }) rfl (fun K hK => ?_) AllReadyH.nil
          go_simp
          refine (RefRight_j _ _ (by decide) (by decide) _).mono ?_
          rintro r wx ⟨rfl, mx, rfl⟩
          refine hK.out _ _ ?_ (fun hNext => ?_)
          · exact hHeld
          clear hK K hHeld
          have hHeld := hNext
          clear hNext
          try simp only [Act.put, List.setIfInBounds_toArray, List.set_cons_zero, List.set_cons_succ]
          refine wpAnyH_take (i := 23) (oi := { dst := some 82, op := Op.binOp BinOp.xor 35 (Operand.tmp 79) (Operand.tmp 81) 35, type := 35, pos := "ref.go:53", after := #[{ on := 20, ground := Ground.data }, { on := 22, ground := Ground.data }], guard := none }) (v := ?_) rfl (by kernel_rfl) (by kernel_rfl) (by kernel_rfl) (fun _ _ _ h => h) (Or.inl ⟨by rfl, ?_⟩) hHeld ?_
          rotate_left
          focus (intro w hSw; clear hSw; go_simp; try with_reducible rfl)
          try simp only [Act.put, List.setIfInBounds_toArray, List.set_cons_zero, List.set_cons_succ]
          refine wpAnyH_take (i := 26) (oi := { dst := some 85, op := Op.binOp BinOp.xor 35 (Operand.tmp 82) (Operand.tmp 84) 35, type := 35, pos := "ref.go:53", after := #[{ on := 23, ground := Ground.data }, { on := 25, ground := Ground.data }], guard := none }) (v := ?_) rfl (by kernel_rfl) (by kernel_rfl) (by kernel_rfl) (fun _ _ _ h => h) (Or.inl ⟨by rfl, ?_⟩) hHeld ?_
          rotate_left
          focus (intro w hSw; clear hSw; go_simp; try with_reducible rfl)
          try simp only [Act.put, List.setIfInBounds_toArray, List.set_cons_zero, List.set_cons_succ]
          refine wpAnyH_take (i := 27) (oi := { dst := some 86, op := Op.binOp BinOp.add 35 (Operand.tmp 77) (Operand.tmp 85) 35, type := 35, pos := "ref.go:53", after := #[{ on := 18, ground := Ground.data }, { on := 26, ground := Ground.data }], guard := none }) (v := ?_) rfl (by kernel_rfl) (by kernel_rfl) (by kernel_rfl) (fun _ _ _ h => h) (Or.inl ⟨by rfl, ?_⟩) hHeld ?_
          rotate_left
          focus (intro w hSw; clear hSw; go_simp; try with_reducible rfl)
          try simp only [Act.put, List.setIfInBounds_toArray, List.set_cons_zero, List.set_cons_succ]
          refine wpAnyH_take (i := 28) (oi := { dst := some 87, op := Op.indexAddr 61 (Operand.tmp 3) (Operand.tmp 59), type := 0, pos := "ref.go:53", after := #[{ on := 0, ground := Ground.data }, { on := 0, ground := Ground.phase }, { on := 1, ground := Ground.phase }, { on := 2, ground := Ground.phase }, { on := 3, ground := Ground.phase }, { on := 4, ground := Ground.phase }, { on := 5, ground := Ground.phase }, { on := 6, ground := Ground.phase }, { on := 7, ground := Ground.phase }, { on := 8, ground := Ground.phase }, { on := 9, ground := Ground.phase }, { on := 10, ground := Ground.phase }, { on := 11, ground := Ground.phase }, { on := 12, ground := Ground.phase }, { on := 13, ground := Ground.phase }, { on := 14, ground := Ground.phase }, { on := 15, ground := Ground.phase }, { on := 16, ground := Ground.phase }, { on := 17, ground := Ground.phase }, { on := 18, ground := Ground.phase }, { on := 19, ground := Ground.phase }, { on := 20, ground := Ground.phase }, { on := 21, ground := Ground.phase }, { on := 22, ground := Ground.phase }, { on := 23, ground := Ground.phase }, { on := 24, ground := Ground.phase }, { on := 25, ground := Ground.phase }, { on := 26, ground := Ground.phase }, { on := 27, ground := Ground.phase }], guard := none }) (v := ?_) rfl (by kernel_rfl) (by kernel_rfl) (by kernel_rfl) (fun _ _ _ h => h) (Or.inl ⟨by rfl, ?_⟩) hHeld ?_
          rotate_left
          focus (intro w hSw; clear hSw; go_simp; try with_reducible rfl)
          try simp only [Act.put, List.setIfInBounds_toArray, List.set_cons_zero, List.set_cons_succ]
          refine wpAnyH_ready (rs := [29]) (by kernel_rfl) (by simp) ?_
          refine AllReadyH.cons (o := { dst := none, op := Op.store 35 (Operand.tmp 87) (Operand.tmp 86), type := 0, pos := "ref.go:53", after := #[{ on := 28, ground := Ground.data }, { on := 27, ground := Ground.data }, { on := 22, ground := Ground.chain }, { on := 0, ground := Ground.phase }, { on := 1, ground := Ground.phase }, { on := 2, ground := Ground.phase }, { on := 3, ground := Ground.phase }, { on := 4, ground := Ground.phase }, { on := 5, ground := Ground.phase }, { on := 6, ground := Ground.phase }, { on := 7, ground := Ground.phase }, { on := 8, ground := Ground.phase }, { on := 9, ground := Ground.phase }, { on := 10, ground := Ground.phase }, { on := 11, ground := Ground.phase }, { on := 12, ground := Ground.phase }, { on := 13, ground := Ground.phase }, { on := 14, ground := Ground.phase }, { on := 15, ground := Ground.phase }, { on := 16, ground := Ground.phase }, { on := 17, ground := Ground.phase }, { on := 18, ground := Ground.phase }, { on := 19, ground := Ground.phase }, { on := 20, ground := Ground.phase }, { on := 21, ground := Ground.phase }, { on := 22, ground := Ground.phase }, { on := 23, ground := Ground.phase }, { on := 24, ground := Ground.phase }, { on := 25, ground := Ground.phase }, { on := 26, ground := Ground.phase }, { on := 27, ground := Ground.phase }], guard := none }) rfl (fun K hK => ?_) AllReadyH.nil
          obtain ⟨k0, k1, ⟨u, k2⟩, k3⟩ := hHeld
          go_simp
          refine hK.out _ _ ?_ (fun hNext => ?_)
          · exact ⟨(World.cell?_setCell_other _ _ _ _ (by simp <;> omega)).trans k0, (World.cell?_setCell_other _ _ _ _ (by simp <;> omega)).trans k1, ⟨_, World.cell?_setCell_same _ _ _ k2⟩, (by simpa using k3)⟩
          refine wpAnyH_done (by kernel_rfl) ?_ _

          have hv : a16 + (ror32 a15 7 ^^^ ror32 a15 18 ^^^ shr32 a15 3) + a7 + (ror32 a2 17 ^^^ ror32 a2 19 ^^^ shr32 a2 10) = v := by
            rw [HNX.out]; simp only [sig0, sig1, UInt32.add_assoc]
          have HV := Lib.hid hv
          clear hv
          go_wp2_with fail
          have hnew : ∀ n, WdsRel w p 16 64 (.int .i64 ((k : Int) + 1)) ((wr.drewN n).setCell ⟨w.heap.size + 1, k, none⟩ (.int .u32 (wi (a16 + (ror32 a15 7 ^^^ ror32 a15 18 ^^^ shr32 a15 3) + a7 + (ror32 a2 17 ^^^ ror32 a2 19 ^^^ shr32 a2 10))))) := fun n => by
            rw [HV.out]
            have h9 := (show IsW (wr.drewN n) (w.heap.size + 1) 61 (zW k (wordsK p k)) from H2.out).store k v
            rw [zW, HS.out] at h9
            exact ⟨k + 1, by omega, by omega, by go_num, (show IsW (wr.drewN n) w.heap.size 61 _ from H1.out).other _ _ (by simp <;> omega), h9, (HF.out.drewN n).setCell _ _ (.inr (by simp <;> omega))⟩
          refine ⟨?_, by simp [intOf]; omega⟩
          repeat apply Exists.intro
          exact ⟨hnew _, rfl⟩
        · obtain rfl : k = 64 := by omega
          have hX : wr.heap[w.heap.size + 1]? = some (.cells (W32 (wordsK p 64)).toArray 61 (0, 0)) := by
            have h9 := h2
            rw [zW, show wordsK p 64 ++ List.replicate (64 - 64) 0 = wordsK p 64 from by simp] at h9
            exact h9
          have hsz : (W32 (wordsK p 64)).toArray.size = 64 := by simp [W32_length, wordsK_length]
          have HX := Lib.hid hX
          have HSZ := Lib.hid hsz
          have hRz : wr.heap[w.heap.size]? = some (.cells (W32 (List.replicate 64 0)).toArray 61 (0, 0)) := h1
          clear hX hsz f h1 h2
          go_upto_region 11 with (fail)
          refine wp_region_lit ?_
          refine wpList_load_row rfl 61 (.tmp 3) rfl (w.heap.size + 1) rfl 61 (W32 (wordsK p 64)).toArray (0, 0) _ HX.out d61 rfl (by rw [HSZ.out]; exact i61) ?_
          refine wpList_store_row rfl 61 (.tmp 2) (.tmp 88) rfl w.heap.size (W32 (wordsK p 64)).toArray rfl rfl 61 _ hRz (by rw [HSZ.out]; exact i61) (by rw [HSZ.out]; rfl) (W32_one _) ?_
          have hres := setRow_heap wr w.heap.size _ (W32 (wordsK p 64)).toArray 61 (0, 0) hRz
          have hfr : Frm [] w (wr.setRow w.heap.size (W32 (wordsK p 64)).toArray) := HF.out.setRow _ _ (.inr (by omega))
          generalize wr.setRow w.heap.size (W32 (wordsK p 64)).toArray = w9 at *
          go_wp2_with fail
          refine bodyPost_ret (v := .agg (W32 (wordsK p 64)).toArray) (results_cell_row rfl _ _ _ 61 _ (0, 0) _ rfl hres d61 rfl (by rw [HSZ.out]; exact i61)) rfl ⟨rfl, hfr⟩
end Go.Proofs.YtopjbiccipgnjaaDoor
