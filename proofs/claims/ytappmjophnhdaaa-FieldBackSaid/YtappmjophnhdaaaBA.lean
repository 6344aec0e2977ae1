/-
  Contracts of Pick and of the law's right; no conditions but those that each theorem names.
-/
import Derived.Test.YtappmjophnhdaaaAF
namespace Go.Proofs.Ytappmjophnhdaaa
open Go.RowKit
set_option linter.unusedVariables false
set_option linter.unusedSimpArgs false

def pickI (x n : Int) : Int := if n < 1 then 0 else x % n
theorem pickI_range (x n : Int) (h : 1 ≤ n) : 0 ≤ pickI x n ∧ pickI x n < n := by
  unfold pickI
  rw [if_neg (by omega)]
  exact ⟨Int.emod_nonneg _ (by omega), Int.emod_lt_of_pos _ (by omega)⟩
theorem tmod_cases (x n : Int) (h : 1 ≤ n) : -n < x.tmod n ∧ x.tmod n < n ∧ (x.tmod n < 0 → x.tmod n + n = x % n) ∧ (0 ≤ x.tmod n → x.tmod n = x % n) := by
  have h1 := Int.emod_nonneg x (show n ≠ 0 by omega)
  have h2 := Int.emod_lt_of_pos x (show 0 < n by omega)
  rw [tmod_eq_if]
  split
  · exact ⟨by omega, by omega, fun h => by omega, fun _ => rfl⟩
  · have h3 := Int.emod_nonneg (-x) (show n ≠ 0 by omega)
    have h4 := Int.emod_lt_of_pos (-x) (show 0 < n by omega)
    have h5 : (-x) % n = if x % n = 0 then 0 else n - x % n := by
      rw [Int.neg_emod]
      split
      · rename_i hd
        have : x % n = 0 := Int.emod_eq_zero_of_dvd hd
        simp [this]
      · rename_i hd
        have : x % n ≠ 0 := fun e => hd (Int.dvd_of_emod_eq_zero e)
        simp [this]
        omega
    rw [h5]
    split <;> exact ⟨by omega, by omega, fun h => by omega, fun h => by omega⟩
set_option maxHeartbeats 1000000 in
theorem Pick_any (x n : Int) (w : World) (h1 : 1 ≤ n) (h2 : n ≤ 1000000000000000000) (hx : -9223372036854775808 ≤ x) (hx2 : x ≤ 9223372036854775807) :
    Calls Try.prog 38 #[.int .i64 x, .int .i64 n] w fun r w' => r = .returned (.int .i64 (pickI x n)) ∧ w' = w := by
  obtain ⟨t1, t2, t3, t4⟩ := tmod_cases x n h1
  have hp : pickI x n = x % n := by unfold pickI; rw [if_neg (by omega)]
  rw [hp]
  have hz : ¬ n = 0 := by omega
  have T3 := Lib.hid t3
  have T4 := Lib.hid t4
  clear t3 t4 hp
  by_cases hneg : x.tmod n < 0
  · go_enter Try.func38, Try.ntmps38
    go_wp2
    go_ret
    exact ⟨by rw [← T3.out hneg]; rfl, rfl⟩
  · go_enter Try.func38, Try.ntmps38
    go_wp2
    go_ret
    exact ⟨by rw [← T4.out (by omega)]; rfl, rfl⟩
/-- An act that can be written. -/
def rightA (x : Act0) : Act0 :=
  if x.kind = 0 then { x with size := 1 + pickI x.size 7, n := pickI x.n (2 ^ (8 * (1 + pickI x.size 7).toNat)) } else
  if x.kind = 1 then { x with size := pickI x.size 256, s := if pickI x.size 256 < x.s.size then x.s.extract 0 (pickI x.size 256).toNat else x.s } else { x with kind := 2 }
def actVal (x : Act0) (a : Option Addr) (cap : Nat) : Value := .agg #[.int .i64 x.kind, .int .i64 x.n, .int .i64 x.size, .string x.s, .slice a x.m.length cap]
set_option maxRecDepth 100000 in
set_option maxHeartbeats 2000000 in
theorem right_num1 (n size : Int) (s : ByteArray) (m : List UInt8) (a : Option Addr) (cap : Nat) (w : World) (hn : -9223372036854775808 ≤ n) (hn2 : n ≤ 9223372036854775807) (hs : -9223372036854775808 ≤ size) (hs2 : size ≤ 9223372036854775807) (hq : 1 + pickI size 7 = 1) :
    Calls Try.prog 35 #[actVal ⟨0, n, size, s, m⟩ a cap] w fun r w' => r = .returned (actVal ⟨0, pickI n 256, 1, s, m⟩ a cap) ∧ Frm [] w w' := by
  unfold actVal
  have hw8 : IntKind.i64.wrap 8 = 8 := by decide
  have hsh : ∀ wx, (Op.shift BinOp.shl IntKind.i64 1 IntKind.i64 8).run Try.prog wx = .ok (.int .i64 256) wx := by intro wx; kernel_rfl
  go_enter Try.func35, Try.ntmps35
  go_wp2_with (go_at_call 38; refine (Pick_any size 7 _ (by decide) (by decide) hs hs2).mono ?_; rintro r w' ⟨rfl, hw⟩; subst hw)
  refine wp_region_still_tail 8 (by kernel_rfl) (by kernel_rfl) ?_
  simp only [List.take_succ_cons, List.take_zero, List.drop_succ_cons, List.drop_zero]
  change wpStill _ _ (World.drew _) _ _ _
  iterate 6 still_step
  still_call (Pick_any n 256 _ (by decide) (by decide) hn hn2)
  repeat still_step
  refine wpStill_nil ?_
  change wpList _ _ _ _ _ (World.drew _)
  go_wp2
  exact bodyPost_ret (v := .agg #[.int .i64 0, .int .i64 (pickI n 256), .int .i64 1, .string s, .slice a m.length cap]) (by simp [results, Try.results35, go_sem]) rfl ⟨rfl, (((Frm.refl _ _).alloc _).alloc _).drew⟩
set_option maxRecDepth 100000 in
set_option maxHeartbeats 2000000 in
theorem right_num2 (n size : Int) (s : ByteArray) (m : List UInt8) (a : Option Addr) (cap : Nat) (w : World) (hn : -9223372036854775808 ≤ n) (hn2 : n ≤ 9223372036854775807) (hs : -9223372036854775808 ≤ size) (hs2 : size ≤ 9223372036854775807) (hq : 1 + pickI size 7 = 2) :
    Calls Try.prog 35 #[actVal ⟨0, n, size, s, m⟩ a cap] w fun r w' => r = .returned (actVal ⟨0, pickI n 65536, 2, s, m⟩ a cap) ∧ Frm [] w w' := by
  unfold actVal
  have hw8 : IntKind.i64.wrap 16 = 16 := by decide
  have hsh : ∀ wx, (Op.shift BinOp.shl IntKind.i64 1 IntKind.i64 16).run Try.prog wx = .ok (.int .i64 65536) wx := by intro wx; kernel_rfl
  go_enter Try.func35, Try.ntmps35
  go_wp2_with (go_at_call 38; refine (Pick_any size 7 _ (by decide) (by decide) hs hs2).mono ?_; rintro r w' ⟨rfl, hw⟩; subst hw)
  refine wp_region_still_tail 8 (by kernel_rfl) (by kernel_rfl) ?_
  simp only [List.take_succ_cons, List.take_zero, List.drop_succ_cons, List.drop_zero]
  change wpStill _ _ (World.drew _) _ _ _
  iterate 6 still_step
  still_call (Pick_any n 65536 _ (by decide) (by decide) hn hn2)
  repeat still_step
  refine wpStill_nil ?_
  change wpList _ _ _ _ _ (World.drew _)
  go_wp2
  exact bodyPost_ret (v := .agg #[.int .i64 0, .int .i64 (pickI n 65536), .int .i64 2, .string s, .slice a m.length cap]) (by simp [results, Try.results35, go_sem]) rfl ⟨rfl, (((Frm.refl _ _).alloc _).alloc _).drew⟩
set_option maxRecDepth 100000 in
set_option maxHeartbeats 2000000 in
theorem right_num3 (n size : Int) (s : ByteArray) (m : List UInt8) (a : Option Addr) (cap : Nat) (w : World) (hn : -9223372036854775808 ≤ n) (hn2 : n ≤ 9223372036854775807) (hs : -9223372036854775808 ≤ size) (hs2 : size ≤ 9223372036854775807) (hq : 1 + pickI size 7 = 3) :
    Calls Try.prog 35 #[actVal ⟨0, n, size, s, m⟩ a cap] w fun r w' => r = .returned (actVal ⟨0, pickI n 16777216, 3, s, m⟩ a cap) ∧ Frm [] w w' := by
  unfold actVal
  have hw8 : IntKind.i64.wrap 24 = 24 := by decide
  have hsh : ∀ wx, (Op.shift BinOp.shl IntKind.i64 1 IntKind.i64 24).run Try.prog wx = .ok (.int .i64 16777216) wx := by intro wx; kernel_rfl
  go_enter Try.func35, Try.ntmps35
  go_wp2_with (go_at_call 38; refine (Pick_any size 7 _ (by decide) (by decide) hs hs2).mono ?_; rintro r w' ⟨rfl, hw⟩; subst hw)
  refine wp_region_still_tail 8 (by kernel_rfl) (by kernel_rfl) ?_
  simp only [List.take_succ_cons, List.take_zero, List.drop_succ_cons, List.drop_zero]
  change wpStill _ _ (World.drew _) _ _ _
  iterate 6 still_step
  still_call (Pick_any n 16777216 _ (by decide) (by decide) hn hn2)
  repeat still_step
  refine wpStill_nil ?_
  change wpList _ _ _ _ _ (World.drew _)
  go_wp2
  exact bodyPost_ret (v := .agg #[.int .i64 0, .int .i64 (pickI n 16777216), .int .i64 3, .string s, .slice a m.length cap]) (by simp [results, Try.results35, go_sem]) rfl ⟨rfl, (((Frm.refl _ _).alloc _).alloc _).drew⟩
set_option maxRecDepth 100000 in
set_option maxHeartbeats 2000000 in
theorem right_num4 (n size : Int) (s : ByteArray) (m : List UInt8) (a : Option Addr) (cap : Nat) (w : World) (hn : -9223372036854775808 ≤ n) (hn2 : n ≤ 9223372036854775807) (hs : -9223372036854775808 ≤ size) (hs2 : size ≤ 9223372036854775807) (hq : 1 + pickI size 7 = 4) :
    Calls Try.prog 35 #[actVal ⟨0, n, size, s, m⟩ a cap] w fun r w' => r = .returned (actVal ⟨0, pickI n 4294967296, 4, s, m⟩ a cap) ∧ Frm [] w w' := by
  unfold actVal
  have hw8 : IntKind.i64.wrap 32 = 32 := by decide
  have hsh : ∀ wx, (Op.shift BinOp.shl IntKind.i64 1 IntKind.i64 32).run Try.prog wx = .ok (.int .i64 4294967296) wx := by intro wx; kernel_rfl
  go_enter Try.func35, Try.ntmps35
  go_wp2_with (go_at_call 38; refine (Pick_any size 7 _ (by decide) (by decide) hs hs2).mono ?_; rintro r w' ⟨rfl, hw⟩; subst hw)
  refine wp_region_still_tail 8 (by kernel_rfl) (by kernel_rfl) ?_
  simp only [List.take_succ_cons, List.take_zero, List.drop_succ_cons, List.drop_zero]
  change wpStill _ _ (World.drew _) _ _ _
  iterate 6 still_step
  still_call (Pick_any n 4294967296 _ (by decide) (by decide) hn hn2)
  repeat still_step
  refine wpStill_nil ?_
  change wpList _ _ _ _ _ (World.drew _)
  go_wp2
  exact bodyPost_ret (v := .agg #[.int .i64 0, .int .i64 (pickI n 4294967296), .int .i64 4, .string s, .slice a m.length cap]) (by simp [results, Try.results35, go_sem]) rfl ⟨rfl, (((Frm.refl _ _).alloc _).alloc _).drew⟩
set_option maxRecDepth 100000 in
set_option maxHeartbeats 2000000 in
theorem right_num5 (n size : Int) (s : ByteArray) (m : List UInt8) (a : Option Addr) (cap : Nat) (w : World) (hn : -9223372036854775808 ≤ n) (hn2 : n ≤ 9223372036854775807) (hs : -9223372036854775808 ≤ size) (hs2 : size ≤ 9223372036854775807) (hq : 1 + pickI size 7 = 5) :
    Calls Try.prog 35 #[actVal ⟨0, n, size, s, m⟩ a cap] w fun r w' => r = .returned (actVal ⟨0, pickI n 1099511627776, 5, s, m⟩ a cap) ∧ Frm [] w w' := by
  unfold actVal
  have hw8 : IntKind.i64.wrap 40 = 40 := by decide
  have hsh : ∀ wx, (Op.shift BinOp.shl IntKind.i64 1 IntKind.i64 40).run Try.prog wx = .ok (.int .i64 1099511627776) wx := by intro wx; kernel_rfl
  go_enter Try.func35, Try.ntmps35
  go_wp2_with (go_at_call 38; refine (Pick_any size 7 _ (by decide) (by decide) hs hs2).mono ?_; rintro r w' ⟨rfl, hw⟩; subst hw)
  refine wp_region_still_tail 8 (by kernel_rfl) (by kernel_rfl) ?_
  simp only [List.take_succ_cons, List.take_zero, List.drop_succ_cons, List.drop_zero]
  change wpStill _ _ (World.drew _) _ _ _
  iterate 6 still_step
  still_call (Pick_any n 1099511627776 _ (by decide) (by decide) hn hn2)
  repeat still_step
  refine wpStill_nil ?_
  change wpList _ _ _ _ _ (World.drew _)
  go_wp2
  exact bodyPost_ret (v := .agg #[.int .i64 0, .int .i64 (pickI n 1099511627776), .int .i64 5, .string s, .slice a m.length cap]) (by simp [results, Try.results35, go_sem]) rfl ⟨rfl, (((Frm.refl _ _).alloc _).alloc _).drew⟩
set_option maxRecDepth 100000 in
set_option maxHeartbeats 2000000 in
theorem right_num6 (n size : Int) (s : ByteArray) (m : List UInt8) (a : Option Addr) (cap : Nat) (w : World) (hn : -9223372036854775808 ≤ n) (hn2 : n ≤ 9223372036854775807) (hs : -9223372036854775808 ≤ size) (hs2 : size ≤ 9223372036854775807) (hq : 1 + pickI size 7 = 6) :
    Calls Try.prog 35 #[actVal ⟨0, n, size, s, m⟩ a cap] w fun r w' => r = .returned (actVal ⟨0, pickI n 281474976710656, 6, s, m⟩ a cap) ∧ Frm [] w w' := by
  unfold actVal
  have hw8 : IntKind.i64.wrap 48 = 48 := by decide
  have hsh : ∀ wx, (Op.shift BinOp.shl IntKind.i64 1 IntKind.i64 48).run Try.prog wx = .ok (.int .i64 281474976710656) wx := by intro wx; kernel_rfl
  go_enter Try.func35, Try.ntmps35
  go_wp2_with (go_at_call 38; refine (Pick_any size 7 _ (by decide) (by decide) hs hs2).mono ?_; rintro r w' ⟨rfl, hw⟩; subst hw)
  refine wp_region_still_tail 8 (by kernel_rfl) (by kernel_rfl) ?_
  simp only [List.take_succ_cons, List.take_zero, List.drop_succ_cons, List.drop_zero]
  change wpStill _ _ (World.drew _) _ _ _
  iterate 6 still_step
  still_call (Pick_any n 281474976710656 _ (by decide) (by decide) hn hn2)
  repeat still_step
  refine wpStill_nil ?_
  change wpList _ _ _ _ _ (World.drew _)
  go_wp2
  exact bodyPost_ret (v := .agg #[.int .i64 0, .int .i64 (pickI n 281474976710656), .int .i64 6, .string s, .slice a m.length cap]) (by simp [results, Try.results35, go_sem]) rfl ⟨rfl, (((Frm.refl _ _).alloc _).alloc _).drew⟩
set_option maxRecDepth 100000 in
set_option maxHeartbeats 2000000 in
theorem right_num7 (n size : Int) (s : ByteArray) (m : List UInt8) (a : Option Addr) (cap : Nat) (w : World) (hn : -9223372036854775808 ≤ n) (hn2 : n ≤ 9223372036854775807) (hs : -9223372036854775808 ≤ size) (hs2 : size ≤ 9223372036854775807) (hq : 1 + pickI size 7 = 7) :
    Calls Try.prog 35 #[actVal ⟨0, n, size, s, m⟩ a cap] w fun r w' => r = .returned (actVal ⟨0, pickI n 72057594037927936, 7, s, m⟩ a cap) ∧ Frm [] w w' := by
  unfold actVal
  have hw8 : IntKind.i64.wrap 56 = 56 := by decide
  have hsh : ∀ wx, (Op.shift BinOp.shl IntKind.i64 1 IntKind.i64 56).run Try.prog wx = .ok (.int .i64 72057594037927936) wx := by intro wx; kernel_rfl
  go_enter Try.func35, Try.ntmps35
  go_wp2_with (go_at_call 38; refine (Pick_any size 7 _ (by decide) (by decide) hs hs2).mono ?_; rintro r w' ⟨rfl, hw⟩; subst hw)
  refine wp_region_still_tail 8 (by kernel_rfl) (by kernel_rfl) ?_
  simp only [List.take_succ_cons, List.take_zero, List.drop_succ_cons, List.drop_zero]
  change wpStill _ _ (World.drew _) _ _ _
  iterate 6 still_step
  still_call (Pick_any n 72057594037927936 _ (by decide) (by decide) hn hn2)
  repeat still_step
  refine wpStill_nil ?_
  change wpList _ _ _ _ _ (World.drew _)
  go_wp2
  exact bodyPost_ret (v := .agg #[.int .i64 0, .int .i64 (pickI n 72057594037927936), .int .i64 7, .string s, .slice a m.length cap]) (by simp [results, Try.results35, go_sem]) rfl ⟨rfl, (((Frm.refl _ _).alloc _).alloc _).drew⟩
set_option maxRecDepth 100000 in
set_option maxHeartbeats 2000000 in
theorem right_any (x : Act0) (a : Option Addr) (cap : Nat) (w : World) (hn : -9223372036854775808 ≤ x.n) (hn2 : x.n ≤ 9223372036854775807) (hs : -9223372036854775808 ≤ x.size) (hs2 : x.size ≤ 9223372036854775807) :
    Calls Try.prog 35 #[actVal x a cap] w fun r w' => r = .returned (actVal (rightA x) a cap) ∧ Frm [] w w' := by
  obtain ⟨kind, n, size, s, m⟩ := x
  simp only at hn hn2 hs hs2
  have p7 := pickI_range size 7 (by decide)
  have p256 := pickI_range size 256 (by decide)
  by_cases k0 : kind = 0
  · subst k0
    have hr : rightA ⟨0, n, size, s, m⟩ = ⟨0, pickI n (2 ^ (8 * (1 + pickI size 7).toNat)), 1 + pickI size 7, s, m⟩ := by simp [rightA]
    rw [hr]
    have h7 : 1 + pickI size 7 = 1 ∨ 1 + pickI size 7 = 2 ∨ 1 + pickI size 7 = 3 ∨ 1 + pickI size 7 = 4 ∨ 1 + pickI size 7 = 5 ∨ 1 + pickI size 7 = 6 ∨ 1 + pickI size 7 = 7 := by omega
    rcases h7 with h | h | h | h | h | h | h <;> rw [h]
    · exact right_num1 n size s m a cap w hn hn2 hs hs2 h
    · exact right_num2 n size s m a cap w hn hn2 hs hs2 h
    · exact right_num3 n size s m a cap w hn hn2 hs hs2 h
    · exact right_num4 n size s m a cap w hn hn2 hs hs2 h
    · exact right_num5 n size s m a cap w hn hn2 hs hs2 h
    · exact right_num6 n size s m a cap w hn hn2 hs hs2 h
    · exact right_num7 n size s m a cap w hn hn2 hs hs2 h
  by_cases k1 : kind = 1
  · subst k1
    have hp := Pick_any size 256 w (by decide) (by decide) hs hs2
    obtain ⟨q, hq⟩ : ∃ q : Nat, pickI size 256 = q := ⟨(pickI size 256).toNat, by omega⟩
    have hq2 : q < 256 := by omega
    have hqs : (pickI size 256).toNat = q := by omega
    by_cases hlong : (q : Int) < s.size
    · have hr : rightA ⟨1, n, size, s, m⟩ = ⟨1, n, q, s.extract 0 q, m⟩ := by simp [rightA, hq, hlong]
      rw [hr]
      unfold actVal
      have hle : (q : Int) ≤ (s.size : Int) := by omega
      clear hr hp p7 p256 hqs
      go_enter Try.func35, Try.ntmps35
      go_wp2_with (go_at_call 38; refine (Pick_any size 256 _ (by decide) (by decide) hs hs2).mono ?_; rw [hq]; rintro r w' ⟨rfl, hw⟩; subst hw)
      exact bodyPost_ret (v := .agg #[.int .i64 1, .int .i64 n, .int .i64 q, .string (s.extract 0 q), .slice a m.length cap]) (by simp [results, Try.results35, go_sem]) rfl ⟨rfl, ((Frm.refl _ _).alloc _).alloc _⟩
    · have hr : rightA ⟨1, n, size, s, m⟩ = ⟨1, n, q, s, m⟩ := by simp [rightA, hq]; intro h; omega
      rw [hr]
      unfold actVal
      clear hr hp p7 p256 hqs
      go_enter Try.func35, Try.ntmps35
      go_wp2_with (go_at_call 38; refine (Pick_any size 256 _ (by decide) (by decide) hs hs2).mono ?_; rw [hq]; rintro r w' ⟨rfl, hw⟩; subst hw)
      exact bodyPost_ret (v := .agg #[.int .i64 1, .int .i64 n, .int .i64 q, .string s, .slice a m.length cap]) (by simp [results, Try.results35, go_sem]) rfl ⟨rfl, ((Frm.refl _ _).alloc _).alloc _⟩
  · have hr : rightA ⟨kind, n, size, s, m⟩ = ⟨2, n, size, s, m⟩ := by simp [rightA, k0, k1]
    rw [hr]
    unfold actVal
    have e0 : (kind == 0) = false := by simpa using k0
    have e1 : (kind == 1) = false := by simpa using k1
    clear hr k0 k1 p7 p256
    go_enter Try.func35, Try.ntmps35
    go_wp2
    exact bodyPost_ret (v := .agg #[.int .i64 2, .int .i64 n, .int .i64 size, .string s, .slice a m.length cap]) (by simp [results, Try.results35, go_sem]) rfl ⟨rfl, ((Frm.refl _ _).alloc _).alloc _⟩
end Go.Proofs.Ytappmjophnhdaaa
