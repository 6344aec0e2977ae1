/-
  Contracts of the document's digest. No conditions but those that each theorem names. Contracts of the document's Check and Same of uberblocks. No conditions but those that each theorem names. Contract of the document's Pack of uberblocks. No conditions but those that each theorem names. Contract of awake. No conditions but those that each theorem names. Contract of UberKnown. No conditions but those that each theorem names. Contract of CopyUbers of a slice of two. No conditions but those that each theorem names.
-/
import Derived.Test.YtjdejhgfkjeeiaaGreatDoorHZ
import Derived.StillTailTactics
import Derived.Shelf.Abstract
import Derived.Deep.RegionHeld3
import Derived.Test.YtjdejhgfkjeeiaaGreatDoorUD
import Derived.Test.YtjdejhgfkjeeiaaGreatDoorVA
import Derived.Test.YtjdejhgfkjeeiaaGreatDoorPI
import Derived.Test.YtjdejhgfkjeeiaaGreatDoorFA
import Derived.Test.YtjdejhgfkjeeiaaGreatDoorUY
import Derived.Test.YtjdejhgfkjeeiaaGreatDoorPX
import Derived.Test.YtjdejhgfkjeeiaaGreatDoorVI
namespace Go.Proofs.YtjdejhgfkjeeiaaGreatDoor.Hs
open Go.RowKit
set_option linter.unusedVariables false
set_option linter.unusedSimpArgs false
set_option maxRecDepth 100000

theorem results_cell_tmp {P : Program} {fn : Func} {p q : Tmp} {t1 : TypeId} (h : fn.results = #[.cell p t1, .tmp q]) (tmps : Array Value) (w : World) (g1 : Nat) (T1 : TypeId) (cs1 : Array Value) (fr1 : Nat × Nat) (d1 : TypeDesc)
    (hp : tmps.getD p undef = .pointer (some ⟨g1, 0, none⟩)) (hg1 : w.heap[g1]? = some (.cells cs1 T1 fr1))
    (hu1 : P.underlying t1 = some d1) (hd1 : (match d1 with | .struct _ | .array _ _ => true | _ => false) = true) (hi1 : (P.info? t1).map (·.size) = some cs1.size) :
    (results fn tmps).run P w = .ok (.tuple #[.agg cs1, tmps.getD q undef]) w := by
  have hp' : tmps[p]?.getD undef = .pointer (some ⟨g1, 0, none⟩) := by simpa using hp
  simp [results, h, hp', asAddr, run_loadVar_row w g1 T1 t1 cs1 fr1 d1 hg1 hu1 hd1 hi1]
theorem i36 : (Tryz.prog.info? 105).map (·.size) = some 8 := by kernel_rfl
def Z8 : Array Value := #[.int .u32 0, .int .u32 0, .int .u32 0, .int .u32 0, .int .u32 0, .int .u32 0, .int .u32 0, .int .u32 0]
theorem W32_sz (s : S8) : (W32 s.l).toArray.size = 8 := by simp [W32_length, S8.l]
theorem RefStart_any (w : World) : Calls Tryz.prog 80 #[] w fun r w' => r = .returned (.agg (W32 s0.l).toArray) ∧ Frm [] w w' := by
  go_enter Tryz.func80, Tryz.ntmps80
  go_wp2
  exact bodyPost_ret (v := .agg (W32 s0.l).toArray) (by simp [results, Tryz.results80, go_sem, W32_lit, s0, wi]) rfl ⟨rfl, (Frm.refl _ _).alloc _⟩
theorem kTab_len : kTab.length = 64 := by kernel_rfl
theorem build61 (W : World) : (Instr.build 142 #[(0, .int .u32 1116352408), (1, .int .u32 1899447441), (2, .int .u32 3049323471), (3, .int .u32 3921009573), (4, .int .u32 961987163), (5, .int .u32 1508970993), (6, .int .u32 2453635748), (7, .int .u32 2870763221), (8, .int .u32 3624381080), (9, .int .u32 310598401), (10, .int .u32 607225278), (11, .int .u32 1426881987), (12, .int .u32 1925078388), (13, .int .u32 2162078206), (14, .int .u32 2614888103), (15, .int .u32 3248222580), (16, .int .u32 3835390401), (17, .int .u32 4022224774), (18, .int .u32 264347078), (19, .int .u32 604807628), (20, .int .u32 770255983), (21, .int .u32 1249150122), (22, .int .u32 1555081692), (23, .int .u32 1996064986), (24, .int .u32 2554220882), (25, .int .u32 2821834349), (26, .int .u32 2952996808), (27, .int .u32 3210313671), (28, .int .u32 3336571891), (29, .int .u32 3584528711), (30, .int .u32 113926993), (31, .int .u32 338241895), (32, .int .u32 666307205), (33, .int .u32 773529912), (34, .int .u32 1294757372), (35, .int .u32 1396182291), (36, .int .u32 1695183700), (37, .int .u32 1986661051), (38, .int .u32 2177026350), (39, .int .u32 2456956037), (40, .int .u32 2730485921), (41, .int .u32 2820302411), (42, .int .u32 3259730800), (43, .int .u32 3345764771), (44, .int .u32 3516065817), (45, .int .u32 3600352804), (46, .int .u32 4094571909), (47, .int .u32 275423344), (48, .int .u32 430227734), (49, .int .u32 506948616), (50, .int .u32 659060556), (51, .int .u32 883997877), (52, .int .u32 958139571), (53, .int .u32 1322822218), (54, .int .u32 1537002063), (55, .int .u32 1747873779), (56, .int .u32 1955562222), (57, .int .u32 2024104815), (58, .int .u32 2227730452), (59, .int .u32 2361852424), (60, .int .u32 2428436474), (61, .int .u32 2756734187), (62, .int .u32 3204031479), (63, .int .u32 3329325298)]).run Tryz.prog W = .ok (.agg (W32 kTab).toArray) W :=
  run_build (P := Tryz.prog) W 142 _ _ (by kernel_rfl)
set_option maxHeartbeats 1000000 in
theorem table_any (w : World) : Calls Tryz.prog 120 #[] w fun r w' => r = .returned (.agg (W32 kTab).toArray) ∧ Frm [] w w' := by
  have hb := build61
  go_enter Tryz.func120, Tryz.ntmps120
  go_upto_region 1 with (fail)
  have h0 : (w.alloc (.cells (W32 (List.replicate 64 0)).toArray 142)).heap[w.heap.size]? = some (.cells (W32 (List.replicate 64 0)).toArray 142 (0, 0)) := heap_alloc_new _ _
  have hF : Frm [] w (w.alloc (.cells (W32 (List.replicate 64 0)).toArray 142)) := (Frm.refl _ _).alloc _
  change Code.wp _ _ _ _ (w.alloc (.cells (W32 (List.replicate 64 0)).toArray 142))
  generalize w.alloc (.cells (W32 (List.replicate 64 0)).toArray 142) = W at *
  have hsz : (W32 kTab).toArray.size = 64 := by rw [List.size_toArray, W32_length, kTab_len]
  have hsz0 : (W32 (List.replicate 64 (0 : UInt32))).toArray.size = 64 := by rw [List.size_toArray, W32_length, List.length_replicate]
  obtain ⟨vk, hK⟩ : ∃ vk, W32 kTab = vk := ⟨_, rfl⟩
  rw [hK] at hsz hb
  have hone : vk.toArray.all (·.oneCell') = true := by rw [← hK]; exact W32_one _
  refine wp_region_lit ?_
  refine wpList_val rfl (v := .agg vk.toArray) (w' := W) ?_ ?_
  · simp only [execOp]; go_simp; rw [← hK]; kernel_rfl
  refine wpList_store_row rfl 142 (.tmp 0) (.tmp 1) rfl w.heap.size vk.toArray rfl rfl 142 _ h0 (by rw [hsz]; exact i61) (by rw [hsz, hsz0]) hone ?_
  have HRES := Lib.hid (setRow_heap W w.heap.size _ vk.toArray 142 (0, 0) h0)
  have HFF := Lib.hid (hF.setRow w.heap.size vk.toArray (.inr (Nat.le_refl _)))
  generalize W.setRow w.heap.size vk.toArray = w9 at *
  clear hb
  go_wp2_with fail
  refine bodyPost_ret (v := .agg vk.toArray) (results_cell_row rfl _ _ _ 142 _ (0, 0) _ rfl HRES.out d61 rfl (by rw [hsz]; exact i61)) rfl ⟨?_, HFF.out⟩
  rw [hK]
end Go.Proofs.YtjdejhgfkjeeiaaGreatDoor.Hs

namespace Go.Proofs.YtjdejhgfkjeeiaaGreatDoor.Hs
open Go.RowKit
set_option linter.unusedVariables false
set_option linter.unusedSimpArgs false
set_option maxRecDepth 100000

theorem or_high (a b i m : Nat) (hb : b < 2 ^ i) : a * 2 ^ i ||| b = a * 2 ^ i + b := by
  rw [Nat.mul_comm, ← Nat.two_pow_add_eq_or_of_lt hb]
theorem beW4 (x0 x1 x2 x3 : UInt8) : beW [x0, x1, x2, x3] = UInt32.ofNat (((x0.toNat * 256 + x1.toNat) * 256 + x2.toNat) * 256 + x3.toNat) := by
  have h0 := x0.toNat_lt
  have h1 := x1.toNat_lt
  have h2 := x2.toNat_lt
  have h3 := x3.toNat_lt
  apply UInt32.toNat_inj.1
  simp only [beW, List.foldl_cons, List.foldl_nil, stepB]
  have e : ∀ (a : Nat) (b : UInt8), a < 16777216 → a * 256 % 4294967296 ||| b.toNat = a * 256 + b.toNat := fun a b ha => by
    rw [Nat.mod_eq_of_lt (by omega)]
    exact or_high a b.toNat 8 0 b.toNat_lt
  rw [show (0 : UInt32).toNat = 0 from rfl, e 0 x0 (by omega)]
  have o : ∀ a, a < 4294967296 → (UInt32.ofNat a).toNat = a := fun a ha => by rw [UInt32.toNat_ofNat', Nat.mod_eq_of_lt ha]
  rw [o (0 * 256 + x0.toNat) (by omega), e _ x1 (by omega), o ((0 * 256 + x0.toNat) * 256 + x1.toNat) (by omega), e _ x2 (by omega), o (((0 * 256 + x0.toNat) * 256 + x1.toNat) * 256 + x2.toNat) (by omega), e _ x3 (by omega)]
  simp
theorem or4_val (x0 x1 x2 x3 : UInt8) : bits BinOp.or IntKind.u32 (bits BinOp.or IntKind.u32 (bits BinOp.or IntKind.u32 ((x0.toNat : Int) * 16777216) ((x1.toNat : Int) * 65536)) ((x2.toNat : Int) * 256)) (x3.toNat : Int) = wi (beW [x0, x1, x2, x3]) := by
  have h0 := x0.toNat_lt
  have h1 := x1.toNat_lt
  have h2 := x2.toNat_lt
  have h3 := x3.toNat_lt
  rw [beW4]
  rw [show (x0.toNat : Int) * 16777216 = ((x0.toNat * 2 ^ 24 : Nat) : Int) by simp, show (x1.toNat : Int) * 65536 = ((x1.toNat * 2 ^ 16 : Nat) : Int) by simp, show (x2.toNat : Int) * 256 = ((x2.toNat * 2 ^ 8 : Nat) : Int) by simp]
  rw [u32_or_nat _ _ (by omega) (by omega), or_high _ _ 24 0 (by omega)]
  rw [u32_or_nat _ _ (by omega) (by omega), show x0.toNat * 2 ^ 24 + x1.toNat * 2 ^ 16 = (x0.toNat * 256 + x1.toNat) * 2 ^ 16 by omega, or_high _ _ 16 0 (by omega)]
  rw [u32_or_nat _ _ (by omega) (by omega), show (x0.toNat * 256 + x1.toNat) * 2 ^ 16 + x2.toNat * 2 ^ 8 = ((x0.toNat * 256 + x1.toNat) * 256 + x2.toNat) * 2 ^ 8 by omega, or_high _ _ 8 0 (by omega)]
  unfold wi
  rw [UInt32.toNat_ofNat', Nat.mod_eq_of_lt (by omega)]
theorem RefRight_j (x : UInt32) (n : Int) (h1 : 1 ≤ n) (h2 : n ≤ 31) (w : World) : Calls Tryz.prog 122 #[.int .u32 (wi x), .int .i64 n] w fun e w' => e = .returned (.int .u32 (wi (ror32 x n.toNat))) ∧ ∃ m, w' = w.drewN m := by
  obtain ⟨k, rfl⟩ := Int.eq_ofNat_of_zero_le (show 0 ≤ n by omega)
  exact RefRight_any x k (by omega) (by omega) w
def zW (k : Nat) (ws : List UInt32) : List UInt32 := ws ++ List.replicate (64 - k) 0
def WdsRel (w : World) (p : List UInt8) (lo hi : Nat) (c : Value) (wr : World) : Prop :=
  ∃ k : Nat, lo ≤ k ∧ k ≤ hi ∧ c = .int .i64 k ∧ IsW wr w.heap.size 142 (List.replicate 64 0) ∧ IsW wr (w.heap.size + 1) 142 (zW k (wordsK p k)) ∧ Frm [] w wr
theorem take4 (l : List UInt8) (i : Nat) (h : i + 4 ≤ l.length) : (l.drop i).take 4 = [l[i], l[i + 1], l[i + 2], l[i + 3]] := by
  rw [List.drop_eq_getElem_cons (show i < l.length by omega), List.drop_eq_getElem_cons (show i + 1 < l.length by omega), List.drop_eq_getElem_cons (show i + 1 + 1 < l.length by omega), List.drop_eq_getElem_cons (show i + 1 + 1 + 1 < l.length by omega)]
  simp only [List.take_succ_cons, List.take_zero]
def S10 (b k i16 i7 : Nat) (a16 a7 : UInt32) (y : World) : Prop :=
  y.cell? ⟨b, i16, none⟩ = some (.int .u32 (wi a16)) ∧ y.cell? ⟨b, i7, none⟩ = some (.int .u32 (wi a7)) ∧ (∃ u, y.cell? ⟨b, k, none⟩ = some u) ∧ y.frozen? ⟨b, k, none⟩ = false
set_option maxHeartbeats 4000000 in
theorem RefWords_any (b off cap : Nat) (p : List UInt8) (hp : p.length = 64) (w : World) (hc : ∀ i (h : i < p.length), w.cell? ⟨b, off + i, none⟩ = some (.int .u8 (p[i].toNat : Int))) :
    Calls Tryz.prog 121 #[.slice (some ⟨b, off, none⟩) 64 cap] w fun r w' => r = .returned (.agg (W32 (wordsK p 64)).toArray) ∧ Frm [] w w' := by
  have HC := Lib.hid hc
  have HP := Lib.hid hp
  have hone : IsW ((w.alloc (.cells (W32 (List.replicate 64 0)).toArray 142)).alloc (.cells (W32 (List.replicate 64 0)).toArray 142)) w.heap.size 142 (List.replicate 64 0) := heap_alloc_lt (heap_alloc_new _ _)
  have htwo : IsW ((w.alloc (.cells (W32 (List.replicate 64 0)).toArray 142)).alloc (.cells (W32 (List.replicate 64 0)).toArray 142)) (w.heap.size + 1) 142 (zW 0 (wordsK p 0)) := heap_alloc_at (by simp)
  have hF : Frm [] w ((w.alloc (.cells (W32 (List.replicate 64 0)).toArray 142)).alloc (.cells (W32 (List.replicate 64 0)).toArray 142)) := ((Frm.refl _ _).alloc _).alloc _
  have H1 := Lib.hid hone
  have H2 := Lib.hid htwo
  have HF := Lib.hid hF
  clear hc hp hone htwo hF
  go_enter Tryz.func121, Tryz.ntmps121
  go_wp2_with fail
  change Code.wp _ _ _ _ ((w.alloc (.cells (W32 (List.replicate 64 0)).toArray 142)).alloc (.cells (W32 (List.replicate 64 0)).toArray 142))
  generalize (w.alloc (.cells (W32 (List.replicate 64 0)).toArray 142)).alloc (.cells (W32 (List.replicate 64 0)).toArray 142) = W at *
  go_loopw [4] (WdsRel w p 0 16) (fun c _ => 16 - (intOf c).toNat)
  case atStart => exact ⟨0, by omega, by omega, rfl, H1.out, H2.out, HF.out⟩
  case round =>
    clear H1 H2 HF
    obtain ⟨k, hk0, hk, rfl, h1, h2, f⟩ := hrel
    have F := Lib.hid f
    have H1 := Lib.hid h1
    have H2 := Lib.hid h2
    by_cases hlt : k < 16
    · have hkl := wordsK_length p k
      have hnx : nextW p (wordsK p k) = beW ((p.drop (4 * k)).take 4) := by unfold nextW; rw [hkl, if_pos hlt]
      have hset := words_set p k (by omega)
      rw [hnx, take4 p (4 * k) (by rw [HP.out]; omega)] at hset
      have c0 := f.cell (HC.out (4 * k) (by rw [HP.out]; omega)) (by simp)
      have c1 := f.cell (HC.out (4 * k + 1) (by rw [HP.out]; omega)) (by simp)
      have c2 := f.cell (HC.out (4 * k + 2) (by rw [HP.out]; omega)) (by simp)
      have c3 := f.cell (HC.out (4 * k + 3) (by rw [HP.out]; omega)) (by simp)
      have hkx : k < (zW k (wordsK p k)).length := by simp [zW, hkl]; omega
      have cx := h2.cell k hkx
      have zx := h2.frozen k
      have hor := or4_val (p[4 * k]'(by rw [HP.out]; omega)) (p[4 * k + 1]'(by rw [HP.out]; omega)) (p[4 * k + 2]'(by rw [HP.out]; omega)) (p[4 * k + 3]'(by rw [HP.out]; omega))
      generalize beW [p[4 * k]'(by rw [HP.out]; omega), p[4 * k + 1]'(by rw [HP.out]; omega), p[4 * k + 2]'(by rw [HP.out]; omega), p[4 * k + 3]'(by rw [HP.out]; omega)] = v at *
      generalize p[4 * k]'(by rw [HP.out]; omega) = x0 at *
      generalize p[4 * k + 1]'(by rw [HP.out]; omega) = x1 at *
      generalize p[4 * k + 2]'(by rw [HP.out]; omega) = x2 at *
      generalize p[4 * k + 3]'(by rw [HP.out]; omega) = x3 at *
      generalize (zW k (wordsK p k))[k]'hkx = y0 at *
      have HS := Lib.hid hset
      have b0 : ((x0.toNat : Nat) : Int) < 256 := by have := x0.toNat_lt; omega
      have b1 : ((x1.toNat : Nat) : Int) < 256 := by have := x1.toNat_lt; omega
      have b2 : ((x2.toNat : Nat) : Int) < 256 := by have := x2.toNat_lt; omega
      have b3 : ((x3.toNat : Nat) : Int) < 256 := by have := x3.toNat_lt; omega
      have hk16 : (k : Int) < 16 := by omega
      have hk64 : (k : Int) < 64 := by omega
      have u0 : IntKind.u32.wrap ((x0.toNat : Nat) : Int) = ((x0.toNat : Nat) : Int) := by show (_ : Int) % 4294967296 = _; omega
      have u1 : IntKind.u32.wrap ((x1.toNat : Nat) : Int) = ((x1.toNat : Nat) : Int) := by show (_ : Int) % 4294967296 = _; omega
      have u2 : IntKind.u32.wrap ((x2.toNat : Nat) : Int) = ((x2.toNat : Nat) : Int) := by show (_ : Int) % 4294967296 = _; omega
      have u3 : IntKind.u32.wrap ((x3.toNat : Nat) : Int) = ((x3.toNat : Nat) : Int) := by show (_ : Int) % 4294967296 = _; omega
      have v0 : IntKind.u32.wrap (((x0.toNat : Nat) : Int) * 16777216) = ((x0.toNat : Nat) : Int) * 16777216 := by show (_ : Int) % 4294967296 = _; omega
      have v1 : IntKind.u32.wrap (((x1.toNat : Nat) : Int) * 65536) = ((x1.toNat : Nat) : Int) * 65536 := by show (_ : Int) % 4294967296 = _; omega
      have v2 : IntKind.u32.wrap (((x2.toNat : Nat) : Int) * 256) = ((x2.toNat : Nat) : Int) * 256 := by show (_ : Int) % 4294967296 = _; omega
      have e0 : IntKind.i64.wrap (4 * (k : Int)) = 4 * (k : Int) := IntWalk.i64_in _ (by omega)
      have e1 : IntKind.i64.wrap (4 * (k : Int) + 1) = 4 * (k : Int) + 1 := IntWalk.i64_in _ (by omega)
      have e2 : IntKind.i64.wrap (4 * (k : Int) + 2) = 4 * (k : Int) + 2 := IntWalk.i64_in _ (by omega)
      have e3 : IntKind.i64.wrap (4 * (k : Int) + 3) = 4 * (k : Int) + 3 := IntWalk.i64_in _ (by omega)
      have n0 : (4 * (k : Int)).toNat = 4 * k := by omega
      have n1 : (4 * (k : Int) + 1).toNat = 4 * k + 1 := by omega
      have n2 : (4 * (k : Int) + 2).toNat = 4 * k + 2 := by omega
      have n3 : (4 * (k : Int) + 3).toNat = 4 * k + 3 := by omega
      have g0 : (0 : Int) ≤ 4 * (k : Int) := by omega
      have g1 : (0 : Int) ≤ 4 * (k : Int) + 1 := by omega
      have g2 : (0 : Int) ≤ 4 * (k : Int) + 2 := by omega
      have g3 : (0 : Int) ≤ 4 * (k : Int) + 3 := by omega
      have j0 : 4 * (k : Int) < 64 := by omega
      have j1 : 4 * (k : Int) + 1 < 64 := by omega
      have j2 : 4 * (k : Int) + 2 < 64 := by omega
      have j3 : 4 * (k : Int) + 3 < 64 := by omega
      clear f h1 h2 hset hnx hkl hkx
      go_wp2_with fail
      refine wp_region_still_tail 35 (by kernel_rfl) (by kernel_rfl) ?_
      change wpStill _ _ (World.drew _) _ _ _
      simp only [List.take_succ_cons, List.take_zero, List.drop_succ_cons, List.drop_zero]
      repeat still_step
      refine wpStill_nil ?_
      change wpList _ _ _ _ _ (World.drew _)
      go_wp2_with fail
      refine ⟨⟨k + 1, by omega, by omega, by go_num, H1.out.other _ _ (by simp <;> omega), ?_, (F.out.setCell _ _ (.inr (by simp <;> omega))).drew⟩, by simp [intOf]; omega⟩
      have h9 := H2.out.store k v
      rw [zW, HS.out] at h9
      exact h9
    · obtain rfl : k = 16 := by omega
      have HF := Lib.hid f
      clear f h1 h2
      go_wp2_with fail
      go_loopw [5] (WdsRel w p 16 64) (fun c _ => 64 - (intOf c).toNat)
      case atStart => exact ⟨16, by omega, by omega, rfl, H1.out, H2.out, HF.out⟩
      case round =>
        clear H1 H2 HF F
        obtain ⟨k, hk0, hk, rfl, h1, h2, f⟩ := hrel
        have HF := Lib.hid f
        have H1 := Lib.hid h1
        have H2 := Lib.hid h2
        by_cases hlt : k < 64
        · have hkl := wordsK_length p k
          have hnx : nextW p (wordsK p k) = at32 (wordsK p k) (k - 16) + (sig0 (at32 (wordsK p k) (k - 15)) + at32 (wordsK p k) (k - 7) + sig1 (at32 (wordsK p k) (k - 2))) := by unfold nextW; rw [hkl, if_neg (by omega)]
          have hset := words_set p k (by omega)
          have cell : ∀ j, j < k → wr.cell? ⟨w.heap.size + 1, j, none⟩ = some (.int .u32 (wi (at32 (wordsK p k) j))) := fun j hj => by
            have hjl : j < (zW k (wordsK p k)).length := by simp [zW, hkl]; omega
            have := h2.cell j hjl
            rw [this, show (zW k (wordsK p k))[j]'hjl = at32 (wordsK p k) j from by rw [at32_lt]; simp [zW, at32, List.getD_eq_getElem?_getD, List.getElem?_append_left (show j < (wordsK p k).length by omega)]]
          have c16 := cell (k - 16) (by omega)
          have c15 := cell (k - 15) (by omega)
          have c7 := cell (k - 7) (by omega)
          have c2 := cell (k - 2) (by omega)
          have hkx : k < (zW k (wordsK p k)).length := by simp [zW, hkl]; omega
          have cx := h2.cell k hkx
          have zx := h2.frozen k
          generalize (zW k (wordsK p k))[k]'hkx = y0 at *
          generalize at32 (wordsK p k) (k - 16) = a16 at *
          generalize at32 (wordsK p k) (k - 15) = a15 at *
          generalize at32 (wordsK p k) (k - 7) = a7 at *
          generalize at32 (wordsK p k) (k - 2) = a2 at *
          generalize nextW p (wordsK p k) = v at *
          have HS := Lib.hid hset
          have HNX := Lib.hid hnx
          have e16 : IntKind.i64.wrap ((k : Int) - 16) = (k : Int) - 16 := IntWalk.i64_in _ (by omega)
          have e15 : IntKind.i64.wrap ((k : Int) - 15) = (k : Int) - 15 := IntWalk.i64_in _ (by omega)
          have e7 : IntKind.i64.wrap ((k : Int) - 7) = (k : Int) - 7 := IntWalk.i64_in _ (by omega)
          have e2 : IntKind.i64.wrap ((k : Int) - 2) = (k : Int) - 2 := IntWalk.i64_in _ (by omega)
          have n16 : ((k : Int) - 16).toNat = k - 16 := by omega
          have n15 : ((k : Int) - 15).toNat = k - 15 := by omega
          have n7 : ((k : Int) - 7).toNat = k - 7 := by omega
          have n2 : ((k : Int) - 2).toNat = k - 2 := by omega
          have g16 : (0 : Int) ≤ (k : Int) - 16 := by omega
          have g15 : (0 : Int) ≤ (k : Int) - 15 := by omega
          have g7 : (0 : Int) ≤ (k : Int) - 7 := by omega
          have g2 : (0 : Int) ≤ (k : Int) - 2 := by omega
          have q16 : (16 : Int) ≤ (k : Int) := by omega
          have q15 : (15 : Int) ≤ (k : Int) := by omega
          have q7 : (7 : Int) ≤ (k : Int) := by omega
          have q2 : (2 : Int) ≤ (k : Int) := by omega
          have j16 : (k : Int) - 16 < 64 := by omega
          have j15 : (k : Int) - 15 < 64 := by omega
          have j7 : (k : Int) - 7 < 64 := by omega
          have j2 : (k : Int) - 2 < 64 := by omega
          have hk64 : (k : Int) < 64 := by omega
          clear f h1 h2 hset hnx hkl hkx cell
          go_wp2_with fail
          go_quiet (fail)
          go_wp2_with fail
          have hx1 := wi_xor
          have hx2 := wi_add
          have hx3 := wi_add'
          have hx4 := wi_shr3
          have hx5 := wi_shr10
          refine wp_region_held_drew (S := S10 (w.heap.size + 1) k (k - 16) (k - 7) a16 a7) (by kernel_rfl) ⟨c16, c7, ⟨_, cx⟩, zx⟩ (fun hHeld => ?_)
          refine wpAnyH_take (i := 0) (oi := ⟨some 59, Op.move (Operand.tmp 5), 3, "ref.go:53", #[], none⟩) (v := ?_) rfl (by kernel_rfl) (by kernel_rfl) (by kernel_rfl) (fun _ _ _ h => h) (Or.inl ⟨by rfl, ?_⟩) hHeld ?_
          rotate_left
          focus (intro w hSw; clear hSw; go_simp; try with_reducible rfl)
          try simp only [Act.put, List.setIfInBounds_toArray, List.set_cons_zero, List.set_cons_succ]
          refine wpAnyH_take (i := 1) (oi := ⟨some 60, Op.move (Operand.tmp 5), 3, "ref.go:53", #[], none⟩) (v := ?_) rfl (by kernel_rfl) (by kernel_rfl) (by kernel_rfl) (fun _ _ _ h => h) (Or.inl ⟨by rfl, ?_⟩) hHeld ?_
          rotate_left
          focus (intro w hSw; clear hSw; go_simp; try with_reducible rfl)
          try simp only [Act.put, List.setIfInBounds_toArray, List.set_cons_zero, List.set_cons_succ]
          refine wpAnyH_take (i := 2) (oi := ⟨some 61, Op.binOp BinOp.sub 3 (Operand.tmp 60) (Operand.const (Value.int IntKind.i64 16)) 3, 3, "ref.go:53", #[⟨1, .data⟩], none⟩) (v := ?_) rfl (by kernel_rfl) (by kernel_rfl) (by kernel_rfl) (fun _ _ _ h => h) (Or.inl ⟨by rfl, ?_⟩) hHeld ?_
          rotate_left
          focus (intro w hSw; clear hSw; go_simp; try with_reducible rfl)
          try simp only [Act.put, List.setIfInBounds_toArray, List.set_cons_zero, List.set_cons_succ]
          refine wpAnyH_take (i := 3) (oi := ⟨some 62, Op.indexAddr 142 (Operand.tmp 3) (Operand.tmp 61), 0, "ref.go:53", #[⟨2, .data⟩], none⟩) (v := ?_) rfl (by kernel_rfl) (by kernel_rfl) (by kernel_rfl) (fun _ _ _ h => h) (Or.inl ⟨by rfl, ?_⟩) hHeld ?_
          rotate_left
          focus (intro w hSw; clear hSw; go_simp; try with_reducible rfl)
          try simp only [Act.put, List.setIfInBounds_toArray, List.set_cons_zero, List.set_cons_succ]
          refine wpAnyH_take (i := 4) (oi := ⟨some 63, Op.load 104 (Operand.tmp 62), 104, "ref.go:53", #[⟨3, .data⟩], none⟩) (v := ?_) rfl (by kernel_rfl) (by kernel_rfl) (by kernel_rfl) (fun _ _ _ h => h) (Or.inl ⟨by rfl, ?_⟩) hHeld ?_
          rotate_left
          focus (intro w hSw; obtain ⟨k0, k1, ⟨u, k2⟩, k3⟩ := hSw; go_simp; try with_reducible rfl)
          try simp only [Act.put, List.setIfInBounds_toArray, List.set_cons_zero, List.set_cons_succ]
          refine wpAnyH_take (i := 5) (oi := ⟨some 64, Op.move (Operand.tmp 6), 104, "ref.go:53", #[], none⟩) (v := ?_) rfl (by kernel_rfl) (by kernel_rfl) (by kernel_rfl) (fun _ _ _ h => h) (Or.inl ⟨by rfl, ?_⟩) hHeld ?_
          rotate_left
          focus (intro w hSw; clear hSw; go_simp; try with_reducible rfl)
          try simp only [Act.put, List.setIfInBounds_toArray, List.set_cons_zero, List.set_cons_succ]
          refine wpAnyH_take (i := 7) (oi := ⟨some 66, Op.move (Operand.tmp 6), 104, "ref.go:53", #[], none⟩) (v := ?_) rfl (by kernel_rfl) (by kernel_rfl) (by kernel_rfl) (fun _ _ _ h => h) (Or.inl ⟨by rfl, ?_⟩) hHeld ?_
          rotate_left
          focus (intro w hSw; clear hSw; go_simp; try with_reducible rfl)
          try simp only [Act.put, List.setIfInBounds_toArray, List.set_cons_zero, List.set_cons_succ]
          refine wpAnyH_take (i := 10) (oi := ⟨some 69, Op.move (Operand.tmp 6), 104, "ref.go:53", #[], none⟩) (v := ?_) rfl (by kernel_rfl) (by kernel_rfl) (by kernel_rfl) (fun _ _ _ h => h) (Or.inl ⟨by rfl, ?_⟩) hHeld ?_
          rotate_left
          focus (intro w hSw; clear hSw; go_simp; try with_reducible rfl)
          try simp only [Act.put, List.setIfInBounds_toArray, List.set_cons_zero, List.set_cons_succ]
          refine wpAnyH_take (i := 11) (oi := ⟨some 70, Op.binOp BinOp.shr 104 (Operand.tmp 69) (Operand.const (Value.int IntKind.u64 3)) 141, 104, "ref.go:53", #[⟨10, .data⟩], none⟩) (v := ?_) rfl (by kernel_rfl) (by kernel_rfl) (by kernel_rfl) (fun _ _ _ h => h) (Or.inl ⟨by rfl, ?_⟩) hHeld ?_
          rotate_left
          focus (intro w hSw; clear hSw; go_simp; try with_reducible rfl)
          try simp only [Act.put, List.setIfInBounds_toArray, List.set_cons_zero, List.set_cons_succ]
          refine wpAnyH_take (i := 14) (oi := ⟨some 73, Op.move (Operand.tmp 5), 3, "ref.go:53", #[], none⟩) (v := ?_) rfl (by kernel_rfl) (by kernel_rfl) (by kernel_rfl) (fun _ _ _ h => h) (Or.inl ⟨by rfl, ?_⟩) hHeld ?_
          rotate_left
          focus (intro w hSw; clear hSw; go_simp; try with_reducible rfl)
          try simp only [Act.put, List.setIfInBounds_toArray, List.set_cons_zero, List.set_cons_succ]
          refine wpAnyH_take (i := 15) (oi := ⟨some 74, Op.binOp BinOp.sub 3 (Operand.tmp 73) (Operand.const (Value.int IntKind.i64 7)) 3, 3, "ref.go:53", #[⟨14, .data⟩], none⟩) (v := ?_) rfl (by kernel_rfl) (by kernel_rfl) (by kernel_rfl) (fun _ _ _ h => h) (Or.inl ⟨by rfl, ?_⟩) hHeld ?_
          rotate_left
          focus (intro w hSw; clear hSw; go_simp; try with_reducible rfl)
          try simp only [Act.put, List.setIfInBounds_toArray, List.set_cons_zero, List.set_cons_succ]
          refine wpAnyH_take (i := 16) (oi := ⟨some 75, Op.indexAddr 142 (Operand.tmp 3) (Operand.tmp 74), 0, "ref.go:53", #[⟨15, .data⟩], none⟩) (v := ?_) rfl (by kernel_rfl) (by kernel_rfl) (by kernel_rfl) (fun _ _ _ h => h) (Or.inl ⟨by rfl, ?_⟩) hHeld ?_
          rotate_left
          focus (intro w hSw; clear hSw; go_simp; try with_reducible rfl)
          try simp only [Act.put, List.setIfInBounds_toArray, List.set_cons_zero, List.set_cons_succ]
          refine wpAnyH_take (i := 17) (oi := ⟨some 76, Op.load 104 (Operand.tmp 75), 104, "ref.go:53", #[⟨16, .data⟩], none⟩) (v := ?_) rfl (by kernel_rfl) (by kernel_rfl) (by kernel_rfl) (fun _ _ _ h => h) (Or.inl ⟨by rfl, ?_⟩) hHeld ?_
          rotate_left
          focus (intro w hSw; obtain ⟨k0, k1, ⟨u, k2⟩, k3⟩ := hSw; go_simp; try with_reducible rfl)
          try simp only [Act.put, List.setIfInBounds_toArray, List.set_cons_zero, List.set_cons_succ]
          refine wpAnyH_take (i := 19) (oi := ⟨some 78, Op.move (Operand.tmp 7), 104, "ref.go:53", #[], none⟩) (v := ?_) rfl (by kernel_rfl) (by kernel_rfl) (by kernel_rfl) (fun _ _ _ h => h) (Or.inl ⟨by rfl, ?_⟩) hHeld ?_
          rotate_left
          focus (intro w hSw; clear hSw; go_simp; try with_reducible rfl)
          try simp only [Act.put, List.setIfInBounds_toArray, List.set_cons_zero, List.set_cons_succ]
          refine wpAnyH_take (i := 21) (oi := ⟨some 80, Op.move (Operand.tmp 7), 104, "ref.go:53", #[], none⟩) (v := ?_) rfl (by kernel_rfl) (by kernel_rfl) (by kernel_rfl) (fun _ _ _ h => h) (Or.inl ⟨by rfl, ?_⟩) hHeld ?_
          rotate_left
          focus (intro w hSw; clear hSw; go_simp; try with_reducible rfl)
          try simp only [Act.put, List.setIfInBounds_toArray, List.set_cons_zero, List.set_cons_succ]
          refine wpAnyH_take (i := 24) (oi := ⟨some 83, Op.move (Operand.tmp 7), 104, "ref.go:53", #[], none⟩) (v := ?_) rfl (by kernel_rfl) (by kernel_rfl) (by kernel_rfl) (fun _ _ _ h => h) (Or.inl ⟨by rfl, ?_⟩) hHeld ?_
          rotate_left
          focus (intro w hSw; clear hSw; go_simp; try with_reducible rfl)
          try simp only [Act.put, List.setIfInBounds_toArray, List.set_cons_zero, List.set_cons_succ]
          refine wpAnyH_take (i := 25) (oi := ⟨some 84, Op.binOp BinOp.shr 104 (Operand.tmp 83) (Operand.const (Value.int IntKind.u64 10)) 141, 104, "ref.go:53", #[⟨24, .data⟩], none⟩) (v := ?_) rfl (by kernel_rfl) (by kernel_rfl) (by kernel_rfl) (fun _ _ _ h => h) (Or.inl ⟨by rfl, ?_⟩) hHeld ?_
          rotate_left
          focus (intro w hSw; clear hSw; go_simp; try with_reducible rfl)
          try simp only [Act.put, List.setIfInBounds_toArray, List.set_cons_zero, List.set_cons_succ]
          refine wpAnyH_ready (rs := [6]) (by kernel_rfl) (by simp) ?_
          refine AllReadyH.cons (o := ⟨some 65, Op.call { callee := Callee.value (Operand.func 122), args := #[Operand.tmp 64, Operand.const (Value.int IntKind.i64 7)], argTypes := #[104, 3] }, 104, "ref.go:53", #[⟨5, .data⟩], none⟩) rfl (fun K hK => ?_) AllReadyH.nil
          go_simp
          refine (RefRight_j _ _ (by decide) (by decide) _).mono ?_
          rintro r wx ⟨rfl, mx, rfl⟩
          refine hK.out _ _ ?_ (fun hNext => ?_)
          · exact hHeld
          clear hK K hHeld
          have hHeld := hNext
          clear hNext
          try simp only [Act.put, List.setIfInBounds_toArray, List.set_cons_zero, List.set_cons_succ]
          refine wpAnyH_ready (rs := [8]) (by kernel_rfl) (by simp) ?_
          refine AllReadyH.cons (o := ⟨some 67, Op.call { callee := Callee.value (Operand.func 122), args := #[Operand.tmp 66, Operand.const (Value.int IntKind.i64 18)], argTypes := #[104, 3] }, 104, "ref.go:53", #[⟨7, .data⟩, ⟨6, .chain⟩], none⟩) rfl (fun K hK => ?_) AllReadyH.nil
          go_simp
          refine (RefRight_j _ _ (by decide) (by decide) _).mono ?_
          rintro r wx ⟨rfl, mx, rfl⟩
          refine hK.out _ _ ?_ (fun hNext => ?_)
          · exact hHeld
          clear hK K hHeld
          have hHeld := hNext
          clear hNext
          try simp only [Act.put, List.setIfInBounds_toArray, List.set_cons_zero, List.set_cons_succ]
          refine wpAnyH_take (i := 9) (oi := ⟨some 68, Op.binOp BinOp.xor 104 (Operand.tmp 65) (Operand.tmp 67) 104, 104, "ref.go:53", #[⟨6, .data⟩, ⟨8, .data⟩], none⟩) (v := ?_) rfl (by kernel_rfl) (by kernel_rfl) (by kernel_rfl) (fun _ _ _ h => h) (Or.inl ⟨by rfl, ?_⟩) hHeld ?_
          rotate_left
          focus (intro w hSw; clear hSw; go_simp; try with_reducible rfl)
          try simp only [Act.put, List.setIfInBounds_toArray, List.set_cons_zero, List.set_cons_succ]
          refine wpAnyH_take (i := 12) (oi := ⟨some 71, Op.binOp BinOp.xor 104 (Operand.tmp 68) (Operand.tmp 70) 104, 104, "ref.go:53", #[⟨9, .data⟩, ⟨11, .data⟩], none⟩) (v := ?_) rfl (by kernel_rfl) (by kernel_rfl) (by kernel_rfl) (fun _ _ _ h => h) (Or.inl ⟨by rfl, ?_⟩) hHeld ?_
          rotate_left
          focus (intro w hSw; clear hSw; go_simp; try with_reducible rfl)
          try simp only [Act.put, List.setIfInBounds_toArray, List.set_cons_zero, List.set_cons_succ]
          refine wpAnyH_take (i := 13) (oi := ⟨some 72, Op.binOp BinOp.add 104 (Operand.tmp 63) (Operand.tmp 71) 104, 104, "ref.go:53", #[⟨4, .data⟩, ⟨12, .data⟩], none⟩) (v := ?_) rfl (by kernel_rfl) (by kernel_rfl) (by kernel_rfl) (fun _ _ _ h => h) (Or.inl ⟨by rfl, ?_⟩) hHeld ?_
          rotate_left
          focus (intro w hSw; clear hSw; go_simp; try with_reducible rfl)
          try simp only [Act.put, List.setIfInBounds_toArray, List.set_cons_zero, List.set_cons_succ]
          refine wpAnyH_take (i := 18) (oi := ⟨some 77, Op.binOp BinOp.add 104 (Operand.tmp 72) (Operand.tmp 76) 104, 104, "ref.go:53", #[⟨13, .data⟩, ⟨17, .data⟩], none⟩) (v := ?_) rfl (by kernel_rfl) (by kernel_rfl) (by kernel_rfl) (fun _ _ _ h => h) (Or.inl ⟨by rfl, ?_⟩) hHeld ?_
          rotate_left
          focus (intro w hSw; clear hSw; go_simp; try with_reducible rfl)
          try simp only [Act.put, List.setIfInBounds_toArray, List.set_cons_zero, List.set_cons_succ]
          refine wpAnyH_ready (rs := [20]) (by kernel_rfl) (by simp) ?_
          refine AllReadyH.cons (o := ⟨some 79, Op.call { callee := Callee.value (Operand.func 122), args := #[Operand.tmp 78, Operand.const (Value.int IntKind.i64 17)], argTypes := #[104, 3] }, 104, "ref.go:53", #[⟨19, .data⟩, ⟨8, .chain⟩], none⟩) rfl (fun K hK => ?_) AllReadyH.nil
          go_simp
          refine (RefRight_j _ _ (by decide) (by decide) _).mono ?_
          rintro r wx ⟨rfl, mx, rfl⟩
          refine hK.out _ _ ?_ (fun hNext => ?_)
          · exact hHeld
          clear hK K hHeld
          have hHeld := hNext
          clear hNext
          try simp only [Act.put, List.setIfInBounds_toArray, List.set_cons_zero, List.set_cons_succ]
          refine wpAnyH_ready (rs := [22]) (by kernel_rfl) (by simp) ?_
          refine AllReadyH.cons (o := ⟨some 81, Op.call { callee := Callee.value (Operand.func 122), args := #[Operand.tmp 80, Operand.const (Value.int IntKind.i64 19)], argTypes := #[104, 3] }, 104, "ref.go:53", #[⟨21, .data⟩, ⟨20, .chain⟩], none⟩) rfl (fun K hK => ?_) AllReadyH.nil
          go_simp
          refine (RefRight_j _ _ (by decide) (by decide) _).mono ?_
          rintro r wx ⟨rfl, mx, rfl⟩
          refine hK.out _ _ ?_ (fun hNext => ?_)
          · exact hHeld
          clear hK K hHeld
          have hHeld := hNext
          clear hNext
          try simp only [Act.put, List.setIfInBounds_toArray, List.set_cons_zero, List.set_cons_succ]
          refine wpAnyH_take (i := 23) (oi := ⟨some 82, Op.binOp BinOp.xor 104 (Operand.tmp 79) (Operand.tmp 81) 104, 104, "ref.go:53", #[⟨20, .data⟩, ⟨22, .data⟩], none⟩) (v := ?_) rfl (by kernel_rfl) (by kernel_rfl) (by kernel_rfl) (fun _ _ _ h => h) (Or.inl ⟨by rfl, ?_⟩) hHeld ?_
          rotate_left
          focus (intro w hSw; clear hSw; go_simp; try with_reducible rfl)
          try simp only [Act.put, List.setIfInBounds_toArray, List.set_cons_zero, List.set_cons_succ]
          refine wpAnyH_take (i := 26) (oi := ⟨some 85, Op.binOp BinOp.xor 104 (Operand.tmp 82) (Operand.tmp 84) 104, 104, "ref.go:53", #[⟨23, .data⟩, ⟨25, .data⟩], none⟩) (v := ?_) rfl (by kernel_rfl) (by kernel_rfl) (by kernel_rfl) (fun _ _ _ h => h) (Or.inl ⟨by rfl, ?_⟩) hHeld ?_
          rotate_left
          focus (intro w hSw; clear hSw; go_simp; try with_reducible rfl)
          try simp only [Act.put, List.setIfInBounds_toArray, List.set_cons_zero, List.set_cons_succ]
          refine wpAnyH_take (i := 27) (oi := ⟨some 86, Op.binOp BinOp.add 104 (Operand.tmp 77) (Operand.tmp 85) 104, 104, "ref.go:53", #[⟨18, .data⟩, ⟨26, .data⟩], none⟩) (v := ?_) rfl (by kernel_rfl) (by kernel_rfl) (by kernel_rfl) (fun _ _ _ h => h) (Or.inl ⟨by rfl, ?_⟩) hHeld ?_
          rotate_left
          focus (intro w hSw; clear hSw; go_simp; try with_reducible rfl)
          try simp only [Act.put, List.setIfInBounds_toArray, List.set_cons_zero, List.set_cons_succ]
          refine wpAnyH_take (i := 28) (oi := ⟨some 87, Op.indexAddr 142 (Operand.tmp 3) (Operand.tmp 59), 0, "ref.go:53", #[⟨0, .data⟩, ⟨0, .phase⟩, ⟨1, .phase⟩, ⟨2, .phase⟩, ⟨3, .phase⟩, ⟨4, .phase⟩, ⟨5, .phase⟩, ⟨6, .phase⟩, ⟨7, .phase⟩, ⟨8, .phase⟩, ⟨9, .phase⟩, ⟨10, .phase⟩, ⟨11, .phase⟩, ⟨12, .phase⟩, ⟨13, .phase⟩, ⟨14, .phase⟩, ⟨15, .phase⟩, ⟨16, .phase⟩, ⟨17, .phase⟩, ⟨18, .phase⟩, ⟨19, .phase⟩, ⟨20, .phase⟩, ⟨21, .phase⟩, ⟨22, .phase⟩, ⟨23, .phase⟩, ⟨24, .phase⟩, ⟨25, .phase⟩, ⟨26, .phase⟩, ⟨27, .phase⟩], none⟩) (v := ?_) rfl (by kernel_rfl) (by kernel_rfl) (by kernel_rfl) (fun _ _ _ h => h) (Or.inl ⟨by rfl, ?_⟩) hHeld ?_
          rotate_left
          focus (intro w hSw; clear hSw; go_simp; try with_reducible rfl)
          try simp only [Act.put, List.setIfInBounds_toArray, List.set_cons_zero, List.set_cons_succ]
          refine wpAnyH_ready (rs := [29]) (by kernel_rfl) (by simp) ?_
          refine AllReadyH.cons (o := ⟨none, Op.store 104 (Operand.tmp 87) (Operand.tmp 86), 0, "ref.go:53", #[⟨28, .data⟩, ⟨27, .data⟩, ⟨22, .chain⟩, ⟨0, .phase⟩, ⟨1, .phase⟩, ⟨2, .phase⟩, ⟨3, .phase⟩, ⟨4, .phase⟩, ⟨5, .phase⟩, ⟨6, .phase⟩, ⟨7, .phase⟩, ⟨8, .phase⟩, ⟨9, .phase⟩, ⟨10, .phase⟩, ⟨11, .phase⟩, ⟨12, .phase⟩, ⟨13, .phase⟩, ⟨14, .phase⟩, ⟨15, .phase⟩, ⟨16, .phase⟩, ⟨17, .phase⟩, ⟨18, .phase⟩, ⟨19, .phase⟩, ⟨20, .phase⟩, ⟨21, .phase⟩, ⟨22, .phase⟩, ⟨23, .phase⟩, ⟨24, .phase⟩, ⟨25, .phase⟩, ⟨26, .phase⟩, ⟨27, .phase⟩], none⟩) rfl (fun K hK => ?_) AllReadyH.nil
          obtain ⟨k0, k1, ⟨u, k2⟩, k3⟩ := hHeld
          go_simp
          refine hK.out _ _ ?_ (fun hNext => ?_)
          · exact ⟨(World.cell?_setCell_other _ _ _ _ (by simp <;> omega)).trans k0, (World.cell?_setCell_other _ _ _ _ (by simp <;> omega)).trans k1, ⟨_, World.cell?_setCell_same _ _ _ k2⟩, (by simpa using k3)⟩
          refine wpAnyH_done (by kernel_rfl) ?_ _

          have hv : a16 + (ror32 a15 7 ^^^ ror32 a15 18 ^^^ shr32 a15 3) + a7 + (ror32 a2 17 ^^^ ror32 a2 19 ^^^ shr32 a2 10) = v := by
            rw [HNX.out]; simp only [sig0, sig1, UInt32.add_assoc]
          have HV := Lib.hid hv
          clear hv
          go_wp2_with fail
          have hnew : ∀ n, WdsRel w p 16 64 (.int .i64 ((k : Int) + 1)) ((wr.drewN n).setCell ⟨w.heap.size + 1, k, none⟩ (.int .u32 (wi (a16 + (ror32 a15 7 ^^^ ror32 a15 18 ^^^ shr32 a15 3) + a7 + (ror32 a2 17 ^^^ ror32 a2 19 ^^^ shr32 a2 10))))) := fun n => by
            rw [HV.out]
            have h9 := (show IsW (wr.drewN n) (w.heap.size + 1) 142 (zW k (wordsK p k)) from H2.out).store k v
            rw [zW, HS.out] at h9
            exact ⟨k + 1, by omega, by omega, by go_num, (show IsW (wr.drewN n) w.heap.size 142 _ from H1.out).other _ _ (by simp <;> omega), h9, (HF.out.drewN n).setCell _ _ (.inr (by simp <;> omega))⟩
          refine ⟨?_, by simp [intOf]; omega⟩
          repeat apply Exists.intro
          exact ⟨hnew _, rfl⟩
        · obtain rfl : k = 64 := by omega
          have hX : wr.heap[w.heap.size + 1]? = some (.cells (W32 (wordsK p 64)).toArray 142 (0, 0)) := by
            have h9 := h2
            rw [zW, show wordsK p 64 ++ List.replicate (64 - 64) 0 = wordsK p 64 from by simp] at h9
            exact h9
          have hsz : (W32 (wordsK p 64)).toArray.size = 64 := by simp [W32_length, wordsK_length]
          have HX := Lib.hid hX
          have HSZ := Lib.hid hsz
          have hRz : wr.heap[w.heap.size]? = some (.cells (W32 (List.replicate 64 0)).toArray 142 (0, 0)) := h1
          clear hX hsz f h1 h2
          go_upto_region 11 with (fail)
          refine wp_region_lit ?_
          refine wpList_load_row rfl 142 (.tmp 3) rfl (w.heap.size + 1) rfl 142 (W32 (wordsK p 64)).toArray (0, 0) _ HX.out d61 rfl (by rw [HSZ.out]; exact i61) ?_
          refine wpList_store_row rfl 142 (.tmp 2) (.tmp 88) rfl w.heap.size (W32 (wordsK p 64)).toArray rfl rfl 142 _ hRz (by rw [HSZ.out]; exact i61) (by rw [HSZ.out]; rfl) (W32_one _) ?_
          have hres := setRow_heap wr w.heap.size _ (W32 (wordsK p 64)).toArray 142 (0, 0) hRz
          have hfr : Frm [] w (wr.setRow w.heap.size (W32 (wordsK p 64)).toArray) := HF.out.setRow _ _ (.inr (by omega))
          generalize wr.setRow w.heap.size (W32 (wordsK p 64)).toArray = w9 at *
          go_wp2_with fail
          refine bodyPost_ret (v := .agg (W32 (wordsK p 64)).toArray) (results_cell_row rfl _ _ _ 142 _ (0, 0) _ rfl hres d61 rfl (by rw [HSZ.out]; exact i61)) rfl ⟨rfl, hfr⟩
end Go.Proofs.YtjdejhgfkjeeiaaGreatDoor.Hs

namespace Go.Proofs.YtjdejhgfkjeeiaaGreatDoor.Hs
open Go.RowKit
set_option linter.unusedVariables false
set_option linter.unusedSimpArgs false
set_option maxRecDepth 100000

theorem quiet_add {P : Program} {f : FuncId} {args : Array Value} {w : World} {a n : Nat} {v : Value}
    (h : Calls P f args (w.drewN (a + n)) fun e w' => e = .returned v ∧ ∃ m, w' = (w.drewN (a + n)).drewN m) :
    Calls P f args (w.drewN (a + n)) fun e w'' => e = .returned v ∧ ∃ m, w'' = w.drewN (a + m) :=
  h.mono fun _ _ ⟨he, m, hm⟩ => ⟨he, n + m, by rw [hm, World.drewN_drewN, Nat.add_assoc]⟩
def RTurnRel (w : World) (s : S8) (ws : List UInt32) (b6 b7 b8 : Nat) (c : Value) (wr : World) : Prop :=
  ∃ k : Nat, k ≤ 64 ∧ c = .int .i64 k ∧ IsW wr b6 142 kTab ∧ IsW wr b7 142 ws ∧ (∃ x : S8, x = s.run kTab ws k ∧ IsW wr b8 105 x.l) ∧ IsW wr w.heap.size 105 s.l ∧ IsW wr (w.heap.size + 1) 105 [0, 0, 0, 0, 0, 0, 0, 0] ∧ Frm [] w wr
def RAddRel (w : World) (b8 : Nat) (xs ss : List UInt32) (c : Value) (wr : World) : Prop :=
  ∃ k : Nat, k ≤ 8 ∧ c = .int .i64 k ∧ IsW wr b8 105 (addK xs ss k) ∧ IsW wr w.heap.size 105 ss ∧ IsW wr (w.heap.size + 1) 105 [0, 0, 0, 0, 0, 0, 0, 0] ∧ Frm [] w wr
theorem S8.T' (s : S8) (k w : UInt32) : s.h + (ror32 s.e 6 ^^^ ror32 s.e 11 ^^^ ror32 s.e 25) + (s.e &&& s.f ^^^ ~~~s.e &&& s.g) + k + w = s.T k w := rfl
set_option maxHeartbeats 8000000 in
theorem RefTurn_any (s : S8) (v : Value) (l sp : List UInt8) (w : World) (hS : SlB w v l sp) (hl : l.length = 64) :
    Calls Tryz.prog 82 #[.agg (W32 s.l).toArray, v] w fun r w' => r = .returned (.tuple #[.agg (W32 (turn s l).l).toArray, .int .i64 0]) ∧ Frm [] w w' := by
  obtain ⟨b, off, cap, rfl, hc⟩ : ∃ b off cap, v = .slice (some ⟨b, off, none⟩) 64 cap ∧ ∀ i (h : i < l.length), w.cell? ⟨b, off + i, none⟩ = some (.int .u8 (l[i].toNat : Int)) := by
    obtain ⟨h1, h2 | ⟨a, h2, h3, h4⟩ | ⟨b, off, cap, h2, h3, h4, h5, h6⟩⟩ := id hS
    · omega
    · omega
    · subst h2
      exact ⟨b, off, cap, by rw [hl], fun i hi => by have := SlB.cellB hS i hi; exact this⟩
  have hw := fun W (f : Frm [] w W) => RefWords_any b off cap l hl W (fun i h => f.cell (hc i h) (by simp))
  have hwl := wordsK_length l 64
  have htu : turn s l = (s.run kTab (wordsK l 64) 64).add s := rfl
  rw [htu]
  generalize wordsK l 64 = ws at *
  have HW := Lib.hid hw
  have HWL := Lib.hid hwl
  clear hS hl hc hw hwl htu
  have h0 : IsW ((w.alloc (.cells (W32 s.l).toArray 105)).alloc (.cells Z8 105)) w.heap.size 105 s.l := heap_alloc_lt (heap_alloc_new _ _)
  have h1 : IsW ((w.alloc (.cells (W32 s.l).toArray 105)).alloc (.cells Z8 105)) (w.heap.size + 1) 105 [0, 0, 0, 0, 0, 0, 0, 0] := heap_alloc_at (by simp)
  have hF : Frm [] w ((w.alloc (.cells (W32 s.l).toArray 105)).alloc (.cells Z8 105)) := ((Frm.refl _ _).alloc _).alloc _
  have H0 := Lib.hid h0
  have H1 := Lib.hid h1
  have HF := Lib.hid hF
  clear h0 h1 hF
  go_enter Tryz.func82, Tryz.ntmps82
  go_upto_region 3 with (fail)
  change Code.wp _ _ _ _ ((w.alloc (.cells (W32 s.l).toArray 105)).alloc (.cells Z8 105))
  generalize (w.alloc (.cells (W32 s.l).toArray 105)).alloc (.cells Z8 105) = W at *
  refine wp_region_lit ?_
  refine wpList_step (fun K hK => ?_)
  go_simp
  refine (table_any _).mono ?_
  rintro r w1 ⟨rfl, f1⟩
  have F1 := Lib.hid (HF.out.trans f1 (by simp))
  have A0 := Lib.hid (f1.heap H0.out (by simp))
  have A1 := Lib.hid (f1.heap H1.out (by simp))
  clear f1
  refine hK _ _ ?_
  clear hK K
  refine wpList_step (fun K hK => ?_)
  go_simp
  refine hK _ _ ?_
  clear hK K
  refine wpList_step (fun K hK => ?_)
  go_simp
  refine (HW.out _ F1.out).mono ?_
  rintro r w2 ⟨rfl, f2⟩
  have F2 := Lib.hid (F1.out.trans f2 (by simp))
  have B0 := Lib.hid (f2.heap A0.out (by simp))
  have B1 := Lib.hid (f2.heap A1.out (by simp))
  clear f2
  refine hK _ _ ?_
  clear hK K
  refine wpList_step (fun K hK => ?_)
  go_simp
  refine hK _ _ ?_
  clear hK K
  refine wpList_step (fun K hK => ?_)
  go_simp
  refine hK _ _ ?_
  clear hK K
  have hz64 : (W32 (List.replicate 64 (0 : UInt32))).toArray.size = 64 := by rw [List.size_toArray, W32_length, List.length_replicate]
  have hzk : (W32 kTab).toArray.size = 64 := by rw [List.size_toArray, W32_length, kTab_len]
  have hzw : (W32 ws).toArray.size = 64 := by rw [List.size_toArray, W32_length, HWL.out]
  have g0 : ((w2.alloc (.cells (W32 (List.replicate 64 0)).toArray 142)).alloc (.cells (W32 (List.replicate 64 0)).toArray 142)).heap[w2.heap.size]? = some (.cells (W32 (List.replicate 64 0)).toArray 142 (0, 0)) := heap_alloc_lt (heap_alloc_new _ _)
  have g1 : ((w2.alloc (.cells (W32 (List.replicate 64 0)).toArray 142)).alloc (.cells (W32 (List.replicate 64 0)).toArray 142)).heap[w2.heap.size + 1]? = some (.cells (W32 (List.replicate 64 0)).toArray 142 (0, 0)) := heap_alloc_at (by simp)
  have f3 := ((Frm.refl [] w2).alloc (.cells (W32 (List.replicate 64 0)).toArray 142)).alloc (.cells (W32 (List.replicate 64 0)).toArray 142)
  change wpList _ _ _ _ _ ((w2.alloc (.cells (W32 (List.replicate 64 0)).toArray 142)).alloc (.cells (W32 (List.replicate 64 0)).toArray 142))
  generalize (w2.alloc (.cells (W32 (List.replicate 64 0)).toArray 142)).alloc (.cells (W32 (List.replicate 64 0)).toArray 142) = w3 at *
  refine wpList_store_row rfl 142 (.tmp 6) (.tmp 23) rfl w2.heap.size (W32 kTab).toArray rfl rfl 142 _ g0 (by rw [hzk]; exact i61) (by rw [hzk, hz64]) (W32_one _) ?_
  have h6 : IsW (w3.setRow w2.heap.size (W32 kTab).toArray) w2.heap.size 142 kTab := setRow_heap _ _ _ _ _ _ g0
  have g2 := (setRow_other w3 w2.heap.size (w2.heap.size + 1) (W32 kTab).toArray (by omega)).trans g1
  have f4 := f3.setRow w2.heap.size (W32 kTab).toArray (.inr (Nat.le_refl _))
  generalize w3.setRow w2.heap.size (W32 kTab).toArray = w4 at *
  refine wpList_store_row rfl 142 (.tmp 7) (.tmp 25) rfl (w2.heap.size + 1) (W32 ws).toArray rfl rfl 142 _ g2 (by rw [hzw]; exact i61) (by rw [hzw, hz64]) (W32_one _) ?_
  have h7 : IsW (w4.setRow (w2.heap.size + 1) (W32 ws).toArray) (w2.heap.size + 1) 142 ws := setRow_heap _ _ _ _ _ _ g2
  have h6' : IsW (w4.setRow (w2.heap.size + 1) (W32 ws).toArray) w2.heap.size 142 kTab := (setRow_other _ _ _ _ (by omega)).trans h6
  have f5 := f4.setRow (w2.heap.size + 1) (W32 ws).toArray (.inr (by omega))
  generalize w4.setRow (w2.heap.size + 1) (W32 ws).toArray = w5 at *
  have F5 := Lib.hid (F2.out.trans f5 (by simp))
  have C6 := Lib.hid h6'
  have C7 := Lib.hid h7
  have C0 := Lib.hid (show IsW w5 w.heap.size 105 s.l from f5.heap B0.out (by simp))
  have C1 := Lib.hid (show IsW w5 (w.heap.size + 1) 105 [0, 0, 0, 0, 0, 0, 0, 0] from f5.heap B1.out (by simp))
  have hb0 := lt_heap B1.out
  have hb5 := lt_heap h7
  clear g0 g1 g2 f3 f4 f5 h6 h6' h7 hz64 hzk hzw
  refine wpList_nil ?_
  go_upto_region 4 with (fail)
  refine wp_region_lit ?_
  refine wpList_load_row rfl 105 (.tmp 2) rfl w.heap.size rfl 105 (W32 s.l).toArray (0, 0) _ C0.out d36 rfl (by rw [W32_sz]; exact i36) ?_
  refine wpList_step (fun K hK => ?_)
  go_simp
  refine hK _ _ ?_
  clear hK K
  refine wpList_store_row rfl 105 (.tmp 8) (.tmp 26) rfl w5.heap.size (W32 s.l).toArray rfl rfl 105 _ (heap_alloc_new _ (.cells Z8 105)) (by rw [W32_sz]; exact i36) (by rw [W32_sz]; rfl) (W32_one _) ?_
  have h8 : IsW ((w5.alloc (.cells Z8 105)).setRow w5.heap.size (W32 s.l).toArray) w5.heap.size 105 s.l := setRow_heap _ _ _ _ _ _ (heap_alloc_new _ (.cells Z8 105))
  have f6 := ((Frm.refl [] w5).alloc (.cells Z8 105)).setRow w5.heap.size (W32 s.l).toArray (.inr (Nat.le_refl _))
  change wpList _ _ _ _ _ ((w5.alloc (.cells Z8 105)).setRow w5.heap.size (W32 s.l).toArray)
  generalize (w5.alloc (.cells Z8 105)).setRow w5.heap.size (W32 s.l).toArray = w6 at *
  obtain ⟨b6, hb6⟩ : ∃ b6, w2.heap.size = b6 := ⟨_, rfl⟩
  obtain ⟨b7, hb7⟩ : ∃ b7, w2.heap.size + 1 = b7 := ⟨_, rfl⟩
  obtain ⟨b8, hb8⟩ : ∃ b8, w5.heap.size = b8 := ⟨_, rfl⟩
  have START : RTurnRel w s ws b6 b7 b8 (.int .i64 0) w6 := by
    refine ⟨0, by omega, rfl, ?_, ?_, ⟨s, rfl, ?_⟩, f6.heap C0.out (by simp), f6.heap C1.out (by simp), F5.out.trans f6 (by simp)⟩
    · rw [← hb6]; exact f6.heap C6.out (by simp)
    · rw [← hb7]; exact f6.heap C7.out (by simp)
    · rw [← hb8]; exact h8
  have hne : w.heap.size + 1 < b6 ∧ b7 = b6 + 1 ∧ b7 < b8 := by
    have := F2.out.size
    omega
  rw [hb8, hb7, hb6]
  clear hb6 hb7 hb8 h8 f6 C0 C1 C6 C7 F5 B0 B1 F2 A0 A1 F1 H0 H1 HF hb0 hb5 HW
  have START' := Lib.hid START
  have NE := Lib.hid hne
  clear START hne
  go_wp2_with fail
  go_loopw [9] (RTurnRel w s ws b6 b7 b8) (fun c _ => 64 - (intOf c).toNat)
  case atStart => exact START'.out
  case round =>
    clear START'
    obtain ⟨k, hk, rfl, h6, h7, ⟨x, hx, h8⟩, h0, h1, f⟩ := hrel
    have HF := Lib.hid f
    have H6 := Lib.hid h6
    have H7 := Lib.hid h7
    have H8 := Lib.hid h8
    have H0 := Lib.hid h0
    have H1 := Lib.hid h1
    by_cases hlt : k < 64
    · have k6 := h6.cell k (by rw [kTab_len]; exact hlt)
      have k7 := h7.cell k (by rw [HWL.out]; exact hlt)
      rw [at32_lt] at k6 k7
      have c0 := h8.cell 0 (by simp [S8.l])
      have c1 := h8.cell 1 (by simp [S8.l])
      have c2 := h8.cell 2 (by simp [S8.l])
      have c3 := h8.cell 3 (by simp [S8.l])
      have c4 := h8.cell 4 (by simp [S8.l])
      have c5 := h8.cell 5 (by simp [S8.l])
      have c6 := h8.cell 6 (by simp [S8.l])
      have c7 := h8.cell 7 (by simp [S8.l])
      simp only [S8.l, List.getElem_cons_zero, List.getElem_cons_succ] at c0 c1 c2 c3 c4 c5 c6 c7
      have hxs : s.run kTab ws (k + 1) = x.step (at32 kTab k) (at32 ws k) := by rw [hx]; rfl
      have HXS := Lib.hid hxs
      generalize at32 kTab k = kk at *
      generalize at32 ws k = ww at *
      obtain ⟨xa, xb, xc, xd, xe, xf, xg, xh⟩ := x
      simp only at *
      have hk64 : (k : Int) < 64 := by omega
      clear hx hxs h6 h7 h8 h0 h1 f
      go_wp2_with fail
      go_quiet (fail)
      go_wp2_with fail
      have hx1 := wi_xor
      have hx2 := wi_add
      have hx3 := wi_add'
      have hx4 := wi_and
      have hx5 := wi_unxor
      go_quiet ((go_at_call 122; first | exact Calls.quiet_of (RefRight_j _ _ (by decide) (by decide) _) | exact quiet_add (RefRight_j _ _ (by decide) (by decide) _)))
      obtain ⟨tt, ht⟩ : ∃ tt, S8.T ⟨xa, xb, xc, xd, xe, xf, xg, xh⟩ kk ww = tt := ⟨_, rfl⟩
      have ht2 := ht
      simp only [S8.T] at ht2
      rw [ht2]
      have HT := Lib.hid ht
      clear ht ht2
      go_upto_region 11 with (go_at_call 122; refine (RefRight_j _ _ (by decide) (by decide) _).mono ?_; rintro r w2 ⟨rfl, m2, rfl⟩)
      obtain ⟨uu, hu⟩ : ∃ uu, S8.U ⟨xa, xb, xc, xd, xe, xf, xg, xh⟩ = uu := ⟨_, rfl⟩
      have hu2 := hu
      simp only [S8.U] at hu2
      have HU := Lib.hid hu
      try simp only [World.drewN_drewN]
      refine wp_region_lit ?_
      refine wpList_step (fun K hK => ?_)
      go_simp
      refine hK _ _ ?_
      clear hK K
      refine wpList_step (fun K hK => ?_)
      go_simp
      refine hK _ _ ?_
      clear hK K
      refine wpList_step (fun K hK => ?_)
      go_simp
      refine hK _ _ ?_
      clear hK K
      refine wpList_step (fun K hK => ?_)
      go_simp
      refine hK _ _ ?_
      clear hK K
      refine wpList_step (fun K hK => ?_)
      go_simp
      refine hK _ _ ?_
      clear hK K
      refine wpList_step (fun K hK => ?_)
      go_simp
      refine hK _ _ ?_
      clear hK K
      refine wpList_step (fun K hK => ?_)
      go_simp
      refine hK _ _ ?_
      clear hK K
      refine wpList_step (fun K hK => ?_)
      go_simp
      refine hK _ _ ?_
      clear hK K
      refine wpList_step (fun K hK => ?_)
      go_simp
      refine hK _ _ ?_
      clear hK K
      refine wpList_step (fun K hK => ?_)
      go_simp
      refine hK _ _ ?_
      clear hK K
      refine wpList_step (fun K hK => ?_)
      go_simp
      refine hK _ _ ?_
      clear hK K
      refine wpList_step (fun K hK => ?_)
      go_simp
      refine hK _ _ ?_
      clear hK K
      refine wpList_step (fun K hK => ?_)
      go_simp
      refine hK _ _ ?_
      clear hK K
      refine wpList_step (fun K hK => ?_)
      go_simp
      refine hK _ _ ?_
      clear hK K
      refine wpList_store_row rfl 105 (.tmp 8) (.tmp 104) rfl b8 (W32 (S8.l ⟨tt + uu, xa, xb, xc, xd + tt, xe, xf, xg⟩)).toArray rfl rfl 105 (W32 (S8.l ⟨xa, xb, xc, xd, xe, xf, xg, xh⟩)).toArray H8.out (by rw [W32_sz]; exact i36) (by rw [W32_sz, W32_sz]) (W32_one _) ?_
      have hnew : ∀ n, RTurnRel w s ws b6 b7 b8 (.int .i64 ((k : Int) + 1)) ((wr.drewN n).setRow b8 (W32 (S8.l ⟨tt + uu, xa, xb, xc, xd + tt, xe, xf, xg⟩)).toArray) := fun n => by
        have hne := NE.out
        refine ⟨k + 1, by omega, by go_num, ?_, ?_, ⟨_, HXS.out.symm, ?_⟩, ?_, ?_, (HF.out.drewN n).setRow _ _ (.inr (by omega))⟩
        · exact (setRow_other _ _ _ _ (by omega)).trans H6.out
        · exact (setRow_other _ _ _ _ (by omega)).trans H7.out
        · have h9 : IsW ((wr.drewN n).setRow b8 (W32 (S8.l ⟨tt + uu, xa, xb, xc, xd + tt, xe, xf, xg⟩)).toArray) b8 105 (S8.l ⟨tt + uu, xa, xb, xc, xd + tt, xe, xf, xg⟩) := setRow_heap _ _ _ _ _ _ H8.out
          rw [← HT.out, ← HU.out] at h9
          rw [← HT.out, ← HU.out]
          exact h9
        · exact (setRow_other _ _ _ _ (by omega)).trans H0.out
        · exact (setRow_other _ _ _ _ (by omega)).trans H1.out
      have HN := Lib.hid hnew
      clear hnew
      go_wp2_with fail
      first | exact ⟨HN.out _, by simp [intOf]; omega⟩ | (refine ⟨?_, by simp [intOf]; omega⟩; (repeat apply Exists.intro); exact ⟨HN.out _, rfl⟩)
    · obtain rfl : k = 64 := by omega
      have HXE := Lib.hid hx
      have HST := Lib.hid (show RAddRel w b8 x.l s.l (.int .i64 0) wr from ⟨0, by omega, rfl, h8, h0, h1, f⟩)
      have hadd := addK_all x s
      have HXL := Lib.hid (show x.l.length = 8 from rfl)
      have HSL := Lib.hid (show s.l.length = 8 from rfl)
      have HADD := Lib.hid hadd
      clear hx h6 h7 h8 h0 h1 f H6 H7 H8 H0 H1 HF hadd
      go_wp2_with fail
      go_loopw [18] (RAddRel w b8 x.l s.l) (fun c _ => 8 - (intOf c).toNat)
      case atStart => exact HST.out
      case round =>
        obtain ⟨k, hk, rfl, h1, h2, h3, f3⟩ := hrel
        by_cases hlt : k < 8
        · have hl1 : k < (addK x.l s.l k).length := by rw [addK_length, HXL.out]; exact hlt
          have hl2 : k < s.l.length := by rw [HSL.out]; exact hlt
          have c1 := h1.cell k hl1
          have c2 := h2.cell k hl2
          rw [at32_lt] at c1 c2
          have z1 := h1.frozen k
          have hv : IsW (wr.setCell ⟨b8, k, none⟩ (.int .u32 (wi (at32 (addK x.l s.l k) k + at32 s.l k)))) b8 105 (addK x.l s.l (k + 1)) := h1.store k (at32 (addK x.l s.l k) k + at32 s.l k)
          generalize at32 (addK x.l s.l k) k = y1 at *
          generalize at32 s.l k = y2 at *
          have HV := Lib.hid hv
          have H2 := Lib.hid h2
          have H3 := Lib.hid h3
          have F3 := Lib.hid f3
          have hk8 : (k : Int) < 8 := by omega
          clear hv h1 h2 h3 f3 hl1 hl2
          have hx2 := wi_add
          have hx3 := wi_add'
          go_wp2_with fail
          refine wp_region_still_tail 9 (by kernel_rfl) (by kernel_rfl) ?_
          change wpStill _ _ (World.drew _) _ _ _
          simp only [List.take_succ_cons, List.take_zero, List.drop_succ_cons, List.drop_zero]
          repeat still_step
          refine wpStill_nil ?_
          change wpList _ _ _ _ _ (World.drew _)
          go_wp2_with fail
          have hq := NE.out
          have hnew : RAddRel w b8 x.l s.l (.int .i64 ((k : Int) + 1)) (wr.setCell ⟨b8, k, none⟩ (.int .u32 (wi (y1 + y2)))).drew :=
            ⟨k + 1, by omega, by go_num, HV.out, H2.out.other _ _ (by simp <;> omega), H3.out.other _ _ (by simp <;> omega), (F3.out.setCell _ _ (.inr (by simp <;> omega))).drew⟩
          first | exact ⟨hnew, by simp [intOf]; omega⟩ | (refine ⟨?_, by simp [intOf]; omega⟩; (repeat apply Exists.intro); exact ⟨hnew, rfl⟩)
        · obtain rfl : k = 8 := by omega
          rw [HADD.out] at h1
          have hout : x.add s = (s.run kTab ws 64).add s := by rw [HXE.out]
          rw [hout] at h1
          have H1 := Lib.hid h1
          have H3 := Lib.hid h3
          have F3 := Lib.hid f3
          have hsz := W32_sz ((s.run kTab ws 64).add s)
          have HSZ := Lib.hid hsz
          clear h1 h2 h3 f3 hsz hout
          go_upto_region 16 with (fail)
          refine wp_region_lit ?_
          refine wpList_load_row rfl 105 (.tmp 8) rfl b8 rfl 105 (W32 ((s.run kTab ws 64).add s).l).toArray (0, 0) _ H1.out d36 rfl (by rw [HSZ.out]; exact i36) ?_
          refine wpList_store_row rfl 105 (.tmp 4) (.tmp 118) rfl (w.heap.size + 1) (W32 ((s.run kTab ws 64).add s).l).toArray rfl rfl 105 (W32 [0, 0, 0, 0, 0, 0, 0, 0]).toArray H3.out (by rw [HSZ.out]; exact i36) (by rw [HSZ.out]; rfl) (W32_one _) ?_
          have HRES := Lib.hid (setRow_heap wr (w.heap.size + 1) _ (W32 ((s.run kTab ws 64).add s).l).toArray 105 (0, 0) H3.out)
          have HFR := Lib.hid (F3.out.setRow (w.heap.size + 1) (W32 ((s.run kTab ws 64).add s).l).toArray (.inr (by omega)))
          generalize (wr.setRow (w.heap.size + 1) (W32 ((s.run kTab ws 64).add s).l).toArray) = w9 at *
          go_wp2_with fail
          exact bodyPost_ret (v := .tuple #[.agg (W32 ((s.run kTab ws 64).add s).l).toArray, .int .i64 0]) ((results_cell_tmp (p := 4) (q := 5) (t1 := 105) rfl _ _ (w.heap.size + 1) 105 _ (0, 0) _ rfl HRES.out d36 rfl (by rw [HSZ.out]; exact i36)).trans rfl) rfl ⟨rfl, HFR.out⟩
end Go.Proofs.YtjdejhgfkjeeiaaGreatDoor.Hs

namespace Go.Proofs.YtjdejhgfkjeeiaaGreatDoor.Hs
open Go.RowKit
set_option linter.unusedVariables false
set_option linter.unusedSimpArgs false
set_option maxRecDepth 100000

def x90 (b : UInt8) : UInt8 := b ^^^ 90
def ovK (L : List UInt8) : Nat → List UInt8
  | 0 => L
  | k + 1 => (ovK L k).set k (x90 ((ovK L k).getD k 0))
end Go.Proofs.YtjdejhgfkjeeiaaGreatDoor.Hs

namespace Go.Proofs.YtjdejhgfkjeeiaaGreatDoor.Hs
open Go.RowKit
set_option linter.unusedVariables false
set_option linter.unusedSimpArgs false
set_option maxRecDepth 100000

/-- The highest k of the eight bytes of how many bits there are. -/
def cnts (n k : Nat) : List UInt8 := (List.range k).map fun t => cntB n (7 - t)
theorem cnts_length (n k : Nat) : (cnts n k).length = k := by simp [cnts]
def zs (n : Nat) : Nat := padN n - 9
/-- The lowest k. -/
def lows (n : Nat) : Nat → List UInt8
  | 0 => []
  | k + 1 => cntB n k :: lows n k
theorem lows_cnts (n : Nat) : lows n 8 = cnts n 8 := rfl
theorem endK_form (n : Nat) : ∀ k, k ≤ 8 → endK n k = 128 :: List.replicate (padN n - 1 - k) 0 ++ lows n k
  | 0, _ => by simp [endK, lows]
  | k + 1, h => by
    have hp := padN_ge n
    rw [endK, endK_form n k (by omega)]
    have e : padN n - 1 - k = (padN n - 1 - (k + 1)) + 1 := by omega
    rw [e, List.replicate_succ', ← List.cons_append, List.append_assoc, List.set_append_right _ _ (by simp <;> omega)]
    simp only [List.length_cons, List.length_replicate]
    rw [show padN n - 1 - (k + 1) + 1 - (padN n - 1 - (k + 1) + 1) = 0 by omega]
    simp [lows]
theorem filled_form (b : List UInt8) : filled b = b ++ [128] ++ List.replicate (zs b.length) 0 ++ cnts b.length 8 := by
  have hp := padN_ge b.length
  unfold filled zs
  rw [endK_form _ 8 (by omega), lows_cnts, show padN b.length - 1 - 8 = padN b.length - 9 by omega]
  simp
theorem zs_mod (n : Nat) : (n + 1 + zs n) % 64 = 56 := by
  have hp := padN_ge n
  unfold zs padN
  unfold padN at hp
  omega
theorem zs_not (n j : Nat) (hj : j < zs n) : (n + 1 + j) % 64 ≠ 56 := by
  have h := zs_mod n
  have hp := padN_ge n
  unfold zs at h hj
  omega
theorem cnts_snoc (n k : Nat) : cnts n (k + 1) = cnts n k ++ [cntB n (7 - k)] := by simp [cnts, List.range_succ]
theorem cnt_val' (n k : Nat) : 8 * (n : Int) / 2 ^ (8 * k) % 256 = ((cntB n k).toNat : Int) := by
  unfold cntB
  rw [UInt8.toNat_ofNat']
  have h : ∀ m : Nat, ((8 * n / m % 2 ^ 8 : Nat) : Int) = 8 * (n : Int) / (m : Int) % 256 := fun m => by simp
  rw [h]
  simp
def slLen : Value → Nat
  | .slice _ n _ => n
  | _ => 0
def AllRel (w : World) (L : List UInt8) (v : Value) (wr : World) : Prop := ∃ a cap sp, v = .slice a L.length cap ∧ OwnB 5 wr (.slice a L.length cap) L sp ∧ Frm [] w wr ∧ ∀ i ∈ blk (.slice a L.length cap), w.heap.size ≤ i
def RFillA (w : World) (b : List UInt8) (v : Value) (wr : World) : Prop := ∃ j, j ≤ zs b.length ∧ AllRel w (b ++ [128] ++ List.replicate j 0) v wr
def RFillB (w : World) (b : List UInt8) (v c : Value) (wr : World) : Prop := ∃ k : Nat, k ≤ 8 ∧ c = .int .i64 (7 - (k : Int)) ∧ AllRel w (b ++ [128] ++ List.replicate (zs b.length) 0 ++ cnts b.length k) v wr
def RFillC (b : List UInt8) (w1 : World) (v c : Value) (wr : World) : Prop := ∃ k : Nat, k ≤ pcs b.length ∧ c = .int .i64 (64 * (k : Int)) ∧ OwnL w1.heap.size wr v ((List.range k).map (pieceL (filled b))) ∧ Frm [] w1 wr
set_option maxHeartbeats 4000000 in
theorem RefFill_any (v : Value) (b sp : List UInt8) (w : World) (hS : SlB w v b sp) (hb : b.length ≤ 1000000) :
    Calls Tryz.prog 81 #[v] w fun r w' => Filled w b r w' := by
  obtain ⟨a, cap, rfl, _, _⟩ := hS.form
  have HS := Lib.hid hS
  have hb9 : (b.length : Int) ≤ 1000000 := by omega
  have hz9 : zs b.length ≤ 63 := by have := padN_ge b.length; unfold zs; omega
  clear hS
  have o0 : OwnB 5 (w.alloc (.cells #[] 5)) (.slice (some ⟨w.heap.size, 0, none⟩) 0 0) [] [] := OwnB.of_heap (heap_alloc_new _ _) rfl rfl (by simp)
  have f0 : Frm [] w (w.alloc (.cells #[] 5)) := (Frm.refl _ _).alloc _
  go_enter Tryz.func81, Tryz.ntmps81
  go_upto_region 1 with (fail)
  refine wp_region_lit ?_
  refine wpList_step (fun K hK => ?_)
  go_simp
  refine hK _ _ ?_
  clear hK K
  refine wpList_step (fun K hK => ?_)
  go_simp
  refine hK _ _ ?_
  clear hK K
  refine wpList_append_bytes BT o0 (HS.out.keep f0 (by simp)) (by simp; omega) rfl (.tmp 8) (.tmp 9) rfl rfl rfl ?_
  intro a1 cap1 w1 sp1 o1 f1 b1
  simp only [List.length_nil, Nat.zero_add, List.nil_append] at o1 b1 ⊢
  have F1 := Lib.hid (f0.trans f1 (by simp [blk]))
  have B1 := Lib.hid (show ∀ i ∈ blk (.slice a1 b.length cap1), w.heap.size ≤ i from fun i hi => by
    rcases b1 i hi with h | h
    · simp [blk] at h; omega
    · simp at h; omega)
  have O1 := Lib.hid o1
  clear o1 f1 b1 o0 f0
  refine wpList_step (fun K hK => ?_)
  go_simp
  refine hK _ _ ?_
  clear hK K
  have O2 := Lib.hid (O1.out.keep ((Frm.refl [] w1).alloc (.cells #[.int .u8 128] 5)) (by simp))
  refine wpList_append_bytes BT O2.out (slb_new w1 [128] 1 _ (0, 0) rfl rfl (by simp [maxLen])) (by simp; omega) rfl (.tmp 10) (.tmp 11) rfl rfl rfl ?_
  intro a2 cap2 w2 sp2 o2 f2 b2
  have A2 := Lib.hid (show RFillA w b (.slice a2 (b.length + 1) cap2) w2 from ⟨0, by omega, a2, cap2, sp2, by simp, by simpa using o2, (F1.out.alloc _).trans f2 (fun i hi => .inr (B1.out i hi)), fun i hi => by
    rcases b2 i (by simpa using hi) with h | h
    · exact B1.out i h
    · have := F1.out.size; simp at h; omega⟩)
  clear o2 f2 b2
  refine wpList_step (fun K hK => ?_)
  go_simp
  refine hK _ _ ?_
  clear hK K
  refine wpList_nil ?_
  clear O1 O2
  go_wp2_with fail
  go_loopw [3] (RFillA w b) (fun v _ => b.length + 1 + zs b.length - slLen v)
  case atStart => exact A2.out
  case round =>
    clear A2 B1 F1
    obtain ⟨j, hj, a, cap3, sp3, rfl, o, f, g⟩ := hrel
    have hlen : (b ++ [128] ++ List.replicate j (0 : UInt8)).length = b.length + 1 + j := by simp; omega
    by_cases hlt : j < zs b.length
    · have hne := zs_not b.length j hlt
      have hrep : b ++ [128] ++ List.replicate j (0 : UInt8) ++ [0] = b ++ [128] ++ List.replicate (j + 1) 0 := by simp [List.replicate_succ']
      generalize b ++ [128] ++ List.replicate j (0 : UInt8) = L at *
      have hn9 : (L.length : Int) ≤ 1000100 := by omega
      have htest : (((L.length : Nat) : Int) % 64 != 56) = true := by simp; omega
      have O := Lib.hid o
      have F := Lib.hid f
      have G := Lib.hid g
      have HL := Lib.hid hlen
      have HR := Lib.hid hrep
      clear o f g hlen hrep hne
      go_upto_region 3 with (fail)
      refine wp_region_lit ?_
      refine wpList_step (fun K hK => ?_)
      go_simp
      refine hK _ _ ?_
      clear hK K
      refine wpList_step (fun K hK => ?_)
      go_simp
      refine hK _ _ ?_
      clear hK K
      have O2 := Lib.hid (O.out.keep ((Frm.refl [] wr).alloc (.cells #[.int .u8 0] 5)) (by simp))
      refine wpList_append_bytes BT O2.out (slb_new wr [0] 1 _ (0, 0) rfl rfl (by simp [maxLen])) (by have := HL.out; simp; omega) rfl (.tmp 17) (.tmp 18) rfl rfl rfl ?_
      intro a2 cap2 w2 sp2 o2 f2 b2
      have A2 := Lib.hid (show RFillA w b (.slice a2 (L.length + 1) cap2) w2 from ⟨j + 1, by omega, a2, cap2, sp2, by rw [← HR.out]; simp, by rw [← HR.out]; simpa using o2, (F.out.alloc _).trans f2 (fun i hi => .inr (G.out i hi)), fun i hi => by
        rw [← HR.out] at hi
        rcases b2 i (by simpa using hi) with h | h
        · exact G.out i h
        · have := F.out.size; simp at h; omega⟩)
      clear o2 f2 b2
      refine wpList_step (fun K hK => ?_)
      go_simp
      refine hK _ _ ?_
      clear hK K
      refine wpList_nil ?_
      go_wp2_with fail
      exact ⟨A2.out, by have := HL.out; simp [slLen]; omega⟩
    · obtain rfl : j = zs b.length := by omega
      have hmod := zs_mod b.length
      have hst : RFillB w b (.slice a (b ++ [128] ++ List.replicate (zs b.length) (0 : UInt8)).length cap3) (.int .i64 7) wr := ⟨0, by omega, rfl, a, cap3, sp3, by simp [cnts], by simpa [cnts] using o, f, by simpa [cnts] using g⟩
      generalize hLL : b ++ [128] ++ List.replicate (zs b.length) (0 : UInt8) = L at *
      have htest : (((L.length : Nat) : Int) % 64 != 56) = false := by simp; omega
      have hn9 : (L.length : Int) ≤ 1000100 := by omega
      have HST := Lib.hid hst
      have HLL := Lib.hid hLL
      clear hst o f g hmod hLL hlen
      go_wp2_with fail
      go_loopw [3, 5] (RFillB w b) (fun _ c _ => (intOf c + 1).toNat)
      case atStart => exact HST.out
      case round =>
        clear HST
        obtain ⟨k, hk, rfl, a, cap3, sp3, rfl, o, f, g⟩ := hrel
        have hlen : (b ++ [128] ++ List.replicate (zs b.length) 0 ++ cnts b.length k).length ≤ 1000200 := by simp [cnts_length]; omega
        by_cases hlt : k < 8
        · obtain ⟨m, hm⟩ : ∃ m, 7 - k = m := ⟨_, rfl⟩
          have hm0 : (7 : Int) - (k : Int) = (m : Int) := by omega
          have hsn := cnts_snoc b.length k
          rw [hm] at hsn
          have hcv := cnt_val' b.length m
          generalize cntB b.length m = cb at *
          have happ : b ++ [128] ++ List.replicate (zs b.length) (0 : UInt8) ++ cnts b.length k ++ [cb] = b ++ [128] ++ List.replicate (zs b.length) (0 : UInt8) ++ cnts b.length (k + 1) := by rw [hsn]; simp
          generalize b ++ [128] ++ List.replicate (zs b.length) 0 ++ cnts b.length k = L2 at *
          have hm9 : (m : Int) ≤ 7 := by omega
          have hmp : (0 : Int) ≤ (m : Int) := by omega
          have hn2 : (L2.length : Int) ≤ 1000200 := by omega
          have O := Lib.hid o
          have F := Lib.hid f
          have G := Lib.hid g
          have HL := Lib.hid hlen
          have HAPP := Lib.hid happ
          have HM := Lib.hid hm
          have HCV := Lib.hid hcv
          rw [hm0]
          have e8 : IntKind.i64.wrap (8 * (m : Int)) = 8 * (m : Int) := IntWalk.i64_in _ (by omega)
          have g8 : (0 : Int) ≤ 8 * (m : Int) := by omega
          have n8 : (8 * (m : Int)).toNat = 8 * m := by omega
          have hw8 : IntKind.u8.wrap (8 * (b.length : Int) / 2 ^ (8 * m)) = (cb.toNat : Int) := hcv
          clear o f g hlen happ hsn hm hm0
          go_upto_region 8 with (fail)
          refine wp_region_lit ?_
          refine wpList_step (fun K hK => ?_)
          go_simp
          refine hK _ _ ?_
          clear hK K
          refine wpList_step (fun K hK => ?_)
          go_simp
          refine hK _ _ ?_
          clear hK K
          refine wpList_step (fun K hK => ?_)
          go_simp
          refine hK _ _ ?_
          clear hK K
          refine wpList_step (fun K hK => ?_)
          go_simp
          refine hK _ _ ?_
          clear hK K
          refine wpList_step (fun K hK => ?_)
          go_simp
          refine hK _ _ ?_
          clear hK K
          refine wpList_step (fun K hK => ?_)
          go_simp
          refine hK _ _ ?_
          clear hK K
          refine wpList_step (fun K hK => ?_)
          go_simp
          refine hK _ _ ?_
          clear hK K
          have O2 := Lib.hid (O.out.keep ((Frm.refl [] wr).alloc (.cells #[.int .u8 (cb.toNat : Int)] 5)) (by simp))
          refine wpList_append_bytes BT O2.out (slb_new wr [cb] 1 _ (0, 0) rfl rfl (by simp [maxLen])) (by have := HL.out; simp; omega) rfl (.tmp 27) (.tmp 33) rfl rfl rfl ?_
          intro a2 cap2 w2 sp2 o2 f2 b2
          have A2 := Lib.hid (show RFillB w b (.slice a2 (L2.length + 1) cap2) (.int .i64 ((m : Int) - 1)) w2 from ⟨k + 1, by omega, congrArg (Value.int IntKind.i64) (by have := HM.out; omega), a2, cap2, sp2, by rw [← HAPP.out]; simp, by rw [← HAPP.out]; simpa using o2, (F.out.alloc _).trans f2 (fun i hi => .inr (G.out i hi)), fun i hi => by
            rw [← HAPP.out] at hi
            rcases b2 i (by simpa using hi) with h | h
            · exact G.out i h
            · have := F.out.size; simp at h; omega⟩)
          clear o2 f2 b2
          refine wpList_step (fun K hK => ?_)
          go_simp
          refine hK _ _ ?_
          clear hK K
          refine wpList_nil ?_
          go_wp2_with fail
          exact ⟨A2.out, by simp [intOf] <;> omega⟩
        · obtain rfl : k = 8 := by omega
          rw [← filled_form b] at o g ⊢
          have hpl := pcs_len b
          have hpc : pcs b.length ≤ 100000 := by unfold pcs; omega
          rw [hpl] at o g ⊢
          have O := Lib.hid o
          have F := Lib.hid f
          have G := Lib.hid g
          have HPL := Lib.hid hpl
          have hM9 : (pcs b.length : Int) ≤ 100000 := by omega
          clear o f g hlen hpl
          go_wp2_with fail
          generalize wr = wz at *
          go_loopw [6, 7] (RFillC b wz) (fun _ c _ => 64 * pcs b.length - (intOf c).toNat)
          case atStart => exact ⟨0, by omega, rfl, OwnL.nil _ _, Frm.refl _ _⟩
          case round =>
            obtain ⟨k, hk, rfl, hL, f⟩ := hrel
            obtain ⟨av, capv, rfl, _, _⟩ := hL.form
            rw [List.length_map, List.length_range] at hL ⊢
            by_cases hlt : k < pcs b.length
            · have hO := O.out.keep f (by simp)
              have hle : 64 * k + 64 ≤ (filled b).length := by rw [HPL.out]; omega
              obtain ⟨a4, c4, hsl, hS4⟩ := slice_lh BT hO.sl (64 * k) (64 * k + 64) (by omega) hle
              rw [show 64 * k + 64 - 64 * k = 64 by omega] at hsl hS4
              have hsl2 := fun wx => hsl (64 * (k : Int)) (64 * (k : Int) + 64) wx (by omega) (by omega)
              have hpl : (pieceL (filled b) k).length = 64 := by simp [pieceL]; omega
              rw [show List.take 64 (List.drop (64 * k) (filled b)) = pieceL (filled b) k from rfl] at hS4
              have hrange : (List.range k).map (pieceL (filled b)) ++ [pieceL (filled b) k] = (List.range (k + 1)).map (pieceL (filled b)) := by simp [List.range_succ]
              have hll : ((List.range k).map (pieceL (filled b))).length = k := by simp
              generalize (List.range k).map (pieceL (filled b)) = ls at *
              generalize pieceL (filled b) k = pk at *
              have HL := Lib.hid hL
              have FF := Lib.hid f
              have HS4 := Lib.hid hS4
              have HPK := Lib.hid hpl
              have HRG := Lib.hid hrange
              have HLL := Lib.hid hll
              have hk9 : (k : Int) ≤ 100000 := by omega
              have hlt9 : (k : Int) < (pcs b.length : Int) := by omega
              have e64 : IntKind.i64.wrap (64 * (k : Int) + 64) = 64 * (k : Int) + 64 := IntWalk.i64_in _ (by omega)
              clear hL f hS4 hpl hrange hll hsl hO hle
              go_upto_region 13 with (fail)
              refine wp_region_lit ?_
              refine wpList_step (fun K hK => ?_)
              go_simp
              refine hK _ _ ?_
              clear hK K
              refine wpList_step (fun K hK => ?_)
              go_simp
              refine hK _ _ ?_
              clear hK K
              have o0 : OwnB 5 (wr.alloc (.cells #[] 5)) (.slice (some ⟨wr.heap.size, 0, none⟩) 0 0) [] [] := OwnB.of_heap (heap_alloc_new _ _) rfl rfl (by simp)
              have O0 := Lib.hid o0
              have f0 : Frm [] wr (wr.alloc (.cells #[] 5)) := (Frm.refl _ _).alloc _
              have F0 := Lib.hid f0
              clear o0 f0
              refine wpList_step (fun K hK => ?_)
              go_simp
              refine hK _ _ ?_
              clear hK K
              refine wpList_step (fun K hK => ?_)
              go_simp
              refine hK _ _ ?_
              clear hK K
              refine wpList_step (fun K hK => ?_)
              go_simp
              refine hK _ _ ?_
              clear hK K
              refine wpList_step (fun K hK => ?_)
              go_simp
              refine hK _ _ ?_
              clear hK K
              refine wpList_step (fun K hK => ?_)
              go_simp
              refine hK _ _ ?_
              clear hK K
              refine wpList_append_bytes BT O0.out (HS4.out.keep F0.out (by simp)) (by rw [HPK.out]; simp) rfl (.tmp 42) (.tmp 47) rfl rfl rfl ?_
              intro a5 cap5 w5 sp5 o5 f5 b5
              simp only [List.length_nil, Nat.zero_add, List.nil_append] at o5 b5 ⊢
              rw [HPK.out]
              have F5 := Lib.hid (F0.out.trans f5 (by simp [blk]))
              have B5 := Lib.hid (show ∀ i ∈ blk (.slice a5 64 cap5), wr.heap.size ≤ i from fun i hi => by
                rcases b5 i (by rw [HPK.out]; exact hi) with h | h
                · simp [blk] at h; omega
                · simp at h; omega)
              have O5 := Lib.hid (show OwnB 5 w5 (.slice a5 64 cap5) pk sp5 by rw [← HPK.out]; exact o5)
              clear o5 f5 b5
              refine wpList_step (fun K hK => ?_)
              go_simp
              refine hK _ _ ?_
              clear hK K
              have happ := append_list (gb := w5.heap.size) 25 HL.out ((F5.out).alloc (.cells #[.slice a5 64 cap5] 32)) FF.out.size (O5.out.keep ((Frm.refl [] w5).alloc (.cells #[.slice a5 64 cap5] 32)) (by simp)) ⟨a5, cap5, by rw [HPK.out]⟩ B5.out (heap_alloc_new _ _) (by rw [HLL.out]; omega)
              obtain ⟨v6, w6, hrun, hl6, f6⟩ := happ
              refine wpList_val rfl (exec_append_list (.tmp 41) (.tmp 49) rfl rfl rfl hrun) ?_
              have HL6 := Lib.hid (show OwnL wz.heap.size w6 v6 ((List.range (k + 1)).map (pieceL (filled b))) by rw [← HRG.out]; exact hl6)
              have F6 := Lib.hid (((FF.out.trans F5.out (by simp)).alloc (.cells #[.slice a5 64 cap5] 32)).trans f6 (fun i hi => by
                obtain ⟨vs, spv, h1, h2, h3, h4⟩ := HL.out.ex
                exact .inr (h3 i hi)))
              clear hrun hl6 f6
              refine wpList_step (fun K hK => ?_)
              go_simp
              refine hK _ _ ?_
              clear hK K
              refine wpList_nil ?_
              go_wp2_with fail
              have hnew : RFillC b wz v6 (.int .i64 (64 * (k : Int) + 64)) w6 := ⟨k + 1, by omega, congrArg (Value.int IntKind.i64) (by omega), HL6.out, F6.out⟩
              first | exact ⟨hnew, by simp [intOf]; omega⟩ | (refine ⟨?_, by simp [intOf]; omega⟩; (repeat apply Exists.intro); exact ⟨hnew, rfl⟩)
            · obtain rfl : k = pcs b.length := by omega
              have HRES := Lib.hid (show Filled w b (.returned (.slice av (pcs b.length) capv)) wr from ⟨_, rfl, hL.mono F.out.size, F.out.trans f (by simp)⟩)
              clear hL f
              go_wp2_with fail
              go_ret
              exact HRES.out
end Go.Proofs.YtjdejhgfkjeeiaaGreatDoor.Hs

namespace Go.Proofs.YtjdejhgfkjeeiaaGreatDoor.Hs
open Go.RowKit
set_option linter.unusedVariables false
set_option linter.unusedSimpArgs false
set_option maxRecDepth 100000

def RSumA (w1 : World) (L : List UInt8) (M b3 : Nat) (c : Value) (wr : World) : Prop := ∃ k : Nat, k ≤ M ∧ c = .int .i64 k ∧ IsW wr b3 105 (turnsP s0 L (List.range k)).l ∧ Frm [b3] w1 wr
def RSumB (w1 : World) (ws : List UInt32) (b6 : Nat) (c : Value) (wr : World) : Prop := ∃ k : Nat, k ≤ 32 ∧ c = .int .i64 k ∧ IsB wr b6 24 (digK ws k ++ List.replicate (32 - k) 0) ∧ Frm [b6] w1 wr
theorem fills_at (b : List UInt8) (k : Nat) (hk : k < (fills b).length) : (fills b)[k] = pieceL (filled b) k := by simp [fills]
theorem fills_len (b : List UInt8) : (fills b).length = pcs b.length := by simp [fills]
theorem piece_len (b : List UInt8) (k : Nat) (hk : k < pcs b.length) : (pieceL (filled b) k).length = 64 := by
  have := pcs_len b
  simp [pieceL]; omega
set_option maxHeartbeats 4000000 in
theorem RefSum_any (v : Value) (b sp : List UInt8) (w : World) (hS : SlB w v b sp) (hb : b.length ≤ 1000000) :
    Calls Tryz.prog 32 #[v] w fun r w' => r = .returned (.agg (bvs (sha b)).toArray) ∧ Frm [] w w' := by
  obtain ⟨a, cap, rfl, _, _⟩ := hS.form
  have HS := Lib.hid hS
  have hpc : pcs b.length ≤ 100000 := by unfold pcs; omega
  obtain ⟨R, hR⟩ : ∃ R, sha b = R := ⟨_, rfl⟩
  rw [hR]
  have HR := Lib.hid hR
  clear hS hR
  go_enter Tryz.func32, Tryz.ntmps32
  go_upto_region 1 with (fail)
  have I2 := Lib.hid (show IsB (w.alloc (.cells Z32 24)) w.heap.size 24 (List.replicate 32 0) from heap_alloc_new _ _)
  have F2 := Lib.hid ((Frm.refl [] w).alloc (.cells Z32 24))
  change Code.wp _ _ _ _ (w.alloc (.cells Z32 24))
  generalize w.alloc (.cells Z32 24) = w2 at *
  refine wp_region_lit ?_
  refine wpList_step (fun K hK => ?_)
  go_simp
  refine (RefStart_any _).mono ?_
  rintro r w3 ⟨rfl, f3⟩
  have I3 := Lib.hid (I2.out.keepF f3)
  have F3 := Lib.hid (F2.out.trans f3 (by simp))
  clear f3
  refine hK _ _ ?_
  clear hK K
  refine wpList_step (fun K hK => ?_)
  go_simp
  refine hK _ _ ?_
  clear hK K
  refine wpList_store_row rfl 105 (.tmp 3) (.tmp 8) rfl w3.heap.size (W32 s0.l).toArray rfl rfl 105 _ (heap_alloc_new _ (.cells Z8 105)) (by rw [W32_sz]; exact i36) (by rw [W32_sz]; rfl) (W32_one _) ?_
  have h4 : IsW ((w3.alloc (.cells Z8 105)).setRow w3.heap.size (W32 s0.l).toArray) w3.heap.size 105 s0.l := setRow_heap _ _ _ _ _ _ (heap_alloc_new _ (.cells Z8 105))
  have f4 := ((Frm.refl [] w3).alloc (.cells Z8 105)).setRow w3.heap.size (W32 s0.l).toArray (.inr (Nat.le_refl _))
  change wpList _ _ _ _ _ ((w3.alloc (.cells Z8 105)).setRow w3.heap.size (W32 s0.l).toArray)
  generalize (w3.alloc (.cells Z8 105)).setRow w3.heap.size (W32 s0.l).toArray = w4 at *
  have I4 := Lib.hid (I3.out.keepF f4)
  have F4 := Lib.hid (F3.out.trans f4 (by simp))
  have H4 := Lib.hid h4
  have Z3 := Lib.hid (show w.heap.size < w3.heap.size from lt_heap I3.out)
  clear f4 h4
  refine wpList_nil ?_
  go_wp2_with fail
  refine (RefFill_any _ b sp _ (HS.out.keep F4.out (by simp)) hb).mono ?_
  rintro r w5 ⟨vl, rfl, hl, f5⟩
  obtain ⟨al, capl, rfl, _, _⟩ := hl.form
  rw [fills_len] at hl ⊢
  have I5 := Lib.hid (I4.out.keepF f5)
  have H5 := Lib.hid (H4.out.keepF f5)
  have F5 := Lib.hid (F4.out.trans f5 (by simp))
  have HL := Lib.hid hl
  have Z4 := Lib.hid (lt_heap H4.out)
  clear hl f5 I2 I3 I4 H4 F2 F3 F4
  have hpc9 : (pcs b.length : Int) ≤ 100000 := by omega
  go_wp2_with fail
  obtain ⟨b3, hb3⟩ : ∃ b3, w3.heap.size = b3 := ⟨_, rfl⟩
  rw [hb3] at H5 Z3 Z4 ⊢
  clear hb3
  go_loopw [5] (RSumA w5 (filled b) (pcs b.length) b3) (fun c _ => pcs b.length - (intOf c).toNat)
  case atStart => exact ⟨0, by omega, rfl, H5.out, Frm.refl _ _⟩
  case round =>
    obtain ⟨k, hk, rfl, h, f⟩ := hrel
    by_cases hlt : k < pcs b.length
    · have hpl := piece_len b k hlt
      obtain ⟨g, cg, gu, capu, spu, e1, d1, o1⟩ := HL.out.row k (by rw [fills_len]; exact hlt) (by rw [fills_at]; intro e; rw [e] at hpl; simp at hpl)
      simp only [Value.slice.injEq] at e1
      obtain ⟨rfl, hx9, rfl⟩ := e1
      clear hx9
      rw [fills_at] at d1 o1
      rw [hpl] at d1 o1
      have hb3 : b3 < w5.heap.size := lt_heap H5.out
      have hgb : g ≠ b3 := by
        obtain ⟨vs, spv, q1, q2, q3, q4⟩ := HL.out.ex
        have := q3 g (by simp [blk])
        have := Z4.out
        omega
      have hub : gu ≠ b3 := by
        obtain ⟨vs, spv, q1, q2, q3, q4⟩ := HL.out.ex
        obtain ⟨u, sp', m1, m2, m3, m4⟩ := q2 k (by rw [fills_len]; exact hlt)
        have hg := q1
        obtain ⟨p1, p2 | ⟨g', cap', p2, p3, p4, p5, p6⟩⟩ := q1
        · cases p2.1
        · simp only [Value.slice.injEq] at p2
          obtain ⟨p7, _, _⟩ := p2
          have hgg : g' = g := by simpa using p7.symm
          subst hgg
          have hc := d1
          rw [cell_of_heap p6, List.getElem?_toArray, List.getElem?_append_left (by have := p1; rw [fills_len] at this; omega), m1] at hc
          simp at hc
          subst hc
          have := (m4 gu (by simp [blk])).1
          have := Z4.out
          omega
      have d2 := f.cell d1 (by simpa using hgb)
      have o2 := o1.keep f (by simpa [blk] using hub)
      have hts : turnsP s0 (filled b) (List.range (k + 1)) = turn (turnsP s0 (filled b) (List.range k)) (pieceL (filled b) k) := by rw [List.range_succ, turnsP_snoc]
      have hcall := fun W (hW : SlB W (.slice (some ⟨gu, 0, none⟩) 64 capu) (pieceL (filled b) k) spu) => RefTurn_any (turnsP s0 (filled b) (List.range k)) _ _ _ W hW hpl
      generalize turn (turnsP s0 (filled b) (List.range k)) (pieceL (filled b) k) = y at *
      generalize turnsP s0 (filled b) (List.range k) = x at *
      have HC := Lib.hid hcall
      have HTS := Lib.hid hts
      have H := Lib.hid h
      have F := Lib.hid f
      have O2 := Lib.hid o2
      clear hcall hts h f o1 o2 d1 hub hgb hb3 hpl
      go_wp2_with fail
      refine wp_region_any (by kernel_rfl) ?_
      change wpAny _ _ _ _ _ _ _ (World.drew _)
      refine wpAny_take (i := 1) (v := ?_) rfl (by kernel_rfl) (by kernel_rfl) (by kernel_rfl) (fun _ _ _ h => h) (Or.inl ⟨by rfl, ?_⟩) ?_
      rotate_left
      focus (intro w; go_simp; try with_reducible rfl)
      refine wpAny_take (i := 2) (v := ?_) rfl (by kernel_rfl) (by kernel_rfl) (by kernel_rfl) (fun _ _ _ h => h) (Or.inl ⟨by rfl, ?_⟩) ?_
      rotate_left
      focus (intro w; go_simp; try with_reducible rfl)
      refine wpAny_take (i := 3) (v := ?_) rfl (by kernel_rfl) (by kernel_rfl) (by kernel_rfl) (fun _ _ _ h => h) (Or.inl ⟨by rfl, ?_⟩) ?_
      rotate_left
      focus (intro w; go_simp; try with_reducible rfl)
      refine wpAny_ready (rs := [0, 4]) (by kernel_rfl) (by simp) ?_
      refine AllReady.cons rfl (fun K hK => ?_) ?_
      · rw [if_pos (by rfl)]
        refine wp_load_row 105 (.tmp 3) rfl b3 rfl 105 (W32 x.l).toArray (0, 0) _ (show wr.drew.heap[b3]? = _ from H.out) d36 rfl (by rw [W32_sz]; exact i36) ?_
        refine hK _ _ ?_
        clear hK K
        refine wpAny_ready (rs := [4]) (by kernel_rfl) (by simp) ?_
        refine AllReady.cons rfl (fun K hK => ?_) ?_
        · go_simp
          refine hK _ _ ?_
          clear hK K
          refine wpAny_ready (rs := [5]) (by kernel_rfl) (by simp) ?_
          refine AllReady.cons rfl (fun K hK => ?_) ?_
          · go_simp
            refine (HC.out _ ((O2.out.keep ((Frm.refl [] wr).drew) (by simp)).sl)).mono ?_
            rintro r w9 ⟨rfl, f9⟩
            have H9 := Lib.hid (show IsW w9 b3 105 x.l from f9.heap (show wr.drew.heap[b3]? = _ from H.out) (by simp))
            have F9 := Lib.hid ((F.out.drew).trans f9 (by simp))
            clear f9
            refine hK _ _ ?_
            clear hK K
            refine wpAny_take (i := 6) (v := ?_) rfl (by kernel_rfl) (by kernel_rfl) (by kernel_rfl) (fun _ _ _ h => h) (Or.inl ⟨by rfl, ?_⟩) ?_
            rotate_left
            focus (intro w; go_simp; try with_reducible rfl)
            refine wpAny_take (i := 7) (v := ?_) rfl (by kernel_rfl) (by kernel_rfl) (by kernel_rfl) (fun _ _ _ h => h) (Or.inl ⟨by rfl, ?_⟩) ?_
            rotate_left
            focus (intro w; go_simp; try with_reducible rfl)
            refine wpAny_take (i := 8) (v := ?_) rfl (by kernel_rfl) (by kernel_rfl) (by kernel_rfl) (fun _ _ _ h => h) (Or.inl ⟨by rfl, ?_⟩) ?_
            rotate_left
            focus (intro w; go_simp; try with_reducible rfl)
            refine wpAny_ready (rs := [9]) (by kernel_rfl) (by simp) ?_
            refine AllReady.cons rfl (fun K hK => ?_) ?_
            · rw [if_pos (by rfl)]
              refine wp_store_row 105 (.tmp 3) (.tmp 24) rfl b3 (W32 y.l).toArray rfl rfl 105 _ H9.out (by rw [W32_sz]; exact i36) (by rw [W32_sz, W32_sz]) (W32_one _) ?_
              have hnew : RSumA w5 (filled b) (pcs b.length) b3 (.int .i64 ((k : Int) + 1)) (w9.setRow b3 (W32 y.l).toArray) := ⟨k + 1, by omega, by go_num, by rw [HTS.out]; exact setRow_heap _ _ _ _ _ _ H9.out, F9.out.setRow _ _ (.inl (by simp))⟩
              have HN := Lib.hid hnew
              clear hnew
              generalize w9.setRow b3 (W32 y.l).toArray = w10 at *
              refine hK _ _ ?_
              clear hK K
              refine wpAny_done (by kernel_rfl) ?_ _
              go_wp2_with fail
              first | exact ⟨HN.out, by simp [intOf]; omega⟩ | (refine ⟨?_, by simp [intOf]; omega⟩; (repeat apply Exists.intro); exact ⟨HN.out, rfl⟩)
            exact AllReady.nil
          exact AllReady.nil
        exact AllReady.nil
      refine AllReady.cons rfl (fun K hK => ?_) ?_
      · go_simp
        refine hK _ _ ?_
        clear hK K
        refine wpAny_ready (rs := [0]) (by kernel_rfl) (by simp) ?_
        refine AllReady.cons rfl (fun K hK => ?_) ?_
        · rw [if_pos (by rfl)]
          refine wp_load_row 105 (.tmp 3) rfl b3 rfl 105 (W32 x.l).toArray (0, 0) _ (show wr.drew.heap[b3]? = _ from H.out) d36 rfl (by rw [W32_sz]; exact i36) ?_
          refine hK _ _ ?_
          clear hK K
          refine wpAny_ready (rs := [5]) (by kernel_rfl) (by simp) ?_
          refine AllReady.cons rfl (fun K hK => ?_) ?_
          · go_simp
            refine (HC.out _ ((O2.out.keep ((Frm.refl [] wr).drew) (by simp)).sl)).mono ?_
            rintro r w9 ⟨rfl, f9⟩
            have H9 := Lib.hid (show IsW w9 b3 105 x.l from f9.heap (show wr.drew.heap[b3]? = _ from H.out) (by simp))
            have F9 := Lib.hid ((F.out.drew).trans f9 (by simp))
            clear f9
            refine hK _ _ ?_
            clear hK K
            refine wpAny_take (i := 6) (v := ?_) rfl (by kernel_rfl) (by kernel_rfl) (by kernel_rfl) (fun _ _ _ h => h) (Or.inl ⟨by rfl, ?_⟩) ?_
            rotate_left
            focus (intro w; go_simp; try with_reducible rfl)
            refine wpAny_take (i := 7) (v := ?_) rfl (by kernel_rfl) (by kernel_rfl) (by kernel_rfl) (fun _ _ _ h => h) (Or.inl ⟨by rfl, ?_⟩) ?_
            rotate_left
            focus (intro w; go_simp; try with_reducible rfl)
            refine wpAny_take (i := 8) (v := ?_) rfl (by kernel_rfl) (by kernel_rfl) (by kernel_rfl) (fun _ _ _ h => h) (Or.inl ⟨by rfl, ?_⟩) ?_
            rotate_left
            focus (intro w; go_simp; try with_reducible rfl)
            refine wpAny_ready (rs := [9]) (by kernel_rfl) (by simp) ?_
            refine AllReady.cons rfl (fun K hK => ?_) ?_
            · rw [if_pos (by rfl)]
              refine wp_store_row 105 (.tmp 3) (.tmp 24) rfl b3 (W32 y.l).toArray rfl rfl 105 _ H9.out (by rw [W32_sz]; exact i36) (by rw [W32_sz, W32_sz]) (W32_one _) ?_
              have hnew : RSumA w5 (filled b) (pcs b.length) b3 (.int .i64 ((k : Int) + 1)) (w9.setRow b3 (W32 y.l).toArray) := ⟨k + 1, by omega, by go_num, by rw [HTS.out]; exact setRow_heap _ _ _ _ _ _ H9.out, F9.out.setRow _ _ (.inl (by simp))⟩
              have HN := Lib.hid hnew
              clear hnew
              generalize w9.setRow b3 (W32 y.l).toArray = w10 at *
              refine hK _ _ ?_
              clear hK K
              refine wpAny_done (by kernel_rfl) ?_ _
              go_wp2_with fail
              first | exact ⟨HN.out, by simp [intOf]; omega⟩ | (refine ⟨?_, by simp [intOf]; omega⟩; (repeat apply Exists.intro); exact ⟨HN.out, rfl⟩)
            exact AllReady.nil
          exact AllReady.nil
        exact AllReady.nil
      exact AllReady.nil
    · obtain rfl : k = pcs b.length := by omega
      have hsh : R = digK (turnsP s0 (filled b) (List.range (pcs b.length))).l 32 := HR.out.symm
      have hb3 : b3 < w5.heap.size := lt_heap H5.out
      have FW := Lib.hid (F5.out.trans f (fun i hi => by simp at hi; subst hi; exact .inr (by have := Z3.out; omega)))
      have IW := Lib.hid (f.heap I5.out (by have := Z3.out; simp; omega))
      have Z5 := Lib.hid (Nat.lt_of_lt_of_le hb3 f.size)
      generalize turnsP s0 (filled b) (List.range (pcs b.length)) = y at *
      have H := Lib.hid h
      have HSH := Lib.hid hsh
      clear h f hsh hb3
      have hyl : y.l.length = 8 := rfl
      generalize y.l = ws at *
      have HWL := Lib.hid hyl
      clear hyl
      go_upto_region 8 with (fail)
      have h6 : IsB (wr.alloc (.cells Z32 24)) wr.heap.size 24 (digK ws 0 ++ List.replicate (32 - 0) 0) := heap_alloc_new _ _
      have h3 : IsW (wr.alloc (.cells Z32 24)) b3 105 ws := heap_alloc_lt H.out
      have h2 := heap_alloc_lt (o := .cells Z32 24) IW.out
      have f6 := FW.out.alloc (.cells Z32 24)
      change Code.wp _ _ _ _ (wr.alloc (.cells Z32 24))
      obtain ⟨b6, hb6⟩ : ∃ b6, wr.heap.size = b6 := ⟨_, rfl⟩
      have hz5 := Z5.out
      rw [hb6] at h6 hz5 ⊢
      have hz6 : b6 < (wr.alloc (.cells Z32 24)).heap.size := by simp [hb6]
      have hwb : w.heap.size < b6 := by have := Z3.out; omega
      generalize wr.alloc (.cells Z32 24) = wz at *
      have START := Lib.hid (show RSumB wz ws b6 (.int .i64 0) wz from ⟨0, by omega, rfl, h6, Frm.refl _ _⟩)
      have H3 := Lib.hid h3
      have I2 := Lib.hid h2
      have F6 := Lib.hid f6
      have N36 := Lib.hid hz5
      have NWB := Lib.hid hwb
      clear h6 h3 h2 f6 hz5 hb6 hz6 hwb H IW FW Z5 I5 H5 F5 HL Z3 Z4
      go_wp2_with fail
      go_loopw [7] (RSumB wz ws b6) (fun c _ => 32 - (intOf c).toNat)
      case atStart => exact START.out
      case round =>
        clear START
        obtain ⟨k, hk, rfl, hX, f⟩ := hrel
        by_cases hlt : k < 32
        · have hql : k / 4 < ws.length := by rw [HWL.out]; omega
          have n36 := N36.out
          have hW : IsW _ b3 105 ws := f.heap H3.out (by simp; omega)
          have cq := hW.cell (k / 4) hql
          rw [at32_lt] at cq
          have hxl : k < (digK ws k ++ List.replicate (32 - k) (0 : UInt8)).length := by simp [digK_length]; omega
          have cx := hX.cell k hxl
          have zx := hX.frozen k
          generalize (digK ws k ++ List.replicate (32 - k) (0 : UInt8))[k]'hxl = x0 at cx
          have hset := digK_set ws k hlt
          have hdb : digB ws k = UInt8.ofNat ((at32 ws (k / 4)).toNat / 2 ^ (24 - 8 * (k % 4))) := rfl
          have hdv := dig_val (at32 ws (k / 4)) (24 - 8 * (k % 4))
          rw [← hdb] at hdv
          obtain ⟨q, hq⟩ : ∃ q, k / 4 = q := ⟨_, rfl⟩
          obtain ⟨r, hr⟩ : ∃ r, k % 4 = r := ⟨_, rfl⟩
          have hq0 : (k : Int) / 4 = (q : Int) := by omega
          have hr0 : (k : Int) % 4 = (r : Int) := by omega
          have hr4 : (r : Int) < 4 := by omega
          have hq8 : (q : Int) < 8 := by omega
          have hrp : (0 : Int) ≤ (r : Int) := by omega
          have hqp : (0 : Int) ≤ (q : Int) := by omega
          rw [hq] at cq hdv
          rw [hr] at hdv
          generalize at32 ws q = xq at *
          generalize digB ws k = db at *
          have hk32 : (k : Int) < 32 := by omega
          have HSET := Lib.hid hset
          have HDV := Lib.hid hdv
          have HX := Lib.hid hX
          have HF := Lib.hid f
          clear hset hdv hdb hW hX f hql hxl hq hr n36
          go_wp2_with fail
          refine ⟨⟨k + 1, by omega, by go_num, ?_, HF.out.setCell _ _ (.inl (by simp))⟩, by simp [intOf]; omega⟩
          rw [← HSET.out]
          exact HX.out.store k db (by rw [HDV.out]; rfl)
        · obtain rfl : k = 32 := by omega
          have hX' : IsB wr b6 24 (digK ws 32) := by simpa using hX
          have hsz : (bvs (digK ws 32)).toArray.size = 32 := by simp [bvs_length, digK_length]
          have hi2 := f.heap I2.out (by have := NWB.out; simp; omega)
          have hfr : Frm [] w (wr.setRow w.heap.size (bvs (digK ws 32)).toArray) := (F6.out.trans f (fun i hi => by simp at hi; subst hi; exact .inr (by have := NWB.out; omega))).setRow _ _ (.inr (Nat.le_refl _))
          have hres := setRow_heap wr w.heap.size _ (bvs (digK ws 32)).toArray 24 (0, 0) hi2
          have HX := Lib.hid hX'
          have HI2 := Lib.hid hi2
          have HFR := Lib.hid hfr
          have HRES := Lib.hid hres
          have HSZ := Lib.hid hsz
          clear hX hX' f hi2 hfr hres hsz
          go_upto_region 12 with (fail)
          refine wp_region_lit ?_
          refine wpList_load_row rfl 24 (.tmp 6) rfl b6 rfl 24 (bvs (digK ws 32)).toArray (0, 0) _ HX.out d29 rfl (by rw [HSZ.out]; exact i29) ?_
          refine wpList_store_row rfl 24 (.tmp 2) (.tmp 42) rfl w.heap.size (bvs (digK ws 32)).toArray rfl rfl 24 _ HI2.out (by rw [HSZ.out]; exact i29) (by rw [HSZ.out]; simp [bvs_length]) (bvs_oneA _) ?_
          generalize wr.setRow w.heap.size (bvs (digK ws 32)).toArray = w9 at *
          go_wp2_with fail
          rw [HSH.out]
          exact bodyPost_ret (v := .agg (bvs (digK ws 32)).toArray) (results_cell_row rfl _ _ _ 24 _ (0, 0) _ rfl HRES.out d29 rfl (by rw [HSZ.out]; exact i29)) rfl ⟨rfl, HFR.out⟩
end Go.Proofs.YtjdejhgfkjeeiaaGreatDoor.Hs

namespace Go.Proofs.YtjdejhgfkjeeiaaGreatDoor
open Go.RowKit
set_option linter.unusedVariables false
set_option linter.unusedSimpArgs false
set_option maxRecDepth 100000

open Pt (Pt may enc readPt readE zeroPt pc pv PtV SlA OwnA)
set_option maxHeartbeats 2000000 in
theorem RefSame_any (x y : Value) (u v : Ub) (w : World) (hx : UbV w x u) (hy : UbV w y v) (hl : u.root.ads.length ≤ 1000000) : Calls Tryz.prog 22 #[x, y] w fun r w' => r = .returned (.bool (sameU u v)) ∧ Frm [] w w' := by
  obtain ⟨a, cap, sp, rfl, hS, hw⟩ := id hx
  obtain ⟨a2, cap2, sp2, rfl, hS2, hw2⟩ := id hy
  have hR := fun W (f : Frm [] w W) => Pt.RefSame_any _ _ u.root v.root W (hx.root.keep0 f) (hy.root.keep0 f) hl
  have b1 : UB ((w.alloc (.cells (uc (.slice a u.root.ads.length cap) u).toArray 28)).alloc (.cells (uc (.slice a2 v.root.ads.length cap2) v).toArray 28)) w.heap.size (.slice a u.root.ads.length cap) u := (UB.new w _ hw).keep0 ((Frm.refl [] _).alloc _)
  have b2 : UB ((w.alloc (.cells (uc (.slice a u.root.ads.length cap) u).toArray 28)).alloc (.cells (uc (.slice a2 v.root.ads.length cap2) v).toArray 28)) (w.heap.size + 1) (.slice a2 v.root.ads.length cap2) v := by
    have := UB.new (w.alloc (.cells (uc (.slice a u.root.ads.length cap) u).toArray 28)) (.slice a2 v.root.ads.length cap2) hw2
    simpa using this
  have f0 : Frm [] w ((w.alloc (.cells (uc (.slice a u.root.ads.length cap) u).toArray 28)).alloc (.cells (uc (.slice a2 v.root.ads.length cap2) v).toArray 28)) := ((Frm.refl [] w).alloc _).alloc _
  have HQ := Lib.hid (show sameU u v = (u.txg == v.txg && (Pt.same u.root v.root && (u.len == v.len && u.pool == v.pool))) from rfl)
  have HR := Lib.hid hR
  have P1 := Lib.hid hw.pool
  have P2 := Lib.hid hw2.pool
  have g1 := b1.gets
  have g2 := b2.gets
  have c0 := g1.c0
  have d0 := g2.c0
  have e36 := g1.c36
  have k36 := g2.c36
  have R1 := Lib.hid g1.root
  have R2 := Lib.hid g2.root
  have L1 := Lib.hid g1.pool
  have L2 := Lib.hid g2.pool
  clear hR b1 b2 hx hy hS hS2 hw hw2 g1 g2
  rw [uv_box, uv_box]
  generalize hA : (uc (.slice a u.root.ads.length cap) u).toArray = A at *
  generalize hB : (uc (.slice a2 v.root.ads.length cap2) v).toArray = B at *
  generalize hq : Pt.same u.root v.root = q at *
  generalize hp : (u.pool == v.pool) = p at *
  have HP := Lib.hid hp
  go_enter Tryz.func22, Tryz.ntmps22
  go_upto_region 1 with fail
  generalize (w.alloc (.cells A 28)).alloc (.cells B 28) = W at *
  have F0 := Lib.hid f0
  clear f0 hA hB hq hp
  go_wp2_with (first
    | ((with_reducible (show wpList _ _ _ (Oper.mk (some 26) (Op.load 26 _) _ _ _ _ :: _) _ _)); refine wpList_load_g (by rfl) 26 _ rfl _ rfl R1.out ?_)
    | ((with_reducible (show wpList _ _ _ (Oper.mk (some 28) (Op.load 26 _) _ _ _ _ :: _) _ _)); refine wpList_load_g (by rfl) 26 _ rfl _ rfl R2.out ?_)
    | ((with_reducible (show wpList _ _ _ (Oper.mk (some 19) (Op.load 24 _) _ _ _ _ :: _) _ _)); refine wpList_load_g (by rfl) 24 _ rfl _ rfl L1.out ?_)
    | ((with_reducible (show wpList _ _ _ (Oper.mk (some 21) (Op.load 24 _) _ _ _ _ :: _) _ _)); refine wpList_load_g (by rfl) 24 _ rfl _ rfl L2.out ?_)
    | ((with_reducible (show wpList _ _ _ (Oper.mk (some 22) _ _ _ _ _ :: _) _ _)); refine wpList_eq24 (by rfl) _ _ rfl rfl rfl P1.out P2.out HP.out ?_)
    | (go_at_call 61; refine (HR.out _ F0.out).mono ?_; rintro r w1 ⟨rfl, f1⟩; have F1 := Lib.hid (F0.out.trans f1 (by simp))))
  all_goals
    go_ret
    first
      | refine ⟨ret_bool ?_, F1.out⟩
      | refine ⟨ret_bool ?_, F0.out⟩
    rw [HQ.out]
    simp_all
theorem ret_int {a b : Int} (h : a = b) : Ending.returned (.int .i64 a) = .returned (.int .i64 b) := by rw [h]
set_option maxHeartbeats 4000000 in
theorem RefUCheck_any (x : Value) (u : Ub) (w : World) (h : UbV w x u) (hl : u.root.ads.length ≤ 1000000) : Calls Tryz.prog 20 #[x] w fun r w' => r = .returned (.int .i64 (mayE u)) ∧ Frm [] w w' := by
  obtain ⟨a, cap, sp, rfl, hS, hw⟩ := id h
  have HC := Lib.hid (fun W (f : Frm [] w W) => Pt.RefCheck_any _ u.root W (h.root.keep0 f) hl)
  have HH := Lib.hid (fun W (f : Frm [] w W) => Pt.RefHole_any _ u.root W (h.root.keep0 f))
  have b0 := UB.new w (.slice a u.root.ads.length cap) hw
  have f0 : Frm [] w (w.alloc (.cells (uc (.slice a u.root.ads.length cap) u).toArray 28)) := (Frm.refl [] w).alloc _
  have g0 := b0.gets
  have HM := Lib.hid (show mayE u = if (decide (1 ≤ u.txg ∧ u.txg ≤ 2147483648) && ((Pt.hole u.root || (Pt.mayB u.root && (u.root.l == 3 && decide (u.root.b ≤ u.txg)))) && decide (0 ≤ u.len ∧ u.len ≤ 16384))) = true then 0 else 2 from rfl)
  have hhm : Pt.hole u.root = true → Pt.mayB u.root = true := fun e => (Pt.mayB_iff _).2 (.inl e)
  have HB := Lib.hid b0
  have G0 := Lib.hid g0.root
  have c0 := g0.c0
  have c36 := g0.c36
  have c2 : (w.alloc (.cells (uc (.slice a u.root.ads.length cap) u).toArray 28)).cell? ⟨w.heap.size, 2, none⟩ = some (.int .i64 u.root.b) := b0.1.cell 2 rfl
  have c3 : (w.alloc (.cells (uc (.slice a u.root.ads.length cap) u).toArray 28)).cell? ⟨w.heap.size, 3, none⟩ = some (.int .i64 u.root.l) := b0.1.cell 3 rfl
  clear b0 g0 h hS
  rw [uv_box]
  unfold Pt.chk at HC
  generalize hA : (uc (.slice a u.root.ads.length cap) u).toArray = A at *
  generalize hq : Pt.hole u.root = q at *
  generalize hm : Pt.mayB u.root = m at *
  go_enter Tryz.func20, Tryz.ntmps20
  go_upto_region 1 with fail
  generalize w.alloc (.cells A 28) = W at *
  have F0 := Lib.hid f0
  clear f0 hA hq hm
  have HQM := Lib.hid hhm
  clear hhm
  by_cases h1 : u.txg < 1
  · go_wp2_with fail
    go_ret
    refine ⟨ret_int ?_, F0.out⟩
    rw [HM.out, if_neg (by simp; intro; omega)]
  by_cases h2 : (2147483648 : Int) < u.txg
  · go_wp2_with fail
    go_ret
    refine ⟨ret_int ?_, F0.out⟩
    rw [HM.out, if_neg (by simp; intro; omega)]
  by_cases h3 : u.len < 0
  · go_wp2_with fail
    go_ret
    refine ⟨ret_int ?_, F0.out⟩
    rw [HM.out, if_neg (by simp; intros; omega)]
  by_cases h4 : (16384 : Int) < u.len
  · go_wp2_with fail
    go_ret
    refine ⟨ret_int ?_, F0.out⟩
    rw [HM.out, if_neg (by simp; intros; omega)]
  cases m with
  | false =>
    rw [if_neg (by simp)] at HC
    go_wp2_with (first
      | ((with_reducible (show wpList _ _ _ (Oper.mk _ (Op.load 26 _) _ _ _ _ :: _) _ _)); refine wpList_load_g (by rfl) 26 _ rfl _ rfl G0.out ?_)
      | (go_at_call 58; refine (HC.out _ F0.out).mono ?_; rintro r w1 ⟨rfl, f1⟩))
    go_ret
    refine ⟨ret_int ?_, F0.out.trans f1 (by simp)⟩
    rw [HM.out]
    have := HQM.out
    cases q <;> simp at this ⊢
  | true =>
    rw [if_pos rfl] at HC
    go_upto_region 3 with (first
      | ((with_reducible (show wpList _ _ _ (Oper.mk _ (Op.load 26 _) _ _ _ _ :: _) _ _)); refine wpList_load_g (by rfl) 26 _ rfl _ rfl G0.out ?_)
      | (go_at_call 58; refine (HC.out _ F0.out).mono ?_; rintro r w1 ⟨rfl, f1⟩))
    have F1 := Lib.hid (F0.out.trans f1 (by simp))
    have B1 := Lib.hid (HB.out.keep0 f1)
    have G1 := Lib.hid B1.out.gets.root
    clear f1 c0 c36 c2 c3 G0 HB F0
    cases q with
    | true =>
      go_wp2_with (first
        | ((with_reducible (show wpList _ _ _ (Oper.mk _ (Op.load 26 _) _ _ _ _ :: _) _ _)); refine wpList_load_g (by rfl) 26 _ rfl _ rfl G1.out ?_)
        | (go_at_call 59; refine (HH.out _ F1.out).mono ?_; rintro r w2 ⟨rfl, f2⟩))
      go_ret
      refine ⟨ret_int ?_, F1.out.trans f2 (by simp)⟩
      rw [HM.out, if_pos (by simp; omega)]
    | false =>
      by_cases h5 : u.root.l = 3
      · have H5 := Lib.hid h5
        clear h5
        by_cases h6 : u.txg < u.root.b
        · go_wp2_with (first
            | ((with_reducible (show wpList _ _ _ (Oper.mk _ (Op.load 26 _) _ _ _ _ :: _) _ _)); refine wpList_load_g (by rfl) 26 _ rfl _ rfl G1.out ?_)
            | (go_at_call 59; refine (HH.out _ F1.out).mono ?_; rintro r w2 ⟨rfl, f2⟩; have B2 := B1.out.keep0 f2; have c0 := B2.gets.c0; have c2 : w2.cell? ⟨w.heap.size, 2, none⟩ = some (.int .i64 u.root.b) := B2.1.cell 2 rfl; have c3 : w2.cell? ⟨w.heap.size, 3, none⟩ = some (.int .i64 u.root.l) := B2.1.cell 3 rfl; rw [H5.out] at c3; clear B2))
          go_ret
          refine ⟨ret_int ?_, F1.out.trans f2 (by simp)⟩
          rw [HM.out, if_neg (by simp; intros; omega)]
        · go_wp2_with (first
            | ((with_reducible (show wpList _ _ _ (Oper.mk _ (Op.load 26 _) _ _ _ _ :: _) _ _)); refine wpList_load_g (by rfl) 26 _ rfl _ rfl G1.out ?_)
            | (go_at_call 59; refine (HH.out _ F1.out).mono ?_; rintro r w2 ⟨rfl, f2⟩; have B2 := B1.out.keep0 f2; have c0 := B2.gets.c0; have c2 : w2.cell? ⟨w.heap.size, 2, none⟩ = some (.int .i64 u.root.b) := B2.1.cell 2 rfl; have c3 : w2.cell? ⟨w.heap.size, 3, none⟩ = some (.int .i64 u.root.l) := B2.1.cell 3 rfl; rw [H5.out] at c3; clear B2))
          go_ret
          refine ⟨ret_int ?_, F1.out.trans f2 (by simp)⟩
          rw [HM.out, if_pos (by simp [H5.out]; omega)]
      · have h5' : (u.root.l == 3) = false := beq_eq_false_iff_ne.2 h5
        go_wp2_with (first
          | ((with_reducible (show wpList _ _ _ (Oper.mk _ (Op.load 26 _) _ _ _ _ :: _) _ _)); refine wpList_load_g (by rfl) 26 _ rfl _ rfl G1.out ?_)
          | (go_at_call 59; refine (HH.out _ F1.out).mono ?_; rintro r w2 ⟨rfl, f2⟩; have B2 := B1.out.keep0 f2; have c0 := B2.gets.c0; have c2 : w2.cell? ⟨w.heap.size, 2, none⟩ = some (.int .i64 u.root.b) := B2.1.cell 2 rfl; have c3 : w2.cell? ⟨w.heap.size, 3, none⟩ = some (.int .i64 u.root.l) := B2.1.cell 3 rfl; clear B2))
        go_ret
        refine ⟨ret_int ?_, F1.out.trans f2 (by simp)⟩
        rw [HM.out, if_neg (by simp [h5])]
end Go.Proofs.YtjdejhgfkjeeiaaGreatDoor

namespace Go.Proofs.YtjdejhgfkjeeiaaGreatDoor
open Go.RowKit
set_option linter.unusedVariables false
set_option linter.unusedSimpArgs false
set_option maxRecDepth 100000

open Pt (Pt may enc readPt readE zeroPt pc pv PtV SlA OwnA)
/-- How far a writer of the document's, of one's own, is. -/
def DS (w0 : World) (bw : Nat) (m : List UInt8) (w : World) : Prop := ∃ v sp, Rw w bw v m sp 0 ∧ (∀ i ∈ blk v, w0.heap.size ≤ i) ∧ Frm [] w0 w ∧ w0.heap.size ≤ bw
section
variable {w0 w w' : World} {bw : Nat} {m : List UInt8}
theorem DS.frm (h : DS w0 bw m w) : Frm [] w0 w := by
  obtain ⟨_, _, _, _, f, _⟩ := h
  exact f
theorem DS.lt (h : DS w0 bw m w) : bw < w.heap.size := by
  obtain ⟨_, _, h, _, f, _⟩ := h
  exact h.lt _ (by simp)
theorem DS.keep0 (h : DS w0 bw m w) (f : Frm [] w w') : DS w0 bw m w' := by
  obtain ⟨v, sp, h1, h2, h3, h4⟩ := h
  exact ⟨v, sp, h1.keep f (by simp) (by simp), h2, h3.trans f (by simp), h4⟩
theorem DS.to {v : Value} {l : List UInt8} (h1 : ∀ i ∈ blk v, w0.heap.size ≤ i) (h2 : Frm [] w0 w) (h3 : w0.heap.size ≤ bw) (h : RwTo w bw v (l, 0) w') : DS w0 bw l w' := by
  obtain ⟨v', sp', k1, k2, k3⟩ := h
  refine ⟨v', sp', k1, fun i hi => ?_, h2.trans k2 (fun i hi => .inr ?_), h3⟩
  · rcases k3 i hi with h | h
    · exact h1 i h
    · have := h2.size; omega
  · rcases List.mem_cons.1 hi with rfl | h
    · exact h3
    · exact h1 i h
theorem DS.raw (h : DS w0 bw m w) {x : Value} {b bsp : List UInt8} (hS : SlB w x b bsp) (hx : bw ∉ blkR x) (hl : m.length + b.length ≤ 1000) : Calls Tryz.prog 53 #[.pointer (some ⟨bw, 0, none⟩), x] w fun r w' => r = .returned (.tuple #[]) ∧ DS w0 bw (m ++ b) w' := by
  obtain ⟨v, sp, h1, h2, h3, h4⟩ := h
  have hr := RRaw_any bw v x m sp b bsp 0 w h1 hS hx (by omega) (by omega)
  rw [step_raw (by omega)] at hr
  refine hr.mono ?_
  rintro r w' ⟨rfl, hw⟩
  exact ⟨rfl, DS.to h2 h3 h4 hw⟩
theorem DS.num (h : DS w0 bw m w) (n : Int) (k : Nat) (h1 : 1 ≤ k) (h7 : k ≤ 7) (hn0 : 0 ≤ n) (hn : n < 2 ^ (8 * k)) (hn6 : n ≤ 9223372036854775807) (hl : m.length ≤ 1000) : Calls Tryz.prog 54 #[.pointer (some ⟨bw, 0, none⟩), .int .i64 n, .int .i64 k] w fun r w' => r = .returned (.tuple #[]) ∧ DS w0 bw (m ++ beBytes n.toNat k) w' := by
  obtain ⟨v, sp, k1, k2, k3, k4⟩ := h
  have hr := RNum_any bw v m sp 0 n k w k1 (by omega) hn6
  rw [step_num (by omega) (by omega) hn0 (by simpa using hn) (by omega)] at hr
  refine hr.mono ?_
  rintro r w' ⟨rfl, hw⟩
  exact ⟨rfl, DS.to k2 k3 k4 (by simpa using hw)⟩
theorem DS.pad (h : DS w0 bw m w) (hl : m.length ≤ 224) : Calls Tryz.prog 55 #[.pointer (some ⟨bw, 0, none⟩), .int .i64 224] w fun r w' => r = .returned (.tuple #[]) ∧ DS w0 bw (m ++ List.replicate (224 - m.length) 0) w' := by
  obtain ⟨v, sp, k1, k2, k3, k4⟩ := h
  have hr := RPad_any bw v m sp 0 (224 : Nat) w k1 (by omega)
  rw [step_pad hl (by omega)] at hr
  refine hr.mono ?_
  rintro r w' ⟨rfl, hw⟩
  exact ⟨rfl, DS.to k2 k3 k4 hw⟩
theorem DS.out (h : DS w0 bw m w) (hl : m.length ≤ 1000) : Calls Tryz.prog 56 #[.pointer (some ⟨bw, 0, none⟩)] w fun r w' => ∃ a cap sp, r = .returned (.tuple #[.slice a m.length cap, .int .i64 0]) ∧ OwnB 5 w' (.slice a m.length cap) m sp ∧ Frm [] w w' ∧ Fresh w (.slice a m.length cap) := by
  obtain ⟨v, sp, k1, k2, k3, k4⟩ := h
  exact ROut_any bw v m sp 0 w k1 (by omega)
/-- The bytes that it has lie in the box. -/
theorem DS.cell (h : DS w0 bw m w) : ∃ a cap sp, w.cell? ⟨bw, 0, none⟩ = some (.slice a m.length cap) ∧ SlB w (.slice a m.length cap) m sp := by
  obtain ⟨v, sp, k1, k2, k3, k4⟩ := h
  obtain ⟨a, cap, rfl, _, _⟩ := k1.2.1.sl.form
  exact ⟨a, cap, sp, by rw [cell_of_heap k1.1]; rfl, k1.2.1.sl⟩
end
set_option maxHeartbeats 8000000 in
theorem RefPack_any (x : Value) (u : Ub) (w : World) (h : UbV w x u) (hl : u.root.ads.length ≤ 1000000) : Calls Tryz.prog 17 #[x] w (PackP u w) := by
  obtain ⟨a, cap, sp, rfl, hS, hw⟩ := id h
  have hC := fun W (f : Frm [] w W) => RefUCheck_any _ u W (h.keep0 f) hl
  have HBy := Lib.hid (fun W (f : Frm [] w W) => Pt.RefBytes_any _ u.root W (h.root.keep0 f) hl)
  have b0 := UB.new w (.slice a u.root.ads.length cap) hw
  have f0 : Frm [] w (w.alloc (.cells (uc (.slice a u.root.ads.length cap) u).toArray 28)) := (Frm.refl [] w).alloc _
  have HB := Lib.hid b0
  have G0 := Lib.hid b0.gets.all
  have HC := Lib.hid (hC _ f0)
  have HW := Lib.hid hw
  have hpv := uv_box (.slice a u.root.ads.length cap) u
  clear h hS hC b0 hw
  rw [hpv] at HC G0 ⊢
  have HPV := Lib.hid hpv
  clear hpv
  generalize hA : (uc (.slice a u.root.ads.length cap) u).toArray = A at *
  go_enter Tryz.func17, Tryz.ntmps17
  go_upto_region 1 with fail
  generalize w.alloc (.cells A 28) = W at *
  have F0 := Lib.hid f0
  clear f0 hA
  by_cases hm : MayU u
  · rw [mayE_yes hm] at HC
    go_upto_region 3 with (first
      | ((with_reducible (show wpList _ _ _ (Oper.mk _ (Op.load 28 _) _ _ _ _ :: _) _ _)); refine wpList_load_g (by rfl) 28 _ rfl _ rfl G0.out ?_)
      | (go_at_call 20; refine HC.out.mono ?_; rintro r w1 ⟨rfl, f1⟩))
    have B1 := Lib.hid (HB.out.keep0 f1)
    have R1 := Lib.hid B1.out.gets.root
    have F1 := Lib.hid (F0.out.trans f1 (by simp))
    have HB1 := Lib.hid (HBy.out _ F1.out)
    have hbe : Pt.outB u.root = enc u.root := by unfold Pt.outB; rw [if_pos ((Pt.mayB_iff _).2 hm.root)]
    have he := Pt.enc_len hm.root HW.out.sum
    have HEL := Lib.hid he
    have hhd : headU u = ((((mark ++ u.pool) ++ beBytes u.txg.toNat 5) ++ beBytes u.len.toNat 3) ++ enc u.root) ++ List.replicate 129 0 := by simp [headU, midU, -List.reduceReplicate]
    have hhl := headU_length HW.out hm
    unfold Pt.BytesP at HB1
    rw [hbe] at HB1
    have HPK := Lib.hid (show packO u = headU u ++ Hs.sha (headU u) from by rw [packO_yes hm]; rfl)
    have HME := Lib.hid (mayE_yes hm)
    have HM := Lib.hid hm
    clear hbe he hm HC G0 HB HBy f1
    obtain ⟨H, hH⟩ : ∃ H, headU u = H := ⟨_, rfl⟩
    rw [hH] at hhd hhl HPK
    have HHD := Lib.hid hhd
    have HHL := Lib.hid hhl
    clear hH hhd hhl
    obtain ⟨en, hen⟩ : ∃ en, enc u.root = en := ⟨_, rfl⟩
    rw [hen] at HB1 HEL HHD
    clear hen
    go_upto_region 4 with (first
      | ((with_reducible (show wpList _ _ _ (Oper.mk _ (Op.load 26 _) _ _ _ _ :: _) _ _)); refine wpList_load_g (by rfl) 26 _ rfl _ rfl R1.out ?_)
      | (go_at_call 52; refine HB1.out.mono ?_; rintro r w2 ⟨a1, c1, s1, rfl, o1, f2, n1⟩))
    have O2 := Lib.hid o1.sl
    have B2 := Lib.hid (B1.out.keep0 f2)
    have F2 := Lib.hid (F1.out.trans f2 (by simp))
    have NX := Lib.hid (show w2.heap.size ∉ blkR (.slice a1 en.length c1) from fun hm => by have := o1.lt _ (blkR_sub hm); omega)
    clear o1 f2 n1 B1 F1 HB1 R1
    go_upto_region 5 with fail
    have S3 := Lib.hid (show DS w2 w2.heap.size [] (w2.alloc (.cells #[.slice none 0 0, .int .i64 0] 78)) from ⟨.slice none 0 0, [], ⟨heap_alloc_new _ _, OwnB.nil _ _, by simp [blk]⟩, by simp [blk], (Frm.refl [] w2).alloc _, Nat.le_refl _⟩)
    generalize w2.alloc (.cells #[.slice none 0 0, .int .i64 0] 78) = w3 at *
    generalize w2.heap.size = bw at *
    have hSm := Hs.slb_new w3 mark 8 #[.int .u8 67, .int .u8 65, .int .u8 85, .int .u8 76, .int .u8 75, .int .u8 69, .int .u8 82, .int .u8 50] (8, 9) rfl rfl (by simp [mark, maxLen])
    have fm : Frm [] w3 (w3.alloc (.cells #[.int .u8 67, .int .u8 65, .int .u8 85, .int .u8 76, .int .u8 75, .int .u8 69, .int .u8 82, .int .u8 50] 5 (8, 9))) := (Frm.refl [] w3).alloc _
    have C3 := Lib.hid ((S3.out.keep0 fm).raw hSm (by have := S3.out.lt; simp [blkR]; omega) (by simp [mark]))
    have kc := fun (w : World) (C : Array Value) (n c : Nat) => Lib.run_convert_bytes_const (P := Tryz.prog) w 32 5 C n c Tryz.underlying32 Tryz.underlying5
    clear hSm fm
    go_upto_region 6 with (go_at_call 53; refine C3.out.mono ?_; rintro r w4 ⟨rfl, h4⟩; have S4 := Lib.hid h4; clear h4)
    clear kc C3 S3
    have hsl := sliceAt24
    have o0 : OwnB 5 (w4.alloc (.cells #[] 5)) (.slice (some ⟨w4.heap.size, 0, none⟩) 0 0) [] [] := OwnB.of_heap (heap_alloc_new _ _) rfl rfl (by simp)
    have fe : Frm [] w4 (w4.alloc (.cells #[] 5)) := (Frm.refl _ _).alloc _
    have BXh := Lib.hid ((B2.out.keep0 (S4.out.frm.trans fe (by simp))).poolS)
    have FE := Lib.hid fe
    have O0 := Lib.hid o0
    have hlp := HW.out.pool
    clear fe o0
    go_upto_region 7 with (first | (at_builtin; refine wpList_append_bytes BT O0.out BXh.out (by rw [HW.out.pool]; decide) rfl (.tmp 24) (.tmp 26) rfl rfl rfl ?_; intro a2 c2 W5 s2 o2 fa b2; simp only [List.length_nil, Nat.zero_add, HW.out.pool, List.nil_append] at o2 b2; have FA := Lib.hid (FE.out.trans fa (by simp [blk])); have HRa := Lib.hid ((S4.out.keep0 FA.out).raw o2.sl (fun hm => by have h9 := blkR_sub hm; have := S4.out.lt; rcases b2 _ h9 with h9 | h9 <;> simp [blk] at h9 <;> omega) (by simp [mark, HW.out.pool])); clear fa b2 o2) | (go_at_call 53; refine HRa.out.mono ?_; rintro r w5 ⟨rfl, h5⟩; have S5 := Lib.hid h5; clear h5))
    clear hsl HRa FA BXh FE O0 S4 hlp
    have c0 := ((B2.out.keep0 S5.out.frm).gets).c0
    have C5 := Lib.hid (S5.out.num u.txg 5 (by omega) (by omega) (by have := HM.out.t1; omega) (by have := HM.out.t2; omega) (by have := HM.out.t2; omega) (by rw [List.length_append, HW.out.pool]; simp [mark]))
    go_upto_region 8 with (go_at_call 54; refine C5.out.mono ?_; rintro r w6 ⟨rfl, h6⟩; have S6 := Lib.hid h6; clear h6)
    clear c0 C5 S5
    have c36 := ((B2.out.keep0 S6.out.frm).gets).c36
    have C6 := Lib.hid (S6.out.num u.len 3 (by omega) (by omega) HM.out.l0 (by have := HM.out.l1; omega) (by have := HM.out.l1; omega) (by simp [mark, HW.out.pool, beBytes_length]))
    go_upto_region 9 with (go_at_call 54; refine C6.out.mono ?_; rintro r w7 ⟨rfl, h7⟩; have S7 := Lib.hid h7; clear h7)
    clear c36 C6 S6
    have C7 := Lib.hid (S7.out.raw (O2.out.keep S7.out.frm (by simp)) NX.out (by simp [mark, HW.out.pool, beBytes_length, HEL.out]))
    go_upto_region 10 with (go_at_call 53; refine C7.out.mono ?_; rintro r w8 ⟨rfl, h8⟩; have S8 := Lib.hid h8; clear h8)
    clear C7 S7
    have e7 : ([] ++ mark ++ u.pool ++ beBytes u.txg.toNat 5 ++ beBytes u.len.toNat 3 ++ en).length = 95 := by simp [mark, HW.out.pool, beBytes_length, HEL.out]
    have C8 := Lib.hid (S8.out.pad (by rw [e7]; omega))
    rw [e7, show ([] ++ mark ++ u.pool ++ beBytes u.txg.toNat 5 ++ beBytes u.len.toNat 3 ++ en) ++ List.replicate (224 - 95) 0 = H by rw [HHD.out]; simp [-List.reduceReplicate]] at C8
    clear e7
    go_upto_region 11 with (go_at_call 55; refine C8.out.mono ?_; rintro r w9 ⟨rfl, h9⟩; have S9 := Lib.hid h9; clear h9)
    clear C8 S8
    obtain ⟨ab, cb, sb, kb, kS⟩ := S9.out.cell
    have HSm := Lib.hid (Hs.RefSum_any _ H sb w9 kS (by rw [HHL.out]; decide))
    have hsl := sha_length H
    rw [show (Value.agg (bvs (Hs.sha H)).toArray) = idv (Hs.sha H) from rfl] at HSm
    obtain ⟨X, hX⟩ : ∃ X, Hs.sha H = X := ⟨_, rfl⟩
    rw [hX] at HSm hsl HPK
    clear hX kS
    go_upto_region 12 with (first
      | (go_at_call 32; refine HSm.out.mono ?_; rintro r wa ⟨rfl, fa⟩)
      | ((with_reducible (show wpList _ _ _ (Oper.mk _ (Op.alloc 24) _ _ _ _ :: _) _ _)); refine wpList_lay24 rfl rfl rfl _ _ rfl (s := X) hsl rfl rfl ?_))
    have h4 := heap_alloc_new wa (.cells (bvs X).toArray 24)
    have f4 : Frm [] wa (wa.alloc (.cells (bvs X).toArray 24)) := (Frm.refl [] wa).alloc _
    have SX := slb_id h4 hsl
    have S10 := Lib.hid (S9.out.keep0 (fa.trans f4 (by simp)))
    clear h4 f4 fa kb S9 HSm
    generalize wa.alloc (.cells (bvs X).toArray 24) = w10 at *
    generalize wa.heap.size = gd at *
    have hsz := sliceAt24z
    have o0 : OwnB 5 (w10.alloc (.cells #[] 5)) (.slice (some ⟨w10.heap.size, 0, none⟩) 0 0) [] [] := OwnB.of_heap (heap_alloc_new _ _) rfl rfl (by simp)
    have fe : Frm [] w10 (w10.alloc (.cells #[] 5)) := (Frm.refl _ _).alloc _
    have BXh := Lib.hid (SX.keep fe (by simp))
    have FE := Lib.hid fe
    have O0 := Lib.hid o0
    have HXL := Lib.hid hsl
    clear fe o0 SX
    go_upto_region 13 with (first | (at_builtin; refine wpList_append_bytes BT O0.out BXh.out (by rw [HXL.out]; decide) rfl (.tmp 48) (.tmp 49) rfl rfl rfl ?_; intro a2 c2 W5 s2 o2 fa b2; simp only [List.length_nil, Nat.zero_add, HXL.out, List.nil_append] at o2 b2; have FA := Lib.hid (FE.out.trans fa (by simp [blk])); have HRa := Lib.hid ((S10.out.keep0 FA.out).raw o2.sl (fun hm => by have h9 := blkR_sub hm; have := S10.out.lt; rcases b2 _ h9 with h9 | h9 <;> simp [blk] at h9 <;> omega) (by rw [HHL.out, HXL.out]; decide)); clear fa b2 o2) | (go_at_call 53; refine HRa.out.mono ?_; rintro r w11 ⟨rfl, h11⟩; have S11 := Lib.hid h11; clear h11))
    rw [← HPK.out] at S11
    have hpl : (packO u).length = 256 := by rw [HPK.out, List.length_append, HHL.out, HXL.out]
    have C9 := Lib.hid (S11.out.out (by rw [hpl]; omega))
    clear hpl
    obtain ⟨PO, hPO⟩ : ∃ PO, packO u = PO := ⟨_, rfl⟩
    rw [hPO] at C9
    have HPO := Lib.hid hPO
    clear hPO
    go_wp2_with (go_at_call 56; refine C9.out.mono ?_; rintro r w12 ⟨a9, c9, s9, rfl, o9, f9, n9⟩)
    go_ret2
    have ff := F2.out.trans S11.out.frm (by simp)
    have e := HPO.out
    subst e
    exact ⟨a9, c9, s9, by rw [HME.out]; rfl, o9, ff.trans f9 (by simp), fun i hi => Nat.le_trans ff.size (n9 i hi)⟩
  · rw [mayE_no hm] at HC
    have HM := Lib.hid hm
    clear hm
    go_wp2_with (first
      | ((with_reducible (show wpList _ _ _ (Oper.mk _ (Op.load 28 _) _ _ _ _ :: _) _ _)); refine wpList_load_g (by rfl) 28 _ rfl _ rfl G0.out ?_)
      | (go_at_call 20; refine HC.out.mono ?_; rintro r w1 ⟨rfl, f1⟩))
    go_ret2
    exact ⟨none, 0, [], by simp [packO_no HM.out, mayE_no HM.out], by rw [packO_no HM.out]; exact OwnB.nil _ _, F0.out.trans f1 (by simp), by simp [Fresh, blk]⟩
end Go.Proofs.YtjdejhgfkjeeiaaGreatDoor

namespace Go.Proofs.YtjdejhgfkjeeiaaGreatDoor
open Go.RowKit
set_option linter.unusedVariables false
set_option linter.unusedSimpArgs false
set_option maxRecDepth 100000

open Pt (Pt may enc readPt readE zeroPt pc pv PtV SlA OwnA)
theorem slice_h {P : Program} {tS T : TypeId} (B : ByteTys P tS T) {w : World} {a : Option Addr} {n cap : Nat} {l sp : List UInt8} (h : SlB w (.slice a n cap) l sp) (hi : Nat) (h2 : hi ≤ l.length) :
    ∃ a' c', (∀ (y : Int) (wx : World), y = hi → (Instr.slice tS (.slice a n cap) none (some (.int .i64 y)) none).run P wx = .ok (.slice a' hi c') wx) ∧ SlB w (.slice a' hi c') (l.take hi) (l.drop hi ++ sp) := by
  obtain ⟨a2, c2, e, hle, hm⟩ := h.form
  cases e
  have hc := h.cut 0 hi (Nat.zero_le _) h2
  simp only [List.drop_zero, Nat.sub_zero] at hc
  refine ⟨_, _, fun y wx hy => ?_, hc⟩
  subst hy
  obtain ⟨i, hi', hz, hs, hby⟩ := info_parts B.info
  have he : P.elem tS = T := by simp [Program.elem, B.sl]
  have hsz : (sizeOf (P.elem tS)).run P wx = .ok 1 wx := by rw [he]; simp [sizeOf, typeInfo, hi', hs]
  rw [run_slice_h (P := P) wx tS a l.length cap (by rw [he]; exact B.sl) .i64 hi (by omega) (by omega), hsz]
  simp [Result.andThen, sliced]
theorem exec_slice_hA {P : Program} {o : Oper} {a : Act} {w : World} {t : TypeId} {v u : Value} {y : Int} (s hi : Operand) (hop : o.op = Op.slice t s none (some hi) none) (hs : a.eval s = v) (h2 : a.eval hi = .int .i64 y)
    (ht : P.underlying t = some (.slice (P.elem t))) (h : (Instr.slice t v none (some (.int .i64 y)) none).run P w = .ok u w) : (execOp a.eval o).run P w = .ok (.value u) w := by
  simp [execOp, hop, hs, h2, run_sliceAt_slice w t _ _ _ _ ht, h, Result.andThen]
def midB : List UInt8 := [0, 0, 0, 1, 2, 0, 1, 44, 0]
/-- A yes that leaves all as it was. -/
def Yes (w : World) (e : Ending) (w' : World) : Prop := e = .returned (.bool true) ∧ Frm [] w w'
def PackOneP (PL : List UInt8) (w : World) (r : Ending) (w' : World) : Prop := ∃ a cap sp, r = .returned (.tuple #[.slice a 256 cap, .int .i64 0]) ∧ OwnB 5 w' (.slice a 256 cap) PL sp ∧ Frm [] w w'
def UnpOneP (u : Ub) (w : World) (r : Ending) (w' : World) : Prop := ∃ a cap, r = .returned (.tuple #[uv (.slice a u.root.ads.length cap) u, .int .i64 0]) ∧ UbV w' (uv (.slice a u.root.ads.length cap) u) u ∧ Frm [] w w'
end Go.Proofs.YtjdejhgfkjeeiaaGreatDoor

namespace Go.Proofs.YtjdejhgfkjeeiaaGreatDoor
open Go.RowKit
set_option linter.unusedVariables false
set_option linter.unusedSimpArgs false
set_option maxRecDepth 100000

open Pt (Pt may enc readPt readE zeroPt pc pv PtV SlA OwnA pc_size pc_one)
theorem UB.setTxg {w : World} {g : Nat} {v : Value} {u : Ub} (h : UB w g v u) (t : Int) : UB (w.setCell ⟨g, 0, none⟩ (.int .i64 t)) g v { u with txg := t } :=
  ⟨Blk.put1 (pre := []) (o := 0) (post := pc v u.root.b u.root.l u.root.s ++ (.int .i64 u.len :: bvs u.pool)) h.1 rfl, ⟨h.wf.pool, h.wf.sum⟩⟩
theorem UB.setLen {w : World} {g : Nat} {v : Value} {u : Ub} (h : UB w g v u) (t : Int) : UB (w.setCell ⟨g, 36, none⟩ (.int .i64 t)) g v { u with len := t } := by
  have hb := h.1
  rw [uc_split3] at hb
  have h2 := hb.put1 (o := 36) (u' := .int .i64 t) (by simp [pc_length h.wf.sum])
  exact ⟨by rw [uc_split3]; exact h2, ⟨h.wf.pool, h.wf.sum⟩⟩
theorem UB.setRoot {w : World} {g : Nat} {v v' : Value} {u : Ub} {p : Pt} (h : UB w g v u) (hp : p.s.length = 32) : UB (w.setCells g 1 (pc v' p.b p.l p.s)) g v' { u with root := p } := by
  have hb := h.1
  rw [uc_split1] at hb
  have h2 := hb.put (o := 1) (row' := pc v' p.b p.l p.s) rfl (by rw [pc_length hp, pc_length h.wf.sum])
  exact ⟨by rw [uc_split1]; exact h2, ⟨h.wf.pool, hp⟩⟩
def z32 : List UInt8 := List.replicate 32 0
def cP : Pt := ⟨[(1, 5)], 7, 2, z32⟩
def aU : Ub := { oneU with txg := 0 }
def bU : Ub := { oneU with len := 16385 }
def cU : Ub := { oneU with root := cP }
def dU : Ub := { oneU with len := 0 }
def onesK (k : Nat) : List UInt8 := List.replicate k 1 ++ List.replicate (256 - k) 0
def ZP (e : Int) (w : World) (r : Ending) (w' : World) : Prop := ∃ v : Value, v.oneCell' = true ∧ r = .returned (.tuple #[uv v zeroU, .int .i64 e]) ∧ Frm [] w w'
def OnesRel (w0 : World) (g : Nat) (c : Value) (wr : World) : Prop := ∃ k : Nat, k ≤ 256 ∧ c = .int .i64 k ∧ OwnB 5 wr (.slice (some ⟨g, 0, none⟩) 256 256) (onesK k) [] ∧ Frm [g] w0 wr
end Go.Proofs.YtjdejhgfkjeeiaaGreatDoor

namespace Go.Proofs.YtjdejhgfkjeeiaaGreatDoor
open Go.RowKit
set_option linter.unusedVariables false
set_option linter.unusedSimpArgs false
set_option maxRecDepth 100000

open Pt (Pt may enc readPt readE zeroPt pc pv PtV SlA OwnA)
/-- A row that is an uberblock whose root's addresses are its own. -/
def IsU (w0 : World) (b3 : Value) (w : World) (r : RowT) (u : Ub) : Prop := ∃ a cap sp, r.1 = uc (.slice a u.root.ads.length cap) u ∧ OwnA 47 w (.slice a u.root.ads.length cap) u.root.ads sp ∧ ∀ j ∈ blk (.slice a u.root.ads.length cap), w0.heap.size ≤ j ∧ j ∉ blk b3
theorem IsU.keep {w0 w w' : World} {b3 b3' : Value} {r : RowT} {u : Ub} {L : List Nat} (h : IsU w0 b3 w r u) (f : Frm L w w') (hL : ∀ j ∈ L, j ∈ blk b3 ∨ w.heap.size ≤ j) (hb : ∀ j ∈ blk b3', j ∈ blk b3 ∨ w.heap.size ≤ j) : IsU w0 b3' w' r u := by
  obtain ⟨a, cap, sp, e, ho, hj⟩ := h
  refine ⟨a, cap, sp, e, ho.keep f (fun j h k => ?_), fun j h => ⟨(hj j h).1, fun k => ?_⟩⟩
  · rcases hL j k with q | q
    · exact (hj j h).2 q
    · have := ho.lt j h; omega
  · rcases hb j k with q | q
    · exact (hj j h).2 q
    · have := ho.lt j h; omega
def CpRel (w : World) (u1 u2 : Ub) (b3 b4 : Value) (wr : World) : Prop :=
  (b4 = .int .i64 0 ∧ b3 = .slice none 0 0 ∧ Frm [] w wr) ∨ (b4 = .int .i64 1 ∧ ∃ r1, Mk w b3 [r1] wr ∧ IsU w b3 wr r1 u1) ∨ (b4 = .int .i64 2 ∧ ∃ r1 r2, Mk w b3 [r1, r2] wr ∧ IsU w b3 wr r1 u1 ∧ IsU w b3 wr r2 u2)
/-- What a copy of two tells. -/
def Copied (w : World) (u1 u2 : Ub) (r : Ending) (w' : World) : Prop := ∃ v r1 r2, r = .returned v ∧ Mk w v [r1, r2] w' ∧ IsU w v w' r1 u1 ∧ IsU w v w' r2 u2
end Go.Proofs.YtjdejhgfkjeeiaaGreatDoor
