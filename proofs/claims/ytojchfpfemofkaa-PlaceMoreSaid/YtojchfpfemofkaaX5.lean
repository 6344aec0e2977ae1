/-
  Contract of the laws' own room. No conditions but those that each theorem names.
-/
import Derived.Test.YtojchfpfemofkaaX2
namespace Go.Proofs.Ytojchfpfemofkaa
open Go.RowKit
set_option linter.unusedVariables false
set_option linter.unusedSimpArgs false
set_option maxRecDepth 100000

theorem disj_new {n : Nat} {v1 v1' v2 : Value} (D : ∀ i ∈ blk v1, i ∉ blk v2) (b : ∀ i ∈ blk v1', i ∈ blk v1 ∨ n ≤ i) (lt : ∀ i ∈ blk v2, i < n) : ∀ i ∈ blk v1', i ∉ blk v2 := fun i hi h2 => by
  rcases b i hi with h | h
  · exact D i h h2
  · have := lt i h2; omega
/-- Two lists of their own, apart, that are new. -/
structure Two (w0 : World) (n : Nat) (v1 v2 : Value) (L : List Int) (B : List Bool) (sp1 sp2 : List Value) (wr : World) : Prop where
  len1 : L.length = n
  len2 : B.length = n
  rng : ∀ x ∈ L, 0 ≤ x ∧ x ≤ 4096
  o1 : OwnI wr v1 L sp1
  o2 : OwnO wr v2 B sp2
  n1 : ∀ i ∈ blk v1, w0.heap.size ≤ i
  n2 : ∀ i ∈ blk v2, w0.heap.size ≤ i
  d12 : ∀ i ∈ blk v1, i ∉ blk v2
  fr : Frm [] w0 wr
theorem Two.first {w0 W w5 : World} {n cap cap' : Nat} {p p' : Option Addr} {v2 : Value} {L : List Int} {B : List Bool} {sp1 sp2 sp5 : List Value} {y : Int} {o : Obj} (h : Two w0 n (.slice p n cap) v2 L B sp1 sp2 W) (hy : 0 ≤ y ∧ y ≤ 4096)
    (o5 : OwnI w5 (.slice p' (n + 1) cap') (L ++ [y]) sp5) (f5 : Frm (blk (.slice p n cap)) (W.alloc o) w5) (b5 : ∀ i ∈ blk (.slice p' (n + 1) cap'), i ∈ blk (.slice p n cap) ∨ (W.alloc o).heap.size ≤ i) :
    L.length + 1 = n + 1 ∧ OwnO w5 v2 B sp2 ∧ (∀ i ∈ blk (.slice p' (n + 1) cap'), w0.heap.size ≤ i) ∧ (∀ i ∈ blk (.slice p' (n + 1) cap'), i ∉ blk v2) ∧ Frm [] w0 w5 := by
  obtain ⟨q1, q2⟩ := app_new h.n1 h.fr f5 b5
  have f0 : Frm [] W (W.alloc o) := (Frm.refl _ _).alloc _
  have o2 := h.o2.keep0 f0
  exact ⟨by rw [h.len1], o2.keep f5 (fun i hi hm => h.d12 i hm hi), q2, disj_new h.d12 b5 o2.lt, q1⟩
def RoomRel (n : Nat) (w0 : World) (lv wv cv : Value) (wr : World) : Prop := ∃ (k : Nat) (p1 p2 : Option Addr) (c1 c2 : Nat) (L : List Int) (B : List Bool) (sp1 sp2 : List Value), k ≤ n ∧ cv = .int .i64 k ∧ lv = .slice p1 k c1 ∧ wv = .slice p2 k c2 ∧ Two w0 k (.slice p1 k c1) (.slice p2 k c2) L B sp1 sp2 wr
def RoomP (w0 : World) (e : Ending) (w' : World) : Prop := ∃ (n : Nat) (p1 p2 : Option Addr) (c1 c2 : Nat) (L : List Int) (B : List Bool) (sp1 sp2 : List Value), 2 ≤ n ∧ n ≤ 8 ∧ e = .returned (.tuple #[.slice p1 n c1, .slice p2 n c2]) ∧ Two w0 n (.slice p1 n c1) (.slice p2 n c2) L B sp1 sp2 w'
theorem two_step {w0 W w5 w6 : World} {n c1 c2 c1' c2' : Nat} {p1 p2 p1' p2' : Option Addr} {L : List Int} {B : List Bool} {sp1 sp2 sp5 sp6 : List Value} {y : Int} {b : Bool} {o o' : Obj} (h : Two w0 n (.slice p1 n c1) (.slice p2 n c2) L B sp1 sp2 W) (hy : 0 ≤ y ∧ y ≤ 4096)
    (o5 : OwnI w5 (.slice p1' (n + 1) c1') (L ++ [y]) sp5) (f5 : Frm (blk (.slice p1 n c1)) (W.alloc o) w5) (b5 : ∀ i ∈ blk (.slice p1' (n + 1) c1'), i ∈ blk (.slice p1 n c1) ∨ (W.alloc o).heap.size ≤ i)
    (o6 : OwnO w6 (.slice p2' (n + 1) c2') (B ++ [b]) sp6) (f6 : Frm (blk (.slice p2 n c2)) (w5.alloc o') w6) (b6 : ∀ i ∈ blk (.slice p2' (n + 1) c2'), i ∈ blk (.slice p2 n c2) ∨ (w5.alloc o').heap.size ≤ i) :
    Two w0 (n + 1) (.slice p1' (n + 1) c1') (.slice p2' (n + 1) c2') (L ++ [y]) (B ++ [b]) sp5 sp6 w6 := by
  obtain ⟨h1, h2, h3, h4, h5⟩ := h.first hy o5 f5 b5
  obtain ⟨q1, q2⟩ := app_new h.n2 h5 f6 b6
  have f0 : Frm [] w5 (w5.alloc o') := (Frm.refl _ _).alloc _
  have o7 := o5.keep0 f0
  have D : ∀ i ∈ blk (.slice p2 n c2), i ∉ blk (.slice p1' (n + 1) c1') := fun i hi hm => h4 i hm hi
  have D2 := disj_new D b6 o7.lt
  refine ⟨by simp [h.len1], by simp [h.len2], fun x hx => ?_, o7.keep f6 (fun i hi hm => h4 i hi hm), o6, h3, q2, fun i hi hm => D2 i hm hi, q1⟩
  rcases List.mem_append.1 hx with h' | h'
  · exact h.rng x h'
  · simp at h'; subst h'; exact hy
set_option maxHeartbeats 4000000 in
theorem room_any (x : Int) (v d : Value) (f : List Int) (t : List Bool) (sp dsp : List Value) (w : World) (hS : SlI w v f sp) (hT : SlO w d t dsp) :
    Calls Try.prog 23 #[.int .i64 x, v, d] w (RoomP w) := by
  obtain ⟨a, cap, rfl, _, _⟩ := hS.form
  obtain ⟨a2, cap2, rfl, _, _⟩ := hT.form
  have HS := Lib.hid hS
  have HT := Lib.hid hT
  have HP := Lib.hid (Pick_any x 7 (by omega) (by omega))
  have hpr := pick_range x 7 (by omega)
  obtain ⟨n0, hn0⟩ : ∃ n0 : Nat, pick x 7 = n0 := ⟨(pick x 7).toNat, by omega⟩
  rw [hn0] at HP hpr
  have hw1 : IntKind.i64.wrap (2 + (n0 : Int)) = ((2 + n0 : Nat) : Int) := by rw [IntWalk.i64_in _ (by omega)]; omega
  obtain ⟨n, hn⟩ : ∃ n, 2 + n0 = n := ⟨_, rfl⟩
  rw [hn] at hw1
  have HN := Lib.hid (show 2 ≤ n ∧ n ≤ 8 by omega)
  have hn9 : (n : Int) ≤ 8 := by omega
  clear hS hT hpr hn0 hn
  go_enter Try.func23, Try.ntmps23
  go_wp2_with (go_at_call 24; refine Calls.mono (HP.out _) ?_; rintro ee W1 ⟨rfl, rfl⟩)
  clear HP hw1
  go_loopw [8, 9, 10] (RoomRel n W1) (fun _ _ cv _ => n - (intOf cv).toNat)
  case atStart => exact ⟨0, none, none, 0, 0, [], [], [], [], by omega, rfl, rfl, rfl, ⟨rfl, rfl, by simp, OwnE.nil _ _ _ _, OwnE.nil _ _ _ _, by simp [blk], by simp [blk], by simp [blk], Frm.refl _ _⟩⟩
  case round =>
    obtain ⟨k, p1, p2, c1, c2, L, B, sp1, sp2, hk, rfl, rfl, rfl, tw⟩ := hrel
    by_cases hlt : k < n
    · have TW := Lib.hid tw
      clear tw
      by_cases hf : k < f.length
      · by_cases ht : k < t.length
        · obtain ⟨b0, off, rfl⟩ := HS.out.at (by omega)
          have c0 := cellI (HS.out.keep0 TW.out.fr) k hf
          have HPK := Lib.hid (Pick_any f[k] 4097 (by omega) (by omega))
          have hr := pick_range f[k] 4097 (by omega)
          generalize pick f[k] 4097 = y at *
          generalize f[k] = z at *
          have HY := Lib.hid (show 0 ≤ y ∧ y ≤ 4096 by omega)
          clear hr
          have hf9 : (k : Int) < (f.length : Int) := by omega
          obtain ⟨b1, off1, rfl⟩ := HT.out.at (by omega)
          have ht9 : ¬ (t.length : Int) ≤ (k : Int) := by omega
          have ht8 : (k : Int) < (t.length : Int) := by omega
          have ht7 : decide (t.length ≤ k) = false := decide_eq_false (by omega)
          have ht6 : decide ((t.length : Int) ≤ (k : Int)) = false := decide_eq_false (by omega)
          have HC1 := Lib.hid (fun W (f : Frm [] W1 W) => cellO (HT.out.keep0 f) k ht)
          generalize hbt : t[k] = bt at *
          clear hbt
          have O4 := Lib.hid (TW.out.o1.keep0 ((Frm.refl [] wr).alloc (.cells #[.int .i64 y] 3)))
          have S4 := Lib.hid (sli_lit wr [y] (n := 1) rfl rfl (by omega))
          have HB := Lib.hid (show k + 1 ≤ 1000000000 by omega)
          go_wp2_with (first
            | (go_at_call 24; refine Calls.mono (HPK.out _) ?_; rintro ee W2 ⟨rfl, rfl⟩)
            | (at_builtin; refine wpList_append_n encI tysI O4.out S4.out (nn := k + 1) (by simp) HB.out (by omega) rfl (.tmp 29) (.tmp 31) rfl rfl rfl ?_; intro a5 c5 w5 sp5 o5 f5 b5; obtain ⟨_, o6, n5, d5, fr5⟩ := TW.out.first HY.out o5 f5 b5; have c1 := HC1.out _ fr5; have O5 := Lib.hid (o6.keep0 ((Frm.refl [] w5).alloc (.cells #[.bool bt] 4))); have S5 := Lib.hid (slo_lit w5 [bt] (n := 1) rfl rfl (by omega)); have OO := Lib.hid o5; have FF5 := Lib.hid f5; have BB5 := Lib.hid b5; clear o5 f5 b5 o6 n5 d5 fr5)
            | (at_builtin; refine wpList_append_n encB tysO O5.out S5.out (nn := k + 1) (by simp) HB.out (by omega) rfl (.tmp 33) (.tmp 44) rfl rfl rfl ?_; intro a7 c7 w7 sp7 o7 f7 b7))
          go_roundw
          case rel => exact ⟨k + 1, a5, a7, c5, c7, L ++ [y], B ++ [bt], sp5, sp7, by omega, by go_num, rfl, rfl, two_step TW.out HY.out OO.out FF5.out BB5.out o7 f7 b7⟩
          case measure => simp [intOf]; omega
        · obtain ⟨b0, off, rfl⟩ := HS.out.at (by omega)
          have c0 := cellI (HS.out.keep0 TW.out.fr) k hf
          have HPK := Lib.hid (Pick_any f[k] 4097 (by omega) (by omega))
          have hr := pick_range f[k] 4097 (by omega)
          generalize pick f[k] 4097 = y at *
          generalize f[k] = z at *
          have HY := Lib.hid (show 0 ≤ y ∧ y ≤ 4096 by omega)
          clear hr
          have hf9 : (k : Int) < (f.length : Int) := by omega
          have ht9 : (t.length : Int) ≤ (k : Int) := by omega
          have ht7 : decide (t.length ≤ k) = true := decide_eq_true (by omega)
          have ht6 : decide ((t.length : Int) ≤ (k : Int)) = true := decide_eq_true (by omega)
          have O4 := Lib.hid (TW.out.o1.keep0 ((Frm.refl [] wr).alloc (.cells #[.int .i64 y] 3)))
          have S4 := Lib.hid (sli_lit wr [y] (n := 1) rfl rfl (by omega))
          have HB := Lib.hid (show k + 1 ≤ 1000000000 by omega)
          go_wp2_with (first
            | (go_at_call 24; refine Calls.mono (HPK.out _) ?_; rintro ee W2 ⟨rfl, rfl⟩)
            | (at_builtin; refine wpList_append_n encI tysI O4.out S4.out (nn := k + 1) (by simp) HB.out (by omega) rfl (.tmp 29) (.tmp 31) rfl rfl rfl ?_; intro a5 c5 w5 sp5 o5 f5 b5; obtain ⟨_, o6, n5, d5, fr5⟩ := TW.out.first HY.out o5 f5 b5; have O5 := Lib.hid (o6.keep0 ((Frm.refl [] w5).alloc (.cells #[.bool true] 4))); have S5 := Lib.hid (slo_lit w5 [true] (n := 1) rfl rfl (by omega)); have OO := Lib.hid o5; have FF5 := Lib.hid f5; have BB5 := Lib.hid b5; clear o5 f5 b5 o6 n5 d5 fr5)
            | (at_builtin; refine wpList_append_n encB tysO O5.out S5.out (nn := k + 1) (by simp) HB.out (by omega) rfl (.tmp 33) (.tmp 44) rfl rfl rfl ?_; intro a7 c7 w7 sp7 o7 f7 b7))
          go_roundw
          case rel => exact ⟨k + 1, a5, a7, c5, c7, L ++ [y], B ++ [true], sp5, sp7, by omega, by go_num, rfl, rfl, two_step TW.out HY.out OO.out FF5.out BB5.out o7 f7 b7⟩
          case measure => simp [intOf]; omega
      · by_cases ht : k < t.length
        · have HY := Lib.hid (show (0 : Int) ≤ 0 ∧ (0 : Int) ≤ 4096 by omega)
          have hf9 : ¬ (k : Int) < (f.length : Int) := by omega
          obtain ⟨b1, off1, rfl⟩ := HT.out.at (by omega)
          have ht9 : ¬ (t.length : Int) ≤ (k : Int) := by omega
          have ht8 : (k : Int) < (t.length : Int) := by omega
          have ht7 : decide (t.length ≤ k) = false := decide_eq_false (by omega)
          have ht6 : decide ((t.length : Int) ≤ (k : Int)) = false := decide_eq_false (by omega)
          have HC1 := Lib.hid (fun W (f : Frm [] W1 W) => cellO (HT.out.keep0 f) k ht)
          generalize hbt : t[k] = bt at *
          clear hbt
          have O4 := Lib.hid (TW.out.o1.keep0 ((Frm.refl [] wr).alloc (.cells #[.int .i64 (0 : Int)] 3)))
          have S4 := Lib.hid (sli_lit wr [(0 : Int)] (n := 1) rfl rfl (by omega))
          have HB := Lib.hid (show k + 1 ≤ 1000000000 by omega)
          go_wp2_with (first
            | (at_builtin; refine wpList_append_n encI tysI O4.out S4.out (nn := k + 1) (by simp) HB.out (by omega) rfl (.tmp 29) (.tmp 31) rfl rfl rfl ?_; intro a5 c5 w5 sp5 o5 f5 b5; obtain ⟨_, o6, n5, d5, fr5⟩ := TW.out.first HY.out o5 f5 b5; have c1 := HC1.out _ fr5; have O5 := Lib.hid (o6.keep0 ((Frm.refl [] w5).alloc (.cells #[.bool bt] 4))); have S5 := Lib.hid (slo_lit w5 [bt] (n := 1) rfl rfl (by omega)); have OO := Lib.hid o5; have FF5 := Lib.hid f5; have BB5 := Lib.hid b5; clear o5 f5 b5 o6 n5 d5 fr5)
            | (at_builtin; refine wpList_append_n encB tysO O5.out S5.out (nn := k + 1) (by simp) HB.out (by omega) rfl (.tmp 33) (.tmp 44) rfl rfl rfl ?_; intro a7 c7 w7 sp7 o7 f7 b7))
          go_roundw
          case rel => exact ⟨k + 1, a5, a7, c5, c7, L ++ [(0 : Int)], B ++ [bt], sp5, sp7, by omega, by go_num, rfl, rfl, two_step TW.out HY.out OO.out FF5.out BB5.out o7 f7 b7⟩
          case measure => simp [intOf]; omega
        · have HY := Lib.hid (show (0 : Int) ≤ 0 ∧ (0 : Int) ≤ 4096 by omega)
          have hf9 : ¬ (k : Int) < (f.length : Int) := by omega
          have ht9 : (t.length : Int) ≤ (k : Int) := by omega
          have ht7 : decide (t.length ≤ k) = true := decide_eq_true (by omega)
          have ht6 : decide ((t.length : Int) ≤ (k : Int)) = true := decide_eq_true (by omega)
          have O4 := Lib.hid (TW.out.o1.keep0 ((Frm.refl [] wr).alloc (.cells #[.int .i64 (0 : Int)] 3)))
          have S4 := Lib.hid (sli_lit wr [(0 : Int)] (n := 1) rfl rfl (by omega))
          have HB := Lib.hid (show k + 1 ≤ 1000000000 by omega)
          go_wp2_with (first
            | (at_builtin; refine wpList_append_n encI tysI O4.out S4.out (nn := k + 1) (by simp) HB.out (by omega) rfl (.tmp 29) (.tmp 31) rfl rfl rfl ?_; intro a5 c5 w5 sp5 o5 f5 b5; obtain ⟨_, o6, n5, d5, fr5⟩ := TW.out.first HY.out o5 f5 b5; have O5 := Lib.hid (o6.keep0 ((Frm.refl [] w5).alloc (.cells #[.bool true] 4))); have S5 := Lib.hid (slo_lit w5 [true] (n := 1) rfl rfl (by omega)); have OO := Lib.hid o5; have FF5 := Lib.hid f5; have BB5 := Lib.hid b5; clear o5 f5 b5 o6 n5 d5 fr5)
            | (at_builtin; refine wpList_append_n encB tysO O5.out S5.out (nn := k + 1) (by simp) HB.out (by omega) rfl (.tmp 33) (.tmp 44) rfl rfl rfl ?_; intro a7 c7 w7 sp7 o7 f7 b7))
          go_roundw
          case rel => exact ⟨k + 1, a5, a7, c5, c7, L ++ [(0 : Int)], B ++ [true], sp5, sp7, by omega, by go_num, rfl, rfl, two_step TW.out HY.out OO.out FF5.out BB5.out o7 f7 b7⟩
          case measure => simp [intOf]; omega
    · obtain rfl : k = n := by omega
      have TW := Lib.hid tw
      clear tw
      go_wp2_with fail
      go_ret2
      exact ⟨k, p1, p2, c1, c2, L, B, sp1, sp2, HN.out.1, HN.out.2, rfl, TW.out⟩
end Go.Proofs.Ytojchfpfemofkaa
