/-
  Cuts of rows of bytes; contract of number. No conditions but those that each theorem names.
-/
import Derived.Test.YtjjcjocomanohaaPG
namespace Go.Proofs.Ytjjcjocomanohaa
open Go.RowKit
set_option linter.unusedVariables false
set_option linter.unusedSimpArgs false
set_option maxRecDepth 100000

theorem SlB.cellAt {w : World} {b off n cap : Nat} {l sp : List UInt8} (h : SlB w (.slice (some ⟨b, off, none⟩) n cap) l sp) (k : Nat) (hk : k < l.length) : w.cell? ⟨b, off + k, none⟩ = some (.int .u8 l[k].toNat) := by
  obtain ⟨h1, h2 | ⟨a, h2, h3, h4⟩ | ⟨b', off', cap', h2, h3, h4, h5, h6⟩⟩ := h
  · cases h2.1
  · omega
  · cases h2
    exact h6 k _ (by rw [List.getElem?_append_left (by simpa [bvs_length] using hk), bvs_get, List.getElem?_eq_getElem hk]; rfl)
theorem SlB.cases {w : World} {v : Value} {l sp : List UInt8} (h : SlB w v l sp) : (v = .slice none 0 0 ∧ l = []) ∨ (∃ a, v = .slice (some a) 0 0 ∧ l = []) ∨ ∃ b off cap, v = .slice (some ⟨b, off, none⟩) l.length cap ∧ l.length ≤ cap ∧ cap ≤ maxLen := by
  obtain ⟨h1, ⟨h2, h3, h4⟩ | ⟨a, h2, h3, h4⟩ | ⟨b', off', cap', h2, h3, h4, h5, h6⟩⟩ := h
  · exact .inl ⟨h2, List.eq_nil_of_length_eq_zero h3⟩
  · exact .inr (.inl ⟨a, h2, List.eq_nil_of_length_eq_zero h3⟩)
  · exact .inr (.inr ⟨b', off', cap', h2, h3, h4⟩)
/-- A cut of a row that can be read can be read. -/
theorem SlB.cut {w : World} {a : Option Addr} {n cap : Nat} {l sp : List UInt8} (h : SlB w (.slice a n cap) l sp) (lo hi : Nat) (h1 : lo ≤ hi) (h2 : hi ≤ l.length) :
    SlB w (.slice (if cap = lo then a else a.map (·.add (lo * 1))) (hi - lo) (cap - lo)) ((l.drop lo).take (hi - lo)) (l.drop hi ++ sp) := by
  have hlen : ((l.drop lo).take (hi - lo)).length = hi - lo := by simp; omega
  obtain ⟨k1, ⟨k2, k3, k4⟩ | ⟨a, k2, k3, k4⟩ | ⟨b, off, c, k2, k3, k4, k5, k6⟩⟩ := h
  · cases k2
    obtain rfl : l = [] := List.eq_nil_of_length_eq_zero k3
    obtain rfl : sp = [] := by simpa [bvs] using k4
    simp at h2
    subst h2
    obtain rfl : lo = 0 := by omega
    simpa using SlB.nil w
  · cases k2
    obtain rfl : l = [] := List.eq_nil_of_length_eq_zero k3
    obtain rfl : sp = [] := by simpa [bvs] using k4
    simp at h2
    subst h2
    obtain rfl : lo = 0 := by omega
    exact ⟨rfl, .inr (.inl ⟨a, rfl, rfl, rfl⟩)⟩
  · cases k2
    have hc : cap = l.length + sp.length := by simpa [bvs_length] using k5.symm
    have hl : l.drop lo = (l.drop lo).take (hi - lo) ++ l.drop hi := by
      conv => lhs; rw [← List.take_append_drop (hi - lo) (l.drop lo)]
      rw [List.drop_drop, show lo + (hi - lo) = hi by omega]
    by_cases hcl : cap = lo
    · rw [if_pos hcl]
      have e1 : hi = lo := by omega
      have e2 : lo = l.length := by omega
      obtain rfl : sp = [] := List.eq_nil_of_length_eq_zero (by omega)
      subst e1
      refine ⟨by simp [bvs], .inr (.inr ⟨b, off, cap - hi, by simp, by omega, by omega, by simp [bvs]; omega, fun i u hu => ?_⟩)⟩
      rw [show List.drop hi l = [] from List.drop_eq_nil_of_le (by omega)] at hu
      simp [bvs] at hu
    · rw [if_neg hcl]
      refine ⟨by simp [bvs], .inr (.inr ⟨b, off + lo, cap - lo, by simp [add_plain]; omega, by omega, by omega, by simp [bvs]; omega, fun i u hu => ?_⟩)⟩
      have := k6 (lo + i) u (by
        rw [← bvs_append] at hu ⊢
        rw [← List.append_assoc, ← hl, ← List.drop_append_of_le_length (by omega)] at hu
        simpa [bvs] using hu)
      rw [Nat.add_assoc]
      exact this
theorem slice_lh {P : Program} {tS T : TypeId} (B : ByteTys P tS T) {w : World} {a : Option Addr} {n cap : Nat} {l sp : List UInt8} (h : SlB w (.slice a n cap) l sp) (lo hi : Nat) (h1 : lo ≤ hi) (h2 : hi ≤ l.length) :
    ∃ a' c', (∀ (x y : Int) (wx : World), x = lo → y = hi → (Instr.slice tS (.slice a n cap) (some (.int .i64 x)) (some (.int .i64 y)) none).run P wx = .ok (.slice a' (hi - lo) c') wx) ∧
      SlB w (.slice a' (hi - lo) c') ((l.drop lo).take (hi - lo)) (l.drop hi ++ sp) := by
  obtain ⟨a2, c2, e, hle, hm⟩ := h.form
  cases e
  refine ⟨_, _, fun x y wx hx hy => ?_, h.cut lo hi h1 h2⟩
  subst hx
  subst hy
  obtain ⟨i, hi', hz, hs, hby⟩ := info_parts B.info
  have he : P.elem tS = T := by simp [Program.elem, B.sl]
  have hsz : (sizeOf (P.elem tS)).run P wx = .ok 1 wx := by rw [he]; simp [sizeOf, typeInfo, hi', hs]
  rw [run_slice_lh (P := P) wx tS a l.length cap (by rw [he]; exact B.sl) .i64 .i64 lo hi (by omega) (by omega) (by omega), hsz]
  simp [Result.andThen, sliced]
theorem slice_l {P : Program} {tS T : TypeId} (B : ByteTys P tS T) {w : World} {a : Option Addr} {n cap : Nat} {l sp : List UInt8} (h : SlB w (.slice a n cap) l sp) (lo : Nat) (h1 : lo ≤ l.length) :
    ∃ a' c', (∀ (x : Int) (wx : World), x = lo → (Instr.slice tS (.slice a n cap) (some (.int .i64 x)) none none).run P wx = .ok (.slice a' (l.length - lo) c') wx) ∧
      SlB w (.slice a' (l.length - lo) c') (l.drop lo) sp := by
  obtain ⟨a2, c2, e, hle, hm⟩ := h.form
  cases e
  have hc := h.cut lo l.length h1 (Nat.le_refl _)
  rw [List.take_of_length_le (by simp), List.drop_length, List.nil_append] at hc
  refine ⟨_, _, fun x wx hx => ?_, hc⟩
  subst hx
  obtain ⟨i, hi', hz, hs, hby⟩ := info_parts B.info
  have he : P.elem tS = T := by simp [Program.elem, B.sl]
  have hsz : (sizeOf (P.elem tS)).run P wx = .ok 1 wx := by rw [he]; simp [sizeOf, typeInfo, hi', hs]
  rw [run_slice_l (P := P) wx tS a l.length cap (by rw [he]; exact B.sl) .i64 lo (by omega) (by omega), hsz]
  simp [Result.andThen, sliced]
def beNat : List UInt8 → Nat := List.foldl (fun n b => n * 256 + b.toNat) 0
theorem beNat_snoc (l : List UInt8) (b : UInt8) : beNat (l ++ [b]) = beNat l * 256 + b.toNat := by simp [beNat]
theorem beNat_foldl (l : List UInt8) : ∀ n, l.foldl (fun n b => n * 256 + b.toNat) n < (n + 1) * 256 ^ l.length := by
  induction l with
  | nil => intro n; simp
  | cons b l ih =>
    intro n
    have h1 := ih (n * 256 + b.toNat)
    have h2 := b.toNat_lt
    have h3 : (n * 256 + b.toNat + 1) * 256 ^ l.length ≤ ((n + 1) * 256) * 256 ^ l.length := Nat.mul_le_mul_right _ (by omega)
    simp only [List.foldl_cons, List.length_cons, Nat.pow_succ]
    calc _ < _ := h1
      _ ≤ _ := h3
      _ = _ := by rw [Nat.mul_assoc, Nat.mul_comm 256]
theorem beNat_lt (l : List UInt8) : beNat l < 256 ^ l.length := by simpa [beNat] using beNat_foldl l 0
theorem i64_or_nat (a b : Nat) (ha : a < 9223372036854775808) (hb : b < 9223372036854775808) : bits BinOp.or IntKind.i64 (a : Int) (b : Int) = ((a ||| b : Nat) : Int) := by
  have h := Nat.or_lt_two_pow (n := 63) (show a < 2 ^ 63 by omega) (show b < 2 ^ 63 by omega)
  have e : ∀ n : Nat, n < 9223372036854775808 → (BitVec.ofInt 64 (n : Int)).toNat = n := by
    intro n hn
    simp [BitVec.toNat_ofInt]
    omega
  show IntKind.i64.wrap ((BitVec.ofInt 64 (a : Int) ||| BitVec.ofInt 64 (b : Int)).toNat : Int) = _
  rw [BitVec.toNat_or, e a ha, e b hb, IntKind.wrap_i64]
  omega
theorem or_low (a b : Nat) (h : b < 256) : a * 256 ||| b = a * 256 + b := by
  rw [show a * 256 = a <<< 8 by rw [Nat.shiftLeft_eq], Nat.shiftLeft_add_eq_or_of_lt (by simpa using h)]
def BanRel (l : List UInt8) (c n : Value) : Prop := ∃ k m : Nat, k ≤ l.length ∧ c = .int .i64 k ∧ n = .int .i64 m ∧ m = beNat (l.take k) ∧ m < 256 ^ k
set_option maxHeartbeats 1000000 in
theorem numberOf_any (v : Value) (l sp : List UInt8) (w : World) (hS : SlB w v l sp) (h7 : l.length ≤ 7) :
    Calls Try.prog 74 #[v] w fun r w' => r = .returned (.int .i64 (beNat l)) ∧ w' = w := by
  rcases hS.cases with ⟨rfl, rfl⟩ | ⟨a, rfl, rfl⟩ | ⟨b, off, cap, rfl, hc1, hc2⟩
  iterate 2
    · go_enter Try.func74, Try.ntmps74
      go_wp2
      go_loop [3, 8] (fun n c => c = .int .i64 0 ∧ n = .int .i64 0) (fun _ _ => 0)
      case atStart => exact ⟨rfl, rfl⟩
      case round =>
        obtain ⟨rfl, rfl⟩ := hrel
        go_wp2
        go_ret
        exact ⟨rfl, rfl⟩
  · have HC := Lib.hid hS.cellAt
    clear hS hc2
    go_enter Try.func74, Try.ntmps74
    go_wp2
    go_loop [3, 8] (fun n c => BanRel l c n) (fun _ c => l.length - (intOf c).toNat)
    case atStart => exact ⟨0, 0, Nat.zero_le _, rfl, rfl, by simp [beNat], by simp⟩
    case round =>
      obtain ⟨k, m, hk, rfl, rfl, hm, hlt⟩ := hrel
      by_cases hkl : k < l.length
      · have hc := HC.out k hkl
        have hb : m * 256 < 9223372036854775808 := by
          have : 256 ^ k ≤ 256 ^ 6 := Nat.pow_le_pow_right (by omega) (by omega)
          omega
        have HM := Lib.hid hm
        have HB := Lib.hid hb
        have HL := Lib.hid hlt
        have hu := l[k].toNat_lt
        generalize hg : l[k] = x at *
        have HG := Lib.hid hg
        clear hg hm hb hlt
        go_wp2
        refine ⟨⟨k + 1, m * 256 + x.toNat, by omega, by go_num, ?_, ?_, ?_⟩, by simp [intOf]; omega⟩
        · have := HB.out
          rw [IntWalk.wrap64_in _ (by omega), show ((m : Int) * 256) = ((m * 256 : Nat) : Int) by omega, i64_or_nat _ _ (by omega) (by omega), or_low _ _ hu]
        · rw [List.take_succ_eq_append_getElem hkl, HG.out, beNat_snoc, HM.out]
        · have := HL.out; rw [Nat.pow_succ]; omega
      · obtain rfl : k = l.length := by omega
        have HM := Lib.hid hm
        clear hm hlt
        go_wp2
        go_ret
        refine ⟨?_, rfl⟩
        rw [HM.out, List.take_length]
        rfl
end Go.Proofs.Ytjjcjocomanohaa
