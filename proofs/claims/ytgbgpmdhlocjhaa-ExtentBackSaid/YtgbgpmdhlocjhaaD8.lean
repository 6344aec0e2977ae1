/-
  Contracts of insertionSortCmpFunc, stableCmpFunc and SortStableFunc at rows of edges. No conditions but those that each theorem names.
-/
import Derived.Test.YtgbgpmdhlocjhaaD7
import Derived.Sort.LotA
namespace Go.Proofs.Ytgbgpmdhlocjhaa
open Go.RowKit Go.Sort Go.Shelf Go.Proofs
set_option linter.unusedVariables false
set_option linter.unusedSimpArgs false
set_option maxRecDepth 100000

def Try.insD_ren : Go.Shelf.Ren := ⟨fun | 20 => 58 | n => n, fun | 22 => 61 | 24 => 65 | 25 => 67 | 3 => 3 | 0 => 0 | 4 => 4 | n => n, fun | n => n⟩
theorem Try.insD : Go.Proofs.SlLaysF0.n20 Try.prog Try.insD_ren := {
  mixed := by kernel_rfl,
  f20 := ⟨Try.f58.name, by decide, Try.func58.trans (congrArg some (by kernel_rfl))⟩,
  t0 := Try.underlying0,
  a0 := Try.isAgg0,
  z0 := Try.sizeOf0,
  v0 := Try.zeroValue0,
  t3 := Try.underlying3,
  a3 := Try.isAgg3,
  z3 := Try.sizeOf3,
  v3 := Try.zeroValue3,
  t4 := Try.underlying4,
  a4 := Try.isAgg4,
  z4 := Try.sizeOf4,
  v4 := Try.zeroValue4,
  t22 := Try.underlying61,
  a22 := Try.isAgg61,
  z22 := Try.sizeOf61,
  v22 := Try.zeroValue61,
  t25 := Try.underlying67,
  a25 := Try.isAgg67,
  z25 := Try.sizeOf67,
  v25 := Try.zeroValue67 }
theorem sym_any (w0 : World) (g cap : Nat) (d0 : Array Ed) (R : Row0 w0 g d0) (h4 : d0.size ≤ 1000000) : ∀ (N a m b : Nat) (dk : Array Ed) (W : World), b - a ≤ N → a < m → m < b → b ≤ dk.size → dk.size = d0.size → SW w0 g dk W → Srt (key dk) a m → Srt (key dk) m b →
    Calls Try.prog 59 #[.slice (some ⟨g, 0, none⟩) d0.size cap, .int .i64 a, .int .i64 m, .int .i64 b, cmpV] W (SymPost w0 g a b dk) 
  | 0, a, m, b, dk, W, hN, h1, h2, h3, hs, h, k1, k2 => by omega
  | N + 1, a, m, b, dk, W, hN, h1, h2, h3, hs, h, k1, k2 => by
    by_cases hc1 : m - a = 1
    · exact sym_one w0 g cap d0 R h4 a m b dk W h1 h2 h3 hs h k1 k2 hc1
    · by_cases hc2 : b - m = 1
      · exact sym_two w0 g cap d0 R h4 a m b dk W h1 h2 h3 hs h k1 k2 hc1 hc2
      · exact sym_three w0 g cap d0 R h4 a m b dk W h1 h2 h3 hs h k1 k2 hc1 hc2 N hN (sym_any w0 g cap d0 R h4 N)
theorem insert_any (w0 : World) (g cap : Nat) (d0 : Array Ed) (R : Row0 w0 g d0) (h4 : d0.size ≤ 1000000) (a b : Nat) (dk : Array Ed) (W : World) (h1 : a ≤ b) (h3 : b ≤ dk.size) (hs : dk.size = d0.size) (h : SW w0 g dk W) :
    Calls Try.prog 58 #[.slice (some ⟨g, 0, none⟩) d0.size cap, .int .i64 a, .int .i64 b, cmpV] W (SymPost w0 g a b dk) := by
  have hH := h.holds R.hblk R.hH hs
  have eg : ∀ args w, (callFunc 54 args).run Try.prog w = .ok (.enter 54 args) w := enters_of Try.func54 (by kernel_rfl) rfl
  have hc := AnyQ.insertionSortCmpFunc Try.insD 3 Try.isAgg65 Try.sizeOf65 eD (fun _ => rfl) (fun x v hv => encD.one x v hv) cfD 54 #[] g 0 cap a b dk W eg (fun m os dk _ x y => cmpD_any x y _) hH (h.lt R.hblk) h1 h3 (by omega)
  change Calls Try.prog 58 _ _ _ at hc
  rw [hs] at hc
  refine hc.mono ?_
  rintro e W' ⟨rfl, n, os, rfl⟩
  rw [ltOf_cfD]
  obtain ⟨p1, p2⟩ := insertionSort_holds (lt := ltD) swoD dk a b h1 h3
  exact ⟨rfl, _, p1.1, h.on R.hblk n _ os p1.1, p1, (srt_iff _ _ _).1 p2⟩
/-- Blocks of bs that rise: the first q of them; all from a on. -/
def Dn (f : Nat → Int) (bs q : Nat) : Prop := ∀ t, t < q → Srt f (t * bs) (t * bs + bs)
def Bk (f : Nat → Int) (bs n a : Nat) : Prop := ∀ t, Srt f (a + t * bs) (min (a + t * bs + bs) n)
theorem Dn.zero (f : Nat → Int) (bs : Nat) : Dn f bs 0 := fun t h => by omega
theorem Dn.succ {f f' : Nat → Int} {bs q : Nat} (h : Dn f bs q) (hs : Srt f' (q * bs) (q * bs + bs)) (e : ∀ x, x < q * bs → f' x = f x) : Dn f' bs (q + 1) := fun t ht => by
  by_cases h1 : t < q
  · have h2 : (t + 1) * bs ≤ q * bs := Nat.mul_le_mul_right _ h1
    rw [Nat.add_mul] at h2
    exact (h t h1).congr fun x _ k2 => e x (by omega)
  · obtain rfl : t = q := by omega
    exact hs
theorem Dn.all {f f' : Nat → Int} {bs q n : Nat} (hb : 0 < bs) (h : Dn f bs q) (hs : Srt f' (q * bs) n) (hn : n ≤ q * bs + bs) (e : ∀ x, x < q * bs → f' x = f x) : Bk f' bs n 0 := fun t => by
  rw [Nat.zero_add]
  rcases Nat.lt_trichotomy t q with h1 | rfl | h1
  · have h2 : (t + 1) * bs ≤ q * bs := Nat.mul_le_mul_right _ h1
    rw [Nat.add_mul] at h2
    exact ((h t h1).congr fun x _ k2 => e x (by omega)).sub (Nat.le_refl _) (by omega)
  · exact hs.sub (Nat.le_refl _) (by omega)
  · have h2 : (q + 1) * bs ≤ t * bs := Nat.mul_le_mul_right _ h1
    rw [Nat.add_mul] at h2
    exact Srt.small (by omega)
theorem Bk.head {f : Nat → Int} {bs n a : Nat} (h : Bk f bs n a) : Srt f a (min (a + bs) n) := by have := h 0; simpa using this
theorem Bk.tail {f f' : Nat → Int} {bs n a : Nat} (h : Bk f bs n a) (e : ∀ x, a + bs ≤ x → f' x = f x) : Bk f' bs n (a + bs) := fun t => by
  have := h (t + 1)
  have e2 : a + (t + 1) * bs = a + bs + t * bs := by rw [Nat.add_mul]; omega
  rw [e2] at this
  exact this.congr fun x k1 _ => e x (by omega)
theorem Bk.step2 {f f' : Nat → Int} {bs n a : Nat} (h : Bk f bs n a) (e : ∀ x, a + bs + bs ≤ x → f' x = f x) : Bk f' bs n (a + bs + bs) := (h.tail fun _ _ => rfl).tail e
def StRel1 (w0 : World) (g n : Nat) (dk : Array Ed) (av bv : Value) (wr : World) : Prop := ∃ (q A : Nat) (d : Array Ed), A = q * 20 ∧ av = .int .i64 A ∧ bv = .int .i64 ((A : Int) + 20) ∧ A ≤ n ∧ d.size = dk.size ∧ SW w0 g d wr ∧ PermIn 0 n dk d ∧ Dn (key d) 20 q
def StRel2 (w0 : World) (g n : Nat) (dk : Array Ed) (bv : Value) (wr : World) : Prop := ∃ (bs : Nat) (d : Array Ed), bv = .int .i64 bs ∧ 20 ≤ bs ∧ bs ≤ 2 * n + 20 ∧ d.size = dk.size ∧ SW w0 g d wr ∧ PermIn 0 n dk d ∧ Bk (key d) bs n 0
def StRel3 (w0 : World) (g n bs : Nat) (dk : Array Ed) (av bv : Value) (wr : World) : Prop := ∃ (q A : Nat) (d : Array Ed), A = q * (bs + bs) ∧ av = .int .i64 A ∧ bv = .int .i64 ((A : Int) + 2 * (bs : Int)) ∧ A ≤ n ∧ d.size = dk.size ∧ SW w0 g d wr ∧ PermIn 0 n dk d ∧ Dn (key d) (bs + bs) q ∧ Bk (key d) bs n A
def StPost (w0 : World) (g n : Nat) (dk : Array Ed) (e : Ending) (W' : World) : Prop := e = .returned (.tuple #[]) ∧ ∃ d, d.size = dk.size ∧ SW w0 g d W' ∧ PermIn 0 n dk d ∧ Srt (key d) 0 n
theorem perm_up {d d1 d2 : Array Ed} {n a b : Nat} (h : PermIn 0 n d d1) (k : PermIn a b d1 d2) (hb : b ≤ n) (hn : n ≤ d1.size) : PermIn 0 n d d2 := permIn_trans _ _ _ _ _ h (permIn_mono _ _ a b 0 n (Nat.zero_le _) hb hn k)
theorem key_out {d1 d2 : Array Ed} {a b : Nat} (k : PermIn a b d1 d2) (x : Nat) (h : x < a ∨ b ≤ x) : key d2 x = key d1 x := by unfold key; rw [k.2.1 x h]
set_option maxHeartbeats 8000000 in
theorem stable_any (w0 : World) (g cap : Nat) (d0 : Array Ed) (R : Row0 w0 g d0) (h4 : d0.size ≤ 1000000) (W : World) (h : SW w0 g d0 W) :
    Calls Try.prog 56 #[.slice (some ⟨g, 0, none⟩) d0.size cap, .int .i64 d0.size, cmpV] W (StPost w0 g d0.size d0) := by
  obtain ⟨n, hn⟩ : ∃ n, n = d0.size := ⟨_, rfl⟩
  have HIN := Lib.hid (show ∀ (a b : Nat) (dk : Array Ed) (W : World), a ≤ b → b ≤ n → dk.size = n → SW w0 g dk W → Calls Try.prog 58 #[.slice (some ⟨g, 0, none⟩) n cap, .int .i64 a, .int .i64 b, cmpV] W (SymPost w0 g a b dk) from fun a b dk W h1 h3 hs h => by rw [hn]; exact insert_any w0 g cap d0 R h4 a b dk W h1 (by omega) (by omega) h)
  have HSY := Lib.hid (show ∀ (a m b : Nat) (dk : Array Ed) (W : World), a < m → m < b → b ≤ n → dk.size = n → SW w0 g dk W → Srt (key dk) a m → Srt (key dk) m b → Calls Try.prog 59 #[.slice (some ⟨g, 0, none⟩) n cap, .int .i64 a, .int .i64 m, .int .i64 b, cmpV] W (SymPost w0 g a b dk) from fun a m b dk W h1 h2 h3 hs h k1 k2 => by rw [hn]; exact sym_any w0 g cap d0 R h4 (b - a) a m b dk W (Nat.le_refl _) h1 h2 (by omega) (by omega) h k1 k2)
  rw [← hn]
  have hn9 : (n : Int) ≤ 1000000 := by omega
  have HN := Lib.hid hn
  have S0 := Lib.hid h
  have H4 := Lib.hid h4
  clear h R hn h4
  go_enter Try.func56, Try.ntmps56
  go_wp2_with fail
  go_loopw [7, 8] (StRel1 w0 g n d0) (fun av _ _ => n - (intOf av).toNat)
  case atStart => exact ⟨0, 0, d0, rfl, rfl, rfl, Nat.zero_le _, rfl, S0.out, permIn_refl _ _ _, Dn.zero _ _⟩
  case round =>
    obtain ⟨q, A, d, hA, rfl, rfl, hAn, hz, hsw, hp, hd⟩ := hrel
    have HD := Lib.hid (show A = q * 20 ∧ d.size = n ∧ Dn (key d) 20 q from ⟨hA, by rw [hz]; exact HN.out.symm, hd⟩)
    have HP := Lib.hid hp
    by_cases hlt : A + 20 ≤ n
    · have hlt9 : (A : Int) + 20 ≤ (n : Int) := by omega
      have w1 : IntKind.i64.wrap ((A : Int) + 20 + 20) = (A : Int) + 20 + 20 := IntWalk.i64_in _ (by omega)
      have HC := Lib.hid (HIN.out A (A + 20) d wr (by omega) hlt HD.out.2.1 hsw)
      have hAA : (((A + 20 : Nat) : Int)) = (A : Int) + 20 := by omega
      rw [hAA] at HC
      have HLT := Lib.hid hlt
      clear hsw hp hd hz hA hAA hlt
      go_wp2_with (go_at_call 58; refine Calls.mono (HC.out) ?_; rintro ee W1 ⟨rfl, d1, z1, q1, p1, s1⟩)
      go_roundw
      case rel => exact ⟨q + 1, A + 20, d1, by have := HD.out.1; omega, by go_num, by go_num, HLT.out, by rw [z1, HD.out.2.1]; exact HN.out, q1, perm_up HP.out p1 HLT.out (by rw [HD.out.2.1]; exact Nat.le_refl _), HD.out.2.2.succ (by rw [← HD.out.1]; exact s1) (fun x hx => key_out p1 x (.inl (by have := HD.out.1; omega)))⟩
      case measure => have := HLT.out; simp [intOf]; omega
    · have hlt9 : ¬ (A : Int) + 20 ≤ (n : Int) := by omega
      have HC := Lib.hid (HIN.out A n d wr hAn (Nat.le_refl _) HD.out.2.1 hsw)
      have HLT := Lib.hid hlt
      clear hsw hp hd hz hA hlt
      go_upto_region 7 with (go_at_call 58; refine Calls.mono (HC.out) ?_; rintro ee W1 ⟨rfl, d1, z1, q1, p1, s1⟩)
      have HS := Lib.hid (show d1.size = n ∧ SW w0 g d1 W1 ∧ PermIn 0 n d0 d1 ∧ Bk (key d1) 20 n 0 from ⟨by rw [z1, HD.out.2.1], q1, perm_up HP.out p1 (Nat.le_refl _) (by rw [HD.out.2.1]; exact Nat.le_refl _), HD.out.2.2.all (by omega) (by rw [← HD.out.1]; exact s1) (by have := HD.out.1; have := HLT.out; omega) (fun x hx => key_out p1 x (.inl (by have := HD.out.1; omega)))⟩)
      clear z1 q1 p1 s1 HD HP hlt9 HLT
      have H20 := Lib.hid (show (20 : Nat) ≤ 2 * n + 20 by omega)
      go_loopw [6] (StRel2 w0 g n d0) (fun bv _ => n - (intOf bv).toNat)
      case atStart => exact ⟨20, d1, rfl, Nat.le_refl _, H20.out, by rw [HS.out.1]; exact HN.out, HS.out.2.1, HS.out.2.2.1, HS.out.2.2.2⟩
      case round =>
        clear HS
        obtain ⟨bs, d2, rfl, hb20, hbn, hz, hsw, hp, hk⟩ := hrel
        have HZ := Lib.hid (show d2.size = n by rw [hz]; exact HN.out.symm)
        have HSW := Lib.hid hsw
        have HP := Lib.hid hp
        have HK := Lib.hid hk
        have HB20 := Lib.hid (And.intro hb20 hbn)
        clear hz hsw hp hk
        by_cases hlt : bs < n
        · have hlt9 : (bs : Int) < (n : Int) := by omega
          have w2 : IntKind.i64.wrap (2 * (bs : Int)) = 2 * (bs : Int) := IntWalk.i64_in _ (by omega)
          have HLT := Lib.hid hlt
          go_wp2_with fail
          go_loopw [7, 8] (StRel3 w0 g n bs d0) (fun av _ _ => n - (intOf av).toNat)
          case atStart => exact ⟨0, 0, d2, by simp, rfl, by go_num, Nat.zero_le _, by rw [HZ.out]; exact HN.out, HSW.out, HP.out, Dn.zero _ _, HK.out⟩
          case round =>
            obtain ⟨q, A, d3, hA, rfl, rfl, hAn, hz, hsw, hp, hd, hk3⟩ := hrel
            have HD := Lib.hid (show A = q * (bs + bs) ∧ d3.size = n ∧ Dn (key d3) (bs + bs) q ∧ Bk (key d3) bs n A from ⟨hA, by rw [hz]; exact HN.out.symm, hd, hk3⟩)
            have HP3 := Lib.hid hp
            have w3 : IntKind.i64.wrap ((A : Int) + (bs : Int)) = (A : Int) + (bs : Int) := IntWalk.i64_in _ (by omega)
            have w4 : IntKind.i64.wrap ((A : Int) + 2 * (bs : Int) + 2 * (bs : Int)) = (A : Int) + 2 * (bs : Int) + 2 * (bs : Int) := IntWalk.i64_in _ (by omega)
            by_cases hlt2 : A + bs + bs ≤ n
            · have hlt8 : (A : Int) + 2 * (bs : Int) ≤ (n : Int) := by omega
              have HC := Lib.hid (HSY.out A (A + bs) (A + bs + bs) d3 wr (by omega) (by omega) hlt2 HD.out.2.1 hsw (HD.out.2.2.2.head.sub (Nat.le_refl _) (by omega)) ((HD.out.2.2.2.tail fun _ _ => rfl).head.sub (Nat.le_refl _) (by omega)))
              have e1 : (((A + bs : Nat) : Int)) = (A : Int) + (bs : Int) := by omega
              have e2 : (((A + bs + bs : Nat) : Int)) = (A : Int) + 2 * (bs : Int) := by omega
              rw [e1, e2] at HC
              have HLT2 := Lib.hid hlt2
              clear hsw hp hd hz hA hk3 hlt2 e1 e2
              go_wp2_with (go_at_call 59; refine Calls.mono (HC.out) ?_; rintro ee W1 ⟨rfl, d4, z1, q1, p1, s1⟩)
              go_roundw
              case rel => exact ⟨q + 1, A + bs + bs, d4, by have := HD.out.1; rw [Nat.add_mul]; omega, by go_num, by go_num, HLT2.out, by rw [z1, HD.out.2.1]; exact HN.out, q1, perm_up HP3.out p1 HLT2.out (by rw [HD.out.2.1]; exact Nat.le_refl _), HD.out.2.2.1.succ (by rw [← HD.out.1]; exact s1.sub (Nat.le_refl _) (by omega)) (fun x hx => key_out p1 x (.inl (by have := HD.out.1; omega))), HD.out.2.2.2.step2 (fun x hx => key_out p1 x (.inr hx))⟩
              case measure => have := HLT2.out; have := HB20.out; simp [intOf]; omega
            · have hlt8 : ¬ (A : Int) + 2 * (bs : Int) ≤ (n : Int) := by omega
              have w5 : IntKind.i64.wrap ((bs : Int) * 2) = (bs : Int) * 2 := IntWalk.i64_in _ (by omega)
              have HN2 := Lib.hid (show n ≤ A + (bs + bs) by omega)
              by_cases hlt3 : A + bs < n
              · have hlt7 : (A : Int) + (bs : Int) < (n : Int) := by omega
                have HC := Lib.hid (HSY.out A (A + bs) n d3 wr (by omega) (by omega) (Nat.le_refl _) HD.out.2.1 hsw (HD.out.2.2.2.head.sub (Nat.le_refl _) (by omega)) ((HD.out.2.2.2.tail fun _ _ => rfl).head.sub (Nat.le_refl _) (by omega)))
                have e1 : (((A + bs : Nat) : Int)) = (A : Int) + (bs : Int) := by omega
                rw [e1] at HC
                clear hsw hp hd hz hA hk3 hlt2 hlt3 e1
                go_wp2_with (go_at_call 59; refine Calls.mono (HC.out) ?_; rintro ee W1 ⟨rfl, d4, z1, q1, p1, s1⟩)
                go_roundw
                case rel => exact ⟨bs + bs, d4, by go_num, by have := HB20.out; omega, by have := HLT.out; omega, by rw [z1, HD.out.2.1]; exact HN.out, q1, perm_up HP3.out p1 (Nat.le_refl _) (by rw [HD.out.2.1]; exact Nat.le_refl _), HD.out.2.2.1.all (by have := HB20.out; omega) (by rw [← HD.out.1]; exact s1) (by rw [← HD.out.1]; exact HN2.out) (fun x hx => key_out p1 x (.inl (by have := HD.out.1; omega)))⟩
                case measure => have := HLT.out; have := HB20.out; simp [intOf]; omega
              · have hlt7 : ¬ (A : Int) + (bs : Int) < (n : Int) := by omega
                have HSW3 := Lib.hid hsw
                have HL3 := Lib.hid (show n ≤ A + bs by omega)
                clear hsw hp hd hz hA hk3 hlt2 hlt3
                go_wp2_with fail
                go_roundw
                case rel => exact ⟨bs + bs, d3, by go_num, by have := HB20.out; omega, by have := HLT.out; omega, by rw [HD.out.2.1]; exact HN.out, HSW3.out, HP3.out, HD.out.2.2.1.all (by have := HB20.out; omega) (by rw [← HD.out.1]; exact HD.out.2.2.2.head.sub (Nat.le_refl _) (by have := HL3.out; omega)) (by rw [← HD.out.1]; exact HN2.out) (fun x hx => rfl)⟩
                case measure => have := HLT.out; have := HB20.out; simp [intOf]; omega
        · have hlt9 : ¬ (bs : Int) < (n : Int) := by omega
          have HS3 := Lib.hid (show Srt (key d2) 0 n from HK.out.head.sub (Nat.le_refl _) (by omega))
          go_wp2_with fail
          go_end0
          exact ⟨rfl, d2, by rw [HZ.out]; exact HN.out, HSW.out, HP.out, HS3.out⟩
end Go.Proofs.Ytgbgpmdhlocjhaa
