/-
  Contracts of of and is. No conditions but those that each theorem names.
-/
import Derived.Test.YtgbgpmdhlocjhaaA3
namespace Go.Proofs.Ytgbgpmdhlocjhaa
open Go.RowKit
set_option linter.unusedVariables false
set_option linter.unusedSimpArgs false
set_option maxRecDepth 100000

/-- Runs, as numbers in turn. -/
def prs (l : List Ex) : List Int := l.flatMap fun x => [x.1, x.2]
theorem prs_length : ∀ l : List Ex, (prs l).length = l.length * 2
  | [] => rfl
  | x :: l => by have := prs_length l; simp only [prs, List.flatMap_cons, List.length_append, List.length_cons, List.length_nil] at *; omega
theorem prs_get0 : ∀ (l : List Ex) (i : Nat) (h : i < l.length), (prs l)[i * 2]? = some l[i].1
  | [], i, h => by simp at h
  | x :: r, 0, h => rfl
  | x :: r, i + 1, h => by
    have := prs_get0 r i (by simpa using h)
    rw [show (i + 1) * 2 = i * 2 + 1 + 1 by omega]
    simpa [prs] using this
theorem prs_get1 : ∀ (l : List Ex) (i : Nat) (h : i < l.length), (prs l)[i * 2 + 1]? = some l[i].2
  | [], i, h => by simp at h
  | x :: r, 0, h => rfl
  | x :: r, i + 1, h => by
    have := prs_get1 r i (by simpa using h)
    rw [show (i + 1) * 2 + 1 = i * 2 + 1 + 1 + 1 by omega]
    simpa [prs] using this
theorem cellI' {w : World} {b off n cap : Nat} {l : List Int} {sp : List Value} (h : SlI w (.slice (some ⟨b, off, none⟩) n cap) l sp) (i : Nat) {x : Int} (hx : l[i]? = some x) :
    w.cell? ⟨b, off + i, none⟩ = some (.int .i64 x) := by
  obtain ⟨hi, rfl⟩ := List.getElem?_eq_some_iff.1 hx
  exact cellI h i hi
theorem take_step {α : Type} (l : List α) (k : Nat) (hk : k < l.length) : l.take (k + 1) = l.take k ++ [l[k]] := by rw [List.take_succ_eq_append_getElem hk]
def OfRel (l : List Ex) (w0 : World) (lv cv : Value) (wr : World) : Prop := ∃ (k : Nat) (sp : List Value), k ≤ l.length ∧ cv = .int .i64 (2 * (k : Int)) ∧ OwnX wr lv (l.take k) sp ∧ (∀ i ∈ blk lv, w0.heap.size ≤ i) ∧ Frm [] w0 wr
theorem slx_new {W : World} {g : Nat} {x : Ex} (h : W.heap[g]? = some (.cells #[.int .i64 x.1, .int .i64 x.2] 47 (0, 0))) : SlX W (.slice (some ⟨g, 0, none⟩) 1 1) [x] [] := SlE.of_block encE h rfl (by omega)
set_option maxHeartbeats 2000000 in
theorem of_any (l : List Ex) (v : Value) (isp : List Value) (w : World) (hS : SlI w v (prs l) isp) (hl : l.length ≤ 1000) : Calls Try.prog 35 #[v] w (Told1 w l) := by
  obtain ⟨a, cap, rfl, _, _⟩ := hS.form
  rw [prs_length] at *
  have hl9 : ((l.length * 2 : Nat) : Int) = 2 * (l.length : Int) := by omega
  have hl8 : (l.length : Int) ≤ 1000 := by omega
  have HB := Lib.hid hS
  have HL := Lib.hid hl
  have H9 := Lib.hid hl9
  clear hS hl hl9
  go_enter Try.func35, Try.ntmps35
  go_wp2_with fail
  go_loopw [3, 4] (OfRel l w) (fun _ cv _ => l.length - (intOf cv).toNat / 2)
  case atStart => exact ⟨0, [], by omega, rfl, by simpa using OwnE.nil eE 2 47 _, by simp [blk], Frm.refl _ _⟩
  case round =>
    obtain ⟨k, sp, hk, rfl, o, nb, f⟩ := hrel
    obtain ⟨a3, c3, rfl, _, _⟩ := o.sl.form
    have htl : (l.take k).length = k := by simp; omega
    by_cases hlt : k < l.length
    · obtain ⟨b0, off, rfl⟩ := HB.out.at (by rw [prs_length]; omega)
      have q := HB.out.keep0 f
      have c0 := cellI' q (k * 2) (prs_get0 l k hlt)
      have c1 := cellI' q (k * 2 + 1) (prs_get1 l k hlt)
      rw [Nat.mul_comm] at c0 c1
      have hts := take_step l k hlt
      generalize hx : l[k] = x at *
      have F := Lib.hid f
      generalize l.take k = T at *
      have TL := Lib.hid htl
      have O := Lib.hid o
      have N := Lib.hid nb
      have HT := Lib.hid hts
      have hk9 : (k : Int) < (l.length : Int) := by omega
      have e1 : IntKind.i64.wrap (2 * (k : Int) + 1) = 2 * (k : Int) + 1 := IntWalk.i64_in _ (by omega)
      have e2 : (2 * (k : Int)).toNat = 2 * k := by omega
      have e3 : (2 * (k : Int) + 1).toNat = 2 * k + 1 := by omega
      have e4 : decide (2 * (k : Int) + 1 < ((l.length * 2 : Nat) : Int)) = true := by simp; omega
      have b1 : (0 : Int) ≤ 2 * (k : Int) := by omega
      have b2 : 2 * (k : Int) < (l.length : Int) * 2 := by omega
      have b3 : (0 : Int) ≤ 2 * (k : Int) + 1 := by omega
      have b4 : 2 * (k : Int) + 1 < (l.length : Int) * 2 := by omega
      clear hx o nb f q hts htl
      go_wp2_with fail
      have o1 := O.out.keep0 (((Frm.refl [] wr).alloc (.cells #[.int .i64 x.1, .int .i64 x.2] 47)).drew)
      have s1 : SlX ((wr.alloc (.cells #[.int .i64 x.1, .int .i64 x.2] 47)).drew) (.slice (some ⟨wr.heap.size, 0, none⟩) 1 1) [x] [] := slx_new (heap_alloc_at rfl)
      have hbn : T.length + [x].length ≤ 1000000000 := by have := HL.out; have := TL.out; simp; omega
      have S1 := Lib.hid s1
      have O1 := Lib.hid o1
      have HBN := Lib.hid hbn
      clear s1 o1 hbn
      go_region_law ((refine step_append_e encE tysX O1.out S1.out HBN.out (by omega) (by rfl) (.tmp 12) (.tmp 23) (by rfl) (by rfl) (by rfl) ?_; intro a4 cap4 w4 sp4 o4 f4 n4))
      all_goals
        have hnew : OfRel l w (.slice a4 (T.length + 1) cap4) (.int .i64 (2 * (k : Int) + 2)) w4 := ⟨k + 1, sp4, by omega, by go_num, by rw [HT.out]; simpa using o4, fun i hi => by
          rcases n4 i (by simpa using hi) with h | h
          · exact N.out i h
          · have := F.out.size; simp at h; omega, (((F.out.alloc _).drew).trans f4 (fun i hi => .inr (N.out i hi)))⟩
        have HNW := Lib.hid hnew
        have e5 : IntKind.i64.wrap (2 * (k : Int) + 2) = 2 * (k : Int) + 2 := IntWalk.i64_in _ (by omega)
        have e6 : (2 * (k : Int) + 2).toNat / 2 = k + 1 := by omega
        have E6 := Lib.hid e6
        have K9 := Lib.hid hk9
        clear hnew o4 f4 n4 e6 hk9 b1 b2 b3 b4 e1 e2 e3 e4
        go_wp2_with fail
        go_roundw
        case rel => exact HNW.out
        case measure => have := E6.out; have := K9.out; simp [intOf]; omega
    · obtain rfl : k = l.length := by omega
      have F := Lib.hid f
      rw [List.take_length] at o nb ⊢
      have N := Lib.hid nb
      have O := Lib.hid o
      have e1 : IntKind.i64.wrap (2 * (l.length : Int) + 1) = 2 * (l.length : Int) + 1 := IntWalk.i64_in _ (by omega)
      have e4 : decide (2 * (l.length : Int) + 1 < (l.length : Int) * 2) = false := by simp; omega
      clear f nb o htl
      go_wp2_with fail
      go_ret
      exact ⟨_, sp, rfl, O.out, F.out, N.out⟩
theorem is_true (l : List Ex) (v x : Value) (sp isp : List Value) (w : World) (h1 : SlX w v l sp) (hS : SlI w x (prs l) isp) (hl : l.length ≤ 1000) :
    Calls Try.prog 36 #[v, .int .i64 0, x] w fun e w' => e = .returned (.bool true) ∧ Frm [] w w' := by
  have HO := Lib.hid (fun W (f : Frm [] w W) => of_any l x isp W (hS.keep0 f) hl)
  have HSX := Lib.hid (fun y sp2 W (f : Frm [] w W) (h2 : SlX W y l sp2) => SameX_true v y l sp sp2 W (h1.keep0 f) h2 (by omega))
  clear h1 hS
  go_enter Try.func36, Try.ntmps36
  go_wp2_with (first
    | (go_at_call 35; refine (HO.out _ (Frm.refl _ _)).mono ?_; rintro e w1 ⟨y, sp1, rfl, o1, f1, n1⟩)
    | (go_at_call 18; refine (HSX.out _ _ _ f1 o1.sl).mono ?_; rintro e w2 ⟨rfl, f2⟩))
  go_ret
  exact ⟨rfl, f1.trans f2 (by simp)⟩
end Go.Proofs.Ytgbgpmdhlocjhaa
