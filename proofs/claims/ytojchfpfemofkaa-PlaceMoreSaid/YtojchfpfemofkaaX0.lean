/-
  Contracts of the laws' own all, is, full, and of Pick; literal lists. No conditions but those that each theorem names.
-/
import Derived.Test.YtojchfpfemofkaaT3
namespace Go.Proofs.Ytojchfpfemofkaa
open Go.RowKit
set_option linter.unusedVariables false
set_option linter.unusedSimpArgs false
set_option maxRecDepth 100000

/-- A yes that leaves all as it was. -/
def Yes (w : World) (e : Ending) (w' : World) : Prop := e = .returned (.bool true) ∧ Frm [] w w'
theorem sli_lit (W : World) (l : List Int) {n : Nat} {cs : Array Value} (hc : cs = (flt iE l).toArray) (hn : n = l.length) (hm : n ≤ 1000) : SlI (W.alloc (.cells cs 3)) (.slice (some ⟨W.heap.size, 0, none⟩) n n) l [] := SlE.of_block encI (by rw [← hc]; exact heap_alloc_new _ _) hn (by omega)
theorem slo_lit (W : World) (l : List Bool) {n : Nat} {cs : Array Value} (hc : cs = (flt bE l).toArray) (hn : n = l.length) (hm : n ≤ 1000) : SlO (W.alloc (.cells cs 4)) (.slice (some ⟨W.heap.size, 0, none⟩) n n) l [] := SlE.of_block encB (by rw [← hc]; exact heap_alloc_new _ _) hn (by omega)
theorem size_alloc (w : World) (o : Obj) : (w.alloc o).heap.size = w.heap.size + 1 := Array.size_push ..
def AllRel (n : Nat) (w0 : World) (ov cv : Value) (wr : World) : Prop := ∃ (k : Nat) (p : Option Addr) (cap : Nat) (sp : List Value), k ≤ n ∧ cv = .int .i64 k ∧ ov = .slice p k cap ∧ OwnO wr (.slice p k cap) (List.replicate k true) sp ∧ (∀ i ∈ blk (.slice p k cap), w0.heap.size ≤ i) ∧ Frm [] w0 wr
/-- A list of bools that the call has made. -/
def ToldO (w : World) (l : List Bool) (e : Ending) (w' : World) : Prop := ∃ v sp, e = .returned v ∧ OwnO w' v l sp ∧ Frm [] w w' ∧ ∀ i ∈ blk v, w.heap.size ≤ i
set_option maxHeartbeats 2000000 in
theorem all_any (n : Nat) (hn : n ≤ 100) (w : World) : Calls Try.prog 22 #[.int .i64 n] w (ToldO w (List.replicate n true)) := by
  go_enter Try.func22, Try.ntmps22
  go_wp2_with fail
  go_loopw [3, 4] (AllRel n w) (fun _ cv _ => n - (intOf cv).toNat)
  case atStart => exact ⟨0, none, 0, [], by omega, rfl, rfl, OwnE.nil _ _ _ _, by simp [blk], Frm.refl _ _⟩
  case round =>
    obtain ⟨k, p, cp, osp, hk, rfl, rfl, o, nb, fr⟩ := hrel
    by_cases hlt : k < n
    · have O4 := Lib.hid (o.keep0 ((Frm.refl [] wr).alloc (.cells #[.bool true] 4)))
      have S4 := Lib.hid (slo_lit wr [true] (n := 1) rfl rfl (by omega))
      have F4 := Lib.hid fr
      have HN := Lib.hid nb
      have HB := Lib.hid (show k + 1 ≤ 1000000000 by omega)
      clear o fr nb
      go_wp2_with (at_builtin; refine wpList_append_n encB tysO O4.out S4.out (nn := k + 1) (by simp) HB.out (by omega) rfl (.tmp 10) (.tmp 11) rfl rfl rfl ?_; intro a5 c5 w5 sp5 o5 f5 b5)
      go_roundw
      case rel =>
        obtain ⟨q1, q2⟩ := app_new HN.out F4.out f5 b5
        exact ⟨k + 1, a5, c5, sp5, by omega, by go_num, rfl, by rw [List.replicate_succ']; exact o5, q2, q1⟩
      case measure => simp [intOf]; omega
    · obtain rfl : k = n := by omega
      have O := Lib.hid o
      have F := Lib.hid fr
      have HN := Lib.hid nb
      clear o fr nb
      go_wp2_with fail
      go_ret
      exact ⟨_, osp, rfl, O.out, F.out, HN.out⟩
set_option maxHeartbeats 2000000 in
theorem is_true (v d x : Value) (f : List Int) (t : List Bool) (c : Int) (l : List Nat) (m : List Int) (sp dsp xsp : List Value) (w : World) (hS : SlI w v f sp) (hT : SlO w d t dsp) (hX : SlI w x m xsp) (hl : f.length ≤ 12) (hl2 : t.length ≤ 12) (hA : chA f t c = (l, 0)) (hm : m = cz l) (hll : l.length ≤ 12) :
    Calls Try.prog 20 #[v, d, .int .i64 c, x] w (Yes w) := by
  have hC := Choose_any v d f t c sp dsp w hS hT hl hl2
  rw [hA] at hC
  have HC := Lib.hid hC
  have HX := Lib.hid hX
  have HS := Lib.hid (fun v1 v2 s1 s2 W h1 h2 => SameI_true v1 v2 (cz l) s1 s2 W h1 h2 (by rw [cz_length]; omega))
  subst hm
  clear hC hS hT hX hA hll
  go_enter Try.func20, Try.ntmps20
  go_wp2_with (first
    | (go_at_call 11; refine Calls.mono (HC.out) ?_; rintro ee W1 ⟨r1, s1, rfl, o1, f1, n1⟩)
    | (go_at_call 13; refine Calls.mono (HS.out _ _ _ _ _ o1.sl (HX.out.keep0 f1)) ?_; rintro ee W2 ⟨rfl, f2⟩))
  go_ret
  exact ⟨by simp, f1.trans f2 (by simp)⟩
set_option maxHeartbeats 2000000 in
theorem full_true (v d : Value) (f : List Int) (t : List Bool) (c : Int) (sp dsp : List Value) (w : World) (hS : SlI w v f sp) (hT : SlO w d t dsp) (hl : f.length ≤ 12) (hl2 : t.length ≤ 12) (hA : chA f t c = ([], 15)) :
    Calls Try.prog 21 #[v, d, .int .i64 c] w (Yes w) := by
  have hC := Choose_any v d f t c sp dsp w hS hT hl hl2
  rw [hA] at hC
  have HC := Lib.hid hC
  clear hC hS hT hA
  go_enter Try.func21, Try.ntmps21
  go_wp2_with fail
  refine Calls.mono (HC.out) ?_
  rintro ee W1 ⟨r1, s1, rfl, o1, f1, n1⟩
  obtain ⟨p, cp, rfl, _, _⟩ := o1.sl.form
  have e0 : (cz []).length = 0 := rfl
  rw [e0]
  go_wp2_with fail
  go_ret
  exact ⟨by simp, f1⟩
def pick (x n : Int) : Int := if x.tmod n < 0 then x.tmod n + n else x.tmod n
theorem pick_range (x n : Int) (hn : 0 < n) : 0 ≤ pick x n ∧ pick x n < n := by
  unfold pick
  have h1 := Int.tmod_lt_of_pos x hn
  have h2 := Int.lt_tmod_of_pos x hn
  split <;> omega
set_option maxHeartbeats 1000000 in
theorem Pick_any (x n : Int) (hn : 0 < n) (hn2 : n ≤ 1000000) (w : World) : Calls Try.prog 24 #[.int .i64 x, .int .i64 n] w fun e w' => e = .returned (.int .i64 (pick x n)) ∧ w' = w := by
  have h1 := Int.tmod_lt_of_pos x hn
  have h2 := Int.lt_tmod_of_pos x hn
  have hw : IntKind.i64.wrap (x.tmod n) = x.tmod n := IntWalk.i64_in _ (by omega)
  have hw4 : IntKind.i64.wrap (x.tmod n + n) = x.tmod n + n := IntWalk.i64_in _ (by omega)
  have HP := Lib.hid (show pick x n = if x.tmod n < 0 then x.tmod n + n else x.tmod n from rfl)
  have hn0 : ¬ n < 1 := by omega
  have hnz : ¬ n = 0 := by omega
  have hnb : (n == 0) = false := by simp; omega
  by_cases h3 : x.tmod n < 0
  · go_enter Try.func24, Try.ntmps24
    go_wp2
    go_ret
    exact ⟨by rw [HP.out, if_pos h3]; rfl, rfl⟩
  · go_enter Try.func24, Try.ntmps24
    go_wp2
    go_ret
    exact ⟨by rw [HP.out, if_neg (by omega)]; rfl, rfl⟩
end Go.Proofs.Ytojchfpfemofkaa
