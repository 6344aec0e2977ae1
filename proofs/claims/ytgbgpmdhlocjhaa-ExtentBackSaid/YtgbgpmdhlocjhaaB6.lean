/-
  Contract of Lowest. No conditions but those that each theorem names.
-/
import Derived.Test.YtgbgpmdhlocjhaaB5
import Derived.Lib.MinMax
namespace Go.Proofs.Ytgbgpmdhlocjhaa
open Go.RowKit
set_option linter.unusedVariables false
set_option linter.unusedSimpArgs false
set_option maxRecDepth 100000

def LowP (l : List Ex) (n : Int) (r : List Ex) (c : Int) : Prop :=
  (Good l ∧ 0 ≤ n ∧ n ≤ cntE l ∧ c = 0 ∧ IsL r fun s => s ∈ (secs l).take n.toNat) ∨ (Good l ∧ 0 ≤ n ∧ cntE l < n ∧ c = 8 ∧ r = []) ∨ ((¬ Good l ∨ n < 0) ∧ c = 2 ∧ r = [])
theorem LowP.eq {l : List Ex} {n : Int} {r r' : List Ex} {c c' : Int} (h : LowP l n r c) (h' : LowP l n r' c') : r = r' ∧ c = c' := by
  rcases h with ⟨a, b, d, e, h⟩ | ⟨a, b, d, e, h⟩ | ⟨a, e, h⟩ <;> rcases h' with ⟨a', b', d', e', h'⟩ | ⟨a', b', d', e', h'⟩ | ⟨a', e', h'⟩
  · exact ⟨h.eq h' fun _ => Iff.rfl, by rw [e, e']⟩
  · omega
  · rcases a' with a' | a'
    · exact absurd a a'
    · omega
  · omega
  · exact ⟨by rw [h, h'], by rw [e, e']⟩
  · rcases a' with a' | a'
    · exact absurd a a'
    · omega
  · rcases a with a | a
    · exact absurd a' a
    · omega
  · rcases a with a | a
    · exact absurd a' a
    · omega
  · exact ⟨by rw [h, h'], by rw [e, e']⟩
def LowRel (l : List Ex) (N S R : Nat) (w0 : World) (nv cv : Value) (wr : World) : Prop := ∃ (k : Nat) (r : List Ex), k ≤ l.length ∧ cv = .int .i64 k ∧ nv = .int .i64 ((N - (secs (l.take k)).length : Nat) : Int) ∧ Jn S R wr r ∧ Good r ∧ (∀ x ∈ l.drop k, Upto r x.1) ∧ (∀ s, hasE r s ↔ s ∈ (secs (l.take k)).take N) ∧ Chg S R w0 wr
theorem low_step {l : List Ex} (hG : Good l) (N k : Nat) (hk : k < l.length) (r : List Ex) (hu : ∀ x ∈ l.drop k, Upto r x.1) (hh : ∀ s, hasE r s ↔ s ∈ (secs (l.take k)).take N) {sz : Int} (hs : sz = min l[k].2 ((N - (secs (l.take k)).length : Nat) : Int)) :
    Upto r l[k].1 ∧ 0 ≤ l[k].1 ∧ 0 ≤ sz ∧ l[k].1 + sz ≤ 4096 ∧ Good (putE r l[k].1 (l[k].1 + sz)) ∧ (∀ x ∈ l.drop (k + 1), Upto (putE r l[k].1 (l[k].1 + sz)) x.1) ∧ (∀ s, hasE (putE r l[k].1 (l[k].1 + sz)) s ↔ s ∈ (secs (l.take (k + 1))).take N) ∧
      ((N - (secs (l.take k)).length : Nat) : Int) - sz = ((N - (secs (l.take (k + 1))).length : Nat) : Int) := by
  have hx := hG.1 l[k] (List.getElem_mem _)
  have hd : l.drop k = l[k] :: l.drop (k + 1) := List.drop_eq_getElem_cons hk
  have hm : l[k] ∈ l.drop k := List.mem_of_getElem? (i := 0) (by rw [List.getElem?_drop, Nat.add_zero, List.getElem?_eq_getElem hk])
  have hu0 := hu l[k] hm
  clear hm
  have hts := secs_take l k hk
  have hG2 : Good (l.take k ++ l.drop k) := by rw [List.take_append_drop]; exact hG
  have hp := (List.pairwise_append.1 hG2.2).2.1
  rw [hd] at hp
  have hp2 := (List.pairwise_cons.1 hp).1
  generalize l[k] = x at *
  obtain ⟨p1, p2⟩ := putE_spec hu0 (b := x.1 + sz) (by omega) (Int.le_refl _) (by omega) (by omega)
  refine ⟨hu0, by omega, by omega, by omega, p1.1, fun y hy => p1.mono (by have := hp2 y hy; omega), fun s => ?_, ?_⟩
  · rw [p2 s, hh s, hts, List.take_append, List.mem_append, run_take, mem_run]
    constructor
    · rintro (h | h)
      · exact .inl h
      · exact .inr (by omega)
    · rintro (h | h)
      · exact .inl h
      · exact .inr (by omega)
  · rw [hts, List.length_append, run_length]; omega
set_option maxHeartbeats 4000000 in
theorem Lowest_any (v : Value) (l : List Ex) (n : Int) (sp : List Value) (w : World) (hS : SlX w v l sp) (hl : l.length ≤ 1000000000) (hx : ∀ x ∈ l, -9223372036854775808 ≤ x.1 ∧ x.1 ≤ 9223372036854775807) (hn : -9223372036854775808 ≤ n ∧ n ≤ 9223372036854775807) :
    Calls Try.prog 33 #[v, .int .i64 n] w fun e w' => ∃ r c, LowP l n r c ∧ ToldX w r c e w' := by
  have HC := Lib.hid (fun W (f : Frm [] w W) => Check_any v l sp W (hS.keep0 f) hl hx)
  by_cases hg : Good l
  · rw [chkE_good hg] at HC
    have HN := Lib.hid (fun W (f : Frm [] w W) => counted_any v l sp W (hS.keep0 f) hg)
    obtain ⟨a, cap, rfl, _, _⟩ := hS.form
    have hl9 : ((l.length : Nat) : Int) ≤ 5000 := by have := hg.len; omega
    have hce := cntE_le hg
    have hcs := cntE_secs hg
    have HS := Lib.hid hS
    have HG := Lib.hid hg
    have HCS := Lib.hid hcs
    clear hS hg hx hl hcs
    by_cases h0 : n < 0
    · have H0 := Lib.hid h0
      go_enter Try.func33, Try.ntmps33
      go_wp2_with (go_at_call 19; refine (HC.out _ (Frm.refl _ _)).mono ?_; rintro e w1 ⟨rfl, f1⟩)
      go_ret2
      exact ⟨[], 2, .inr (.inr ⟨.inr H0.out, rfl, rfl⟩), _, [], rfl, OwnE.nil _ _ _ _, f1, by simp [blk]⟩
    · generalize hc : cntE l = c at *
      have HCC := Lib.hid hc
      have HCE := Lib.hid hce
      clear hc hce
      by_cases h1 : c < n
      · have H0 := Lib.hid h0
        have H1 := Lib.hid h1
        go_enter Try.func33, Try.ntmps33
        go_wp2_with (first
          | (go_at_call 19; refine (HC.out _ (Frm.refl _ _)).mono ?_; rintro e w1 ⟨rfl, f1⟩)
          | (go_at_call 44; refine (HN.out _ f1).mono ?_; rintro e w2 ⟨rfl, f2⟩))
        go_ret2
        exact ⟨[], 8, .inr (.inl ⟨HG.out, by have := H0.out; omega, by rw [HCC.out]; exact H1.out, rfl, rfl⟩), _, [], rfl, OwnE.nil _ _ _ _, f1.trans f2 (by simp), by simp [blk]⟩
      · obtain ⟨N, hN⟩ : ∃ N : Nat, n = (N : Int) := ⟨n.toNat, by omega⟩
        subst hN
        have H1 := Lib.hid h1
        go_enter Try.func33, Try.ntmps33
        go_upto_region 5 with (first
          | (go_at_call 19; refine (HC.out _ (Frm.refl _ _)).mono ?_; rintro e w1 ⟨rfl, f1⟩)
          | (go_at_call 44; refine (HN.out _ f1).mono ?_; rintro e w2 ⟨rfl, f2⟩))
        have f3 := f1.trans f2 (by simp)
        clear f1 f2 HC HN h1 h0
        have jn := jn_new w2 (w2.heap.size + 1) (by omega)
        have f4 : Frm [] w2 (w2.alloc (.cells #[.slice none 0 0] 22)) := (Frm.refl _ _).alloc _
        have hsz : (w2.alloc (.cells #[.slice none 0 0] 22)).heap.size = w2.heap.size + 1 := by simp
        go_upto_region 6 with (go_at_call 42; refine (joiner_any _).mono ?_; rintro e w3 ⟨rfl, rfl⟩)
        generalize w2.alloc (.cells #[.slice none 0 0] 22) = W1 at *
        obtain ⟨R, hR⟩ : ∃ R, w2.heap.size = R := ⟨_, rfl⟩
        rw [hR] at jn ⊢
        have J := Lib.hid jn
        have F1 := Lib.hid (f3.trans f4 (by simp))
        have SZ := Lib.hid (show R + 1 ≤ W1.heap.size ∧ w.heap.size ≤ R by have := f3.size; omega)
        clear jn f3 f4 hsz hR
        go_wp2_with fail
        go_loopw [1, 28] (LowRel l N (R + 1) R W1) (fun _ cv _ => l.length - (intOf cv).toNat)
        case atStart => exact ⟨0, [], by omega, rfl, by simp [secs], J.out, Good.nil, fun x _ => Upto.nil _, fun s => by simp [secs, hasE_nil], Chg.refl _ _ _⟩
        case round =>
          obtain ⟨k, r, hk, rfl, rfl, j, hgr, hu, hh, ch⟩ := hrel
          by_cases hlt : k < l.length
          · obtain ⟨b0, off, rfl⟩ := HS.out.at (by omega)
            have hblt := HS.out.blk_lt encE (by omega)
            obtain ⟨c0, c1⟩ := cellsX (ch.slx (HS.out.keep0 F1.out) (fun i hi => by have := hblt i hi; have := SZ.out; omega)) k hlt
            obtain ⟨q1, q2, q3, q4, q5, q6, q7, q8⟩ := low_step HG.out N k hlt r hu hh rfl
            have hxg := HG.out.1 l[k] (List.getElem_mem _)
            have hun := HG.out.len
            generalize l[k] = x at *
            generalize hsz : min x.2 ((N - (secs (l.take k)).length : Nat) : Int) = sz at *
            have hN1 : ((N - (secs (l.take k)).length : Nat) : Int) ≤ (N : Int) := by omega
            generalize ((N - (secs (l.take k)).length : Nat) : Int) = nv at *
            have HPU := Lib.hid (fun W (f : Frm [] wr W) (hW : R + 1 ≤ W.heap.size) => put_up (R + 1) R r x.1 (x.1 + sz) x.1 W (j.keep0 f) q1 (Int.le_refl _) q2 (by omega) q4 hW)
            generalize putE r x.1 (x.1 + sz) = r' at *
            have Q5 := Lib.hid q5
            have Q6 := Lib.hid q6
            have Q7 := Lib.hid q7
            have Q8 := Lib.hid q8
            have CH := Lib.hid ch
            have hw1 : IntKind.i64.wrap (x.1 + sz) = x.1 + sz := IntWalk.i64_in _ (by omega)
            have hw2 : IntKind.i64.wrap (nv - sz) = nv - sz := IntWalk.i64_in _ (by omega)
            have hw3 : (R + 1 ≤ wr.heap.size) := by have := SZ.out; have := ch.size; omega
            have HW3 := Lib.hid hw3
            clear j hgr hu hh ch q1 q2 q3 q4 q5 q6 q7 q8 hblt hun hxg hw3
            go_wp2_with (first | (go_at_call 50; refine (HPU.out _ ((Frm.refl [] _).alloc _) (by have := HW3.out; simp; omega)).mono ?_; rintro e w2 ⟨rfl, j2, ch2⟩))
            exact ⟨⟨k + 1, r', by omega, by go_num, by rw [Q8.out], j2, Q5.out, Q6.out, Q7.out, (CH.out.frm ((Frm.refl [] _).alloc _)).trans ch2⟩, by simp [intOf]; omega⟩
          · obtain rfl : k = l.length := by omega
            rw [List.take_length] at hh
            have HH := Lib.hid hh
            have HGR := Lib.hid hgr
            have CH := Lib.hid ch
            have HAL := Lib.hid (all_any (R + 1) R r wr j)
            clear j hgr hu hh ch
            go_wp2_with (go_at_call 51; refine (HAL.out).mono ?_; rintro e w2 ⟨v2, sp2, rfl, rfl, o2, n2⟩)
            go_ret2
            exact ⟨r, 0, .inl ⟨HG.out, by omega, by have := H1.out; rw [HCC.out]; omega, rfl, HGR.out, HH.out⟩, _, sp2, rfl, o2, Chg.back F1.out CH.out SZ.out.2 (by have := SZ.out; omega), fun i hi => by have := n2 i hi; have := SZ.out; omega⟩
  · rw [chkE_bad hg] at HC
    obtain ⟨a, cap, rfl, _, _⟩ := hS.form
    have HG := Lib.hid hg
    clear hS hg hx hl
    go_enter Try.func33, Try.ntmps33
    go_wp2_with (go_at_call 19; refine (HC.out _ (Frm.refl _ _)).mono ?_; rintro e w1 ⟨rfl, f1⟩)
    go_ret2
    exact ⟨[], 2, .inr (.inr ⟨.inl HG.out, rfl, rfl⟩), _, [], rfl, OwnE.nil _ _ _ _, f1, by simp [blk]⟩
end Go.Proofs.Ytgbgpmdhlocjhaa
