/-
  Contracts of the document's among and best. No conditions but those that each theorem names.
-/
import Derived.Test.YtojchfpfemofkaaS5
namespace Go.Proofs.Ytojchfpfemofkaa
open Go.RowKit
set_option linter.unusedVariables false
set_option linter.unusedSimpArgs false
set_option maxRecDepth 100000

def AmRel (l : List Nat) (n : Nat) (w0 : World) (cv : Value) (wr : World) : Prop := ∃ k : Nat, k ≤ l.length ∧ (∀ i (h : i < k) (h2 : i < l.length), l[i] ≠ n) ∧ cv = .int .i64 k ∧ wr = w0
def OkB (b : Bool) (w : World) (e : Ending) (w' : World) : Prop := e = .returned (.bool b) ∧ w' = w
set_option maxHeartbeats 1000000 in
theorem among_any (v : Value) (l : List Nat) (n : Nat) (sp : List Value) (w : World) (h1 : SlI w v (cz l) sp) (hl : l.length ≤ 1000) :
    Calls Try.prog 31 #[v, .int .i64 n] w (OkB (l.contains n) w) := by
  obtain ⟨a, cap, rfl, _, _⟩ := h1.form
  have hl9 : ((l.length : Nat) : Int) ≤ 1000 := by omega
  have H1 := Lib.hid h1
  have HC := Lib.hid (show l.contains n = decide (n ∈ l) from List.contains_eq_mem ..)
  rw [cz_length]
  generalize l.contains n = q at *
  clear h1 hl
  go_enter Try.func31, Try.ntmps31
  go_wp2_with fail
  go_loopw [5] (AmRel l n w) (fun cv _ => l.length - (intOf cv).toNat)
  case atStart => exact ⟨0, by omega, by omega, rfl, rfl⟩
  case round =>
    obtain ⟨k, hk, hno, rfl, rfl⟩ := hrel
    by_cases hlt : k < l.length
    · obtain ⟨b0, off, rfl⟩ := H1.out.at (by rw [cz_length]; omega)
      have c0 := cellI H1.out k (by rw [cz_length]; omega)
      rw [cz_get l k hlt] at c0
      by_cases he : l[k] = n
      · rw [he] at c0
        have HQ := Lib.hid (show q = true by rw [HC.out]; exact decide_eq_true (he ▸ List.getElem_mem hlt))
        clear hno he
        go_wp2_with fail
        go_ret
        exact ⟨by rw [HQ.out]; rfl, rfl⟩
      · have hno' : ∀ i (h : i < k + 1) (h2 : i < l.length), l[i] ≠ n := fun i h h2 => by
          rcases Nat.lt_or_ge i k with h | h
          · exact hno i h h2
          · obtain rfl : i = k := by omega
            exact he
        have HNO := Lib.hid hno'
        have hb : ((l[k] : Int) == (n : Int)) = false := by simp; omega
        clear hno hno'
        generalize l[k] = y at *
        go_wp2_with fail
        go_roundw
        case rel => exact ⟨k + 1, by omega, HNO.out, by go_num, rfl⟩
        case measure => simp [intOf]; omega
    · obtain rfl : k = l.length := by omega
      have HQ := Lib.hid (show q = false by
        rw [HC.out]
        refine decide_eq_false fun h => ?_
        obtain ⟨i, hi, he⟩ := List.getElem_of_mem h
        exact hno i hi hi he)
      clear hno
      go_wp2_with fail
      go_ret
      exact ⟨by rw [HQ.out]; rfl, rfl⟩
def bz : Option Nat → Int
  | none => -1
  | some m => m
theorem bst_no {r : List Int} {l : List Nat} {k : Nat} (h : gt r k ≤ 0 ∨ l.contains k = true) : bst r l (k + 1) = bst r l k := by
  rw [bst]
  have : (decide (0 < gt r k) && !l.contains k) = false := by
    rcases h with h | h
    · rw [decide_eq_false (by omega)]; rfl
    · rw [h]; simp
  rw [this]; simp
theorem bst_yes {r : List Int} {l : List Nat} {k : Nat} (h : 0 < gt r k) (h2 : l.contains k = false) (h3 : btr r k (bst r l k) = true) : bst r l (k + 1) = some k := by
  rw [bst, decide_eq_true h, h2, h3]; simp
theorem bst_keep {r : List Int} {l : List Nat} {k : Nat} (h3 : btr r k (bst r l k) = false) : bst r l (k + 1) = bst r l k := by
  rw [bst, h3]; simp
theorem bst_in {r : List Int} {l : List Nat} {k m : Nat} (h : bst r l k = some m) : m < k ∧ 0 < gt r m := by
  have := bst_spec r l k
  rw [h] at this
  exact ⟨this.1, this.2.1.1⟩
def BstRel (f : List Int) (t : List Bool) (l : List Nat) (w0 : World) (av cv : Value) (wr : World) : Prop := ∃ k : Nat, k ≤ f.length ∧ cv = .int .i64 k ∧ av = .int .i64 (bz (bst (rm f t) l k)) ∧ Frm [] w0 wr
set_option maxHeartbeats 4000000 in
theorem best_any (v d x : Value) (f : List Int) (t : List Bool) (l : List Nat) (sp dsp xsp : List Value) (w : World) (hS : SlI w v f sp) (hT : SlO w d t dsp) (hX : SlI w x (cz l) xsp) (hl : f.length ≤ 12) (he : t.length = f.length) (hll : l.length ≤ 12) :
    Calls Try.prog 26 #[v, d, x] w fun e w' => e = .returned (.int .i64 (bz (bst (rm f t) l f.length))) ∧ Frm [] w w' := by
  obtain ⟨a, cap, rfl, _, _⟩ := hS.form
  obtain ⟨a2, cap2, rfl, _, _⟩ := hT.form
  obtain ⟨a3, cap3, rfl, _, _⟩ := hX.form
  have HS := Lib.hid hS
  have HT := Lib.hid hT
  have HX := Lib.hid hX
  have HE := Lib.hid he
  have HLL := Lib.hid hll
  have hl9 : ((f.length : Nat) : Int) ≤ 12 := by omega
  have hte : ((t.length : Nat) : Int) = (f.length : Int) := by omega
  have HTE := Lib.hid hte
  clear hS hT hX he hll hl hte
  go_enter Try.func26, Try.ntmps26
  go_wp2_with fail
  go_loopw [7, 8] (BstRel f t l w) (fun _ cv _ => f.length - (intOf cv).toNat)
  case atStart => exact ⟨0, by omega, rfl, rfl, Frm.refl _ _⟩
  case round =>
    obtain ⟨k, hk, rfl, rfl, fr⟩ := hrel
    by_cases hlt : k < f.length
    · have hkt : k < t.length := by have := HE.out; omega
      obtain ⟨b0, off, rfl⟩ := HS.out.at (by omega)
      obtain ⟨b1, off1, rfl⟩ := HT.out.at (by omega)
      have c0 := cellI (HS.out.keep0 fr) k hlt
      have c1 := cellO (HT.out.keep0 fr) k hkt
      rw [← gt_lt] at c0
      have hgr := gt_rm f t k
      have hd : t.getD k false = t[k] := by simp [hkt]
      rw [hd] at hgr
      have hk9 : (k : Int) < (f.length : Int) := by omega
      have hk8 : (k : Int) < (t.length : Int) := by have := HE.out; omega
      have FR := Lib.hid fr
      cases hb : t[k] with
      | false =>
        rw [hb] at hgr c1
        have HB := Lib.hid (bst_no (l := l) (.inl (by rw [hgr]; simp)) : bst (rm f t) l (k + 1) = bst (rm f t) l k)
        clear hgr hd hb fr
        generalize hq : bz (bst (rm f t) l k) = q at *
        have HQ := Lib.hid hq
        clear hq
        go_wp2_with fail
        go_quiet (fail)
        go_wp2_with fail
        go_roundw
        case rel => exact ⟨k + 1, by omega, by go_num, by rw [HB.out, HQ.out], FR.out.drewN _⟩
        case measure => simp [intOf]; omega
      | true =>
        rw [hb] at hgr c1
        rw [if_pos rfl] at hgr
        rw [← hgr] at c0
        by_cases h0 : 0 < gt (rm f t) k
        · have HA := Lib.hid (fun n => among_any _ l k xsp _ ((HX.out.keep0 fr).keep0 ((Frm.refl [] wr).drewN n)) (by have := HLL.out; omega))
          cases hc : l.contains k with
          | true =>
            rw [hc] at HA
            have HB := Lib.hid (bst_no (l := l) (.inr hc) : bst (rm f t) l (k + 1) = bst (rm f t) l k)
            clear hgr hd hb fr
            generalize gt (rm f t) k = y at *
            generalize hq : bz (bst (rm f t) l k) = q at *
            have HQ := Lib.hid hq
            clear hq
            go_wp2_with fail
            go_quiet ((go_at_call 31; exact Calls.quiet_of_same (HA.out _)))
            go_wp2_with fail
            go_roundw
            case rel => exact ⟨k + 1, by omega, by go_num, by rw [HB.out, HQ.out], FR.out.drewN _⟩
            case measure => simp [intOf]; omega
          | false =>
            rw [hc] at HA
            cases hbs : bst (rm f t) l k with
            | none =>
              have HB := Lib.hid (bst_yes h0 hc (by rw [hbs]; rfl))
              clear hgr hd hb fr
              generalize gt (rm f t) k = y at *
              simp only [bz]
              go_wp2_with fail
              go_quiet ((go_at_call 31; exact Calls.quiet_of_same (HA.out _)))
              go_wp2_with fail
              go_roundw
              case rel => exact ⟨k + 1, by omega, by go_num, by rw [HB.out]; rfl, FR.out.drewN _⟩
              case measure => simp [intOf]; omega
            | some m =>
              obtain ⟨hm1, hm2⟩ := bst_in hbs
              have hgm := gt_rm f t m
              have cm := cellI (HS.out.keep0 fr) m (by omega)
              rw [← gt_lt] at cm
              have hgm' : gt f m = gt (rm f t) m := by
                rw [hgm]
                split
                · rfl
                · rename_i hx; rw [hgm, if_neg hx] at hm2; omega
              rw [hgm'] at cm
              have hm9 : (m : Int) < (f.length : Int) := by omega
              by_cases hlt2 : gt (rm f t) m < gt (rm f t) k
              · have HB := Lib.hid (bst_yes h0 hc (by rw [hbs]; exact decide_eq_true hlt2))
                clear hgr hd hb fr hgm hgm' hm2
                generalize gt (rm f t) k = y at *
                generalize gt (rm f t) m = z at *
                simp only [bz]
                go_wp2_with fail
                go_quiet ((go_at_call 31; exact Calls.quiet_of_same (HA.out _)))
                go_wp2_with fail
                go_roundw
                case rel => exact ⟨k + 1, by omega, by go_num, by rw [HB.out]; rfl, FR.out.drewN _⟩
                case measure => simp [intOf]; omega
              · have HB := Lib.hid (show bst (rm f t) l (k + 1) = some m by rw [bst_keep (by rw [hbs]; exact decide_eq_false hlt2), hbs])
                clear hgr hd hb fr hgm hgm' hm2
                generalize gt (rm f t) k = y at *
                generalize gt (rm f t) m = z at *
                simp only [bz]
                go_wp2_with fail
                go_quiet ((go_at_call 31; exact Calls.quiet_of_same (HA.out _)))
                go_wp2_with fail
                go_roundw
                case rel => exact ⟨k + 1, by omega, by go_num, by rw [HB.out]; rfl, FR.out.drewN _⟩
                case measure => simp [intOf]; omega
        · have HB := Lib.hid (bst_no (l := l) (.inl (by omega)) : bst (rm f t) l (k + 1) = bst (rm f t) l k)
          have hd0 := decide_eq_false h0
          clear hgr hd hb fr
          generalize gt (rm f t) k = y at *
          generalize hq : bz (bst (rm f t) l k) = q at *
          have HQ := Lib.hid hq
          clear hq
          go_wp2_with fail
          go_quiet (fail)
          go_wp2_with fail
          go_roundw
          case rel => exact ⟨k + 1, by omega, by go_num, by rw [HB.out, HQ.out], FR.out.drewN _⟩
          case measure => simp [intOf]; omega
    · obtain rfl : k = f.length := by omega
      have FR := Lib.hid fr
      clear fr
      go_wp2_with fail
      go_ret
      exact ⟨rfl, FR.out⟩
end Go.Proofs.Ytojchfpfemofkaa
