/-
  Contracts of SameAddrs, slices.Equal, CopyPointer's append and the rest of what compares pointers. No conditions but those that each theorem names.
-/
import Derived.Test.YtjjcjocomanohaaP1
namespace Go.Proofs.Ytjjcjocomanohaa
open Go.RowKit
set_option linter.unusedVariables false
set_option linter.unusedSimpArgs false
set_option maxRecDepth 100000

def PreRel (l m : List Ad) (w0 : World) (cv : Value) (wr : World) : Prop := ∃ k : Nat, k ≤ l.length ∧ cv = .int .i64 k ∧ (∀ j, j < k → l[j]? = m[j]?) ∧ Frm [] w0 wr
theorem pre_all {l m : List Ad} (h : l.length = m.length) (hp : ∀ j, j < l.length → l[j]? = m[j]?) : (l == m) = true := by
  rw [beq_iff_eq]
  apply List.ext_getElem? 
  intro j
  rcases Nat.lt_or_ge j l.length with h1 | h1
  · exact hp j h1
  · rw [List.getElem?_eq_none h1, List.getElem?_eq_none (by omega)]
theorem pre_not {l m : List Ad} {k : Nat} (h1 : k < l.length) (h2 : k < m.length) (h : ¬ l[k] = m[k]) : (l == m) = false := by
  rw [beq_eq_false_iff_ne]
  rintro rfl
  exact h rfl
theorem len_not {l m : List Ad} (h : l.length ≠ m.length) : (l == m) = false := by
  rw [beq_eq_false_iff_ne]
  rintro rfl
  exact h rfl
set_option maxHeartbeats 1000000 in
theorem SameAddrs_any (v x : Value) (l m sp sp2 : List Ad) (w : World) (h1 : SlA w v l sp) (h2 : SlA w x m sp2) (hl : l.length ≤ 1000000) :
    Calls Try.prog 58 #[v, x] w fun e w' => e = .returned (.bool (l == m)) ∧ Frm [] w w' := by
  obtain ⟨a, cap, rfl, _, _⟩ := h1.form
  obtain ⟨a2, cap2, rfl, hc, hm⟩ := h2.form
  have hm9 : m.length ≤ maxLen := by omega
  unfold maxLen at hm9
  have hl9 : ((l.length : Nat) : Int) ≤ 1000000 := by omega
  have hl8 : ((m.length : Nat) : Int) ≤ 9223372036854775807 := by omega
  have H1 := Lib.hid h1
  have H2 := Lib.hid h2
  clear h1 h2 hl hc hm
  by_cases hlm : l.length = m.length
  · have HLM := Lib.hid hlm
    rw [← hlm] at H2 hl8 ⊢
    clear hlm
    go_enter Try.func58, Try.ntmps58
    go_wp2_with fail
    go_loopw [5] (PreRel l m w) (fun cv _ => l.length - (intOf cv).toNat)
    case atStart => exact ⟨0, by omega, rfl, fun j hj => by omega, Frm.refl _ _⟩
    case round =>
      obtain ⟨k, hk, rfl, hp, f⟩ := hrel
      have HP := Lib.hid hp
      clear hp
      by_cases hlt : k < l.length
      · have hlt2 : k < m.length := by rw [← HLM.out]; exact hlt
        have hH2 := H2.out
        rw [HLM.out] at hH2
        obtain ⟨b0, off, rfl⟩ := H1.out.at (by omega)
        obtain ⟨b1, off1, rfl⟩ := hH2.at (by omega)
        obtain ⟨c0, c1⟩ := (H1.out.keep f (by simp)).cells k hlt
        obtain ⟨d0, d1⟩ := (hH2.keep f (by simp)).cells k hlt2
        have hn := @pre_not l m k hlt hlt2
        have hy : ∀ j, j < k + 1 → l[k] = m[k] → l[j]? = m[j]? := fun j hj he => by
          rcases Nat.lt_or_ge j k with h | h
          · exact HP.out j h
          · obtain rfl : j = k := by omega
            rw [List.getElem?_eq_getElem hlt, List.getElem?_eq_getElem hlt2, he]
        generalize l[k] = y at *
        generalize m[k] = z at *
        have F := Lib.hid f
        have HN := Lib.hid hn
        have HY := Lib.hid hy
        clear f hn hy hH2 hlt2
        by_cases e1 : y.1 = z.1
        · by_cases e2 : y.2 = z.2
          · have e3 := ad_ext e1 e2
            subst e3
            go_wp2_with fail
            go_quiet (fail)
            go_wp2_with fail
            go_roundw
            case rel => exact ⟨k + 1, by omega, by go_num, fun j hj => by first | exact HY.out j hj rfl | exact HY.out j hj trivial, F.out.drewN _⟩
            case measure => simp [intOf]; omega
          · have E := Lib.hid (HN.out fun e => e2 (by rw [e]))
            have e2' : (y.2 == z.2) = false := by simpa using e2
            rw [← e1] at d0
            clear e2
            go_wp2_with fail
            go_quiet (fail)
            go_wp2_with fail
            go_ret
            exact ⟨ret_bool E.out.symm, F.out.drewN _⟩
        · have E := Lib.hid (HN.out fun e => e1 (by rw [e]))
          have e2' : (y.1 == z.1) = false := by simpa using e1
          clear e1
          go_wp2_with fail
          go_quiet (fail)
          go_wp2_with fail
          go_ret
          exact ⟨ret_bool E.out.symm, F.out.drewN _⟩
      · obtain rfl : k = l.length := by omega
        have F := Lib.hid f
        clear f
        go_wp2_with fail
        go_ret
        exact ⟨ret_bool (pre_all HLM.out HP.out).symm, F.out⟩
  · have E := Lib.hid (len_not hlm)
    have hd : ((l.length : Int) != (m.length : Int)) = true := by simp; omega
    clear hlm
    go_enter Try.func58, Try.ntmps58
    go_wp2_with fail
    go_ret
    exact ⟨ret_bool E.out.symm, Frm.refl _ _⟩
set_option maxHeartbeats 1000000 in
theorem Equal_any (v x : Value) (l m sp sp2 : List Ad) (w : World) (h1 : SlA w v l sp) (h2 : SlA w x m sp2) (hl : l.length ≤ 1000000) :
    Calls Try.prog 55 #[v, x] w fun e w' => e = .returned (.bool (l == m)) ∧ Frm [] w w' := by
  obtain ⟨a, cap, rfl, _, _⟩ := h1.form
  obtain ⟨a2, cap2, rfl, hc, hm⟩ := h2.form
  have hm9 : m.length ≤ maxLen := by omega
  unfold maxLen at hm9
  have hl9 : ((l.length : Nat) : Int) ≤ 1000000 := by omega
  have hl8 : ((m.length : Nat) : Int) ≤ 9223372036854775807 := by omega
  have H1 := Lib.hid h1
  have H2 := Lib.hid h2
  clear h1 h2 hl hc hm
  by_cases hlm : l.length = m.length
  · have HLM := Lib.hid hlm
    rw [← hlm] at H2 hl8 ⊢
    clear hlm
    go_enter Try.func55, Try.ntmps55
    go_wp2_with fail
    go_loopw [13] (PreRel l m w) (fun cv _ => l.length - (intOf cv).toNat)
    case atStart => exact ⟨0, by omega, rfl, fun j hj => by omega, Frm.refl _ _⟩
    case round =>
      obtain ⟨k, hk, rfl, hp, f⟩ := hrel
      have HP := Lib.hid hp
      clear hp
      by_cases hlt : k < l.length
      · have hlt2 : k < m.length := by rw [← HLM.out]; exact hlt
        have hH2 := H2.out
        rw [HLM.out] at hH2
        obtain ⟨b0, off, rfl⟩ := H1.out.at (by omega)
        obtain ⟨b1, off1, rfl⟩ := hH2.at (by omega)
        obtain ⟨c0, c1⟩ := (H1.out.keep f (by simp)).cells k hlt
        obtain ⟨d0, d1⟩ := (hH2.keep f (by simp)).cells k hlt2
        have hn := @pre_not l m k hlt hlt2
        have hy : ∀ j, j < k + 1 → l[k] = m[k] → l[j]? = m[j]? := fun j hj he => by
          rcases Nat.lt_or_ge j k with h | h
          · exact HP.out j h
          · obtain rfl : j = k := by omega
            rw [List.getElem?_eq_getElem hlt, List.getElem?_eq_getElem hlt2, he]
        generalize l[k] = y at *
        generalize m[k] = z at *
        have F := Lib.hid f
        have HN := Lib.hid hn
        have HY := Lib.hid hy
        clear f hn hy hH2 hlt2
        by_cases e1 : y.1 = z.1
        · by_cases e2 : y.2 = z.2
          · have e3 := ad_ext e1 e2
            subst e3
            go_wp2_with fail
            go_quiet (fail)
            go_wp2_with fail
            go_roundw
            case rel => exact ⟨k + 1, by omega, by go_num, fun j hj => by first | exact HY.out j hj rfl | exact HY.out j hj trivial, F.out.drewN _⟩
            case measure => simp [intOf]; omega
          · have E := Lib.hid (HN.out fun e => e2 (by rw [e]))
            have e2' : (y.2 == z.2) = false := by simpa using e2
            rw [← e1] at d0
            clear e2
            go_wp2_with fail
            go_quiet (fail)
            go_wp2_with fail
            go_ret
            exact ⟨ret_bool E.out.symm, F.out.drewN _⟩
        · have E := Lib.hid (HN.out fun e => e1 (by rw [e]))
          have e2' : (y.1 == z.1) = false := by simpa using e1
          clear e1
          go_wp2_with fail
          go_quiet (fail)
          go_wp2_with fail
          go_ret
          exact ⟨ret_bool E.out.symm, F.out.drewN _⟩
      · obtain rfl : k = l.length := by omega
        have F := Lib.hid f
        clear f
        go_wp2_with fail
        go_ret
        exact ⟨ret_bool (pre_all HLM.out HP.out).symm, F.out⟩
  · have E := Lib.hid (len_not hlm)
    have hd : ((l.length : Int) != (m.length : Int)) = true := by simp; omega
    clear hlm
    go_enter Try.func55, Try.ntmps55
    go_wp2_with fail
    go_ret
    exact ⟨ret_bool E.out.symm, Frm.refl _ _⟩
end Go.Proofs.Ytjjcjocomanohaa
