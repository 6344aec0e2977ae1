/-
  Contracts of the answers of the document: which addresses a pointer may have, which pointers may be. No conditions but those that each theorem names.
-/
import Derived.Test.YtjjcjocomanohaaPE
namespace Go.Proofs.Ytjjcjocomanohaa
open Go.RowKit
set_option linter.unusedVariables false
set_option linter.unusedSimpArgs false
set_option maxRecDepth 100000

def Says (p : Prop) (w : World) (e : Ending) (w' : World) : Prop := (e = .returned (.bool true) ∧ p ∨ e = .returned (.bool false) ∧ ¬ p) ∧ Frm [] w w'
def AdsMay (l : List Ad) : Prop := (1 ≤ l.length ∧ l.length ≤ 3) ∧ AdsOk l
def OkRel (l : List Ad) (w0 : World) (cv : Value) (wr : World) : Prop := ∃ k : Nat, k ≤ l.length ∧ cv = .int .i64 k ∧ (∀ j, j < k → adOk l j) ∧ Frm [] w0 wr
theorem says_no {p : Prop} {w w' : World} (h : ¬ p) (f : Frm [] w w') : Says p w (.returned (.bool false)) w' := ⟨Or.inr ⟨rfl, h⟩, f⟩
set_option maxHeartbeats 4000000 in
theorem RefAddrs_any (v : Value) (l sp : List Ad) (w : World) (hS : SlA w v l sp) (hl : l.length ≤ 1000000) : Calls Try.prog 54 #[v] w (Says (AdsMay l) w) := by
  obtain ⟨a, cap, rfl, _, _⟩ := hS.form
  have HS := Lib.hid hS
  have hl9 : (l.length : Int) ≤ 1000000 := by omega
  clear hS hl
  go_enter Try.func54, Try.ntmps54
  go_wp2_with fail
  go_loopw [3] (OkRel l w) (fun cv _ => l.length - (intOf cv).toNat)
  case atStart => exact ⟨0, by omega, rfl, fun j hj => by omega, Frm.refl _ _⟩
  case round =>
    obtain ⟨k, hk, rfl, hok, f⟩ := hrel
    have HOK := Lib.hid hok
    have Fk := Lib.hid f
    clear hok f
    by_cases hlt : k < l.length
    · obtain ⟨b0, off, rfl⟩ := HS.out.at (by omega)
      obtain ⟨e0, e1⟩ := (HS.out.keep Fk.out (by simp)).cells k hlt
      have hx : l[k]? = some l[k] := List.getElem?_eq_getElem hlt
      generalize l[k] = y at *
      have HX := Lib.hid hx
      have H2 := Lib.hid hlt
      clear hx
      have hno : ¬ ((0 ≤ y.1 ∧ y.1 ≤ 7) ∧ (5 ≤ y.2 ∧ y.2 ≤ 4095)) → ¬ AdsMay l := fun h h2 => by
        have := h2.2 k H2.out y HX.out
        exact h ⟨this.1, this.2.1⟩
      have HNO := Lib.hid hno
      clear hno
      by_cases hg : (0 ≤ y.1 ∧ y.1 ≤ 7) ∧ (5 ≤ y.2 ∧ y.2 ≤ 4095)
      · have HG := Lib.hid hg
        obtain ⟨⟨g1, g2⟩, g3, g4⟩ := hg
        go_wp2_with fail
        clear e0 e1
        go_loopw [4] (InRel l y k wr) (fun cv _ => k - (intOf cv).toNat)
        case atStart => exact ⟨0, by omega, rfl, fun j hj => by omega, Frm.refl _ _⟩
        case round =>
          obtain ⟨i, hi, rfl, hdi, fi⟩ := hrel
          have HDI := Lib.hid hdi
          have FI := Lib.hid (Fk.out.trans fi (by simp))
          have fi2 := Lib.hid fi
          clear hdi fi
          by_cases hik : i < k
          · have hil : i < l.length := by omega
            have hz : l[i]? = some l[i] := List.getElem?_eq_getElem hil
            obtain ⟨e0, e1⟩ := (HS.out.keep FI.out (by simp)).cells i hil
            have hky : l[k]'H2.out = y := by
              have := HX.out
              rw [List.getElem?_eq_getElem H2.out] at this
              exact Option.some.inj this
            obtain ⟨q0, q1⟩ := (HS.out.keep FI.out (by simp)).cells k H2.out
            rw [hky] at q0 q1
            clear hky
            generalize l[i] = z at *
            have HZ := Lib.hid hz
            clear hz e1 q1
            by_cases he : z.1 = y.1
            · have E := Lib.hid (show ¬ AdsMay l from fun h2 => (h2.2 k H2.out y HX.out).2.2 i hik z HZ.out he.symm)
              have he' : (z.1 == y.1) = true := by simpa using he
              rw [he] at e0
              go_wp2_with fail
              go_quiet (fail)
              go_wp2_with fail
              go_ret
              exact says_no E.out (FI.out.drewN _)
            · have he' : (z.1 == y.1) = false := by simpa using he
              have HE := Lib.hid he
              clear he
              go_wp2_with fail
              go_quiet (fail)
              go_wp2_with fail
              go_roundw
              case rel =>
                refine ⟨i + 1, by omega, by go_num, fun j hj y' hy' => ?_, fi2.out.drewN _⟩
                rcases Nat.lt_or_ge j i with h | h
                · exact HDI.out j h y' hy'
                · obtain rfl : j = i := by omega
                  rw [HZ.out] at hy'
                  cases hy'
                  exact fun e => HE.out e.symm
              case measure => simp [intOf]; omega
          · obtain rfl : i = k := by omega
            go_wp2_with fail
            go_roundw
            case rel =>
              refine ⟨i + 1, H2.out, by go_num, fun j hj => ?_, FI.out⟩
              rcases Nat.lt_or_ge j i with h | h
              · exact HOK.out j h
              · obtain rfl : j = i := by omega
                intro x hx
                rw [HX.out] at hx
                cases hx
                exact ⟨HG.out.1, HG.out.2, HDI.out⟩
            case measure => simp [intOf]; omega
      · have E := Lib.hid (HNO.out hg)
        clear HNO
        go_wp2_with fail
        all_goals
          go_ret
          exact says_no E.out Fk.out
    · obtain rfl : k = l.length := by omega
      have hA : AdsOk l := fun j hj => HOK.out j hj
      by_cases h1 : 1 ≤ l.length
      · by_cases h3 : l.length ≤ 3
        · go_wp2_with fail
          go_ret
          exact ⟨Or.inl ⟨ret_bool (by simp; omega), ⟨h1, h3⟩, hA⟩, Fk.out⟩
        · go_wp2_with fail
          go_ret
          exact ⟨Or.inr ⟨ret_bool (by simp; omega), fun h => h3 h.1.2⟩, Fk.out⟩
      · go_wp2_with fail
        go_ret
        exact ⟨Or.inr ⟨ret_bool (by simp <;> omega), fun h => h1 h.1.1⟩, Fk.out⟩
end Go.Proofs.Ytjjcjocomanohaa
