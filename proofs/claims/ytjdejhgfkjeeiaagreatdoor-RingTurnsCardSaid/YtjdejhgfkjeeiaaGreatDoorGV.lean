/-
  Contracts of heap's Fix at a queue, of Push, Pop, put and take. No conditions but those that each theorem names.
-/
import Derived.Test.YtjdejhgfkjeeiaaGreatDoorGU
namespace Go.Proofs.YtjdejhgfkjeeiaaGreatDoor
open Go.RowKit
set_option linter.unusedVariables false
set_option linter.unusedSimpArgs false
set_option maxRecDepth 100000

open Kr (OwnE SlE Enco RowTys)
theorem Mv.trans {g : Nat} {v : Value} {l1 l2 : List En} {sp : List Value} {w w1 w2 : World} (h1 : Mv g v l1 sp w w1) (h2 : Mv g v l2 sp w1 w2) : Mv g v l2 sp w w2 := ⟨h2.1, h1.2.trans h2.2 (fun i hi => .inl hi)⟩
theorem downL_last (l : List En) (x : En) : downL (l ++ [x]) l.length = (l ++ [x], l.length) := downL_stop (.inl (by simp; omega))
set_option maxHeartbeats 1000000 in
/-- Fix at the last place: what was put behind goes up. -/
theorem FixLast_any (g : Nat) (v : Value) (l : List En) (x : En) (sp : List Value) (w : World) (h : Qu w g v (l ++ [x]) sp) (hl : l.length + 1 ≤ 1000000) :
    Calls Tryz.prog 127 #[.iface 114 (.pointer (some ⟨g, 0, none⟩)), .int .i64 l.length] w fun e w' => e = .returned (.tuple #[]) ∧ Mv g v (putQ l x) sp w w' := by
  obtain ⟨a, cap, rfl⟩ := h.form
  have hlen : (l ++ [x]).length = l.length + 1 := by simp
  have HD := Lib.hid (down_any g _ (l ++ [x]) sp l.length w h (by rw [hlen]; omega) (by rw [hlen]; omega))
  rw [downL_last] at HD
  rw [hlen] at HD
  have HU := Lib.hid (fun W (q : Qu W g (.slice a (l ++ [x]).length cap) (l ++ [x]) sp) => up_any g _ (l ++ [x]) sp l.length W q (.inr (by rw [hlen]; omega)) (by rw [hlen]; omega))
  have ml := mLen g w _ h.cell
  rw [hlen] at ml HU h ⊢
  clear h hlen
  go_enter Tryz.func127, Tryz.ntmps127
  go_wp2_with fail
  refine (Len_any _ _ _ _).mono ?_
  rintro r w1 ⟨rfl, rfl⟩
  go_wp2_with fail
  refine HD.out.mono ?_
  rintro r w2 ⟨rfl, m2⟩
  have M2 := Lib.hid m2
  clear m2
  go_wp2_with fail
  refine (HU.out w2 M2.out.1).mono ?_
  rintro r w3 ⟨rfl, m3⟩
  go_wp2_with fail
  go_end0
  exact ⟨rfl, M2.out.trans m3⟩
set_option maxHeartbeats 1000000 in
/-- Fix at the first place. -/
theorem FixFirst_any (g : Nat) (v : Value) (l : List En) (sp : List Value) (w : World) (h : Qu w g v l sp) (hl : l.length ≤ 1000000) :
    Calls Tryz.prog 127 #[.iface 114 (.pointer (some ⟨g, 0, none⟩)), .int .i64 0] w fun e w' => e = .returned (.tuple #[]) ∧ Mv g v (downL l 0).1 sp w w' := by
  obtain ⟨a, cap, rfl⟩ := h.form
  have HD := Lib.hid (down_any g _ l sp 0 w h (by omega) hl)
  have hlen : (downL l 0).1.length = l.length := by
    have : ∀ (m : Nat) (l : List En) (k : Nat), l.length - k ≤ m → (downL l k).1.length = l.length := by
      intro m
      induction m with
      | zero => intro l k hm; rw [downL_stop (.inl (by omega))]
      | succ m ih =>
        intro l k hm
        by_cases hs : l.length ≤ 2 * k + 1 ∨ ltE (en l (kid l k)) (en l k) = false
        · rw [downL_stop hs]
        · have h1 : 2 * k + 1 < l.length := by
            rcases Nat.lt_or_ge (2 * k + 1) l.length with h | h
            · exact h
            · exact absurd (.inl h) hs
          have h2 : ltE (en l (kid l k)) (en l k) = true := by
            cases hb : ltE (en l (kid l k)) (en l k) with
            | true => rfl
            | false => exact absurd (.inr hb) hs
          rw [downL_step h1 h2, ih _ _ (by rw [swp_len]; have := kid_gt l k; have := kid_lt h1; omega), swp_len]
    exact this _ l 0 (Nat.le_refl _)
  have HU := Lib.hid (fun W (q : Qu W g (.slice a l.length cap) (downL l 0).1 sp) => up_any g _ (downL l 0).1 sp 0 W q (.inl rfl) (by rw [hlen]; exact hl))
  rw [upL_stop (.inl rfl)] at HU
  have ml := mLen g w _ h.cell
  obtain ⟨b, hb⟩ : ∃ b, decide (0 < (downL l 0).2) = b := ⟨_, rfl⟩
  rw [hb] at HD
  clear h hlen hb
  go_enter Tryz.func127, Tryz.ntmps127
  go_wp2_with fail
  refine (Len_any _ _ _ _).mono ?_
  rintro r w1 ⟨rfl, rfl⟩
  go_wp2_with fail
  refine HD.out.mono ?_
  rintro r w2 ⟨rfl, m2⟩
  have M2 := Lib.hid m2
  clear m2
  cases b with
  | true =>
    go_wp2_with fail
    go_end0
    exact ⟨rfl, M2.out⟩
  | false =>
    go_wp2_with fail
    refine (HU.out w2 M2.out.1).mono ?_
    rintro r w3 ⟨rfl, m3⟩
    go_wp2_with fail
    go_end0
    exact ⟨rfl, M2.out.trans m3⟩
end Go.Proofs.YtjdejhgfkjeeiaaGreatDoor
