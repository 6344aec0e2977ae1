/-
  Contracts of Choose and Many. No conditions but those that each theorem names.
-/
import Derived.Test.YtojchfpfemofkaaS4
namespace Go.Proofs.Ytojchfpfemofkaa
open Go.RowKit
set_option linter.unusedVariables false
set_option linter.unusedSimpArgs false
set_option maxRecDepth 100000

/-- What is chosen, and the error. -/
def chA (f : List Int) (t : List Bool) (c : Int) : List Nat × Int :=
  if fineB f t c = true then (match cho (rm f t) (wt c t) with
    | some l => (l, 0)
    | none => ([], 15)) else ([], 2)
theorem chA_bad {f : List Int} {t : List Bool} {c : Int} (h : ¬ Fine f t c) : chA f t c = ([], 2) := by
  unfold chA
  rw [if_neg (fun e => h (fine_iff.1 e))]
theorem chA_some {f : List Int} {t : List Bool} {c : Int} {l : List Nat} (h : Fine f t c) (hl : cho (rm f t) (wt c t) = some l) : chA f t c = (l, 0) := by
  unfold chA
  rw [if_pos (fine_iff.2 h), hl]
theorem chA_none {f : List Int} {t : List Bool} {c : Int} (h : Fine f t c) (hl : cho (rm f t) (wt c t) = none) : chA f t c = ([], 15) := by
  unfold chA
  rw [if_pos (fine_iff.2 h), hl]
theorem aft_le {w : Nat} {r rk : List Int} {k : Nat} (h : aft w r k = some rk) (h0 : ∀ i, 0 ≤ gt r i ∧ gt r i ≤ 4096) (hn : r.length ≤ 8) : k ≤ 32768 := by
  rcases Nat.eq_zero_or_pos w with rfl | hw
  · have := aft_zero h; omega
  · have h1 := aft_sum_le hw (fun i => (h0 i).1) h
    have h2 : sumN r.length (gt r) ≤ sumN r.length (fun i => 4096 * 1) := sumN_le fun i _ => by have := h0 i; omega
    rw [sumN_mul] at h2
    have h3 : ∀ n : Nat, sumN n (fun _ => 1) = n := fun n => by
      induction n with
      | zero => rfl
      | succ n ih => simp only [sumN, ih]; omega
    rw [h3] at h2
    omega
theorem lay1_none {w : Nat} {r : List Int} {w0 w' : World} {e : Ending} (h : LayP w r 1 w0 e w') (hn : cho r w = none) : e = .returned (.tuple #[.int .i64 0, .slice none 0 0]) ∧ Frm [] w0 w' := by
  obtain ⟨k, rk, dv, g, rfl, hk, ha, hm, hd, f2⟩ := h
  have hk0 : k = 0 := by
    rcases Nat.lt_or_ge 0 k with h | h
    · obtain rfl : k = 1 := by omega
      simp [aft, hn] at ha
    · omega
  subst hk0
  rcases hd with ⟨_, rfl⟩ | ⟨j, _, _, _, _, _, h, _⟩
  · exact ⟨rfl, f2⟩
  · omega
theorem lay1_some {w : Nat} {r : List Int} {w0 w' : World} {e : Ending} {l : List Nat} (h : LayP w r 1 w0 e w') (hl : cho r w = some l) : ∃ g cap sp, e = .returned (.tuple #[.int .i64 1, .slice (some ⟨g, 0, none⟩) w cap]) ∧ OwnI w' (.slice (some ⟨g, 0, none⟩) w cap) (cz l) sp ∧ Frm [] w0 w' ∧ w0.heap.size ≤ g := by
  obtain ⟨k, rk, dv, g, rfl, hk, ha, hm, hd, f2⟩ := h
  have hk1 : k = 1 := by
    rcases Nat.lt_or_ge 0 k with h | h
    · omega
    · obtain rfl : k = 0 := by omega
      simp [aft] at ha
      subst ha
      rcases hm with h | h
      · omega
      · rw [hl] at h; cases h
  subst hk1
  rcases hd with ⟨h, _⟩ | ⟨j, r', l', g2, cap, sp, h1, h2, h3, rfl, h5, h6, _⟩
  · cases h
  · obtain rfl : j = 0 := by omega
    simp [aft] at h2
    subst h2
    rw [hl] at h3
    cases h3
    exact ⟨g2, cap, sp, rfl, h5, f2, h6⟩
set_option maxHeartbeats 4000000 in
theorem Choose_any (v d : Value) (f : List Int) (t : List Bool) (c : Int) (sp dsp : List Value) (w : World) (hS : SlI w v f sp) (hT : SlO w d t dsp) (hl : f.length ≤ 12) (hl2 : t.length ≤ 12) :
    Calls Try.prog 11 #[v, d, .int .i64 c] w (ToldI w (cz (chA f t c).1) (chA f t c).2) := by
  have hC := Check_any v d f t c sp dsp w hS hT hl hl2
  by_cases hF : Fine f t c
  · rw [chkC_fine hF] at hC
    have HC := Lib.hid hC
    have hL := lay_any v d f t c 1 sp dsp w hS hT hF (by omega)
    cases hl : cho (rm f t) (wt c t) with
    | none =>
      rw [chA_none hF hl]
      have HL := Lib.hid (hL.mono fun e w' h => lay1_none h hl)
      clear hC hS hT hl hl2 hF hL
      go_enter Try.func11, Try.ntmps11
      go_wp2_with (first
        | (go_at_call 14; refine Calls.mono (HC.out) ?_; rintro ee W1 ⟨rfl, rfl⟩)
        | (go_at_call 25; refine Calls.mono (HL.out) ?_; rintro ee W2 ⟨rfl, f2⟩))
      go_ret2
      exact ⟨_, [], rfl, OwnE.nil _ _ _ _, f2, by simp [blk]⟩
    | some l =>
      rw [chA_some hF hl]
      have HL := Lib.hid (hL.mono fun e w' h => lay1_some h hl)
      clear hC hS hT hl hl2 hF hL
      generalize wt c t = wn at *
      go_enter Try.func11, Try.ntmps11
      go_wp2_with (first
        | (go_at_call 14; refine Calls.mono (HC.out) ?_; rintro ee W1 ⟨rfl, rfl⟩)
        | (go_at_call 25; refine Calls.mono (HL.out) ?_; rintro ee W2 ⟨g, cap, sp2, rfl, o2, f2, n2⟩))
      go_ret2
      exact ⟨_, sp2, rfl, o2, f2, by simp [blk]; exact n2⟩
  · rw [chkC_bad hF] at hC
    rw [chA_bad hF]
    have HC := Lib.hid hC
    clear hC hS hT hl hl2 hF
    go_enter Try.func11, Try.ntmps11
    go_wp2_with (first
      | (go_at_call 14; refine Calls.mono (HC.out) ?_; rintro ee W1 ⟨rfl, rfl⟩))
    go_ret2
    exact ⟨_, [], rfl, OwnE.nil _ _ _ _, Frm.refl _ _, by simp [blk]⟩
/-- How often can be chosen, and the error. -/
def MnR (f : List Int) (t : List Bool) (c : Int) (k : Nat) (e : Int) : Prop := (¬ Fine f t c ∧ k = 0 ∧ e = 2) ∨ (Fine f t c ∧ Mny (wt c t) (rm f t) k ∧ e = 0)
theorem MnR.eq {f : List Int} {t : List Bool} {c : Int} {k j : Nat} {e e2 : Int} (h : MnR f t c k e) (h2 : MnR f t c j e2) : k = j ∧ e = e2 := by
  rcases h with ⟨h, rfl, rfl⟩ | ⟨h, hm, rfl⟩ <;> rcases h2 with ⟨h', rfl, rfl⟩ | ⟨h', hm', rfl⟩
  · exact ⟨rfl, rfl⟩
  · exact absurd h' h
  · exact absurd h h'
  · exact ⟨hm.eq hm', rfl⟩
def ManyP (f : List Int) (t : List Bool) (c : Int) (w : World) (e : Ending) (w' : World) : Prop := ∃ k er, MnR f t c k er ∧ e = .returned (.tuple #[.int .i64 (k : Nat), .int .i64 er]) ∧ Frm [] w w'
set_option maxHeartbeats 4000000 in
theorem Many_any (v d : Value) (f : List Int) (t : List Bool) (c : Int) (sp dsp : List Value) (w : World) (hS : SlI w v f sp) (hT : SlO w d t dsp) (hl : f.length ≤ 12) (hl2 : t.length ≤ 12) :
    Calls Try.prog 18 #[v, d, .int .i64 c] w (ManyP f t c w) := by
  have hC := Check_any v d f t c sp dsp w hS hT hl hl2
  by_cases hF : Fine f t c
  · rw [chkC_fine hF] at hC
    have HC := Lib.hid hC
    have HL := Lib.hid (lay_any v d f t c 9223372036854775807 sp dsp w hS hT hF (by omega))
    have HF := Lib.hid hF
    clear hC hS hT hl hl2 hF
    go_enter Try.func18, Try.ntmps18
    go_wp2_with (first
      | (go_at_call 14; refine Calls.mono (HC.out) ?_; rintro ee W1 ⟨rfl, rfl⟩)
      | (go_at_call 25; refine Calls.mono (HL.out) ?_; rintro ee W2 ⟨k, rk, dv, g, rfl, hk, ha, hn, hd, f2⟩))
    go_ret2
    have hle := aft_le ha HF.out.rm (by rw [rm_length]; exact HF.out.n8)
    refine ⟨k, 0, .inr ⟨HF.out, ⟨rk, ha, ?_⟩, rfl⟩, rfl, f2⟩
    rcases hn with h | h
    · omega
    · exact h
  · rw [chkC_bad hF] at hC
    have HC := Lib.hid hC
    have HM := Lib.hid (show MnR f t c 0 2 from .inl ⟨hF, rfl, rfl⟩)
    clear hC hS hT hl hl2 hF
    go_enter Try.func18, Try.ntmps18
    go_wp2_with (first
      | (go_at_call 14; refine Calls.mono (HC.out) ?_; rintro ee W1 ⟨rfl, rfl⟩))
    go_ret2
    exact ⟨0, 2, HM.out, rfl, Frm.refl _ _⟩
end Go.Proofs.Ytojchfpfemofkaa
