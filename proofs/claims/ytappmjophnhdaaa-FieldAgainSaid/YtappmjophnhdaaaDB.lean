/-
  A reader and a writer side by side, and what is read as what is written; no conditions but those that each theorem names.
-/
import Derived.Test.YtappmjophnhdaaaDA
import Derived.Test.YtappmjophnhdaaaCJ
namespace Go.Proofs.Ytappmjophnhdaaa
open Go.RowKit
set_option linter.unusedVariables false
set_option linter.unusedSimpArgs false

/-- A reader and a writer, both of the call's own. -/
structure RW (w : World) (br bw : Nat) (vr v : Value) (l sp B : List UInt8) (s : Nat × Int × Int) (wr : World) : Prop where
  r : Rd wr br vr l sp s.1 s.2.1 s.2.2
  ww : ∃ spw, Wr wr bw v B spw 0
  f : Frm [] w wr
  n1 : w.heap.size ≤ br
  n2 : w.heap.size ≤ bw
  fr : Fresh w vr
  fw : Fresh w v
  d : ∀ k ∈ br :: blk vr, k ∉ bw :: blk v
section
variable {w wr w2 : World} {br bw : Nat} {vr v : Value} {l sp B B' : List UInt8} {s s' : Nat × Int × Int} {L : List Nat}
theorem RW.keep (h : RW w br bw vr v l sp B s wr) (f : Frm L wr w2) (hL : ∀ k ∈ L, wr.heap.size ≤ k) : RW w br bw vr v l sp B s w2 := by
  obtain ⟨spw, hw⟩ := h.ww
  refine ⟨h.r.keep f (fun hm => ?_) (fun k hk hm => ?_), ⟨spw, hw.keep f (fun hm => ?_) (fun k hk hm => ?_)⟩, h.f.trans f (fun k hk => .inr (Nat.le_trans h.f.size (hL k hk))), h.n1, h.n2, h.fr, h.fw, h.d⟩
  · have := h.r.lt br (by simp); have := hL _ hm; omega
  · have := h.r.lt k (List.mem_cons_of_mem _ hk); have := hL _ hm; omega
  · have := hw.lt bw (by simp); have := hL _ hm; omega
  · have := hw.lt k (List.mem_cons_of_mem _ hk); have := hL _ hm; omega
theorem RW.read (h : RW w br bw vr v l sp B s wr) (t : RdTo wr br vr l sp s' w2) : RW w br bw vr v l sp B s' w2 := by
  obtain ⟨spw, hw⟩ := h.ww
  have hd := h.d br (by simp)
  simp at hd
  refine ⟨t.1, ⟨spw, hw.keep t.2 (by simp; exact fun e => hd.1 e.symm) (fun k hk => by simp; rintro rfl; exact hd.2 hk)⟩, h.f.trans t.2 (fun k hk => by simp at hk; subst hk; exact .inr h.n1), h.n1, h.n2, h.fr, h.fw, h.d⟩
theorem RW.write (h : RW w br bw vr v l sp B s wr) (t : WrTo2 wr bw v (B', 0) w2) : ∃ v', RW w br bw vr v' l sp B' s w2 := by
  obtain ⟨v', spw, h1, h2, h3⟩ := t
  have hrl := h.r.lt
  refine ⟨v', h.r.keep h2 (h.d br (by simp)) (fun k hk => h.d k (List.mem_cons_of_mem _ hk)), ⟨spw, h1⟩, h.f.trans h2 (fun k hk => ?_), h.n1, h.n2, h.fr, fun k hk => ?_, fun k hk hm => ?_⟩
  · rcases List.mem_cons.1 hk with rfl | hk
    · exact .inr h.n2
    · exact .inr (h.fw k hk)
  · rcases h3 k hk with h4 | h4
    · exact h.fw k h4
    · exact Nat.le_trans h.f.size h4
  · rcases List.mem_cons.1 hm with rfl | hm
    · exact h.d k hk (by simp)
    · rcases h3 k hm with h4 | h4
      · exact h.d k hk (List.mem_cons_of_mem _ h4)
      · have := hrl k hk; omega
end
/-- What is read, as what is written. -/
def Good (l : List UInt8) (s s' : Nat × Int × Int) (x : Act0) : Prop :=
  Okay l s' ∧ s.1 ≤ s'.1 ∧ x.m.length ≤ 1000 ∧ x.n ≤ 9223372036854775807 ∧ (s'.2.1 = 0 → x.step (l.take s.1, 0) = (l.take s'.1, 0)) ∧
    (s'.2.1 ≠ 0 → x.n = 0 ∧ x.s = ByteArray.empty ∧ x.m = [] ∧ s'.1 = s.1 ∧ (s.2.1 ≠ 0 → s' = s))
theorem stepR_place {α : Type} {s : Nat × Int × Int} {z : α} {o : (Int × Int) ⊕ α} {n : Nat} : s.1 ≤ (stepR s z o n).2.1 := by
  unfold stepR
  split
  · cases o with
    | inl f => exact Nat.le_refl _
    | inr x => exact Nat.le_add_right _ _
  · exact Nat.le_refl _
theorem good_num {l : List UInt8} {s s' : Nat × Int × Int} {size low high n : Int} (hl : l.length ≤ 1000) (h : Okay l s) (e : rNum l s size low high = (n, s')) : Good l s s' ⟨0, n, size, ByteArray.empty, []⟩ := by
  have h1 := (Ask0.mk 0 size low high).step_okay h
  have hp : s.1 ≤ (rNum l s size low high).2.1 := stepR_place
  simp only [Ask0.step, if_true, e] at h1
  rw [e] at hp
  refine ⟨h1, hp, by simp, ?_, fun h0 => ?_, fun hf => ?_⟩
  · show n ≤ _
    unfold rNum stepR at e
    split at e
    · cases hn : numRead l s.1 size low high with
      | inl f => rw [hn] at e; simp at e; omega
      | inr m =>
        rw [hn] at e
        simp at e
        unfold numRead at hn
        split at hn
        · cases hn
        rename_i hs
        have hb : 1 ≤ size ∧ size ≤ 7 := by simpa [isSizeB] using hs
        split at hn
        · cases hn
        split at hn
        · cases hn
        cases hn
        have hlt := beNat_lt ((l.drop s.1).take size.toNat)
        have : 256 ^ ((l.drop s.1).take size.toNat).length ≤ 256 ^ 7 := Nat.pow_le_pow_right (by omega) (by simp; omega)
        omega
    · cases e; simp
  · have hs0 : s.2.1 = 0 := stepR_ok e h0
    obtain ⟨p, fe, fa⟩ := s
    obtain ⟨p', fe', fa'⟩ := s'
    simp only at hs0 h0
    subst hs0 h0
    have := num_again h.1 hl e
    simpa [Act0.step, wStep] using this
  · obtain ⟨g1, g2, g3⟩ := stepR_fault e hf
    exact ⟨g1, rfl, rfl, g2, g3⟩
theorem good_text {l : List UInt8} {s s' : Nat × Int × Int} {most : Int} {m : ByteArray} (hl : l.length ≤ 1000) (h : Okay l s) (e : rText l s most = (m.data.toList, s')) : Good l s s' ⟨1, 0, most, m, []⟩ := by
  have h1 := (Ask0.mk 1 most 0 0).step_okay h
  have hp : s.1 ≤ (rText l s most).2.1 := stepR_place
  simp only [Ask0.step, if_true, e] at h1
  rw [e] at hp
  refine ⟨by simpa using h1, hp, by simp, by simp, fun h0 => ?_, fun hf => ?_⟩
  · have hs0 : s.2.1 = 0 := stepR_ok e h0
    obtain ⟨p, fe, fa⟩ := s
    obtain ⟨p', fe', fa'⟩ := s'
    simp only at hs0 h0
    subst hs0 h0
    have := text_again h.1 hl e
    simpa [Act0.step, wStep] using this
  · obtain ⟨g1, g2, g3⟩ := stepR_fault e hf
    refine ⟨rfl, ?_, rfl, g2, g3⟩
    obtain ⟨⟨d⟩⟩ := m
    simp at g1
    subst g1
    rfl
theorem good_raw {l m : List UInt8} {s s' : Nat × Int × Int} {n : Int} (hl : l.length ≤ 1000) (h : Okay l s) (e : rRaw l s n = (m, s')) : Good l s s' ⟨2, 0, n, ByteArray.empty, m⟩ := by
  have h1 := (Ask0.mk 2 n 0 0).step_okay h
  have hp : s.1 ≤ (rRaw l s n).2.1 := stepR_place
  simp only [Ask0.step, if_true, e] at h1
  rw [e] at hp
  refine ⟨by simpa using h1, hp, ?_, by simp, fun h0 => ?_, fun hf => ?_⟩
  · show m.length ≤ 1000
    unfold rRaw stepR at e
    split at e
    · cases hn : rawRead l s.1 n with
      | inl f => rw [hn] at e; simp at e; obtain ⟨rfl, _⟩ := e; simp
      | inr k =>
        rw [hn] at e
        simp at e
        obtain ⟨rfl, _⟩ := e
        unfold rawRead at hn
        split at hn
        · cases hn
        split at hn
        · cases hn
        cases hn
        simp; omega
    · cases e; simp
  · have hs0 : s.2.1 = 0 := stepR_ok e h0
    obtain ⟨p, fe, fa⟩ := s
    obtain ⟨p', fe', fa'⟩ := s'
    simp only at hs0 h0
    subst hs0 h0
    have := raw_again h.1 hl e
    simpa [Act0.step, wStep] using this
  · obtain ⟨g1, g2, g3⟩ := stepR_fault e hf
    exact ⟨rfl, rfl, g1, g2, g3⟩
theorem good_rest {l : List UInt8} {s s' : Nat × Int × Int} (hl : l.length ≤ 1000) (h : Okay l s) (e : rRest l s = s') : Good l s s' ⟨3, 0, s'.1, ByteArray.empty, []⟩ := by
  have h1 := (Ask0.mk 3 0 0 0).step_okay h
  simp only [Ask0.step, if_true, e] at h1
  refine ⟨by simpa using h1, ?_, by simp, by simp, fun h0 => ?_, fun hf => ?_⟩
  · have h2 := h.1
    subst e
    unfold rRest
    split
    · split
      · exact h2
      · exact Nat.le_refl _
    · exact Nat.le_refl _
  · have hs0 : s.2.1 = 0 := rRest_ok e h0
    obtain ⟨p, fe, fa⟩ := s
    obtain ⟨p', fe', fa'⟩ := s'
    simp only at hs0 h0
    subst hs0 h0
    have := rest_again h.1 hl e
    simpa [Act0.step, wStep] using this
  · obtain ⟨g2, g3⟩ := rRest_fault e hf
    exact ⟨rfl, rfl, rfl, g2, g3⟩
theorem good_other {l : List UInt8} {s : Nat × Int × Int} {kind size : Int} (h : Okay l s) (k0 : kind ≠ 0) (k1 : kind ≠ 1) (k2 : kind ≠ 2) (k3 : kind ≠ 3) : Good l s s ⟨kind, 0, size, ByteArray.empty, []⟩ :=
  ⟨h, Nat.le_refl _, by simp, by simp, fun h0 => by simp [Act0.step, k0, k1, k2, k3], fun hf => ⟨rfl, rfl, rfl, rfl, fun _ => rfl⟩⟩
end Go.Proofs.Ytappmjophnhdaaa
