/-
  Plain facts of what is made of two lists, of the lowest sectors, and of lists of sectors. No conditions but those that each theorem names.
-/
import Derived.Test.YtgbgpmdhlocjhaaX3
namespace Go.Proofs.Ytgbgpmdhlocjhaa
open Go.RowKit
set_option linter.unusedVariables false
set_option linter.unusedSimpArgs false

theorem hasB_bounds {l : List Ex} (h : Good l) {s : Int} (hs : hasB l s = true) : 0 ≤ s ∧ s < 4096 := h.bounds (hasB_iff.1 hs)
theorem mkp_good {f : Bool → Bool → Bool} (hf : f false false = false) {l m r : List Ex} {c : Int} (h : MkP f l m r c) (hg : Good l) (hm : Good m) : c = 0 ∧ Good r ∧ ∀ s, hasB r s = f (hasB l s) (hasB m s) := by
  rcases h with ⟨_, _, d, h⟩ | ⟨n, _⟩
  · refine ⟨d, h.1, fun s => ?_⟩
    rw [Bool.eq_iff_iff, hasB_iff, h.2 s]
    constructor
    · rintro ⟨_, _, k⟩; exact k
    · intro k
      have hb : 0 ≤ s ∧ s < 4096 := by
        cases ha : hasB l s
        · cases hb : hasB m s
          · rw [ha, hb, hf] at k; cases k
          · exact hasB_bounds hm hb
        · exact hasB_bounds hg ha
      exact ⟨hb.1, hb.2, k⟩
  · exact absurd ⟨hg, hm⟩ n
theorem mkp_bad {f : Bool → Bool → Bool} {l m r : List Ex} {c : Int} (h : MkP f l m r c) (hn : ¬ (Good l ∧ Good m)) : c = 2 ∧ r = [] := by
  rcases h with ⟨a, b, _⟩ | ⟨_, b, h⟩
  · exact absurd ⟨a, b⟩ hn
  · exact ⟨b, h⟩
theorem mkp_of {f : Bool → Bool → Bool} {l m r : List Ex} (hg : Good l) (hm : Good m) (hr : Good r) (h : ∀ s, hasB r s = f (hasB l s) (hasB m s)) : MkP f l m r 0 :=
  .inl ⟨hg, hm, rfl, hr, fun s => by
    rw [← hasB_iff]
    constructor
    · intro k
      have := hasB_bounds hr k
      rw [h s] at k
      exact ⟨this.1, this.2, k⟩
    · rintro ⟨_, _, k⟩; rw [h s]; exact k⟩
theorem hasB_nil (s : Int) : hasB [] s = false := rfl
theorem numE_good {l : List Ex} (h : Good l) : numE l = ((scan (hasB l) 4096).length : Int) := by
  unfold numE
  rw [if_pos h, cntE_secs h, secs_hasB h]
theorem sets_counts {l m sum com : List Ex} (hg : Good l) (hm : Good m) (h1 : Good sum) (h2 : Good com) (e1 : ∀ s, hasB sum s = (hasB l s || hasB m s)) (e2 : ∀ s, hasB com s = (hasB l s && hasB m s)) : numE sum + numE com = numE l + numE m := by
  rw [numE_good hg, numE_good hm, numE_good h1, numE_good h2, show hasB sum = fun s => hasB l s || hasB m s from funext e1, show hasB com = fun s => hasB l s && hasB m s from funext e2]
  have := filter_len_split (hasB l) (hasB m) (run 0 4096)
  unfold scan
  omega
theorem cut_counts {l low rest : List Ex} (hg : Good l) (h1 : Good low) (h2 : Good rest) (hsub : ∀ s, hasB low s = true → hasB l s = true) (e : ∀ s, hasB rest s = (hasB l s && !hasB low s)) : numE rest = numE l - numE low := by
  rw [numE_good hg, numE_good h1, numE_good h2, show hasB rest = fun s => hasB l s && !hasB low s from funext e]
  have h3 := filter_len_cut (hasB l) (hasB low) (run 0 4096)
  have e2 : (fun s => hasB l s && hasB low s) = hasB low := by
    funext s
    cases hl : hasB low s
    · simp
    · rw [hsub s hl]; rfl
  rw [e2] at h3
  unfold scan
  omega
theorem numE_bounds (l : List Ex) : 0 ≤ numE l ∧ numE l ≤ 4096 := by
  unfold numE
  split
  · rename_i h; exact cntE_le h
  · omega
/-- What the lowest sectors of a list are. -/
theorem low_secs {l low : List Ex} {N : Nat} (hg : Good l) (h : IsL low fun s => s ∈ (secs l).take N) : secs low = (secs l).take N :=
  inc_eq (secs_inc h.1) ((secs_inc hg).sublist (List.take_sublist _ _)) fun s => by rw [mem_secs]; exact h.2 s
theorem low_num {l low : List Ex} {N : Nat} (hg : Good l) (hN : (N : Int) ≤ cntE l) (h : IsL low fun s => s ∈ (secs l).take N) : numE low = N := by
  unfold numE
  rw [if_pos h.1, cntE_secs h.1, low_secs hg h, List.length_take]
  rw [cntE_secs hg] at hN
  omega
theorem low_sub {l low : List Ex} {N : Nat} (h : IsL low fun s => s ∈ (secs l).take N) (s : Int) (hs : hasB low s = true) : hasB l s = true := by
  rw [hasB_iff] at hs ⊢
  exact mem_secs.1 (List.mem_of_mem_take ((h.2 s).1 hs))
theorem low_below {l low rest : List Ex} {N : Nat} (hg : Good l) (h : IsL low fun s => s ∈ (secs l).take N) (hr : Good rest) (e : ∀ s, hasB rest s = (hasB l s && !hasB low s)) {x y : Ex} (hx : x ∈ low) (hy : y ∈ rest) : x.1 + x.2 ≤ y.1 := by
  have hxg := h.1.1 x hx
  have hyg := hr.1 y hy
  have a1 : x.1 + x.2 - 1 ∈ (secs l).take N := (h.2 _).1 ⟨x, hx, by omega, by omega⟩
  have b0 : hasB rest y.1 = true := hasB_iff.2 ⟨y, hy, by omega, by omega⟩
  rw [e] at b0
  simp only [Bool.and_eq_true, Bool.not_eq_true'] at b0
  have b1 : y.1 ∈ secs l := mem_secs.2 (hasB_iff.1 b0.1)
  have b2 : y.1 ∉ (secs l).take N := fun hm => by
    have := hasB_iff.2 ((h.2 _).2 hm)
    rw [b0.2] at this; cases this
  have b3 : y.1 ∈ (secs l).drop N := by
    have : y.1 ∈ (secs l).take N ++ (secs l).drop N := by rw [List.take_append_drop]; exact b1
    rcases List.mem_append.1 this with h | h
    · exact absurd h b2
    · exact h
  have hi : Inc ((secs l).take N ++ (secs l).drop N) := by rw [List.take_append_drop]; exact secs_inc hg
  have := (List.pairwise_append.1 hi).2.2 _ a1 _ b3
  omega
/-- The list of a list's sectors is that list. -/
theorem of_secs {l : List Ex} (h : Good l) : OfP (secs l) l 0 := .inl ⟨fun s hs => h.bounds (mem_secs.1 hs), rfl, h, fun s => mem_secs.symm⟩
theorem secs_num {l : List Ex} (h : Good l) : numE l = ((secs l).length : Int) := by
  unfold numE
  rw [if_pos h, cntE_secs h]
section
variable {v : Value} {sp : List Value} {w : World}
theorem of_ex2 (l : List Int) (r : List Ex) (c : Int) (EX : OfP l r c) (h : SlI w v l sp) (hl : l.length ≤ 100000) : Calls Try.prog 15 #[v] w (ToldX w r c) :=
  (Of_any v l sp w h hl).mono fun e w' ⟨r', c', h', t⟩ => by
    obtain ⟨rfl, rfl⟩ := h'.eq EX
    exact t
theorem list_good (l : List Ex) (hg : Good l) (h : SlX w v l sp) : Calls Try.prog 13 #[v] w (ToldI w (secs l) 0) :=
  (List_any v l sp w h hg.big hg.sm).mono fun e w' ⟨r', c', h', t⟩ => by
    obtain ⟨rfl, rfl⟩ := h'.eq (show ListP l (secs l) 0 from .inl ⟨hg, rfl, rfl⟩)
    exact t
theorem chk_good (l : List Ex) (hg : Good l) (h : SlX w v l sp) : Calls Try.prog 19 #[v] w fun e w' => e = .returned (.int .i64 0) ∧ Frm [] w w' := by
  have := Check_any v l sp w h hg.big hg.sm
  rw [chkE_good hg] at this
  exact this
end
end Go.Proofs.Ytgbgpmdhlocjhaa
