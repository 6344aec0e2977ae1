/-
  What is kept by the other calls; as a law calls them. No conditions but those that each theorem names.
-/
import Derived.Test.YtdebnikolhhmgaaDoorBW
namespace Go.Proofs.YtdebnikolhhmgaaDoor
open Go.RowKit
set_option linter.unusedVariables false
set_option linter.unusedSimpArgs false
set_option maxRecDepth 100000

open Kr (OwnE SlE Enco RowTys)
theorem Wf.swap {K : Nat} {s : St} (h : Wf K s) (d : Int) (hd : 0 ≤ d) (q' : Dv) (h1 : (q'.f &&& 1) = 0 → q'.secs.length = s.n) (h4 : (q'.f &&& 4) = 0) : Wf K (YtdebnikolhhmgaaDoor.setD (takenS s d) d fun _ => q') := by
  have ht : Wf K (takenS s d) := h.rows _ (Nat.le_refl _) (Nat.le_trans (List.length_filter_le _ _) h.rw) fun x hx => h.fr x (List.mem_filter.1 hx).1
  unfold YtdebnikolhhmgaaDoor.setD
  cases e : (takenS s d).devs[d.toNat]? with
  | none => exact ht
  | some q =>
    refine ⟨ht.l0, ht.l1, ht.s0, ht.s1, ht.n1, ht.rw, fun p hp hf => ?_, fun p hp hf => ?_, fun x hx => ?_⟩
    · rcases List.mem_or_eq_of_mem_set hp with hp | rfl
      · exact ht.fd p hp hf
      · exact h1 hf
    · rcases List.mem_or_eq_of_mem_set hp with hp | rfl
      · exact ht.fx p hp hf
      · exact absurd h4 hf
    · obtain ⟨x1, x2, m, x3, x4⟩ := ht.fr x hx
      have hne : x.dev ≠ d := by
        have := (List.mem_filter.1 hx).2
        simpa using this
      refine ⟨x1, x2, m, ?_, x4⟩
      unfold szs at x3 ⊢
      simp only
      rw [List.map_set, List.getElem?_set_ne (by omega)]
      exact x3
def puR (s : St) (d : Int) : Int × St := mRes (dCons (nD s d, s) (nT s d, s)) fun s => pullS s d
def fiR (s : St) (d : Int) : Int × St := mRes (nD s d, s) fun s => fitS s d
def stR (s : St) (d a : Int) : Int × St := mRes (dCons (nS s d a, s) (nT s d, s)) fun s => devS s d a
def faR (s : St) (d n : Int) : Int × St := mRes (dCons (nD s d, s) (dCons (nA (decide (0 ≤ n)), s) (nT s d, s))) fun s => setD s d fun q => failD q n
def fuR (s : St) (n : Int) : Int × St := mRes (dCons (nR s, s) (nA (decide (0 ≤ n)), s)) fun s => { s with set := true, left := n }
theorem Wf.puR {K : Nat} {s : St} (h : Wf K s) (d : Int) : Wf K (puR s d).2 :=
  mRes_ind (dCons_ind h h) fun e => by
    obtain ⟨q0, _⟩ := dCons_of e
    rw [show (dCons (nD s d, s) (nT s d, s)).2 = s from dCons_ind (P := fun x => x = s) rfl rfl]
    exact h.swap d (okD_at (nD_ok q0)).2.1 goneDv (fun e => absurd e (by decide)) rfl
theorem Wf.fiR {K : Nat} {s : St} (h : Wf K s) (d : Int) : Wf K (fiR s d).2 :=
  mRes_ind h fun e => h.swap d (okD_at (nD_ok e)).2.1 (zDv s.n) (fun _ => by simp [zDv]) (by simp [zDv])
theorem failF_1 (f : Nat) (n : Int) (h : (failF f n &&& 1) = 0) : (f &&& 1) = 0 := by
  unfold failF at h
  split at h
  · rw [Nat.and_or_distrib_right, show (8 &&& 1 : Nat) = 0 from by decide, Nat.or_zero] at h; exact h
  · rw [Nat.and_assoc, show (255 - 8 &&& 1 : Nat) = 1 from by decide] at h; exact h
theorem failF_4 (f : Nat) (n : Int) (h : (failF f n &&& 4) ≠ 0) : (f &&& 4) ≠ 0 := by
  unfold failF at h
  split at h
  · rw [Nat.and_or_distrib_right, show (8 &&& 4 : Nat) = 0 from by decide, Nat.or_zero] at h; exact h
  · rw [Nat.and_assoc, show (255 - 8 &&& 4 : Nat) = 4 from by decide] at h; exact h
theorem Wf.faR {K : Nat} {s : St} (h : Wf K s) (d n : Int) : Wf K (faR s d n).2 :=
  mRes_ind (dCons_ind h (dCons_ind h h)) fun e => by
    rw [show (dCons (nD s d, s) (dCons (nA (decide (0 ≤ n)), s) (nT s d, s))).2 = s from dCons_ind (P := fun x => x = s) rfl (dCons_ind (P := fun x => x = s) rfl rfl)]
    exact h.setD d _ (fun q hq => rfl) (fun q hq e => failF_1 _ _ e) (fun q hq e => h.fx q hq (failF_4 _ _ e))
theorem Wf.fuR {K : Nat} {s : St} (h : Wf K s) (n : Int) (hn : n ≤ 9223372036854775807) : Wf K (fuR s n).2 :=
  mRes_ind (dCons_ind h h) fun e => by
    obtain ⟨_, q1⟩ := dCons_of e
    rw [show (dCons (nR s, s) (nA (decide (0 ≤ n)), s)).2 = s from dCons_ind (P := fun x => x = s) rfl rfl]
    have h0 : 0 ≤ n := by
      cases e : decide (0 ≤ n)
      · simp only at q1; rw [e] at q1; cases q1
      · exact of_decide_eq_true e
    exact ⟨h0, hn, h.s0, h.s1, h.n1, h.rw, h.fd, h.fx, h.fr⟩
theorem Wf.stR {K : Nat} {s : St} (h : Wf K s) (d a : Int) : Wf K (stR s d a).2 :=
  mRes_ind (dCons_ind h h) fun e => by
    obtain ⟨q0, _⟩ := dCons_of e
    have ha := okA_at (nS_ok q0).2
    rw [show (dCons (nS s d a, s) (nT s d, s)).2 = s from dCons_ind (P := fun x => x = s) rfl rfl]
    exact h.setD d _ (fun q hq => rfl) (fun q hq e => by
      have : ((q.f ||| 4) &&& 1) = 0 := e
      rw [Nat.and_or_distrib_right, show (4 &&& 1 : Nat) = 0 from by decide, Nat.or_zero] at this
      exact this) (fun q hq e => ⟨ha.2.1, ha.2.2⟩)
section
variable {lo : Nat} {w : World} {sn : Nat → Addr} {g K : Nat} {s : St}
theorem pu_at (hs : Sn w lo sn) (h : Arr lo w g s) (wf : Wf K s) (hK : K ≤ 100000000) (d : Int) :
    Calls Tryd.prog 21 #[.pointer (some ⟨g, 0, none⟩), .int .i64 d] w fun e w' => e = .returned (.int .i64 (puR s d).1) ∧ Arr lo w' g (puR s d).2 ∧ Fa lo w w' := Pull_any d hs h (wf.row hK)
theorem fi_at (hs : Sn w lo sn) (h : Arr lo w g s) (wf : Wf K s) (hK : K ≤ 100000000) (d : Int) :
    Calls Tryd.prog 22 #[.pointer (some ⟨g, 0, none⟩), .int .i64 d] w fun e w' => e = .returned (.int .i64 (fiR s d).1) ∧ Arr lo w' g (fiR s d).2 ∧ Fa lo w w' := Fit_any d hs h (wf.row hK) wf.n1
theorem st_at (hs : Sn w lo sn) (h : Arr lo w g s) (wf : Wf K s) (hK : K ≤ 100000000) (d a : Int) :
    Calls Tryd.prog 19 #[.pointer (some ⟨g, 0, none⟩), .int .i64 d, .int .i64 a] w fun e w' => e = .returned (.int .i64 (stR s d a).1) ∧ Arr lo w' g (stR s d a).2 ∧ Fa lo w w' := Stray_any d a hs h (wf.wfs hK)
theorem fa_at (hs : Sn w lo sn) (h : Arr lo w g s) (d n : Int) (hn : -9223372036854775808 ≤ n ∧ n ≤ 9223372036854775807) :
    Calls Tryd.prog 20 #[.pointer (some ⟨g, 0, none⟩), .int .i64 d, .int .i64 n] w fun e w' => e = .returned (.int .i64 (faR s d n).1) ∧ Arr lo w' g (faR s d n).2 ∧ Fa lo w w' := Fail_any d n hn hs h
theorem fu_at (hs : Sn w lo sn) (h : Arr lo w g s) (n : Int) :
    Calls Tryd.prog 15 #[.pointer (some ⟨g, 0, none⟩), .int .i64 n] w fun e w' => e = .returned (.int .i64 (fuR s n).1) ∧ Arr lo w' g (fuR s n).2 ∧ Fa lo w w' := Fuse_any n hs h
theorem up_at (hs : Sn w lo sn) (h : Arr lo w g s) (d : Int) :
    Calls Tryd.prog 27 #[.pointer (some ⟨g, 0, none⟩), .int .i64 d] w fun e w' => e = .returned (.bool (dCons (nR s, s) (dCons (nD s d, s) (nT s d, s))).1.isNone) ∧ Arr lo w' g s ∧ Fa lo w w' := Up_any d hs h
theorem rdE_at (hs : Sn w lo sn) (h : Arr lo w g s) (wf : Wf K s) (hK : K ≤ 100000000) (d a : Int) (k : Nat) (hk : (rdR s d a).1 = some k) :
    Calls Tryd.prog 11 #[.pointer (some ⟨g, 0, none⟩), .int .i64 d, .int .i64 a] w fun e w' => e = .returned (.tuple #[.slice none 0 0, .int .i64 (code k)]) ∧ Arr lo w' g (rdR s d a).2 ∧ Fa lo w w' := by
  have R : Calls Tryd.prog 11 #[.pointer (some ⟨g, 0, none⟩), .int .i64 d, .int .i64 a] w (RdP lo g (rdR s d a) (tellAt s d a) w) := Read_any d a hs h (wf.wfs hK) wf.fd
  refine R.mono ?_
  rintro e w' ⟨⟨hn, _⟩ | ⟨k', hk', rfl⟩, a1, f1⟩
  · rw [hn] at hk; cases hk
  · rw [hk] at hk'
    cases hk'
    exact ⟨rfl, a1, f1⟩
end
end Go.Proofs.YtdebnikolhhmgaaDoor

