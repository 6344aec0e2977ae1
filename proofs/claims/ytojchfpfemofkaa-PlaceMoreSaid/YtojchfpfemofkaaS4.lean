/-
  Contracts of Check (the program's and the document's), Choose and Many. No conditions but those that each theorem names.
-/
import Derived.Test.YtojchfpfemofkaaS3
namespace Go.Proofs.Ytojchfpfemofkaa
open Go.RowKit
set_option linter.unusedVariables false
set_option linter.unusedSimpArgs false
set_option maxRecDepth 100000

def inF (x : Int) : Bool := decide (0 ≤ x ∧ x ≤ 4096)
def fineB (f : List Int) (t : List Bool) (c : Int) : Bool := decide (2 ≤ f.length ∧ f.length ≤ 8 ∧ t.length = f.length ∧ 1 ≤ c ∧ c ≤ 3) && f.all inF
def chkC (f : List Int) (t : List Bool) (c : Int) : Int := if fineB f t c = true then 0 else 2
theorem fine_iff {f : List Int} {t : List Bool} {c : Int} : fineB f t c = true ↔ Fine f t c := by
  unfold fineB
  rw [Bool.and_eq_true, decide_eq_true_eq, List.all_eq_true]
  constructor
  · rintro ⟨⟨h1, h2, h3, h4, h5⟩, h6⟩
    refine ⟨h1, h2, h3, h4, h5, fun i => ?_⟩
    rcases Nat.lt_or_ge i f.length with h | h
    · rw [gt_lt h]
      have := h6 _ (List.getElem_mem h)
      simpa [inF] using this
    · rw [gt_ge h]; omega
  · rintro h
    refine ⟨⟨h.n2, h.n8, h.tl, h.c1, h.c3⟩, fun x hx => ?_⟩
    obtain ⟨i, hi, rfl⟩ := List.getElem_of_mem hx
    have := h.rng i
    rw [gt_lt hi] at this
    simpa [inF] using this
theorem chkC_fine {f : List Int} {t : List Bool} {c : Int} (h : Fine f t c) : chkC f t c = 0 := by unfold chkC; rw [fine_iff.2 h]; rfl
theorem chkC_bad {f : List Int} {t : List Bool} {c : Int} (h : ¬ Fine f t c) : chkC f t c = 2 := by
  unfold chkC
  rw [if_neg (fun e => h (fine_iff.1 e))]
theorem chkC_loop {f : List Int} {t : List Bool} {c : Int} (h : 2 ≤ f.length ∧ f.length ≤ 8 ∧ t.length = f.length ∧ 1 ≤ c ∧ c ≤ 3) : chkC f t c = if f.all inF = true then 0 else 2 := by
  unfold chkC fineB
  rw [decide_eq_true h, Bool.true_and]
def CkRel (f : List Int) (w0 : World) (cv : Value) (wr : World) : Prop := ∃ k : Nat, k ≤ f.length ∧ cv = .int .i64 k ∧ (f.take k).all inF = true ∧ wr = w0
theorem all_take_succ (f : List Int) (k : Nat) (hk : k < f.length) (h : (f.take k).all inF = true) : (f.take (k + 1)).all inF = inF f[k] := by
  rw [List.take_succ_eq_append_getElem hk, List.all_append, h]; simp
theorem all_bad (f : List Int) (k : Nat) (hk : k < f.length) (h : inF f[k] = false) : f.all inF = false := by
  rw [List.all_eq_false]
  exact ⟨f[k], List.getElem_mem hk, by simp [h]⟩
def OkI (n : Int) (w : World) (e : Ending) (w' : World) : Prop := e = .returned (.int .i64 n) ∧ w' = w
set_option maxHeartbeats 4000000 in
theorem Check_any (v d : Value) (f : List Int) (t : List Bool) (c : Int) (sp dsp : List Value) (w : World) (hS : SlI w v f sp) (hT : SlO w d t dsp) (hl : f.length ≤ 12) (hl2 : t.length ≤ 12) :
    Calls Try.prog 14 #[v, d, .int .i64 c] w (OkI (chkC f t c) w) := by
  obtain ⟨a, cap, rfl, _, _⟩ := hS.form
  obtain ⟨a2, cap2, rfl, _, _⟩ := hT.form
  have hl9 : ((f.length : Nat) : Int) ≤ 12 := by omega
  have hl8 : ((t.length : Nat) : Int) ≤ 12 := by omega
  have HS := Lib.hid hS
  by_cases h1 : 2 ≤ f.length ∧ f.length ≤ 8 ∧ t.length = f.length ∧ 1 ≤ c ∧ c ≤ 3
  · have HE := Lib.hid (chkC_loop h1)
    obtain ⟨h2, h3, h4, h5, h6⟩ := h1
    have e1 : ¬ (f.length : Int) < 2 := by omega
    have e2 : ¬ (8 : Int) < (f.length : Int) := by omega
    have e3 : ((t.length : Int) != (f.length : Int)) = false := by simp [h4]
    have e4 : ¬ c < 1 := by omega
    have e5 : ¬ 3 < c := by omega
    clear hS hT hl hl2 h4
    generalize chkC f t c = q at *
    go_enter Try.func14, Try.ntmps14
    go_wp2_with fail
    go_loopw [32] (CkRel f w) (fun cv _ => f.length - (intOf cv).toNat)
    case atStart => exact ⟨0, by omega, rfl, by simp, rfl⟩
    case round =>
      obtain ⟨k, hk, rfl, hok, rfl⟩ := hrel
      by_cases hlt : k < f.length
      · obtain ⟨b0, off, rfl⟩ := HS.out.at (by omega)
        have c0 := cellI HS.out k hlt
        have hs := all_take_succ f k hlt hok
        have hb := all_bad f k hlt
        generalize f[k] = x at *
        by_cases h7 : inF x = true
        · have HK := Lib.hid (hs.trans h7)
          have h8 : 0 ≤ x ∧ x ≤ 4096 := by simpa [inF] using h7
          have e7 : ¬ x < 0 := by omega
          have e8 : ¬ 4096 < x := by omega
          clear hok hs hb h7 h8
          go_wp2_with fail
          go_roundw
          case rel => exact ⟨k + 1, by omega, by go_num, HK.out, rfl⟩
          case measure => simp [intOf]; omega
        · have h8 : ¬ (0 ≤ x ∧ x ≤ 4096) := by simpa [inF] using h7
          have HQ := Lib.hid (show q = 2 by rw [HE.out, hb (by simpa using h7)]; rfl)
          clear hok hs hb h7
          by_cases e7 : x < 0
          · go_wp2_with fail
            go_ret
            exact ⟨by rw [HQ.out]; rfl, rfl⟩
          · have e8 : 4096 < x := by omega
            go_wp2_with fail
            go_ret
            exact ⟨by rw [HQ.out]; rfl, rfl⟩
      · obtain rfl : k = f.length := by omega
        rw [List.take_length] at hok
        have HQ := Lib.hid (show q = 0 by rw [HE.out, hok]; rfl)
        clear hok
        go_wp2_with fail
        go_ret
        exact ⟨by rw [HQ.out]; rfl, rfl⟩
  · have hq : chkC f t c = 2 := chkC_bad fun h => h1 ⟨h.n2, h.n8, h.tl, h.c1, h.c3⟩
    rw [hq]
    clear hS hT hl hl2 hq HS
    by_cases e1 : f.length < 2
    · have e1' : (f.length : Int) < 2 := by omega
      go_enter Try.func14, Try.ntmps14
      go_wp2_with fail
      go_ret
      exact ⟨rfl, rfl⟩
    by_cases e2 : 8 < f.length
    · have e1' : ¬ (f.length : Int) < 2 := by omega
      have e2' : (8 : Int) < (f.length : Int) := by omega
      go_enter Try.func14, Try.ntmps14
      go_wp2_with fail
      go_ret
      exact ⟨rfl, rfl⟩
    have e1' : ¬ (f.length : Int) < 2 := by omega
    have e2' : ¬ (8 : Int) < (f.length : Int) := by omega
    by_cases e3 : t.length = f.length
    · have e3' : ((t.length : Int) != (f.length : Int)) = false := by simp [e3]
      have h3 : ¬ (1 ≤ c ∧ c ≤ 3) := fun h => h1 ⟨by omega, by omega, e3, h.1, h.2⟩
      clear h1 e3
      by_cases e4 : c < 1
      · go_enter Try.func14, Try.ntmps14
        go_wp2_with fail
        go_ret
        exact ⟨rfl, rfl⟩
      · have e5 : 3 < c := by omega
        go_enter Try.func14, Try.ntmps14
        go_wp2_with fail
        go_ret
        exact ⟨rfl, rfl⟩
    · have e3' : ((t.length : Int) != (f.length : Int)) = true := by simp; omega
      clear h1 e3
      go_enter Try.func14, Try.ntmps14
      go_wp2_with fail
      go_ret
      exact ⟨rfl, rfl⟩
set_option maxHeartbeats 4000000 in
theorem RefCheck_any (v d : Value) (f : List Int) (t : List Bool) (c : Int) (sp dsp : List Value) (w : World) (hS : SlI w v f sp) (hT : SlO w d t dsp) (hl : f.length ≤ 12) (hl2 : t.length ≤ 12) :
    Calls Try.prog 15 #[v, d, .int .i64 c] w (OkI (chkC f t c) w) := by
  obtain ⟨a, cap, rfl, _, _⟩ := hS.form
  obtain ⟨a2, cap2, rfl, _, _⟩ := hT.form
  have hl9 : ((f.length : Nat) : Int) ≤ 12 := by omega
  have hl8 : ((t.length : Nat) : Int) ≤ 12 := by omega
  have HS := Lib.hid hS
  by_cases h1 : 2 ≤ f.length ∧ f.length ≤ 8 ∧ t.length = f.length ∧ 1 ≤ c ∧ c ≤ 3
  · have HE := Lib.hid (chkC_loop h1)
    obtain ⟨h2, h3, h4, h5, h6⟩ := h1
    have e1 : ¬ (f.length : Int) < 2 := by omega
    have e2 : ¬ (8 : Int) < (f.length : Int) := by omega
    have e3 : ((t.length : Int) != (f.length : Int)) = false := by simp [h4]
    have e4 : ¬ c < 1 := by omega
    have e5 : ¬ 3 < c := by omega
    clear hS hT hl hl2 h4
    generalize chkC f t c = q at *
    go_enter Try.func15, Try.ntmps15
    go_wp2_with fail
    go_loopw [7] (CkRel f w) (fun cv _ => f.length - (intOf cv).toNat)
    case atStart => exact ⟨0, by omega, rfl, by simp, rfl⟩
    case round =>
      obtain ⟨k, hk, rfl, hok, rfl⟩ := hrel
      by_cases hlt : k < f.length
      · obtain ⟨b0, off, rfl⟩ := HS.out.at (by omega)
        have c0 := cellI HS.out k hlt
        have hs := all_take_succ f k hlt hok
        have hb := all_bad f k hlt
        generalize f[k] = x at *
        by_cases h7 : inF x = true
        · have HK := Lib.hid (hs.trans h7)
          have h8 : 0 ≤ x ∧ x ≤ 4096 := by simpa [inF] using h7
          have e7 : ¬ x < 0 := by omega
          have e8 : ¬ 4096 < x := by omega
          clear hok hs hb h7 h8
          go_wp2_with fail
          go_roundw
          case rel => exact ⟨k + 1, by omega, by go_num, HK.out, rfl⟩
          case measure => simp [intOf]; omega
        · have h8 : ¬ (0 ≤ x ∧ x ≤ 4096) := by simpa [inF] using h7
          have HQ := Lib.hid (show q = 2 by rw [HE.out, hb (by simpa using h7)]; rfl)
          clear hok hs hb h7
          by_cases e7 : x < 0
          · go_wp2_with fail
            go_ret
            exact ⟨by rw [HQ.out]; rfl, rfl⟩
          · have e8 : 4096 < x := by omega
            go_wp2_with fail
            go_ret
            exact ⟨by rw [HQ.out]; rfl, rfl⟩
      · obtain rfl : k = f.length := by omega
        rw [List.take_length] at hok
        have HQ := Lib.hid (show q = 0 by rw [HE.out, hok]; rfl)
        clear hok
        go_wp2_with fail
        go_ret
        exact ⟨by rw [HQ.out]; rfl, rfl⟩
  · have hq : chkC f t c = 2 := chkC_bad fun h => h1 ⟨h.n2, h.n8, h.tl, h.c1, h.c3⟩
    rw [hq]
    clear hS hT hl hl2 hq HS
    by_cases e1 : f.length < 2
    · have e1' : (f.length : Int) < 2 := by omega
      go_enter Try.func15, Try.ntmps15
      go_wp2_with fail
      go_ret
      exact ⟨rfl, rfl⟩
    by_cases e2 : 8 < f.length
    · have e1' : ¬ (f.length : Int) < 2 := by omega
      have e2' : (8 : Int) < (f.length : Int) := by omega
      go_enter Try.func15, Try.ntmps15
      go_wp2_with fail
      go_ret
      exact ⟨rfl, rfl⟩
    have e1' : ¬ (f.length : Int) < 2 := by omega
    have e2' : ¬ (8 : Int) < (f.length : Int) := by omega
    by_cases e3 : t.length = f.length
    · have e3' : ((t.length : Int) != (f.length : Int)) = false := by simp [e3]
      have h3 : ¬ (1 ≤ c ∧ c ≤ 3) := fun h => h1 ⟨by omega, by omega, e3, h.1, h.2⟩
      clear h1 e3
      by_cases e4 : c < 1
      · go_enter Try.func15, Try.ntmps15
        go_wp2_with fail
        go_ret
        exact ⟨rfl, rfl⟩
      · have e5 : 3 < c := by omega
        go_enter Try.func15, Try.ntmps15
        go_wp2_with fail
        go_ret
        exact ⟨rfl, rfl⟩
    · have e3' : ((t.length : Int) != (f.length : Int)) = true := by simp; omega
      clear h1 e3
      go_enter Try.func15, Try.ntmps15
      go_wp2_with fail
      go_ret
      exact ⟨rfl, rfl⟩
end Go.Proofs.Ytojchfpfemofkaa
