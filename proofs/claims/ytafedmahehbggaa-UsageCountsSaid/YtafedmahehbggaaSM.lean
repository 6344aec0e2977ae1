/-
  Sets of addresses, kept as the keys of a map. No conditions but those that each law names.
-/
import Derived.Test.YtafedmahehbggaaKA
import Derived.Test.YtafedmahehbggaaRows
import Derived.Maps.Range
import Derived.Maps.RangeWalk
import Derived.DeepKeys4
import Derived.MapViews
namespace Go.Proofs.Ytafedmahehbggaa
open Go.RowKit Go.Maps
set_option linter.unusedVariables false
set_option linter.unusedSimpArgs false
set_option maxRecDepth 100000

theorem ownsMap_frm {H : Type} {P : Program} {k : TypeId} {R : Value → Option (DataW H × List MemPlace)} {w w' : World} {b n : Nat} {D : DataW H} {L : List Nat} (h : w.ownsMap P k R b n D) (f : Frm L w w') (hb : b ∉ L) : w'.ownsMap P k R b n D := by
  obtain ⟨es, clock, h1, rest⟩ := h
  exact ⟨es, clock, f.heap h1 hb, rest⟩
theorem ranges_frm {H : Type} {P : Program} {k : TypeId} {R : Value → Option (DataW H × List MemPlace)} {w w' : World} {b r n cnt : Nat} {D : DataW H} {left : Lit → Bool} {L : List Nat} (h : w.ranges P k R b r n D left cnt) (f : Frm L w w') (hb : b ∉ L) (hr : r ∉ L) : w'.ranges P k R b r n D left cnt := by
  obtain ⟨es, clock, since, seen, c0, h1, F, hs, hD, h2, rest⟩ := h
  exact ⟨es, clock, since, seen, c0, f.heap h1 hb, F, hs, hD, f.heap h2 hr, rest⟩

/-- An address that Go can hold. -/
def WfA (x : Ad) : Prop := (-9223372036854775808 ≤ x.1 ∧ x.1 ≤ 9223372036854775807) ∧ (-9223372036854775808 ≤ x.2 ∧ x.2 ≤ 9223372036854775807)
theorem wf_iff (n : Int) : (Lit.int .i64 n).wf = true ↔ (-9223372036854775808 ≤ n ∧ n ≤ 9223372036854775807) := by
  simp [Lit.wf, IntKind.min, IntKind.max, IntKind.bits, IntKind.signed]
theorem laidOutA : laidOutB Try.prog = true := by kernel_rfl
theorem wide23 : (match Try.prog.underlying 25 with | some (.array _ _) | some (.struct _) => true | _ => false) = true := by kernel_rfl
theorem law23 : Keyed Try.prog 25 := Keyed.of_law (deep_law_laid laidOutA (m := 2) (by omega) (of_decide_eq_true (by kernel_rfl)) (by kernel_rfl) wide23)
def kA (x : Ad) : Lit := .string (keyBytes [.int .i64 x.1, .int .i64 x.2])
theorem cells23 : Try.prog.cellsOf 25 = 2 := by kernel_rfl
theorem cells3 : Try.prog.cellsOf 3 = 1 := by kernel_rfl
theorem keyType23 : Try.prog.keyType 25 = true := by kernel_rfl
theorem size_types : Try.prog.types.size = 117 := by kernel_rfl
theorem lits23 (c0 c1 : Value) : Try.prog.keyLits 118 25 [c0, c1] = ((Try.prog.keyLits 117 3 [c0]).bind fun a => (Try.prog.keyLits 117 3 [c1]).bind fun b => some (a ++ b)) := by
  obtain ⟨A, hA⟩ : ∃ A, Try.prog.keyLits 117 3 [c0] = A := ⟨_, rfl⟩
  obtain ⟨B, hB⟩ : ∃ B, Try.prog.keyLits 117 3 [c1] = B := ⟨_, rfl⟩
  rw [hA, hB]
  unfold Program.keyLits
  simp only [Try.underlying25]
  rw [if_pos ⟨by simp [cells23], by kernel_rfl⟩]
  simp [cells3, hA, hB]
  cases A <;> cases B <;> simp
theorem lits3 (c : Value) (ls : List Lit) : Try.prog.keyLits 117 3 [c] = some ls ↔ ∃ n, c = .int .i64 n ∧ (Lit.int .i64 n).wf = true ∧ ls = [.int .i64 n] := by
  unfold Program.keyLits
  rw [Try.underlying3]
  cases c with
  | int q n =>
    show (if q = .i64 ∧ (Lit.int .i64 n).wf = true then some [Lit.int .i64 n] else none) = some ls ↔ _
    constructor
    · intro h
      split at h
      · rename_i hc
        obtain ⟨rfl, hw⟩ := hc
        exact ⟨n, rfl, hw, (Option.some.inj h).symm⟩
      · cases h
    · rintro ⟨m, hm, hw, rfl⟩
      cases hm
      rw [if_pos ⟨rfl, hw⟩]
  | _ => exact ⟨fun h => (by cases h), fun ⟨n, hn, _⟩ => (by cases hn)⟩
theorem keyOf23 (v : Value) : keyOf Try.prog 25 v = if v.formed Try.prog 25 then (Try.prog.keyLits 118 25 v.cells.toList).map fun ls => .string (keyBytes ls) else none := by
  unfold keyOf
  simp [Try.underlying25, keyType23, size_types]
theorem key_A {x : Ad} (h : WfA x) : keyOf Try.prog 25 (av x) = some (kA x) := by
  rw [keyOf23]
  have hf : (av x).formed Try.prog 25 = true := by simp [av, Value.formed, Try.underlying25, cells23]
  rw [hf, if_pos rfl]
  have hc : (av x).cells.toList = [.int .i64 x.1, .int .i64 x.2] := rfl
  rw [hc, lits23, (lits3 _ _).2 ⟨_, rfl, (wf_iff _).2 h.1, rfl⟩, (lits3 _ _).2 ⟨_, rfl, (wf_iff _).2 h.2, rfl⟩]
  rfl
theorem key_inv {v : Value} {kl : Lit} (h : keyOf Try.prog 25 v = some kl) : ∃ x, v = av x ∧ WfA x ∧ kl = kA x := by
  have h0 := h
  rw [keyOf23] at h
  split at h
  · rename_i hf
    cases v <;> simp [Value.formed, Try.underlying25, cells23] at hf
    rename_i cs
    obtain ⟨c0, c1, rfl⟩ : ∃ c0 c1, cs = #[c0, c1] := by
      match cs, hf with
      | ⟨[c0, c1]⟩, _ => exact ⟨c0, c1, rfl⟩
    have hc : (Value.agg #[c0, c1]).cells.toList = [c0, c1] := rfl
    rw [hc, lits23] at h
    cases h1 : Try.prog.keyLits 117 3 [c0] with
    | none => rw [h1] at h; simp at h
    | some a =>
      cases h2 : Try.prog.keyLits 117 3 [c1] with
      | none => rw [h1, h2] at h; simp at h
      | some b =>
        obtain ⟨n, rfl, hn, _⟩ := (lits3 _ _).1 h1
        obtain ⟨m, rfl, hm, _⟩ := (lits3 _ _).1 h2
        have hw : WfA (n, m) := ⟨(wf_iff _).1 hn, (wf_iff _).1 hm⟩
        exact ⟨(n, m), rfl, hw, Option.some.inj (h0.symm.trans (key_A hw))⟩
  · cases h
theorem av_inj {x y : Ad} (h : av x = av y) : x = y := by
  simp [av] at h
  exact ad_ext h.1 h.2
theorem kA_inj {x y : Ad} (hx : WfA x) (hy : WfA y) (h : kA x = kA y) : x = y := av_inj (law23.inj (key_A hx) (h ▸ key_A hy))
theorem kA_key {x : Ad} (hx : WfA x) : WideAt.IsKeyLit (kA x) := law23.key (key_A hx)
theorem kA_same {x y : Ad} (hx : WfA x) (hy : WfA y) : (kA x).sameKey (kA y) = decide (x = y) := by
  by_cases h : x = y
  · subst h; rw [WideAt.sameKey_self (kA_key hx)]; simp
  · rw [Maps.sameKey_ne fun e => h (kA_inj hx hy e)]; simp [h]

/-- The keys of a map are those of a list. -/
def SetD (D : DataW Unit) (S : List Ad) : Prop := (∀ x ∈ S, WfA x) ∧ ∀ x, WfA x → (Maps.has D (kA x) = true ↔ x ∈ S)
theorem SetD.empty : SetD (.map []) [] := ⟨by simp, fun x _ => by simp [Maps.has]⟩
theorem SetD.put {D : DataW Unit} {S : List Ad} (h : SetD D S) (hD : Maps.IsMap D) {x : Ad} (hx : WfA x) (d : DataW Unit) : SetD (D.put (kA x) d) (S ++ [x]) := by
  refine ⟨fun y hy => ?_, fun y hy => ?_⟩
  · rcases List.mem_append.1 hy with h1 | h1
    · exact h.1 y h1
    · simp at h1; subst h1; exact hx
  · by_cases e : y = x
    · subst e; simp [Maps.has_put_same hD (kA_key hx)]
    · rw [Maps.has_put_other (fun e1 => e (kA_inj hy hx e1)), h.2 y hy]; simp [e]
theorem SetD.del {D : DataW Unit} {S : List Ad} (h : SetD D S) {x : Ad} (hx : WfA x) : SetD (D.del (kA x)) (S.filter fun y => y != x) := by
  refine ⟨fun y hy => h.1 y (List.mem_filter.1 hy).1, fun y hy => ?_⟩
  by_cases e : y = x
  · subst e; simp [Maps.has_del_same]
  · rw [Maps.has_del_other (fun e1 => e (kA_inj hy hx e1)), h.2 y hy]; simp [e]
theorem SetD.has {D : DataW Unit} {S : List Ad} (h : SetD D S) {x : Ad} (hx : WfA x) : Maps.has D (kA x) = decide (x ∈ S) := by
  have := h.2 x hx
  by_cases e : x ∈ S
  · rw [this.2 e]; simp [e]
  · cases hc : Maps.has D (kA x)
    · simp [e]
    · exact absurd (this.1 hc) e

/-- Those keys that a range has met. -/
def Met (D : DataW Unit) (left : Lit → Bool) (ss : List Ad) : Prop := ss.Nodup ∧ (∀ x ∈ ss, WfA x) ∧ ∀ x, WfA x → (x ∈ ss ↔ (Maps.has D (kA x) = true ∧ left (kA x) = false))
theorem Met.start (D : DataW Unit) : Met D (Maps.has D) [] := ⟨List.nodup_nil, by simp, fun x _ => by cases Maps.has D (kA x) <;> simp⟩
theorem Met.step {D : DataW Unit} {left : Lit → Bool} {ss : List Ad} (h : Met D left ss) {x : Ad} (hx : WfA x) (hl : left (kA x) = true) (hh : Maps.has D (kA x) = true) : Met D (fun z => left z && !z.sameKey (kA x)) (ss ++ [x]) := by
  have hnew : x ∉ ss := fun hm => by have := ((h.2.2 x hx).1 hm).2; rw [hl] at this; cases this
  refine ⟨List.nodup_append.2 ⟨h.1, by simp, fun a ha b hb => by simp at hb; subst hb; exact fun e => hnew (e ▸ ha)⟩, fun y hy => ?_, fun y hy => ?_⟩
  · rcases List.mem_append.1 hy with h1 | h1
    · exact h.2.1 y h1
    · simp at h1; subst h1; exact hx
  · show y ∈ ss ++ [x] ↔ (Maps.has D (kA y) = true ∧ (left (kA y) && !(kA y).sameKey (kA x)) = false)
    rw [List.mem_append, h.2.2 y hy, kA_same hy hx]
    by_cases e : y = x
    · subst e; simp [hh]
    · simp [e]
theorem Met.all {D : DataW Unit} {left : Lit → Bool} {ss S : List Ad} (h : Met D left ss) (hS : SetD D S) (hl : ∀ kl, left kl = false) : ∀ x, x ∈ ss ↔ x ∈ S := fun x =>
  ⟨fun hm => (hS.2 x (h.2.1 x hm)).1 ((h.2.2 x (h.2.1 x hm)).1 hm).1, fun hm => (h.2.2 x (hS.1 x hm)).2 ⟨(hS.2 x (hS.1 x hm)).2 hm, hl _⟩⟩
theorem Met.srt {D : DataW Unit} {left : Lit → Bool} {ss S : List Ad} (h : Met D left ss) (hS : SetD D S) (hl : ∀ kl, left kl = false) : (ss.mergeSort fun x y => !ltA y x) = srt S := mergeSort_srt h.1 (h.all hS hl)
end Go.Proofs.Ytafedmahehbggaa
