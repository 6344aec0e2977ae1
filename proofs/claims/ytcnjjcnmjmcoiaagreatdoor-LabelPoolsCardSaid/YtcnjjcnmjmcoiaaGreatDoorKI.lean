/-
  IDs as elements and as keys of a map. No conditions but those that each theorem names.
-/
import Derived.Test.YtcnjjcnmjmcoiaaGreatDoorKR
import Derived.Test.YtcnjjcnmjmcoiaaGreatDoorLQ
import Derived.DeepKeys4
namespace Go.Proofs.YtcnjjcnmjmcoiaaGreatDoor
open Go.RowKit Go.Maps Go.MapKept
set_option linter.unusedVariables false
set_option linter.unusedSimpArgs false
set_option maxRecDepth 100000

abbrev IdT := { s : List UInt8 // s.length = 32 }
def eI (x : IdT) : List Value := bvs x.1
open Kr (Enco RowTys)
theorem encID : Enco eI 32 where
  len x := by rw [eI, bvs_length, x.2]
  one x u hu := bvs_one _ u hu
  pos := by omega
  inj x y h := Subtype.ext (bvs_inj h)
theorem tysID : RowTys Tryz.prog 55 26 32 32 := ⟨Tryz.underlying55, .agg (bvs (List.replicate 32 0)).toArray, by kernel_rfl, by kernel_rfl⟩
def vI (x : IdT) : Value := idv x.1
theorem vI_inj {x y : IdT} (h : vI x = vI y) : x = y := by
  simp only [vI, idv, Value.agg.injEq] at h
  exact Subtype.ext (bvs_inj (by simpa using congrArg Array.toList h))
theorem cellsOf26 : Tryz.prog.cellsOf 26 = 32 := by kernel_rfl
theorem keyType26 : Tryz.prog.keyType 26 = true := by kernel_rfl
theorem size_types : Tryz.prog.types.size = 170 := by kernel_rfl
theorem lits5 (n : Nat) (hn : 0 < n) (c : Value) (ls : List Lit) : Tryz.prog.keyLits n 5 [c] = some ls ↔ ∃ z, c = .int .u8 z ∧ (Lit.int .u8 z).wf = true ∧ ls = [.int .u8 z] := by
  obtain ⟨n, rfl⟩ : ∃ m, n = m + 1 := ⟨n - 1, by omega⟩
  unfold Program.keyLits
  rw [Tryz.underlying5]
  cases c with
  | int q z =>
    show (if q = .u8 ∧ (Lit.int .u8 z).wf = true then some [Lit.int .u8 z] else none) = some ls ↔ _
    constructor
    · intro h
      split at h
      · rename_i hc
        obtain ⟨rfl, hw⟩ := hc
        exact ⟨z, rfl, hw, (Option.some.inj h).symm⟩
      · cases h
    · rintro ⟨m, hm, hw, rfl⟩
      cases hm
      rw [if_pos ⟨rfl, hw⟩]
  | _ => exact ⟨fun h => (by cases h), fun ⟨z, hz, _⟩ => (by cases hz)⟩
theorem mapM_some {α β : Type} {f : α → Option β} : ∀ {l : List α}, (∀ x ∈ l, ∃ y, f x = some y) → ∃ r, l.mapM f = some r
  | [], _ => ⟨[], rfl⟩
  | a :: l, h => by
    obtain ⟨y, hy⟩ := h a (by simp)
    obtain ⟨r, hr⟩ := mapM_some (l := l) (fun x hx => h x (by simp [hx]))
    exact ⟨y :: r, by rw [List.mapM_cons, hy, hr]; rfl⟩
theorem mapM_all {α β : Type} {f : α → Option β} : ∀ {l : List α} {r : List β}, l.mapM f = some r → ∀ x ∈ l, ∃ y, f x = some y
  | [], _, _, x, hx => by simp at hx
  | a :: l, r, h, x, hx => by
    rw [List.mapM_cons] at h
    cases hf : f a with
    | none => rw [hf] at h; cases h
    | some y =>
      rw [hf] at h
      cases hm : l.mapM f with
      | none => rw [hm] at h; cases h
      | some r' =>
        rcases List.mem_cons.1 hx with rfl | hx
        · exact ⟨y, hf⟩
        · exact mapM_all hm x hx
theorem cellsOf5 : Tryz.prog.cellsOf 5 = 1 := by kernel_rfl
theorem keyOf26 (v : Value) : keyOf Tryz.prog 26 v = if v.formed Tryz.prog 26 then (Tryz.prog.keyLits 171 26 v.cells.toList).map fun ls => .string (keyBytes ls) else none := by
  unfold keyOf
  simp [Tryz.underlying26, keyType26, size_types]
theorem lits26 (cs : List Value) : Tryz.prog.keyLits 171 26 cs = if cs.length = 32 then ((List.range 32).mapM fun i => Tryz.prog.keyLits 170 5 ((cs.drop i).take 1)).map List.flatten else none := by
  conv => lhs; unfold Program.keyLits
  rw [Tryz.underlying26]
  simp only [cellsOf26, cellsOf5, Nat.mul_one]
theorem take1 {cs : List Value} {i : Nat} (h : i < cs.length) : (cs.drop i).take 1 = [cs[i]] := by
  rw [List.drop_eq_getElem_cons h]; rfl
/-- An ID as a key. -/
def kI (x : IdT) : Lit := .string (keyBytes (x.1.map fun b => Lit.int .u8 b.toNat))
theorem mapM_eq {α β : Type} {f : α → Option β} {g : α → β} : ∀ {l : List α}, (∀ x ∈ l, f x = some (g x)) → l.mapM f = some (l.map g)
  | [], _ => rfl
  | a :: l, h => by
    rw [List.mapM_cons, h a (by simp), mapM_eq (l := l) (fun x hx => h x (by simp [hx]))]
    rfl
theorem key_I (x : IdT) : keyOf Tryz.prog 26 (vI x) = some (kI x) := by
  rw [keyOf26]
  have hl : (bvs x.1).length = 32 := by rw [bvs_length, x.2]
  have hf : (vI x).formed Tryz.prog 26 = true := by simp [vI, idv, Value.formed, Tryz.underlying26, cellsOf26, hl]
  rw [hf, if_pos rfl]
  have hc : (vI x).cells.toList = bvs x.1 := rfl
  rw [hc, lits26, if_pos hl]
  rw [mapM_eq (g := fun i => [Lit.int .u8 ((x.1.getD i 0).toNat : Nat)]) (fun i hi => by
    have hi32 : i < x.1.length := by rw [x.2]; exact List.mem_range.1 hi
    have hi' : i < (bvs x.1).length := by rw [bvs_length]; exact hi32
    rw [take1 hi']
    refine (lits5 170 (by omega) _ _).2 ⟨((x.1.getD i 0).toNat : Nat), by simp [bvs, bv, List.getD_eq_getElem?_getD, List.getElem?_eq_getElem hi32], ?_, rfl⟩
    generalize x.1.getD i 0 = c
    have := c.toNat_lt
    simp [Lit.wf, IntKind.min, IntKind.max, IntKind.bits, IntKind.signed]
    omega)]
  simp only [Option.map_some, Option.some.injEq, kI]
  congr 2
  apply List.ext_getElem?
  intro i
  have hfl : ∀ (l : List Nat), (l.map fun i => [Lit.int .u8 ((x.1.getD i 0).toNat : Nat)]).flatten = l.map fun i => Lit.int .u8 ((x.1.getD i 0).toNat : Nat) := fun l => by
    induction l with
    | nil => rfl
    | cons a l ih => simp only [List.map_cons, List.flatten_cons, ih]; rfl
  rw [hfl, List.getElem?_map, List.getElem?_map]
  by_cases hi : i < 32
  · rw [List.getElem?_range hi, List.getElem?_eq_getElem (by rw [x.2]; exact hi)]
    simp [List.getD_eq_getElem?_getD, List.getElem?_eq_getElem (show i < x.1.length by rw [x.2]; exact hi)]
  · rw [List.getElem?_eq_none (by simp; omega), List.getElem?_eq_none (by rw [x.2]; omega)]
    rfl
theorem key_inv {v : Value} {kl : Lit} (h : keyOf Tryz.prog 26 v = some kl) : ∃ x, v = vI x ∧ kl = kI x := by
  have h0 := h
  rw [keyOf26] at h
  split at h
  · rename_i hf
    cases v <;> simp [Value.formed, Tryz.underlying26, cellsOf26] at hf
    rename_i cs
    have hcl : (Value.agg cs).cells.toList = cs.toList := rfl
    rw [hcl, lits26, if_pos (by simpa using hf)] at h
    cases hm : (List.range 32).mapM fun i => Tryz.prog.keyLits 170 5 ((cs.toList.drop i).take 1) with
    | none => rw [hm] at h; simp at h
    | some r =>
      have hall : ∀ u ∈ cs.toList, ∃ b, u = bv b := fun u hu => by
        obtain ⟨i, hi, rfl⟩ := List.getElem_of_mem hu
        have hi32 : i < 32 := by simpa [hf] using hi
        obtain ⟨y, hy⟩ := mapM_all hm i (List.mem_range.2 hi32)
        rw [take1 hi] at hy
        obtain ⟨z, hz, hw, _⟩ := (lits5 170 (by omega) _ _).1 hy
        have hb := Go.bounds_u8 hw
        refine ⟨UInt8.ofNat z.toNat, ?_⟩
        rw [hz]
        simp [bv]
        omega
      obtain ⟨s, hs⟩ := bvs_of hall
      have hl : s.length = 32 := by
        have := congrArg List.length hs
        rw [bvs_length] at this
        rw [← this]; simpa using hf
      have e : Value.agg cs = vI ⟨s, hl⟩ := by
        unfold vI idv
        rw [← hs]
      exact ⟨⟨s, hl⟩, e, Option.some.inj (h0.symm.trans (e ▸ key_I _))⟩
  · cases h
theorem kI_inj {x y : IdT} (h : kI x = kI y) : x = y := vI_inj (law26.inj (key_I x) (h ▸ key_I y))
theorem kI_key (x : IdT) : WideAt.IsKeyLit (kI x) := law26.key (key_I x)
theorem kI_same (x y : IdT) : (kI x).sameKey (kI y) = decide (x = y) := by
  by_cases h : x = y
  · subst h; rw [WideAt.sameKey_self (kI_key x)]; simp
  · rw [Maps.sameKey_ne fun e => h (kI_inj e)]; simp [h]
/-- How often each ID was met: what a map of counts holds. -/
def CntD (D : DataW Unit) (S : List IdT) : Prop := ∀ x, (Maps.has D (kI x) = true ↔ x ∈ S) ∧ D.atKey (kI x) (.lit (.int .i64 0)) = .lit (.int .i64 (S.count x : Nat))
theorem CntD.empty : CntD (.map []) [] := fun x => ⟨by simp [Maps.has], by simp [DataW.atKey]⟩
/-- Those keys that a range has met. -/
def Met (D : DataW Unit) (left : Lit → Bool) (ss : List IdT) : Prop := ss.Nodup ∧ ∀ x, (x ∈ ss ↔ (Maps.has D (kI x) = true ∧ left (kI x) = false))
theorem Met.start (D : DataW Unit) : Met D (Maps.has D) [] := ⟨List.nodup_nil, fun x => by cases Maps.has D (kI x) <;> simp⟩
theorem Met.step {D : DataW Unit} {left : Lit → Bool} {ss : List IdT} (h : Met D left ss) {x : IdT} (hl : left (kI x) = true) (hh : Maps.has D (kI x) = true) : Met D (fun z => left z && !z.sameKey (kI x)) (ss ++ [x]) := by
  have hnew : x ∉ ss := fun hm => by have := ((h.2 x).1 hm).2; rw [hl] at this; cases this
  refine ⟨List.nodup_append.2 ⟨h.1, by simp, fun a ha b hb => by simp at hb; subst hb; exact fun e => hnew (e ▸ ha)⟩, fun y => ?_⟩
  show y ∈ ss ++ [x] ↔ (Maps.has D (kI y) = true ∧ (left (kI y) && !(kI y).sameKey (kI x)) = false)
  rw [List.mem_append, h.2 y, kI_same]
  by_cases e : y = x
  · subst e; simp [hh]
  · simp [e]
theorem Met.all {D : DataW Unit} {left : Lit → Bool} {ss S : List IdT} (h : Met D left ss) (hS : CntD D S) (hl : ∀ kl, left kl = false) : ∀ x, x ∈ ss ↔ x ∈ S := fun x =>
  ⟨fun hm => (hS x).1.1 ((h.2 x).1 hm).1, fun hm => (h.2 x).2 ⟨(hS x).1.2 hm, hl _⟩⟩
theorem CntD.put {D : DataW Unit} {S : List IdT} (h : CntD D S) (hD : Maps.IsMap D) (x : IdT) : CntD (D.put (kI x) (.lit (.int .i64 ((S.count x : Nat) + 1)))) (S ++ [x]) := fun y => by
  by_cases e : y = x
  · subst e
    refine ⟨by simp [Maps.has_put_same hD (kI_key y)], ?_⟩
    rw [Maps.atKey_put_same hD (kI_key y)]
    simp
  · have hk : kI y ≠ kI x := fun e1 => e (kI_inj e1)
    refine ⟨by rw [Maps.has_put_other hk, (h y).1]; simp [e], ?_⟩
    rw [Maps.atKey_put_other hk, (h y).2]
    have hx : List.count y [x] = 0 := List.count_eq_zero.2 (by simp [e])
    rw [List.count_append, hx, Nat.add_zero]
end Go.Proofs.YtcnjjcnmjmcoiaaGreatDoor
