/-
  States: what a set sector tells, and the others. Plain. No conditions but those that each theorem names. States of two devices of eight sectors that writes and flushes alone befell. Plain. No conditions but those that each theorem names. States behind a flush. Plain. No conditions but those that each theorem names. Writes and flushes, done and refused. Plain. No conditions but those that each theorem names. Behind a crash that keeps all. Plain. No conditions but those that each theorem names. Writes and flushes behind a fuse, and without one. Plain. No conditions but those that each theorem names. A list of lays as it is handed in. No conditions but those that each theorem names. A list of acts, a list of bools as they are handed in. No conditions but those that each theorem names. ArrayFaults: what each call answers, in numbers. No conditions but those that each theorem names. Boxes of two rows of eight bytes; Pick. No conditions but those that each theorem names. Behind any crash, sector by sector. Plain. No conditions but those that each theorem names. Behind a crash that keeps some. Plain. No conditions but those that each theorem names. lays. No conditions but those that each theorem names. ArrayFirm: the walk. No conditions but those that each theorem names. What acts of the device 0 leave of the device 1. Plain. No conditions but those that each theorem names. ArrayApart: the walk. No conditions but those that each theorem names.
-/
import Derived.Test.YtdebnikolhhmgaaDoorMAa1
import Derived.Test.YtdebnikolhhmgaaDoorMAa2
import Derived.Test.YtdebnikolhhmgaaDoorMAa3
import Derived.Deep.MidRow
import Derived.WalkKit
import Derived.WalkSpells
import Derived.WalkLawsBesides
import Derived.Deep.AppendSrc
import Derived.Laws.CopyOwn
import Derived.Laws.BytesArg
import Derived.Carry
import Derived.Laws.BytesString
import Derived.Lib.Hide
import Derived.Test.YtdebnikolhhmgaaDoorChecked
import Derived.Stop.Asserts
import Derived.LaidEql
import Derived.RowKitTokens
import Derived.WalkHide
import Derived.StillTailTactics
import Derived.OpenShut
import Derived.OrdersHeld
import Derived.BigQuiet
import Derived.Deep.QuietTactic
import Derived.Deep.RegionHeld3
import Derived.Deep.RegionLaw
import Derived.Deep.RegionWith
import Derived.LaidEqlPtr
import Derived.Deep.CutBlock
import Derived.Deep.DeepCutAuto
import Derived.Deep.Slices
import Derived.Shelf.Abstract
import Derived.Laws.Tables
import Derived.Deep.RegionHeld
import Derived.OwnWalk
import Derived.Test.YtdebnikolhhmgaaDoorTie
import Derived.Test.YtdebnikolhhmgaaDoorCards
import Derived.ProofKit
import Derived.ShutString
import Derived.ChangeOld
import Derived.LaidMore
import Derived.Stop.Joined
import Derived.SevenTiedAt
import Derived.Stop.LaidTwo
import Derived.ChangeSame
namespace Go.Proofs.YtdebnikolhhmgaaDoor
open Go.RowKit
set_option linter.unusedVariables false
set_option linter.unusedSimpArgs false
set_option maxRecDepth 100000

open Kr (OwnE SlE Enco RowTys)
theorem secAt_setSec {s : St} {d a : Int} (hi : d.toNat < s.devs.length) (hj : a.toNat < s.devs[d.toNat].secs.length) (u : Sc → Sc) (d' a' : Int) :
    secAt (setSec s d a u) d' a' = if d'.toNat = d.toNat ∧ a'.toNat = a.toNat then u (secAt s d a) else secAt s d' a' := by
  rw [setSec_nat hi hj, secAt_at hi hj]
  unfold secAt
  simp only
  by_cases e : d'.toNat = d.toNat
  · rw [e, List.getElem?_set_self hi, List.getElem?_eq_getElem hi]
    simp only
    by_cases e2 : a'.toNat = a.toNat
    · rw [if_pos ⟨trivial, e2⟩, e2]
      simp [hj]
    · rw [if_neg (fun h => e2 h.2), List.getD_eq_getElem?_getD, List.getD_eq_getElem?_getD, List.getElem?_set_ne (fun h => e2 h.symm)]
  · rw [if_neg (fun h => e h.1), List.getElem?_set_ne (fun h => e h.symm)]
theorem secAt_flags {s : St} {d : Int} (u : Dv → Dv) (hu : ∀ q, (u q).secs = q.secs) (d' a' : Int) : secAt (setD s d u) d' a' = secAt s d' a' := by
  unfold setD
  cases e : s.devs[d.toNat]? with
  | none => rfl
  | some q =>
    obtain ⟨hi, rfl⟩ := List.getElem?_eq_some_iff.1 e
    unfold secAt
    simp only
    by_cases e2 : d'.toNat = d.toNat
    · rw [e2, List.getElem?_set_self hi, List.getElem?_eq_getElem hi]
      simp only [hu]
    · rw [List.getElem?_set_ne (fun h => e2 h.symm)]
/-- What a write that is laid leaves. -/
theorem secAt_lay {s : St} {d a : Int} (b : FB) (hi : d.toNat < s.devs.length) (hj : a.toNat < s.devs[d.toNat].secs.length) (d' a' : Int) :
    secAt (layS s d a b) d' a' = if d'.toNat = d.toNat ∧ a'.toNat = a.toNat then ⟨(secAt s d a).firm, some b⟩ else secAt s d' a' := by
  unfold layS
  exact secAt_setSec (s := { s with row := s.row ++ [⟨d, a, b⟩] }) hi hj _ d' a'
theorem secAt_settle {s : St} (x : Wt) (n : Nat) (hi : x.dev.toNat < s.devs.length) (hj : x.at'.toNat < s.devs[x.dev.toNat].secs.length) (d' a' : Int) :
    secAt (settleS s x n) d' a' = if d'.toNat = x.dev.toNat ∧ a'.toNat = x.at'.toNat then ⟨mixB (secAt s x.dev x.at').firm x.b n, none⟩ else secAt s d' a' := by
  unfold settleS
  exact secAt_setSec hi hj _ d' a'
theorem mixB_all (f b : FB) : mixB f b 256 = b := by
  refine Subtype.ext ?_
  show b.1.take 256 ++ f.1.drop 256 = b.1
  rw [List.take_of_length_le (by rw [b.2]; omega), List.drop_eq_nil_of_le (by rw [f.2]; omega), List.append_nil]
theorem mixB_nil (f b : FB) : mixB f b 0 = f := by
  refine Subtype.ext ?_
  show b.1.take 0 ++ f.1.drop 0 = f.1
  simp
/-- The last write to a sector. -/
def lastAt : List Wt → Int → Int → Option FB
  | [], _, _ => none
  | x :: l, d, a => match lastAt l d a with
    | some b => some b
    | none => if d.toNat = x.dev.toNat ∧ a.toNat = x.at'.toNat then some x.b else none
theorem lastAt_cons (x : Wt) (l : List Wt) (d a : Int) : lastAt (x :: l) d a = match lastAt l d a with
  | some b => some b
  | none => if d.toNat = x.dev.toNat ∧ a.toNat = x.at'.toNat then some x.b else none := rfl
def orLast (c : Sc) : Option FB → Sc
  | none => c
  | some b => ⟨b, none⟩
/-- What a flush leaves. -/
theorem secAt_settles : ∀ (l : List Wt) (s : St), (∀ x ∈ l, inR (szs s) x) → ∀ d a, secAt (settles l s) d a = orLast (secAt s d a) (lastAt l d a)
  | [], s, _, d, a => rfl
  | x :: l, s, h, d, a => by
    obtain ⟨hi, _, ha0, ha⟩ := (h x (by simp)).use
    have ih := secAt_settles l (settleS s x 256) (fun y hy => by rw [settle_szs]; exact h y (by simp [hy])) d a
    have e : settles (x :: l) s = settles l (settleS s x 256) := rfl
    rw [e, ih, secAt_settle x 256 hi (by omega) d a, mixB_all, lastAt_cons]
    cases lastAt l d a with
    | some b => rfl
    | none =>
      simp only
      split <;> rfl
theorem lastAt_append : ∀ (l : List Wt) (x : Wt) (d a : Int), lastAt (l ++ [x]) d a = if d.toNat = x.dev.toNat ∧ a.toNat = x.at'.toNat then some x.b else lastAt l d a
  | [], x, d, a => rfl
  | y :: l, x, d, a => by
    rw [List.cons_append, lastAt_cons, lastAt_cons, lastAt_append l x d a]
    by_cases e : d.toNat = x.dev.toNat ∧ a.toNat = x.at'.toNat
    · rw [if_pos e]
      simp only [if_pos e]
    · rw [if_neg e]
      simp only [if_neg e]
end Go.Proofs.YtdebnikolhhmgaaDoor

namespace Go.Proofs.YtdebnikolhhmgaaDoor
open Go.RowKit
set_option linter.unusedVariables false
set_option linter.unusedSimpArgs false
set_option maxRecDepth 100000

open Kr (OwnE SlE Enco RowTys)
def ofF (b : UInt8) : FB := ⟨ofL b, by simp [ofL]⟩
structure Jn (s : St) (firm last : Nat → Nat → UInt8) : Prop where
  n : s.n = 8
  sz : szs s = [8, 8]
  fl : ∀ q ∈ s.devs, q.f = 0
  rw : ∀ x ∈ s.row, inR (szs s) x
  sec : ∀ d a : Nat, d < 2 → a < 8 → (secAt s d a).firm = ofF (firm d a) ∧ (secAt s d a).last = lastAt s.row d a ∧ tell (secAt s d a) = ofF (last d a)
def upd (f : Nat → Nat → UInt8) (d a : Nat) (b : UInt8) : Nat → Nat → UInt8 := fun d' a' => if d' = d ∧ a' = a then b else f d' a'
theorem Jn.len {s : St} {firm last : Nat → Nat → UInt8} (h : Jn s firm last) : s.devs.length = 2 := by
  have := congrArg List.length h.sz
  simpa [szs] using this
theorem Jn.secs {s : St} {firm last : Nat → Nat → UInt8} (h : Jn s firm last) {d : Nat} (hd : d < s.devs.length) : s.devs[d].secs.length = 8 := by
  have h2 := h.len
  have := congrArg (·[d]?) h.sz
  simp only [szs, List.getElem?_map, List.getElem?_eq_getElem hd, Option.map_some] at this
  have hd2 : d = 0 ∨ d = 1 := by omega
  rcases hd2 with rfl | rfl
  · simpa using this
  · simpa using this
theorem Jn.new : Jn (newS 8 2) (fun _ _ => 0) (fun _ _ => 0) := by
  refine ⟨rfl, by kernel_rfl, fun q hq => ?_, fun x hx => (by cases hx), fun d a hd ha => ?_⟩
  · obtain ⟨_, rfl⟩ := List.mem_replicate.1 hq
    rfl
  · have h1 : d = 0 ∨ d = 1 := by omega
    have h2 : a = 0 ∨ a = 1 ∨ a = 2 ∨ a = 3 ∨ a = 4 ∨ a = 5 ∨ a = 6 ∨ a = 7 := by omega
    rcases h1 with rfl | rfl <;> rcases h2 with rfl | rfl | rfl | rfl | rfl | rfl | rfl | rfl <;> exact ⟨by kernel_rfl, by kernel_rfl, by kernel_rfl⟩
/-- The needs, when nothing befell a device. -/
theorem Jn.nD0 {s : St} {firm last : Nat → Nat → UInt8} (h : Jn s firm last) {d : Nat} (hd : d < 2) : nD s d = none := by
  unfold nD okD
  rw [h.len, if_pos (by simp; omega)]
theorem Jn.nS0 {s : St} {firm last : Nat → Nat → UInt8} (h : Jn s firm last) {d a : Nat} (hd : d < 2) (ha : a < 8) : nS s d a = none := by
  unfold nS okD okA
  rw [h.len, h.n, if_pos (by simp; omega), if_pos (by simp; omega)]
theorem Jn.bit0 {s : St} {firm last : Nat → Nat → UInt8} (h : Jn s firm last) (d : Int) (x : Nat) : hasF s d x = false := by
  unfold hasF
  cases e : s.devs[d.toNat]? with
  | none => rfl
  | some q =>
    have := h.fl q (List.mem_of_getElem? e)
    simp [this]
theorem Jn.nT0 {s : St} {firm last : Nat → Nat → UInt8} (h : Jn s firm last) (d : Int) : nT s d = none := by
  unfold nT gone
  rw [h.bit0]
  rfl
/-- A state that differs in the fuse, in what is out and in the steps alone. -/
theorem Jn.same {s s' : St} {firm last : Nat → Nat → UInt8} (h : Jn s firm last) (e1 : s'.n = s.n) (e2 : s'.devs = s.devs) (e3 : s'.row = s.row) : Jn s' firm last := by
  have hs : szs s' = szs s := by unfold szs; rw [e2]
  have ha : ∀ d a, secAt s' d a = secAt s d a := fun d a => by unfold secAt; rw [e2]
  exact ⟨by rw [e1]; exact h.n, by rw [hs]; exact h.sz, by rw [e2]; exact h.fl, fun x hx => by rw [hs]; exact h.rw x (by rw [← e3]; exact hx), fun d a hd ha' => by rw [ha, e3]; exact h.sec d a hd ha'⟩
theorem Jn.flags {s : St} {firm last : Nat → Nat → UInt8} (h : Jn s firm last) (d : Int) (u : Dv → Dv) (h1 : ∀ q, (u q).secs = q.secs) (h2 : ∀ q ∈ s.devs, (u q).f = 0) : Jn (setD s d u) firm last := by
  have hs : szs (setD s d u) = szs s := setD_szs fun q => by rw [h1]
  obtain ⟨r1, r2, _⟩ := setD_row s d u
  refine ⟨by rw [r2]; exact h.n, by rw [hs]; exact h.sz, fun q hq => ?_, fun x hx => by rw [hs]; exact h.rw x (by rw [← r1]; exact hx), fun d' a' hd ha => by rw [secAt_flags u h1, r1]; exact h.sec d' a' hd ha⟩
  unfold setD at hq
  cases e : s.devs[d.toNat]? with
  | none => rw [e] at hq; exact h.fl q hq
  | some p =>
    rw [e] at hq
    rcases List.mem_or_eq_of_mem_set hq with hq | rfl
    · exact h.fl q hq
    · exact h2 p (List.mem_of_getElem? e)
theorem Jn.used {s : St} {firm last : Nat → Nat → UInt8} (h : Jn s firm last) (d : Int) : Jn (usedS s d) firm last :=
  h.flags d _ (fun q => rfl) fun q hq => by show (q.f &&& 253) &&& 251 = 0; rw [h.fl q hq]; rfl
theorem Jn.lay {s : St} {firm last : Nat → Nat → UInt8} (h : Jn s firm last) {d a : Nat} (hd : d < 2) (ha : a < 8) (b : UInt8) : Jn (layS s d a (ofF b)) firm (upd last d a b) := by
  have hi : (d : Int).toNat < s.devs.length := by rw [h.len]; simpa using hd
  have hj : (a : Int).toNat < s.devs[(d : Int).toNat].secs.length := by rw [h.secs hi]; simpa using ha
  have hz : szs (layS s d a (ofF b)) = szs s := by
    unfold layS setSec
    refine (setD_szs fun q => ?_).trans rfl
    simp only
    split <;> simp
  have hrow : (layS s d a (ofF b)).row = s.row ++ [⟨d, a, ofF b⟩] := (setD_row _ _ _).1
  have hn : (layS s d a (ofF b)).n = s.n := (setD_row _ _ _).2.1
  refine ⟨by rw [hn]; exact h.n, by rw [hz]; exact h.sz, fun q hq => ?_, fun x hx => ?_, fun d' a' hd' ha' => ?_⟩
  · unfold layS setSec setD at hq
    simp only at hq
    rw [List.getElem?_eq_getElem hi] at hq
    rcases List.mem_or_eq_of_mem_set hq with hq | rfl
    · exact h.fl q hq
    · have := h.fl _ (List.getElem_mem hi); exact this
  · rw [hz]
    rw [hrow] at hx
    rcases List.mem_append.1 hx with hx | hx
    · exact h.rw x hx
    · rw [List.mem_singleton.1 hx, h.sz]
      refine ⟨by simp, by simp, 8, ?_, by simp; omega⟩
      have h1 : d = 0 ∨ d = 1 := by omega
      rcases h1 with rfl | rfl <;> rfl
  · rw [secAt_lay _ hi hj, hrow, lastAt_append]
    obtain ⟨s1, s2, s3⟩ := h.sec d' a' hd' ha'
    obtain ⟨z1, _, _⟩ := h.sec d a hd ha
    simp only [Int.toNat_natCast]
    by_cases e : d' = d ∧ a' = a
    · obtain ⟨rfl, rfl⟩ := e
      simp only [and_self, if_true, upd]
      exact ⟨z1, trivial, rfl⟩
    · rw [if_neg e, if_neg e]
      unfold upd
      rw [if_neg e]
      exact ⟨s1, s2, s3⟩
theorem Jn.write {s : St} {firm last : Nat → Nat → UInt8} (h : Jn s firm last) (ho : s.out = false) (hf : ¬ (s.set = true ∧ s.left = 0)) {d a : Nat} (hd : d < 2) (ha : a < 8) (b : UInt8) :
    (wrR s d a (ofL b)).1 = 0 ∧ Jn (wrR s d a (ofL b)).2 firm (upd last d a b) ∧ (wrR s d a (ofL b)).2 = layS (usedS (nStep s).2 d) d a (ofF b) := by
  have e0 : nR s = none := by unfold nR; rw [ho]; rfl
  have e1 : nA (((ofL b).length : Int) == 256) = none := by unfold nA ofL; simp
  have e2 : (nStep s).1 = none := by unfold nStep; rw [if_neg hf]
  obtain ⟨t1, t2, t3⟩ := nStep_none e2
  have h1 := h.same (s' := (nStep s).2) t3 t1 t2
  have e : wrR s d a (ofL b) = (0, layS (usedS (nStep s).2 d) d a (ofF b)) := by
    unfold wrR
    rw [dCons_none e0, dCons_none (h.nS0 hd ha), dCons_none e1, dCons_none (h.nT0 _), mRes_none e2]
    have hl : (ofL b).length = 256 := by simp [ofL]
    unfold wrK
    rw [dif_pos hl]
    unfold wrS
    rw [if_neg (by rw [h1.bit0]; exact Bool.false_ne_true)]
    have hst : strayAt (nStep s).2 d a = a := by
      unfold strayAt
      cases e : (nStep s).2.devs[(d : Int).toNat]? with
      | none => rfl
      | some q =>
        have := h1.fl q (List.mem_of_getElem? e)
        simp [this]
    rw [hst]
    rfl
  rw [e]
  exact ⟨rfl, (h1.used d).lay hd ha b, rfl⟩
end Go.Proofs.YtdebnikolhhmgaaDoor

namespace Go.Proofs.YtdebnikolhhmgaaDoor
open Go.RowKit
set_option linter.unusedVariables false
set_option linter.unusedSimpArgs false
set_option maxRecDepth 100000

open Kr (OwnE SlE Enco RowTys)
theorem lastAt_dev : ∀ (l : List Wt) (d0 : Nat) (d a : Int), (∀ x ∈ l, 0 ≤ x.dev) → lastAt (l.filter (·.dev == (d0 : Int))) d a = if d.toNat = d0 then lastAt l d a else none
  | [], d0, d, a, _ => by split <;> rfl
  | x :: l, d0, d, a, h => by
    have ih := lastAt_dev l d0 d a (fun y hy => h y (by simp [hy]))
    have hx := h x (by simp)
    rw [List.filter_cons]
    by_cases e : x.dev = (d0 : Int)
    · rw [if_pos (by simpa using e), lastAt_cons, lastAt_cons, ih]
      have e2 : x.dev.toNat = d0 := by omega
      by_cases e3 : d.toNat = d0
      · rw [if_pos e3, if_pos e3]
      · rw [if_neg e3, if_neg e3]
        simp only
        rw [if_neg (fun h => e3 (by omega))]
    · rw [if_neg (by simpa using e), ih]
      have e2 : x.dev.toNat ≠ d0 := by omega
      by_cases e3 : d.toNat = d0
      · rw [if_pos e3, if_pos e3, lastAt_cons]
        rw [if_neg (fun h => e2 (by omega))]
        cases lastAt l d a <;> rfl
      · rw [if_neg e3, if_neg e3]
theorem lastAt_ndev : ∀ (l : List Wt) (d0 : Nat) (d a : Int), (∀ x ∈ l, 0 ≤ x.dev) → lastAt (l.filter fun x => !(x.dev == (d0 : Int))) d a = if d.toNat = d0 then none else lastAt l d a
  | [], d0, d, a, _ => by split <;> rfl
  | x :: l, d0, d, a, h => by
    have ih := lastAt_ndev l d0 d a (fun y hy => h y (by simp [hy]))
    have hx := h x (by simp)
    rw [List.filter_cons]
    by_cases e : x.dev = (d0 : Int)
    · rw [if_neg (by simpa using e), ih]
      have e2 : x.dev.toNat = d0 := by omega
      by_cases e3 : d.toNat = d0
      · rw [if_pos e3, if_pos e3]
      · rw [if_neg e3, if_neg e3, lastAt_cons]
        rw [if_neg (fun h => e3 (by omega))]
        cases lastAt l d a <;> rfl
    · rw [if_pos (by simpa using e), lastAt_cons, ih]
      have e2 : x.dev.toNat ≠ d0 := by omega
      by_cases e3 : d.toNat = d0
      · rw [if_pos e3, if_pos e3]
        simp only
        rw [if_neg (fun h => e2 (by omega))]
      · rw [if_neg e3, if_neg e3, lastAt_cons]
theorem settle_fl {s : St} (x : Wt) (n : Nat) (h : ∀ q ∈ s.devs, q.f = 0) : ∀ q ∈ (settleS s x n).devs, q.f = 0 := fun q hq => by
  unfold settleS setSec setD at hq
  cases e : s.devs[x.dev.toNat]? with
  | none => rw [e] at hq; exact h q hq
  | some p =>
    rw [e] at hq
    rcases List.mem_or_eq_of_mem_set hq with hq | rfl
    · exact h q hq
    · exact h p (List.mem_of_getElem? e)
theorem settles_keep : ∀ (l : List Wt) (s : St), (∀ q ∈ s.devs, q.f = 0) → (∀ q ∈ (settles l s).devs, q.f = 0) ∧ (settles l s).row = s.row ∧ (settles l s).n = s.n ∧ (settles l s).steps = s.steps
  | [], s, h => ⟨h, rfl, rfl, rfl⟩
  | x :: l, s, h => by
    obtain ⟨k1, k2, k3, k4⟩ := settles_keep l (settleS s x 256) (settle_fl x 256 h)
    obtain ⟨r1, r2, r3⟩ := setD_row s x.dev fun q => { q with secs := match q.secs[x.at'.toNat]? with
      | some c => q.secs.set x.at'.toNat ((fun c => (⟨mixB c.firm x.b 256, none⟩ : Sc)) c)
      | none => q.secs }
    exact ⟨k1, k2.trans r1, k3.trans r2, k4.trans r3⟩
theorem Jn.flush {s : St} {firm last : Nat → Nat → UInt8} (h : Jn s firm last) {d : Nat} (hd : d < 2) : Jn (flushS s d) (fun d' a' => if d' = d then last d' a' else firm d' a') last := by
  unfold flushS
  have hz : szs (takenS s d) = szs s := rfl
  have h0 : ∀ x ∈ s.row, 0 ≤ x.dev := fun x hx => (h.rw x hx).1
  obtain ⟨k1, k2, k3, _⟩ := settles_keep (rowOf s d) (takenS s d) h.fl
  have hz2 : szs (settles (rowOf s d) (takenS s d)) = szs s := (settles_szs _ _).trans hz
  refine ⟨k3.trans h.n, by rw [hz2]; exact h.sz, k1, fun x hx => ?_, fun d' a' hd' ha' => ?_⟩
  · rw [hz2]
    rw [k2] at hx
    exact h.rw x (List.mem_filter.1 hx).1
  · rw [secAt_settles (rowOf s d) (takenS s d) (fun x hx => by rw [hz]; exact h.rw x (List.mem_filter.1 hx).1), k2]
    obtain ⟨s1, s2, s3⟩ := h.sec d' a' hd' ha'
    rw [show secAt (takenS s d) d' a' = secAt s d' a' from rfl, show (takenS s d).row = s.row.filter (fun x => !(x.dev == (d : Int))) from rfl]
    unfold rowOf
    rw [lastAt_dev s.row d d' a' h0, lastAt_ndev s.row d d' a' h0]
    simp only [Int.toNat_natCast]
    by_cases e : d' = d
    · rw [if_pos e, if_pos e, if_pos e]
      cases hl : lastAt s.row d' a' with
      | none =>
        rw [hl] at s2
        have ht : tell (secAt s d' a') = (secAt s d' a').firm := by unfold tell; rw [s2]
        rw [ht] at s3
        exact ⟨s3, s2, by show tell (secAt s d' a') = _; rw [ht]; exact s3⟩
      | some b =>
        rw [hl] at s2
        have ht : tell (secAt s d' a') = b := by unfold tell; rw [s2]
        rw [ht] at s3
        exact ⟨s3, rfl, s3⟩
    · rw [if_neg e, if_neg e, if_neg e]
      exact ⟨s1, s2, s3⟩
end Go.Proofs.YtdebnikolhhmgaaDoor

namespace Go.Proofs.YtdebnikolhhmgaaDoor
open Go.RowKit
set_option linter.unusedVariables false
set_option linter.unusedSimpArgs false
set_option maxRecDepth 100000

open Kr (OwnE SlE Enco RowTys)
theorem fl_done {s : St} {firm last : Nat → Nat → UInt8} (h : Jn s firm last) (ho : s.out = false) (hf : ¬ (s.set = true ∧ s.left = 0)) {d : Nat} (hd : d < 2) :
    (flR s d).1 = 0 ∧ Jn (flR s d).2 (fun d' a' => if d' = d then last d' a' else firm d' a') last ∧ (flR s d).2 = flushS (nStep s).2 d := by
  have e0 : nR s = none := by unfold nR; rw [ho]; rfl
  have e2 : (nStep s).1 = none := by unfold nStep; rw [if_neg hf]
  obtain ⟨t1, t2, t3⟩ := nStep_none e2
  have h1 := h.same (s' := (nStep s).2) t3 t1 t2
  have e : flR s d = (0, flushS (nStep s).2 d) := by
    unfold flR
    rw [dCons_none e0, dCons_none (h.nD0 hd), dCons_none (h.nT0 _), mRes_none e2]
  rw [e]
  exact ⟨rfl, h1.flush hd, rfl⟩
/-- What the fuse, the halt and the steps are behind a call that is done. -/
theorem step_done {s : St} (hf : ¬ (s.set = true ∧ s.left = 0)) : (nStep s).2.steps = s.steps + 1 ∧ (nStep s).2.out = s.out ∧ (nStep s).2.set = s.set ∧ (nStep s).2.left = if s.set = true then s.left - 1 else s.left := by
  unfold nStep
  rw [if_neg hf]
  exact ⟨rfl, rfl, rfl, rfl⟩
theorem setD_rest (s : St) (d : Int) (u : Dv → Dv) : (setD s d u).steps = s.steps ∧ (setD s d u).out = s.out ∧ (setD s d u).set = s.set ∧ (setD s d u).left = s.left := by unfold setD; split <;> exact ⟨rfl, rfl, rfl, rfl⟩
theorem lay_rest (s : St) (d a : Int) (b : FB) : (layS s d a b).steps = s.steps ∧ (layS s d a b).out = s.out ∧ (layS s d a b).set = s.set ∧ (layS s d a b).left = s.left := setD_rest _ _ _
theorem used_rest (s : St) (d : Int) : (usedS s d).steps = s.steps ∧ (usedS s d).out = s.out ∧ (usedS s d).set = s.set ∧ (usedS s d).left = s.left := setD_rest _ _ _
theorem settles_rest : ∀ (l : List Wt) (s : St), (settles l s).steps = s.steps ∧ (settles l s).out = s.out ∧ (settles l s).set = s.set ∧ (settles l s).left = s.left
  | [], s => ⟨rfl, rfl, rfl, rfl⟩
  | x :: l, s => by
    obtain ⟨k1, k2, k3, k4⟩ := settles_rest l (settleS s x 256)
    obtain ⟨r1, r2, r3, r4⟩ := setD_rest s x.dev fun q => { q with secs := match q.secs[x.at'.toNat]? with
      | some c => q.secs.set x.at'.toNat ((fun c => (⟨mixB c.firm x.b 256, none⟩ : Sc)) c)
      | none => q.secs }
    exact ⟨k1.trans r1, k2.trans r2, k3.trans r3, k4.trans r4⟩
theorem flush_rest (s : St) (d : Int) : (flushS s d).steps = s.steps ∧ (flushS s d).out = s.out ∧ (flushS s d).set = s.set ∧ (flushS s d).left = s.left := settles_rest _ _
/-- The fuse burns through. -/
theorem wr_burnt {s : St} {firm last : Nat → Nat → UInt8} (h : Jn s firm last) (ho : s.out = false) (hf : s.set = true ∧ s.left = 0) {d a : Nat} (hd : d < 2) (ha : a < 8) (b : UInt8) : wrR s d a (ofL b) = (10, { s with out := true }) := by
  have e0 : nR s = none := by unfold nR; rw [ho]; rfl
  have e1 : nA (((ofL b).length : Int) == 256) = none := by unfold nA ofL; simp
  have e2 : nStep s = (some 2, { s with out := true }) := by unfold nStep; rw [if_pos hf]
  unfold wrR
  rw [dCons_none e0, dCons_none (h.nS0 hd ha), dCons_none e1, dCons_none (h.nT0 _), e2]
  rfl
theorem fl_burnt {s : St} {firm last : Nat → Nat → UInt8} (h : Jn s firm last) (ho : s.out = false) (hf : s.set = true ∧ s.left = 0) {d : Nat} (hd : d < 2) : flR s d = (10, { s with out := true }) := by
  have e0 : nR s = none := by unfold nR; rw [ho]; rfl
  have e2 : nStep s = (some 2, { s with out := true }) := by unfold nStep; rw [if_pos hf]
  unfold flR
  rw [dCons_none e0, dCons_none (h.nD0 hd), dCons_none (h.nT0 _), e2]
  rfl
/-- Behind that all is refused. -/
theorem wr_out {s : St} (ho : s.out = true) (d a : Int) (l : List UInt8) : wrR s d a l = (10, s) := by
  have e0 : nR s = some 2 := by unfold nR; rw [ho]; rfl
  unfold wrR dCons
  rw [if_neg (by rw [e0]; exact fun h => by cases h), e0]
  rfl
theorem fl_out {s : St} (ho : s.out = true) (d : Int) : flR s d = (10, s) := by
  have e0 : nR s = some 2 := by unfold nR; rw [ho]; rfl
  unfold flR dCons
  rw [if_neg (by rw [e0]; exact fun h => by cases h), e0]
  rfl
end Go.Proofs.YtdebnikolhhmgaaDoor

namespace Go.Proofs.YtdebnikolhhmgaaDoor
open Go.RowKit
set_option linter.unusedVariables false
set_option linter.unusedSimpArgs false
set_option maxRecDepth 100000

open Kr (OwnE SlE Enco RowTys)
theorem crK_all (l : List Wt) (keep : List Bool) (torn : Nat) (s : St) (hk : ∀ k, k < l.length → keep[k]? = some true) : ∀ k, k ≤ l.length → crK l keep torn s k = (settles (l.take k) s, torn)
  | 0, _ => rfl
  | k + 1, h => by
    have ih := crK_all l keep torn s hk k (by omega)
    have hlt : k < l.length := by omega
    unfold crK
    rw [List.getElem?_eq_getElem hlt]
    simp only
    rw [if_pos (hk k hlt), ih]
    unfold settles
    rw [List.take_succ_eq_append_getElem hlt, List.foldl_append]
    rfl
theorem Jn.crashAll {s : St} {firm last : Nat → Nat → UInt8} (h : Jn s firm last) (keep : List Bool) (torn : Nat) (hk : ∀ k, k < s.row.length → keep[k]? = some true) : Jn (crashS s keep torn) last last ∧ (crashS s keep torn).out = false ∧ (crashS s keep torn).set = false ∧ (crashS s keep torn).row = [] := by
  refine ⟨?_, rfl, rfl, rfl⟩
  have e := crK_all s.row keep torn s hk s.row.length (Nat.le_refl _)
  rw [List.take_length] at e
  obtain ⟨k1, k2, k3, _⟩ := settles_keep s.row s h.fl
  have hz := settles_szs s.row s
  have hd : (crashS s keep torn).devs = (settles s.row s).devs.map endQ := by unfold crashS; rw [e]
  have hs : ∀ d a, secAt (crashS s keep torn) d a = secAt (settles s.row s) d a := fun d a => by
    unfold secAt
    rw [hd, List.getElem?_map]
    cases (settles s.row s).devs[d.toNat]? with
    | none => rfl
    | some q => rfl
  have hn : (crashS s keep torn).n = s.n := by unfold crashS; rw [e]; exact k3
  refine ⟨hn.trans h.n, ?_, fun q hq => ?_, fun x hx => (by cases hx), fun d' a' hd' ha' => ?_⟩
  · unfold szs
    rw [hd, List.map_map]
    exact (show _ = szs (settles s.row s) from rfl).trans (hz.trans h.sz)
  · rw [hd] at hq
    obtain ⟨p, hp, rfl⟩ := List.mem_map.1 hq
    show p.f &&& 241 = 0
    rw [k1 p hp]
    rfl
  · rw [hs, secAt_settles s.row s h.rw]
    obtain ⟨s1, s2, s3⟩ := h.sec d' a' hd' ha'
    cases hl : lastAt s.row d' a' with
    | none =>
      rw [hl] at s2
      have ht : tell (secAt s d' a') = (secAt s d' a').firm := by unfold tell; rw [s2]
      rw [ht] at s3
      exact ⟨s3, s2, by show tell (secAt s d' a') = _; rw [ht]; exact s3⟩
    | some b =>
      rw [hl] at s2
      have ht : tell (secAt s d' a') = b := by unfold tell; rw [s2]
      rw [ht] at s3
      exact ⟨s3, rfl, s3⟩
end Go.Proofs.YtdebnikolhhmgaaDoor

namespace Go.Proofs.YtdebnikolhhmgaaDoor
open Go.RowKit
set_option linter.unusedVariables false
set_option linter.unusedSimpArgs false
set_option maxRecDepth 100000

open Kr (OwnE SlE Enco RowTys)
/-- So many steps of n were done. -/
structure Fz (s : St) (firm last : Nat → Nat → UInt8) (n done : Nat) : Prop where
  j : Jn s firm last
  le : done ≤ n
  set : s.set = true
  st : (s.out = false ∧ s.left = (n : Int) - done) ∨ (s.out = true ∧ done = n)
  steps : s.steps = done
section
variable {s : St} {firm last : Nat → Nat → UInt8} {n done : Nat}
theorem Fz.begin (n : Nat) : (fuR (newS 8 2) n).1 = 0 ∧ Fz (fuR (newS 8 2) n).2 (fun _ _ => 0) (fun _ _ => 0) n 0 := by
  have e : fuR (newS 8 2) n = (0, { newS 8 2 with set := true, left := n }) := by
    unfold fuR
    have e1 : nA (decide (0 ≤ (n : Int))) = none := by rw [decide_eq_true (Int.natCast_nonneg n)]; rfl
    rw [dCons_none (by rfl), mRes_none (r := (nA (decide (0 ≤ (n : Int))), newS 8 2)) e1]
  rw [e]
  exact ⟨rfl, Jn.new.same rfl rfl rfl, Nat.zero_le _, rfl, .inl ⟨rfl, by simp⟩, rfl⟩
/-- A state whose halt and fuse are these. -/
theorem Fz.burn (h : Fz s firm last n done) (hd : done = n) : Fz { s with out := true } firm last n done := ⟨h.j.same rfl rfl rfl, h.le, h.set, .inr ⟨rfl, hd⟩, h.steps⟩
theorem Fz.go (h : Fz s firm last n done) (hlt : done < n) : s.out = false ∧ ¬ (s.set = true ∧ s.left = 0) ∧ s.left = (n : Int) - done := by
  rcases h.st with ⟨h1, h2⟩ | ⟨_, h2⟩
  · exact ⟨h1, fun hh => by have := hh.2; omega, h2⟩
  · omega
theorem Fz.write (h : Fz s firm last n done) {d a : Nat} (hd : d < 2) (ha : a < 8) (b : UInt8) :
    (done < n ∧ (wrR s d a (ofL b)).1 = 0 ∧ Fz (wrR s d a (ofL b)).2 firm (upd last d a b) n (done + 1)) ∨ (done = n ∧ (wrR s d a (ofL b)).1 = 10 ∧ Fz (wrR s d a (ofL b)).2 firm last n done) := by
  rcases Nat.lt_or_eq_of_le h.le with hlt | hn
  · obtain ⟨g1, g2, g3⟩ := h.go hlt
    obtain ⟨w1, w2, w3⟩ := h.j.write g1 g2 hd ha b
    obtain ⟨p1, p2, p3, p4⟩ := step_done g2
    obtain ⟨u1, u2, u3, u4⟩ := used_rest (nStep s).2 d
    obtain ⟨l1, l2, l3, l4⟩ := lay_rest (usedS (nStep s).2 d) d a (ofF b)
    refine .inl ⟨hlt, w1, w2, hlt, ?_, .inl ⟨?_, ?_⟩, ?_⟩
    · rw [w3, l3, u3, p3]; exact h.set
    · rw [w3, l2, u2, p2]; exact g1
    · rw [w3, l4, u4, p4, if_pos h.set, g3]; push_cast; omega
    · rw [w3, l1, u1, p1, h.steps]; push_cast; rfl
  · refine .inr ⟨hn, ?_⟩
    rcases h.st with ⟨g1, g2⟩ | ⟨g1, _⟩
    · rw [wr_burnt h.j g1 ⟨h.set, by omega⟩ hd ha b]
      exact ⟨rfl, h.burn hn⟩
    · rw [wr_out g1]
      exact ⟨rfl, h⟩
theorem Fz.flush (h : Fz s firm last n done) {d : Nat} (hd : d < 2) :
    (done < n ∧ (flR s d).1 = 0 ∧ Fz (flR s d).2 (fun d' a' => if d' = d then last d' a' else firm d' a') last n (done + 1)) ∨ (done = n ∧ (flR s d).1 = 10 ∧ Fz (flR s d).2 firm last n done) := by
  rcases Nat.lt_or_eq_of_le h.le with hlt | hn
  · obtain ⟨g1, g2, g3⟩ := h.go hlt
    obtain ⟨w1, w2, w3⟩ := fl_done h.j g1 g2 hd
    obtain ⟨p1, p2, p3, p4⟩ := step_done g2
    obtain ⟨l1, l2, l3, l4⟩ := flush_rest (nStep s).2 d
    refine .inl ⟨hlt, w1, w2, hlt, ?_, .inl ⟨?_, ?_⟩, ?_⟩
    · rw [w3, l3, p3]; exact h.set
    · rw [w3, l2, p2]; exact g1
    · rw [w3, l4, p4, if_pos h.set, g3]; push_cast; omega
    · rw [w3, l1, p1, h.steps]; push_cast; rfl
  · refine .inr ⟨hn, ?_⟩
    rcases h.st with ⟨g1, g2⟩ | ⟨g1, _⟩
    · rw [fl_burnt h.j g1 ⟨h.set, by omega⟩ hd]
      exact ⟨rfl, h.burn hn⟩
    · rw [fl_out g1]
      exact ⟨rfl, h⟩
theorem Fz.end (h : Fz s firm last n done) (keep : List Bool) (hk : keep = List.replicate s.row.length true) :
    (crR s keep 0).1 = 0 ∧ Jn (crR s keep 0).2 last last ∧ (crR s keep 0).2.out = false := by
  have e : crR s keep 0 = (0, crashS s keep 0) := by
    unfold crR
    rw [mRes_none (by rfl)]
    rfl
  rw [e]
  obtain ⟨h1, h2, _⟩ := h.j.crashAll keep 0 (fun k hk2 => by subst hk; rw [List.getElem?_replicate, if_pos hk2])
  exact ⟨rfl, h1, h2⟩
end
theorem Jn.up {s : St} {firm last : Nat → Nat → UInt8} (h : Jn s firm last) (ho : s.out = false) {d : Nat} (hd : d < 2) : (dCons (nR s, s) (dCons (nD s d, s) (nT s d, s))).1.isNone = true := by
  have e0 : nR s = none := by unfold nR; rw [ho]; rfl
  rw [dCons_none e0, dCons_none (h.nD0 hd)]
  show (nT s d).isNone = true
  rw [h.nT0]
  rfl
/-- Without a fuse: where the loose writes come from. -/
structure Lz (s : St) (firm last : Nat → Nat → UInt8) (A : Nat → Nat → UInt8 → Prop) : Prop where
  j : Jn s firm last
  out : s.out = false
  set : s.set = false
  src : ∀ x ∈ s.row, ∃ (d a : Nat) (b : UInt8), x = ⟨d, a, ofF b⟩ ∧ A d a b
section
variable {s : St} {firm last : Nat → Nat → UInt8} {A : Nat → Nat → UInt8 → Prop}
theorem Lz.begin (A : Nat → Nat → UInt8 → Prop) : Lz (newS 8 2) (fun _ _ => 0) (fun _ _ => 0) A := ⟨Jn.new, rfl, rfl, fun x hx => by cases hx⟩
theorem Lz.write (h : Lz s firm last A) {d a : Nat} (hd : d < 2) (ha : a < 8) (b : UInt8) (hA : A d a b) : (wrR s d a (ofL b)).1 = 0 ∧ Lz (wrR s d a (ofL b)).2 firm (upd last d a b) A := by
  have hf : ¬ (s.set = true ∧ s.left = 0) := fun hh => by rw [h.set] at hh; cases hh.1
  obtain ⟨w1, w2, w3⟩ := h.j.write h.out hf hd ha b
  obtain ⟨p1, p2, p3, p4⟩ := step_done hf
  obtain ⟨u1, u2, u3, u4⟩ := used_rest (nStep s).2 d
  obtain ⟨l1, l2, l3, l4⟩ := lay_rest (usedS (nStep s).2 d) d a (ofF b)
  have e2 : (nStep s).1 = none := by unfold nStep; rw [if_neg hf]
  refine ⟨w1, w2, ?_, ?_, fun x hx => ?_⟩
  · rw [w3, l2, u2, p2]; exact h.out
  · rw [w3, l3, u3, p3]; exact h.set
  · rw [w3] at hx
    have e : (layS (usedS (nStep s).2 d) d a (ofF b)).row = s.row ++ [⟨d, a, ofF b⟩] := by
      refine (setD_row _ _ _).1.trans ?_
      show (usedS (nStep s).2 d).row ++ _ = _
      rw [show (usedS (nStep s).2 d).row = (nStep s).2.row from (setD_row _ _ _).1, (nStep_none e2).2.1]
    rw [e] at hx
    rcases List.mem_append.1 hx with hx | hx
    · exact h.src x hx
    · exact ⟨d, a, b, List.mem_singleton.1 hx, hA⟩
theorem Lz.flush (h : Lz s firm last A) {d : Nat} (hd : d < 2) : (flR s d).1 = 0 ∧ Lz (flR s d).2 (fun d' a' => if d' = d then last d' a' else firm d' a') last A := by
  have hf : ¬ (s.set = true ∧ s.left = 0) := fun hh => by rw [h.set] at hh; cases hh.1
  obtain ⟨w1, w2, w3⟩ := fl_done h.j h.out hf hd
  obtain ⟨p1, p2, p3, p4⟩ := step_done hf
  obtain ⟨l1, l2, l3, l4⟩ := flush_rest (nStep s).2 d
  have e2 : (nStep s).1 = none := by unfold nStep; rw [if_neg hf]
  obtain ⟨t1, t2, t3⟩ := nStep_none e2
  refine ⟨w1, w2, ?_, ?_, fun x hx => ?_⟩
  · rw [w3, l2, p2]; exact h.out
  · rw [w3, l3, p3]; exact h.set
  · rw [w3] at hx
    have e : (flushS (nStep s).2 d).row = (takenS (nStep s).2 d).row := (settles_keep (rowOf (nStep s).2 d) (takenS (nStep s).2 d) (by
      show ∀ q ∈ (nStep s).2.devs, q.f = 0
      rw [t1]; exact h.j.fl)).2.1
    rw [e] at hx
    have hx2 := (List.mem_filter.1 hx).1
    rw [t2] at hx2
    exact h.src x hx2
end
end Go.Proofs.YtdebnikolhhmgaaDoor

namespace Go.Proofs.YtdebnikolhhmgaaDoor
open Go.ChangeShapes Go.WideShapes Go.ChangeAt Go.RowKit Go.Deep
set_option linter.unusedVariables false
set_option linter.unusedSimpArgs false
set_option maxRecDepth 100000
open Kr (OwnE SlE Enco RowTys)
open Kr (flt_length flt_append flt_get)

theorem sle_of_trod {α H : Type} {en : α → List Value} {k : Nat} {Wf : α → Prop} (E : Enco en k) {t e : TypeId} (y0 : α)
    {enc : TypeId × Value → H} {W : World} {fuel : Nat} {cs : List Value} {x : DataW H × List MemPlace}
    (ht : Tryd.prog.underlying t = some (.slice e)) (hk : Tryd.prog.cellsOf e = k)
    (hd : ∀ (fuel : Nat) cs x, DataW.trod enc Tryd.prog W 0 (fun _ => true) true fuel e cs = some x → ∃ y : α, cs = en y ∧ Wf y)
    (h : DataW.trod enc Tryd.prog W 0 (fun _ => true) true fuel t cs = some x) :
    ∃ a cap l sp, cs = [.slice a (l : List α).length cap] ∧ SlE en k W (.slice a l.length cap) l sp ∧ ∀ x ∈ l, Wf x := by
  rcases open_slice ht h with ⟨rfl, _⟩ | ⟨a, len, cap, m, n, D, Pl, rfl, _, hl, hm, hmm, _, hi⟩
  · exact ⟨none, 0, [], [], rfl, SlE.nil _ _ _, by simp⟩
  · simp at hmm
    subst hmm
    rw [hk] at hi
    have hex : ∀ i, ∃ y : α, i < m → (∀ j, j < k → W.cell? ((a.add (i * k)).add j) = (en y)[j]?) ∧ Wf y := fun i => by
      by_cases hlt : i < m
      · obtain ⟨cs', h1, h2⟩ := hi i hlt
        obtain ⟨y, rfl, hw⟩ := hd _ _ _ h2
        exact ⟨y, fun _ => ⟨(World.cells?_some h1).2.2, hw⟩⟩
      · exact ⟨y0, fun h => absurd h hlt⟩
    obtain ⟨f, hf⟩ := Classical.axiomOfChoice hex
    obtain ⟨L, hL⟩ : ∃ L, L = (List.range m).map f := ⟨_, rfl⟩
    have hLl : L.length = m := by rw [hL]; simp
    have hget : ∀ i (h : i < L.length), L[i] = f i := fun i h => by subst hL; simp
    have htl : (L.take len).length = len := by simp; omega
    have hw : ∀ x ∈ L.take len, Wf x := fun x hx => by
      obtain ⟨i, hi', rfl⟩ := List.getElem_of_mem (List.mem_of_mem_take hx)
      rw [hget]
      exact (hf i (by omega)).2
    by_cases hc : m = 0
    · subst hc
      obtain rfl : len = 0 := by omega
      exact ⟨some a, 0, [], [], rfl, ⟨by rw [flt_length E], .inr (.inl ⟨a, rfl, rfl, rfl⟩)⟩, by simp⟩
    · obtain ⟨b, off, spot⟩ := a
      have h0 := (hf 0 (by omega)).1 0 E.pos
      have hl0 : 0 < (en (f 0)).length := by rw [E.len]; exact E.pos
      rw [List.getElem?_eq_getElem hl0] at h0
      have hspot : spot = none := by simpa [Addr.add] using World.cell?_spot h0
      subst hspot
      have hfl := flt_length E L
      refine ⟨some ⟨b, off, none⟩, m, L.take len, Kr.flt en (L.drop len), by rw [htl], ?_, hw⟩
      rw [htl]
      refine ⟨by rw [flt_length E, htl], .inr (.inr ⟨b, off, m, by rw [htl], by omega, hm, ?_, fun i u hu => ?_⟩)⟩
      · rw [← flt_append, List.take_append_drop, hfl, hLl]
      · rw [← flt_append, List.take_append_drop] at hu
        have hi2 : i < L.length * k := by
          rcases Nat.lt_or_ge i (L.length * k) with h | h
          · exact h
          · rw [List.getElem?_eq_none (by rw [hfl]; exact h)] at hu; cases hu
        have hq : i / k < L.length := Nat.div_lt_of_lt_mul (by rw [Nat.mul_comm]; exact hi2)
        have hr : i % k < k := Nat.mod_lt _ E.pos
        have e : i / k * k + i % k = i := Nat.div_add_mod' i k
        have g := flt_get E L (i / k) hq (i % k) hr
        rw [e] at g
        rw [g, hget] at hu
        have c := (hf (i / k) (by omega)).1 (i % k) hr
        rw [add_plain, add_plain, Nat.add_assoc, e] at c
        rw [c, hu]

/-- A lay: device, sector, byte, and whether a flush follows. -/
abbrev LayT := Int × Int × Int × Bool
def eL (x : LayT) : List Value := [.int .i64 x.1, .int .i64 x.2.1, .int .u8 x.2.2.1, .bool x.2.2.2]
theorem encL : Enco eL 4 := ⟨fun _ => rfl, fun x u hu => by
    simp [eL] at hu
    rcases hu with rfl | rfl | rfl | rfl <;> rfl, by omega, fun x y h => by
    obtain ⟨a, b, c, d⟩ := x
    obtain ⟨a', b', c', d'⟩ := y
    simp only [eL, List.cons.injEq, Value.int.injEq, Value.bool.injEq, true_and, and_true] at h
    obtain ⟨h1, h2, h3, h4⟩ := h
    subst h1; subst h2; subst h3; subst h4
    rfl⟩
def WfLay (x : LayT) : Prop := 0 ≤ x.2.2.1 ∧ x.2.2.1 ≤ 255
theorem cells66 : Tryd.prog.cellsOf 66 = 4 := by kernel_rfl
theorem cells4 : Tryd.prog.cellsOf 4 = 1 := by kernel_rfl
theorem lay_of_trod {H : Type} {enc : TypeId × Value → H} {W : World} (fuel : Nat) (cs : List Value) (x : DataW H × List MemPlace) (h : DataW.trod enc Tryd.prog W 0 (fun _ => true) true fuel 66 cs = some x) :
    ∃ y : LayT, cs = eL y ∧ WfLay y := by
  obtain ⟨xs, n, _, rfl, hl, hlen, hf⟩ := DataW.trod_struct Tryd.underlying66 h
  rw [cells66] at hl
  match xs, hlen with
  | [y0, y1, y2, y3], _ =>
    have t0 : DataW.trod enc Tryd.prog W 0 (fun _ => true) true n 3 ((cs.drop 0).take (Tryd.prog.cellsOf 3)) = some y0 := hf 0 _ rfl
    have t1 : DataW.trod enc Tryd.prog W 0 (fun _ => true) true n 3 ((cs.drop 1).take (Tryd.prog.cellsOf 3)) = some y1 := hf 1 _ rfl
    have t2 : DataW.trod enc Tryd.prog W 0 (fun _ => true) true n 5 ((cs.drop 2).take (Tryd.prog.cellsOf 5)) = some y2 := hf 2 _ rfl
    have t3 : DataW.trod enc Tryd.prog W 0 (fun _ => true) true n 4 ((cs.drop 3).take (Tryd.prog.cellsOf 4)) = some y3 := hf 3 _ rfl
    rw [cells3] at t0 t1
    rw [cells5] at t2
    rw [cells4] at t3
    obtain ⟨z0, e0, _, _⟩ := DataW.trod_int Tryd.underlying3 t0
    obtain ⟨z1, e1, _, _⟩ := DataW.trod_int Tryd.underlying3 t1
    obtain ⟨z2, e2, _, w2⟩ := DataW.trod_int Tryd.underlying5 t2
    obtain ⟨z3, e3, _⟩ := DataW.trod_bool Tryd.underlying4 t3
    refine ⟨(z0, z1, z2, z3), ?_, Go.bounds_u8 w2⟩
    have q0 := take_at e0
    have q1 := take_at e1
    have q2 := take_at e2
    have q3 := take_at e3
    apply List.ext_getElem?
    intro i
    match i with
    | 0 => exact q0
    | 1 => exact q1
    | 2 => exact q2
    | 3 => exact q3
    | i + 4 => rw [List.getElem?_eq_none (by omega)]; rfl
theorem open_lays {H : Type} {enc : TypeId × Value → H} {W : World} {r : Reach} {b0 : Nat} {v : Value} {d : DataW H} {p : List MemPlace} (hv : Value.okWide Tryd.prog W r b0 55 v) (h : DataW.Trod enc Tryd.prog W 0 (fun _ => true) true 55 v d p) :
    ∃ l sp, SlE eL 4 W v l sp ∧ ∀ x ∈ l, WfLay x := by
  obtain ⟨a, n, c, rfl⟩ := okWide_slice Tryd.underlying55 hv
  obtain ⟨fuel, hf⟩ := h
  obtain ⟨a', cap, l, sp, e, hS, hw⟩ := sle_of_trod encL (0, 0, 0, false) Tryd.underlying55 cells66 lay_of_trod hf
  have e' : Value.slice a n c = Value.slice a' l.length cap := by simpa [Value.cells] using e
  rw [e']
  exact ⟨l, sp, hS, hw⟩
end Go.Proofs.YtdebnikolhhmgaaDoor

namespace Go.Proofs.YtdebnikolhhmgaaDoor
open Go.ChangeShapes Go.WideShapes Go.ChangeAt Go.RowKit Go.Deep
set_option linter.unusedVariables false
set_option linter.unusedSimpArgs false
set_option maxRecDepth 100000
open Kr (OwnE SlE Enco RowTys)
open Kr (flt_length flt_append flt_get)
def eb (b : UInt8) : List Value := [bv b]
/-- An act: kind, device, sector, number, mask, bytes, what is kept. -/
abbrev ActT := Int × Int × Int × Int × Int × CelT × CelT
def eAct (x : ActT) : List Value := [.int .i64 x.1, .int .i64 x.2.1, .int .i64 x.2.2.1, .int .i64 x.2.2.2.1, .int .u8 x.2.2.2.2.1, x.2.2.2.2.2.1.1, x.2.2.2.2.2.2.1]
structure WfAct (W : World) (x : ActT) : Prop where
  n : -9223372036854775808 ≤ x.2.2.2.1 ∧ x.2.2.2.1 ≤ 9223372036854775807
  m : 0 ≤ x.2.2.2.2.1 ∧ x.2.2.2.2.1 ≤ 255
  b : ∃ l sp, SlB W x.2.2.2.2.2.1.1 l sp
  k : ∃ l sp, SlE eB 1 W x.2.2.2.2.2.2.1 l sp
theorem WfAct.keep0 {W W' : World} {x : ActT} (h : WfAct W x) (f : Frm [] W W') : WfAct W' x := by
  obtain ⟨h1, h2, ⟨l, sp, h3⟩, k, ksp, h4⟩ := h
  exact ⟨h1, h2, ⟨l, sp, h3.keep f (by simp)⟩, k, ksp, h4.keep0 f⟩
end Go.Proofs.YtdebnikolhhmgaaDoor

namespace Go.Proofs.YtdebnikolhhmgaaDoor
open Go.RowKit
set_option linter.unusedVariables false
set_option linter.unusedSimpArgs false
set_option maxRecDepth 100000

open Kr (OwnE SlE Enco RowTys)
def zz1 (b : UInt8) (i : Nat) : St := (wrR (newS 8 2) 0 i (ofL b)).2
def zz2 (b : UInt8) (i : Nat) : St := (loR (zz1 b i) 0).2
def zz3 (b c : UInt8) (i : Nat) : St := (wrR (zz2 b i) 0 i (ofL c)).2
def zz4 (b c : UInt8) (i j : Nat) : St := (stR (zz3 b c i) 0 j).2
def zz5 (b c : UInt8) (i j : Nat) : St := (wrR (zz4 b c i j) 0 i (ofL c)).2
def zz6 (b c : UInt8) (i j : Nat) : St := (wrR (zz5 b c i j) 0 i (ofL b)).2
/-- So many reads fail. -/
def zzF (b c : UInt8) (i j : Nat) (f : Nat) (m : Int) : St := setD (zz6 b c i j) 0 fun q => { q with f := f, fl := m }
structure Fx (b c : UInt8) (i j : Nat) : Prop where
  e1 : (wrR (newS 8 2) 0 i (ofL b)).1 = 0
  e2 : (loR (zz1 b i) 0).1 = 0
  e3 : (wrR (zz2 b i) 0 i (ofL c)).1 = 0
  k3 : pkR (zz3 b c i) 0 i = none
  t3 : tellAt (zz3 b c i) 0 i = ofL b
  l3 : ((zz3 b c i).row.length : Int) = 1
  e4 : (stR (zz3 b c i) 0 j).1 = 0
  e5 : (wrR (zz4 b c i j) 0 i (ofL c)).1 = 0
  k5 : pkR (zz5 b c i j) 0 j = none
  t5 : tellAt (zz5 b c i j) 0 j = ofL c
  n5 : i = j ∨ (pkR (zz5 b c i j) 0 i = none ∧ tellAt (zz5 b c i j) 0 i = ofL b)
  e6 : (wrR (zz5 b c i j) 0 i (ofL b)).1 = 0
  k6 : pkR (zz6 b c i j) 0 i = none
  t6 : tellAt (zz6 b c i j) 0 i = ofL b
  d6 : nD (zz6 b c i j) 0 = none ∧ nT (zz6 b c i j) 0 = none
  f6 : ∀ m, setD (zz6 b c i j) 0 (fun q => failD q m) = zzF b c i j (failF 0 m) m
  rF : ∀ m, rdR (zzF b c i j 8 m) 0 i = (some 5, zzF b c i j (failF 8 (m - 1)) (m - 1))
  kF : ∀ m, pkR (zzF b c i j 8 m) 0 i = none
  tF : ∀ m, tellAt (zzF b c i j 8 m) 0 i = ofL b
  k0 : ∀ m, pkR (zzF b c i j 0 m) 0 i = none
  t0 : ∀ m, tellAt (zzF b c i j 0 m) 0 i = ofL b
  r0 : ∀ m, rdR (zzF b c i j 0 m) 0 i = (none, zzF b c i j 0 m)
  n0 : i = j ∨ ∀ m, (rdR (zzF b c i j 0 m) 0 j = (none, zzF b c i j 0 m) ∧ tellAt (zzF b c i j 0 m) 0 j = ofL c)
set_option maxHeartbeats 0 in
theorem fx (b c : UInt8) : ∀ i, i < 8 → ∀ j, j < 8 → Fx b c i j := by
  intro i hi j hj
  have h1 : i = 0 ∨ i = 1 ∨ i = 2 ∨ i = 3 ∨ i = 4 ∨ i = 5 ∨ i = 6 ∨ i = 7 := by omega
  have h2 : j = 0 ∨ j = 1 ∨ j = 2 ∨ j = 3 ∨ j = 4 ∨ j = 5 ∨ j = 6 ∨ j = 7 := by omega
  clear hi hj
  rcases h1 with rfl | rfl | rfl | rfl | rfl | rfl | rfl | rfl <;> rcases h2 with rfl | rfl | rfl | rfl | rfl | rfl | rfl | rfl <;> constructor <;>
    first | kernel_rfl | (intro m; kernel_rfl) | exact Or.inl rfl | exact ⟨by kernel_rfl, by kernel_rfl⟩ | exact Or.inr ⟨by kernel_rfl, by kernel_rfl⟩ | exact Or.inr fun m => ⟨by kernel_rfl, by kernel_rfl⟩
end Go.Proofs.YtdebnikolhhmgaaDoor

namespace Go.Proofs.YtdebnikolhhmgaaDoor
open Go.RowKit
set_option linter.unusedVariables false
set_option linter.unusedSimpArgs false
set_option maxRecDepth 100000

open Kr (OwnE SlE Enco RowTys)
/-- Blocks that were not there at first are written. -/
theorem Fa.frmN {lo : Nat} {w w1 w2 : World} {L : List Nat} (h : Fa lo w w1) (k : Frm L w1 w2) (hL : ∀ i ∈ L, lo ≤ i ∧ w.heap.size ≤ i) : Fa lo w w2 :=
  ⟨k.os.trans h.os, k.tape.trans h.tape, k.output.trans h.output, Nat.le_trans h.size k.size, fun i hi hs => (k.block i (Nat.lt_of_lt_of_le hs h.size) (fun hm => by have := (hL i hm).1; omega)).trans (h.low i hi hs),
    fun i cs T fr hc ho => k.heap (h.typ i cs T fr hc ho) (fun hm => by have := (hL i hm).2; have := lt_heap hc; omega)⟩
def cel (f : Nat → Nat → UInt8) : List Value := [bv (f 0 0), bv (f 0 1), bv (f 0 2), bv (f 0 3), bv (f 0 4), bv (f 0 5), bv (f 0 6), bv (f 0 7), bv (f 1 0), bv (f 1 1), bv (f 1 2), bv (f 1 3), bv (f 1 4), bv (f 1 5), bv (f 1 6), bv (f 1 7)]
def rw8 (f : Nat → UInt8) : List Value := [bv (f 0), bv (f 1), bv (f 2), bv (f 3), bv (f 4), bv (f 5), bv (f 6), bv (f 7)]
theorem cel_get (f : Nat → Nat → UInt8) {d a : Nat} (hd : d < 2) (ha : a < 8) : (cel f)[d * 8 + a]? = some (bv (f d a)) := by
  have h1 : d = 0 ∨ d = 1 := by omega
  have h2 : a = 0 ∨ a = 1 ∨ a = 2 ∨ a = 3 ∨ a = 4 ∨ a = 5 ∨ a = 6 ∨ a = 7 := by omega
  rcases h1 with rfl | rfl <;> rcases h2 with rfl | rfl | rfl | rfl | rfl | rfl | rfl | rfl <;> rfl
theorem cel_set (f : Nat → Nat → UInt8) {d a : Nat} (hd : d < 2) (ha : a < 8) (b : UInt8) : (cel f).toArray.setIfInBounds (d * 8 + a) (bv b) = (cel (upd f d a b)).toArray := by
  have h1 : d = 0 ∨ d = 1 := by omega
  have h2 : a = 0 ∨ a = 1 ∨ a = 2 ∨ a = 3 ∨ a = 4 ∨ a = 5 ∨ a = 6 ∨ a = 7 := by omega
  rcases h1 with rfl | rfl <;> rcases h2 with rfl | rfl | rfl | rfl | rfl | rfl | rfl | rfl <;> (refine Eq.trans ?_ rfl; kernel_rfl)
def setL (cs : Array Value) (o : Nat) : List Value → Array Value
  | [] => cs
  | v :: r => setL (cs.setIfInBounds o v) (o + 1) r
theorem cel_row (f : Nat → Nat → UInt8) {d : Nat} (hd : d < 2) (l : Nat → UInt8) : setL (cel f).toArray (d * 8) (rw8 l) = (cel (fun d' a' => if d' = d then l a' else f d' a')).toArray := by
  have h1 : d = 0 ∨ d = 1 := by omega
  rcases h1 with rfl | rfl <;> (refine Eq.trans ?_ rfl; kernel_rfl)
theorem heap_setCells {b : Nat} {T : TypeId} : ∀ (vs : List Value) (o : Nat) (w : World) (cs : Array Value), w.heap[b]? = some (.cells cs T (0, 0)) → (w.setCells b o vs).heap[b]? = some (.cells (setL cs o vs) T (0, 0))
  | [], o, w, cs, h => h
  | v :: r, o, w, cs, h => heap_setCells r (o + 1) _ _ (heap_setCell_same v h)
theorem frm_setCells {b : Nat} : ∀ (vs : List Value) (o : Nat) (w w' : World) (L : List Nat), Frm L w w' → b ∈ L → Frm L w (w'.setCells b o vs)
  | [], o, w, w', L, h, _ => h
  | v :: r, o, w, w', L, h, hb => frm_setCells r (o + 1) w _ L (h.setCell _ _ (.inl hb)) hb
/-- A box of two rows of eight bytes. -/
def Bx (w : World) (b : Nat) (f : Nat → Nat → UInt8) : Prop := w.heap[b]? = some (.cells (cel f).toArray 57 (0, 0))
section
variable {w w' : World} {b : Nat} {f : Nat → Nat → UInt8} {lo : Nat} {L : List Nat}
theorem Bx.fa (h : Bx w b f) (k : Fa lo w w') : Bx w' b f := k.typ _ _ _ _ h (by decide)
theorem Bx.frm (h : Bx w b f) (k : Frm L w w') (hn : b ∉ L) : Bx w' b f := k.heap h hn
theorem Bx.at (h : Bx w b f) {d a : Nat} (hd : d < 2) (ha : a < 8) : w.cell? ⟨b, d * 8 + a, none⟩ = some (bv (f d a)) := by
  rw [cell_of_heap h, List.getElem?_toArray]
  exact cel_get f hd ha
theorem Bx.frozen (h : Bx w b f) (i : Nat) : w.frozen? ⟨b, i, none⟩ = false := frozen_of_heap h i
theorem Bx.set (h : Bx w b f) {d a : Nat} (hd : d < 2) (ha : a < 8) (c : UInt8) : Bx (w.setCell ⟨b, d * 8 + a, none⟩ (bv c)) b (upd f d a c) := by
  have := heap_setCell_same (i := d * 8 + a) (bv c) h
  rw [cel_set f hd ha] at this
  exact this
theorem Bx.setRow (h : Bx w b f) {d : Nat} (hd : d < 2) (l : Nat → UInt8) : Bx (w.setCells b (d * 8) (rw8 l)) b (fun d' a' => if d' = d then l a' else f d' a') := by
  have := heap_setCells (rw8 l) (d * 8) w _ h
  rw [cel_row f hd l] at this
  exact this
theorem Bx.range (h : Bx w b f) {d : Nat} (hd : d < 2) : w.rangeAt b (d * 8) (rw8 (f d)) := fun j v hv => by
  have hj : j < 8 := (List.getElem?_eq_some_iff.1 hv).1
  rw [h.at hd hj, ← hv]
  have h2 : j = 0 ∨ j = 1 ∨ j = 2 ∨ j = 3 ∨ j = 4 ∨ j = 5 ∨ j = 6 ∨ j = 7 := by omega
  rcases h2 with rfl | rfl | rfl | rfl | rfl | rfl | rfl | rfl <;> rfl
theorem Bx.there (h : Bx w b f) {d : Nat} (hd : d < 2) : w.there b (d * 8) 8 := fun j hj => ⟨by rw [h.at hd hj]; rfl, h.frozen _⟩
theorem Bx.new (w : World) : Bx (w.alloc (.cells (cel fun _ _ => 0).toArray 57)) w.heap.size (fun _ _ => 0) := heap_alloc_new _ _
end
theorem i56 : (Tryd.prog.info? 56).map (·.size) = some 8 := by kernel_rfl
theorem one_rw8 (f : Nat → UInt8) : (rw8 f).toArray.all (·.oneCell') = true := by kernel_rfl
/-- Pick's answer. -/
def pk (x n : Int) : Int := if x.tmod n < 0 then x.tmod n + n else x.tmod n
theorem pk_in (x : Int) {n : Int} (hn : 0 < n) : 0 ≤ pk x n ∧ pk x n < n := by
  have h1 := Int.tmod_lt_of_pos x hn
  have h2 := Int.lt_tmod_of_pos x hn
  unfold pk
  split <;> omega
def pkN (x n : Int) : Nat := (pk x n).toNat
theorem pkN_lt (x : Int) {n : Int} (hn : 0 < n) : (pkN x n : Int) < n := by
  have := pk_in x hn
  unfold pkN
  omega
theorem Pick_pk (x n : Int) (hn : 0 < n) (hn2 : n ≤ 1000000) (w : World) : Calls Tryd.prog 34 #[.int .i64 x, .int .i64 n] w fun e w' => e = .returned (.int .i64 (pkN x n : Nat)) ∧ w' = w := by
  have h1 := Int.tmod_lt_of_pos x hn
  have h2 := Int.lt_tmod_of_pos x hn
  have hw : IntKind.i64.wrap (x.tmod n) = x.tmod n := IntWalk.i64_in _ (by omega)
  have hw4 : IntKind.i64.wrap (x.tmod n + n) = x.tmod n + n := IntWalk.i64_in _ (by omega)
  have hn0 : ¬ n < 1 := by omega
  have hnz : ¬ n = 0 := by omega
  have hnb : (n == 0) = false := by simp; omega
  by_cases h3 : x.tmod n < 0
  · have e : ((pkN x n : Nat) : Int) = x.tmod n + n := by unfold pkN pk; rw [if_pos h3]; omega
    have H := Lib.hid e
    clear e
    go_enter Tryd.func34, Tryd.ntmps34
    go_wp2
    go_ret
    exact ⟨by rw [H.out]; rfl, rfl⟩
  · have e : ((pkN x n : Nat) : Int) = x.tmod n := by unfold pkN pk; rw [if_neg h3]; omega
    have H := Lib.hid e
    clear e
    go_enter Tryd.func34, Tryd.ntmps34
    go_wp2
    go_ret
    exact ⟨by rw [H.out]; rfl, rfl⟩
end Go.Proofs.YtdebnikolhhmgaaDoor

namespace Go.Proofs.YtdebnikolhhmgaaDoor
open Go.RowKit
set_option linter.unusedVariables false
set_option linter.unusedSimpArgs false
set_option maxRecDepth 100000

open Kr (OwnE SlE Enco RowTys)
theorem secAt_nat (s : St) {d d' a a' : Int} (h1 : d.toNat = d'.toNat) (h2 : a.toNat = a'.toNat) : secAt s d a = secAt s d' a' := by
  unfold secAt
  rw [h1, h2]
/-- How much of the next one that does not stay is laid. -/
def crT (l : List Wt) (keep : List Bool) (torn : Nat) : Nat → Nat
  | 0 => torn
  | k + 1 => match l[k]? with
    | none => crT l keep torn k
    | some x => if keep[k]? = some true then crT l keep torn k else 0
def crN (l : List Wt) (keep : List Bool) (torn k : Nat) : Nat := if keep[k]? = some true then 256 else crT l keep torn k
/-- What is left of a sector. -/
def crC (l : List Wt) (keep : List Bool) (torn : Nat) (c : Sc) (d a : Int) : Nat → Sc
  | 0 => c
  | k + 1 => match l[k]? with
    | none => crC l keep torn c d a k
    | some x => if d.toNat = x.dev.toNat ∧ a.toNat = x.at'.toNat then ⟨mixB (crC l keep torn c d a k).firm x.b (crN l keep torn k), none⟩ else crC l keep torn c d a k
theorem crT_at {l : List Wt} {keep : List Bool} {torn k : Nat} {x : Wt} (h : l[k]? = some x) : crT l keep torn (k + 1) = if keep[k]? = some true then crT l keep torn k else 0 := by
  show (match l[k]? with | none => crT l keep torn k | some x => if keep[k]? = some true then crT l keep torn k else 0) = _
  rw [h]
theorem crC_at {l : List Wt} {keep : List Bool} {torn k : Nat} {c : Sc} {d a : Int} {x : Wt} (h : l[k]? = some x) : crC l keep torn c d a (k + 1) = if d.toNat = x.dev.toNat ∧ a.toNat = x.at'.toNat then ⟨mixB (crC l keep torn c d a k).firm x.b (crN l keep torn k), none⟩ else crC l keep torn c d a k := by
  show (match l[k]? with | none => crC l keep torn c d a k | some x => if d.toNat = x.dev.toNat ∧ a.toNat = x.at'.toNat then ⟨mixB (crC l keep torn c d a k).firm x.b (crN l keep torn k), none⟩ else crC l keep torn c d a k) = _
  rw [h]
theorem crK_at {l : List Wt} {keep : List Bool} {torn k : Nat} {s : St} {x : Wt} (h : l[k]? = some x) : crK l keep torn s (k + 1) = if keep[k]? = some true then (settleS (crK l keep torn s k).1 x 256, (crK l keep torn s k).2) else (settleS (crK l keep torn s k).1 x (crK l keep torn s k).2, 0) := by
  show (match l[k]? with | none => crK l keep torn s k | some x => if keep[k]? = some true then (settleS (crK l keep torn s k).1 x 256, (crK l keep torn s k).2) else (settleS (crK l keep torn s k).1 x (crK l keep torn s k).2, 0)) = _
  rw [h]
theorem crK_two (l : List Wt) (keep : List Bool) (torn : Nat) (s : St) : ∀ k, k ≤ l.length → (crK l keep torn s k).2 = crT l keep torn k
  | 0, _ => rfl
  | k + 1, h => by
    have e := List.getElem?_eq_getElem (show k < l.length by omega)
    have ih := crK_two l keep torn s k (by omega)
    rw [crK_at e, crT_at e]
    split
    · exact ih
    · rfl
theorem crK_sec (l : List Wt) (keep : List Bool) (torn : Nat) (s : St) (h : ∀ x ∈ l, inR (szs s) x) (d a : Int) : ∀ k, k ≤ l.length → secAt (crK l keep torn s k).1 d a = crC l keep torn (secAt s d a) d a k
  | 0, _ => rfl
  | k + 1, hk => by
    have hlt : k < l.length := by omega
    have e := List.getElem?_eq_getElem hlt
    have ih := crK_sec l keep torn s h d a k (by omega)
    have e2 := crK_two l keep torn s k (by omega)
    have hx := h l[k] (List.getElem_mem hlt)
    have hz := crK_szs l keep torn s k
    obtain ⟨hi, _, ha0, ha⟩ := (show inR (szs (crK l keep torn s k).1) l[k] by rw [hz]; exact hx).use
    rw [crK_at e, crC_at e]
    have key : ∀ n, secAt (settleS (crK l keep torn s k).1 l[k] n) d a = if d.toNat = l[k].dev.toNat ∧ a.toNat = l[k].at'.toNat then ⟨mixB (crC l keep torn (secAt s d a) d a k).firm l[k].b n, none⟩ else crC l keep torn (secAt s d a) d a k := fun n => by
      rw [secAt_settle l[k] n hi (by omega) d a]
      by_cases h2 : d.toNat = l[k].dev.toNat ∧ a.toNat = l[k].at'.toNat
      · rw [if_pos h2, if_pos h2, ← ih, secAt_nat (crK l keep torn s k).1 h2.1 h2.2]
      · rw [if_neg h2, if_neg h2, ih]
    unfold crN
    by_cases h3 : keep[k]? = some true
    · rw [if_pos h3, if_pos h3]
      exact key 256
    · rw [if_neg h3, if_neg h3, ← e2]
      exact key _
theorem crash_sec {s : St} (h : WfR s) (keep : List Bool) (torn : Nat) (d a : Int) : secAt (crashS s keep torn) d a = crC s.row keep torn (secAt s d a) d a s.row.length := by
  rw [← crK_sec s.row keep torn s h d a s.row.length (Nat.le_refl _)]
  unfold secAt crashS
  simp only
  rw [List.getElem?_map]
  cases (crK s.row keep torn s s.row.length).1.devs[d.toNat]? with
  | none => rfl
  | some q => rfl
theorem crC_last (l : List Wt) (keep : List Bool) (torn : Nat) (c : Sc) (d a : Int) : ∀ k, k ≤ l.length → (crC l keep torn c d a k).last = if lastAt (l.take k) d a = none then c.last else none
  | 0, _ => by simp [crC, lastAt]
  | k + 1, hk => by
    have hlt : k < l.length := by omega
    have ih := crC_last l keep torn c d a k (by omega)
    rw [crC_at (List.getElem?_eq_getElem hlt), List.take_succ_eq_append_getElem hlt, lastAt_append]
    by_cases h2 : d.toNat = l[k].dev.toNat ∧ a.toNat = l[k].at'.toNat
    · rw [if_pos h2, if_pos h2, if_neg (by simp)]
    · rw [if_neg h2, if_neg h2]
      exact ih
theorem crC_end {l : List Wt} (keep : List Bool) (torn : Nat) {c : Sc} {d a : Int} (h : c.last = lastAt l d a) : (crC l keep torn c d a l.length).last = none := by
  rw [crC_last l keep torn c d a _ (Nat.le_refl _), List.take_length]
  split
  · rename_i h2; rw [h, h2]
  · rfl
/-- Nothing stays. -/
theorem crT_nil (l : List Wt) : ∀ k, crT l [] 0 k = 0
  | 0 => rfl
  | k + 1 => by
    unfold crT
    split
    · exact crT_nil l k
    · simp
theorem crC_nil (l : List Wt) (c : Sc) (d a : Int) : ∀ k, (crC l [] 0 c d a k).firm = c.firm
  | 0 => rfl
  | k + 1 => by
    have ih := crC_nil l c d a k
    cases e : l[k]? with
    | none => unfold crC; rw [e]; exact ih
    | some x =>
      rw [crC_at e]
      split
      · have : crN l [] 0 k = 0 := by unfold crN; rw [crT_nil]; simp
        rw [this, mixB_nil]
        exact ih
      · exact ih
/-- The first and the last byte. -/
def Ends (P : UInt8 → Prop) (f : FB) : Prop := ∃ b0 b1, P b0 ∧ P b1 ∧ f.1[0]? = some b0 ∧ f.1[255]? = some b1
theorem ends_of {P : UInt8 → Prop} {b : UInt8} (h : P b) : Ends P (ofF b) := ⟨b, b, h, h, by simp [ofF, ofL], by simp [ofF, ofL]⟩
theorem ends_mix {P : UInt8 → Prop} {f : FB} {b : UInt8} {n : Nat} (hf : Ends P f) (hb : P b) (hn : n ≤ 256) : Ends P (mixB f (ofF b) n) := by
  by_cases h256 : n = 256
  · subst h256; rw [mixB_all]; exact ends_of hb
  by_cases h0 : n = 0
  · subst h0; rw [mixB_nil]; exact hf
  obtain ⟨b0, b1, h1, h2, h3, h4⟩ := hf
  have hl : ((ofF b).1.take n).length = n := by rw [List.length_take, (ofF b).2]; omega
  refine ⟨b, b1, hb, h2, ?_, ?_⟩
  · show ((ofF b).1.take n ++ f.1.drop n)[0]? = _
    rw [List.getElem?_append_left (by omega), List.getElem?_take_of_lt (by omega)]
    simp [ofF, ofL]
  · show ((ofF b).1.take n ++ f.1.drop n)[255]? = _
    rw [List.getElem?_append_right (by omega), hl, List.getElem?_drop]
    rw [show n + (255 - n) = 255 by omega]
    exact h4
theorem crT_le (l : List Wt) (keep : List Bool) (torn : Nat) : ∀ k, crT l keep torn k ≤ torn
  | 0 => Nat.le_refl _
  | k + 1 => by
    have ih := crT_le l keep torn k
    unfold crT
    split
    · exact ih
    · split
      · exact ih
      · exact Nat.zero_le _
theorem crC_ends {l : List Wt} (keep : List Bool) {torn : Nat} (ht : torn ≤ 256) {c : Sc} {d a : Int} {P : UInt8 → Prop} (hc : ∃ b, P b ∧ c.firm = ofF b) (hl : ∀ x ∈ l, d.toNat = x.dev.toNat ∧ a.toNat = x.at'.toNat → ∃ b, P b ∧ x.b = ofF b) : ∀ k, k ≤ l.length → Ends P (crC l keep torn c d a k).firm
  | 0, _ => by obtain ⟨b, h1, h2⟩ := hc; show Ends P c.firm; rw [h2]; exact ends_of h1
  | k + 1, hk => by
    have hlt : k < l.length := by omega
    have ih := crC_ends keep ht hc hl k (by omega)
    rw [crC_at (List.getElem?_eq_getElem hlt)]
    by_cases h2 : d.toNat = l[k].dev.toNat ∧ a.toNat = l[k].at'.toNat
    · rw [if_pos h2]
      obtain ⟨b, h3, h4⟩ := hl l[k] (List.getElem_mem hlt) h2
      simp only
      rw [h4]
      refine ends_mix ih h3 ?_
      unfold crN
      split
      · exact Nat.le_refl _
      · exact Nat.le_trans (crT_le l keep torn k) ht
    · rw [if_neg h2]; exact ih
theorem crT_zero {l : List Wt} {keep : List Bool} {torn k : Nat} (h : crT l keep torn k = 0) : ∀ j, crT l keep torn (k + j) = 0
  | 0 => h
  | j + 1 => by
    have ih := crT_zero h j
    show crT l keep torn ((k + j) + 1) = 0
    unfold crT
    split
    · exact ih
    · split
      · exact ih
      · rfl
theorem crN_one {l : List Wt} {keep : List Bool} {torn j k : Nat} (hj : j < l.length) (hjk : j < k) (h1 : crN l keep torn j ≠ 256) (h3 : crN l keep torn k ≠ 256) : crN l keep torn k = 0 := by
  unfold crN at h1 h3 ⊢
  by_cases hk : keep[k]? = some true
  · rw [if_pos hk] at h3; exact absurd rfl h3
  · rw [if_neg hk]
    by_cases hj2 : keep[j]? = some true
    · rw [if_pos hj2] at h1; exact absurd rfl h1
    · have h0 : crT l keep torn (j + 1) = 0 := by rw [crT_at (List.getElem?_eq_getElem hj), if_neg hj2]
      have := crT_zero h0 (k - (j + 1))
      rwa [show j + 1 + (k - (j + 1)) = k by omega] at this
/-- A sector that is odd was torn. -/
theorem crC_odd {l : List Wt} {keep : List Bool} {torn : Nat} {c : Sc} {d a : Int} (hc : ∃ b, c.firm = ofF b) (hl : ∀ x ∈ l, ∃ b, x.b = ofF b) : ∀ k, k ≤ l.length → (∃ b, (crC l keep torn c d a k).firm = ofF b) ∨ ∃ j x, j < k ∧ l[j]? = some x ∧ d.toNat = x.dev.toNat ∧ a.toNat = x.at'.toNat ∧ crN l keep torn j ≠ 0 ∧ crN l keep torn j ≠ 256
  | 0, _ => .inl hc
  | k + 1, hk => by
    have hlt : k < l.length := by omega
    have e := List.getElem?_eq_getElem hlt
    have ih : (∃ b, (crC l keep torn c d a k).firm = ofF b) ∨ ∃ j x, j < k + 1 ∧ l[j]? = some x ∧ d.toNat = x.dev.toNat ∧ a.toNat = x.at'.toNat ∧ crN l keep torn j ≠ 0 ∧ crN l keep torn j ≠ 256 := by
      rcases crC_odd hc hl k (by omega) with h | ⟨j, x, h1, h2⟩
      · exact .inl h
      · exact .inr ⟨j, x, by omega, h2⟩
    rw [crC_at e]
    by_cases h2 : d.toNat = l[k].dev.toNat ∧ a.toNat = l[k].at'.toNat
    · rw [if_pos h2]
      simp only
      obtain ⟨b, hb⟩ := hl l[k] (List.getElem_mem hlt)
      by_cases h0 : crN l keep torn k = 0
      · rw [h0, mixB_nil]; exact ih
      · by_cases h256 : crN l keep torn k = 256
        · rw [h256, mixB_all]; exact .inl ⟨b, hb⟩
        · exact .inr ⟨k, l[k], by omega, e, h2.1, h2.2, h0, h256⟩
    · rw [if_neg h2]; exact ih
theorem crC_two {l : List Wt} {keep : List Bool} {torn : Nat} {c c' : Sc} {d a d' a' : Int} (hc : ∃ b, c.firm = ofF b) (hc' : ∃ b, c'.firm = ofF b) (hl : ∀ x ∈ l, ∃ b, x.b = ofF b)
    (h : ¬ ∃ b, (crC l keep torn c d a l.length).firm = ofF b) (h' : ¬ ∃ b, (crC l keep torn c' d' a' l.length).firm = ofF b) : d.toNat = d'.toNat ∧ a.toNat = a'.toNat ∧ l ≠ [] := by
  rcases crC_odd hc hl l.length (Nat.le_refl _) with g | ⟨j, x, h1, h2, h3, h4, h5, h6⟩
  · exact absurd g h
  rcases crC_odd hc' hl l.length (Nat.le_refl _) with g | ⟨k, y, k1, k2, k3, k4, k5, k6⟩
  · exact absurd g h'
  have ejk : j = k := by
    rcases Nat.lt_trichotomy j k with hjk | hjk | hjk
    · exact absurd (crN_one h1 hjk h6 k6) k5
    · exact hjk
    · exact absurd (crN_one k1 hjk k6 h6) h5
  subst ejk
  rw [h2] at k2
  cases k2
  exact ⟨h3.trans k3.symm, h4.trans k4.symm, fun e => by rw [e] at h1; simp at h1⟩
end Go.Proofs.YtdebnikolhhmgaaDoor

namespace Go.Proofs.YtdebnikolhhmgaaDoor
open Go.RowKit
set_option linter.unusedVariables false
set_option linter.unusedSimpArgs false
set_option maxRecDepth 100000

open Kr (OwnE SlE Enco RowTys)
theorem crK_n (l : List Wt) (keep : List Bool) (torn : Nat) (s : St) : ∀ k, (crK l keep torn s k).1.n = s.n
  | 0 => rfl
  | k + 1 => by
    have ih := crK_n l keep torn s k
    unfold crK
    split
    · exact ih
    · split
      · exact (setD_row _ _ _).2.1.trans ih
      · exact (setD_row _ _ _).2.1.trans ih
theorem crK_fl (l : List Wt) (keep : List Bool) (torn : Nat) (s : St) (h : ∀ q ∈ s.devs, q.f = 0) : ∀ k, ∀ q ∈ (crK l keep torn s k).1.devs, q.f = 0
  | 0 => h
  | k + 1 => by
    have ih := crK_fl l keep torn s h k
    unfold crK
    split
    · exact ih
    · split
      · exact settle_fl _ _ ih
      · exact settle_fl _ _ ih
theorem Jn.crash0 {s : St} {firm last : Nat → Nat → UInt8} (h : Jn s firm last) (keep : List Bool) (torn : Nat) : (crashS s keep torn).n = 8 ∧ szs (crashS s keep torn) = [8, 8] ∧ ∀ q ∈ (crashS s keep torn).devs, q.f = 0 := by
  have hz := crK_szs s.row keep torn s s.row.length
  refine ⟨(crK_n _ _ _ _ _).trans h.n, ?_, fun q hq => ?_⟩
  · show ((crK s.row keep torn s s.row.length).1.devs.map endQ).map (fun q => q.secs.length) = _
    rw [List.map_map]
    exact (show _ = szs (crK s.row keep torn s s.row.length).1 from rfl).trans (hz.trans h.sz)
  · obtain ⟨p, hp, rfl⟩ := List.mem_map.1 (show q ∈ (crK s.row keep torn s s.row.length).1.devs.map endQ from hq)
    show p.f &&& 241 = 0
    rw [crK_fl _ _ _ _ h.fl _ p hp]
    rfl
/-- The count of what holds below k. -/
def cntB (p : Nat → Bool) : Nat → Nat
  | 0 => 0
  | k + 1 => cntB p k + (if p k = true then 1 else 0)
theorem cntB_none {p : Nat → Bool} : ∀ k, (∀ i, i < k → p i = false) → cntB p k = 0
  | 0, _ => rfl
  | k + 1, h => by
    unfold cntB
    rw [cntB_none k (fun i hi => h i (by omega)), h k (by omega)]
    rfl
theorem cntB_one {p : Nat → Bool} : ∀ k, (∀ i j, i < k → j < k → p i = true → p j = true → i = j) → cntB p k ≤ 1
  | 0, _ => by simp [cntB]
  | k + 1, h => by
    unfold cntB
    by_cases e : p k = true
    · rw [if_pos e, cntB_none k (fun i hi => by
        cases e2 : p i with
        | false => rfl
        | true => have := h i k (by omega) (by omega) e2 e; omega)]
      simp
    · rw [if_neg e]
      have := cntB_one k (fun i j hi hj => h i j (by omega) (by omega))
      omega
def oddB (l : List UInt8) : Bool := !(l == ofL (l.headD 0))
theorem oddB_of (b : UInt8) : oddB (ofL b) = false := by
  unfold oddB ofL
  simp
def oddAt (s : St) (i : Nat) : Bool := oddB (tellAt s ((i / 8 : Nat) : Int) ((i % 8 : Nat) : Int))
/-- What is so behind a crash. -/
structure Cz (s : St) (P : Nat → Nat → UInt8 → Prop) (none : Bool) : Prop where
  pk : ∀ d a : Nat, d < 2 → a < 8 → pkR s d a = .none
  tl : ∀ d a : Nat, d < 2 → a < 8 → ∃ b0 b1, P d a b0 ∧ P d a b1 ∧ (tellAt s d a).length = 256 ∧ (tellAt s d a)[0]? = some b0 ∧ (tellAt s d a)[255]? = some b1
  one : cntB (oddAt s) 16 ≤ 1
  non : none = true → cntB (oddAt s) 16 = 0
  row : s.row = []
theorem Lz.crash {s : St} {firm last : Nat → Nat → UInt8} {A : Nat → Nat → UInt8 → Prop} (h : Lz s firm last A) (keep : List Bool) {torn : Int} (h0 : 0 ≤ torn) (h1 : torn ≤ 255) :
    (crR s keep torn).1 = 0 ∧ Cz (crR s keep torn).2 (fun d a b => b = firm d a ∨ A d a b) (s.row.isEmpty) := by
  have e : crR s keep torn = (0, crashS s keep torn.toNat) := by
    unfold crR
    rw [mRes_none (by show nA _ = .none; rw [decide_eq_true h0, decide_eq_true h1]; rfl)]
  rw [e]
  refine ⟨rfl, ?_⟩
  obtain ⟨j1, j2, j3⟩ := h.j.crash0 keep torn.toNat
  obtain ⟨t, ht⟩ : ∃ t, crashS s keep torn.toNat = t := ⟨_, rfl⟩
  have hsec : ∀ d a : Nat, secAt t d a = crC s.row keep torn.toNat (secAt s d a) d a s.row.length := fun d a => by rw [← ht]; exact crash_sec h.j.rw keep torn.toNat d a
  have hout : t.out = false := by rw [← ht]; rfl
  have hrow : t.row = [] := by rw [← ht]; rfl
  rw [ht] at j1 j2 j3 ⊢
  have hlen : t.devs.length = 2 := by
    have := congrArg List.length j2
    simpa [szs] using this
  have htell : ∀ d a : Nat, d < 2 → a < 8 → tellAt t d a = (crC s.row keep torn.toNat (secAt s d a) d a s.row.length).firm.1 := fun d a hd ha => by
    have hl := crC_end keep torn.toNat (h.j.sec d a hd ha).2.1
    unfold tellAt tell
    rw [hsec, hl]
  have hsrc : ∀ (d a : Nat), ∀ x ∈ s.row, (d : Int).toNat = x.dev.toNat ∧ (a : Int).toNat = x.at'.toNat → ∃ b, (b = firm d a ∨ A d a b) ∧ x.b = ofF b := fun d a x hx he => by
    obtain ⟨d', a', b, rfl, hA⟩ := h.src x hx
    obtain ⟨e1, e2⟩ := he
    simp only [Int.toNat_natCast] at e1 e2
    subst e1; subst e2
    exact ⟨b, .inr hA, rfl⟩
  have hall : ∀ x ∈ s.row, ∃ b, x.b = ofF b := fun x hx => by
    obtain ⟨d', a', b, rfl, _⟩ := h.src x hx
    exact ⟨b, rfl⟩
  have hun : ∀ i, i < 16 → oddAt t i = true → ¬ ∃ b, (crC s.row keep torn.toNat (secAt s ((i / 8 : Nat) : Int) ((i % 8 : Nat) : Int)) ((i / 8 : Nat) : Int) ((i % 8 : Nat) : Int) s.row.length).firm = ofF b := fun i hi ho ⟨b, hb⟩ => by
    unfold oddAt at ho
    rw [htell _ _ (by omega) (by omega), hb] at ho
    rw [show (ofF b).1 = ofL b from rfl, oddB_of] at ho
    cases ho
  have hc : ∀ i, i < 16 → ∃ b, (secAt s ((i / 8 : Nat) : Int) ((i % 8 : Nat) : Int)).firm = ofF b := fun i hi => ⟨_, (h.j.sec (i / 8) (i % 8) (by omega) (by omega)).1⟩
  refine ⟨fun d a hd ha => ?_, fun d a hd ha => ?_, ?_, fun hn => ?_, hrow⟩
  · have e0 : nR t = .none := by unfold nR; rw [hout]; rfl
    have e1 : nS t d a = .none := by
      unfold nS okD okA
      rw [hlen, j1, if_pos (by simp; omega), if_pos (by simp; omega)]
    unfold pkR
    rw [dCons_none e0, dCons_none e1]
    show nT t d = .none
    unfold nT gone hasF
    cases e : t.devs[(d : Int).toNat]? with
    | none => rfl
    | some q =>
      have := j3 q (List.mem_of_getElem? e)
      simp [this]
  · obtain ⟨b0, b1, p0, p1, q0, q1⟩ := crC_ends (l := s.row) keep (torn := torn.toNat) (by omega) (c := secAt s d a) (d := (d : Int)) (a := (a : Int)) (P := fun b => b = firm d a ∨ A d a b) ⟨firm d a, .inl rfl, (h.j.sec d a hd ha).1⟩ (hsrc d a) s.row.length (Nat.le_refl _)
    rw [htell d a hd ha]
    exact ⟨b0, b1, p0, p1, (crC s.row keep torn.toNat (secAt s d a) d a s.row.length).firm.2, q0, q1⟩
  · refine cntB_one 16 fun i j hi hj h2 h3 => ?_
    obtain ⟨e1, e2, _⟩ := crC_two (hc i hi) (hc j hj) hall (hun i hi h2) (hun j hj h3)
    simp only [Int.toNat_natCast] at e1 e2
    omega
  · refine cntB_none 16 fun i hi => ?_
    cases e : oddAt t i with
    | false => rfl
    | true =>
      obtain ⟨_, _, e3⟩ := crC_two (hc i hi) (hc i hi) hall (hun i hi e) (hun i hi e)
      exact absurd (List.isEmpty_iff.1 hn) e3
end Go.Proofs.YtdebnikolhhmgaaDoor

namespace Go.Proofs.YtdebnikolhhmgaaDoor
open Go.RowKit
set_option linter.unusedVariables false
set_option linter.unusedSimpArgs false
set_option maxRecDepth 100000

open Kr (OwnE SlE Enco RowTys)
def zf : Nat → Nat → UInt8 := fun _ _ => 0
section
variable {lo : Nat} {w : World} {sn : Nat → Addr} {g : Nat}
end
end Go.Proofs.YtdebnikolhhmgaaDoor

namespace Go.Proofs.YtdebnikolhhmgaaDoor
open Go.RowKit
set_option linter.unusedVariables false
set_option linter.unusedSimpArgs false
set_option maxRecDepth 100000

open Kr (OwnE SlE Enco RowTys)
theorem zArr : (#[Value.int IntKind.u8 0, Value.int IntKind.u8 0, Value.int IntKind.u8 0, Value.int IntKind.u8 0, Value.int IntKind.u8 0, Value.int IntKind.u8 0, Value.int IntKind.u8 0, Value.int IntKind.u8 0, Value.int IntKind.u8 0, Value.int IntKind.u8 0, Value.int IntKind.u8 0, Value.int IntKind.u8 0, Value.int IntKind.u8 0, Value.int IntKind.u8 0, Value.int IntKind.u8 0, Value.int IntKind.u8 0] : Array Value) = (cel zf).toArray := by kernel_rfl
theorem Bx.two (w : World) : Bx ((w.alloc (.cells #[Value.int IntKind.u8 0, Value.int IntKind.u8 0, Value.int IntKind.u8 0, Value.int IntKind.u8 0, Value.int IntKind.u8 0, Value.int IntKind.u8 0, Value.int IntKind.u8 0, Value.int IntKind.u8 0, Value.int IntKind.u8 0, Value.int IntKind.u8 0, Value.int IntKind.u8 0, Value.int IntKind.u8 0, Value.int IntKind.u8 0, Value.int IntKind.u8 0, Value.int IntKind.u8 0, Value.int IntKind.u8 0] 57)).alloc (.cells #[Value.int IntKind.u8 0, Value.int IntKind.u8 0, Value.int IntKind.u8 0, Value.int IntKind.u8 0, Value.int IntKind.u8 0, Value.int IntKind.u8 0, Value.int IntKind.u8 0, Value.int IntKind.u8 0, Value.int IntKind.u8 0, Value.int IntKind.u8 0, Value.int IntKind.u8 0, Value.int IntKind.u8 0, Value.int IntKind.u8 0, Value.int IntKind.u8 0, Value.int IntKind.u8 0, Value.int IntKind.u8 0] 57)) w.heap.size zf ∧ Bx ((w.alloc (.cells #[Value.int IntKind.u8 0, Value.int IntKind.u8 0, Value.int IntKind.u8 0, Value.int IntKind.u8 0, Value.int IntKind.u8 0, Value.int IntKind.u8 0, Value.int IntKind.u8 0, Value.int IntKind.u8 0, Value.int IntKind.u8 0, Value.int IntKind.u8 0, Value.int IntKind.u8 0, Value.int IntKind.u8 0, Value.int IntKind.u8 0, Value.int IntKind.u8 0, Value.int IntKind.u8 0, Value.int IntKind.u8 0] 57)).alloc (.cells #[Value.int IntKind.u8 0, Value.int IntKind.u8 0, Value.int IntKind.u8 0, Value.int IntKind.u8 0, Value.int IntKind.u8 0, Value.int IntKind.u8 0, Value.int IntKind.u8 0, Value.int IntKind.u8 0, Value.int IntKind.u8 0, Value.int IntKind.u8 0, Value.int IntKind.u8 0, Value.int IntKind.u8 0, Value.int IntKind.u8 0, Value.int IntKind.u8 0, Value.int IntKind.u8 0, Value.int IntKind.u8 0] 57)) (w.heap.size + 1) zf := by
  rw [zArr]
  refine ⟨heap_alloc_lt (heap_alloc_new _ _), ?_⟩
  have h := heap_alloc_new (w.alloc (.cells (cel zf).toArray 57)) (.cells (cel zf).toArray 57)
  rwa [show (w.alloc (.cells (cel zf).toArray 57)).heap.size = w.heap.size + 1 from Array.size_push _] at h
section
variable {lo : Nat} {w : World} {sn : Nat → Addr}
end
end Go.Proofs.YtdebnikolhhmgaaDoor

namespace Go.Proofs.YtdebnikolhhmgaaDoor
open Go.RowKit
set_option linter.unusedVariables false
set_option linter.unusedSimpArgs false
set_option maxRecDepth 100000

open Kr (OwnE SlE Enco RowTys)
/-- The device 1 of two of eight sectors. -/
structure Ap (s : St) (firm last : Nat → UInt8) : Prop where
  n : s.n = 8
  len : s.devs.length = 2
  out : s.out = false
  set : s.set = false
  dev : ∃ q, s.devs[1]? = some q ∧ q.f = 0 ∧ q.secs.length = 8
  row : ∀ x ∈ s.row, 0 ≤ x.dev
  sec : ∀ a : Nat, a < 8 → (secAt s 1 a).firm = ofF (firm a) ∧ (secAt s 1 a).last = lastAt s.row 1 a ∧ tell (secAt s 1 a) = ofF (last a)
section
variable {s s' : St} {firm last : Nat → UInt8}
theorem Ap.same (h : Ap s firm last) (e1 : s'.n = s.n) (e2 : s'.devs.length = s.devs.length) (e3 : s'.out = s.out) (e4 : s'.set = s.set) (e5 : s'.devs[1]? = s.devs[1]?) (e6 : ∀ a : Nat, lastAt s'.row 1 a = lastAt s.row 1 a) (e7 : ∀ x ∈ s'.row, 0 ≤ x.dev) : Ap s' firm last := by
  have ha : ∀ a : Nat, secAt s' 1 a = secAt s 1 a := fun a => by
    unfold secAt
    rw [show (1 : Int).toNat = 1 from rfl, e5]
  refine ⟨e1.trans h.n, e2.trans h.len, e3.trans h.out, e4.trans h.set, by rw [e5]; exact h.dev, e7, fun a h8 => ?_⟩
  rw [ha, e6]
  exact h.sec a h8
theorem Ap.setD0 (h : Ap s firm last) (u : Dv → Dv) : Ap (setD s 0 u) firm last := by
  unfold setD
  cases e : s.devs[(0 : Int).toNat]? with
  | none => exact h
  | some q => exact h.same rfl (by simp) rfl rfl (List.getElem?_set_ne (by decide)) (fun _ => rfl) h.row
theorem Ap.rows (h : Ap s firm last) (r : List Wt) (e6 : ∀ a : Nat, lastAt r 1 a = lastAt s.row 1 a) (e7 : ∀ x ∈ r, 0 ≤ x.dev) : Ap { s with row := r } firm last := h.same rfl rfl rfl rfl rfl e6 e7
theorem Ap.step (h : Ap s firm last) : (nStep s).1 = none ∧ Ap (nStep s).2 firm last := by
  unfold nStep
  rw [if_neg (by rw [h.set]; simp)]
  exact ⟨rfl, h.same rfl rfl rfl rfl rfl (fun _ => rfl) h.row⟩
theorem Ap.lay0 (h : Ap s firm last) (a : Int) (b : FB) : Ap (layS s 0 a b) firm last := by
  have h1 : Ap { s with row := s.row ++ [⟨0, a, b⟩] } firm last := h.rows _ (fun a' => by
    rw [lastAt_append, if_neg (by simp)]) fun x hx => by
    rcases List.mem_append.1 hx with hx | hx
    · exact h.row x hx
    · rw [List.mem_singleton.1 hx]; exact Int.le_refl _
  exact h1.setD0 _
theorem Ap.settle0 (h : Ap s firm last) (x : Wt) (n : Nat) (hx : x.dev = 0) : Ap (settleS s x n) firm last := by
  unfold settleS setSec
  rw [hx]
  exact h.setD0 _
theorem Ap.settles0 : ∀ (l : List Wt) (s : St), (∀ x ∈ l, x.dev = 0) → Ap s firm last → Ap (settles l s) firm last
  | [], s, _, h => h
  | x :: l, s, hl, h => Ap.settles0 l (settleS s x 256) (fun y hy => hl y (by simp [hy])) (h.settle0 x 256 (hl x (by simp)))
theorem Ap.taken0 (h : Ap s firm last) : Ap (takenS s 0) firm last := h.rows _ (fun a => by
  rw [show (s.row.filter fun x => !(x.dev == (0 : Int))) = s.row.filter (fun x => !(x.dev == ((0 : Nat) : Int))) from rfl, lastAt_ndev s.row 0 1 a h.row]
  simp) fun x hx => h.row x (List.mem_filter.1 hx).1
theorem Ap.flush0 (h : Ap s firm last) : Ap (flushS s 0) firm last := Ap.settles0 _ _ (fun x hx => by
  have := (List.mem_filter.1 hx).2
  simpa using this) h.taken0
theorem Ap.wrK0 (h : Ap s firm last) (a : Int) (l : List UInt8) : Ap (wrK s 0 a l) firm last := by
  unfold wrK
  split
  · unfold wrS
    split
    · exact h.setD0 _
    · exact (show Ap (usedS s 0) firm last from h.setD0 _).lay0 _ _
  · exact h
theorem Ap.wrR (h : Ap s firm last) (a : Int) (l : List UInt8) : Ap (wrR s 0 a l).2 firm last := by
  have h2 := dCons_ind (P := fun s => Ap s firm last) (r1 := (nR s, s)) h (dCons_ind (P := fun s => Ap s firm last) (r1 := (nS s 0 a, s)) h (dCons_ind (P := fun s => Ap s firm last) (r1 := (nA ((l.length : Int) == 256), s)) h (dCons_ind (P := fun s => Ap s firm last) (r1 := (nT s 0, s)) (r := nStep s) h h.step.2)))
  exact mRes_ind (P := fun s => Ap s firm last) h2 fun _ => h2.wrK0 a l
theorem Ap.flR (h : Ap s firm last) : Ap (flR s 0).2 firm last := by
  have h2 := dCons_ind (P := fun s => Ap s firm last) (r1 := (nR s, s)) h (dCons_ind (P := fun s => Ap s firm last) (r1 := (nD s 0, s)) h (dCons_ind (P := fun s => Ap s firm last) (r1 := (nT s 0, s)) (r := nStep s) h h.step.2))
  exact mRes_ind (P := fun s => Ap s firm last) h2 fun _ => h2.flush0
theorem Ap.nFail (h : Ap s firm last) : Ap (nFail s 0).2 firm last := by
  unfold YtdebnikolhhmgaaDoor.nFail
  split
  · exact h.setD0 _
  · exact h
theorem Ap.rdR (h : Ap s firm last) (a : Int) : Ap (rdR s 0 a).2 firm last :=
  dCons_ind (P := fun s => Ap s firm last) h (dCons_ind (P := fun s => Ap s firm last) h (dCons_ind (P := fun s => Ap s firm last) h h.nFail))
theorem Ap.loR (h : Ap s firm last) : Ap (loR s 0).2 firm last := by
  have h2 := dCons_ind (P := fun s => Ap s firm last) (r1 := (nD s 0, s)) (r := (nT s 0, s)) h h
  exact mRes_ind (P := fun s => Ap s firm last) h2 fun _ => h2.setD0 _
theorem Ap.stR (h : Ap s firm last) (a : Int) : Ap (stR s 0 a).2 firm last := by
  have h2 := dCons_ind (P := fun s => Ap s firm last) (r1 := (nS s 0 a, s)) (r := (nT s 0, s)) h h
  exact mRes_ind (P := fun s => Ap s firm last) h2 fun _ => h2.setD0 _
/-- What the device 1 tells. -/
theorem Ap.read (h : Ap s firm last) {a : Nat} (ha : a < 8) : YtdebnikolhhmgaaDoor.rdR s 1 a = (none, s) ∧ tellAt s 1 a = ofL (last a) := by
  obtain ⟨q, hq, hf, _⟩ := h.dev
  have hb : ∀ x, hasF s 1 x = false := fun x => by
    unfold hasF
    rw [show (1 : Int).toNat = 1 from rfl, hq]
    simp [hf]
  have e0 : nR s = none := by unfold nR; rw [h.out]; rfl
  have e1 : nS s 1 a = none := by
    unfold nS okD okA
    rw [h.len, h.n, if_pos (by simp), if_pos (by simp; omega)]
  have e2 : nT s 1 = none := by unfold nT gone; rw [hb]; rfl
  constructor
  · unfold YtdebnikolhhmgaaDoor.rdR
    rw [dCons_none e0, dCons_none e1, dCons_none e2]
    unfold YtdebnikolhhmgaaDoor.nFail
    rw [hb]
    rfl
  · unfold tellAt
    rw [(h.sec a ha).2.2]
    rfl
end
theorem settle_f (s : St) (x : Wt) (n d : Nat) : ((settleS s x n).devs[d]?).map (·.f) = (s.devs[d]?).map (·.f) := by
  unfold settleS setSec setD
  cases e : s.devs[x.dev.toNat]? with
  | none => rfl
  | some q =>
    simp only
    by_cases hd : x.dev.toNat = d
    · subst hd
      rw [List.getElem?_set_self (List.getElem?_eq_some_iff.1 e).1, e]
      rfl
    · rw [List.getElem?_set_ne hd]
theorem crK_f (l : List Wt) (keep : List Bool) (torn : Nat) (s : St) (d : Nat) : ∀ k, ((crK l keep torn s k).1.devs[d]?).map (·.f) = (s.devs[d]?).map (·.f)
  | 0 => rfl
  | k + 1 => by
    have ih := crK_f l keep torn s d k
    unfold crK
    split
    · exact ih
    · split
      · exact (settle_f _ _ _ _).trans ih
      · exact (settle_f _ _ _ _).trans ih
section
variable {s s' : St} {firm last : Nat → UInt8}
/-- Behind a crash that keeps nothing. -/
theorem Ap.crash (h : Ap s firm last) (hw : WfR s) : (YtdebnikolhhmgaaDoor.crR s [] 0).1 = 0 ∧ Ap (YtdebnikolhhmgaaDoor.crR s [] 0).2 firm firm := by
  have e : YtdebnikolhhmgaaDoor.crR s [] 0 = (0, crashS s [] 0) := by
    unfold YtdebnikolhhmgaaDoor.crR
    rw [mRes_none (by rfl)]
    rfl
  rw [e]
  refine ⟨rfl, ?_⟩
  obtain ⟨q, hq, hf, hs8⟩ := h.dev
  have hz := crK_szs s.row [] 0 s s.row.length
  have hn := crK_f s.row [] 0 s 1 s.row.length
  rw [hq] at hn
  obtain ⟨p, hp, hpf⟩ : ∃ p, (crK s.row [] 0 s s.row.length).1.devs[1]? = some p ∧ p.f = q.f := by
    cases e : (crK s.row [] 0 s s.row.length).1.devs[1]? with
    | none => rw [e] at hn; cases hn
    | some p => rw [e] at hn; exact ⟨p, rfl, by simpa using hn⟩
  have hp8 : p.secs.length = 8 := by
    have := congrArg (·[1]?) hz
    unfold szs at this
    simp only [List.getElem?_map, hp, hq, Option.map_some, Option.some.injEq] at this
    omega
  have hl : (crK s.row [] 0 s s.row.length).1.devs.length = s.devs.length := by
    have := congrArg List.length hz
    unfold szs at this
    rwa [List.length_map, List.length_map] at this
  have hnn : ∀ k, (crK s.row [] 0 s k).1.n = s.n := fun k => by
    induction k with
    | zero => rfl
    | succ k ih =>
      unfold crK
      split
      · exact ih
      · split
        · exact (setD_row _ _ _).2.1.trans ih
        · exact (setD_row _ _ _).2.1.trans ih
  have hcd : (crashS s [] 0).devs = (crK s.row [] 0 s s.row.length).1.devs.map endQ := rfl
  refine ⟨(hnn _).trans h.n, by rw [hcd, List.length_map, hl]; exact h.len, rfl, rfl, ⟨endQ p, by rw [hcd, List.getElem?_map, hp]; rfl, ?_, hp8⟩, fun x hx => (by cases hx), fun a ha => ?_⟩
  · show p.f &&& 241 = 0
    rw [hpf, hf]
    rfl
  · obtain ⟨s1, s2, s3⟩ := h.sec a ha
    have e1 := crash_sec hw [] 0 1 a
    have e2 : (secAt (crashS s [] 0) 1 a).firm = ofF (firm a) := by rw [e1, crC_nil]; exact s1
    have e3 : (secAt (crashS s [] 0) 1 a).last = none := by rw [e1]; exact crC_end [] 0 s2
    refine ⟨e2, e3, ?_⟩
    unfold tell
    rw [e3]
    exact e2
end
end Go.Proofs.YtdebnikolhhmgaaDoor

namespace Go.Proofs.YtdebnikolhhmgaaDoor
open Go.RowKit
set_option linter.unusedVariables false
set_option linter.unusedSimpArgs false
set_option maxRecDepth 100000

open Kr (OwnE SlE Enco RowTys)
structure WfActs (lo : Nat) (w : World) (x : ActT) : Prop where
  n : -9223372036854775808 ≤ x.2.2.2.1 ∧ x.2.2.2.1 ≤ 9223372036854775807
  m : 0 ≤ x.2.2.2.2.1 ∧ x.2.2.2.2.1 ≤ 255
  b : ∃ l sp, ∀ w', Fa lo w w' → SlB w' x.2.2.2.2.2.1.1 l sp
  k : ∃ l sp, ∀ w', Fa lo w w' → SlE eB 1 w' x.2.2.2.2.2.2.1 l sp
theorem WfActs.at {lo : Nat} {w w' : World} {x : ActT} (h : WfActs lo w x) (f : Fa lo w w') : WfAct w' x := by
  obtain ⟨h1, h2, ⟨l, sp, h3⟩, k, ksp, h4⟩ := h
  exact ⟨h1, h2, ⟨l, sp, h3 w' f⟩, k, ksp, h4 w' f⟩
/-- An act in a block of its own. -/
def AcB (w : World) (b : Nat) (x : ActT) : Prop := w.heap[b]? = some (.cells (eAct x).toArray 25 (0, 0))
theorem AcB.at {w : World} {b : Nat} {x : ActT} (h : AcB w b x) (i : Nat) : w.cell? ⟨b, i, none⟩ = (eAct x)[i]? := by rw [cell_of_heap h, List.getElem?_toArray]
section
variable {lo : Nat} {w : World} {sn : Nat → Addr}
end
end Go.Proofs.YtdebnikolhhmgaaDoor
