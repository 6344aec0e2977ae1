/-
  number; made; what makes needs; demand of what New did not make. No conditions but those that each theorem names. More needs; a step. No conditions but those that each theorem names. Each need at a state; what a call answers that is refused. No conditions but those that each theorem names. An act as it is handed in. No conditions but those that each theorem names. A list of acts, a list of bools as they are handed in. No conditions but those that each theorem names. ArrayFaults: the walk. No conditions but those that each theorem names. Spoil. No conditions but those that each theorem names. What acts of the device 0 leave of the device 1. Plain. No conditions but those that each theorem names. Long of acts; what is kept by Spoil. No conditions but those that each theorem names. ArrayApart: the walk. No conditions but those that each theorem names.
-/
import Derived.Test.YtdebnikolhhmgaaDoorMAa1
import Derived.Test.YtdebnikolhhmgaaDoorMAa2
import Derived.Test.YtdebnikolhhmgaaDoorMAa3
import Derived.Test.YtdebnikolhhmgaaDoorMAa4
import Derived.Test.YtdebnikolhhmgaaDoorMAb1
import Derived.LaidEqlPtr
import Derived.Deep.CutBlock
import Derived.Deep.DeepCutAuto
import Derived.Deep.Slices
import Derived.Shelf.Abstract
import Derived.WalkKit
import Derived.WalkSpells
import Derived.WalkLawsBesides
import Derived.Deep.AppendSrc
import Derived.Laws.CopyOwn
import Derived.Laws.BytesArg
import Derived.Carry
import Derived.Laws.BytesString
import Derived.Lib.Hide
import Derived.Test.YtdebnikolhhmgaaDoorChecked
import Derived.Stop.Asserts
import Derived.LaidEql
import Derived.RowKitTokens
import Derived.WalkHide
import Derived.StillTailTactics
import Derived.OpenShut
import Derived.OrdersHeld
import Derived.BigQuiet
import Derived.Deep.QuietTactic
import Derived.Deep.MidRow
import Derived.Deep.RegionHeld3
import Derived.Deep.RegionLaw
import Derived.Deep.RegionWith
import Derived.Laws.Tables
import Derived.Deep.RegionHeld
import Derived.OwnWalk
import Derived.Test.YtdebnikolhhmgaaDoorTie
import Derived.Test.YtdebnikolhhmgaaDoorCards
import Derived.ProofKit
import Derived.ShutString
import Derived.ChangeOld
import Derived.LaidMore
import Derived.Stop.Joined
import Derived.SevenTiedAt
import Derived.Stop.LaidTwo
import Derived.ChangeSame
namespace Go.Proofs.YtdebnikolhhmgaaDoor
open Go.RowKit
set_option linter.unusedVariables false
set_option linter.unusedSimpArgs false
set_option maxRecDepth 100000

open Kr (OwnE SlE Enco RowTys)
open Go.Extern.Stop Go.Stop Go.Extern
theorem byteOf_any (d : Int) (w : World) : Calls Tryd.prog 55 #[.int .i64 d] w fun e w' => ∃ b1, e = .returned (.func (.func 72) #[] #[.pointer (some ⟨b1, 0, none⟩)]) ∧ w'.heap[b1]? = some (.cells #[.int .i64 d] 3 (0, 0)) ∧ Frm [] w w' := by
  have hmf : ∀ (fn : Fn) (first cap : Array Value) (w : World), (Instr.makeFunc fn first cap).run Tryd.prog w = .ok (.func fn first cap) w := fun _ _ _ _ => rfl
  go_enter Tryd.func55, Tryd.ntmps55
  go_wp2
  go_ret
  exact ⟨_, rfl, heap_alloc_new _ _, (Frm.refl [] w).alloc _⟩
end Go.Proofs.YtdebnikolhhmgaaDoor

namespace Go.Proofs.YtdebnikolhhmgaaDoor
open Go.RowKit
set_option linter.unusedVariables false
set_option linter.unusedSimpArgs false
set_option maxRecDepth 100000

open Kr (OwnE SlE Enco RowTys)
section
variable {lo : Nat} {w : World} {sn : Nat → Addr} {g : Nat} {s : St}
theorem byteOf1_any (p : Int) (b1 : Nat) (hs : Sn w lo sn) (hb : w.cell? ⟨b1, 0, none⟩ = some (.int .i64 p)) :
    Calls Tryd.prog 72 #[ptr g, ptr b1] w fun e w' => Ans sn (if decide (0 ≤ p ∧ p ≤ 255) = true then none else some 3) e ∧ Frm [] w w' := by
  have cg := hs.v 3 (by omega)
  have hin := within_any p 0 255 w.drew
  unfold ptr
  clear hs
  cases ho : decide (0 ≤ p ∧ p ≤ 255)
  · rw [ho] at hin
    clear ho
    go_enter Tryd.func72, Tryd.ntmps72
    go_upto_region 1 with (fail)
    refine wp_region_still_lit (by kernel_rfl) (by kernel_rfl) ?_
    change wpStill _ _ (World.drew _) _ _ _
    repeat still_step
    still_call hin
    repeat still_step
    still_call (unless_false _ _ w.drew)
    repeat still_step
    refine wpStill_nil ?_
    change Exit.then _ _ _ _ (World.drew _)
    go_wp2_with fail
    go_ret
    exact ⟨Ans.some sn _ (by omega), (Frm.refl [] w).drew⟩
  · rw [ho] at hin
    clear ho
    go_enter Tryd.func72, Tryd.ntmps72
    go_upto_region 1 with (fail)
    refine wp_region_still_lit (by kernel_rfl) (by kernel_rfl) ?_
    change wpStill _ _ (World.drew _) _ _ _
    repeat still_step
    still_call hin
    repeat still_step
    still_call (unless_true _ _ w.drew)
    repeat still_step
    refine wpStill_nil ?_
    change Exit.then _ _ _ _ (World.drew _)
    go_wp2_with fail
    go_ret
    exact ⟨Ans.none sn, (Frm.refl [] w).drew⟩
end
end Go.Proofs.YtdebnikolhhmgaaDoor

namespace Go.Proofs.YtdebnikolhhmgaaDoor
open Go.RowKit
set_option linter.unusedVariables false
set_option linter.unusedSimpArgs false
set_option maxRecDepth 100000

open Kr (OwnE SlE Enco RowTys)
def nB (p : Int) : Option Nat := if decide (0 ≤ p ∧ p ≤ 255) = true then none else some 3
section
variable {lo : Nat} {W0 : World} {sn : Nat → Addr} {g : Nat} {s : St}
theorem needB (hs : Sn W0 lo sn) {p : Int} {b : Nat} (h : W0.heap[b]? = some (.cells #[.int .i64 p] 3 (0, 0))) : NeedAt sn lo g W0 (.func (.func 72) #[] #[.pointer (some ⟨b, 0, none⟩)]) s (nB p, s) :=
  need_of Tryd.func72 (by kernel_rfl) (by kernel_rfl) fun W f ha => byteOf1_any p b (hs.fa f) (cell_of h f)
end
end Go.Proofs.YtdebnikolhhmgaaDoor

namespace Go.Proofs.YtdebnikolhhmgaaDoor
open Go.ChangeShapes Go.WideShapes Go.ChangeAt Go.RowKit Go.Deep
set_option linter.unusedVariables false
set_option linter.unusedSimpArgs false
set_option maxRecDepth 100000

theorem cells25 : Tryd.prog.cellsOf 25 = 7 := by kernel_rfl
theorem cells22 : Tryd.prog.cellsOf 22 = 1 := by kernel_rfl
theorem cells23 : Tryd.prog.cellsOf 23 = 1 := by kernel_rfl
end Go.Proofs.YtdebnikolhhmgaaDoor

namespace Go.Proofs.YtdebnikolhhmgaaDoor
open Go.ChangeShapes Go.WideShapes Go.ChangeAt Go.RowKit Go.Deep
set_option linter.unusedVariables false
set_option linter.unusedSimpArgs false
set_option maxRecDepth 100000
open Kr (OwnE SlE Enco RowTys)
open Kr (flt_length flt_append flt_get)
theorem sle_of_trod2 {α H : Type} {en : α → List Value} {k : Nat} {Wf : α → Prop} (E : Enco en k) {t e : TypeId} (y0 : α)
    {enc : TypeId × Value → H} {W : World} {fuel : Nat} {cs : List Value} {x : DataW H × List MemPlace}
    (ht : Tryd.prog.underlying t = some (.slice e)) (hk : Tryd.prog.cellsOf e = k)
    (hd : ∀ (fuel : Nat) cs x, DataW.trod enc Tryd.prog W 0 (fun _ => true) true fuel e cs = some x → ∃ y : α, cs = en y ∧ Wf y)
    (h : DataW.trod enc Tryd.prog W 0 (fun _ => true) true fuel t cs = some x) :
    ∃ a cap l l2, cs = [.slice a (l : List α).length cap] ∧ SlE en k W (.slice a l.length cap) l (Kr.flt en l2) ∧ ∀ x ∈ l, Wf x := by
  rcases open_slice ht h with ⟨rfl, _⟩ | ⟨a, len, cap, m, n, D, Pl, rfl, _, hl, hm, hmm, _, hi⟩
  · exact ⟨none, 0, [], [], rfl, SlE.nil _ _ _, by simp⟩
  · simp at hmm
    subst hmm
    rw [hk] at hi
    have hex : ∀ i, ∃ y : α, i < m → (∀ j, j < k → W.cell? ((a.add (i * k)).add j) = (en y)[j]?) ∧ Wf y := fun i => by
      by_cases hlt : i < m
      · obtain ⟨cs', h1, h2⟩ := hi i hlt
        obtain ⟨y, rfl, hw⟩ := hd _ _ _ h2
        exact ⟨y, fun _ => ⟨(World.cells?_some h1).2.2, hw⟩⟩
      · exact ⟨y0, fun h => absurd h hlt⟩
    obtain ⟨f, hf⟩ := Classical.axiomOfChoice hex
    obtain ⟨L, hL⟩ : ∃ L, L = (List.range m).map f := ⟨_, rfl⟩
    have hLl : L.length = m := by rw [hL]; simp
    have hget : ∀ i (h : i < L.length), L[i] = f i := fun i h => by subst hL; simp
    have htl : (L.take len).length = len := by simp; omega
    have hw : ∀ x ∈ L.take len, Wf x := fun x hx => by
      obtain ⟨i, hi', rfl⟩ := List.getElem_of_mem (List.mem_of_mem_take hx)
      rw [hget]
      exact (hf i (by omega)).2
    by_cases hc : m = 0
    · subst hc
      obtain rfl : len = 0 := by omega
      exact ⟨some a, 0, [], [], rfl, ⟨by rw [flt_length E], .inr (.inl ⟨a, rfl, rfl, rfl⟩)⟩, by simp⟩
    · obtain ⟨b, off, spot⟩ := a
      have h0 := (hf 0 (by omega)).1 0 E.pos
      have hl0 : 0 < (en (f 0)).length := by rw [E.len]; exact E.pos
      rw [List.getElem?_eq_getElem hl0] at h0
      have hspot : spot = none := by simpa [Addr.add] using World.cell?_spot h0
      subst hspot
      have hfl := flt_length E L
      refine ⟨some ⟨b, off, none⟩, m, L.take len, L.drop len, by rw [htl], ?_, hw⟩
      rw [htl]
      refine ⟨by rw [flt_length E, htl], .inr (.inr ⟨b, off, m, by rw [htl], by omega, hm, ?_, fun i u hu => ?_⟩)⟩
      · rw [← flt_append, List.take_append_drop, hfl, hLl]
      · rw [← flt_append, List.take_append_drop] at hu
        have hi2 : i < L.length * k := by
          rcases Nat.lt_or_ge i (L.length * k) with h | h
          · exact h
          · rw [List.getElem?_eq_none (by rw [hfl]; exact h)] at hu; cases hu
        have hq : i / k < L.length := Nat.div_lt_of_lt_mul (by rw [Nat.mul_comm]; exact hi2)
        have hr : i % k < k := Nat.mod_lt _ E.pos
        have e : i / k * k + i % k = i := Nat.div_add_mod' i k
        have g := flt_get E L (i / k) hq (i % k) hr
        rw [e] at g
        rw [g, hget] at hu
        have c := (hf (i / k) (by omega)).1 (i % k) hr
        rw [add_plain, add_plain, Nat.add_assoc, e] at c
        rw [c, hu]


theorem encb : Enco eb 1 := ⟨fun _ => rfl, fun x u hu => by simp [eb] at hu; subst hu; rfl, by omega, fun x y h => by
  simp only [eb, bv, List.cons.injEq, Value.int.injEq, and_true, true_and] at h
  exact UInt8.toNat_inj.1 (by omega)⟩
theorem flt_eb : ∀ l : List UInt8, Kr.flt eb l = bvs l
  | [] => rfl
  | b :: l => by rw [Kr.flt_cons, flt_eb l]; rfl
theorem slb_of_sle {w : World} {v : Value} {l l2 : List UInt8} (h : SlE eb 1 w v l (Kr.flt eb l2)) : SlB w v l l2 := by
  unfold Kr.SlE at h
  rw [flt_eb, flt_eb] at h
  exact h
theorem byte_of_trod {H : Type} {enc : TypeId × Value → H} {W : World} (fuel : Nat) (cs : List Value) (x : DataW H × List MemPlace) (h : DataW.trod enc Tryd.prog W 0 (fun _ => true) true fuel 5 cs = some x) : ∃ y : UInt8, cs = eb y ∧ True := by
  obtain ⟨z, e, _, w⟩ := DataW.trod_int Tryd.underlying5 h
  obtain ⟨h0, h1⟩ := Go.bounds_u8 w
  refine ⟨UInt8.ofNat z.toNat, ?_, trivial⟩
  rw [e]
  unfold eb bv
  rw [UInt8.toNat_ofNat', show ((z.toNat % 2 ^ 8 : Nat) : Int) = z by omega]
theorem encAct : Enco eAct 7 := ⟨fun _ => rfl, fun x u hu => by
    simp [eAct] at hu
    rcases hu with rfl | rfl | rfl | rfl | rfl | rfl | rfl
    · rfl
    · rfl
    · rfl
    · rfl
    · rfl
    · exact x.2.2.2.2.2.1.2
    · exact x.2.2.2.2.2.2.2, by omega, fun x y h => by
    obtain ⟨a, b, c, d, e, f, g⟩ := x
    obtain ⟨a', b', c', d', e', f', g'⟩ := y
    simp only [eAct, List.cons.injEq, Value.int.injEq, true_and, and_true] at h
    obtain ⟨h1, h2, h3, h4, h5, h6, h7⟩ := h
    subst h1; subst h2; subst h3; subst h4; subst h5
    rw [Subtype.ext h6, Subtype.ext h7]⟩
theorem act_of_trod2 {H : Type} {enc : TypeId × Value → H} {W : World} (fuel : Nat) (cs : List Value) (x : DataW H × List MemPlace) (h : DataW.trod enc Tryd.prog W 0 (fun _ => true) true fuel 25 cs = some x) :
    ∃ y : ActT, cs = eAct y ∧ WfAct W y := by
  obtain ⟨xs, n, _, rfl, hl, hlen, hf⟩ := DataW.trod_struct Tryd.underlying25 h
  rw [cells25] at hl
  match xs, hlen with
  | [y0, y1, y2, y3, y4, y5, y6], _ =>
    have t0 : DataW.trod enc Tryd.prog W 0 (fun _ => true) true n 3 ((cs.drop 0).take (Tryd.prog.cellsOf 3)) = some y0 := hf 0 _ rfl
    rw [cells3] at t0
    have t1 : DataW.trod enc Tryd.prog W 0 (fun _ => true) true n 3 ((cs.drop 1).take (Tryd.prog.cellsOf 3)) = some y1 := hf 1 _ rfl
    rw [cells3] at t1
    have t2 : DataW.trod enc Tryd.prog W 0 (fun _ => true) true n 3 ((cs.drop 2).take (Tryd.prog.cellsOf 3)) = some y2 := hf 2 _ rfl
    rw [cells3] at t2
    have t3 : DataW.trod enc Tryd.prog W 0 (fun _ => true) true n 3 ((cs.drop 3).take (Tryd.prog.cellsOf 3)) = some y3 := hf 3 _ rfl
    rw [cells3] at t3
    have t4 : DataW.trod enc Tryd.prog W 0 (fun _ => true) true n 5 ((cs.drop 4).take (Tryd.prog.cellsOf 5)) = some y4 := hf 4 _ rfl
    rw [cells5] at t4
    have t5 : DataW.trod enc Tryd.prog W 0 (fun _ => true) true n 22 ((cs.drop 5).take (Tryd.prog.cellsOf 22)) = some y5 := hf 5 _ rfl
    rw [cells22] at t5
    have t6 : DataW.trod enc Tryd.prog W 0 (fun _ => true) true n 23 ((cs.drop 6).take (Tryd.prog.cellsOf 23)) = some y6 := hf 6 _ rfl
    rw [cells23] at t6
    obtain ⟨z0, e0, _, _⟩ := DataW.trod_int Tryd.underlying3 t0
    obtain ⟨z1, e1, _, _⟩ := DataW.trod_int Tryd.underlying3 t1
    obtain ⟨z2, e2, _, _⟩ := DataW.trod_int Tryd.underlying3 t2
    obtain ⟨z3, e3, _, w3⟩ := DataW.trod_int Tryd.underlying3 t3
    obtain ⟨z4, e4, _, w4⟩ := DataW.trod_int Tryd.underlying5 t4
    obtain ⟨b5, c5, l5, m5, e5, S5, _⟩ := sle_of_trod2 encb 0 Tryd.underlying22 cells5 byte_of_trod t5
    obtain ⟨b6, c6, l6, sp6, e6, S6, _⟩ := sle_of_trod encB false Tryd.underlying23 cells4 bool_of_trod t6
    refine ⟨(z0, z1, z2, z3, z4, ⟨.slice b5 l5.length c5, rfl⟩, ⟨.slice b6 l6.length c6, rfl⟩), ?_, ⟨Go.bounds_i64 w3, Go.bounds_u8 w4, ⟨l5, m5, slb_of_sle S5⟩, ⟨l6, sp6, S6⟩⟩⟩
    have q0 := take_at e0
    have q1 := take_at e1
    have q2 := take_at e2
    have q3 := take_at e3
    have q4 := take_at e4
    have q5 := take_at e5
    have q6 := take_at e6
    apply List.ext_getElem?
    intro i
    match i with
    | 0 => exact q0
    | 1 => exact q1
    | 2 => exact q2
    | 3 => exact q3
    | 4 => exact q4
    | 5 => exact q5
    | 6 => exact q6
    | i + 7 => rw [List.getElem?_eq_none (by omega)]; rfl
theorem open_acts {H : Type} {enc : TypeId × Value → H} {W : World} {r : Reach} {b0 : Nat} {v : Value} {d : DataW H} {p : List MemPlace} (hv : Value.okWide Tryd.prog W r b0 27 v) (h : DataW.Trod enc Tryd.prog W 0 (fun _ => true) true 27 v d p) :
    ∃ l sp, SlE eAct 7 W v l sp ∧ ∀ x ∈ l, WfAct W x := by
  obtain ⟨a, n, c, rfl⟩ := okWide_slice Tryd.underlying27 hv
  obtain ⟨fuel, hf⟩ := h
  obtain ⟨a', cap, l, sp, e, hS, hw⟩ := sle_of_trod encAct (0, 0, 0, 0, 0, ⟨.slice none 0 0, rfl⟩, ⟨.slice none 0 0, rfl⟩) Tryd.underlying27 cells25 act_of_trod2 hf
  have e' : Value.slice a n c = Value.slice a' l.length cap := by simpa [Value.cells] using e
  rw [e']
  exact ⟨l, sp, hS, hw⟩
end Go.Proofs.YtdebnikolhhmgaaDoor

namespace Go.Proofs.YtdebnikolhhmgaaDoor
open Go.RowKit
set_option linter.unusedVariables false
set_option linter.unusedSimpArgs false
set_option maxRecDepth 100000

open Kr (OwnE SlE Enco RowTys)
section
variable {lo : Nat} {w : World} {sn : Nat → Addr} {g K : Nat} {s : St}
theorem rdY_at (hs : Sn w lo sn) (h : Arr lo w g s) (wf : Wf K s) (hK : K ≤ 100000000) (d a : Int) (v : Value) (l sp : List UInt8) (hS : ∀ w', Fa lo w w' → SlB w' v l sp) (hk : rdR s d a = (none, s)) (ht : tellAt s d a = l) :
    Calls Tryd.prog 30 #[.pointer (some ⟨g, 0, none⟩), .int .i64 d, .int .i64 a, v] w fun e w' => e = .returned (.bool true) ∧ Arr lo w' g s ∧ Fa lo w w' := by
  refine (rd_at hs h wf hK d a v l sp hS).mono ?_
  rintro e w' ⟨rfl, a1, f1⟩
  rw [hk] at a1
  exact ⟨by rw [hk, ht]; simp, a1, f1⟩
end
end Go.Proofs.YtdebnikolhhmgaaDoor

namespace Go.Proofs.YtdebnikolhhmgaaDoor
open Go.RowKit
set_option linter.unusedVariables false
set_option linter.unusedSimpArgs false
set_option maxRecDepth 100000

open Kr (OwnE SlE Enco RowTys)
def flipB (f : FB) (i : Nat) (m : UInt8) : FB := ⟨f.1.set i (f.1.getD i 0 ^^^ m), by rw [List.length_set]; exact f.2⟩
def spoilS (s : St) (d a p : Int) (m : UInt8) : St := setSec s d a fun c => ⟨flipB c.firm p.toNat m, c.last⟩
def spR (s : St) (d a p : Int) (m : UInt8) : Int × St := mRes (dCons (nS s d a, s) (dCons (nB p, s) (nT s d, s))) fun s => spoilS s d a p m
theorem SecP.setFirm {lo : Nat} {w : World} {gs cap n : Nat} {l : List Sc} (h : SecP lo w (.slice (some ⟨gs, 0, none⟩) n cap) l) (j : Nat) (hj : j < l.length) (i : Nat) (hi : i < 256) (b : UInt8) (y : FB) (hy : y.1 = l[j].firm.1.set i b) (hfa : Fa lo w (w.setCell ⟨gs, j * 257 + i, none⟩ (bv b))) :
    SecP lo (w.setCell ⟨gs, j * 257 + i, none⟩ (bv b)) (.slice (some ⟨gs, 0, none⟩) n cap) (l.set j ⟨y, l[j].last⟩) := by
  obtain ⟨scs, csp, h1, h2, h3, h4⟩ := h
  have hj2 : j < scs.length := by omega
  have hl : (bvs scs[j].1.1).length = 256 := by rw [bvs_length, scs[j].1.2]
  obtain ⟨e1, e2⟩ := h4 j scs[j] l[j] (List.getElem?_eq_getElem hj2) (List.getElem?_eq_getElem hj)
  refine ⟨_, csp, OwnE.store encS h1 j i hj2 (by omega) (y, scs[j].2) (bv b) (by unfold eS; rw [List.set_append_left _ _ (by omega), hy, e1]; unfold bvs; rw [List.map_set]), h2, by simp [h3], fun k q c hq hc => ?_⟩
  by_cases e : k = j
  · subst e
    rw [List.getElem?_set_self hj2] at hq
    rw [List.getElem?_set_self hj] at hc
    cases hq; cases hc
    exact ⟨rfl, e2.fa hfa⟩
  · rw [List.getElem?_set_ne (fun h => e h.symm)] at hq hc
    obtain ⟨e1, e2⟩ := h4 k q c hq hc
    exact ⟨e1, e2.fa hfa⟩
theorem bits_xor8 (x y : UInt8) : bits BinOp.xor IntKind.u8 (x.toNat : Int) (y.toNat : Int) = ((x ^^^ y).toNat : Int) := by
  have : ∀ a b : Fin 256, bits BinOp.xor IntKind.u8 (a.val : Int) (b.val : Int) = ((a.val ^^^ b.val : Nat) : Int) := by
    intro a b
    exact u8_xor_nat _ _ a.isLt b.isLt
  rw [UInt8.toNat_xor]
  exact this ⟨x.toNat, x.toNat_lt⟩ ⟨y.toNat, y.toNat_lt⟩
section
variable {lo : Nat} {w : World} {sn : Nat → Addr} {g : Nat} {s : St}
set_option maxHeartbeats 8000000 in
theorem Spoil_any (d a p : Int) (m : UInt8) (x : Int) (hx : x = (m.toNat : Int)) (hs : Sn w lo sn) (h : Arr lo w g s) (WF : WfS s) (WD : WfD s) :
    Calls Tryd.prog 17 #[ptr g, .int .i64 d, .int .i64 a, .int .i64 p, .int .u8 x] w (MP lo g (mRes (dCons (nS s d a, s) (dCons (nB p, s) (nT s d, s))) fun s => spoilS s d a p m) w) := by
  have HS := Lib.hid hs
  have AR := Lib.hid h
  have F := Lib.hid (Frm.refl [] w)
  unfold ptr
  clear h hs
  go_enter Tryd.func17, Tryd.ntmps17
  go_wp2_with (first
    | (go_at_call 39; refine (sectorOf_any _ _ _).mono ?_; rintro e w1 ⟨bs1, bs2, rfl, hs1, hs2, f1⟩; have F := Lib.hid (F.out.trans f1 (by simp)); have LS1 := Lib.hid hs1; have LS2 := Lib.hid hs2;  clear hs1 hs2 f1)
    | (go_at_call 55; refine (byteOf_any _ _).mono ?_; rintro e w6 ⟨bb, rfl, hb1, f1⟩; have F := Lib.hid (F.out.trans f1 (by simp)); have LB := Lib.hid hb1; have LS1 := Lib.hid (f1.heap LS1.out (by simp)); have LS2 := Lib.hid (f1.heap LS2.out (by simp)); clear hb1 f1)
    | (go_at_call 40; refine (there_any _ _).mono ?_; rintro e w2 ⟨bt, rfl, ht1, f1⟩; have F := Lib.hid (F.out.trans f1 (by simp)); have LT := Lib.hid ht1; have LS1 := Lib.hid (f1.heap LS1.out (by simp)); have LS2 := Lib.hid (f1.heap LS2.out (by simp)); have LB := Lib.hid (f1.heap LB.out (by simp)); clear ht1 f1))
  refine (demand_any (r := (dCons (nS s d a, s) (dCons (nB p, s) (nT s d, s)))) _ [_, _, _] _ 3 (HS.out.keep0 (F.out.alloc _)) (AR.out.keep0 (F.out.alloc _)) (Fa.refl lo _) (heap_alloc_new _ _) rfl (by simp) (Dem.cons (needS (HS.out.keep0 (F.out.alloc _)) WF ((Frm.refl [] _).alloc _ |>.heap LS1.out (by simp)) ((Frm.refl [] _).alloc _ |>.heap LS2.out (by simp))) fun hq0 => Dem.cons (needB (HS.out.keep0 (F.out.alloc _)) ((Frm.refl [] _).alloc _ |>.heap LB.out (by simp))) fun hq1 => Dem.last (needT (HS.out.keep0 (F.out.alloc _)) ((Frm.refl [] _).alloc _ |>.heap LT.out (by simp)) (nS_ok hq0).1))).mono ?_
  rintro e w9 ⟨h1, h2, h3⟩
  have HS9 := Lib.hid ((HS.out.keep0 (F.out.alloc _)).fa h3)
  have F9 := Lib.hid ((Fa.of0 (F.out.alloc _) lo).trans h3)
  have A9 := Lib.hid h2
  clear h2 h3
  rcases h1 with ⟨hq, rfl⟩ | ⟨k2, tx, hq, hk6, rfl⟩
  rotate_left
  · unfold rfu
    have HQ := Lib.hid hq
    have NU := Lib.hid (number_any HS9.out tx k2 hk6)
    clear hq
    go_wp2_with (go_at_call 42; refine NU.out.mono ?_; rintro e w10 ⟨rfl, f10⟩; have F10 := Lib.hid f10; clear f10)
    go_ret
    have hq := HQ.out
    rw [mRes_some hq]
    exact ⟨rfl, A9.out.keep0 F10.out, F9.out.trans (Fa.of0 F10.out lo)⟩
  · obtain ⟨q0, q1⟩ := dCons_of hq
    obtain ⟨q1, q2⟩ := dCons_of q1
    have e2 : dCons (nS s d a, s) (dCons (nB p, s) (nT s d, s)) = (none, s) := by
      rw [dCons_none q0, dCons_none q1]
      exact Prod.ext q2 rfl
    rw [e2] at A9
    have E2 := Lib.hid e2
    have A9 := Lib.hid (show Arr lo w9 g s from A9.out)
    obtain ⟨hi, hd0, hd9⟩ := okD_at (nS_ok q0).1
    obtain ⟨hj, ha0, ha9⟩ := okA_at (nS_ok q0).2
    have hlen := nT_len WD hi q2
    have hp : 0 ≤ p ∧ p ≤ 255 := by
      unfold nB at q1
      by_cases e : 0 ≤ p ∧ p ≤ 255
      · exact e
      · rw [if_neg (by simpa using e)] at q1; cases q1
    have hj2 : a.toNat < s.devs[d.toNat].secs.length := by omega
    obtain ⟨dv, rv, drs, dsp, rcs, rsp, h9⟩ := A9.out
    have hi2 : d.toNat < drs.length := by rw [h9.dlen]; exact hi
    obtain ⟨gd, dcap, gs, cap2, lv, c2, c3, hsv, cl, hmx, hz⟩ := h9.sec2 hi hi2 hj2
    obtain ⟨_, _, _, hsp⟩ := h9.dat _ drs[d.toNat] s.devs[d.toNat] (List.getElem?_eq_getElem hi2) (List.getElem?_eq_getElem hi)
    have hsp' := hsp
    rw [hsv] at hsp'
    obtain ⟨gs', cap', lv', hsv', hf, _⟩ := hsp'.at a.toNat hj2
    cases hsv'
    obtain ⟨hp0, hp9⟩ := hp
    have hp10 : p < 256 := by omega
    have hpn : p.toNat < (s.devs[d.toNat].secs[a.toNat]).firm.1.length := by rw [(s.devs[d.toNat].secs[a.toNat]).firm.2]; omega
    obtain ⟨fb, Hfb⟩ : ∃ fb, (s.devs[d.toNat].secs[a.toNat]).firm.1[p.toNat] = fb := ⟨_, rfl⟩
    have cf := hf p.toNat (bv fb) (by rw [bvs_get, List.getElem?_eq_getElem hpn, Hfb]; rfl)
    unfold bv at cf
    have zf := hz (a.toNat * 257 + p.toNat)
    have SA := sector_any g gd gs _ dcap _ cap2 d a ⟨hd0, hd9⟩ ⟨ha0, by omega⟩ A9.out.len hmx w9.drew c2 c3
    unfold ptr at SA
    have H9 := Lib.hid h9
    have HFB := Lib.hid Hfb
    have HSV := Lib.hid hsv
    have HSP := Lib.hid hsp'
    have HX := Lib.hid hx
    clear hf hsp hsp' h9 hsv Hfb hz hx
    go_upto_region 4 with (fail)
    refine wp_region_still_tail 14 (by kernel_rfl) (by kernel_rfl) ?_
    simp only [List.take_succ_cons, List.take_zero, List.drop_succ_cons, List.drop_zero]
    repeat still_step
    still_call SA
    repeat still_step
    refine wpStill_nil ?_
    go_upto_region 5 with (fail)
    rw [bits_xor8]
    have h9 := H9.out
    have f5 : Frm (blk drs[d.toNat].2.2.2.1) w9 (w9.setCell ⟨gs, a.toNat * 257 + p.toNat, none⟩ (.int .u8 ((fb ^^^ m).toNat : Int))) := (Frm.refl _ w9).setCell _ _ (.inl (by rw [HSV.out]; simp [blk]))
    have hob : ∀ k ∈ blk drs[d.toNat].2.2.2.1, lo ≤ k ∧ ∃ (cs : Array Value) (T : TypeId) (fr : Nat × Nat), w9.heap[k]? = some (.cells cs T fr) ∧ okT T = false := fun k hk => by
      obtain ⟨_, _, _, scs, csp, o1, o2, _, _⟩ := h9.dat _ drs[d.toNat] s.devs[d.toNat] (List.getElem?_eq_getElem hi2) (List.getElem?_eq_getElem hi)
      obtain ⟨cs, hc⟩ := own_blk o1 k hk
      exact ⟨o2 k hk, cs, 96, _, hc, by decide⟩
    have hs' := HSP.out.setFirm a.toNat hj2 p.toNat (by omega) (fb ^^^ m) (flipB (s.devs[d.toNat].secs[a.toNat]).firm p.toNat m) (by
      unfold flipB
      simp only
      rw [List.getD_eq_getElem?_getD, List.getElem?_eq_getElem hpn, HFB.out]
      rfl) (Fa.of_frm f5 hob)
    obtain ⟨h6, fa6⟩ := h9.sect d.toNat hi hi2 _ f5 (by rw [HSV.out]; exact hs')
    have A6 : Arr lo (w9.setCell ⟨gs, a.toNat * 257 + p.toNat, none⟩ (.int .u8 ((fb ^^^ m).toNat : Int))) g (spoilS s d a p m) := by
      unfold spoilS
      rw [setSec_nat hi hj2]
      exact ⟨_, _, _, _, _, _, h6⟩
    have A7 := Lib.hid A6.drew
    have F7 := Lib.hid (F9.out.trans fa6.drew)
    generalize w9.setCell ⟨gs, a.toNat * 257 + p.toNat, none⟩ (.int .u8 ((fb ^^^ m).toNat : Int)) = W at *
    clear h9 f5 hob hs' h6 fa6 A6
    go_wp2_with fail
    go_ret
    rw [E2.out]
    exact ⟨rfl, A7.out, F7.out⟩
end
end Go.Proofs.YtdebnikolhhmgaaDoor

namespace Go.Proofs.YtdebnikolhhmgaaDoor
open Go.RowKit
set_option linter.unusedVariables false
set_option linter.unusedSimpArgs false
set_option maxRecDepth 100000

open Kr (OwnE SlE Enco RowTys)
theorem Jn.ap {s : St} {firm last : Nat → Nat → UInt8} (h : Jn s firm last) (ho : s.out = false) (hs : s.set = false) : Ap s (firm 1) (last 1) := by
  have hl := h.len
  have h1 : 1 < s.devs.length := by omega
  exact ⟨h.n, hl, ho, hs, ⟨s.devs[1], List.getElem?_eq_getElem h1, h.fl _ (List.getElem_mem h1), h.secs h1⟩, fun x hx => (h.rw x hx).1, fun a ha => h.sec 1 a (by omega) ha⟩
section
variable {s s' : St} {firm last : Nat → UInt8}
/-- The device 0 is pulled, or was gone. -/
theorem Ap.pull (h : Ap s firm last) : (YtdebnikolhhmgaaDoor.puR s 0).1 = 0 ∨ ((YtdebnikolhhmgaaDoor.puR s 0).2 = s ∧ (YtdebnikolhhmgaaDoor.puR s 0).1 = 14 ∧ (dCons (nR s, s) (dCons (nD s 0, s) (nT s 0, s))).1 = some 4) := by
  have e1 : nD s 0 = none := by unfold nD okD; rw [h.len, if_pos (by simp)]
  have e0 : nR s = none := by unfold nR; rw [h.out]; rfl
  unfold YtdebnikolhhmgaaDoor.puR
  rw [dCons_none e1, dCons_none e0]
  by_cases e : nT s 0 = none
  · rw [mRes_none e]; exact .inl rfl
  · have e4 : nT s 0 = some 4 := by
      unfold nT at e ⊢
      split
      · rfl
      · rename_i h2; rw [if_neg h2] at e; exact absurd rfl e
    rw [mRes_some (c := 4) e4]
    exact .inr ⟨rfl, rfl, e4⟩
end
section
variable {s s' : St} {firm last : Nat → UInt8}
end
end Go.Proofs.YtdebnikolhhmgaaDoor

namespace Go.Proofs.YtdebnikolhhmgaaDoor
open Go.RowKit
set_option linter.unusedVariables false
set_option linter.unusedSimpArgs false
set_option maxRecDepth 100000

open Kr (OwnE SlE Enco RowTys)
theorem Wf.spR {K : Nat} {s : St} (h : Wf K s) (d a p : Int) (m : UInt8) : Wf K (spR s d a p m).2 :=
  mRes_ind (dCons_ind h (dCons_ind h h)) fun _ => (dCons_ind (P := fun s => Wf K s) (r1 := (nS s d a, s)) h (dCons_ind (P := fun s => Wf K s) (r1 := (nB p, s)) (r := (nT s d, s)) h h)).setSec _ _ _
theorem Ap.spR {s : St} {firm last : Nat → UInt8} (h : Ap s firm last) (a p : Int) (m : UInt8) : Ap (spR s 0 a p m).2 firm last := by
  have h2 := dCons_ind (P := fun s => Ap s firm last) (r1 := (nS s 0 a, s)) h (dCons_ind (P := fun s => Ap s firm last) (r1 := (nB p, s)) (r := (nT s 0, s)) h h)
  exact mRes_ind (P := fun s => Ap s firm last) h2 fun _ => h2.setD0 _
section
variable {lo : Nat} {w : World} {sn : Nat → Addr} {g K : Nat} {s : St}
theorem sp_at (hs : Sn w lo sn) (h : Arr lo w g s) (wf : Wf K s) (hK : K ≤ 100000000) (d a p x : Int) (m : UInt8) (hx : x = (m.toNat : Int)) :
    Calls Tryd.prog 17 #[.pointer (some ⟨g, 0, none⟩), .int .i64 d, .int .i64 a, .int .i64 p, .int .u8 x] w fun e w' => e = .returned (.int .i64 (spR s d a p m).1) ∧ Arr lo w' g (spR s d a p m).2 ∧ Fa lo w w' := Spoil_any d a p m x hx hs h (wf.wfs hK) wf.fd
theorem rdA_at (hs : Sn w lo sn) (h : Arr lo w g s) (wf : Wf K s) (hK : K ≤ 100000000) (d a : Int) :
    Calls Tryd.prog 11 #[.pointer (some ⟨g, 0, none⟩), .int .i64 d, .int .i64 a] w fun e w' => (∃ v, e = .returned v) ∧ Arr lo w' g (rdR s d a).2 ∧ Fa lo w w' := by
  refine (show Calls Tryd.prog 11 #[.pointer (some ⟨g, 0, none⟩), .int .i64 d, .int .i64 a] w _ from Read_any d a hs h (wf.wfs hK) wf.fd).mono ?_
  rintro e w' ⟨⟨_, ad, cap, sp, rfl, _⟩ | ⟨k, _, rfl⟩, a1, f1⟩
  · exact ⟨⟨_, rfl⟩, a1, f1⟩
  · exact ⟨⟨_, rfl⟩, a1, f1⟩
end
def longA (x : ActT) : Bool := match x.2.2.2.2.2.1.1, x.2.2.2.2.2.2.1 with
  | .slice _ n _, .slice _ m _ => decide (300 < n) || decide (200 < m)
  | _, _ => false
def longL (l : List ActT) : Bool := (l.take 101).any longA || decide (100 < l.length)
def LgRel (l : List ActT) (w0 : World) (cv : Value) (wr : World) : Prop := ∃ k : Nat, k ≤ l.length ∧ k ≤ 101 ∧ cv = .int .i64 k ∧ (l.take k).any longA = false ∧ wr = w0
theorem longL_none {l : List ActT} (h : l.length ≤ 100 ∨ 100 < l.length) (hk : ∀ k, k = min l.length 101 → (l.take k).any longA = false) : longL l = decide (100 < l.length) := by
  unfold longL
  have h1 := hk _ rfl
  have e : l.take 101 = l.take (min l.length 101) := by
    rcases Nat.le_total l.length 101 with h | h
    · rw [Nat.min_eq_left h, List.take_of_length_le h, List.take_length]
    · rw [Nat.min_eq_right h]
  rw [e, h1, Bool.false_or]
theorem longL_some {l : List ActT} {k : Nat} (h : k < l.length) (hk : k < 101) (hx : longA l[k] = true) : longL l = true := by
  unfold longL
  rw [Bool.or_eq_true]
  refine .inl (List.any_eq_true.2 ⟨l[k], ?_, hx⟩)
  exact List.mem_take_iff_getElem.2 ⟨k, by omega, rfl⟩
set_option maxHeartbeats 8000000 in
theorem Long_any (l : List ActT) (v : Value) (sp : List Value) (w : World) (hS : SlE eAct 7 w v l sp) (hw : ∀ x ∈ l, WfAct w x) :
    Calls Tryd.prog 9 #[v] w fun e w' => e = .returned (.bool (longL l)) ∧ w' = w := by
  obtain ⟨ad, vcap, rfl, _, hcap⟩ := hS.form
  have HSL := Lib.hid hS
  have HW := Lib.hid hw
  have hl63 : (l.length : Int) ≤ 9223372036854775807 := by simp only [maxLen] at hcap; omega
  clear hS hw
  go_enter Tryd.func9, Tryd.ntmps9
  go_upto_region 2 with (fail)
  go_loopw [3] (LgRel l w) (fun c _ => l.length - (intOf c).toNat)
  case atStart => exact ⟨0, by omega, by omega, rfl, rfl, rfl⟩
  case round =>
    obtain ⟨k, hk, hk2, rfl, hany, rfl⟩ := hrel
    have HA := Lib.hid hany
    clear hany
    by_cases hlt : k < l.length
    · by_cases hlt2 : k < 101
      · have hlt2' : (k : Int) < 101 := by omega
        obtain ⟨bb, off, rfl⟩ := HSL.out.at (by omega)
        obtain ⟨l5, s5, h5⟩ := (HW.out _ (List.getElem_mem hlt)).b
        obtain ⟨l6, s6, h6⟩ := (HW.out _ (List.getElem_mem hlt)).k
        have c5 := HSL.out.cell encAct k hlt 5 (u := l[k].2.2.2.2.2.1.1) rfl
        have c6 := HSL.out.cell encAct k hlt 6 (u := l[k].2.2.2.2.2.2.1) rfl
        obtain ⟨a5, cap5, e5, _, _⟩ := h5.form
        obtain ⟨a6, cap6, e6, _, _⟩ := h6.form
        have hlk : longA l[k] = (decide (300 < l5.length) || decide (200 < l6.length)) := by unfold longA; rw [e5, e6]
        have HT := Lib.hid (show (l.take (k + 1)).any longA = longA l[k] by rw [List.take_succ_eq_append_getElem hlt, List.any_append, HA.out]; simp)
        have HLK := Lib.hid hlk
        rw [e5] at c5
        rw [e6] at c6
        rw [← Nat.add_assoc] at c5 c6
        clear h5 h6 e5 e6 hlk
        by_cases q5 : 300 < l5.length
        · have q5' : (300 : Int) < (l5.length : Int) := by omega
          go_wp2_with fail
          go_ret
          exact ⟨by rw [longL_some hlt hlt2 (by rw [HLK.out, decide_eq_true q5]; rfl)]; rfl, rfl⟩
        · have q5' : ¬ (300 : Int) < (l5.length : Int) := by omega
          by_cases q6 : 200 < l6.length
          · have q6' : (200 : Int) < (l6.length : Int) := by omega
            go_wp2_with fail
            go_ret
            exact ⟨by rw [longL_some hlt hlt2 (by rw [HLK.out, decide_eq_true q6, Bool.or_true])]; rfl, rfl⟩
          · have q6' : ¬ (200 : Int) < (l6.length : Int) := by omega
            go_wp2_with fail
            go_roundw
            case rel => exact ⟨k + 1, by omega, by omega, by go_num, by rw [HT.out, HLK.out, decide_eq_false q5, decide_eq_false q6]; rfl, rfl⟩
            case measure => simp [intOf]; omega
      · obtain rfl : k = 101 := by omega
        have h100 : (100 : Int) < (l.length : Int) := by omega
        go_wp2_with fail
        go_ret
        refine ⟨?_, rfl⟩
        rw [show longL l = true by unfold longL; rw [decide_eq_true (by omega), Bool.or_true]]
        rfl
    · obtain rfl : k = l.length := by omega
      by_cases h100 : 100 < l.length
      · have h100' : (100 : Int) < (l.length : Int) := by omega
        go_wp2_with fail
        go_ret
        refine ⟨?_, rfl⟩
        rw [show longL l = true by unfold longL; rw [decide_eq_true h100, Bool.or_true]]
        rfl
      · have h100' : ¬ (100 : Int) < (l.length : Int) := by omega
        go_wp2_with fail
        go_ret
        refine ⟨?_, rfl⟩
        rw [longL_none (by omega) (fun k hk => by rw [hk, Nat.min_eq_left (by omega)]; exact HA.out), decide_eq_false h100]
        rfl
end Go.Proofs.YtdebnikolhhmgaaDoor

namespace Go.Proofs.YtdebnikolhhmgaaDoor
open Go.RowKit
set_option linter.unusedVariables false
set_option linter.unusedSimpArgs false
set_option maxRecDepth 100000

open Kr (OwnE SlE Enco RowTys)
theorem WfAct.acts {lo : Nat} {w : World} {x : ActT} (h : WfAct w x) (hlo : w.heap.size ≤ lo) : WfActs lo w x := by
  obtain ⟨h1, h2, ⟨l, sp, h3⟩, k, ksp, h4⟩ := h
  exact ⟨h1, h2, ⟨l, sp, fun w' f => h3.keep (f.frm hlo) (by simp)⟩, k, ksp, fun w' f => h4.keep0 (f.frm hlo)⟩
theorem i25a : (Tryd.prog.info? 25).map (·.size) = some 7 := by kernel_rfl
theorem act_all (x x0 : ActT) : setL (eAct x0).toArray 0 (eAct x) = (eAct x).toArray := by kernel_rfl
theorem one_act (x : ActT) : (eAct x).toArray.all (·.oneCell') = true := all_oneCell_toArray (fun v hv => encAct.one x v hv)
theorem wpList_act {ops : Array Oper} {rest : List Oper} {op : Oper} {a : Act} {w : World} {Q : Exit → Act → World → Prop} (hg : op.guard = none) (p y : Operand) (ho : op.op = .store 25 p y) {x x0 : ActT} {b : Nat} (h0 : w.heap[b]? = some (.cells (eAct x0).toArray 25 (0, 0)))
    (hx : a.eval p = .pointer (some ⟨b, 0, none⟩)) (hy : a.eval y = .agg (eAct x).toArray) (k : ∀ w', AcB w' b x → Frm [b] w w' → wpList Tryd.prog ops Q rest (a.put op.dst undef) w') : wpList Tryd.prog ops Q (op :: rest) a w := by
  refine wpList_store_mid hg 25 p y ho b 0 (eAct x).toArray hx hy (fun j hj => ?_) i25a (one_act x) (k _ ?_ (frm_setCells _ _ _ _ _ (Frm.refl _ _) (by simp)))
  · rw [Nat.zero_add, cell_of_heap h0, frozen_of_heap h0, List.getElem?_toArray, List.getElem?_eq_getElem (show j < (eAct x0).length from hj)]
    exact ⟨rfl, rfl⟩
  · have := heap_setCells (eAct x) 0 w _ h0
    rw [act_all] at this
    exact this
def x00 : ActT := (0, 0, 0, 0, 0, ⟨.slice none 0 0, rfl⟩, ⟨.slice none 0 0, rfl⟩)
def AcRel (lo g b : Nat) (l : List ActT) (firm last : Nat → Nat → UInt8) (w0 : World) (cv : Value) (wr : World) : Prop :=
  ∃ (k : Nat) (s : St), k ≤ l.length ∧ cv = .int .i64 k ∧ Ap s (firm 1) (last 1) ∧ Wf (200 + k) s ∧ Arr lo wr g s ∧ Bx wr b firm ∧ Bx wr (b + 1) last ∧ Fa lo w0 wr
def ReRel (lo g b : Nat) (s : St) (firm last : Nat → Nat → UInt8) (w0 : World) (cv : Value) (wr : World) : Prop :=
  ∃ k : Nat, k ≤ 8 ∧ cv = .int .i64 k ∧ Arr lo wr g s ∧ Bx wr b firm ∧ Bx wr (b + 1) last ∧ Fa lo w0 wr
section
variable {lo : Nat} {w : World} {sn : Nat → Addr}
set_option maxHeartbeats 64000000 in
theorem Apart_any (v : Value) (l : List LayT) (sp : List Value) (va : Value) (ac : List ActT) (asp : List Value) (hS : ∀ w', Fa lo w w' → SlE eL 4 w' v l sp) (hw : ∀ x ∈ l, WfLay x) (hA : ∀ w', Fa lo w w' → SlE eAct 7 w' va ac asp) (hwa : ∀ x ∈ ac, WfActs lo w x) (hs : Sn w lo sn) (hlo : lo ≤ w.heap.size) :
    Calls Tryd.prog 6 #[v, va] w fun e w' => e = .returned (.bool true) ∧ Fa lo w w' := by
  obtain ⟨ad, vcap, rfl, _, _⟩ := (hS w (Fa.refl lo w)).form
  obtain ⟨aa, acap, rfl, _, _⟩ := (hA w (Fa.refl lo w)).form
  have HSL := Lib.hid hS
  have HAL := Lib.hid hA
  have HWA := Lib.hid hwa
  have S := Lib.hid hs
  have S0 := Lib.hid hs
  have F := Lib.hid (Fa.refl lo w)
  have HLO := Lib.hid hlo
  have HLG := Lib.hid (fun (w1 : World) (f1 : Fa lo w w1) => Long_any ac (.slice aa ac.length acap) asp w1 (hA w1 f1) (fun x hx => (hwa x hx).at f1))
  by_cases hl : 60 < l.length
  · have hl' : (60 : Int) < (l.length : Int) := by omega
    clear hS hs hw hA hwa
    go_enter Tryd.func6, Tryd.ntmps6
    go_wp2_with (first
      | (go_at_call 10; refine (awake_any S.out (Nat.le_trans hlo F.out.size)).mono ?_; rintro e w1 ⟨rfl, f1⟩; have F := Lib.hid (F.out.trans f1); have S := Lib.hid (S.out.fa f1); clear f1)
      | (go_at_call 28; refine (made_any S.out (Nat.le_trans hlo F.out.size)).mono ?_; rintro e w1 ⟨g, rfl, a1, f1⟩; have A := Lib.hid a1; have F := Lib.hid (F.out.trans f1); have S := Lib.hid (S.out.fa f1); clear a1 f1))
    go_ret
    exact ⟨rfl, F.out⟩
  have hl60 : l.length ≤ 60 := by omega
  have hl' : ¬ (60 : Int) < (l.length : Int) := by omega
  by_cases hlong : longL ac = true
  · clear hS hs hw hA hwa
    go_enter Tryd.func6, Tryd.ntmps6
    go_wp2_with (first
      | (go_at_call 10; refine (awake_any S.out (Nat.le_trans hlo F.out.size)).mono ?_; rintro e w1 ⟨rfl, f1⟩; have F := Lib.hid (F.out.trans f1); have S := Lib.hid (S.out.fa f1); clear f1)
      | (go_at_call 28; refine (made_any S.out (Nat.le_trans hlo F.out.size)).mono ?_; rintro e w1 ⟨g, rfl, a1, f1⟩; have A := Lib.hid a1; have F := Lib.hid (F.out.trans f1); have S := Lib.hid (S.out.fa f1); clear a1 f1)
      | (go_at_call 9; refine (HLG.out _ F.out).mono ?_; rintro e w2 ⟨rfl, hw1⟩; obtain rfl := hw1.symm; rw [hlong]))
    go_ret
    exact ⟨rfl, F.out⟩
  have hlong' : longL ac = false := by simpa using hlong
  by_cases h30 : 30 < ac.length
  · have h30' : (30 : Int) < (ac.length : Int) := by omega
    clear hS hs hw hA hwa
    go_enter Tryd.func6, Tryd.ntmps6
    go_wp2_with (first
      | (go_at_call 10; refine (awake_any S.out (Nat.le_trans hlo F.out.size)).mono ?_; rintro e w1 ⟨rfl, f1⟩; have F := Lib.hid (F.out.trans f1); have S := Lib.hid (S.out.fa f1); clear f1)
      | (go_at_call 28; refine (made_any S.out (Nat.le_trans hlo F.out.size)).mono ?_; rintro e w1 ⟨g, rfl, a1, f1⟩; have A := Lib.hid a1; have F := Lib.hid (F.out.trans f1); have S := Lib.hid (S.out.fa f1); clear a1 f1)
      | (go_at_call 9; refine (HLG.out _ F.out).mono ?_; rintro e w2 ⟨rfl, hw1⟩; obtain rfl := hw1.symm; rw [hlong']))
    go_ret
    exact ⟨rfl, F.out⟩
  have h30' : ¬ (30 : Int) < (ac.length : Int) := by omega
  have hac : (ac.length : Int) ≤ 30 := by omega
  have HLY := Lib.hid (fun (w1 : World) (g : Nat) (f1 : Fa lo w w1) (a1 : Arr lo w1 g (newS 8 2)) => lays_any l (.slice ad l.length vcap) sp (hs.fa f1) (Nat.le_trans hlo f1.size) a1 (fun w2 f2 => hS w2 (f1.trans f2)) hl60 hw)
  clear hS hs hw hA hwa
  go_enter Tryd.func6, Tryd.ntmps6
  go_upto_region 9 with (first
    | (go_at_call 10; refine (awake_any S.out (Nat.le_trans hlo F.out.size)).mono ?_; rintro e w1 ⟨rfl, f1⟩; have F := Lib.hid (F.out.trans f1); have S := Lib.hid (S.out.fa f1); clear f1)
    | (go_at_call 28; refine (made_any S.out (Nat.le_trans hlo F.out.size)).mono ?_; rintro e w1 ⟨g, rfl, a1, f1⟩; have A := Lib.hid a1; have F := Lib.hid (F.out.trans f1); have S := Lib.hid (S.out.fa f1); clear a1 f1)
    | (go_at_call 9; refine (HLG.out _ F.out).mono ?_; rintro e w2 ⟨rfl, hw1⟩; obtain rfl := hw1.symm; rw [hlong'])
    | (go_at_call 32; refine (HLY.out _ g F.out A.out).mono ?_; rintro e w2 ⟨s, firm, last, rfl, hz, wf, a2, f2⟩; have Z := Lib.hid hz; have WF := Lib.hid wf; have A2 := Lib.hid a2; have F2 := Lib.hid (F.out.trans f2); clear hz wf a2 f2)
    | ((with_reducible (show wpList _ _ _ (Oper.mk _ (Op.store 57 (.tmp 7) _) _ _ _ _ :: _) _ _)); refine wpList_store57 rfl (.tmp 7) (.tmp 41) rfl (Bx.two w2).1 rfl rfl ?_; intro w3 b3 f3)
    | ((with_reducible (show wpList _ _ _ (Oper.mk _ (Op.store 57 (.tmp 8) _) _ _ _ _ :: _) _ _)); refine wpList_store57 rfl (.tmp 8) (.tmp 42) rfl ((Bx.two w2).2.frm f3 (by simp)) rfl rfl ?_; intro w4 b4 f4))
  obtain ⟨b, hb⟩ : ∃ b, w2.heap.size = b := ⟨_, rfl⟩
  have two := Bx.two w2
  have FAL := Lib.hid ((F2.out.trans (Fa.of0 (((Frm.refl [] w2).alloc _).alloc _) lo)).frmN f3 (fun i hi => by rw [List.mem_singleton.1 hi]; have := F2.out.size; omega) |>.frmN f4 (fun i hi => by rw [List.mem_singleton.1 hi]; have := F2.out.size; omega))
  have AL4 := Lib.hid ((A2.out.keep0 (((Frm.refl [] w2).alloc _).alloc _)).keep f3 (fun j hj => by rw [List.mem_singleton.1 hj]; exact ⟨_, 57, _, two.1, by decide, by decide⟩) |>.keep f4 (fun j hj => by rw [List.mem_singleton.1 hj]; exact ⟨_, 57, _, two.2.frm f3 (by simp), by decide, by decide⟩))
  rw [hb] at b3 b4 f4 ⊢
  have B4 := Lib.hid (And.intro (b3.frm f4 (by simp)) b4)
  have AP := Lib.hid (Z.out.j.ap Z.out.out Z.out.set)
  clear b3 b4 f3 f4 two HLY A2 F2 Z HLG
  go_loopw [10] (AcRel lo g b ac firm last w) (fun c _ => ac.length - (intOf c).toNat)
  case atStart => exact ⟨0, s, by omega, rfl, AP.out, WF.out, AL4.out, B4.out.1, B4.out.2, FAL.out⟩
  case round =>
    obtain ⟨k, s, hk, rfl, hap, wf, ha6, hf6, hb6, fa6⟩ := hrel
    have sl := HAL.out wr fa6
    have AP6 := Lib.hid hap
    have WF6 := Lib.hid wf
    have A6 := Lib.hid ha6
    have H6 := Lib.hid hf6
    have B6 := Lib.hid hb6
    have F6 := Lib.hid fa6
    clear ha6 hf6 hb6 fa6 hap wf AP AL4 B4 FAL
    by_cases hlt : k < ac.length
    · obtain ⟨bb, off, rfl⟩ := sl.at (by omega)
      have hxm := List.getElem_mem hlt
      obtain ⟨x, Hx⟩ : ∃ x, ac[k] = x := ⟨_, rfl⟩
      rw [Hx] at hxm
      have hrange : wr.rangeAt bb (off + k * 7) (eAct x) := fun j u hu => by
        have := sl.cell encAct k hlt j (u := u) (by rw [Hx]; exact hu)
        rwa [← Nat.add_assoc] at this
      have HWX := Lib.hid (HWA.out x hxm)
      have HRG := Lib.hid hrange
      clear sl hxm Hx hrange
      have u25 := Tryd.underlying25
      have z25 : AcB (wr.alloc (.cells (eAct x00).toArray 25)) wr.heap.size x00 := heap_alloc_new _ _
      go_upto_region 12 with (first
        | ((with_reducible (show wpList _ _ _ (Oper.mk _ (Op.load 25 _) _ _ _ _ :: _) _ _)); refine wpList_load_mid rfl 25 _ rfl bb (off + k * 7) rfl (eAct x) _ HRG.out u25 rfl i25a ?_)
        | ((with_reducible (show wpList _ _ _ (Oper.mk _ (Op.store 25 _ _) _ _ _ _ :: _) _ _)); refine wpList_act rfl (.tmp 11) (.tmp 55) rfl (x := x) (x0 := x00) z25 rfl rfl ?_; intro w7 ab7 f7))
      obtain ⟨xk, xd, xa, xn, xm, xb, xke⟩ := x
      have fal : Frm [wr.heap.size] wr w7 := ((Frm.refl [] wr).alloc (.cells (eAct x00).toArray 25)).mono (L' := [wr.heap.size]) (by simp) |>.trans f7 (fun i hi => .inl hi)
      have k0 : w7.cell? ⟨wr.heap.size, 0, none⟩ = some (.int .i64 xk) := ab7.at 0
      have k2 : w7.cell? ⟨wr.heap.size, 2, none⟩ = some (.int .i64 xa) := ab7.at 2
      have k3 : w7.cell? ⟨wr.heap.size, 3, none⟩ = some (.int .i64 xn) := ab7.at 3
      have k4 : w7.cell? ⟨wr.heap.size, 4, none⟩ = some (.int .u8 xm) := ab7.at 4
      have k5 : w7.cell? ⟨wr.heap.size, 5, none⟩ = some xb.1 := ab7.at 5
      have hlow : lo ≤ wr.heap.size := Nat.le_trans HLO.out F6.out.size
      have F8 := Lib.hid (F6.out.frmN fal (fun i hi => by rw [List.mem_singleton.1 hi]; exact ⟨hlow, F6.out.size⟩))
      have S8 := Lib.hid (S0.out.fa F8.out)
      have o25 : ∀ j ∈ [wr.heap.size], j ∉ ([] : List Nat) := by simp
      have A8 := Lib.hid (((A6.out.keep0 ((Frm.refl [] wr).alloc (.cells (eAct x00).toArray 25))).keep f7 (fun j hj => by rw [List.mem_singleton.1 hj]; exact ⟨_, 25, _, heap_alloc_new _ _, by decide, by decide⟩)))
      have HB := Lib.hid (And.intro (H6.out.frm fal (fun hm => by have := lt_heap H6.out; rw [List.mem_singleton.1 hm] at this; omega)) (B6.out.frm fal (fun hm => by have := lt_heap B6.out; rw [List.mem_singleton.1 hm] at this; omega)))
      obtain ⟨bl, bsp, hbl⟩ := HWX.out.b
      have HBL := Lib.hid hbl
      obtain ⟨bm, hbm⟩ : ∃ bm : UInt8, xm = (bm.toNat : Int) := ⟨UInt8.ofNat xm.toNat, by have := HWX.out.m; simp only at this; rw [UInt8.toNat_ofNat']; omega⟩
      have HBM := Lib.hid hbm
      have hk9 : (k : Int) ≤ 30 := by omega
      clear z25 ab7 f7 fal hbl hbm o25
      by_cases e0 : xk = 0
      · subst e0
        go_wp2_with (go_at_call 13; refine (wr_at S8.out A8.out WF6.out (by omega) 0 xa _ bl bsp (fun w2 f2 => HBL.out w2 (F8.out.trans f2))).mono ?_; rintro e w9 ⟨rfl, a9, f9⟩; have A9 := Lib.hid a9; have F9 := Lib.hid f9; clear a9 f9)
        go_roundw
        case rel => exact ⟨k + 1, (wrR s 0 xa bl).2, by omega, by go_num, AP6.out.wrR xa bl, WF6.out.wrR 0 xa bl, A9.out, HB.out.1.fa F9.out, HB.out.2.fa F9.out, F8.out.trans F9.out⟩
        case measure => simp [intOf]; omega
      by_cases e1 : xk = 1
      · subst e1
        go_wp2_with (go_at_call 14; refine (fl_at S8.out A8.out WF6.out (by omega) 0).mono ?_; rintro e w9 ⟨rfl, a9, f9⟩; have A9 := Lib.hid a9; have F9 := Lib.hid f9; clear a9 f9)
        go_roundw
        case rel => exact ⟨k + 1, (flR s 0).2, by omega, by go_num, AP6.out.flR, WF6.out.flR 0, A9.out, HB.out.1.fa F9.out, HB.out.2.fa F9.out, F8.out.trans F9.out⟩
        case measure => simp [intOf]; omega
      by_cases e2 : xk = 2
      · subst e2
        go_wp2_with (go_at_call 11; refine (rdA_at S8.out A8.out WF6.out (by omega) 0 xa).mono ?_; rintro e w9 ⟨⟨vx, rfl⟩, a9, f9⟩; have A9 := Lib.hid a9; have F9 := Lib.hid f9; clear a9 f9)
        go_roundw
        case rel => exact ⟨k + 1, (rdR s 0 xa).2, by omega, by go_num, AP6.out.rdR xa, (WF6.out.rdR 0 xa).mono (by omega), A9.out, HB.out.1.fa F9.out, HB.out.2.fa F9.out, F8.out.trans F9.out⟩
        case measure => simp [intOf]; omega
      by_cases e5 : xk = 5
      · subst e5
        go_wp2_with (go_at_call 17; refine (sp_at S8.out A8.out WF6.out (by omega) 0 xa xn _ bm HBM.out).mono ?_; rintro e w9 ⟨rfl, a9, f9⟩; have A9 := Lib.hid a9; have F9 := Lib.hid f9; clear a9 f9)
        go_roundw
        case rel => exact ⟨k + 1, (spR s 0 xa xn bm).2, by omega, by go_num, AP6.out.spR xa xn bm, (WF6.out.spR 0 xa xn bm).mono (by omega), A9.out, HB.out.1.fa F9.out, HB.out.2.fa F9.out, F8.out.trans F9.out⟩
        case measure => simp [intOf]; omega
      by_cases e6 : xk = 6
      · subst e6
        go_wp2_with (go_at_call 18; refine (lo_at S8.out A8.out 0).mono ?_; rintro e w9 ⟨rfl, a9, f9⟩; have A9 := Lib.hid a9; have F9 := Lib.hid f9; clear a9 f9)
        go_roundw
        case rel => exact ⟨k + 1, (loR s 0).2, by omega, by go_num, AP6.out.loR, (WF6.out.lose 0).mono (by omega), A9.out, HB.out.1.fa F9.out, HB.out.2.fa F9.out, F8.out.trans F9.out⟩
        case measure => simp [intOf]; omega
      by_cases e7 : xk = 7
      · subst e7
        go_wp2_with (go_at_call 19; refine (st_at S8.out A8.out WF6.out (by omega) 0 xa).mono ?_; rintro e w9 ⟨rfl, a9, f9⟩; have A9 := Lib.hid a9; have F9 := Lib.hid f9; clear a9 f9)
        go_roundw
        case rel => exact ⟨k + 1, (stR s 0 xa).2, by omega, by go_num, AP6.out.stR xa, (WF6.out.stR 0 xa).mono (by omega), A9.out, HB.out.1.fa F9.out, HB.out.2.fa F9.out, F8.out.trans F9.out⟩
        case measure => simp [intOf]; omega
      by_cases e8 : xk = 8
      · subst e8
        go_wp2_with (go_at_call 20; refine (fa_at S8.out A8.out 0 xn HWX.out.n).mono ?_; rintro e w9 ⟨rfl, a9, f9⟩; have A9 := Lib.hid a9; have F9 := Lib.hid f9; clear a9 f9)
        go_roundw
        case rel => exact ⟨k + 1, (faR s 0 xn).2, by omega, by go_num, AP6.out.faR xn, (WF6.out.faR 0 xn).mono (by omega), A9.out, HB.out.1.fa F9.out, HB.out.2.fa F9.out, F8.out.trans F9.out⟩
        case measure => simp [intOf]; omega
      by_cases e9 : xk = 9
      · subst e9
        go_wp2_with (go_at_call 21; refine (pu_at S8.out A8.out WF6.out (by omega) 0).mono ?_; rintro e w9 ⟨rfl, a9, f9⟩; have A9 := Lib.hid a9; have F9 := Lib.hid f9; clear a9 f9)
        go_roundw
        case rel => exact ⟨k + 1, (puR s 0).2, by omega, by go_num, AP6.out.puR, (WF6.out.puR 0).mono (by omega), A9.out, HB.out.1.fa F9.out, HB.out.2.fa F9.out, F8.out.trans F9.out⟩
        case measure => simp [intOf]; omega
      by_cases e10 : xk = 10
      · subst e10
        go_wp2_with (go_at_call 22; refine (fi_at S8.out A8.out WF6.out (by omega) 0).mono ?_; rintro e w9 ⟨rfl, a9, f9⟩; have A9 := Lib.hid a9; have F9 := Lib.hid f9; clear a9 f9)
        go_roundw
        case rel => exact ⟨k + 1, (fiR s 0).2, by omega, by go_num, AP6.out.fiR, (WF6.out.fiR 0).mono (by omega), A9.out, HB.out.1.fa F9.out, HB.out.2.fa F9.out, F8.out.trans F9.out⟩
        case measure => simp [intOf]; omega
      go_wp2_with fail
      go_roundw
      case rel => exact ⟨k + 1, s, by omega, by go_num, AP6.out, WF6.out.mono (by omega), A8.out, HB.out.1, HB.out.2, F8.out⟩
      case measure => simp [intOf]; omega
    · obtain rfl : k = ac.length := by omega
      have hk9 : (ac.length : Int) ≤ 30 := by omega
      have WF2 := Lib.hid WF6.out
      clear sl
      go_upto_region 32 with (fail)
      go_loopw [12] (ReRel lo g b s firm last w) (fun c _ => 8 - (intOf c).toNat)
      case atStart => exact ⟨0, by omega, rfl, A6.out, H6.out, B6.out, F6.out⟩
      case round =>
        obtain ⟨i, hi, rfl, har, hfr, hbr, far⟩ := hrel
        have AR2 := Lib.hid har
        have HR2 := Lib.hid hfr
        have BR2 := Lib.hid hbr
        have FR2 := Lib.hid far
        have SR2 := Lib.hid (S0.out.fa far)
        clear har hfr hbr far
        by_cases hi2 : i < 8
        · have hi3 : (i : Int) < 8 := by omega
          have eb := BR2.out.at (d := 1) (by omega) hi2
          unfold bv at eb
          have HRD := Lib.hid (AP6.out.read hi2)
          go_upto_region 33 with (first
            | (go_at_call 29; refine (of_at (lo := lo) _ _ rfl).mono ?_; rintro e w15 ⟨v1, rfl, hv, f0⟩; have F1 := Lib.hid f0; have V := Lib.hid hv; clear f0 hv)
            | (go_at_call 30; refine (rdY_at (SR2.out.keep0 F1.out) (AR2.out.keep0 F1.out) WF2.out (by omega) 1 (i : Int) _ _ _ V.out HRD.out.1 HRD.out.2).mono ?_; rintro e w17 ⟨rfl, a7, f7⟩; have A17 := Lib.hid a7; have F17 := Lib.hid ((Fa.of0 F1.out lo).trans f7); clear a7 f7))
          go_wp2_with fail
          go_roundw
          case rel => exact ⟨i + 1, by omega, by go_num, A17.out, HR2.out.fa F17.out, BR2.out.fa F17.out, FR2.out.trans F17.out⟩
          case measure => simp [intOf]; omega
        · obtain rfl : i = 8 := by omega
          have WFp := Lib.hid (WF6.out.puR 0)
          have APp := Lib.hid AP6.out.puR
          obtain ⟨s4, hs4⟩ : ∃ s4, (puR s 0).2 = s4 := ⟨_, rfl⟩
          have HS4 := Lib.hid hs4
          have AP4 := Lib.hid (hs4 ▸ APp.out)
          have WF4 := Lib.hid (hs4 ▸ WFp.out)
          have HCR := Lib.hid (AP4.out.crash WF4.out.fr)
          obtain ⟨s5, hs5⟩ : ∃ s5, (crR s4 [] 0).2 = s5 := ⟨_, rfl⟩
          have HS5 := Lib.hid hs5
          have APC := Lib.hid (hs5 ▸ HCR.out.2)
          have WF3 := Lib.hid (show Wf (200 + ac.length) s5 by rw [← hs5]; exact WF4.out.crR _ _)
          clear hs4 hs5
          rcases AP6.out.pull with e4 | ⟨e4, e5, e6⟩
          · go_upto_region 39 with (first
              | (go_at_call 21; refine (pu_at SR2.out AR2.out WF6.out (by omega) 0).mono ?_; rintro e w10 ⟨rfl, a10, f10⟩; rw [e4]; have A10 := Lib.hid (HS4.out ▸ a10); have F10 := Lib.hid (FR2.out.trans f10); have S10 := Lib.hid (SR2.out.fa f10); have HB10 := Lib.hid (And.intro (HR2.out.fa f10) (BR2.out.fa f10)); clear a10 f10)
              | (go_at_call 16; refine (cr_at S10.out A10.out WF4.out (by omega) _ [] [] 0 (fun w2 f2 => SlE.nil _ _ _)).mono ?_; rintro e w12 ⟨rfl, a12, f12⟩; rw [HCR.out.1]; have A12 := Lib.hid (HS5.out ▸ a12); have F12 := Lib.hid (F10.out.trans f12); have HB12 := Lib.hid (And.intro (HB10.out.1.fa f12) (HB10.out.2.fa f12)); clear a12 f12))
            go_loopw [13] (ReRel lo g b s5 firm last w) (fun c _ => 8 - (intOf c).toNat)
            case atStart => exact ⟨0, by omega, rfl, A12.out, HB12.out.1, HB12.out.2, F12.out⟩
            case round =>
              obtain ⟨i, hi, rfl, har, hfr, hbr, far⟩ := hrel
              have AR3 := Lib.hid har
              have HR3 := Lib.hid hfr
              have BR3 := Lib.hid hbr
              have FR3 := Lib.hid far
              have SR3 := Lib.hid (S0.out.fa far)
              clear har hfr hbr far
              by_cases hi2 : i < 8
              · have hi3 : (i : Int) < 8 := by omega
                have eb := HR3.out.at (d := 1) (by omega) hi2
                unfold bv at eb
                have HRD := Lib.hid (APC.out.read hi2)
                go_upto_region 40 with (first
                  | (go_at_call 29; refine (of_at (lo := lo) _ _ rfl).mono ?_; rintro e w15 ⟨v1, rfl, hv, f0⟩; have F1 := Lib.hid f0; have V := Lib.hid hv; clear f0 hv)
                  | (go_at_call 30; refine (rdY_at (SR3.out.keep0 F1.out) (AR3.out.keep0 F1.out) WF3.out (by omega) 1 (i : Int) _ _ _ V.out HRD.out.1 HRD.out.2).mono ?_; rintro e w17 ⟨rfl, a7, f7⟩; have A17 := Lib.hid a7; have F17 := Lib.hid ((Fa.of0 F1.out lo).trans f7); clear a7 f7))
                go_wp2_with fail
                go_roundw
                case rel => exact ⟨i + 1, by omega, by go_num, A17.out, HR3.out.fa F17.out, BR3.out.fa F17.out, FR3.out.trans F17.out⟩
                case measure => simp [intOf]; omega
              · obtain rfl : i = 8 := by omega
                go_wp2_with fail
                go_ret
                exact ⟨rfl, FR3.out⟩
          · have e6' : (dCons (nR s, s) (dCons (nD s 0, s) (nT s 0, s))).1.isNone = false := by rw [e6]; rfl
            have hss : s4 = s := by rw [← HS4.out]; exact e4
            go_upto_region 39 with (first
              | (go_at_call 21; refine (pu_at SR2.out AR2.out WF6.out (by omega) 0).mono ?_; rintro e w10 ⟨rfl, a10, f10⟩; rw [e5]; have A10 := Lib.hid (HS4.out ▸ a10); have F10 := Lib.hid (FR2.out.trans f10); have S10 := Lib.hid (SR2.out.fa f10); have HB10 := Lib.hid (And.intro (HR2.out.fa f10) (BR2.out.fa f10)); clear a10 f10)
              | (go_at_call 27; refine (up_at S10.out A10.out 0).mono ?_; rintro e w11 ⟨rfl, a11, f11⟩; rw [hss, e6']; have A11 := Lib.hid a11; have F11 := Lib.hid (F10.out.trans f11); have S11 := Lib.hid (S10.out.fa f11); have HB11 := Lib.hid (And.intro (HB10.out.1.fa f11) (HB10.out.2.fa f11)); clear a11 f11)
              | (go_at_call 16; refine (cr_at S11.out A11.out WF4.out (by omega) _ [] [] 0 (fun w2 f2 => SlE.nil _ _ _)).mono ?_; rintro e w12 ⟨rfl, a12, f12⟩; rw [HCR.out.1]; have A12 := Lib.hid (HS5.out ▸ a12); have F12 := Lib.hid (F11.out.trans f12); have HB12 := Lib.hid (And.intro (HB11.out.1.fa f12) (HB11.out.2.fa f12)); clear a12 f12))
            go_loopw [13] (ReRel lo g b s5 firm last w) (fun c _ => 8 - (intOf c).toNat)
            case atStart => exact ⟨0, by omega, rfl, A12.out, HB12.out.1, HB12.out.2, F12.out⟩
            case round =>
              obtain ⟨i, hi, rfl, har, hfr, hbr, far⟩ := hrel
              have AR3 := Lib.hid har
              have HR3 := Lib.hid hfr
              have BR3 := Lib.hid hbr
              have FR3 := Lib.hid far
              have SR3 := Lib.hid (S0.out.fa far)
              clear har hfr hbr far
              by_cases hi2 : i < 8
              · have hi3 : (i : Int) < 8 := by omega
                have eb := HR3.out.at (d := 1) (by omega) hi2
                unfold bv at eb
                have HRD := Lib.hid (APC.out.read hi2)
                go_upto_region 40 with (first
                  | (go_at_call 29; refine (of_at (lo := lo) _ _ rfl).mono ?_; rintro e w15 ⟨v1, rfl, hv, f0⟩; have F1 := Lib.hid f0; have V := Lib.hid hv; clear f0 hv)
                  | (go_at_call 30; refine (rdY_at (SR3.out.keep0 F1.out) (AR3.out.keep0 F1.out) WF3.out (by omega) 1 (i : Int) _ _ _ V.out HRD.out.1 HRD.out.2).mono ?_; rintro e w17 ⟨rfl, a7, f7⟩; have A17 := Lib.hid a7; have F17 := Lib.hid ((Fa.of0 F1.out lo).trans f7); clear a7 f7))
                go_wp2_with fail
                go_roundw
                case rel => exact ⟨i + 1, by omega, by go_num, A17.out, HR3.out.fa F17.out, BR3.out.fa F17.out, FR3.out.trans F17.out⟩
                case measure => simp [intOf]; omega
              · obtain rfl : i = 8 := by omega
                go_wp2_with fail
                go_ret
                exact ⟨rfl, FR3.out⟩
end
end Go.Proofs.YtdebnikolhhmgaaDoor
