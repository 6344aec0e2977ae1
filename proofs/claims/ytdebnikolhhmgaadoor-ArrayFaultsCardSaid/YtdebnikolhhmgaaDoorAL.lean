/-
  Each need at a state; what a call answers that is refused. No conditions but those that each theorem names.
-/
import Derived.Test.YtdebnikolhhmgaaDoorAK
namespace Go.Proofs.YtdebnikolhhmgaaDoor
open Go.RowKit
set_option linter.unusedVariables false
set_option linter.unusedSimpArgs false
set_option maxRecDepth 100000

open Kr (OwnE SlE Enco RowTys)
def dCons (r1 r : Option Nat × St) : Option Nat × St := if r1.1 = none then r else r1
theorem dCons_none {r1 r : Option Nat × St} (h : r1.1 = none) : dCons r1 r = r := by unfold dCons; rw [if_pos h]
theorem dCons_of {r1 r : Option Nat × St} (h : (dCons r1 r).1 = none) : r1.1 = none ∧ r.1 = none := by
  unfold dCons at h
  by_cases e : r1.1 = none
  · rw [if_pos e] at h; exact ⟨e, h⟩
  · rw [if_neg e] at h; exact absurd h e
theorem Dem.cons {sn : Nat → Addr} {lo g : Nat} {W0 : World} {f : Value} {fs : List Value} {s : St} {r1 r : Option Nat × St} (h1 : NeedAt sn lo g W0 f s r1) (h : r1.1 = none → Dem sn lo g W0 fs r1.2 r) : Dem sn lo g W0 (f :: fs) s (dCons r1 r) := by
  obtain ⟨o, s1⟩ := r1
  cases o with
  | none => exact .step f fs s s1 r h1 (h rfl)
  | some k => exact .stop f fs s s1 k h1
theorem Dem.last {sn : Nat → Addr} {lo g : Nat} {W0 : World} {f : Value} {s : St} {r1 : Option Nat × St} (h1 : NeedAt sn lo g W0 f s r1) : Dem sn lo g W0 [f] s r1 := by
  obtain ⟨o, s1⟩ := r1
  cases o with
  | none => exact .step f [] s s1 _ h1 (.nil s1)
  | some k => exact .stop f [] s s1 k h1
def nR (s : St) : Option Nat := if s.out = true then some 2 else none
def nA (q : Bool) : Option Nat := if q = true then none else some 0
def nB (p : Int) : Option Nat := if decide (0 ≤ p ∧ p ≤ 255) = true then none else some 3
theorem nD_ok {s : St} {d : Int} (h : nD s d = none) : okD s d = true := by
  unfold nD at h
  cases hq : okD s d
  · rw [hq] at h; cases h
  · rfl
theorem nS_ok {s : St} {d a : Int} (h : nS s d a = none) : okD s d = true ∧ okA s a = true := by
  unfold nS at h
  cases hq : okD s d
  · rw [hq] at h; cases h
  · rw [hq] at h
    cases hq2 : okA s a
    · rw [hq2] at h; cases h
    · exact ⟨rfl, rfl⟩
section
variable {lo : Nat} {W0 : World} {sn : Nat → Addr} {g : Nat} {s : St}
theorem need_of {gf : Nat} {fn : Func} {caps : Array Value} {o : Option Nat} (hf : Tryd.prog.funcs[gf]? = some fn) (hname : (fn.name == "runtime.NumGoroutine") = false) (hb : fn.body.isSome = true)
    (h : ∀ W, Fa lo W0 W → Arr lo W g s → Calls Tryd.prog gf (#[.pointer (some ⟨g, 0, none⟩)] ++ caps) W (fun e w' => Ans sn o e ∧ Frm [] W w')) : NeedAt sn lo g W0 (.func (.func gf) #[] caps) s (o, s) := by
  obtain ⟨c, hc⟩ := Option.isSome_iff_exists.1 hb
  refine ⟨gf, caps, rfl, fun W => Go.Proofs.enters_of hf hname hc _ W, fun W f ha => (h W f ha).mono ?_⟩
  rintro e w' ⟨h1, h2⟩
  exact ⟨h1, ha.keep0 h2, Fa.of0 h2 lo⟩
theorem need_step {gf : Nat} {fn : Func} {caps : Array Value} {r : Option Nat × St} (hf : Tryd.prog.funcs[gf]? = some fn) (hname : (fn.name == "runtime.NumGoroutine") = false) (hb : fn.body.isSome = true)
    (h : ∀ W, Fa lo W0 W → Arr lo W g s → Calls Tryd.prog gf (#[.pointer (some ⟨g, 0, none⟩)] ++ caps) W (StepP sn lo g r W)) : NeedAt sn lo g W0 (.func (.func gf) #[] caps) s r := by
  obtain ⟨c, hc⟩ := Option.isSome_iff_exists.1 hb
  exact ⟨gf, caps, rfl, fun W => Go.Proofs.enters_of hf hname hc _ W, fun W f ha => h W f ha⟩
theorem needR (hs : Sn W0 lo sn) : NeedAt sn lo g W0 (.func (.func 38) #[] #[]) s (nR s, s) :=
  need_of Tryd.func38 (by kernel_rfl) (by kernel_rfl) fun W f ha => running_any (hs.fa f) ha
theorem cell_of {W : World} {b : Nat} {v : Value} (h : W0.heap[b]? = some (.cells #[v] 3 (0, 0))) (f : Fa lo W0 W) : W.cell? ⟨b, 0, none⟩ = some v := by rw [cell_of_heap (f.typ _ _ _ _ h (by decide))]; rfl
theorem cell_of4 {W : World} {b : Nat} {v : Value} (h : W0.heap[b]? = some (.cells #[v] 4 (0, 0))) (f : Fa lo W0 W) : W.cell? ⟨b, 0, none⟩ = some v := by rw [cell_of_heap (f.typ _ _ _ _ h (by decide))]; rfl
theorem needD (hs : Sn W0 lo sn) {d : Int} {b : Nat} (h : W0.heap[b]? = some (.cells #[.int .i64 d] 3 (0, 0))) : NeedAt sn lo g W0 (.func (.func 69) #[] #[.pointer (some ⟨b, 0, none⟩)]) s (nD s d, s) :=
  need_of Tryd.func69 (by kernel_rfl) (by kernel_rfl) fun W f ha => deviceOf1_any d b (hs.fa f) ha (cell_of h f)
theorem needS (hs : Sn W0 lo sn) (hw : WfS s) {d a : Int} {b b2 : Nat} (h : W0.heap[b]? = some (.cells #[.int .i64 d] 3 (0, 0))) (h2 : W0.heap[b2]? = some (.cells #[.int .i64 a] 3 (0, 0))) :
    NeedAt sn lo g W0 (.func (.func 61) #[] #[.pointer (some ⟨b, 0, none⟩), .pointer (some ⟨b2, 0, none⟩)]) s (nS s d a, s) :=
  need_of Tryd.func61 (by kernel_rfl) (by kernel_rfl) fun W f ha => sectorOf1_any d a b b2 (hs.fa f) ha hw.n1 (f.typ _ _ _ _ h (by decide)) (f.typ _ _ _ _ h2 (by decide))
theorem needT (hs : Sn W0 lo sn) {d : Int} {b : Nat} (h : W0.heap[b]? = some (.cells #[.int .i64 d] 3 (0, 0))) (hd : okD s d = true) : NeedAt sn lo g W0 (.func (.func 62) #[] #[.pointer (some ⟨b, 0, none⟩)]) s (nT s d, s) :=
  need_of Tryd.func62 (by kernel_rfl) (by kernel_rfl) fun W f ha => there1_any d b (hs.fa f) ha hd (cell_of h f)
theorem needF (hs : Sn W0 lo sn) {d : Int} {b : Nat} (h : W0.heap[b]? = some (.cells #[.int .i64 d] 3 (0, 0))) (hd : okD s d = true) : NeedAt sn lo g W0 (.func (.func 64) #[] #[.pointer (some ⟨b, 0, none⟩)]) s (nFail s d) :=
  need_step Tryd.func64 (by kernel_rfl) (by kernel_rfl) fun W f ha => noFailure1_any d b (hs.fa f) ha hd (cell_of h f)
theorem needA (hs : Sn W0 lo sn) {q : Bool} {b : Nat} (h : W0.heap[b]? = some (.cells #[.bool q] 4 (0, 0))) : NeedAt sn lo g W0 (.func (.func 66) #[] #[.pointer (some ⟨b, 0, none⟩)]) s (nA q, s) :=
  need_of Tryd.func66 (by kernel_rfl) (by kernel_rfl) fun W f ha => argument1_any q b (hs.fa f) (cell_of4 h f)
theorem needB (hs : Sn W0 lo sn) {p : Int} {b : Nat} (h : W0.heap[b]? = some (.cells #[.int .i64 p] 3 (0, 0))) : NeedAt sn lo g W0 (.func (.func 72) #[] #[.pointer (some ⟨b, 0, none⟩)]) s (nB p, s) :=
  need_of Tryd.func72 (by kernel_rfl) (by kernel_rfl) fun W f ha => byteOf1_any p b (hs.fa f) (cell_of h f)
theorem needStep (hs : Sn W0 lo sn) (hw : WfS s) : NeedAt sn lo g W0 (.func (.func 47) #[] #[]) s (nStep s) :=
  need_step Tryd.func47 (by kernel_rfl) (by kernel_rfl) fun W f ha => nextStep_any (hs.fa f) ha hw
end
/-- What a call answers, and what the array is then: refused, or done by k. -/
def mRes (r : Option Nat × St) (k : St → St) : Int × St := match r.1 with
  | none => (0, k r.2)
  | some c => (code c, r.2)
def MP (lo g : Nat) (r : Int × St) (w : World) (e : Ending) (w' : World) : Prop := e = .returned (.int .i64 r.1) ∧ Arr lo w' g r.2 ∧ Fa lo w w'
theorem mRes_none {r : Option Nat × St} (h : r.1 = none) (k : St → St) : mRes r k = (0, k r.2) := by unfold mRes; rw [h]
theorem mRes_some {r : Option Nat × St} {c : Nat} (h : r.1 = some c) (k : St → St) : mRes r k = (code c, r.2) := by unfold mRes; rw [h]
end Go.Proofs.YtdebnikolhhmgaaDoor
