/-
  Contract of awake. No conditions but those that each theorem names.
-/
import Derived.Test.YtjdejhgfkjeeiaaGreatDoorVA
import Derived.Test.YtjdejhgfkjeeiaaGreatDoorUY
namespace Go.Proofs.YtjdejhgfkjeeiaaGreatDoor
open Go.RowKit
set_option linter.unusedVariables false
set_option linter.unusedSimpArgs false
set_option maxRecDepth 100000

open Pt (Pt may enc readPt readE zeroPt pc pv PtV SlA OwnA)
theorem slice_h {P : Program} {tS T : TypeId} (B : ByteTys P tS T) {w : World} {a : Option Addr} {n cap : Nat} {l sp : List UInt8} (h : SlB w (.slice a n cap) l sp) (hi : Nat) (h2 : hi ≤ l.length) :
    ∃ a' c', (∀ (y : Int) (wx : World), y = hi → (Instr.slice tS (.slice a n cap) none (some (.int .i64 y)) none).run P wx = .ok (.slice a' hi c') wx) ∧ SlB w (.slice a' hi c') (l.take hi) (l.drop hi ++ sp) := by
  obtain ⟨a2, c2, e, hle, hm⟩ := h.form
  cases e
  have hc := h.cut 0 hi (Nat.zero_le _) h2
  simp only [List.drop_zero, Nat.sub_zero] at hc
  refine ⟨_, _, fun y wx hy => ?_, hc⟩
  subst hy
  obtain ⟨i, hi', hz, hs, hby⟩ := info_parts B.info
  have he : P.elem tS = T := by simp [Program.elem, B.sl]
  have hsz : (sizeOf (P.elem tS)).run P wx = .ok 1 wx := by rw [he]; simp [sizeOf, typeInfo, hi', hs]
  rw [run_slice_h (P := P) wx tS a l.length cap (by rw [he]; exact B.sl) .i64 hi (by omega) (by omega), hsz]
  simp [Result.andThen, sliced]
theorem exec_slice_hA {P : Program} {o : Oper} {a : Act} {w : World} {t : TypeId} {v u : Value} {y : Int} (s hi : Operand) (hop : o.op = Op.slice t s none (some hi) none) (hs : a.eval s = v) (h2 : a.eval hi = .int .i64 y)
    (ht : P.underlying t = some (.slice (P.elem t))) (h : (Instr.slice t v none (some (.int .i64 y)) none).run P w = .ok u w) : (execOp a.eval o).run P w = .ok (.value u) w := by
  simp [execOp, hop, hs, h2, run_sliceAt_slice w t _ _ _ _ ht, h, Result.andThen]
def midB : List UInt8 := [0, 0, 0, 1, 2, 0, 1, 44, 0]
/-- A yes that leaves all as it was. -/
def Yes (w : World) (e : Ending) (w' : World) : Prop := e = .returned (.bool true) ∧ Frm [] w w'
def PackOneP (PL : List UInt8) (w : World) (r : Ending) (w' : World) : Prop := ∃ a cap sp, r = .returned (.tuple #[.slice a 256 cap, .int .i64 0]) ∧ OwnB 5 w' (.slice a 256 cap) PL sp ∧ Frm [] w w'
def UnpOneP (u : Ub) (w : World) (r : Ending) (w' : World) : Prop := ∃ a cap, r = .returned (.tuple #[uv (.slice a u.root.ads.length cap) u, .int .i64 0]) ∧ UbV w' (uv (.slice a u.root.ads.length cap) u) u ∧ Frm [] w w'
end Go.Proofs.YtjdejhgfkjeeiaaGreatDoor
