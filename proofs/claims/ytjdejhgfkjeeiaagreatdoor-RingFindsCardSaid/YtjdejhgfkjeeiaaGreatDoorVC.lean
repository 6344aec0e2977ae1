/-
  Contract of UberKnown. No conditions but those that each theorem names.
-/
import Derived.Test.YtjdejhgfkjeeiaaGreatDoorVB
import Derived.Test.YtjdejhgfkjeeiaaGreatDoorPX
namespace Go.Proofs.YtjdejhgfkjeeiaaGreatDoor
open Go.RowKit
set_option linter.unusedVariables false
set_option linter.unusedSimpArgs false
set_option maxRecDepth 100000

open Pt (Pt may enc readPt readE zeroPt pc pv PtV SlA OwnA pc_size pc_one)
theorem UB.setTxg {w : World} {g : Nat} {v : Value} {u : Ub} (h : UB w g v u) (t : Int) : UB (w.setCell ⟨g, 0, none⟩ (.int .i64 t)) g v { u with txg := t } :=
  ⟨Blk.put1 (pre := []) (o := 0) (post := pc v u.root.b u.root.l u.root.s ++ (.int .i64 u.len :: bvs u.pool)) h.1 rfl, ⟨h.wf.pool, h.wf.sum⟩⟩
theorem UB.setLen {w : World} {g : Nat} {v : Value} {u : Ub} (h : UB w g v u) (t : Int) : UB (w.setCell ⟨g, 36, none⟩ (.int .i64 t)) g v { u with len := t } := by
  have hb := h.1
  rw [uc_split3] at hb
  have h2 := hb.put1 (o := 36) (u' := .int .i64 t) (by simp [pc_length h.wf.sum])
  exact ⟨by rw [uc_split3]; exact h2, ⟨h.wf.pool, h.wf.sum⟩⟩
theorem UB.setRoot {w : World} {g : Nat} {v v' : Value} {u : Ub} {p : Pt} (h : UB w g v u) (hp : p.s.length = 32) : UB (w.setCells g 1 (pc v' p.b p.l p.s)) g v' { u with root := p } := by
  have hb := h.1
  rw [uc_split1] at hb
  have h2 := hb.put (o := 1) (row' := pc v' p.b p.l p.s) rfl (by rw [pc_length hp, pc_length h.wf.sum])
  exact ⟨by rw [uc_split1]; exact h2, ⟨h.wf.pool, hp⟩⟩
def z32 : List UInt8 := List.replicate 32 0
def cP : Pt := ⟨[(1, 5)], 7, 2, z32⟩
def aU : Ub := { oneU with txg := 0 }
def bU : Ub := { oneU with len := 16385 }
def cU : Ub := { oneU with root := cP }
def dU : Ub := { oneU with len := 0 }
def onesK (k : Nat) : List UInt8 := List.replicate k 1 ++ List.replicate (256 - k) 0
def ZP (e : Int) (w : World) (r : Ending) (w' : World) : Prop := ∃ v : Value, v.oneCell' = true ∧ r = .returned (.tuple #[uv v zeroU, .int .i64 e]) ∧ Frm [] w w'
def OnesRel (w0 : World) (g : Nat) (c : Value) (wr : World) : Prop := ∃ k : Nat, k ≤ 256 ∧ c = .int .i64 k ∧ OwnB 5 wr (.slice (some ⟨g, 0, none⟩) 256 256) (onesK k) [] ∧ Frm [g] w0 wr
end Go.Proofs.YtjdejhgfkjeeiaaGreatDoor
