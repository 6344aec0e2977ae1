/-
  General laws, of no program: what a call changed of memory ('Frm'), rows of cells that a call owns ('Own') or reads ('Sl'), append, make and copy over them. No conditions but those that each law names. Laws on slices of bytes: read, owned, appended to, made, turned into a string; and the walk's step for an operation whose run is known. No conditions but those that each law names. Cuts of rows of bytes. No conditions but those that each theorem names. Contracts of pointer: Check, and what it calls. No conditions but those that each theorem names. Contracts of pointer: Read, Same, and plain facts. No conditions but those that each theorem names. Boxes of records and of tables; within, the program's and the document's. No conditions but those that each theorem names. Runs of parsers; bytes that can be read; a reader that finds no field. No conditions but those that each theorem names. The reader of the document: the next bytes, the next number. No conditions but those that each theorem names. Boxes of records, field by field. No conditions but those that each theorem names. Plain facts and small laws for the answer of the document to Read. No conditions but those that each theorem names. Contract of Read, of the answer of the document. No conditions but those that each theorem names.
-/
import Derived.Test.YtljhanhipmnioaaGreatMRa1
import Derived.Test.YtljhanhipmnioaaGreatMRa2
import Derived.Test.YtljhanhipmnioaaGreatMRa3
import Derived.Test.YtljhanhipmnioaaGreatMRa4
import Derived.Test.YtljhanhipmnioaaGreatMRa5
import Derived.Test.YtljhanhipmnioaaGreatMRa6
import Derived.Test.YtljhanhipmnioaaGreatMRa7
import Derived.Test.YtljhanhipmnioaaGreatMRa8
import Derived.Test.YtljhanhipmnioaaGreatMRa9
import Derived.Test.YtljhanhipmnioaaGreatMRa10
import Derived.Test.YtljhanhipmnioaaGreatMRb1
import Derived.Test.YtljhanhipmnioaaGreatMRc1
import Derived.Test.YtljhanhipmnioaaGreatMRf1
import Derived.Test.YtljhanhipmnioaaGreatMRf2
import Derived.WalkKit
import Derived.WalkSpells
import Derived.WalkLawsBesides
import Derived.Deep.AppendSrc
import Derived.Laws.CopyOwn
import Derived.Laws.BytesArg
import Derived.Carry
import Derived.Laws.BytesString
import Derived.Deep.SlicePairs
import Derived.Deep.Cut
import Derived.Lib.Hide
import Derived.Test.YtljhanhipmnioaaGreatChecked
import Derived.ChangeKeysEq
import Derived.Deep.MidRow
import Derived.Deep.RegionHeld3
import Derived.OpenShut
import Derived.WalkHide
import Derived.IntWalk
import Derived.StillTailTactics
import Derived.Deep.RegionLaw
import Derived.Deep.RegionWith
import Derived.Deep.QuietTactic
import Derived.BigQuiet
import Derived.OrdersHeld
import Derived.Deep.CutBlock
import Derived.Deep.DeepCutAuto
import Derived.Deep.Slices
import Derived.Defers
import Derived.Recover
import Derived.Deep.WholeRow
import Derived.LaidEqlPtr
import Derived.Lib.Bytealg
import Derived.Lib.TrimUEq
import Derived.Lib.MinMaxS
import Derived.Lib.OthersKept
import Derived.Deep.Draws
import Derived.WalkMore
import Derived.Deep.LoopGhost
import Derived.Lib.BufferWrite
import Derived.Lib.UnsafeStr
import Derived.Laws.MakeOwn
import Derived.Laws.Strings3
import Derived.BigRegion
import Derived.Lib.Walk
import Derived.Great.Walk
namespace Go.Proofs.YtljhanhipmnioaaGreat
open Go.RowKit
set_option linter.unusedVariables false
set_option maxRecDepth 100000
set_option linter.unusedSimpArgs false

namespace Frm
variable {L L' : List Nat} {w w1 w2 w' : World}
theorem of_grown {row : Option Nat} (h : w.grownBy w' row) (hL : ∀ k, row = some k → k ∈ L) : Frm L w w' :=
  ⟨h.os, h.tape, h.output, h.size, fun k hk hn => h.block k hk (fun e => hn (hL k e.symm))⟩
end Frm
section
variable {T : TypeId} {s : Nat} {w w' : World} {v : Value} {n : Nat} {xs sp : List Value} {L : List Nat}
end
end Go.Proofs.YtljhanhipmnioaaGreat

namespace Go.Proofs.YtljhanhipmnioaaGreat
open Go.RowKit
set_option linter.unusedVariables false
set_option maxRecDepth 100000
set_option linter.unusedSimpArgs false

section
variable {P : Program} {tS T : TypeId} {w : World} {v x : Value} {l sp m msp : List UInt8}
theorem madeCells_zero (n : Nat) : (madeCells #[Value.int .u8 0] n).toList = bvs (List.replicate n 0) := by
  rw [toList_madeCells_one]
  simp [bvs, bv]
/-- make([]byte, n). -/
theorem make_bytes (B : ByteTys P tS T) (w : World) (kl kc : IntKind) (n : Nat) (hn : n ≤ 281474976710656) :
    ∃ w', (Instr.makeSlice tS (.int kl (n : Int)) (.int kc (n : Int))).run P w = .ok (.slice (some ⟨w.heap.size, 0, none⟩) n n) w' ∧ OwnB T w' (.slice (some ⟨w.heap.size, 0, none⟩) n n) (List.replicate n 0) [] ∧ Frm [] w w' := by
  obtain ⟨i, hi, hz, hs, hby⟩ := info_parts B.info
  obtain ⟨w', h1, h2, h3⟩ := run_make_full (P := P) w 0 tS T i _ 1 B.sl hi hz hs kl kc n (by rw [hby]; omega) (by simp [maxLen]; omega) (Nat.zero_le _)
  refine ⟨w', h1, ?_, Frm.of_grown h3 (by simp)⟩
  obtain ⟨k1, k2 | ⟨g, cap, cur, k2, _, k3, k4, k5, k6, k7⟩⟩ := h2
  · cases k2.1
  · simp only [Value.slice.injEq, Option.some.injEq, Addr.mk.injEq] at k2
    obtain ⟨⟨rfl, _⟩, _, rfl⟩ := k2
    have e1 : cur.toList = bvs (List.replicate n 0) := by
      have : cur.toList.take (n * 1) = cur.toList := List.take_of_length_le (by simp [k6])
      rw [← this, k7]
      simpa [Value.cells] using madeCells_zero n
    refine ⟨by simp [bvs_length], .inr ⟨w.heap.size, n, by simp, by simp, k5, by simp [bvs_length], ?_⟩⟩
    rw [k3]
    congr 2
    apply Array.ext'
    simp [e1, bvs]
end
/-- 'make([]byte, n)' as the walk meets it. -/
theorem wpList_make_bytes {P : Program} {tS T : TypeId} (B : ByteTys P tS T) {w : World} {ops : Array Oper} {rest : List Oper} {o : Oper} {a : Act} {Q : Exit → Act → World → Prop}
    (n : Nat) (hn : n ≤ 281474976710656) (hg : o.guard = none) (x y : Operand) (hop : o.op = Op.makeSlice tS x y) {kl kc : IntKind} {X Y : Int} (hx : a.eval x = .int kl X) (hy : a.eval y = .int kc Y) (hX : X = n) (hY : Y = n)
    (k : ∀ w', OwnB T w' (.slice (some ⟨w.heap.size, 0, none⟩) n n) (List.replicate n 0) [] → Frm [] w w' → wpList P ops Q rest (a.put o.dst (.slice (some ⟨w.heap.size, 0, none⟩) n n)) w') :
    wpList P ops Q (o :: rest) a w := by
  subst hX
  subst hY
  obtain ⟨w', h1, h2, h3⟩ := make_bytes B w kl kc n hn
  refine wpList_val (v := .slice (some ⟨w.heap.size, 0, none⟩) n n) (w' := w') hg ?_ (k w' h2 h3)
  simp [execOp, hop, hx, hy, h1, Result.andThen]
/-- copy(d, x), d a part of an owned row from 'off' on, x no longer than d. -/
theorem copy_bytes {P : Program} {tS T tx : TypeId} (B : ByteTys P tS T) (ty : TypeId) {w : World} {g n cap : Nat} {l sp m : List UInt8} (hO : OwnB T w (.slice (some ⟨g, 0, none⟩) n cap) l sp) (off : Nat) {da : Option Addr} {dLen dCap : Nat}
    (hda : 0 < dLen → da = some ⟨g, off, none⟩) (hfit : off + dLen ≤ l.length) {x : Value} (hS : Src P 1 tx x m.length (bvs m) w) (hm : m.length ≤ dLen) :
    ∃ w', (Builtin.copy_ #[tS, tx] ty #[.slice da dLen dCap, x]).run P w = .ok (goInt m.length) w' ∧ OwnB T w' (.slice (some ⟨g, 0, none⟩) n cap) (l.take off ++ m ++ l.drop (off + m.length)) sp ∧ Frm [g] w w' := by
  obtain ⟨i, hi, hz, hs, hby⟩ := info_parts B.info
  obtain ⟨c1, c2, c3⟩ := hO.caps
  have hlen : (l.take off ++ m ++ l.drop (off + m.length)).length = l.length := by simp; omega
  have hmin : Nat.min m.length dLen = m.length := Nat.min_eq_left hm
  have hcells := hS.cells
  by_cases h0 : m = []
  · subst h0
    refine ⟨w, ?_, by simpa using hO, Frm.refl _ _⟩
    have hst : ∀ a : Addr, (storeCells a []).run P w = .ok () w := fun a => by simp [storeCells]
    cases da <;> simp [Builtin.copy_, run_underlying B.sl, sizeOf, typeInfo, hi, hs, hS.len, bvs, goInt, hst] <;> (simp [bvs] at hcells; simp [hcells, hst])
  · have hpos : 0 < m.length := List.length_pos_iff.2 h0
    obtain rfl := hda (by omega)
    have hst := run_storeCells_at P g off T (bvs m) 0 (bvs (l ++ sp)).toArray w hO.heap (by simp [bvs_length]; omega) (bvs_one m)
    simp only [Nat.add_zero] at hst
    refine ⟨w.setRow g (bvs (l.take off ++ m ++ l.drop (off + m.length) ++ sp)).toArray, ?_, OwnB.of_heap (setRow_heap w g _ _ _ _ hO.heap) (by omega) (by omega) c3, ?_⟩
    · have hcur : (bvs (l ++ sp)).take off ++ bvs m ++ (bvs (l ++ sp)).drop (off + m.length) = bvs (l.take off ++ m ++ l.drop (off + m.length) ++ sp) := by
        simp only [bvs, List.map_append, List.map_take, List.map_drop]
        rw [List.take_append_of_le_length (by simp; omega), List.drop_append_of_le_length (by simp; omega)]
        simp
      rw [← hcur]
      simp [Builtin.copy_, run_underlying B.sl, sizeOf, typeInfo, hi, hs, hS.len, hmin, hcells, goInt, hst, bvs_length]
    · exact ⟨rfl, rfl, rfl, by simp [World.setRow], fun k hk hn => setRow_other w g k _ (by simpa using hn)⟩
/-- 'copy(d, x)' as the walk meets it. -/
theorem wpList_copy_bytes {P : Program} {tS T tx : TypeId} (B : ByteTys P tS T) {w : World} {ops : Array Oper} {rest : List Oper} {o : Oper} {a : Act} {Q : Exit → Act → World → Prop}
    {g n cap : Nat} {l sp m : List UInt8} (hO : OwnB T w (.slice (some ⟨g, 0, none⟩) n cap) l sp) (off : Nat) {da : Option Addr} {dLen dCap : Nat} {y : Value}
    (hS : Src P 1 tx y m.length (bvs m) w) (hfit : off + dLen ≤ l.length) (hm : m.length ≤ dLen) (hda : 0 < dLen → da = some ⟨g, off, none⟩)
    (hg : o.guard = none) (d x : Operand) (hop : o.op = Op.call { callee := Callee.builtin Builtin.copy, args := #[d, x], argTypes := #[tS, tx] }) (hd : a.eval d = .slice da dLen dCap) (hx : a.eval x = y)
    (k : ∀ w', OwnB T w' (.slice (some ⟨g, 0, none⟩) n cap) (l.take off ++ m ++ l.drop (off + m.length)) sp → Frm [g] w w' → wpList P ops Q rest (a.put o.dst (goInt m.length)) w') :
    wpList P ops Q (o :: rest) a w := by
  obtain ⟨w', h1, h2, h3⟩ := copy_bytes (dCap := dCap) B o.type hO off hda hfit hS hm
  refine wpList_val (w' := w') hg ?_ (k w' h2 h3)
  simp [execOp, hop, resolve, invoke, builtin, hd, hx, h1, Result.andThen]
end Go.Proofs.YtljhanhipmnioaaGreat

namespace Go.Proofs.YtljhanhipmnioaaGreat
open Go.RowKit
set_option linter.unusedVariables false
set_option maxRecDepth 100000
set_option linter.unusedSimpArgs false

theorem slice_lhB {P : Program} {tS T : TypeId} (B : ByteTys P tS T) {w : World} {a : Option Addr} {n cap : Nat} {l sp : List UInt8} (h : SlB w (.slice a n cap) l sp) (lo hi : Nat) (h1 : lo ≤ hi) (h2 : hi ≤ l.length) :
    ∃ a' c', (∀ (x y : Int) (wx : World), x = lo → y = hi → (Instr.slice tS (.slice a n cap) (some (.int .i64 x)) (some (.int .i64 y)) none).run P wx = .ok (.slice a' (hi - lo) c') wx) ∧
      SlB w (.slice a' (hi - lo) c') ((l.drop lo).take (hi - lo)) (l.drop hi ++ sp) ∧ ∀ i ∈ blk (.slice a' (hi - lo) c'), i ∈ blk (.slice a n cap) := by
  obtain ⟨a2, c2, e, hle, hm⟩ := h.form
  cases e
  refine ⟨_, _, fun x y wx hx hy => ?_, h.cut lo hi h1 h2, ?_⟩
  · subst hx
    subst hy
    obtain ⟨i, hi', hz, hs, hby⟩ := info_parts B.info
    have he : P.elem tS = T := by simp [Program.elem, B.sl]
    have hsz : (sizeOf (P.elem tS)).run P wx = .ok 1 wx := by rw [he]; simp [sizeOf, typeInfo, hi', hs]
    rw [run_slice_lh (P := P) wx tS a l.length cap (by rw [he]; exact B.sl) .i64 .i64 lo hi (by omega) (by omega) (by omega), hsz]
    simp [Result.andThen, sliced]
  · intro i hi3
    cases a with
    | none => split at hi3 <;> simp [blk] at hi3
    | some a =>
      have hb : ∀ k, (a.add k).block = a.block := fun k => by unfold Addr.add; split <;> rfl
      split at hi3
      · simpa [blk] using hi3
      · simpa [blk, hb] using hi3
theorem OwnB.whole {T : TypeId} {w : World} {g n cap : Nat} {l sp : List UInt8} (h : OwnB T w (.slice (some ⟨g, 0, none⟩) n cap) l sp) : OwnB T w (.slice (some ⟨g, 0, none⟩) cap cap) (l ++ sp) [] := by
  obtain ⟨k1, k2, k3⟩ := h.caps
  exact OwnB.of_heap (by simpa using h.heap) (by simp; omega) (by simp; omega) k3
end Go.Proofs.YtljhanhipmnioaaGreat

namespace Go.Proofs.YtljhanhipmnioaaGreat.Pt
open Go.RowKit
set_option linter.unusedVariables false
set_option maxRecDepth 100000
set_option linter.unusedSimpArgs false

section
variable {P : Program} {tS T : TypeId} {w : World} {v x : Value} {l sp m msp : List Ad}
end
end Go.Proofs.YtljhanhipmnioaaGreat.Pt

namespace Go.Proofs.YtljhanhipmnioaaGreat.Pt
open Go.RowKit
set_option linter.unusedVariables false
set_option linter.unusedSimpArgs false
set_option maxRecDepth 100000

end Go.Proofs.YtljhanhipmnioaaGreat.Pt

namespace Go.Proofs.YtljhanhipmnioaaGreat.Pt
open Go.RowKit
set_option linter.unusedVariables false
set_option linter.unusedSimpArgs false
set_option maxRecDepth 100000

end Go.Proofs.YtljhanhipmnioaaGreat.Pt

namespace Go.Proofs.YtljhanhipmnioaaGreat.Pt
open Go.RowKit
set_option linter.unusedVariables false
set_option linter.unusedSimpArgs false
set_option maxRecDepth 100000

end Go.Proofs.YtljhanhipmnioaaGreat.Pt

namespace Go.Proofs.YtljhanhipmnioaaGreat.Pt
open Go.RowKit
set_option linter.unusedVariables false
set_option linter.unusedSimpArgs false
set_option maxRecDepth 100000

end Go.Proofs.YtljhanhipmnioaaGreat.Pt

namespace Go.Proofs.YtljhanhipmnioaaGreat.Pt
open Go.RowKit
set_option linter.unusedVariables false
set_option linter.unusedSimpArgs false
set_option maxRecDepth 100000

end Go.Proofs.YtljhanhipmnioaaGreat.Pt

namespace Go.Proofs.YtljhanhipmnioaaGreat.Pt
open Go.RowKit
set_option linter.unusedVariables false
set_option linter.unusedSimpArgs false
set_option maxRecDepth 100000

end Go.Proofs.YtljhanhipmnioaaGreat.Pt

namespace Go.Proofs.YtljhanhipmnioaaGreat.Pt
open Go.RowKit
set_option linter.unusedVariables false
set_option linter.unusedSimpArgs false
set_option maxRecDepth 100000

end Go.Proofs.YtljhanhipmnioaaGreat.Pt

namespace Go.Proofs.YtljhanhipmnioaaGreat.Pt
open Go.RowKit
set_option linter.unusedVariables false
set_option linter.unusedSimpArgs false
set_option maxRecDepth 100000

end Go.Proofs.YtljhanhipmnioaaGreat.Pt

namespace Go.Proofs.YtljhanhipmnioaaGreat.Pt
open Go.RowKit
set_option linter.unusedVariables false
set_option linter.unusedSimpArgs false
set_option maxRecDepth 100000

end Go.Proofs.YtljhanhipmnioaaGreat.Pt

namespace Go.Proofs.YtljhanhipmnioaaGreat.Pt
open Go.RowKit
set_option linter.unusedVariables false
set_option linter.unusedSimpArgs false
set_option maxRecDepth 100000

end Go.Proofs.YtljhanhipmnioaaGreat.Pt

namespace Go.Proofs.YtljhanhipmnioaaGreat.Pt
open Go.RowKit
set_option linter.unusedVariables false
set_option linter.unusedSimpArgs false
set_option maxRecDepth 100000

end Go.Proofs.YtljhanhipmnioaaGreat.Pt

namespace Go.Proofs.YtljhanhipmnioaaGreat.Pt
open Go.RowKit
set_option linter.unusedVariables false
set_option maxRecDepth 100000
set_option linter.unusedSimpArgs false

end Go.Proofs.YtljhanhipmnioaaGreat.Pt

namespace Go.Proofs.YtljhanhipmnioaaGreat.Pt
open Go.RowKit
set_option linter.unusedVariables false
set_option linter.unusedSimpArgs false
set_option maxRecDepth 100000

end Go.Proofs.YtljhanhipmnioaaGreat.Pt

namespace Go.Proofs.YtljhanhipmnioaaGreat.Pt
open Go.RowKit
set_option linter.unusedVariables false
set_option linter.unusedSimpArgs false
set_option maxRecDepth 100000

end Go.Proofs.YtljhanhipmnioaaGreat.Pt

namespace Go.Proofs.YtljhanhipmnioaaGreat.Pt
open Go.RowKit
set_option linter.unusedVariables false
set_option linter.unusedSimpArgs false
set_option maxRecDepth 100000

end Go.Proofs.YtljhanhipmnioaaGreat.Pt

namespace Go.Proofs.YtljhanhipmnioaaGreat.Pt
open Go.RowKit
set_option linter.unusedVariables false
set_option linter.unusedSimpArgs false
set_option maxRecDepth 100000

end Go.Proofs.YtljhanhipmnioaaGreat.Pt

namespace Go.Proofs.YtljhanhipmnioaaGreat.Pt
open Go.RowKit
set_option linter.unusedVariables false
set_option linter.unusedSimpArgs false
set_option maxRecDepth 100000

end Go.Proofs.YtljhanhipmnioaaGreat.Pt

namespace Go.Proofs.YtljhanhipmnioaaGreat.Pt
open Go.RowKit
set_option linter.unusedVariables false
set_option linter.unusedSimpArgs false
set_option maxRecDepth 100000

end Go.Proofs.YtljhanhipmnioaaGreat.Pt

namespace Go.Proofs.YtljhanhipmnioaaGreat.Pt
open Go.RowKit
set_option linter.unusedVariables false
set_option linter.unusedSimpArgs false
set_option maxRecDepth 100000

end Go.Proofs.YtljhanhipmnioaaGreat.Pt

namespace Go.Proofs.YtljhanhipmnioaaGreat.Pt
open Go.RowKit
set_option linter.unusedVariables false
set_option maxRecDepth 100000
set_option linter.unusedSimpArgs false

/-- The marks behind what is lent. -/
def marks (n : Nat) : Nat → List UInt8
  | 0 => []
  | k + 1 => UInt8.ofNat (160 + n % 90) :: marks (n + 1) k
theorem marks_length (n k : Nat) : (marks n k).length = k := by induction k generalizing n <;> simp [marks, *]
theorem marks_snoc (n k : Nat) : marks n (k + 1) = marks n k ++ [UInt8.ofNat (160 + (n + k) % 90)] := by
  induction k generalizing n with
  | zero => rfl
  | succ k ih => rw [marks, ih, marks, show n + 1 + k = n + (k + 1) by omega]; rfl
def LentRel (w : World) (l : List UInt8) (c : Value) (wr : World) : Prop :=
  ∃ k : Nat, k ≤ 3 ∧ c = .int .i64 ((l.length + k : Nat) : Int) ∧ OwnB 5 wr (.slice (some ⟨w.heap.size, 0, none⟩) (l.length + 3) (l.length + 3)) (l ++ marks l.length k ++ List.replicate (3 - k) 0) [] ∧ Frm [] w wr
set_option maxHeartbeats 1000000 in
theorem Lent_any (v : Value) (l sp : List UInt8) (w : World) (hS : SlB w v l sp) (hl : l.length ≤ 1000000) :
    Calls Tryz.prog 28 #[v] w fun r w' => r = .returned (.slice (some ⟨w.heap.size, 0, none⟩) l.length (l.length + 3)) ∧
      OwnB 5 w' (.slice (some ⟨w.heap.size, 0, none⟩) l.length (l.length + 3)) l (marks l.length 3) ∧ Frm [] w w' := by
  obtain ⟨a, cap, rfl, hc1, hc2⟩ := hS.form
  have hsrc : ∀ wx, Frm [] w wx → Src Tryz.prog 1 31 (.slice a l.length cap) l.length (bvs l) wx := fun wx fx => Sl.src Tryz.underlying31 (hS.keep fx (by simp)) (bvs_one l)
  have Hsrc := Lib.hid hsrc
  clear hsrc
  go_enter Tryz.func28, Tryz.ntmps28
  go_wp2_with (first | (at_make; refine wpList_make_bytes BT (l.length + 3) (by omega) rfl (.tmp 7) (.tmp 7) rfl rfl rfl rfl rfl ?_; intro w1 o1 f1) | ((with_reducible (show wpList _ _ _ (Oper.mk _ (Op.call (Call.mk (Callee.builtin Builtin.copy) _ _)) _ _ _ _ :: _) _ _)); (refine wpList_copy_bytes BT o1 0 (Hsrc.out _ f1) (by simp <;> omega) (by omega) (fun _ => rfl) rfl (.tmp 9) (.tmp 10) rfl rfl rfl ?_); intro w2 o2 f2))
  go_loopw [4] (LentRel w l) (fun c _ => l.length + 3 - (intOf c).toNat)
  case atStart =>
    refine ⟨0, by omega, rfl, ?_, f1.trans f2 (by simp)⟩
    simpa [marks] using o2
  case round =>
    obtain ⟨k, hk, rfl, o3, f3⟩ := hrel
    by_cases hlt : k < 3
    · have hc := o3.cell (l.length + k) (by simp [marks_length]; omega)
      have hf := o3.frozen (l.length + k)
      unfold bv at hc
      go_wp2
      refine ⟨⟨k + 1, by omega, by go_num, ?_, f3.setCell _ _ (.inr (Nat.le_refl _))⟩, by simp [intOf]; omega⟩
      have h4 := o3.store (l.length + k) (by simp [marks_length]; omega) (UInt8.ofNat (160 + (l.length + k) % 90)) (u := .int .u8 (160 + ((l.length : Int) + k) % 90)) (by simp [bv]; omega)
      rw [show 3 - k = (3 - (k + 1)) + 1 by omega, List.set_append_right _ _ (by simp [marks_length]), show l.length + k - (l ++ marks l.length k).length = 0 by simp [marks_length], List.replicate_succ, List.set_cons_zero] at h4
      rw [marks_snoc]
      simpa using h4
    · obtain rfl : k = 3 := by omega
      go_wp2
      go_ret
      refine ⟨rfl, ?_, f3⟩
      refine OwnB.of_heap ?_ rfl (by simp [marks_length]) (by simp [maxLen]; omega)
      have := o3.heap
      simpa using this
set_option maxHeartbeats 1000000 in
theorem Kept_true (g n cap : Nat) (x : Value) (l msp : List UInt8) (w : World) (hO : OwnB 5 w (.slice (some ⟨g, 0, none⟩) n cap) l (marks l.length 3)) (hS : SlB w x l msp) (hl : l.length ≤ 1000000) :
    Calls Tryz.prog 32 #[.slice (some ⟨g, 0, none⟩) n cap, x] w fun r w' => r = .returned (.bool true) ∧ Frm [] w w' := by
  obtain ⟨a, cap2, rfl, hc1, hc2⟩ := hS.form
  obtain ⟨k1, k2, k3⟩ := hO.caps
  rw [marks_length] at k2
  subst k1
  have Hw := Lib.hid hO.whole
  clear k3 hO
  have HN := Lib.hid k2
  have hg : ((l.length : Int) == (l.length : Int)) = true := by simp
  have hn0 : (0 : Int) ≤ (cap : Int) := by omega
  have hle : (cap : Int) ≤ (cap : Int) := by omega
  have hsum : IntKind.i64.wrap ((l.length : Int) + 3) = (cap : Int) := by rw [IntWalk.i64_in _ (by omega)]; omega
  clear k2
  go_enter Tryz.func32, Tryz.ntmps32
  go_wp2
  go_region_held3 (fun _ => True)
    (first | trivial | go_keep)
    (first | (go_at_call 28; refine (Lent_any _ l msp _ (hS.keep ((Frm.refl [] _).drewN _) (by simp)) hl).mono ?_; rw [← HN.out]; rintro r w1 ⟨rfl, o1, f1⟩) | (go_at_call 21; refine (SameBytes_any _ _ _ [] _ [] _ (Hw.out.keep (((Frm.refl [] _).drewN _).trans f1 (by simp)) (by simp)).sl o1.whole.sl).mono ?_; rintro r w2 ⟨rfl, rfl⟩))
  go_wp2
  go_ret
  exact ⟨by simp, ((Frm.refl [] _).drewN _).trans f1 (by simp)⟩
end Go.Proofs.YtljhanhipmnioaaGreat.Pt

namespace Go.Proofs.YtljhanhipmnioaaGreat.Pt
open Go.RowKit
set_option linter.unusedVariables false
set_option linter.unusedSimpArgs false
set_option maxRecDepth 100000

end Go.Proofs.YtljhanhipmnioaaGreat.Pt

namespace Go.Proofs.YtljhanhipmnioaaGreat.Pt
open Go.RowKit
set_option linter.unusedVariables false
set_option linter.unusedSimpArgs false
set_option maxRecDepth 100000

end Go.Proofs.YtljhanhipmnioaaGreat.Pt

namespace Go.Proofs.YtljhanhipmnioaaGreat.Pt
open Go.RowKit
set_option linter.unusedVariables false
set_option linter.unusedSimpArgs false
set_option maxRecDepth 100000

end Go.Proofs.YtljhanhipmnioaaGreat.Pt

namespace Go.Proofs.YtljhanhipmnioaaGreat.Pt
open Go.RowKit
set_option linter.unusedVariables false
set_option linter.unusedSimpArgs false
set_option maxRecDepth 100000

/-- The same, and the list of what is told is new. -/
def ReadN (l : List UInt8) (w : World) (e : Ending) (w' : World) : Prop := ∃ x, e = .returned (.tuple #[x, .agg #[.int .i64 (readE l), .int .i64 (readAt l)]]) ∧ PtV w' x (readPt l) ∧ Frm [] w w' ∧ ∀ i ∈ ptBlk x, w.heap.size ≤ i
end Go.Proofs.YtljhanhipmnioaaGreat.Pt

namespace Go.Proofs.YtljhanhipmnioaaGreat.Pt
set_option linter.unusedVariables false
set_option linter.unusedSimpArgs false
set_option maxRecDepth 100000

end Go.Proofs.YtljhanhipmnioaaGreat.Pt

namespace Go.Proofs.YtljhanhipmnioaaGreat.Pt
open Go.RowKit
set_option linter.unusedVariables false
set_option linter.unusedSimpArgs false
set_option maxRecDepth 100000

end Go.Proofs.YtljhanhipmnioaaGreat.Pt

namespace Go.Proofs.YtljhanhipmnioaaGreat.Pt
open Go.RowKit
set_option linter.unusedVariables false
set_option linter.unusedSimpArgs false
set_option maxRecDepth 100000

end Go.Proofs.YtljhanhipmnioaaGreat.Pt

namespace Go.Proofs.YtljhanhipmnioaaGreat.Pt
open Go.RowKit
set_option linter.unusedVariables false
set_option linter.unusedSimpArgs false
set_option maxRecDepth 100000

end Go.Proofs.YtljhanhipmnioaaGreat.Pt

namespace Go.Proofs.YtljhanhipmnioaaGreat.Rd
open Go.RowKit
set_option linter.unusedVariables false
set_option linter.unusedSimpArgs false
set_option maxRecDepth 100000

open Pt (Pt may enc readPt readE zeroPt be4 be1 pc pv PtV SlA OwnA BT)
open Kr (OwnE SlE Enco RowTys)

theorem rv_size {v : Value} {x : Rec} (h : x.root.s.length = 32) : (rc v x).toArray.size = 44 := by simp [rc_length h]
end Go.Proofs.YtljhanhipmnioaaGreat.Rd

namespace Go.Proofs.YtljhanhipmnioaaGreat.Rd
open Go.RowKit
set_option linter.unusedVariables false
set_option linter.unusedSimpArgs false
set_option maxRecDepth 100000

open Pt (Pt may enc readPt readE zeroPt be4 be1 pc pv PtV SlA OwnA BT wpList_load_g heap_alloc_at lst_slB one_slB Ext Grew exec_slice_lh yieldsIf_ld)
open Kr (OwnE SlE Enco RowTys)

theorem nAt_pos {l : List UInt8} {at_ n : Nat} {sh : Bool} (h0 : 0 < n ∨ 0 < at_) (h : (!okN l at_ n sh) = false) : 0 < nAt l at_ n sh := by
  have h : okN l at_ n sh = true := by simpa using h
  unfold nAt
  rw [if_pos h]; omega
set_option maxHeartbeats 1000000 in
theorem some_no (g : Nat) (a : Option Addr) (cap : Nat) (l : List UInt8) (at_ n : Nat) (sh od : Bool) (w : World) (h : RdB w g (.slice a l.length cap) at_ sh od) (hn : n ≤ 1000) (hno : sh = true ∨ l.length < at_ + n) (ha : at_ ≤ l.length) (hl : l.length ≤ 1000000) :
    Calls Tryz.prog 152 #[.pointer (some ⟨g, 0, none⟩), .int .i64 n] w fun e w' => Frm [g] w w' ∧ RdB w' g (.slice a l.length cap) at_ true od ∧ ∃ b, e = .returned b ∧ SlB w' b (List.replicate n 0) [] ∧ g ∉ blk b := by
  have H := Lib.hid h
  have hw := lt_heap h
  have HN := Lib.hid hn
  have c0 := h.c0
  have c1 := h.c1
  have c2 := h.c2
  have f1 := h.fz 1
  have f2 := h.fz 2
  have st : ∀ {sh : Bool} {W W' : World} (x : Int), RdB w g (.slice a l.length cap) at_ sh od → Frm [] (W.setCell ⟨g, 2, none⟩ (.bool true)) W' → Frm [] w W → RdB W' g (.slice a l.length cap) at_ true od ∧ Frm [g] w W' := by
    intro sh W W' x h k f
    have h1 : RdB (W.setCell ⟨g, 2, none⟩ (.bool true)) g (.slice a l.length cap) at_ true od := by
      have e := heap_setCell_same (i := 2) (.bool true) (h.keep f (by simp))
      unfold RdB
      rw [e]
      rfl
    exact ⟨h1.keep k (by simp), ((f.mono (by simp)).setCell _ _ (.inl (by simp))).trans k (by simp)⟩
  clear hn h
  by_cases hs : sh = true
  · subst hs
    go_enter Tryz.func152, Tryz.ntmps152
    go_wp2_with fail
    go_quiet (fail)
    go_wp2_with (at_make; refine wpList_make_bytes BT n (by have := HN.out; omega) rfl (.tmp 26) (.tmp 26) rfl rfl rfl rfl rfl ?_; intro w1 o1 k1)
    go_ret
    obtain ⟨r, f⟩ := st 0 H.out k1 ((Frm.refl [] _).drewN _)
    refine ⟨f, r, .slice (some ⟨w.heap.size, 0, none⟩) n n, rfl, by simpa using o1.sl, by simp [blk]; omega⟩
  · have hs' : sh = false := by simpa using hs
    subst hs'
    · have hlt : l.length < at_ + n := by rcases hno with h | h; cases h; exact h
      clear hno hs
      have hd : decide ((l.length : Int) - at_ < n) = true := by simp; omega
      go_enter Tryz.func152, Tryz.ntmps152
      go_wp2_with fail
      go_quiet (fail)
      go_wp2_with (at_make; refine wpList_make_bytes BT n (by have := HN.out; omega) rfl (.tmp 26) (.tmp 26) rfl rfl rfl rfl rfl ?_; intro w1 o1 k1)
      go_ret
      obtain ⟨r, f⟩ := st 0 H.out k1 ((Frm.refl [] _).drewN _)
      refine ⟨f, r, .slice (some ⟨w.heap.size, 0, none⟩) n n, rfl, by simpa using o1.sl, by simp [blk]; omega⟩
end Go.Proofs.YtljhanhipmnioaaGreat.Rd

namespace Go.Proofs.YtljhanhipmnioaaGreat.Rd
open Go.RowKit
set_option linter.unusedVariables false
set_option linter.unusedSimpArgs false
set_option maxRecDepth 100000

open Pt (Pt may enc readPt readE zeroPt be4 be1 pc pv PtV SlA OwnA BT wpList_load_g heap_alloc_at lst_slB one_slB Ext Grew exec_slice_lh yieldsIf_ld)
open Kr (OwnE SlE Enco RowTys)

set_option maxHeartbeats 1000000 in
theorem some_yes (g : Nat) (a : Option Addr) (cap : Nat) (l sp : List UInt8) (at_ n : Nat) (od : Bool) (w : World) (h : RdB w g (.slice a l.length cap) at_ false od) (hS : SlB w (.slice a l.length cap) l sp) (hn : n ≤ 1000) (hl : l.length ≤ 1000000) (hg : g ∉ blk (.slice a l.length cap)) (hlt : ¬ l.length < at_ + n) :
    Calls Tryz.prog 152 #[.pointer (some ⟨g, 0, none⟩), .int .i64 n] w fun e w' => Frm [g] w w' ∧ RdB w' g (.slice a l.length cap) ((at_ + n : Nat) : Int) false od ∧ ∃ b sp', e = .returned b ∧ SlB w' b ((l.drop at_).take n) sp' ∧ g ∉ blk b := by
  have H := Lib.hid h
  have HS := Lib.hid hS
  have HN := Lib.hid hn
  have c0 := h.c0
  have c1 := h.c1
  have c2 := h.c2
  have f1 := h.fz 1
  have f2 := h.fz 2
  have ha : at_ ≤ l.length := by omega
  clear hS hn h
  have hd : decide ((l.length : Int) - at_ < n) = false := by simp; omega
  obtain ⟨a', c', hsl, S', hb'⟩ := slice_lhB BT HS.out at_ (at_ + n) (by omega) (by omega)
  rw [show at_ + n - at_ = n by omega] at hsl S' hb'
  go_enter Tryz.func152, Tryz.ntmps152
  go_wp2_with fail
  go_quiet (fail)
  go_wp2_with fail
  go_quiet (fail)
  go_wp2_with fail
  go_ret
  have F : ∀ k1 k2, Frm [g] w (((w.drewN k1).setCell ⟨g, 1, none⟩ (.int .i64 ((at_ : Int) + n))).drewN k2) := fun k1 k2 => ((((Frm.refl [g] w).drewN k1).setCell _ _ (.inl (by simp))).drewN k2)
  have R : ∀ k1 k2, RdB (((w.drewN k1).setCell ⟨g, 1, none⟩ (.int .i64 ((at_ : Int) + n))).drewN k2) g (.slice a l.length cap) ((at_ + n : Nat) : Int) false od := fun k1 k2 => by
    have h0 : RdB (w.drewN k1) g (.slice a l.length cap) at_ false od := H.out.keep ((Frm.refl [] w).drewN k1) (by simp)
    have e := heap_setCell_same (i := 1) (.int .i64 ((at_ : Int) + n)) h0
    have h1 : RdB ((w.drewN k1).setCell ⟨g, 1, none⟩ (.int .i64 ((at_ : Int) + n))) g (.slice a l.length cap) ((at_ + n : Nat) : Int) false od := by
      unfold RdB
      rw [e]
      simp
    exact h1.keep ((Frm.refl [] _).drewN k2) (by simp)
  refine ⟨F _ _, R _ _, .slice a' n c', _, rfl, S'.keep (F _ _) (fun k hk => ?_), fun h => hg (hb' _ h)⟩
  simp
  exact fun e => hg (e ▸ hb' _ hk)

theorem some_one (g : Nat) (l : List UInt8) (at_ n : Nat) (sh od : Bool) (w : World) (h : RdS w g l at_ sh od) (hn : n ≤ 1000) (h0 : 0 < n ∨ 0 < at_ ∨ sh = true) :
    Calls Tryz.prog 152 #[.pointer (some ⟨g, 0, none⟩), .int .i64 n] w fun e w' => ∃ b sp, e = .returned b ∧ SlB w' b (nxt l at_ n sh) sp ∧ g ∉ blk b ∧ Frm [g] w w' ∧ RdS w' g l (nAt l at_ n sh) (!okN l at_ n sh) od := by
  obtain ⟨a, cap, h1, h2⟩ := h.blkv
  by_cases hk : okN l at_ n sh = true
  · obtain ⟨rfl, hle⟩ := okN_iff.1 hk
    obtain ⟨sp, hs, hb | ⟨a2, _, hl0⟩⟩ := id h2
    · refine (some_yes g a cap l sp at_ n od w h1 hs hn h.small (fun hm => by have := hb g hm; omega) (by omega)).mono ?_
      rintro e w' ⟨f, r, b, sp', rfl, S, nb⟩
      refine ⟨b, _, rfl, by unfold nxt; rw [if_pos hk]; exact S, nb, f, ⟨⟨a, cap, by unfold nAt; rw [if_pos hk, hk]; exact r, h2.keep f (by simp)⟩, (nAt_le h.le).1, h.small⟩⟩
    · subst hl0
      have hle2 : at_ + n ≤ 0 := hle
      clear hle
      rcases h0 with h0 | h0 | h0
      · omega
      · omega
      · cases h0
  · have hk' : okN l at_ n sh = false := by simpa using hk
    have hno : sh = true ∨ l.length < at_ + n := by
      cases sh with
      | true => exact .inl rfl
      | false => right; have : ¬ (at_ + n ≤ l.length) := fun h => hk (okN_iff.2 ⟨rfl, h⟩); omega
    refine (some_no g a cap l at_ n sh od w h1 hn hno h.le h.small).mono ?_
    rintro e w' ⟨f, r, b, rfl, S, nb⟩
    refine ⟨b, _, rfl, by unfold nxt; rw [if_neg hk]; exact S, nb, f, ⟨⟨a, cap, by unfold nAt; rw [if_neg hk, hk']; exact r, h2.keep f (by simp)⟩, (nAt_le h.le).1, h.small⟩⟩
set_option maxHeartbeats 1000000 in
theorem number_any (g : Nat) (l : List UInt8) (at_ n : Nat) (sh od : Bool) (w : World) (h : RdS w g l at_ sh od) (hn : n ≤ 7) (hn0 : 0 < n) :
    Calls Tryz.prog 84 #[.pointer (some ⟨g, 0, none⟩), .int .i64 n] w fun e w' => e = .returned (.int .i64 (bn (nxt l at_ n sh))) ∧ Frm [g] w w' ∧ RdS w' g l (nAt l at_ n sh) (!okN l at_ n sh) od := by
  have HC := Lib.hid (some_one g l at_ n sh od w h (by omega) (.inl hn0))
  have hlen : (nxt l at_ n sh).length = n := nxt_len
  generalize nxt l at_ n sh = m at *
  generalize nAt l at_ n sh = at2 at *
  generalize (!okN l at_ n sh) = sh2 at *
  clear h hn0
  go_enter Tryz.func84, Tryz.ntmps84
  go_upto_region 3 with (go_at_call 152; refine HC.out.mono ?_; rintro e w1 ⟨b, sp, rfl, S, nb, f, r⟩)
  have F := Lib.hid f
  have R := Lib.hid r
  have hm7 : m.length ≤ 7 := by omega
  clear f r nb HC hn
  rcases S.cases with ⟨rfl, rfl⟩ | ⟨a, rfl, rfl⟩ | ⟨b1, off, cap, rfl, hc1, hc2⟩
  iterate 2
    · go_wp2_with fail
      go_loop [5, 7] (fun n c => c = .int .i64 0 ∧ n = .int .i64 0) (fun _ _ => 0)
      case atStart => exact ⟨rfl, rfl⟩
      case round =>
        obtain ⟨rfl, rfl⟩ := hrel
        go_wp2_with fail
        go_ret
        exact ⟨rfl, F.out, R.out⟩
  · have HC := Lib.hid S.cellAt
    clear S hc2
    go_wp2_with fail
    go_loop [5, 7] (fun n c => BanRel m n c) (fun _ c => m.length - (intOf c).toNat)
    case atStart => exact ⟨0, 0, Nat.zero_le _, rfl, rfl, by simp [bn], by simp⟩
    case round =>
      obtain ⟨k, q, hk, rfl, rfl, hm, hlt⟩ := hrel
      by_cases hkl : k < m.length
      · have hc := HC.out k hkl
        have hb : q * 256 < 72057594037927936 := by
          have : 256 ^ k ≤ 256 ^ 6 := Nat.pow_le_pow_right (by omega) (by omega)
          omega
        have HM := Lib.hid hm
        have HB := Lib.hid hb
        have HL := Lib.hid hlt
        have hu := m[k].toNat_lt
        generalize hg : m[k] = x at *
        have HG := Lib.hid hg
        have hs : IntKind.i64.wrap (256 * (q : Int)) = 256 * q := IntWalk.i64_in _ (by omega)
        have hs2 : IntKind.i64.wrap (256 * (q : Int) + x.toNat) = ((q * 256 + x.toNat : Nat) : Int) := by rw [IntWalk.i64_in _ (by omega)]; omega
        clear hg hm hlt
        go_wp2_with fail
        refine ⟨⟨k + 1, q * 256 + x.toNat, by omega, by go_num, ?_, ?_, ?_⟩, by simp [intOf]; omega⟩
        · first | rfl | (congr 1; omega) | go_num
        · rw [List.take_succ_eq_append_getElem hkl, HG.out, bn_snoc, HM.out]
        · have := HL.out; rw [Nat.pow_succ]; omega
      · obtain rfl : k = m.length := by omega
        have HM := Lib.hid hm
        clear hm hlt
        go_wp2_with fail
        go_ret
        refine ⟨?_, F.out, R.out⟩
        rw [HM.out, List.take_length]
        rfl
end Go.Proofs.YtljhanhipmnioaaGreat.Rd

namespace Go.Proofs.YtljhanhipmnioaaGreat.Rd
open Go.RowKit
set_option linter.unusedVariables false
set_option linter.unusedSimpArgs false
set_option maxRecDepth 100000

open Pt (Pt may enc readPt readE zeroPt be4 be1 pc pv PtV SlA OwnA BT wpList_load_g heap_alloc_at lst_slB one_slB Ext Grew exec_slice_lh yieldsIf_ld)
open Kr (OwnE SlE Enco RowTys)
section
variable {w w' : World} {g : Nat} {T : TypeId} {cs pre row post : List Value} {o : Nat} {L : List Nat}
end

theorem RB.setId {w : World} {g : Nat} {v : Value} {x : Rec} (h : RB w g v x) (n : Int) : RB (w.setCell ⟨g, 0, none⟩ (.int .i64 n)) g v (withId x n) := h.setc rfl (rfl)
theorem RB.setKind {w : World} {g : Nat} {v : Value} {x : Rec} (h : RB w g v x) (n : Int) : RB (w.setCell ⟨g, 2, none⟩ (.int .i64 n)) g v (withKind x n) := h.setc rfl (rfl)
theorem RB.setMade {w : World} {g : Nat} {v : Value} {x : Rec} (h : RB w g v x) (n : Int) : RB (w.setCell ⟨g, 39, none⟩ (.int .i64 n)) g v (withMade x n) := h.setc rfl (((rc_set h.2 0).trans rfl).symm)
theorem RB.setOf {w : World} {g : Nat} {v : Value} {x : Rec} (h : RB w g v x) (n : Int) : RB (w.setCell ⟨g, 40, none⟩ (.int .i64 n)) g v (withOf x n) := h.setc rfl (((rc_set h.2 1).trans rfl).symm)
theorem RB.setOrigin {w : World} {g : Nat} {v : Value} {x : Rec} (h : RB w g v x) (n : Int) : RB (w.setCell ⟨g, 41, none⟩ (.int .i64 n)) g v (withOrigin x n) := h.setc rfl (((rc_set h.2 2).trans rfl).symm)
theorem RB.setQuota {w : World} {g : Nat} {v : Value} {x : Rec} (h : RB w g v x) (n : Int) : RB (w.setCell ⟨g, 42, none⟩ (.int .i64 n)) g v (withQuota x n) := h.setc rfl (((rc_set h.2 3).trans rfl).symm)
theorem RB.setReserve {w : World} {g : Nat} {v : Value} {x : Rec} (h : RB w g v x) (n : Int) : RB (w.setCell ⟨g, 43, none⟩ (.int .i64 n)) g v (withReserve x n) := h.setc rfl (((rc_set h.2 4).trans rfl).symm)
/-- The flag of what is odd is set. -/
theorem RdS.odd {w : World} {g : Nat} {l : List UInt8} {a : Nat} {s o : Bool} (h : RdS w g l a s o) (b : Bool) : RdS (w.setCell ⟨g, 3, none⟩ (.bool b)) g l a s b := by
  obtain ⟨va, c, h1, h2⟩ := h.blkv
  refine ⟨⟨va, c, ?_, h2.keep (L := [g]) ((Frm.refl _ _).setCell _ _ (.inl (by simp))) (by simp)⟩, h.le, h.small⟩
  have e := heap_setCell_same (i := 3) (.bool b) h1
  unfold RdB
  rw [e]
  rfl
end Go.Proofs.YtljhanhipmnioaaGreat.Rd

namespace Go.Proofs.YtljhanhipmnioaaGreat.Pt
open Go.RowKit
set_option linter.unusedVariables false
set_option linter.unusedSimpArgs false
set_option maxRecDepth 100000

/-- A pointer and a fault are stored into the variables of the results. -/
theorem wpList_fin {ops : Array Oper} {rest : List Oper} {o3 o4 : Oper} {a : Act} {V : World} {Q : Exit → Act → World → Prop} (g3 : o3.guard = none) (g4 : o4.guard = none)
    (p q x y : Operand) (h3 : o3.op = .store 54 p x) (h4 : o4.op = .store 44 q y) {g1 g2 : Nat} {v0 v : Option Addr} {n0 c0 n cap : Nat} {b0 l0 b l e0 f0 e f : Int} {s0 s : List UInt8}
    (B1 : PB V g1 (.slice v0 n0 c0) b0 l0 s0) (hs0 : s0.length = 32) (B2 : V.heap[g2]? = some (.cells #[.int .i64 e0, .int .i64 f0] 44 (0, 0))) (hne : g1 ≠ g2) (hs : s.length = 32)
    (e1 : a.eval p = .pointer (some ⟨g1, 0, none⟩)) (e2 : a.eval x = pv (.slice v n cap) b l s)
    (e3 : (a.put o3.dst undef).eval q = .pointer (some ⟨g2, 0, none⟩)) (e4 : (a.put o3.dst undef).eval y = .agg #[.int .i64 e, .int .i64 f])
    (k : ∀ V', PB V' g1 (.slice v n cap) b l s → V'.heap[g2]? = some (.cells #[.int .i64 e, .int .i64 f] 44 (0, 0)) → Frm [g1, g2] V V' → wpList Tryz.prog ops Q rest ((a.put o3.dst undef).put o4.dst undef) V') :
    wpList Tryz.prog ops Q (o3 :: o4 :: rest) a V := by
  refine wpList_store_row g3 54 p x h3 g1 (pc (.slice v n cap) b l s).toArray e1 e2 54 _ B1 (by rw [i26]; simp only [pc_size, hs]) (by simp only [pc_size, hs, hs0]) (pc_one _ _ _) ?_
  have f1 : Frm [g1] V (V.setRow g1 (pc (.slice v n cap) b l s).toArray) := ⟨rfl, rfl, rfl, by simp [World.setRow], fun k hk hn => setRow_other _ _ k _ (by simpa using hn)⟩
  have h1 := setRow_heap V g1 _ (pc (.slice v n cap) b l s).toArray 54 (0, 0) B1
  have B2' := f1.heap B2 (by simpa using hne.symm)
  generalize V.setRow g1 (pc (.slice v n cap) b l s).toArray = V1 at *
  refine wpList_store_row g4 44 q y h4 g2 #[.int .i64 e, .int .i64 f] e3 e4 44 #[.int .i64 e0, .int .i64 f0] B2' (by rw [d40]; rfl) (by simp) (by simp [Value.oneCell']) ?_
  have f2 : Frm [g2] V1 (V1.setRow g2 #[.int .i64 e, .int .i64 f]) := ⟨rfl, rfl, rfl, by simp [World.setRow], fun k hk hn => setRow_other _ _ k _ (by simpa using hn)⟩
  exact k _ (f2.heap h1 (by simpa using hne)) (setRow_heap V1 g2 _ #[.int .i64 e, .int .i64 f] 44 (0, 0) B2') ((f1.mono (by simp)).trans f2 (by simp))
/-- The pointer that bytes say, of three addresses at most. -/
def rawPt3 (l : List UInt8) : Pt := ⟨(List.range (min (rawN l) 3)).map (rawAd l), beNat ((l.drop 10).take 4), beNat ((l.drop 14).take 1), l.drop 15⟩
theorem rawPt3_eq {l : List UInt8} (h : rawN l ≤ 3) : rawPt3 l = rawPt l := by simp [rawPt3, rawPt, Nat.min_eq_left h]
/-- Bytes are a pointer's just if what they say has them. -/
theorem good_raw3 {l : List UInt8} (hl : l.length = 47) : goodB l = (decide (chk (rawPt3 l) = 0) && (outB (rawPt3 l) == l)) := by
  have hs3 : (rawPt3 l).s.length = 32 := by simp [rawPt3, hl]
  have h1 : goodB l = true ↔ (chk (rawPt3 l) = 0 ∧ outB (rawPt3 l) = l) := by
    rw [goodB_iff]
    constructor
    · rintro ⟨_, h2, h3, h4⟩
      rw [rawPt3_eq h2]
      rcases chk_cases (rawPt l) with ⟨m, e, o⟩ | ⟨m, e, o⟩
      · exact ⟨e, by rw [o, h4]⟩
      · exact absurd h3 m
    · rintro ⟨h2, h3⟩
      rcases chk_cases (rawPt3 l) with ⟨m, e, o⟩ | ⟨m, e, o⟩
      · have hn : rawN l ≤ 3 := by
          rcases Nat.lt_or_ge 3 (rawN l) with hlt | hge
          · exfalso
            rw [o] at h3
            have h4 := congrArg (fun x => beNat (x.take 1)) h3
            have h5 : beNat ((enc (rawPt3 l)).take 1) = 3 := by
              have hlen : (rawPt3 l).ads.length = 3 := by simp [rawPt3]; omega
              unfold enc
              rw [ptB_cons]
              simp only [List.length_map, hlen, List.take_succ_cons, List.take_zero]
              exact be1_nat 3 (by omega)
            have h6 : beNat (l.take 1) = rawN l := rfl
            simp only [h5, h6] at h4
            omega
          · exact hge
        rw [rawPt3_eq hn] at m h3 o
        rw [o] at h3
        exact ⟨hl, hn, m, h3⟩
      · rw [e] at h2; cases h2
  rw [Bool.eq_iff_iff, h1]
  simp
theorem pb_sum {w : World} {g : Nat} {v : Value} {b l : Int} {s : List UInt8} (h : PB w g v b l s) (k : Nat) (x : UInt8) : PB (w.setCell ⟨g, 3 + k, none⟩ (.int .u8 x.toNat)) g v b l (s.set k x) := by
  unfold PB at *
  rw [heap_setCell_same _ h]
  congr 2
  apply Array.ext'
  simp only [Array.toList_setIfInBounds, pc]
  rw [show 3 + k = k + 1 + 1 + 1 by omega, List.set_cons_succ, List.set_cons_succ, List.set_cons_succ]
  simp [bvs, bv, List.map_set]
theorem be1_get (l : List UInt8) (i : Nat) (h : i < l.length) : beNat ((l.drop i).take 1) = l[i].toNat := by
  rw [List.drop_eq_getElem_cons h]
  simp only [List.take_succ_cons, List.take_zero, beNat, List.foldl_cons, List.foldl_nil]
  omega
theorem be2_get (l : List UInt8) (i : Nat) (h : i + 1 < l.length) : beNat ((l.drop i).take 2) = l[i].toNat * 256 + l[i + 1].toNat := by
  rw [List.drop_eq_getElem_cons (by omega), List.drop_eq_getElem_cons (by omega)]
  simp only [List.take_succ_cons, List.take_zero, beNat, List.foldl_cons, List.foldl_nil]
  omega
theorem be4_get (l : List UInt8) (i : Nat) (h : i + 3 < l.length) : beNat ((l.drop i).take 4) = l[i].toNat * 16777216 + l[i + 1].toNat * 65536 + l[i + 2].toNat * 256 + l[i + 3].toNat := by
  rw [List.drop_eq_getElem_cons (by omega), List.drop_eq_getElem_cons (by omega), List.drop_eq_getElem_cons (by omega), List.drop_eq_getElem_cons (by omega)]
  change (((0 * 256 + l[i].toNat) * 256 + l[i + 1].toNat) * 256 + l[i + 2].toNat) * 256 + l[i + 3].toNat = _
  omega
end Go.Proofs.YtljhanhipmnioaaGreat.Pt

namespace Go.Proofs.YtljhanhipmnioaaGreat.Pt
open Go.RowKit
set_option linter.unusedVariables false
set_option linter.unusedSimpArgs false
set_option maxRecDepth 100000

/-- Bytes that are not 47 of them. -/
theorem readP_len {l : List UInt8} {w w' : World} {x : Value} {n : Int} (h : l.length ≠ 47) (hn : n = if l.length < 47 then (l.length : Int) else 47) (hx : PtV w' x zeroPt) (f : Frm [] w w') (hnw : ∀ i ∈ ptBlk x, w.heap.size ≤ i) : ReadN l w (.returned (.tuple #[x, .agg #[.int .i64 4, .int .i64 n]])) w' := by
  have hg : goodB l = false := by
    cases hb : goodB l with
    | false => rfl
    | true => exact absurd ((goodB_iff l).1 hb).1 h
  exact ⟨x, by simp [readE, readAt, hg, h, hn], by simpa [readPt, hg] using hx, f, hnw⟩
theorem readP_no {l : List UInt8} {w w' : World} {x : Value} (h : l.length = 47) (hg : goodB l = false) (hx : PtV w' x zeroPt) (f : Frm [] w w') (hnw : ∀ i ∈ ptBlk x, w.heap.size ≤ i) : ReadN l w (.returned (.tuple #[x, .agg #[.int .i64 2, .int .i64 0]])) w' :=
  ⟨x, by simp [readE, readAt, hg, h], by simpa [readPt, hg] using hx, f, hnw⟩
theorem readP_yes {l : List UInt8} {w w' : World} {x : Value} (hg : goodB l = true) (hx : PtV w' x (rawPt3 l)) (f : Frm [] w w') (hnw : ∀ i ∈ ptBlk x, w.heap.size ≤ i) : ReadN l w (.returned (.tuple #[x, .agg #[.int .i64 0, .int .i64 0]])) w' :=
  ⟨x, by simp [readE, readAt, hg], by rw [rawPt3_eq ((goodB_iff l).1 hg).2.1] at hx; simpa [readPt, hg] using hx, f, hnw⟩
def SumRel (l : List UInt8) (n g nb nl : Nat) (xa : Option Addr) (xc : Nat) (w0 : World) (cv : Value) (wr : World) : Prop := ∃ k : Nat, k ≤ 32 ∧ cv = .int .i64 k ∧ PB wr g (.slice xa n xc) nb nl ((l.drop 15).take k ++ List.replicate (32 - k) 0) ∧ Frm [g] w0 wr
set_option maxHeartbeats 8000000 in
theorem RefReadN_any (v : Value) (l sp : List UInt8) (w : World) (hS : SlB w v l sp) (hl : l.length ≤ 1000000) : Calls Tryz.prog 153 #[v] w (ReadN l w) := by
  obtain ⟨a, cap, rfl, _, _⟩ := hS.form
  have HS := Lib.hid hS
  have HL := Lib.hid hl
  have hl9 : (l.length : Int) ≤ 1000000 := by omega
  clear hl hS
  go_enter Tryz.func153, Tryz.ntmps153
  go_upto_region 1 with ((with_reducible (show wpList _ _ _ (Oper.mk _ (Op.alloc 54) _ _ _ _ :: _) _ _)); refine wpList_val rfl (exec_alloc26z rfl _) ?_)
  try simp only [World.size_alloc]
  have hb1 : PB ((w.alloc (.cells (pc (.slice none 0 0) 0 0 zs).toArray 54)).alloc (.cells #[.int .i64 0, .int .i64 0] 44)) w.heap.size (.slice none 0 0) 0 0 zs := (PB.new _ _ _ _ _).alloc _
  have hb2 : ((w.alloc (.cells (pc (.slice none 0 0) 0 0 zs).toArray 54)).alloc (.cells #[.int .i64 0, .int .i64 0] 44)).heap[w.heap.size + 1]? = some (.cells #[.int .i64 0, .int .i64 0] 44 (0, 0)) := heap_alloc_at (by simp)
  have hf : Frm [] w ((w.alloc (.cells (pc (.slice none 0 0) 0 0 zs).toArray 54)).alloc (.cells #[.int .i64 0, .int .i64 0] 44)) := ((Frm.refl [] w).alloc _).alloc _
  have hsz : ((w.alloc (.cells (pc (.slice none 0 0) 0 0 zs).toArray 54)).alloc (.cells #[.int .i64 0, .int .i64 0] 44)).heap.size = w.heap.size + 2 := by simp
  generalize (w.alloc (.cells (pc (.slice none 0 0) 0 0 zs).toArray 54)).alloc (.cells #[.int .i64 0, .int .i64 0] 44) = W at *
  have HB1 := Lib.hid hb1
  have HB2 := Lib.hid hb2
  have HF := Lib.hid hf
  have HSZ := Lib.hid hsz
  clear hb1 hb2 hf hsz
  by_cases h47 : l.length = 47
  · have H47 := Lib.hid h47
    have HS47 := HS.out
    rw [h47] at HS47 ⊢
    clear hl9
    rcases HS47.cases with ⟨_, e⟩ | ⟨_, _, e⟩ | ⟨b, off, cap', e, _, _⟩
    · rw [e] at h47; simp at h47
    · rw [e] at h47; simp at h47
    simp only [Value.slice.injEq] at e
    obtain ⟨rfl, -, rfl⟩ := e
    have hcell := fun (i : Nat) (hi : i < 47) W' (f : Frm [] w W') => (HS47.keep f (by simp)).cellAt i (by rw [H47.out]; exact hi)
    have HCELL := Lib.hid hcell
    clear h47 HS47
    obtain ⟨x0, h0⟩ : ∃ x0 : UInt8, x0 = l[10]'(by have := H47.out; omega) := ⟨_, rfl⟩
    obtain ⟨x1, h1⟩ : ∃ x1 : UInt8, x1 = l[11]'(by have := H47.out; omega) := ⟨_, rfl⟩
    obtain ⟨x2, h2⟩ : ∃ x2 : UInt8, x2 = l[12]'(by have := H47.out; omega) := ⟨_, rfl⟩
    obtain ⟨x3, h3⟩ : ∃ x3 : UInt8, x3 = l[13]'(by have := H47.out; omega) := ⟨_, rfl⟩
    obtain ⟨x4, h4⟩ : ∃ x4 : UInt8, x4 = l[14]'(by have := H47.out; omega) := ⟨_, rfl⟩
    have hnb : beNat ((l.drop 10).take 4) = x0.toNat * 16777216 + x1.toNat * 65536 + x2.toNat * 256 + x3.toNat := by rw [be4_get _ _ (by have := H47.out; omega), h0, h1, h2, h3]
    have hnl : beNat ((l.drop 14).take 1) = x4.toNat := by rw [be1_get _ _ (by have := H47.out; omega), h4]
    have q0 := fun W' (f : Frm [] w W') => HCELL.out 10 (by omega) W' f
    have q1 := fun W' (f : Frm [] w W') => HCELL.out 11 (by omega) W' f
    have q2 := fun W' (f : Frm [] w W') => HCELL.out 12 (by omega) W' f
    have q3 := fun W' (f : Frm [] w W') => HCELL.out 13 (by omega) W' f
    have q4 := fun W' (f : Frm [] w W') => HCELL.out 14 (by omega) W' f
    rw [← h0] at q0
    rw [← h1] at q1
    rw [← h2] at q2
    rw [← h3] at q3
    rw [← h4] at q4
    have Q0 := Lib.hid q0
    have Q1 := Lib.hid q1
    have Q2 := Lib.hid q2
    have Q3 := Lib.hid q3
    have Q4 := Lib.hid q4
    have HP3 := Lib.hid (show rawPt3 l = ⟨(List.range (min (rawN l) 3)).map (rawAd l), beNat ((l.drop 10).take 4), beNat ((l.drop 14).take 1), l.drop 15⟩ from rfl)
    generalize beNat ((l.drop 10).take 4) = nb at *
    generalize beNat ((l.drop 14).take 1) = nl at *
    have HNB := Lib.hid hnb
    have HNL := Lib.hid hnl
    have hnb8 : (nb : Int) < 4294967296 := by have := x0.toNat_lt; have := x1.toNat_lt; have := x2.toNat_lt; have := x3.toNat_lt; omega
    clear h0 h1 h2 h3 h4 q0 q1 q2 q3 q4 hcell hnb hnl
    go_upto_region 5 with (fail)
    refine wp_region_held_drew (S := fun z => Frm [] w z) (by kernel_rfl) (HF.out.drew) (fun hHeld => ?_)
    refine wpAnyH_take (i := 0) (oi := ⟨some 21, .move (.tmp 0), _, _, _, none⟩) (v := ?_) rfl (by kernel_rfl) (by kernel_rfl) (by kernel_rfl) (fun _ _ _ h => h) (Or.inl ⟨by rfl, ?_⟩) hHeld ?_
    rotate_left
    focus (intro z hSw; clear hSw; go_simp; try with_reducible rfl)
    try simp only [Act.put, List.setIfInBounds_toArray, List.set_cons_zero, List.set_cons_succ]
    refine wpAnyH_take (i := 1) (oi := ⟨some 22, .indexAddr 31 (.tmp 21) (.const (.int .i64 10)), _, _, _, none⟩) (v := ?_) rfl (by kernel_rfl) (by kernel_rfl) (by kernel_rfl) (fun _ _ _ h => h) (Or.inl ⟨by rfl, ?_⟩) hHeld ?_
    rotate_left
    focus (intro z hSw; clear hSw; go_simp; try with_reducible rfl)
    try simp only [Act.put, List.setIfInBounds_toArray, List.set_cons_zero, List.set_cons_succ]
    refine wpAnyH_take (i := 2) (oi := ⟨some 23, .load 5 (.tmp 22), _, _, _, none⟩) (v := ?_) rfl (by kernel_rfl) (by kernel_rfl) (by kernel_rfl) (fun _ _ _ h => h) (Or.inl ⟨by rfl, ?_⟩) hHeld ?_
    rotate_left
    focus (intro z hSw; have c0 := Q0.out z hSw; have c1 := Q1.out z hSw; have c2 := Q2.out z hSw; have c3 := Q3.out z hSw; have c4 := Q4.out z hSw; clear hSw; go_simp; try with_reducible rfl)
    try simp only [Act.put, List.setIfInBounds_toArray, List.set_cons_zero, List.set_cons_succ]
    refine wpAnyH_take (i := 3) (oi := ⟨some 24, .convert 5 3 (.tmp 23), _, _, _, none⟩) (v := ?_) rfl (by kernel_rfl) (by kernel_rfl) (by kernel_rfl) (fun _ _ _ h => h) (Or.inl ⟨by rfl, ?_⟩) hHeld ?_
    rotate_left
    focus (intro z hSw; clear hSw; go_simp; try with_reducible rfl)
    try simp only [Act.put, List.setIfInBounds_toArray, List.set_cons_zero, List.set_cons_succ]
    refine wpAnyH_take (i := 4) (oi := ⟨some 25, .binOp .shl 3 (.tmp 24) (.const (.int .u64 24)) 144, _, _, _, none⟩) (v := ?_) rfl (by kernel_rfl) (by kernel_rfl) (by kernel_rfl) (fun _ _ _ h => h) (Or.inl ⟨by rfl, ?_⟩) hHeld ?_
    rotate_left
    focus (intro z hSw; clear hSw; go_simp; try with_reducible rfl)
    try simp only [Act.put, List.setIfInBounds_toArray, List.set_cons_zero, List.set_cons_succ]
    refine wpAnyH_take (i := 5) (oi := ⟨some 26, .move (.tmp 0), _, _, _, none⟩) (v := ?_) rfl (by kernel_rfl) (by kernel_rfl) (by kernel_rfl) (fun _ _ _ h => h) (Or.inl ⟨by rfl, ?_⟩) hHeld ?_
    rotate_left
    focus (intro z hSw; clear hSw; go_simp; try with_reducible rfl)
    try simp only [Act.put, List.setIfInBounds_toArray, List.set_cons_zero, List.set_cons_succ]
    refine wpAnyH_take (i := 6) (oi := ⟨some 27, .indexAddr 31 (.tmp 26) (.const (.int .i64 11)), _, _, _, none⟩) (v := ?_) rfl (by kernel_rfl) (by kernel_rfl) (by kernel_rfl) (fun _ _ _ h => h) (Or.inl ⟨by rfl, ?_⟩) hHeld ?_
    rotate_left
    focus (intro z hSw; clear hSw; go_simp; try with_reducible rfl)
    try simp only [Act.put, List.setIfInBounds_toArray, List.set_cons_zero, List.set_cons_succ]
    refine wpAnyH_take (i := 7) (oi := ⟨some 28, .load 5 (.tmp 27), _, _, _, none⟩) (v := ?_) rfl (by kernel_rfl) (by kernel_rfl) (by kernel_rfl) (fun _ _ _ h => h) (Or.inl ⟨by rfl, ?_⟩) hHeld ?_
    rotate_left
    focus (intro z hSw; have c0 := Q0.out z hSw; have c1 := Q1.out z hSw; have c2 := Q2.out z hSw; have c3 := Q3.out z hSw; have c4 := Q4.out z hSw; clear hSw; go_simp; try with_reducible rfl)
    try simp only [Act.put, List.setIfInBounds_toArray, List.set_cons_zero, List.set_cons_succ]
    refine wpAnyH_take (i := 8) (oi := ⟨some 29, .convert 5 3 (.tmp 28), _, _, _, none⟩) (v := ?_) rfl (by kernel_rfl) (by kernel_rfl) (by kernel_rfl) (fun _ _ _ h => h) (Or.inl ⟨by rfl, ?_⟩) hHeld ?_
    rotate_left
    focus (intro z hSw; clear hSw; go_simp; try with_reducible rfl)
    try simp only [Act.put, List.setIfInBounds_toArray, List.set_cons_zero, List.set_cons_succ]
    refine wpAnyH_take (i := 9) (oi := ⟨some 30, .binOp .shl 3 (.tmp 29) (.const (.int .u64 16)) 144, _, _, _, none⟩) (v := ?_) rfl (by kernel_rfl) (by kernel_rfl) (by kernel_rfl) (fun _ _ _ h => h) (Or.inl ⟨by rfl, ?_⟩) hHeld ?_
    rotate_left
    focus (intro z hSw; clear hSw; go_simp; try with_reducible rfl)
    try simp only [Act.put, List.setIfInBounds_toArray, List.set_cons_zero, List.set_cons_succ]
    refine wpAnyH_take (i := 10) (oi := ⟨some 31, .binOp .add 3 (.tmp 25) (.tmp 30) 3, _, _, _, none⟩) (v := ?_) rfl (by kernel_rfl) (by kernel_rfl) (by kernel_rfl) (fun _ _ _ h => h) (Or.inl ⟨by rfl, ?_⟩) hHeld ?_
    rotate_left
    focus (intro z hSw; clear hSw; go_simp; try with_reducible rfl)
    try simp only [Act.put, List.setIfInBounds_toArray, List.set_cons_zero, List.set_cons_succ]
    refine wpAnyH_take (i := 11) (oi := ⟨some 32, .move (.tmp 0), _, _, _, none⟩) (v := ?_) rfl (by kernel_rfl) (by kernel_rfl) (by kernel_rfl) (fun _ _ _ h => h) (Or.inl ⟨by rfl, ?_⟩) hHeld ?_
    rotate_left
    focus (intro z hSw; clear hSw; go_simp; try with_reducible rfl)
    try simp only [Act.put, List.setIfInBounds_toArray, List.set_cons_zero, List.set_cons_succ]
    refine wpAnyH_take (i := 12) (oi := ⟨some 33, .indexAddr 31 (.tmp 32) (.const (.int .i64 12)), _, _, _, none⟩) (v := ?_) rfl (by kernel_rfl) (by kernel_rfl) (by kernel_rfl) (fun _ _ _ h => h) (Or.inl ⟨by rfl, ?_⟩) hHeld ?_
    rotate_left
    focus (intro z hSw; clear hSw; go_simp; try with_reducible rfl)
    try simp only [Act.put, List.setIfInBounds_toArray, List.set_cons_zero, List.set_cons_succ]
    refine wpAnyH_take (i := 13) (oi := ⟨some 34, .load 5 (.tmp 33), _, _, _, none⟩) (v := ?_) rfl (by kernel_rfl) (by kernel_rfl) (by kernel_rfl) (fun _ _ _ h => h) (Or.inl ⟨by rfl, ?_⟩) hHeld ?_
    rotate_left
    focus (intro z hSw; have c0 := Q0.out z hSw; have c1 := Q1.out z hSw; have c2 := Q2.out z hSw; have c3 := Q3.out z hSw; have c4 := Q4.out z hSw; clear hSw; go_simp; try with_reducible rfl)
    try simp only [Act.put, List.setIfInBounds_toArray, List.set_cons_zero, List.set_cons_succ]
    refine wpAnyH_take (i := 14) (oi := ⟨some 35, .convert 5 3 (.tmp 34), _, _, _, none⟩) (v := ?_) rfl (by kernel_rfl) (by kernel_rfl) (by kernel_rfl) (fun _ _ _ h => h) (Or.inl ⟨by rfl, ?_⟩) hHeld ?_
    rotate_left
    focus (intro z hSw; clear hSw; go_simp; try with_reducible rfl)
    try simp only [Act.put, List.setIfInBounds_toArray, List.set_cons_zero, List.set_cons_succ]
    refine wpAnyH_take (i := 15) (oi := ⟨some 36, .binOp .shl 3 (.tmp 35) (.const (.int .u64 8)) 144, _, _, _, none⟩) (v := ?_) rfl (by kernel_rfl) (by kernel_rfl) (by kernel_rfl) (fun _ _ _ h => h) (Or.inl ⟨by rfl, ?_⟩) hHeld ?_
    rotate_left
    focus (intro z hSw; clear hSw; go_simp; try with_reducible rfl)
    try simp only [Act.put, List.setIfInBounds_toArray, List.set_cons_zero, List.set_cons_succ]
    refine wpAnyH_take (i := 16) (oi := ⟨some 37, .binOp .add 3 (.tmp 31) (.tmp 36) 3, _, _, _, none⟩) (v := ?_) rfl (by kernel_rfl) (by kernel_rfl) (by kernel_rfl) (fun _ _ _ h => h) (Or.inl ⟨by rfl, ?_⟩) hHeld ?_
    rotate_left
    focus (intro z hSw; clear hSw; go_simp; try with_reducible rfl)
    try simp only [Act.put, List.setIfInBounds_toArray, List.set_cons_zero, List.set_cons_succ]
    refine wpAnyH_take (i := 17) (oi := ⟨some 38, .move (.tmp 0), _, _, _, none⟩) (v := ?_) rfl (by kernel_rfl) (by kernel_rfl) (by kernel_rfl) (fun _ _ _ h => h) (Or.inl ⟨by rfl, ?_⟩) hHeld ?_
    rotate_left
    focus (intro z hSw; clear hSw; go_simp; try with_reducible rfl)
    try simp only [Act.put, List.setIfInBounds_toArray, List.set_cons_zero, List.set_cons_succ]
    refine wpAnyH_take (i := 18) (oi := ⟨some 39, .indexAddr 31 (.tmp 38) (.const (.int .i64 13)), _, _, _, none⟩) (v := ?_) rfl (by kernel_rfl) (by kernel_rfl) (by kernel_rfl) (fun _ _ _ h => h) (Or.inl ⟨by rfl, ?_⟩) hHeld ?_
    rotate_left
    focus (intro z hSw; clear hSw; go_simp; try with_reducible rfl)
    try simp only [Act.put, List.setIfInBounds_toArray, List.set_cons_zero, List.set_cons_succ]
    refine wpAnyH_take (i := 19) (oi := ⟨some 40, .load 5 (.tmp 39), _, _, _, none⟩) (v := ?_) rfl (by kernel_rfl) (by kernel_rfl) (by kernel_rfl) (fun _ _ _ h => h) (Or.inl ⟨by rfl, ?_⟩) hHeld ?_
    rotate_left
    focus (intro z hSw; have c0 := Q0.out z hSw; have c1 := Q1.out z hSw; have c2 := Q2.out z hSw; have c3 := Q3.out z hSw; have c4 := Q4.out z hSw; clear hSw; go_simp; try with_reducible rfl)
    try simp only [Act.put, List.setIfInBounds_toArray, List.set_cons_zero, List.set_cons_succ]
    refine wpAnyH_take (i := 20) (oi := ⟨some 41, .convert 5 3 (.tmp 40), _, _, _, none⟩) (v := ?_) rfl (by kernel_rfl) (by kernel_rfl) (by kernel_rfl) (fun _ _ _ h => h) (Or.inl ⟨by rfl, ?_⟩) hHeld ?_
    rotate_left
    focus (intro z hSw; clear hSw; go_simp; try with_reducible rfl)
    try simp only [Act.put, List.setIfInBounds_toArray, List.set_cons_zero, List.set_cons_succ]
    refine wpAnyH_take (i := 21) (oi := ⟨some 42, .binOp .add 3 (.tmp 37) (.tmp 41) 3, _, _, _, none⟩) (v := ?_) rfl (by kernel_rfl) (by kernel_rfl) (by kernel_rfl) (fun _ _ _ h => h) (Or.inl ⟨by rfl, ?_⟩) hHeld ?_
    rotate_left
    focus (intro z hSw; clear hSw; go_simp; try with_reducible rfl)
    try simp only [Act.put, List.setIfInBounds_toArray, List.set_cons_zero, List.set_cons_succ]
    refine wpAnyH_take (i := 22) (oi := ⟨some 43, .move (.tmp 0), _, _, _, none⟩) (v := ?_) rfl (by kernel_rfl) (by kernel_rfl) (by kernel_rfl) (fun _ _ _ h => h) (Or.inl ⟨by rfl, ?_⟩) hHeld ?_
    rotate_left
    focus (intro z hSw; clear hSw; go_simp; try with_reducible rfl)
    try simp only [Act.put, List.setIfInBounds_toArray, List.set_cons_zero, List.set_cons_succ]
    refine wpAnyH_take (i := 23) (oi := ⟨some 44, .indexAddr 31 (.tmp 43) (.const (.int .i64 14)), _, _, _, none⟩) (v := ?_) rfl (by kernel_rfl) (by kernel_rfl) (by kernel_rfl) (fun _ _ _ h => h) (Or.inl ⟨by rfl, ?_⟩) hHeld ?_
    rotate_left
    focus (intro z hSw; clear hSw; go_simp; try with_reducible rfl)
    try simp only [Act.put, List.setIfInBounds_toArray, List.set_cons_zero, List.set_cons_succ]
    refine wpAnyH_take (i := 24) (oi := ⟨some 45, .load 5 (.tmp 44), _, _, _, none⟩) (v := ?_) rfl (by kernel_rfl) (by kernel_rfl) (by kernel_rfl) (fun _ _ _ h => h) (Or.inl ⟨by rfl, ?_⟩) hHeld ?_
    rotate_left
    focus (intro z hSw; have c0 := Q0.out z hSw; have c1 := Q1.out z hSw; have c2 := Q2.out z hSw; have c3 := Q3.out z hSw; have c4 := Q4.out z hSw; clear hSw; go_simp; try with_reducible rfl)
    try simp only [Act.put, List.setIfInBounds_toArray, List.set_cons_zero, List.set_cons_succ]
    refine wpAnyH_take (i := 25) (oi := ⟨some 46, .convert 5 3 (.tmp 45), _, _, _, none⟩) (v := ?_) rfl (by kernel_rfl) (by kernel_rfl) (by kernel_rfl) (fun _ _ _ h => h) (Or.inl ⟨by rfl, ?_⟩) hHeld ?_
    rotate_left
    focus (intro z hSw; clear hSw; go_simp; try with_reducible rfl)
    try simp only [Act.put, List.setIfInBounds_toArray, List.set_cons_zero, List.set_cons_succ]
    refine wpAnyH_take (i := 26) (oi := ⟨some 47, .build 54 #[(1, .tmp 42), (2, .tmp 46)], _, _, _, none⟩) rfl (by kernel_rfl) (by kernel_rfl) (by kernel_rfl) (fun _ _ _ h => h) (Or.inl ⟨by rfl, fun z hSw => exec_bld12 (.tmp 42) (.tmp 46) rfl rfl rfl z⟩) hHeld ?_
    try simp only [Act.put, List.setIfInBounds_toArray, List.set_cons_zero, List.set_cons_succ]
    refine wpAnyH_ready (rs := [27]) (by kernel_rfl) (by simp) ?_
    refine AllReadyH.cons (o := ⟨some 4, .alloc 54, _, _, _, none⟩) rfl (fun K hK => ?_) AllReadyH.nil
    refine step_val (v := .pointer (some ⟨W.heap.size, 0, none⟩)) (w' := W.drew.alloc (.cells (pc (.slice none 0 0) 0 0 zs).toArray 54)) rfl (exec_alloc26z rfl W.drew) ?_
    refine hK.out _ _ ?_ (fun hNext => ?_)
    · exact hHeld.alloc _
    clear hK K hHeld
    have hHeld := hNext
    clear hNext
    try simp only [Act.put, List.setIfInBounds_toArray, List.set_cons_zero, List.set_cons_succ]
    refine wpAnyH_ready (rs := [28]) (by kernel_rfl) (by simp) ?_
    refine AllReadyH.cons (o := ⟨none, .store 54 (.tmp 4) (.tmp 47), _, _, _, none⟩) rfl (fun K hK => ?_) AllReadyH.nil
    rw [if_pos (by rfl)]
    refine wp_store_row 54 (.tmp 4) (.tmp 47) rfl W.heap.size _ rfl rfl 54 _ (heap_alloc_new W.drew _) (by rw [i26, pc_size]; rfl) (by simp only [pc_size]; rfl) (pc_one _ _ _) ?_
    refine hK.out _ _ ?_ (fun hNext => ?_)
    · exact hHeld.trans (L' := [W.heap.size]) ⟨rfl, rfl, rfl, by simp [World.setRow], fun k hk hn => setRow_other _ _ k _ (by simpa using hn)⟩ (fun i hi => .inr (by simp at hi; subst hi; exact HF.out.size))
    clear hK K hHeld
    have hHeld := hNext
    clear hNext
    try simp only [Act.put, List.setIfInBounds_toArray, List.set_cons_zero, List.set_cons_succ]
    refine wpAnyH_done (by kernel_rfl) ?_ _
    have e0 : IntKind.i64.wrap (IntKind.i64.wrap ↑x0.toNat * 16777216) = x0.toNat * 16777216 := by have := x0.toNat_lt; rw [IntWalk.i64_in (x0.toNat : Int) (by omega)]; exact IntWalk.i64_in _ (by omega)
    have e1 : IntKind.i64.wrap (IntKind.i64.wrap ↑x1.toNat * 65536) = x1.toNat * 65536 := by have := x1.toNat_lt; rw [IntWalk.i64_in (x1.toNat : Int) (by omega)]; exact IntWalk.i64_in _ (by omega)
    have e2 : IntKind.i64.wrap (IntKind.i64.wrap ↑x2.toNat * 256) = x2.toNat * 256 := by have := x2.toNat_lt; rw [IntWalk.i64_in (x2.toNat : Int) (by omega)]; exact IntWalk.i64_in _ (by omega)
    have e3 : IntKind.i64.wrap ↑x3.toNat = x3.toNat := by have := x3.toNat_lt; exact IntWalk.i64_in _ (by omega)
    have e4 : IntKind.i64.wrap ↑x4.toNat = nl := by have := x4.toNat_lt; rw [HNL.out]; exact IntWalk.i64_in _ (by omega)
    have e5 : IntKind.i64.wrap (IntKind.i64.wrap (IntKind.i64.wrap (x0.toNat * 16777216 + x1.toNat * 65536) + x2.toNat * 256) + x3.toNat) = nb := by
      have := HNB.out
      rw [IntWalk.i64_in (x0.toNat * 16777216 + x1.toNat * 65536 : Int) (by omega), IntWalk.i64_in (x0.toNat * 16777216 + x1.toNat * 65536 + x2.toNat * 256 : Int) (by omega)]
      rw [IntWalk.i64_in _ (by omega)]
      omega
    rw [e0, e1, e2, e3, e4, e5]
    have hPB : PB ((W.drew.alloc (.cells (pc (.slice none 0 0) 0 0 zs).toArray 54)).setRow W.heap.size (pc (.slice none 0 0) nb nl (List.replicate 32 0)).toArray) W.heap.size (.slice none 0 0) nb nl (List.replicate 32 0) := setRow_heap _ W.heap.size _ _ 54 (0, 0) (heap_alloc_new W.drew _)
    have fV : Frm [] W ((W.drew.alloc (.cells (pc (.slice none 0 0) 0 0 zs).toArray 54)).setRow W.heap.size (pc (.slice none 0 0) nb nl (List.replicate 32 0)).toArray) := ((Frm.refl [] W).drew.alloc _).trans (L' := [W.heap.size]) ⟨rfl, rfl, rfl, by simp [World.setRow], fun k hk hn => setRow_other _ _ k _ (by simpa using hn)⟩ (by simp)
    clear e0 e1 e2 e3 e4 e5 hHeld Q0 Q1 Q2 Q3 Q4 HNB HNL
    generalize (W.drew.alloc (.cells (pc (.slice none 0 0) 0 0 zs).toArray 54)).setRow W.heap.size (pc (.slice none 0 0) nb nl (List.replicate 32 0)).toArray = V at *
    have HPB := Lib.hid hPB
    have FV := Lib.hid fV
    clear hPB fV
    obtain ⟨xb, hxb⟩ : ∃ xb : UInt8, xb = l[0]'(by have := H47.out; omega) := ⟨_, rfl⟩
    have hnx : rawN l = xb.toNat := by have h := be1_get l 0 (by have := H47.out; omega); rw [List.drop_zero] at h; rw [hxb]; exact h
    have qb := fun W' (f : Frm [] w W') => HCELL.out 0 (by omega) W' f
    rw [← hxb] at qb
    have QB := Lib.hid qb
    have hwb : IntKind.i64.wrap (xb.toNat : Int) = xb.toNat := by have := xb.toNat_lt; exact IntWalk.i64_in _ (by omega)
    obtain ⟨n3, hn3⟩ : ∃ n3, n3 = min (rawN l) 3 := ⟨_, rfl⟩
    rw [← hn3] at HP3
    rw [hnx] at hn3
    have HN3 := Lib.hid hn3
    have h39 : n3 ≤ 3 := by omega
    clear hxb hnx qb hn3
    generalize pv (.slice none 0 0) nb nl (List.replicate 32 0) = x47
    go_wp2_with fail
    go_loopw [5] (RawRel l n3 W.heap.size nb nl W) (fun cv _ => n3 - (intOf cv).toNat)
    case atStart => exact ⟨0, none, 0, [], by omega, rfl, HPB.out, OwnA.nil _ _, by simp [blk], FV.out⟩
    case round =>
      obtain ⟨k, xa, xc, xsp, hk, rfl, pb, o, nb4, f⟩ := hrel
      have PBk := Lib.hid pb
      have Ok := Lib.hid o
      have NB := Lib.hid nb4
      have Fk := Lib.hid f
      have Fw := Lib.hid (HF.out.trans f (by simp))
      clear pb o nb4 f HPB FV
      have cb : wr.cell? ⟨b, off, none⟩ = some (.int .u8 xb.toNat) := by simpa using QB.out wr Fw.out
      by_cases hlt : k < n3
      · have hk1 : (k : Int) < (xb.toNat : Int) := by have := HN3.out; omega
        have hk2 : (k : Int) < 3 := by omega
        obtain ⟨q, hq⟩ : ∃ q, q = 1 + 3 * k := ⟨_, rfl⟩
        obtain ⟨q1, hq1⟩ : ∃ q1, q1 = q + 1 := ⟨_, rfl⟩
        obtain ⟨q2, hq2⟩ : ∃ q2, q2 = q + 2 := ⟨_, rfl⟩
        have hl47 := H47.out
        obtain ⟨x0, hx0⟩ : ∃ x0 : UInt8, x0 = l[q]'(by omega) := ⟨_, rfl⟩
        obtain ⟨x1, hx1⟩ : ∃ x1 : UInt8, x1 = l[q1]'(by omega) := ⟨_, rfl⟩
        obtain ⟨x2, hx2⟩ : ∃ x2 : UInt8, x2 = l[q2]'(by omega) := ⟨_, rfl⟩
        have p0 := fun W' (f : Frm [] w W') => HCELL.out q (by omega) W' f
        have p1 := fun W' (f : Frm [] w W') => HCELL.out q1 (by omega) W' f
        have p2 := fun W' (f : Frm [] w W') => HCELL.out q2 (by omega) W' f
        rw [← hx0] at p0
        rw [← hx1] at p1
        rw [← hx2] at p2
        have P0 := Lib.hid p0
        have P1 := Lib.hid p1
        have P2 := Lib.hid p2
        obtain ⟨y1, hy1⟩ : ∃ y1 : Nat, y1 = x0.toNat := ⟨_, rfl⟩
        obtain ⟨y2, hy2⟩ : ∃ y2 : Nat, y2 = x1.toNat * 256 + x2.toNat := ⟨_, rfl⟩
        have hx : rawAd l k = ((y1 : Int), (y2 : Int)) := by
          unfold rawAd
          have e3 : q2 = q1 + 1 := by omega
          subst hy1 hy2 hx0 hx1 hx2
          rw [show 2 + 3 * k = q1 by omega, show 1 + 3 * k = q by omega, be1_get _ _ (by omega), be2_get _ _ (by omega)]
          subst e3
          rfl
        have HX := Lib.hid hx
        have b0 := x0.toNat_lt
        have b1 := x1.toNat_lt
        have b2 := x2.toNat_lt
        have v1 : IntKind.i64.wrap (x0.toNat : Int) = (y1 : Int) := by rw [hy1]; exact IntWalk.i64_in _ (by omega)
        have v2 : IntKind.i64.wrap (x1.toNat : Int) = (x1.toNat : Int) := IntWalk.i64_in _ (by omega)
        have v3 : IntKind.i64.wrap (256 * (x1.toNat : Int)) = 256 * (x1.toNat : Int) := IntWalk.i64_in _ (by omega)
        have v4 : IntKind.i64.wrap (x2.toNat : Int) = (x2.toNat : Int) := IntWalk.i64_in _ (by omega)
        have v5 : IntKind.i64.wrap (256 * (x1.toNat : Int) + (x2.toNat : Int)) = (y2 : Int) := by rw [IntWalk.i64_in _ (by omega)]; omega
        have u0 : IntKind.i64.wrap (3 * (k : Int)) = 3 * (k : Int) := IntWalk.i64_in _ (by omega)
        have u1 : IntKind.i64.wrap (1 + 3 * (k : Int)) = (q : Int) := by rw [IntWalk.i64_in _ (by omega)]; omega
        have u2 : IntKind.i64.wrap (2 + 3 * (k : Int)) = (q1 : Int) := by rw [IntWalk.i64_in _ (by omega)]; omega
        have u3 : IntKind.i64.wrap (3 + 3 * (k : Int)) = (q2 : Int) := by rw [IntWalk.i64_in _ (by omega)]; omega
        have l0 : (q : Int) < 47 := by omega
        have l1 : (q1 : Int) < 47 := by omega
        have l2 : (q2 : Int) < 47 := by omega
        have c0 := (PBk.out.gets (by simp)).c0
        have hlenr : ((List.range k).map (rawAd l)).length = k := by simp
        have HLR := Lib.hid hlenr
        clear hq hq1 hq2 hl47 hx0 hx1 hx2 p0 p1 p2 hy1 hy2 hx hlenr b0 b1 b2
        generalize (x1.toNat : Int) = e1 at *
        generalize (x2.toNat : Int) = e2 at *
        generalize (x0.toNat : Int) = e0 at *
        go_upto_region 9 with (fail)
        refine wp_region_held_drew (S := fun z => Frm [] w z) (by kernel_rfl) (Fw.out.drew) (fun hHeld => ?_)
        refine wpAnyH_take (i := 0) (oi := ⟨some 60, .fieldAddr 54 (.tmp 4) 0, _, _, _, none⟩) (v := ?_) rfl (by kernel_rfl) (by kernel_rfl) (by kernel_rfl) (fun _ _ _ h => h) (Or.inl ⟨by rfl, ?_⟩) hHeld ?_
        rotate_left
        focus (intro z hSw; clear hSw; go_simp; try with_reducible rfl)
        try simp only [Act.put, List.setIfInBounds_toArray, List.set_cons_zero, List.set_cons_succ]
        refine wpAnyH_take (i := 2) (oi := ⟨some 62, .move (.tmp 0), _, _, _, none⟩) (v := ?_) rfl (by kernel_rfl) (by kernel_rfl) (by kernel_rfl) (fun _ _ _ h => h) (Or.inl ⟨by rfl, ?_⟩) hHeld ?_
        rotate_left
        focus (intro z hSw; clear hSw; go_simp; try with_reducible rfl)
        try simp only [Act.put, List.setIfInBounds_toArray, List.set_cons_zero, List.set_cons_succ]
        refine wpAnyH_take (i := 3) (oi := ⟨some 63, .move (.tmp 5), _, _, _, none⟩) (v := ?_) rfl (by kernel_rfl) (by kernel_rfl) (by kernel_rfl) (fun _ _ _ h => h) (Or.inl ⟨by rfl, ?_⟩) hHeld ?_
        rotate_left
        focus (intro z hSw; clear hSw; go_simp; try with_reducible rfl)
        try simp only [Act.put, List.setIfInBounds_toArray, List.set_cons_zero, List.set_cons_succ]
        refine wpAnyH_take (i := 4) (oi := ⟨some 64, .binOp .mul 3 (.const (.int .i64 3)) (.tmp 63) 3, _, _, _, none⟩) (v := ?_) rfl (by kernel_rfl) (by kernel_rfl) (by kernel_rfl) (fun _ _ _ h => h) (Or.inl ⟨by rfl, ?_⟩) hHeld ?_
        rotate_left
        focus (intro z hSw; clear hSw; go_simp; try with_reducible rfl)
        try simp only [Act.put, List.setIfInBounds_toArray, List.set_cons_zero, List.set_cons_succ]
        refine wpAnyH_take (i := 5) (oi := ⟨some 65, .binOp .add 3 (.const (.int .i64 1)) (.tmp 64) 3, _, _, _, none⟩) (v := ?_) rfl (by kernel_rfl) (by kernel_rfl) (by kernel_rfl) (fun _ _ _ h => h) (Or.inl ⟨by rfl, ?_⟩) hHeld ?_
        rotate_left
        focus (intro z hSw; clear hSw; go_simp; try with_reducible rfl)
        try simp only [Act.put, List.setIfInBounds_toArray, List.set_cons_zero, List.set_cons_succ]
        refine wpAnyH_take (i := 6) (oi := ⟨some 66, .indexAddr 31 (.tmp 62) (.tmp 65), _, _, _, none⟩) (v := ?_) rfl (by kernel_rfl) (by kernel_rfl) (by kernel_rfl) (fun _ _ _ h => h) (Or.inl ⟨by rfl, ?_⟩) hHeld ?_
        rotate_left
        focus (intro z hSw; clear hSw; go_simp; try with_reducible rfl)
        try simp only [Act.put, List.setIfInBounds_toArray, List.set_cons_zero, List.set_cons_succ]
        refine wpAnyH_take (i := 7) (oi := ⟨some 67, .load 5 (.tmp 66), _, _, _, none⟩) (v := ?_) rfl (by kernel_rfl) (by kernel_rfl) (by kernel_rfl) (fun _ _ _ h => h) (Or.inl ⟨by rfl, ?_⟩) hHeld ?_
        rotate_left
        focus (intro z hSw; have d0 := P0.out z hSw; have d1 := P1.out z hSw; have d2 := P2.out z hSw; clear hSw; go_simp; try with_reducible rfl)
        try simp only [Act.put, List.setIfInBounds_toArray, List.set_cons_zero, List.set_cons_succ]
        refine wpAnyH_take (i := 8) (oi := ⟨some 68, .convert 5 3 (.tmp 67), _, _, _, none⟩) (v := ?_) rfl (by kernel_rfl) (by kernel_rfl) (by kernel_rfl) (fun _ _ _ h => h) (Or.inl ⟨by rfl, ?_⟩) hHeld ?_
        rotate_left
        focus (intro z hSw; clear hSw; go_simp; try with_reducible rfl)
        try simp only [Act.put, List.setIfInBounds_toArray, List.set_cons_zero, List.set_cons_succ]
        refine wpAnyH_take (i := 9) (oi := ⟨some 69, .move (.tmp 0), _, _, _, none⟩) (v := ?_) rfl (by kernel_rfl) (by kernel_rfl) (by kernel_rfl) (fun _ _ _ h => h) (Or.inl ⟨by rfl, ?_⟩) hHeld ?_
        rotate_left
        focus (intro z hSw; clear hSw; go_simp; try with_reducible rfl)
        try simp only [Act.put, List.setIfInBounds_toArray, List.set_cons_zero, List.set_cons_succ]
        refine wpAnyH_take (i := 10) (oi := ⟨some 70, .move (.tmp 5), _, _, _, none⟩) (v := ?_) rfl (by kernel_rfl) (by kernel_rfl) (by kernel_rfl) (fun _ _ _ h => h) (Or.inl ⟨by rfl, ?_⟩) hHeld ?_
        rotate_left
        focus (intro z hSw; clear hSw; go_simp; try with_reducible rfl)
        try simp only [Act.put, List.setIfInBounds_toArray, List.set_cons_zero, List.set_cons_succ]
        refine wpAnyH_take (i := 11) (oi := ⟨some 71, .binOp .mul 3 (.const (.int .i64 3)) (.tmp 70) 3, _, _, _, none⟩) (v := ?_) rfl (by kernel_rfl) (by kernel_rfl) (by kernel_rfl) (fun _ _ _ h => h) (Or.inl ⟨by rfl, ?_⟩) hHeld ?_
        rotate_left
        focus (intro z hSw; clear hSw; go_simp; try with_reducible rfl)
        try simp only [Act.put, List.setIfInBounds_toArray, List.set_cons_zero, List.set_cons_succ]
        refine wpAnyH_take (i := 12) (oi := ⟨some 72, .binOp .add 3 (.const (.int .i64 2)) (.tmp 71) 3, _, _, _, none⟩) (v := ?_) rfl (by kernel_rfl) (by kernel_rfl) (by kernel_rfl) (fun _ _ _ h => h) (Or.inl ⟨by rfl, ?_⟩) hHeld ?_
        rotate_left
        focus (intro z hSw; clear hSw; go_simp; try with_reducible rfl)
        try simp only [Act.put, List.setIfInBounds_toArray, List.set_cons_zero, List.set_cons_succ]
        refine wpAnyH_take (i := 13) (oi := ⟨some 73, .indexAddr 31 (.tmp 69) (.tmp 72), _, _, _, none⟩) (v := ?_) rfl (by kernel_rfl) (by kernel_rfl) (by kernel_rfl) (fun _ _ _ h => h) (Or.inl ⟨by rfl, ?_⟩) hHeld ?_
        rotate_left
        focus (intro z hSw; clear hSw; go_simp; try with_reducible rfl)
        try simp only [Act.put, List.setIfInBounds_toArray, List.set_cons_zero, List.set_cons_succ]
        refine wpAnyH_take (i := 14) (oi := ⟨some 74, .load 5 (.tmp 73), _, _, _, none⟩) (v := ?_) rfl (by kernel_rfl) (by kernel_rfl) (by kernel_rfl) (fun _ _ _ h => h) (Or.inl ⟨by rfl, ?_⟩) hHeld ?_
        rotate_left
        focus (intro z hSw; have d0 := P0.out z hSw; have d1 := P1.out z hSw; have d2 := P2.out z hSw; clear hSw; go_simp; try with_reducible rfl)
        try simp only [Act.put, List.setIfInBounds_toArray, List.set_cons_zero, List.set_cons_succ]
        refine wpAnyH_take (i := 15) (oi := ⟨some 75, .convert 5 3 (.tmp 74), _, _, _, none⟩) (v := ?_) rfl (by kernel_rfl) (by kernel_rfl) (by kernel_rfl) (fun _ _ _ h => h) (Or.inl ⟨by rfl, ?_⟩) hHeld ?_
        rotate_left
        focus (intro z hSw; clear hSw; go_simp; try with_reducible rfl)
        try simp only [Act.put, List.setIfInBounds_toArray, List.set_cons_zero, List.set_cons_succ]
        refine wpAnyH_take (i := 16) (oi := ⟨some 76, .binOp .mul 3 (.const (.int .i64 256)) (.tmp 75) 3, _, _, _, none⟩) (v := ?_) rfl (by kernel_rfl) (by kernel_rfl) (by kernel_rfl) (fun _ _ _ h => h) (Or.inl ⟨by rfl, ?_⟩) hHeld ?_
        rotate_left
        focus (intro z hSw; clear hSw; go_simp; try with_reducible rfl)
        try simp only [Act.put, List.setIfInBounds_toArray, List.set_cons_zero, List.set_cons_succ]
        refine wpAnyH_take (i := 17) (oi := ⟨some 77, .move (.tmp 0), _, _, _, none⟩) (v := ?_) rfl (by kernel_rfl) (by kernel_rfl) (by kernel_rfl) (fun _ _ _ h => h) (Or.inl ⟨by rfl, ?_⟩) hHeld ?_
        rotate_left
        focus (intro z hSw; clear hSw; go_simp; try with_reducible rfl)
        try simp only [Act.put, List.setIfInBounds_toArray, List.set_cons_zero, List.set_cons_succ]
        refine wpAnyH_take (i := 18) (oi := ⟨some 78, .move (.tmp 5), _, _, _, none⟩) (v := ?_) rfl (by kernel_rfl) (by kernel_rfl) (by kernel_rfl) (fun _ _ _ h => h) (Or.inl ⟨by rfl, ?_⟩) hHeld ?_
        rotate_left
        focus (intro z hSw; clear hSw; go_simp; try with_reducible rfl)
        try simp only [Act.put, List.setIfInBounds_toArray, List.set_cons_zero, List.set_cons_succ]
        refine wpAnyH_take (i := 19) (oi := ⟨some 79, .binOp .mul 3 (.const (.int .i64 3)) (.tmp 78) 3, _, _, _, none⟩) (v := ?_) rfl (by kernel_rfl) (by kernel_rfl) (by kernel_rfl) (fun _ _ _ h => h) (Or.inl ⟨by rfl, ?_⟩) hHeld ?_
        rotate_left
        focus (intro z hSw; clear hSw; go_simp; try with_reducible rfl)
        try simp only [Act.put, List.setIfInBounds_toArray, List.set_cons_zero, List.set_cons_succ]
        refine wpAnyH_take (i := 20) (oi := ⟨some 80, .binOp .add 3 (.const (.int .i64 3)) (.tmp 79) 3, _, _, _, none⟩) (v := ?_) rfl (by kernel_rfl) (by kernel_rfl) (by kernel_rfl) (fun _ _ _ h => h) (Or.inl ⟨by rfl, ?_⟩) hHeld ?_
        rotate_left
        focus (intro z hSw; clear hSw; go_simp; try with_reducible rfl)
        try simp only [Act.put, List.setIfInBounds_toArray, List.set_cons_zero, List.set_cons_succ]
        refine wpAnyH_take (i := 21) (oi := ⟨some 81, .indexAddr 31 (.tmp 77) (.tmp 80), _, _, _, none⟩) (v := ?_) rfl (by kernel_rfl) (by kernel_rfl) (by kernel_rfl) (fun _ _ _ h => h) (Or.inl ⟨by rfl, ?_⟩) hHeld ?_
        rotate_left
        focus (intro z hSw; clear hSw; go_simp; try with_reducible rfl)
        try simp only [Act.put, List.setIfInBounds_toArray, List.set_cons_zero, List.set_cons_succ]
        refine wpAnyH_take (i := 22) (oi := ⟨some 82, .load 5 (.tmp 81), _, _, _, none⟩) (v := ?_) rfl (by kernel_rfl) (by kernel_rfl) (by kernel_rfl) (fun _ _ _ h => h) (Or.inl ⟨by rfl, ?_⟩) hHeld ?_
        rotate_left
        focus (intro z hSw; have d0 := P0.out z hSw; have d1 := P1.out z hSw; have d2 := P2.out z hSw; clear hSw; go_simp; try with_reducible rfl)
        try simp only [Act.put, List.setIfInBounds_toArray, List.set_cons_zero, List.set_cons_succ]
        refine wpAnyH_take (i := 23) (oi := ⟨some 83, .convert 5 3 (.tmp 82), _, _, _, none⟩) (v := ?_) rfl (by kernel_rfl) (by kernel_rfl) (by kernel_rfl) (fun _ _ _ h => h) (Or.inl ⟨by rfl, ?_⟩) hHeld ?_
        rotate_left
        focus (intro z hSw; clear hSw; go_simp; try with_reducible rfl)
        try simp only [Act.put, List.setIfInBounds_toArray, List.set_cons_zero, List.set_cons_succ]
        refine wpAnyH_take (i := 24) (oi := ⟨some 84, .binOp .add 3 (.tmp 76) (.tmp 83) 3, _, _, _, none⟩) (v := ?_) rfl (by kernel_rfl) (by kernel_rfl) (by kernel_rfl) (fun _ _ _ h => h) (Or.inl ⟨by rfl, ?_⟩) hHeld ?_
        rotate_left
        focus (intro z hSw; clear hSw; go_simp; try with_reducible rfl)
        try simp only [Act.put, List.setIfInBounds_toArray, List.set_cons_zero, List.set_cons_succ]
        refine wpAnyH_take (i := 25) (oi := ⟨some 85, .build 148 #[(0, .tmp 68), (1, .tmp 84)], _, _, _, none⟩) (v := ?_) rfl (by kernel_rfl) (by kernel_rfl) (by kernel_rfl) (fun _ _ _ h => h) (Or.inl ⟨by rfl, ?_⟩) hHeld ?_
        rotate_left
        focus (intro z hSw; clear hSw; go_simp; try with_reducible rfl)
        try simp only [Act.put, List.setIfInBounds_toArray, List.set_cons_zero, List.set_cons_succ]
        refine wpAnyH_ready (rs := [1, 26]) (by kernel_rfl) (by simp) ?_
        refine AllReadyH.cons (o := ⟨some 61, .load 50 (.tmp 60), _, _, _, none⟩) rfl (fun K hK => ?_) ?_
        · have c9 : wr.drew.cell? ⟨W.heap.size, 0, none⟩ = _ := c0
          go_simp
          refine hK.out _ _ ?_ (fun hNext => ?_)
          · exact hHeld
          clear hK K hHeld
          have hHeld := hNext
          clear hNext
          try simp only [Act.put, List.setIfInBounds_toArray, List.set_cons_zero, List.set_cons_succ]
          refine wpAnyH_ready (rs := [26]) (by kernel_rfl) (by simp) ?_
          refine AllReadyH.cons (o := ⟨some 86, .buildSlice 50 1 #[(0, .tmp 85)], _, _, _, none⟩) rfl (fun K hK => ?_) ?_
          · go_simp
            refine hK.out _ _ ?_ (fun hNext => ?_)
            · exact hHeld.alloc _
            clear hK K hHeld
            have hHeld := hNext
            clear hNext
            try simp only [Act.put, List.setIfInBounds_toArray, List.set_cons_zero, List.set_cons_succ]
            refine wpAnyH_ready (rs := [27]) (by kernel_rfl) (by simp) ?_
            refine AllReadyH.cons (o := ⟨some 87, .call { callee := .builtin .append, args := #[.tmp 61, .tmp 86], argTypes := #[50, 50] }, _, _, _, none⟩) rfl (fun K hK => ?_) ?_
            · refine step_append_ads AT (Ok.out.keep ((Frm.refl [] wr).drew.alloc _) (by simp)) (one_slA (x := ((y1 : Int), (y2 : Int))) (heap_alloc_at rfl)) (by rw [HLR.out]; simp; omega) rfl (.tmp 61) (.tmp 86) rfl rfl rfl ?_
              intro xa2 xc2 w10 xsp2 o10 f10 n10
              refine hK.out _ _ ?_ (fun hNext => ?_)
              · exact hHeld.trans f10 (fun i hi => .inr (Nat.le_trans HF.out.size (Nat.le_of_lt (NB.out i hi))))
              clear hK K hHeld
              have hHeld := hNext
              clear hNext
              try simp only [Act.put, List.setIfInBounds_toArray, List.set_cons_zero, List.set_cons_succ]
              refine wpAnyH_take (i := 28) (oi := ⟨some 88, .fieldAddr 54 (.tmp 4) 0, _, _, _, none⟩) (v := ?_) rfl (by kernel_rfl) (by kernel_rfl) (by kernel_rfl) (fun _ _ _ h => h) (Or.inl ⟨by rfl, ?_⟩) hHeld ?_
              rotate_left
              focus (intro z hSw; clear hSw; go_simp; try with_reducible rfl)
              try simp only [Act.put, List.setIfInBounds_toArray, List.set_cons_zero, List.set_cons_succ]
              refine wpAnyH_ready (rs := [29]) (by kernel_rfl) (by simp) ?_
              refine AllReadyH.cons (o := ⟨none, .store 50 (.tmp 88) (.tmp 87), _, _, _, none⟩) rfl (fun K hK => ?_) ?_
              · have pb10 : PB w10 W.heap.size (.slice xa k xc) nb nl (List.replicate 32 0) := (PBk.out.keep ((Frm.refl [] wr).drew.alloc _) (by simp)).keep f10 (fun h => Nat.lt_irrefl _ (NB.out _ h))
                have c10 := (pb10.gets (by simp)).c0
                have z10 : w10.frozen? ⟨W.heap.size, 0, none⟩ = false := frozen_of_heap pb10 0
                go_simp
                refine hK.out _ _ ?_ (fun hNext => ?_)
                · exact hHeld.setCell _ _ (.inr HF.out.size)
                clear hK K hHeld
                have hHeld := hNext
                clear hNext
                try simp only [Act.put, List.setIfInBounds_toArray, List.set_cons_zero, List.set_cons_succ]
                refine wpAnyH_done (by kernel_rfl) ?_ _
                have fwr : Frm [] W w10 := (Fk.out.trans ((Frm.refl [] wr).drew.alloc _) (by simp)).trans f10 (fun i hi => .inr (Nat.le_of_lt (NB.out i hi)))
                have nb10 : ∀ i ∈ blk (.slice xa2 (((List.range k).map (rawAd l)).length + [((y1 : Int), (y2 : Int))].length) xc2), W.heap.size < i := fun i hi => by
                  rcases n10 i hi with h | h
                  · exact NB.out i h
                  · have := Fk.out.size; have := PBk.out.lt; simp at h; omega
                have hsn : (List.range k).map (rawAd l) ++ [((y1 : Int), (y2 : Int))] = (List.range (k + 1)).map (rawAd l) := by rw [List.range_succ, List.map_append, List.map_cons, List.map_nil, HX.out]
                rw [hsn] at o10
                have PB11 := Lib.hid (pb_store (v' := .slice xa2 (k + 1) xc2) pb10)
                have hl1 : ((List.range k).map (rawAd l)).length + [((y1 : Int), (y2 : Int))].length = k + 1 := by simp
                rw [hl1] at o10 nb10
                have O11 := Lib.hid (o10.keep ((Frm.refl [W.heap.size] w10).setCell ⟨W.heap.size, 0, none⟩ (.slice xa2 (k + 1) xc2) (by simp)) (fun i hi => by have := nb10 i hi; simp; omega))
                have FR11 := Lib.hid (fwr.setCell ⟨W.heap.size, 0, none⟩ (.slice xa2 (k + 1) xc2) (.inr (Nat.le_refl _)))
                have NB11 := Lib.hid nb10
                generalize w10.setCell ⟨W.heap.size, 0, none⟩ (.slice xa2 (k + 1) xc2) = w11 at *
                clear hsn hl1 nb10 fwr o10 f10 n10 pb10 c10 z10 c0 u0 u1 u2 u3 v1 v2 v3 v4 v5 hHeld cb
                go_wp2_with fail
                go_roundw
                case rel => exact ⟨k + 1, xa2, xc2, xsp2, by omega, by go_num, PB11.out, O11.out, NB11.out, FR11.out⟩
                case measure => simp [intOf]; omega
              exact AllReadyH.nil
            exact AllReadyH.nil
          exact AllReadyH.nil
        refine AllReadyH.cons (o := ⟨some 86, .buildSlice 50 1 #[(0, .tmp 85)], _, _, _, none⟩) rfl (fun K hK => ?_) ?_
        · go_simp
          refine hK.out _ _ ?_ (fun hNext => ?_)
          · exact hHeld.alloc _
          clear hK K hHeld
          have hHeld := hNext
          clear hNext
          try simp only [Act.put, List.setIfInBounds_toArray, List.set_cons_zero, List.set_cons_succ]
          refine wpAnyH_ready (rs := [1]) (by kernel_rfl) (by simp) ?_
          refine AllReadyH.cons (o := ⟨some 61, .load 50 (.tmp 60), _, _, _, none⟩) rfl (fun K hK => ?_) ?_
          · have c9 : ((wr.alloc (.cells #[.int .i64 y1, .int .i64 y2] 148)).drew).cell? ⟨W.heap.size, 0, none⟩ = _ := (((Frm.refl [] wr).alloc _).drew).cell c0 (by simp)
            go_simp
            refine hK.out _ _ ?_ (fun hNext => ?_)
            · exact hHeld
            clear hK K hHeld
            have hHeld := hNext
            clear hNext
            try simp only [Act.put, List.setIfInBounds_toArray, List.set_cons_zero, List.set_cons_succ]
            refine wpAnyH_ready (rs := [27]) (by kernel_rfl) (by simp) ?_
            refine AllReadyH.cons (o := ⟨some 87, .call { callee := .builtin .append, args := #[.tmp 61, .tmp 86], argTypes := #[50, 50] }, _, _, _, none⟩) rfl (fun K hK => ?_) ?_
            · refine step_append_ads AT (Ok.out.keep ((Frm.refl [] wr).drew.alloc _) (by simp)) (one_slA (x := ((y1 : Int), (y2 : Int))) (heap_alloc_at rfl)) (by rw [HLR.out]; simp; omega) rfl (.tmp 61) (.tmp 86) rfl rfl rfl ?_
              intro xa2 xc2 w10 xsp2 o10 f10 n10
              refine hK.out _ _ ?_ (fun hNext => ?_)
              · exact hHeld.trans f10 (fun i hi => .inr (Nat.le_trans HF.out.size (Nat.le_of_lt (NB.out i hi))))
              clear hK K hHeld
              have hHeld := hNext
              clear hNext
              try simp only [Act.put, List.setIfInBounds_toArray, List.set_cons_zero, List.set_cons_succ]
              refine wpAnyH_take (i := 28) (oi := ⟨some 88, .fieldAddr 54 (.tmp 4) 0, _, _, _, none⟩) (v := ?_) rfl (by kernel_rfl) (by kernel_rfl) (by kernel_rfl) (fun _ _ _ h => h) (Or.inl ⟨by rfl, ?_⟩) hHeld ?_
              rotate_left
              focus (intro z hSw; clear hSw; go_simp; try with_reducible rfl)
              try simp only [Act.put, List.setIfInBounds_toArray, List.set_cons_zero, List.set_cons_succ]
              refine wpAnyH_ready (rs := [29]) (by kernel_rfl) (by simp) ?_
              refine AllReadyH.cons (o := ⟨none, .store 50 (.tmp 88) (.tmp 87), _, _, _, none⟩) rfl (fun K hK => ?_) ?_
              · have pb10 : PB w10 W.heap.size (.slice xa k xc) nb nl (List.replicate 32 0) := (PBk.out.keep ((Frm.refl [] wr).drew.alloc _) (by simp)).keep f10 (fun h => Nat.lt_irrefl _ (NB.out _ h))
                have c10 := (pb10.gets (by simp)).c0
                have z10 : w10.frozen? ⟨W.heap.size, 0, none⟩ = false := frozen_of_heap pb10 0
                go_simp
                refine hK.out _ _ ?_ (fun hNext => ?_)
                · exact hHeld.setCell _ _ (.inr HF.out.size)
                clear hK K hHeld
                have hHeld := hNext
                clear hNext
                try simp only [Act.put, List.setIfInBounds_toArray, List.set_cons_zero, List.set_cons_succ]
                refine wpAnyH_done (by kernel_rfl) ?_ _
                have fwr : Frm [] W w10 := (Fk.out.trans ((Frm.refl [] wr).drew.alloc _) (by simp)).trans f10 (fun i hi => .inr (Nat.le_of_lt (NB.out i hi)))
                have nb10 : ∀ i ∈ blk (.slice xa2 (((List.range k).map (rawAd l)).length + [((y1 : Int), (y2 : Int))].length) xc2), W.heap.size < i := fun i hi => by
                  rcases n10 i hi with h | h
                  · exact NB.out i h
                  · have := Fk.out.size; have := PBk.out.lt; simp at h; omega
                have hsn : (List.range k).map (rawAd l) ++ [((y1 : Int), (y2 : Int))] = (List.range (k + 1)).map (rawAd l) := by rw [List.range_succ, List.map_append, List.map_cons, List.map_nil, HX.out]
                rw [hsn] at o10
                have PB11 := Lib.hid (pb_store (v' := .slice xa2 (k + 1) xc2) pb10)
                have hl1 : ((List.range k).map (rawAd l)).length + [((y1 : Int), (y2 : Int))].length = k + 1 := by simp
                rw [hl1] at o10 nb10
                have O11 := Lib.hid (o10.keep ((Frm.refl [W.heap.size] w10).setCell ⟨W.heap.size, 0, none⟩ (.slice xa2 (k + 1) xc2) (by simp)) (fun i hi => by have := nb10 i hi; simp; omega))
                have FR11 := Lib.hid (fwr.setCell ⟨W.heap.size, 0, none⟩ (.slice xa2 (k + 1) xc2) (.inr (Nat.le_refl _)))
                have NB11 := Lib.hid nb10
                generalize w10.setCell ⟨W.heap.size, 0, none⟩ (.slice xa2 (k + 1) xc2) = w11 at *
                clear hsn hl1 nb10 fwr o10 f10 n10 pb10 c10 z10 c0 u0 u1 u2 u3 v1 v2 v3 v4 v5 hHeld cb
                go_wp2_with fail
                go_roundw
                case rel => exact ⟨k + 1, xa2, xc2, xsp2, by omega, by go_num, PB11.out, O11.out, NB11.out, FR11.out⟩
                case measure => simp [intOf]; omega
              exact AllReadyH.nil
            exact AllReadyH.nil
          exact AllReadyH.nil
        exact AllReadyH.nil
      · obtain rfl : k = n3 := by omega
        have hd : decide ((k : Int) < (xb.toNat : Int)) = false ∨ (decide ((k : Int) < (xb.toNat : Int)) = true ∧ decide ((k : Int) < 3) = false) := by
          have := HN3.out
          rcases Nat.lt_or_ge k xb.toNat with h | h
          · exact .inr ⟨by simp; omega, by simp; omega⟩
          · exact .inl (by simp; omega)
        have HK3 := Lib.hid h39
        clear hlt hk h39
        clear HN3 QB
        generalize (xb.toNat : Int) = zb at *
        generalize (k : Int) = kz at *
        rcases hd with d1 | ⟨d1, d2⟩
        all_goals
          go_upto_region 10 with (fail)
          clear d1
          try clear d2
          generalize (Value.int .i64 kz) = vk
          have FW2 := Lib.hid Fk.out
          go_wp2_with fail
          go_loopw [6] (SumRel l k W.heap.size nb nl xa xc wr) (fun cv _ => 32 - (intOf cv).toNat)
          case atStart => exact ⟨0, by omega, rfl, by simpa using PBk.out, Frm.refl _ _⟩
          case round =>
            obtain ⟨j, hj, rfl, pj, fj⟩ := hrel
            have PJ := Lib.hid pj
            have FJ := Lib.hid fj
            have FJw := Lib.hid (Fw.out.trans fj (fun i hi => .inr (by simp at hi; subst hi; exact HF.out.size)))
            clear pj fj
            by_cases hlt : j < 32
            · obtain ⟨q, hq⟩ : ∃ q, q = 15 + j := ⟨_, rfl⟩
              have hl47 := H47.out
              obtain ⟨x, hx⟩ : ∃ x : UInt8, x = l[q]'(by omega) := ⟨_, rfl⟩
              have cq := HCELL.out q (by omega) wr FJw.out
              rw [← hx] at cq
              have u1 : IntKind.i64.wrap (15 + (j : Int)) = (q : Int) := by rw [IntWalk.i64_in _ (by omega)]; omega
              have l1 : (q : Int) < 47 := by omega
              have l2 : (j : Int) < 32 := by omega
              have l3 : decide ((j : Int) < 32) = true := by simp; omega
              obtain ⟨vv, cg⟩ : ∃ vv, wr.cell? ⟨W.heap.size, 3 + j, none⟩ = some vv := by
                rw [cell_of_heap PJ.out]
                have hsz : 3 + j < (pc (.slice xa k xc) nb nl ((l.drop 15).take j ++ List.replicate (32 - j) 0)).toArray.size := by simp only [pc_size]; simp; omega
                exact ⟨_, Array.getElem?_eq_getElem hsz⟩
              have fg : wr.frozen? ⟨W.heap.size, 3 + j, none⟩ = false := frozen_of_heap PJ.out (3 + j)
              have PN := Lib.hid (pb_sum PJ.out j x)
              have hset : ((l.drop 15).take j ++ List.replicate (32 - j) 0).set j x = (l.drop 15).take (j + 1) ++ List.replicate (32 - (j + 1)) 0 := by
                have hlt' : j < (l.drop 15).length := by rw [List.length_drop]; omega
                have hg : (l.drop 15)[j] = x := by rw [hx, List.getElem_drop]; simp only [hq]
                have htk : ((l.drop 15).take j).length = j := by rw [List.length_take]; omega
                rw [show 32 - j = (32 - (j + 1)) + 1 by omega, List.replicate_succ, List.set_append_right _ _ (by omega), htk, Nat.sub_self, List.set_cons_zero, List.take_succ_eq_append_getElem hlt', hg, List.append_assoc]
                rfl
              have HSET := Lib.hid hset
              clear hq hl47 hx hset
              go_wp2_with fail
              go_roundw
              case rel => exact ⟨j + 1, by omega, by go_num, by rw [← HSET.out]; exact PN.out, FJ.out.setCell _ _ (by simp)⟩
              case measure => simp [intOf]; omega
            · obtain rfl : j = 32 := by omega
              have hs32 : (l.drop 15).length = 32 := by have := H47.out; rw [List.length_drop]; omega
              have hPB : PB wr W.heap.size (.slice xa k xc) nb nl (l.drop 15) := by
                have h := PJ.out
                rw [List.take_of_length_le (by omega), Nat.sub_self, List.replicate_zero, List.append_nil] at h
                exact h
              have hl3 : ((List.range k).map (rawAd l)).length = k := by simp
              have hP : PtV wr (pv (.slice xa k xc) nb nl (l.drop 15)) (rawPt3 l) := by
                rw [HP3.out]
                exact ⟨xa, xc, xsp, by rw [hl3], by rw [hl3]; exact (Ok.out.keep FJ.out (fun i hi => by have := NB.out i hi; simp; omega)).sl, hs32⟩
              have hle : (rawPt3 l).ads.length ≤ 1000000 := by rw [HP3.out]; simp only [hl3]; have := HK3.out; omega
              have HR := Lib.hid (RefBytes_any _ (rawPt3 l) wr hP hle)
              have HPV := Lib.hid hP
              have HG := Lib.hid (good_raw3 H47.out)
              unfold BytesP at HR
              have GG := Lib.hid (hPB.gets hs32)
              have HPB2 := Lib.hid hPB
              have HS32 := Lib.hid hs32
              have F5 := Lib.hid (HF.out.trans (FW2.out.trans FJ.out (fun i hi => .inr (by simp at hi; omega))) (by simp))
              have B1 := Lib.hid ((FW2.out.trans FJ.out (fun i hi => .inr (by simp at hi; omega))).heap HB1.out (by simp))
              have B2 := Lib.hid ((FW2.out.trans FJ.out (fun i hi => .inr (by simp at hi; omega))).heap HB2.out (by simp))
              clear hs32 hPB hl3 hP hle PJ PBk Ok Fk Fw FJ FW2 HCELL HP3
              have hcc : chk (rawPt3 l) = 0 ∨ chk (rawPt3 l) = 2 := by rcases chk_cases (rawPt3 l) with ⟨_, e, _⟩ | ⟨_, e, _⟩; exact .inl e; exact .inr e
              generalize outB (rawPt3 l) = ob at *
              generalize chk (rawPt3 l) = ck at *
              generalize l.drop 15 = s15 at *
              go_upto_region 15 with (first
                | ((with_reducible (show wpList _ _ _ (Oper.mk _ (Op.load 54 _) _ _ _ _ :: _) _ _)); refine wpList_load_g (by rfl) 54 _ rfl _ rfl GG.out.all ?_)
                | (go_at_call 65; refine HR.out.mono ?_; rintro r w5 ⟨oa, oc, osp, rfl, o5, f5, n5⟩))
              have X5 := Lib.hid (HPV.out.keep0 f5)
              have B15 := Lib.hid (f5.heap B1.out (by simp))
              have B25 := Lib.hid (f5.heap B2.out (by simp))
              have P5 := Lib.hid (PB.gets (HPB2.out.keep f5 (by simp)) HS32.out)
              have F6 := Lib.hid (F5.out.trans f5 (by simp))
              have e1 := convert_bytes BT o5.sl Tryz.underlying9
              have e2 := convert_bytes BT (HS.out.keep F6.out (by simp)) Tryz.underlying9
              rw [H47.out] at e2
              clear o5 f5 n5 B1 B2 GG HPB2 F5 HPV
              rcases hcc with hck | hck
              · by_cases hob : ob = l
                · have hg : goodB l = true := by rw [HG.out, hck, hob]; simp
                  subst hck
                  subst hob
                  go_wp2_with (first
                    | ((with_reducible (show wpList _ _ _ (Oper.mk _ (Op.load 54 _) _ _ _ _ :: _) _ _)); refine wpList_load_g (by rfl) 54 _ rfl _ rfl P5.out.all ?_)
                    | (refine wpList_fin rfl rfl (.tmp 2) (.tmp 3) _ _ rfl rfl B15.out zs_len B25.out (by omega) HS32.out rfl rfl rfl rfl ?_; intro V b3 b4 f3))
                  refine bodyPost_ret (results_two (p := 2) (q := 3) rfl _ _ rfl rfl (run_loadVar_row V w.heap.size 54 54 _ (0, 0) _ b3 Tryz.underlying54 rfl (by rw [i26]; simp only [pc_size, HS32.out])) (run_loadVar_row V (w.heap.size + 1) 44 44 _ (0, 0) _ b4 Tryz.underlying44 rfl (by rw [d40]; rfl))) rfl ?_
                  exact readP_yes hg (X5.out.keep f3 (fun i hi => by rw [ptBlk_pv] at hi; have := NB.out i hi; have := HSZ.out; simp; omega)) (F6.out.trans f3 (fun i hi => .inr (by simp at hi; omega))) (fun i hi => by rw [show ptBlk (.agg (pc (.slice xa k xc) nb nl s15).toArray) = blk (.slice xa k xc) from ptBlk_pv _ _ _ _] at hi; have := NB.out i hi; have := HSZ.out; omega)
                · have hg : goodB l = false := by rw [HG.out]; simp [hob]
                  have hne : (ob == l) = false := by simpa using hob
                  subst hck
                  clear hob
                  go_wp2_with (refine wpList_fin rfl rfl (.tmp 2) (.tmp 3) _ _ rfl rfl B15.out zs_len B25.out (by omega) zs_len rfl rfl rfl rfl ?_; intro V b3 b4 f3)
                  refine bodyPost_ret (results_two (p := 2) (q := 3) rfl _ _ rfl rfl (run_loadVar_row V w.heap.size 54 54 _ (0, 0) _ b3 Tryz.underlying54 rfl (by rw [i26]; simp only [pc_size, zs_len])) (run_loadVar_row V (w.heap.size + 1) 44 44 _ (0, 0) _ b4 Tryz.underlying44 rfl (by rw [d40]; rfl))) rfl ?_
                  exact readP_no H47.out hg (ptv_zero _) (F6.out.trans f3 (fun i hi => .inr (by simp at hi; omega))) (fun i hi => by simp [ptBlk, pc, blk] at hi)
              · have hg : goodB l = false := by rw [HG.out]; simp [hck]
                subst hck
                go_wp2_with (refine wpList_fin rfl rfl (.tmp 2) (.tmp 3) _ _ rfl rfl B15.out zs_len B25.out (by omega) zs_len rfl rfl rfl rfl ?_; intro V b3 b4 f3)
                refine bodyPost_ret (results_two (p := 2) (q := 3) rfl _ _ rfl rfl (run_loadVar_row V w.heap.size 54 54 _ (0, 0) _ b3 Tryz.underlying54 rfl (by rw [i26]; simp only [pc_size, zs_len])) (run_loadVar_row V (w.heap.size + 1) 44 44 _ (0, 0) _ b4 Tryz.underlying44 rfl (by rw [d40]; rfl))) rfl ?_
                exact readP_no H47.out hg (ptv_zero _) (F6.out.trans f3 (fun i hi => .inr (by simp at hi; omega))) (fun i hi => by simp [ptBlk, pc, blk] at hi)
  · by_cases hlt : l.length < 47
    all_goals
      go_wp2_with (refine wpList_fin rfl rfl (.tmp 2) (.tmp 3) _ _ rfl rfl HB1.out zs_len HB2.out (by omega) zs_len rfl rfl rfl rfl ?_; intro V b3 b4 f3)
      refine bodyPost_ret (results_two (p := 2) (q := 3) rfl _ _ rfl rfl (run_loadVar_row V w.heap.size 54 54 _ (0, 0) _ b3 Tryz.underlying54 rfl (by rw [i26]; simp only [pc_size, zs_len])) (run_loadVar_row V (w.heap.size + 1) 44 44 _ (0, 0) _ b4 Tryz.underlying44 rfl (by rw [d40]; rfl))) rfl ?_
      first
        | exact readP_len h47 (by rw [if_pos (by omega)]) (ptv_zero _) (HF.out.trans f3 (fun i hi => .inr (by simp at hi; omega))) (fun i hi => by simp [ptBlk, pc, blk] at hi)
        | exact readP_len h47 (by rw [if_neg (by omega)]) (ptv_zero _) (HF.out.trans f3 (fun i hi => .inr (by simp at hi; omega))) (fun i hi => by simp [ptBlk, pc, blk] at hi)
end Go.Proofs.YtljhanhipmnioaaGreat.Pt
