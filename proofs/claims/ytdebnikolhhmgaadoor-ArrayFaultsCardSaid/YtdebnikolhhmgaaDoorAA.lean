/-
  What a method of an array leaves as it was; refusals and their numbers. No conditions but those that each theorem names.
-/
import Derived.Test.YtdebnikolhhmgaaDoorKR
import Derived.Test.YtdebnikolhhmgaaDoorChecked
import Derived.Stop.Asserts
import Derived.LaidEql
import Derived.RowKitTokens
import Derived.WalkHide
import Derived.StillTailTactics
import Derived.OpenShut
import Derived.OrdersHeld
import Derived.BigQuiet
import Derived.Deep.QuietTactic
import Derived.Deep.MidRow
import Derived.Deep.RegionHeld3
import Derived.Deep.RegionLaw
import Derived.Deep.RegionWith
import Derived.Lib.Hide
namespace Go.Proofs.YtdebnikolhhmgaaDoor
open Go.RowKit
set_option linter.unusedVariables false
set_option linter.unusedSimpArgs false
set_option maxRecDepth 100000

open Kr (OwnE SlE Enco RowTys)
open Go.Extern.Stop Go.Stop Go.Extern
/-- The types of what an array is made of: its record, its devices, their sectors, its row of loose writes. -/
def okT (T : TypeId) : Bool := T != 35 && T != 86 && T != 96 && T != 90
/-- What was there below lo is as it was, and so is each block of another type than an array's. -/
structure Fa (lo : Nat) (w w' : World) : Prop where
  os : w'.os = w.os
  tape : w'.tape = w.tape
  output : w'.output = w.output
  size : w.heap.size ≤ w'.heap.size
  low : ∀ (k : Nat), k < lo → k < w.heap.size → w'.heap[k]? = w.heap[k]?
  typ : ∀ (k : Nat) (cs : Array Value) (T : TypeId) (fr : Nat × Nat), w.heap[k]? = some (.cells cs T fr) → okT T = true → w'.heap[k]? = some (.cells cs T fr)
namespace Fa
variable {lo lo' : Nat} {w w1 w2 : World} {L : List Nat}
theorem refl (lo : Nat) (w : World) : Fa lo w w := ⟨rfl, rfl, rfl, Nat.le_refl _, fun _ _ _ => rfl, fun _ _ _ _ h _ => h⟩
theorem trans (h : Fa lo w w1) (k : Fa lo w1 w2) : Fa lo w w2 :=
  ⟨k.os.trans h.os, k.tape.trans h.tape, k.output.trans h.output, Nat.le_trans h.size k.size, fun i hi hl => (k.low i hi (Nat.lt_of_lt_of_le hl h.size)).trans (h.low i hi hl), fun i cs T fr hc ho => k.typ i cs T fr (h.typ i cs T fr hc ho) ho⟩
theorem of0 (f : Frm [] w w1) (lo : Nat) : Fa lo w w1 :=
  ⟨f.os, f.tape, f.output, f.size, fun k _ hl => f.block k hl (by simp), fun k cs T fr h _ => f.heap h (by simp)⟩
/-- Blocks of an array's own were written. -/
theorem of_frm (f : Frm L w w1) (h : ∀ k ∈ L, lo ≤ k ∧ ∃ (cs : Array Value) (T : TypeId) (fr : Nat × Nat), w.heap[k]? = some (.cells cs T fr) ∧ okT T = false) : Fa lo w w1 :=
  ⟨f.os, f.tape, f.output, f.size, fun k hk hl => f.block k hl (fun hm => by have := (h k hm).1; omega), fun k cs T fr hc ho => f.heap hc (fun hm => by
    obtain ⟨_, cs', T', fr', h1, h2⟩ := h k hm
    rw [hc] at h1
    cases h1
    rw [ho] at h2; cases h2)⟩
theorem mono (f : Fa lo w w1) (h : lo' ≤ lo) : Fa lo' w w1 := ⟨f.os, f.tape, f.output, f.size, fun k hk hl => f.low k (by omega) hl, f.typ⟩
theorem drew (f : Fa lo w w1) : Fa lo w w1.drew := ⟨f.os, f.tape, f.output, f.size, f.low, f.typ⟩
/-- All that was there when the array was not. -/
theorem frm (f : Fa lo w w1) (h : w.heap.size ≤ lo) : Frm [] w w1 := ⟨f.os, f.tape, f.output, f.size, fun k hk _ => f.low k (by omega) hk⟩
theorem cell (f : Fa lo w w1) {p : Addr} {v : Value} (hc : w.cell? p = some v) (h : p.block < lo) : w1.cell? p = some v :=
  (World.cell?_of_block (w := w) (f.low p.block h (World.block_lt_of_cell? w p hc))).trans hc
theorem heap (f : Fa lo w w1) {k : Nat} {o : Obj} (hc : w.heap[k]? = some o) (h : k < lo) : w1.heap[k]? = some o := (f.low k h (lt_heap hc)).trans hc
end Fa
/-- A slice whose block is of another type. -/
theorem own_fa {T k lo : Nat} {w w' : World} {v : Value} {n : Nat} {xs sp : List Value} (h : Own T k w v n xs sp) (f : Fa lo w w') (ho : okT T = true) : Own T k w' v n xs sp := by
  obtain ⟨h1, h2 | ⟨g, cap, h2, h3, h4, h5, h6⟩⟩ := h
  · exact ⟨h1, .inl h2⟩
  · exact ⟨h1, .inr ⟨g, cap, h2, h3, h4, h5, f.typ _ _ _ _ h6 ho⟩⟩
theorem own_blk {T k : Nat} {w : World} {v : Value} {n : Nat} {xs sp : List Value} (h : Own T k w v n xs sp) : ∀ i ∈ blk v, ∃ cs, w.heap[i]? = some (.cells cs T (0, 0)) := by
  obtain ⟨_, ⟨rfl, _, _⟩ | ⟨g, cap, rfl, _, _, _, hh⟩⟩ := h
  · intro i hi; simp [blk] at hi
  · intro i hi
    simp [blk] at hi
    subst hi
    exact ⟨_, hh⟩
/-- The six sentinels: variable i has the address s i; all below lo. -/
structure Sn (w : World) (lo : Nat) (s : Nat → Addr) : Prop where
  v : ∀ i, i < 6 → w.cell? ⟨i, 0, none⟩ = some (.iface 126 (.pointer (some (s i))))
  h : ∀ i, i < 6 → ∃ c t, w.heap[(s i).block]? = some (.cells c t (0, 0))
  b : ∀ i, i < 6 → (s i).block < lo
  l : 6 ≤ lo
  n : ∀ i j, i < 6 → j < 6 → s i = s j → i = j
theorem Sn.fa {w w' : World} {lo : Nat} {s : Nat → Addr} (h : Sn w lo s) (f : Fa lo w w') : Sn w' lo s :=
  ⟨fun i hi => f.cell (h.v i hi) (by have := h.l; simp; omega), fun i hi => by obtain ⟨c, t, e⟩ := h.h i hi; exact ⟨c, t, f.heap e (h.b i hi)⟩, h.b, h.l, h.n⟩
theorem Sn.keep0 {w w' : World} {lo : Nat} {s : Nat → Addr} (h : Sn w lo s) (f : Frm [] w w') : Sn w' lo s := h.fa (Fa.of0 f lo)
theorem Sn.mono {w : World} {lo lo' : Nat} {s : Nat → Addr} (h : Sn w lo s) (hl : lo ≤ lo') : Sn w lo' s := ⟨h.v, h.h, fun i hi => by have := h.b i hi; omega, by have := h.l; omega, h.n⟩
/-- A refusal: what stands against it, and its kind. -/
def rfu (s : Nat → Addr) (k : Nat) (t : ByteArray) : Value := .iface 102 (.agg #[.string t, .iface 126 (.pointer (some (s k)))])
def code : Nat → Int
  | 0 => 2
  | 1 => 1
  | 2 => 10
  | 3 => 5
  | 4 => 14
  | _ => 13
theorem unless_true (t : ByteArray) (v : Value) (w : World) : Calls Tryd.prog 60 #[.bool true, .string t, v] w fun e w' => e = .returned .nilIface ∧ w' = w := by
  go_enter Tryd.func60, Tryd.ntmps60
  go_wp2
  go_ret
  exact ⟨rfl, rfl⟩
theorem unless_false (t : ByteArray) (p : Addr) (w : World) : Calls Tryd.prog 60 #[.bool false, .string t, .iface 126 (.pointer (some p))] w fun e w' => e = .returned (.iface 102 (.agg #[.string t, .iface 126 (.pointer (some p))])) ∧ w' = w := by
  go_enter Tryd.func60, Tryd.ntmps60
  go_wp2
  go_ret
  exact ⟨rfl, rfl⟩
theorem within_any (n a b : Int) (w : World) : Calls Tryd.prog 53 #[.int .i64 n, .int .i64 a, .int .i64 b] w fun e w' => e = .returned (.bool (decide (a ≤ n ∧ n ≤ b))) ∧ w' = w := by
  by_cases h1 : a ≤ n
  · by_cases h2 : n ≤ b
    · rw [decide_eq_true (And.intro h1 h2)]
      go_enter Tryd.func53, Tryd.ntmps53
      go_wp2
      go_ret
      exact ⟨rfl, rfl⟩
    · rw [decide_eq_false (fun h => h2 h.2)]
      go_enter Tryd.func53, Tryd.ntmps53
      go_wp2
      go_ret
      exact ⟨rfl, rfl⟩
  · rw [decide_eq_false (fun h => h1 h.1)]
    go_enter Tryd.func53, Tryd.ntmps53
    go_wp2
    go_ret
    exact ⟨rfl, rfl⟩
theorem isTypeOf (v : Value) (w : World) : (Extern.ReflectliteType.typeOf #[.iface 126 v]).run Tryd.prog w = .ok (.iface 116 (.agg #[.pointer (some ⟨6, 126, none⟩)])) w := by kernel_rfl
theorem isComparable (w : World) : ((Extern.ReflectliteType.method fun t => do Extern.Rtype.noPackHeld "Comparable" t; (fun a => Value.bool a.comparable) <$> typeInfo t) #[.agg #[.pointer (some ⟨6, 126, none⟩)]]).run Tryd.prog w = .ok (.bool true) w := by kernel_rfl
theorem isMethodComparable (v : Value) (w : World) : (Go.method 263 116 v "Comparable").run Tryd.prog w = .ok (96, v) w := by kernel_rfl
theorem isComp : (Tryd.prog.info? 126).map (·.comparable) = some true := by kernel_rfl
theorem ptSize : ∃ u, Tryd.prog.underlying 126 = some (.pointer u) ∧ (Tryd.prog.info? u).map (·.size) = some 1 := ⟨_, Tryd.underlying126, by kernel_rfl⟩
theorem noIsE (v : Value) (xT : TypeId) (w : World) : (Instr.typeAssert (.iface 126 v) xT 118 true).run Tryd.prog w = .ok (.tuple #[.nilIface, .bool false]) w := run_typeAssert_lacksB Tryd.underlying118 (by kernel_rfl) (by kernel_rfl) v xT w
theorem noUnwrapE (v : Value) (xT : TypeId) (w : World) : (Instr.typeAssert (.iface 126 v) xT 121 true).run Tryd.prog w = .ok (.tuple #[.nilIface, .bool false]) w := run_typeAssert_lacksB Tryd.underlying121 (by kernel_rfl) (by kernel_rfl) v xT w
theorem noUnwrapsE (v : Value) (xT : TypeId) (w : World) : (Instr.typeAssert (.iface 126 v) xT 123 true).run Tryd.prog w = .ok (.tuple #[.nilIface, .bool false]) w := run_typeAssert_lacksB Tryd.underlying123 (by kernel_rfl) (by kernel_rfl) v xT w
theorem noIsR (v : Value) (xT : TypeId) (w : World) : (Instr.typeAssert (.iface 102 v) xT 118 true).run Tryd.prog w = .ok (.tuple #[.nilIface, .bool false]) w := run_typeAssert_lacksB Tryd.underlying118 (by kernel_rfl) (by kernel_rfl) v xT w
theorem hasUnwrapR (v : Value) (xT : TypeId) (w : World) : (Instr.typeAssert (.iface 102 v) xT 121 true).run Tryd.prog w = .ok (.tuple #[.iface 102 v, .bool true]) w := run_typeAssert_hasB Tryd.underlying121 (by kernel_rfl) v xT w
theorem methodUnwrapR (v : Value) (w : World) : (Go.method 263 102 v "Unwrap").run Tryd.prog w = .ok (92, v) w := by kernel_rfl
theorem Unwrap_any (t : ByteArray) (v : Value) (hv : v.oneCell' = true) (w : World) : Calls Tryd.prog 92 #[.agg #[.string t, v]] w fun r w' => r = .returned v ∧ Frm [] w w' := by
  go_enter Tryd.func92, Tryd.ntmps92
  go_wp2
  go_ret
  exact ⟨rfl, (Frm.refl [] w).alloc _⟩
end Go.Proofs.YtdebnikolhhmgaaDoor
