/-
  General: the values of IDs and pointers as cells, their tables, '==' of arrays of bytes and of pairs; loads of them out of blocks. No conditions but those that each theorem names.
-/
import Derived.Test.YtjjcjocomanohaaKA
import Derived.Test.YtjjcjocomanohaaChecked
import Derived.ChangeKeysEq
import Derived.Deep.MidRow
import Derived.Deep.RegionHeld3
import Derived.OpenShut
import Derived.Lib.Hide
import Derived.WalkHide
import Derived.IntWalk
import Derived.StillTailTactics
import Derived.Deep.RegionLaw
import Derived.Deep.RegionWith
import Derived.Deep.QuietTactic
import Derived.BigQuiet
import Derived.OrdersHeld
import Derived.Deep.CutBlock
import Derived.Deep.DeepCutAuto
import Derived.Deep.Slices
namespace Go.Proofs.Ytjjcjocomanohaa
open Go.RowKit
set_option linter.unusedVariables false
set_option linter.unusedSimpArgs false
set_option maxRecDepth 100000

theorem eqItems_ints {P : Program} {e : TypeId} {k : IntKind} (hs : ∀ W, (sizeOf e).run P W = .ok 1 W) (ha : ∀ W, (isAgg e).run P W = .ok false W) (hu : P.underlying e = some (.int k)) (d : Nat) (l m : List Int) (hlm : l.length = m.length) (W : World) :
    ∀ c s, s + c = l.length → (Op.eqItems (d + 1) e 1 (l.map (Value.int k)).toArray (m.map (Value.int k)).toArray (List.range' s c)).run P W = .ok (l.drop s == m.drop s) W
  | 0, s, h => by
    rw [List.drop_eq_nil_of_le (by omega), List.drop_eq_nil_of_le (by omega)]
    simp [Op.eqItems]
  | c + 1, s, h => by
    have h1 : s < l.length := by omega
    have h2 : s < m.length := by omega
    have ih := eqItems_ints hs ha hu d l m hlm W c (s + 1) (by omega)
    rw [List.drop_eq_getElem_cons h1, List.drop_eq_getElem_cons h2]
    have x1 : (l.map (Value.int k))[s]? = some (.int k l[s]) := by simp [List.getElem?_map, List.getElem?_eq_getElem h1]
    have x2 : (m.map (Value.int k))[s]? = some (.int k m[s]) := by simp [List.getElem?_map, List.getElem?_eq_getElem h2]
    have p1 : (part e (l.map (Value.int k)).toArray (s * 1)).run P W = .ok (.int k l[s]) W := by
      simp [part, hs, ha, x1, go_sem]
    have p2 : (part e (m.map (Value.int k)).toArray (s * 1)).run P W = .ok (.int k m[s]) W := by
      simp [part, hs, ha, x2, go_sem]
    have p3 : (Op.equalIn (d + 1) e (.int k l[s]) (.int k m[s])).run P W = .ok (l[s] == m[s]) W := by
      simp [Op.equalIn, run_underlying hu]
    rw [List.range'_succ]
    simp only [Op.eqItems, Sem.run_bind, p1, p2, p3, Result.andThen_ok]
    generalize l[s] = a at *
    generalize m[s] = b at *
    generalize List.drop (s + 1) l = L1 at *
    generalize List.drop (s + 1) m = M1 at *
    clear p1 p2 p3 x1 x2
    by_cases h : a = b
    · rw [h]
      simp only [beq_self_eq_true, Bool.not_true, Bool.false_eq_true, if_false, ih]
      simp
    · have hf : (a == b) = false := by simpa using h
      rw [hf]
      simp [List.cons_beq_cons, hf]
theorem eql_ints {P : Program} {t e : TypeId} {n : Nat} {k : IntKind} {i : TypeInfo} (ht : P.underlying t = some (.array n e)) (hi : P.info? e = some i) (hc : P.cellsOf e = 1) (hs : ∀ W, (sizeOf e).run P W = .ok 1 W) (ha : ∀ W, (isAgg e).run P W = .ok false W) (hu : P.underlying e = some (.int k))
    (l m : List Int) (hl : l.length = n) (hm : m.length = n) (W : World) : (binOp .eql t (.agg (l.map (Value.int k)).toArray) (.agg (m.map (Value.int k)).toArray)).run P W = .ok (.bool (l == m)) W := by
  rw [run_eql_struct, run_equalIn_array W 9999 _ _ ht hi, hc, List.range_eq_range', eqItems_ints hs ha hu 9998 l m (by omega) W n 0 (by omega)]
  simp [Result.andThen]
theorem bvs_ints (l : List UInt8) : bvs l = (l.map fun b => (b.toNat : Int)).map (Value.int .u8) := by simp [bvs, bv]
theorem beq_inj {α β : Type} [BEq α] [LawfulBEq α] [BEq β] [LawfulBEq β] (f : α → β) (hf : ∀ a b, f a = f b → a = b) (l m : List α) : (l.map f == m.map f) = (l == m) := by
  rw [Bool.eq_iff_iff, beq_iff_eq, beq_iff_eq]
  exact ⟨fun h => List.map_inj_right (fun a b h => hf a b h) |>.1 h, fun h => by rw [h]⟩
theorem BT : ByteTys Try.prog 29 5 := ⟨by kernel_rfl, by kernel_rfl, by kernel_rfl⟩
theorem BF : ByteTys Try.prog 64 5 := ⟨by kernel_rfl, by kernel_rfl, by kernel_rfl⟩
theorem AT : AdTys Try.prog 22 46 := ⟨by kernel_rfl, by kernel_rfl⟩
theorem d24 : Try.prog.underlying 24 = some (.array 32 5) := by kernel_rfl
theorem i24 : (Try.prog.info? 24).map (·.size) = some 32 := by kernel_rfl
theorem i26 : (Try.prog.info? 26).map (·.size) = some 35 := by kernel_rfl
theorem info5 : ∃ i, Try.prog.info? 5 = some i := Option.isSome_iff_exists.1 (by kernel_rfl)
theorem eql24 (l m : List UInt8) (hl : l.length = 32) (hm : m.length = 32) (W : World) : (binOp .eql 24 (.agg (bvs l).toArray) (.agg (bvs m).toArray)).run Try.prog W = .ok (.bool (l == m)) W := by
  obtain ⟨i, hi⟩ := info5
  rw [bvs_ints, bvs_ints, eql_ints (k := .u8) d24 hi (by kernel_rfl) (fun W => by kernel_rfl) (fun W => by kernel_rfl) Try.underlying5 _ _ (by simpa using hl) (by simpa using hm) W, beq_inj (fun b : UInt8 => (b.toNat : Int)) (fun a b h => UInt8.toNat_inj.1 (by omega))]
theorem guard_agg (op : BinOp) (t : TypeId) (x y : Operand) (xs ys : Array Value) (ht : Try.prog.eqGuardType Try.prog.depth t = false) (W : World) : (eqGuard op t x y (.agg xs) (.agg ys)).run Try.prog W = .ok () W := by
  unfold eqGuard
  cases op <;> simp [go_sem, ht]
#print axioms guard_agg
end Go.Proofs.Ytjjcjocomanohaa
