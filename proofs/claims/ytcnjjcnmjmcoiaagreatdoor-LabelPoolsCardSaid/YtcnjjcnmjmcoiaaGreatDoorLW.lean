/-
  The order of IDs, and compare. No conditions but those that each theorem names.
-/
import Derived.Test.YtcnjjcnmjmcoiaaGreatDoorLV
import Derived.Shelf.SlSortCmp.NoneTotal
namespace Go.Proofs.YtcnjjcnmjmcoiaaGreatDoor
open Go.RowKit Go.Maps Go.MapKept Go.Sort
set_option linter.unusedVariables false
set_option linter.unusedSimpArgs false
set_option maxRecDepth 100000

theorem cb_neg : ∀ a b : List UInt8, Lib.compareBytes b a = - Lib.compareBytes a b
  | [], [] => rfl
  | [], _ :: _ => rfl
  | _ :: _, [] => rfl
  | x :: a, y :: b => by
    have ih := cb_neg a b
    simp only [Lib.compareBytes, UInt8.lt_iff_toNat_lt]
    (repeat' split) <;> omega
theorem cb_eq : ∀ {a b : List UInt8}, Lib.compareBytes a b = 0 → a = b
  | [], [], _ => rfl
  | [], _ :: _, h => by cases h
  | _ :: _, [], h => by cases h
  | x :: a, y :: b, h => by
    have ih := @cb_eq a b
    simp only [Lib.compareBytes, UInt8.lt_iff_toNat_lt] at h
    split at h
    · cases h
    · split at h
      · cases h
      · rw [ih h, show x = y from UInt8.toNat_inj.1 (by omega)]
theorem cb_trans : ∀ {a b c : List UInt8}, Lib.compareBytes a b < 0 → Lib.compareBytes b c < 0 → Lib.compareBytes a c < 0
  | [], [], _, h, _ => by cases h
  | [], _ :: _, [], _, h => by cases h
  | [], _ :: _, _ :: _, _, _ => (by decide : (-1 : Int) < 0)
  | _ :: _, [], _, h, _ => by cases h
  | _ :: _, _ :: _, [], _, h => by cases h
  | x :: a, y :: b, z :: c, h1, h2 => by
    have ih := @cb_trans a b c
    simp only [Lib.compareBytes, UInt8.lt_iff_toNat_lt] at h1 h2 ⊢
    split at h1 <;> split at h2
    · rw [if_pos (by omega)]; decide
    · split at h2
      · exact absurd h2 (by decide)
      · rw [if_pos (by omega)]; decide
    · split at h1
      · exact absurd h1 (by decide)
      · rw [if_pos (by omega)]; decide
    · split at h1
      · exact absurd h1 (by decide)
      · split at h2
        · exact absurd h2 (by decide)
        · rw [if_neg (by omega), if_neg (by omega)]
          exact ih h1 h2
/-- Of two IDs the first is the lesser. -/
def ltI (x y : IdT) : Bool := decide (Lib.compareBytes x.1 y.1 < 0)
def cfI (x y : IdT) : Int := if ltI x y then -1 else if ltI y x then 1 else 0
theorem ltOf_cfI : ltOf cfI = ltI := by
  funext x y
  unfold ltOf cfI
  cases h : ltI x y <;> cases h2 : ltI y x <;> simp
theorem ltI_total {x y : IdT} (h1 : ltI x y = false) (h2 : ltI y x = false) : x = y := by
  unfold ltI at h1 h2
  simp only [decide_eq_false_iff_not] at h1 h2
  have := cb_neg x.1 y.1
  exact Subtype.ext (cb_eq (by omega))
theorem ltI_trans {x y z : IdT} (h1 : ltI x y = true) (h2 : ltI y z = true) : ltI x z = true := by
  unfold ltI at *
  simp only [decide_eq_true_eq] at *
  exact cb_trans h1 h2
theorem ltI_irrefl (x : IdT) : ltI x x = false := by
  unfold ltI
  rw [Hs.compareBytes_self]
  rfl
theorem ltI_ntrans {x y z : IdT} (h1 : ltI x y = false) (h2 : ltI y z = false) : ltI x z = false := by
  cases h3 : ltI y x with
  | false => rw [ltI_total h1 h3]; exact h2
  | true =>
    cases h4 : ltI z y with
    | false => rw [← ltI_total h2 h4]; exact h1
    | true =>
      cases h5 : ltI x z with
      | false => rfl
      | true =>
        have := ltI_trans h5 (ltI_trans h4 h3)
        rw [ltI_irrefl] at this
        cases this
theorem swoI : SWO (ltOf cfI) where
  irrefl x := by rw [ltOf_cfI]; exact ltI_irrefl x
  trans x y z h1 h2 := by rw [ltOf_cfI] at *; exact ltI_trans h1 h2
  ntrans x y z h1 h2 := by rw [ltOf_cfI] at *; exact ltI_ntrans h1 h2
/-- A world behind draws, with blocks behind. -/
def Gro (w w' : World) : Prop := ∃ q os, w' = grow (w.drewN q) os
theorem Gro.refl (w : World) : Gro w w := ⟨0, #[], by rw [grow_empty]; rfl⟩
theorem Gro.trans {a b c : World} (h : Gro a b) (k : Gro b c) : Gro a c := by
  obtain ⟨q, os, rfl⟩ := h
  obtain ⟨q2, os2, rfl⟩ := k
  refine ⟨q + q2, os ++ os2, ?_⟩
  rw [← grow_grow]
  simp only [grow, World.drewN, Nat.add_assoc]
theorem Gro.alloc {a b : World} (h : Gro a b) (o : Obj) : Gro a (b.alloc o) := h.trans ⟨0, #[o], by rw [alloc_eq_grow]; rfl⟩
theorem Gro.drew {a b : World} (h : Gro a b) : Gro a b.drew := h.trans ⟨1, #[], by rw [grow_empty]; rfl⟩
theorem Gro.frm {a b : World} (h : Gro a b) : Frm [] a b := by
  obtain ⟨q, os, rfl⟩ := h
  exact ⟨rfl, rfl, rfl, by rw [size_grow]; exact Nat.le_add_right _ _, fun k hk _ => heap_grow_old _ os hk⟩
open Hs (slice29c slb_part Cmp_any) in
theorem Less_g (a b : List UInt8) (ha : a.length = 32) (hb : b.length = 32) (w : World) : Calls Tryz.prog 58 #[idv a, idv b] w fun r w' => r = .returned (.bool (decide (Lib.compareBytes a b < 0))) ∧ Gro w w' := by
  have hs := slice29c
  have hA : ((w.alloc (.cells (bvs a).toArray 26)).alloc (.cells (bvs b).toArray 26)).heap[w.heap.size]? = some (.cells (bvs a).toArray 26 (0, 0)) := heap_alloc_lt (heap_alloc_new _ _)
  have hB : ((w.alloc (.cells (bvs a).toArray 26)).alloc (.cells (bvs b).toArray 26)).heap[w.heap.size + 1]? = some (.cells (bvs b).toArray 26 (0, 0)) := heap_alloc_at (by simp)
  have hF : Gro w ((w.alloc (.cells (bvs a).toArray 26)).alloc (.cells (bvs b).toArray 26)) := ((Gro.refl _).alloc _).alloc _
  have HA := Lib.hid hA
  have HB := Lib.hid hB
  have HF := Lib.hid hF
  have HLA := Lib.hid ha
  have HLB := Lib.hid hb
  clear hA hB hF ha hb
  unfold idv
  go_enter Tryz.func58, Tryz.ntmps58
  go_wp2
  generalize ((w.alloc (.cells (bvs a).toArray 26)).alloc (.cells (bvs b).toArray 26)) = W at *
  have p1 := slb_part (w := W.drew) HA.out 0 32 32 (by rw [HLA.out]; omega) (Nat.le_refl _) (by rw [HLA.out]; omega) (by rw [HLA.out]; decide)
  have p2 := slb_part (w := W.drew) HB.out 0 32 32 (by rw [HLB.out]; omega) (Nat.le_refl _) (by rw [HLB.out]; omega) (by rw [HLB.out]; decide)
  rw [List.drop_zero, List.take_of_length_le (by rw [HLA.out]; omega)] at p1
  rw [List.drop_zero, List.take_of_length_le (by rw [HLB.out]; omega)] at p2
  have hcmp := Cmp_any p1 p2
  clear p1 p2
  refine wp_region_still_lit (by kernel_rfl) (by kernel_rfl) ?_
  change wpStill _ _ (World.drew _) _ _ _
  still_step
  still_step
  still_call hcmp
  repeat still_step
  refine wpStill_nil ?_
  change Exit.then _ _ _ _ (World.drew _)
  go_wp2_with fail
  go_ret
  exact ⟨rfl, HF.out.drew⟩
theorem compare_any (x y : IdT) (w : World) : Calls Tryz.prog 33 #[vI x, vI y] w fun r w' => r = .returned (.int .i64 (cfI x y)) ∧ Gro w w' := by
  have hA : ((w.alloc (.cells (bvs x.1).toArray 26)).alloc (.cells (bvs y.1).toArray 26)).heap[w.heap.size]? = some (.cells (bvs x.1).toArray 26 (0, 0)) := heap_alloc_lt (heap_alloc_new _ _)
  have hB : ((w.alloc (.cells (bvs x.1).toArray 26)).alloc (.cells (bvs y.1).toArray 26)).heap[w.heap.size + 1]? = some (.cells (bvs y.1).toArray 26 (0, 0)) := heap_alloc_at (by simp)
  have hF : Gro w ((w.alloc (.cells (bvs x.1).toArray 26)).alloc (.cells (bvs y.1).toArray 26)) := ((Gro.refl _).alloc _).alloc _
  have e1 : vI x = .agg (bvs x.1).toArray := rfl
  have e2 : vI y = .agg (bvs y.1).toArray := rfl
  have L1 := fun W => Less_g x.1 y.1 x.2 y.2 W
  have L2 := fun W => Less_g y.1 x.1 y.2 x.2 W
  have hx := x.2
  have hy := y.2
  unfold cfI ltI
  rw [e1, e2]
  generalize decide (Lib.compareBytes x.1 y.1 < 0) = b1 at *
  generalize decide (Lib.compareBytes y.1 x.1 < 0) = b2 at *
  generalize x.1 = a at *
  generalize y.1 = b at *
  have HL1 := Lib.hid L1
  have HL2 := Lib.hid L2
  have HA := Lib.hid hA
  have HB := Lib.hid hB
  have HF := Lib.hid hF
  have HX := Lib.hid hx
  have HY := Lib.hid hy
  clear hA hB hF hx hy L1 L2 e1 e2
  go_enter Tryz.func33, Tryz.ntmps33
  go_upto_region 1 with (fail)
  generalize ((w.alloc (.cells (bvs a).toArray 26)).alloc (.cells (bvs b).toArray 26)) = W at *
  go_wp2_with (first
    | ((with_reducible (show wpList _ _ _ (Oper.mk _ (Op.load 26 (Operand.tmp 2)) _ _ _ _ :: _) _ _)); first | refine wpList_val rfl (exec_load26 (x := .tmp 2) rfl rfl HX.out HA.out) ?_ | refine wpList_val rfl (exec_load26 (x := .tmp 2) rfl rfl HX.out HA1.out) ?_)
    | ((with_reducible (show wpList _ _ _ (Oper.mk _ (Op.load 26 (Operand.tmp 3)) _ _ _ _ :: _) _ _)); first | refine wpList_val rfl (exec_load26 (x := .tmp 3) rfl rfl HY.out HB.out) ?_ | refine wpList_val rfl (exec_load26 (x := .tmp 3) rfl rfl HY.out HB1.out) ?_)
    | (go_at_call 58; refine (HL1.out _).mono ?_; rintro r w1 ⟨rfl, g1⟩; have HG1 := Lib.hid (HF.out.trans g1); have HA1 := Lib.hid (g1.frm.heap HA.out (by simp)); have HB1 := Lib.hid (g1.frm.heap HB.out (by simp)); clear g1)
    | (go_at_call 58; refine (HL2.out _).mono ?_; rintro r w2 ⟨rfl, g2⟩; have HG2 := Lib.hid (HG1.out.trans g2); clear g2))
  all_goals (go_ret; first | exact ⟨rfl, HG2.out⟩ | exact ⟨rfl, HG1.out⟩ | exact ⟨by simp_all, HG2.out⟩ | exact ⟨by simp_all, HG1.out⟩)
end Go.Proofs.YtcnjjcnmjmcoiaaGreatDoor
