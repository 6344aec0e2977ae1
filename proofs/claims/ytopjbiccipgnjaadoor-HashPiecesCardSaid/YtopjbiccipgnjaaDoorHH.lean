/-
  Contract of (state).digest; no conditions but those that the theorem names.
-/
import Derived.Test.YtopjbiccipgnjaaDoorHG
namespace Go.Proofs.YtopjbiccipgnjaaDoor
open Go.RowKit
set_option linter.unusedVariables false
set_option linter.unusedSimpArgs false

def digB (ws : List UInt32) (i : Nat) : UInt8 := UInt8.ofNat ((at32 ws (i / 4)).toNat / 2 ^ (24 - 8 * (i % 4)))
def digK (ws : List UInt32) (k : Nat) : List UInt8 := (List.range k).map (digB ws)
theorem digK_length (ws : List UInt32) (k : Nat) : (digK ws k).length = k := by simp [digK]
theorem digK_set (ws : List UInt32) (k : Nat) (hk : k < 32) : (digK ws k ++ List.replicate (32 - k) 0).set k (digB ws k) = digK ws (k + 1) ++ List.replicate (32 - (k + 1)) 0 := by
  rw [List.set_append_right _ _ (by rw [digK_length]; exact Nat.le_refl _), digK_length, Nat.sub_self, show 32 - k = (32 - (k + 1)) + 1 by omega, List.replicate_succ, List.set_cons_zero]
  simp [digK, List.range_succ]
def IsB (w : World) (b : Nat) (T : TypeId) (l : List UInt8) : Prop := w.heap[b]? = some (.cells (bvs l).toArray T (0, 0))
theorem IsB.cell {w : World} {b : Nat} {T : TypeId} {l : List UInt8} (h : IsB w b T l) (i : Nat) (hi : i < l.length) : w.cell? ⟨b, i, none⟩ = some (.int .u8 (l[i].toNat : Int)) := by
  rw [cell_of_heap h, List.getElem?_toArray, bvs_get, List.getElem?_eq_getElem hi]; rfl
theorem IsB.frozen {w : World} {b : Nat} {T : TypeId} {l : List UInt8} (h : IsB w b T l) (i : Nat) : w.frozen? ⟨b, i, none⟩ = false := frozen_of_heap h i
theorem IsB.store {w : World} {b : Nat} {T : TypeId} {l : List UInt8} (h : IsB w b T l) (i : Nat) (x : UInt8) {u : Value} (hu : u = bv x) : IsB (w.setCell ⟨b, i, none⟩ u) b T (l.set i x) := by
  subst hu; unfold IsB; rw [heap_setCell_same _ h, bvs_set]
theorem IsB.other {w : World} {b : Nat} {T : TypeId} {l : List UInt8} (h : IsB w b T l) (p : Addr) (v : Value) (hp : b ≠ p.block) : IsB (w.setCell p v) b T l := (heap_setCell_ne v hp).trans h
theorem IsB.keepF {w w' : World} {b : Nat} {T : TypeId} {l : List UInt8} (h : IsB w b T l) (f : Frm [] w w') : IsB w' b T l := f.heap h (by simp)
theorem bvs_zero (n : Nat) : bvs (List.replicate n 0) = List.replicate n (.int .u8 0) := by simp [bvs, bv]
theorem d29 : Tryd.prog.underlying 29 = some (.array 32 5) := by kernel_rfl
theorem i29 : (Tryd.prog.info? 29).map (·.size) = some 32 := by kernel_rfl
theorem bvs_oneA (l : List UInt8) : (bvs l).toArray.all (·.oneCell') = true := by simp [bvs, bv, Value.oneCell']
theorem dig_val (x : UInt32) (m : Nat) : wi x / 2 ^ m % 256 = ((UInt8.ofNat (x.toNat / 2 ^ m)).toNat : Int) := by
  unfold wi
  rw [UInt8.toNat_ofNat']
  have h : ∀ d : Nat, ((x.toNat / d % 2 ^ 8 : Nat) : Int) = (x.toNat : Int) / (d : Int) % 256 := fun d => by simp
  rw [h]
  simp
def DigRel (w : World) (ws : List UInt32) (c : Value) (wr : World) : Prop :=
  ∃ k : Nat, k ≤ 32 ∧ c = .int .i64 k ∧ IsW wr w.heap.size 57 ws ∧ IsB wr (w.heap.size + 1) 29 (List.replicate 32 0) ∧ IsB wr (w.heap.size + 2) 29 (digK ws k ++ List.replicate (32 - k) 0) ∧ Frm [] w wr
set_option maxRecDepth 100000 in
set_option maxHeartbeats 4000000 in
theorem digest_any (ws : List UInt32) (hws : ws.length = 8) (w : World) :
    Calls Tryd.prog 38 #[.agg (W32 ws).toArray] w fun r w' => r = .returned (.agg (bvs (digK ws 32)).toArray) ∧ Frm [] w w' := by
  have HWL := Lib.hid hws
  clear hws
  go_enter Tryd.func38, Tryd.ntmps38
  go_wp2_with fail
  go_loopw [5] (DigRel w ws) (fun c _ => 32 - (intOf c).toNat)
  case atStart =>
    refine ⟨0, by omega, rfl, heap_alloc_lt (heap_alloc_lt (heap_alloc_new _ _)), ?_, ?_, (((Frm.refl _ _).alloc _).alloc _).alloc _⟩
    · unfold IsB; rw [bvs_zero]; exact heap_alloc_lt (heap_alloc_at (by simp))
    · unfold IsB; rw [show digK ws 0 ++ List.replicate (32 - 0) (0 : UInt8) = List.replicate 32 0 from rfl, bvs_zero]; exact heap_alloc_at (by simp)
  case round =>
    obtain ⟨k, hk, rfl, hW, hR, hX, f⟩ := hrel
    by_cases hlt : k < 32
    · have hql : k / 4 < ws.length := by rw [HWL.out]; omega
      have cq := hW.cell (k / 4) hql
      rw [at32_lt] at cq
      have hxl : k < (digK ws k ++ List.replicate (32 - k) (0 : UInt8)).length := by simp [digK_length]; omega
      have cx := hX.cell k hxl
      have zx := hX.frozen k
      generalize (digK ws k ++ List.replicate (32 - k) (0 : UInt8))[k]'hxl = x0 at cx
      have hset := digK_set ws k hlt
      have hdb : digB ws k = UInt8.ofNat ((at32 ws (k / 4)).toNat / 2 ^ (24 - 8 * (k % 4))) := rfl
      have hdv := dig_val (at32 ws (k / 4)) (24 - 8 * (k % 4))
      rw [← hdb] at hdv
      obtain ⟨q, hq⟩ : ∃ q, k / 4 = q := ⟨_, rfl⟩
      obtain ⟨r, hr⟩ : ∃ r, k % 4 = r := ⟨_, rfl⟩
      have hq0 : (k : Int) / 4 = (q : Int) := by omega
      have hr0 : (k : Int) % 4 = (r : Int) := by omega
      have hr4 : (r : Int) < 4 := by omega
      have hq8 : (q : Int) < 8 := by omega
      have hrp : (0 : Int) ≤ (r : Int) := by omega
      have hqp : (0 : Int) ≤ (q : Int) := by omega
      rw [hq] at cq hdv
      rw [hr] at hdv
      generalize at32 ws q = xq at *
      generalize digB ws k = db at *
      have HSET := Lib.hid hset
      have HDV := Lib.hid hdv
      have HW := Lib.hid hW
      have HR := Lib.hid hR
      have HX := Lib.hid hX
      have HF := Lib.hid f
      clear hset hdv hdb hW hR hX f hql hxl hq hr
      go_wp2_with fail
      refine ⟨⟨k + 1, by omega, by go_num, HW.out.other _ _ (by simp <;> omega), HR.out.other _ _ (by simp <;> omega), ?_, HF.out.setCell _ _ (.inr (by simp <;> omega))⟩, by simp [intOf]; omega⟩
      rw [← HSET.out]
      exact HX.out.store k db (by rw [HDV.out]; rfl)
    · obtain rfl : k = 32 := by omega
      have hX' : IsB wr (w.heap.size + 2) 29 (digK ws 32) := by simpa using hX
      have hsz : (bvs (digK ws 32)).toArray.size = 32 := by simp [bvs_length, digK_length]
      have hsz2 : (bvs (List.replicate 32 (0 : UInt8))).toArray.size = 32 := by simp [bvs_length]
      go_upto_region 7 with (fail)
      refine wp_region_lit ?_
      refine wpList_load_row rfl 29 (.tmp 3) rfl (w.heap.size + 2) rfl 29 (bvs (digK ws 32)).toArray (0, 0) _ hX' d29 rfl (by rw [hsz]; exact i29) ?_
      refine wpList_store_row rfl 29 (.tmp 2) (.tmp 21) rfl (w.heap.size + 1) (bvs (digK ws 32)).toArray rfl rfl 29 _ hR (by rw [hsz]; exact i29) (by rw [hsz]; exact hsz2) (bvs_oneA _) ?_
      have hres := setRow_heap wr (w.heap.size + 1) _ (bvs (digK ws 32)).toArray 29 (0, 0) hR
      have hfr : Frm [] w (wr.setRow (w.heap.size + 1) (bvs (digK ws 32)).toArray) := f.setRow _ _ (.inr (by omega))
      have HRES := Lib.hid hres
      have HFR := Lib.hid hfr
      have HSZ := Lib.hid hsz
      clear hres hfr hW hR hX hX' f hsz hsz2
      generalize wr.setRow (w.heap.size + 1) (bvs (digK ws 32)).toArray = w9 at *
      go_wp2_with fail
      refine bodyPost_ret (v := .agg (bvs (digK ws 32)).toArray) (results_cell_row rfl _ _ _ 29 _ (0, 0) _ rfl HRES.out d29 rfl (by rw [HSZ.out]; exact i29)) rfl ⟨rfl, HFR.out⟩
end Go.Proofs.YtopjbiccipgnjaaDoor
