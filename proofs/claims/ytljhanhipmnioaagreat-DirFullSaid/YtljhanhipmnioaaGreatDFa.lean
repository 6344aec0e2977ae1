/-
  Dir, the laws: grows, and the tables of DirFull. No conditions but those that each theorem names.
-/
import Derived.Test.YtljhanhipmnioaaGreatDKa1
import Derived.Test.YtljhanhipmnioaaGreatDKa2
import Derived.Test.YtljhanhipmnioaaGreatDKa3
import Derived.Test.YtljhanhipmnioaaGreatDKa4
import Derived.Test.YtljhanhipmnioaaGreatDKa5
import Derived.Test.YtljhanhipmnioaaGreatDKa6
import Derived.Test.YtljhanhipmnioaaGreatDKa7
import Derived.Test.YtljhanhipmnioaaGreatDKa8
import Derived.Test.YtljhanhipmnioaaGreatDKa9
import Derived.Test.YtljhanhipmnioaaGreatDKa10
import Derived.Test.YtljhanhipmnioaaGreatDKa11
import Derived.Test.YtljhanhipmnioaaGreatDKa12
namespace Go.Proofs.YtljhanhipmnioaaGreat.Rd
open Go.RowKit
set_option linter.unusedVariables false
set_option linter.unusedSimpArgs false
set_option maxRecDepth 100000

open Pt (Pt may enc zeroPt be4 be1 pc pv PtV SlA OwnA BT wpList_load_g heap_alloc_at Ext Grew yieldsIf_ld)
open Kr (OwnE SlE Enco RowTys)

def growT (b : Bool) (t : Tab) (s : ByteArray) : Tab × Int := if b then snapT t ({ data := #[118, 64] } ++ s) 1 else makeT t s 1 1
set_option maxHeartbeats 8000000 in
theorem grows_any (vr vl : Value) (t : Tab) (b : Bool) (s : ByteArray) (w : World) (h : TabV w vr vl t) (hf : FitT t) (hs : s.size ≤ 900) : Calls Tryz.prog 58 #[tv vr vl t, .bool b, .string s] w (TellE (growT b t s) w) := by
  have F0 := Lib.hid (show Frm [] w ((w.alloc (.cells (tc vr vl t).toArray 27)).alloc (.cells (tc nilS nilS zeroT).toArray 27)) from ((Frm.refl [] w).alloc _).alloc _)
  have BT := Lib.hid ((TB.new w vr vl t).keep0 ((Frm.refl [] _).alloc (.cells (tc nilS nilS zeroT).toArray 27)))
  have R6 := Lib.hid (show TB ((w.alloc (.cells (tc vr vl t).toArray 27)).alloc (.cells (tc nilS nilS zeroT).toArray 27)) (w.heap.size + 1) nilS nilS zeroT from heap_alloc_at (by simp))
  have HS1 := Lib.hid (show ({ data := #[118, 64] } ++ s : ByteArray).size ≤ 1000 by rw [ByteArray.size_append]; have : ({ data := #[118, 64] } : ByteArray).size = 2 := rfl; omega)
  have SN := Lib.hid (fun z (f : Frm [] w z) => Snap_any vr vl t ({ data := #[118, 64] } ++ s) 1 z (h.keep0 f) hf HS1.out)
  have MK := Lib.hid (fun z (f : Frm [] w z) => Make_any vr vl t s 1 1 z (h.keep0 f) hf (by omega))
  have HT := Lib.hid (show growT true t s = snapT t ({ data := #[118, 64] } ++ s) 1 from rfl)
  have HF := Lib.hid (show growT false t s = makeT t s 1 1 from rfl)
  generalize snapT t ({ data := #[118, 64] } ++ s) 1 = rs at *
  generalize makeT t s 1 1 = rm at *
  have LA := Lib.hid BT.out.gets.all
  rw [tcA]
  generalize (tc vr vl t).toArray = A at *
  have SZ := Lib.hid (show w.heap.size + 1 < ((w.alloc (.cells A 27)).alloc (.cells (tc nilS nilS zeroT).toArray 27)).heap.size by simp)
  clear h hf
  cases b with
  | true =>
    rw [HT.out]
    have hz1 : ¬ 9223372036854775807 < ({ data := #[118, 64] } : ByteArray).size + s.size := by have : ({ data := #[118, 64] } : ByteArray).size = 2 := rfl; omega
    have hz2 : ¬ 9223372036854775807 < 2 + s.size := by omega
    go_enter Tryz.func58, Tryz.ntmps58
    go_upto_region 1 with ((with_reducible (show wpList _ _ _ (Oper.mk _ (Op.alloc 27) _ _ _ _ :: _) _ _)); refine wpList_val rfl (exec_alloc27 rfl _) ?_)
    try simp only [World.size_alloc]
    generalize (w.alloc (.cells A 27)).alloc (.cells (tc nilS nilS zeroT).toArray 27) = W at *
    go_wp2_with (first
      | ((with_reducible (show wpList _ _ _ (Oper.mk _ (Op.load 27 _) _ _ _ _ :: _) _ _)); refine wpList_load_g (by rfl) 27 _ rfl _ rfl LA.out ?_)
      | (go_at_call 52; refine (SN.out _ F0.out).mono ?_; intro r w1 hr; obtain ⟨vr1, vl1, rfl, o1, f1⟩ := hr)
      | ((with_reducible (show wpList _ _ _ (Oper.mk _ (Op.store 27 _ _) _ _ _ _ :: _) _ _)); refine wpList_store27 rfl (.tmp 6) (.tmp 13) rfl o1.ones.1 o1.ones.2 (R6.out.keep0 f1) rfl rfl ?_; intro w2 b2 f2))
    refine bodyPost_ret (results_cell_slot (p := 6) (q := 7) rfl _ _ rfl rfl (run_loadVar_row w2 (w.heap.size + 1) 27 27 _ (0, 0) _ b2 Tryz.underlying27 rfl (by rw [i27]; simp [tc]))) rfl ?_
    exact ⟨vr1, vl1, rfl, (o1.keep f2 (fun i hi => .inl (by simp at hi; have := SZ.out; omega))).base F0.out.size, (F0.out.trans f1 (by simp)).trans f2 (fun i hi => .inr (by simp at hi; omega))⟩
  | false =>
    rw [HF.out]
    go_enter Tryz.func58, Tryz.ntmps58
    go_upto_region 1 with ((with_reducible (show wpList _ _ _ (Oper.mk _ (Op.alloc 27) _ _ _ _ :: _) _ _)); refine wpList_val rfl (exec_alloc27 rfl _) ?_)
    try simp only [World.size_alloc]
    generalize (w.alloc (.cells A 27)).alloc (.cells (tc nilS nilS zeroT).toArray 27) = W at *
    go_wp2_with (first
      | ((with_reducible (show wpList _ _ _ (Oper.mk _ (Op.load 27 _) _ _ _ _ :: _) _ _)); refine wpList_load_g (by rfl) 27 _ rfl _ rfl LA.out ?_)
      | (go_at_call 51; refine (MK.out _ F0.out).mono ?_; intro r w1 hr; obtain ⟨vr1, vl1, rfl, o1, f1⟩ := hr)
      | ((with_reducible (show wpList _ _ _ (Oper.mk _ (Op.store 27 _ _) _ _ _ _ :: _) _ _)); refine wpList_store27 rfl (.tmp 6) (.tmp 18) rfl o1.ones.1 o1.ones.2 (R6.out.keep0 f1) rfl rfl ?_; intro w2 b2 f2))
    refine bodyPost_ret (results_cell_slot (p := 6) (q := 7) rfl _ _ rfl rfl (run_loadVar_row w2 (w.heap.size + 1) 27 27 _ (0, 0) _ b2 Tryz.underlying27 rfl (by rw [i27]; simp [tc]))) rfl ?_
    exact ⟨vr1, vl1, rfl, (o1.keep f2 (fun i hi => .inl (by simp at hi; have := SZ.out; omega))).base F0.out.size, (F0.out.trans f1 (by simp)).trans f2 (fun i hi => .inr (by simp at hi; omega))⟩
/-- The letters, a name of one of them, the tables that come of growing. -/
def ltrs : ByteArray := { data := #[97, 98, 99, 100, 101, 102, 103, 104, 105, 106, 107, 108, 109, 110, 111, 112, 113, 114, 115, 116, 117] }
def lett (i : Nat) : ByteArray := ltrs.extract i (i + 1)
theorem lett_size (i : Nat) : (lett i).size ≤ 900 := by
  unfold lett
  rw [ByteArray.size_extract]
  omega
def nmG (b : Bool) (i : Nat) : ByteArray := if b then { data := #[118, 64] } ++ lett i else lett i
theorem nmG_size (b : Bool) (i : Nat) : (nmG b i).size ≤ 1000 := by
  have := lett_size i
  cases b
  · show (lett i).size ≤ 1000
    omega
  · show ({ data := #[118, 64] } ++ lett i : ByteArray).size ≤ 1000
    rw [ByteArray.size_append]; have : ({ data := #[118, 64] } : ByteArray).size = 2 := rfl; omega
def rV : Rec := ⟨1, { data := #[118] }, 1, 1, Pt.zeroPt, 1, 0, 0, 0, 0⟩
def rowsG (b : Bool) (i : Nat) : List Rec := if b then rV :: (List.range i).map (fun (j : Nat) => ⟨2 + (j : Int), { data := #[118, 64] } ++ lett j, 2, 1, Pt.zeroPt, 1, 1, 0, 0, 0⟩) else (List.range i).map (fun (j : Nat) => ⟨2 + (j : Int), lett j, 1, 1, Pt.zeroPt, 1, 0, 0, 0, 0⟩) ++ [rV]
def tabG (b : Bool) (i : Nat) : Tab := ⟨2 + (i : Int), rowsG b i, zeroC, [0, 0]⟩
theorem kg0 : makeT (newT 2) { data := #[118] } 1 1 = (tabG false 0, 0) := by kernel_rfl
theorem kg0' : tabG true 0 = tabG false 0 := by kernel_rfl
theorem kgF (i : Nat) (h : i < 15) : growT false (tabG false i) (lett i) = (tabG false (i + 1), 0) := by
  obtain rfl | rfl | rfl | rfl | rfl | rfl | rfl | rfl | rfl | rfl | rfl | rfl | rfl | rfl | rfl : i = 0 ∨ i = 1 ∨ i = 2 ∨ i = 3 ∨ i = 4 ∨ i = 5 ∨ i = 6 ∨ i = 7 ∨ i = 8 ∨ i = 9 ∨ i = 10 ∨ i = 11 ∨ i = 12 ∨ i = 13 ∨ i = 14 := by omega
  all_goals kernel_rfl
theorem kgT (i : Nat) (h : i < 15) : growT true (tabG true i) (lett i) = (tabG true (i + 1), 0) := by
  obtain rfl | rfl | rfl | rfl | rfl | rfl | rfl | rfl | rfl | rfl | rfl | rfl | rfl | rfl | rfl : i = 0 ∨ i = 1 ∨ i = 2 ∨ i = 3 ∨ i = 4 ∨ i = 5 ∨ i = 6 ∨ i = 7 ∨ i = 8 ∨ i = 9 ∨ i = 10 ∨ i = 11 ∨ i = 12 ∨ i = 13 ∨ i = 14 := by omega
  all_goals kernel_rfl
theorem kmF (i : Nat) (h : i < 16) : mayT (tabG false i) = true := by
  obtain rfl | rfl | rfl | rfl | rfl | rfl | rfl | rfl | rfl | rfl | rfl | rfl | rfl | rfl | rfl | rfl : i = 0 ∨ i = 1 ∨ i = 2 ∨ i = 3 ∨ i = 4 ∨ i = 5 ∨ i = 6 ∨ i = 7 ∨ i = 8 ∨ i = 9 ∨ i = 10 ∨ i = 11 ∨ i = 12 ∨ i = 13 ∨ i = 14 ∨ i = 15 := by omega
  all_goals kernel_rfl
theorem kmT (i : Nat) (h : i < 16) : mayT (tabG true i) = true := by
  obtain rfl | rfl | rfl | rfl | rfl | rfl | rfl | rfl | rfl | rfl | rfl | rfl | rfl | rfl | rfl | rfl : i = 0 ∨ i = 1 ∨ i = 2 ∨ i = 3 ∨ i = 4 ∨ i = 5 ∨ i = 6 ∨ i = 7 ∨ i = 8 ∨ i = 9 ∨ i = 10 ∨ i = 11 ∨ i = 12 ∨ i = 13 ∨ i = 14 ∨ i = 15 := by omega
  all_goals kernel_rfl
theorem kfF (i : Nat) (h : 15 ≤ i) (h2 : i < 17) : growT false (tabG false 15) (lett i) = (zeroT, 8) := by
  obtain rfl | rfl : i = 15 ∨ i = 16 := by omega
  · kernel_rfl
  · kernel_rfl
theorem kfT (i : Nat) (h : 15 ≤ i) (h2 : i < 17) : growT true (tabG true 15) (lett i) = (zeroT, 8) := by
  obtain rfl | rfl : i = 15 ∨ i = 16 := by omega
  · kernel_rfl
  · kernel_rfl
def drpG (b : Bool) (i : Nat) : Tab := (dropT (tabG b 15) (nmG b i)).1
def ugG (b : Bool) (i : Nat) : Tab := (growT b (drpG b i) { data := #[117] }).1
theorem kdF (i : Nat) (h : i < 15) : dropT (tabG false 15) (nmG false i) = (drpG false i, 0) ∧ mayT (drpG false i) = true := by
  refine ⟨?_, ?_⟩ <;> (obtain rfl | rfl | rfl | rfl | rfl | rfl | rfl | rfl | rfl | rfl | rfl | rfl | rfl | rfl | rfl : i = 0 ∨ i = 1 ∨ i = 2 ∨ i = 3 ∨ i = 4 ∨ i = 5 ∨ i = 6 ∨ i = 7 ∨ i = 8 ∨ i = 9 ∨ i = 10 ∨ i = 11 ∨ i = 12 ∨ i = 13 ∨ i = 14 := by omega) <;> kernel_rfl
theorem kuF (i : Nat) (h : i < 15) : growT false (drpG false i) { data := #[117] } = (ugG false i, 0) ∧ mayT (ugG false i) = true ∧ (ugG false i).recs.length = 16 ∧ growT false (ugG false i) { data := #[122] } = (zeroT, 8) := by
  refine ⟨?_, ?_, ?_, ?_⟩ <;> (obtain rfl | rfl | rfl | rfl | rfl | rfl | rfl | rfl | rfl | rfl | rfl | rfl | rfl | rfl | rfl : i = 0 ∨ i = 1 ∨ i = 2 ∨ i = 3 ∨ i = 4 ∨ i = 5 ∨ i = 6 ∨ i = 7 ∨ i = 8 ∨ i = 9 ∨ i = 10 ∨ i = 11 ∨ i = 12 ∨ i = 13 ∨ i = 14 := by omega) <;> kernel_rfl
theorem kdT (i : Nat) (h : i < 15) : dropT (tabG true 15) (nmG true i) = (drpG true i, 0) ∧ mayT (drpG true i) = true := by
  refine ⟨?_, ?_⟩ <;> (obtain rfl | rfl | rfl | rfl | rfl | rfl | rfl | rfl | rfl | rfl | rfl | rfl | rfl | rfl | rfl : i = 0 ∨ i = 1 ∨ i = 2 ∨ i = 3 ∨ i = 4 ∨ i = 5 ∨ i = 6 ∨ i = 7 ∨ i = 8 ∨ i = 9 ∨ i = 10 ∨ i = 11 ∨ i = 12 ∨ i = 13 ∨ i = 14 := by omega) <;> kernel_rfl
theorem kuT (i : Nat) (h : i < 15) : growT true (drpG true i) { data := #[117] } = (ugG true i, 0) ∧ mayT (ugG true i) = true ∧ (ugG true i).recs.length = 16 ∧ growT true (ugG true i) { data := #[122] } = (zeroT, 8) := by
  refine ⟨?_, ?_, ?_, ?_⟩ <;> (obtain rfl | rfl | rfl | rfl | rfl | rfl | rfl | rfl | rfl | rfl | rfl | rfl | rfl | rfl | rfl : i = 0 ∨ i = 1 ∨ i = 2 ∨ i = 3 ∨ i = 4 ∨ i = 5 ∨ i = 6 ∨ i = 7 ∨ i = 8 ∨ i = 9 ∨ i = 10 ∨ i = 11 ∨ i = 12 ∨ i = 13 ∨ i = 14 := by omega) <;> kernel_rfl
end Go.Proofs.YtljhanhipmnioaaGreat.Rd
