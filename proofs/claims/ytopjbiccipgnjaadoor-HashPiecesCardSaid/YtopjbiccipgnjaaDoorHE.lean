/-
  Contracts of Grow, Concat and filledUp; no conditions but those that each theorem names.
-/
import Derived.Test.YtopjbiccipgnjaaDoorHD
import Derived.Lib.AppendZeros
namespace Go.Proofs.YtopjbiccipgnjaaDoor
open Go.RowKit
set_option linter.unusedVariables false
set_option linter.unusedSimpArgs false

theorem zeroCells_bytes (n : Nat) : (Builtin.zeroCells (Value.int .u8 0).cells n).toList = bvs (List.replicate n 0) := by
  apply List.ext_getElem
  · simp [Builtin.zeroCells, bvs, Value.cells]
  · intro i h1 h2
    simp [Builtin.zeroCells, bvs, Value.cells, bv, Nat.mod_one]
def Grew (w : World) (r : Ending) (w' : World) : Prop := ∃ cap sp, r = .returned (.slice (some ⟨w.heap.size, 0, none⟩) 0 cap) ∧ OwnB 5 w' (.slice (some ⟨w.heap.size, 0, none⟩) 0 cap) [] sp ∧ Frm [] w w'
set_option maxHeartbeats 1000000 in
theorem Grow_any (n : Nat) (w : World) (h1 : 1 ≤ n) (hn : n ≤ 1000000000) : Calls Tryd.prog 52 #[.slice none 0 0, .int .i64 n] w fun r w' => Grew w r w' := by
  have hn9 : (n : Int) ≤ 1000000000 := by omega
  have hn1 : (1 : Int) ≤ n := by omega
  obtain ⟨i, hi, hz, hs, hby⟩ := info_parts BT.info
  have hr := fun wx => Lib.run_append_nil_zeros (P := Tryd.prog) wx 22 3 22 5 i _ .i64 .i64 Tryd.underlying22 Tryd.underlying3 hi hz n h1 (by omega) (by omega) (by rw [hby]; omega)
  have hge := grownCap_ge w n 0 5
  have hcm : grownCap w n 0 5 ≤ maxLen := grownCap_le_maxLen w n 0 5 (by simp [maxLen]; omega)
  have ho : OwnB 5 (w.drew.alloc (.cells (Builtin.zeroCells (Value.int .u8 0).cells n ++ Builtin.zeroCells (Value.int .u8 0).cells (grownCap w n 0 5 - n)) 5)) (.slice (some ⟨w.heap.size, 0, none⟩) 0 (grownCap w n 0 5)) [] (List.replicate n 0 ++ List.replicate (grownCap w n 0 5 - n) 0) := by
    refine OwnB.of_heap ?_ rfl (by simp; omega) hcm
    have := heap_alloc_new w.drew (.cells (Builtin.zeroCells (Value.int .u8 0).cells n ++ Builtin.zeroCells (Value.int .u8 0).cells (grownCap w n 0 5 - n)) 5)
    rw [show w.drew.heap.size = w.heap.size from rfl] at this
    rw [this]
    congr 2
    apply Array.ext'
    rw [Array.toList_append, zeroCells_bytes, zeroCells_bytes]
    simp [bvs]
  have HO := Lib.hid ho
  have HR := Lib.hid hr
  clear ho hr hi hz hs hby hge hcm
  go_enter Tryd.func52, Tryd.ntmps52
  go_wp2_with (at_builtin; refine Lib.wpList_append_run _ rfl (.tmp 20) (.tmp 21) 22 3 rfl _ _ rfl rfl _ _ (HR.out _) ?_)
  go_ret
  exact ⟨_, _, rfl, HO.out, ((Frm.refl _ _).drew).alloc _⟩
/-- How many bytes the first k of two slices are. -/
def two (l1 l2 : List UInt8) (k : Nat) : List UInt8 := if k = 0 then [] else if k = 1 then l1 else l1 ++ l2
def CatRel (w : World) (l1 l2 : List UInt8) (c v : Value) (wr : World) : Prop :=
  ∃ k a cap sp, k ≤ 2 ∧ v = .int .i64 (k : Nat) ∧ c = .slice a (two l1 l2 k).length cap ∧ OwnB 5 wr c (two l1 l2 k) sp ∧ Frm [] w wr ∧ ∀ i ∈ blk c, w.heap.size ≤ i
def Catted (w : World) (l : List UInt8) (r : Ending) (w' : World) : Prop := ∃ a cap sp, r = .returned (.slice a l.length cap) ∧ OwnB 5 w' (.slice a l.length cap) l sp ∧ Frm [] w w' ∧ ∀ i ∈ blk (.slice a l.length cap), w.heap.size ≤ i
set_option maxHeartbeats 2000000 in
theorem Concat_any (bb : Nat) (v1 v2 : Value) (l1 l2 sp1 sp2 : List UInt8) (w : World) (h0 : w.cell? ⟨bb, 0, none⟩ = some v1) (h1 : w.cell? ⟨bb, 1, none⟩ = some v2) (s1 : SlB w v1 l1 sp1) (s2 : SlB w v2 l2 sp2)
    (hl1 : l1.length ≤ 100000000) (hl2 : l2.length ≤ 100000000) (hp : 1 ≤ l2.length) :
    Calls Tryd.prog 46 #[.slice (some ⟨bb, 0, none⟩) 2 2] w fun r w' => Catted w (l1 ++ l2) r w' := by
  obtain ⟨a1, cap1, rfl, _, _⟩ := s1.form
  obtain ⟨a2, cap2, rfl, _, _⟩ := s2.form
  have S1 := Lib.hid s1
  have S2 := Lib.hid s2
  have H0 := Lib.hid h0
  have H1 := Lib.hid h1
  have b1 : (l1.length : Int) ≤ 100000000 := by omega
  have b2 : (l2.length : Int) ≤ 100000000 := by omega
  clear s1 s2
  go_enter Tryd.func46, Tryd.ntmps46
  go_wp2
  go_loop [3, 11] (fun s c => (c = .int .i64 0 ∧ s = .int .i64 0) ∨ (c = .int .i64 1 ∧ s = .int .i64 l1.length) ∨ (c = .int .i64 2 ∧ s = .int .i64 ((l1.length : Int) + (l2.length : Int)))) (fun _ c => 2 - (intOf c).toNat)
  case atStart => exact .inl ⟨rfl, rfl⟩
  case round =>
    rcases hrel with ⟨rfl, rfl⟩ | ⟨rfl, rfl⟩ | ⟨rfl, rfl⟩
    · go_wp2
      go_round
      case rel => exact .inr (.inl ⟨rfl, by go_num⟩)
      case measure => simp [intOf]
    · go_wp2
      go_round
      case rel => exact .inr (.inr ⟨rfl, rfl⟩)
      case measure => simp [intOf]
    · have hg := Grow_any (l1.length + l2.length) w (by omega) (by omega)
      rw [show ((l1.length + l2.length : Nat) : Int) = (l1.length : Int) + (l2.length : Int) from by omega] at hg
      have HG := Lib.hid hg
      clear hg hp
      go_wp2_with fail
      refine HG.out.mono ?_
      rintro r w1 ⟨cap, sp, rfl, o1, f1⟩
      have O1 := Lib.hid o1
      have F1 := Lib.hid f1
      have c0 := f1.cell h0 (by simp)
      have c1 := f1.cell h1 (by simp)
      clear o1 f1
      go_wp2_with fail
      go_loopw [6, 27] (CatRel w l1 l2) (fun _ c _ => 2 - (intOf c).toNat)
      case atStart => exact ⟨0, _, cap, sp, by omega, rfl, rfl, O1.out, F1.out, by simp [blk]⟩
      case round =>
        obtain ⟨k, a3, cap3, sp3, hk, rfl, rfl, o3, f3, g3⟩ := hrel
        have c0 := f3.cell H0.out (by simp)
        have c1 := f3.cell H1.out (by simp)
        have G3 := Lib.hid g3
        have F3 := Lib.hid f3
        have O3 := Lib.hid o3
        clear o3 f3 g3
        have hk3 : k = 0 ∨ k = 1 ∨ k = 2 := by omega
        rcases hk3 with rfl | rfl | rfl
        · go_wp2_with (at_builtin; refine wpList_append_bytes BT O3.out (S1.out.keep F3.out (by simp)) (by simp [two]; omega) rfl (.tmp 31) (.tmp 32) rfl rfl rfl ?_; intro a4 cap4 w4 sp4 o4 f4 n4)
          refine ⟨⟨1, a4, cap4, sp4, by omega, rfl, ?_, ?_, F3.out.trans f4 (fun i hi => .inr (G3.out i hi)), fun i hi => ?_⟩, by simp [intOf]⟩
          · simp [two]
          · simpa [two] using o4
          · rcases n4 i hi with h | h
            · exact G3.out i h
            · exact Nat.le_trans F3.out.size h
        · go_wp2_with (at_builtin; refine wpList_append_bytes BT O3.out (S2.out.keep F3.out (by simp)) (by simp [two]; omega) rfl (.tmp 31) (.tmp 32) rfl rfl rfl ?_; intro a4 cap4 w4 sp4 o4 f4 n4)
          refine ⟨⟨2, a4, cap4, sp4, by omega, rfl, ?_, ?_, F3.out.trans f4 (fun i hi => .inr (G3.out i hi)), fun i hi => ?_⟩, by simp [intOf]⟩
          · simp [two]
          · simpa [two] using o4
          · rcases n4 i hi with h | h
            · exact G3.out i h
            · exact Nat.le_trans F3.out.size h
        · go_wp2
          go_ret
          exact ⟨a3, cap3, sp3, by simp [two], by simpa [two] using O3.out, F3.out, by simpa [two] using G3.out⟩
/-- Bytes, filled up. -/
def filled (b : List UInt8) : List UInt8 := b ++ endK b.length 8
theorem filled_length (b : List UInt8) : (filled b).length = b.length + padN b.length := by simp [filled, endK_length]
set_option maxHeartbeats 1000000 in
theorem filledUp_any (v : Value) (b sp : List UInt8) (w : World) (hS : SlB w v b sp) (hb : b.length ≤ 10000000) : Calls Tryd.prog 35 #[v] w fun r w' => Catted w (filled b) r w' := by
  obtain ⟨a, cap, rfl, hc1, hc2⟩ := hS.form
  have HS := Lib.hid hS
  have hb9 : (b.length : Int) ≤ 10000000 := by omega
  clear hS
  go_enter Tryd.func35, Tryd.ntmps35
  go_wp2_with fail
  refine (ending_any b.length _ (by omega)).mono ?_
  rintro r w1 ⟨rfl, o1, f1⟩
  have O1 := Lib.hid o1
  have F1 := Lib.hid f1
  have hp := padN_ge b.length
  have HP := Lib.hid hp
  clear o1 f1 hp
  go_wp2_with fail
  refine (Concat_any w1.heap.size (.slice a b.length cap) (.slice (some ⟨w.heap.size, 0, none⟩) (padN b.length) (padN b.length)) b (endK b.length 8) sp [] _ (by rw [cell_of_heap (heap_alloc_new _ _)]; rfl) (by rw [cell_of_heap (heap_alloc_new _ _)]; rfl) (HS.out.keep (F1.out.alloc _) (by simp)) ((O1.out.keep ((Frm.refl [] _).alloc _) (by simp)).sl) (by omega) (by rw [endK_length]; have := HP.out; omega) (by rw [endK_length]; have := HP.out; omega)).mono ?_
  rintro r w2 ⟨a2, cap2, sp2, rfl, o2, f2, g2⟩
  have hz1 := F1.out.size
  have hz2 := (((Frm.refl [] w1).alloc (.cells #[.slice a b.length cap, .slice (some ⟨w.heap.size, 0, none⟩) (padN b.length) (padN b.length)] 22)).size)
  have R := Lib.hid (show Catted w (filled b) (.returned (.slice a2 (b ++ endK b.length 8).length cap2)) w2 from ⟨a2, cap2, sp2, rfl, o2, (F1.out.alloc _).trans f2 (by simp), fun i hi => Nat.le_trans (Nat.le_trans hz1 hz2) (g2 i hi)⟩)
  clear hz1 hz2
  clear o2 f2 g2
  go_wp2_with fail
  go_ret
  have hR := R.out
  rw [List.length_append] at hR
  exact hR
end Go.Proofs.YtopjbiccipgnjaaDoor
