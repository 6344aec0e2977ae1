/-
  Contracts of cmp.isNaN, cmp.Compare, the comparison of two devices, the insertion sort of devices. No conditions but those that each theorem names.
-/
import Derived.Test.YtojchfpfemofkaaA2
import Derived.Test.YtojchfpfemofkaaS0
import Derived.Shelf.SlSortCmp.Insertion
import Derived.Lib.Small
namespace Go.Proofs.Ytojchfpfemofkaa
open Go.RowKit Go.Sort Go.Shelf Go.Proofs
set_option linter.unusedVariables false
set_option linter.unusedSimpArgs false
set_option maxRecDepth 100000

theorem isNaN_any (x : Int) (w : World) : Calls Try.prog 36 #[.int .i64 x] w fun e w' => e = .returned (.bool false) ∧ w' = w := by
  go_enter Try.func36, Try.ntmps36
  go_wp2
  go_ret
  exact ⟨by simp, rfl⟩
set_option maxHeartbeats 1000000 in
theorem Compare_any (x y : Int) (w : World) : Calls Try.prog 34 #[.int .i64 x, .int .i64 y] w fun e w' => e = .returned (.int .i64 (Lib.compareInt x y)) ∧ w' = w := by
  go_enter Try.func34, Try.ntmps34
  go_wp2_with (go_at_call 36; refine (isNaN_any _ _).mono ?_; rintro e w' ⟨rfl, hw⟩; rw [hw])
  all_goals (go_ret; refine ⟨?_, rfl⟩; unfold Lib.compareInt; (repeat' split) <;> first | rfl | (exfalso; omega))
def cfR (r : List Int) (m : Nat) (x y : Fin (m + 1)) : Int := Lib.compareInt (gt r y.val) (gt r x.val)
theorem ltOf_cfR (r : List Int) (m : Nat) (x y : Fin (m + 1)) : ltOf (cfR r m) x y = decide (gt r y.val < gt r x.val) := by
  unfold ltOf cfR Lib.compareInt
  rw [decide_eq_decide]
  (repeat' split) <;> omega
set_option maxHeartbeats 1000000 in
theorem cmp_any (r : List Int) (m : Nat) (x y : Fin (m + 1)) (hr : m + 1 = r.length) (bx b off n cap : Nat) (sp : List Value) (w : World) (hb : w.cell? ⟨bx, 0, none⟩ = some (.slice (some ⟨b, off, none⟩) n cap)) (hS : SlI w (.slice (some ⟨b, off, none⟩) n cap) r sp) (hl : r.length ≤ 1000000) :
    Calls Try.prog 33 #[.int .i64 x.val, .int .i64 y.val, .pointer (some ⟨bx, 0, none⟩)] w fun e w' => e = .returned (.int .i64 (cfR r m x y)) ∧ ∃ q, w' = w.drewN q := by
  have HC := Lib.hid (fun W => Compare_any (gt r y.val) (gt r x.val) W)
  unfold cfR
  have hx := x.isLt
  have hy := y.isLt
  obtain ⟨a0, c0, e0, _, _⟩ := hS.form
  simp only [Value.slice.injEq] at e0
  obtain ⟨rfl, rfl, rfl⟩ := e0
  have cx := cellI hS x.val (by omega)
  have cy := cellI hS y.val (by omega)
  rw [← gt_lt] at cx cy
  generalize Lib.compareInt (gt r y.val) (gt r x.val) = c at *
  generalize gt r y.val = gy at *
  generalize gt r x.val = gx at *
  have hx9 : (x.val : Int) < (r.length : Int) := by omega
  have hy9 : (y.val : Int) < (r.length : Int) := by omega
  generalize x.val = xv at *
  generalize y.val = yv at *
  go_enter Try.func33, Try.ntmps33
  go_wp2
  go_quiet ((go_at_call 34; exact Calls.quiet_of_same (HC.out _)))
  go_wp2
  go_ret
  exact ⟨rfl, _, rfl⟩
def Try.insD_ren : Go.Shelf.Ren := ⟨fun | 20 => 37 | n => n, fun | 22 => 22 | 24 => 3 | 25 => 40 | 3 => 3 | 0 => 0 | 4 => 4 | n => n, fun | n => n⟩
theorem Try.insD : Go.Proofs.SlLaysF.n20 Try.prog Try.insD_ren := {
  mixed := by kernel_rfl,
  f20 := ⟨Try.f37.name, by decide, Try.func37.trans (congrArg some (by kernel_rfl))⟩,
  t0 := Try.underlying0,
  a0 := Try.isAgg0,
  z0 := Try.sizeOf0,
  v0 := Try.zeroValue0,
  t3 := Try.underlying3,
  a3 := Try.isAgg3,
  z3 := Try.sizeOf3,
  v3 := Try.zeroValue3,
  t4 := Try.underlying4,
  a4 := Try.isAgg4,
  z4 := Try.sizeOf4,
  v4 := Try.zeroValue4,
  t22 := Try.underlying22,
  a22 := Try.isAgg22,
  z22 := Try.sizeOf22,
  v22 := Try.zeroValue22,
  a24 := Try.isAgg3,
  z24 := Try.sizeOf3,
  t25 := Try.underlying40,
  a25 := Try.isAgg40,
  z25 := Try.sizeOf40,
  v25 := Try.zeroValue40 }
def eF (m : Nat) (x : Fin (m + 1)) : Value := .int .i64 (x.val : Int)
theorem oneF (m : Nat) : OneCell (eF m) := fun x => rfl
theorem frm_sort {m : Nat} (w : World) (g k : Nat) (d : Array (Fin (m + 1))) (os : Array Obj) : Frm [g] w (sortWorld (eF m) w g 0 k d os) := by
  have hsz : (putRow (eF m) (Sort.ahead w k) g 0 d).heap.size = w.heap.size := by rw [size_putRow]; rfl
  refine ⟨rfl, rfl, rfl, ?_, fun i hi hn => ?_⟩
  · show w.heap.size ≤ (grow _ os).heap.size
    rw [size_grow, hsz]; omega
  · show (grow _ os).heap[i]? = _
    rw [heap_grow_old _ os (by rw [hsz]; exact hi)]
    simp only [putRow, mapBlock, Array.getElem?_modify]
    rw [if_neg (by intro e; exact hn (by simp [e]))]
    rfl
theorem own_sorted {m : Nat} {w : World} {g n cap : Nat} {l : List Int} {sp : List Value} (h : OwnI w (.slice (some ⟨g, 0, none⟩) n cap) l sp) (d : Array (Fin (m + 1))) (hd : d.size = l.length) :
    OwnI (putRow (eF m) w g 0 d) (.slice (some ⟨g, 0, none⟩) n cap) (cz (d.toList.map Fin.val)) sp := by
  obtain ⟨c1, c2, c3, c4⟩ := OwnE.caps encI h
  refine OwnI.of_heap ?_ (by rw [cz_length]; simp; omega) (by rw [cz_length]; simp; omega) c4
  simp only [putRow, mapBlock, Array.getElem?_modify, if_true]
  rw [OwnI.heap h]
  simp only [Option.map_some, onCells]
  congr 2
  apply Array.ext_getElem?
  intro k
  simp only [putCells, Array.getElem?_mapIdx, List.getElem?_toArray, Nat.zero_add, Nat.sub_zero]
  by_cases hk : k < l.length
  · rw [List.getElem?_append_left (by simp; omega), List.getElem?_append_left (by simp [cz]; omega), List.getElem?_eq_getElem (by simp; omega), List.getElem?_eq_getElem (by simp [cz]; omega), Option.map_some, if_pos ⟨by omega, by omega⟩, getElem!_pos _ k (by omega)]
    simp [cz, eF]
  · rw [List.getElem?_append_right (by simp; omega), List.getElem?_append_right (by simp [cz]; omega)]
    simp only [List.length_map, cz_length, Array.length_toList, hd]
    cases sp[k - l.length]? with
    | none => rfl
    | some y => rw [Option.map_some, if_neg (by omega)]
/-- What the sort tells. -/
def InOrder (r : List Int) (S : List Nat) : Prop := S.length = r.length ∧ (∀ x, x ∈ S ↔ x < r.length) ∧ S.Pairwise (Ah r)
def SrtP (r : List Int) (g cap : Nat) (sp : List Value) (w : World) (e : Ending) (w' : World) : Prop := e = .returned (.tuple #[]) ∧ ∃ S, InOrder r S ∧ OwnI w' (.slice (some ⟨g, 0, none⟩) r.length cap) (cz S) sp ∧ Frm [g] w w'
theorem ins_any (r : List Int) (bx b off n cp g cap : Nat) (rsp sp : List Value) (w : World) (hr : 0 < r.length) (hl : r.length ≤ 1000000) (hO : OwnI w (.slice (some ⟨g, 0, none⟩) r.length cap) (cz (List.range r.length)) sp)
    (hb : w.cell? ⟨bx, 0, none⟩ = some (.slice (some ⟨b, off, none⟩) n cp)) (hS : SlI w (.slice (some ⟨b, off, none⟩) n cp) r rsp) (h1 : bx ≠ g) (h2 : b ≠ g) :
    Calls Try.prog 37 #[.slice (some ⟨g, 0, none⟩) r.length cap, .int .i64 0, .int .i64 r.length, .func (.func 33) #[] #[.pointer (some ⟨bx, 0, none⟩)]] w (SrtP r g cap sp w) := by
  obtain ⟨m, hm⟩ : ∃ m, r.length = m + 1 := ⟨r.length - 1, by omega⟩
  have hm' : m + 1 = r.length := hm.symm
  have hcm : CmpReads Try.prog 33 #[.pointer (some ⟨bx, 0, none⟩)] (eF m) (cfR r m) g 0 (ups m).size w := fun k os dk _ x y => by
    have f := frm_sort w g k dk os
    exact cmp_any r m x y hm' bx b off n cp rsp _ (f.cell hb (by simpa using h1)) (hS.keep f (by simpa [blk] using h2)) hl
  have hH : Holds (eF m) w g 0 (ups m) := by
    intro j hj
    rw [ups_size] at hj
    refine ⟨?_, frozen_of_heap (OwnE.heap hO) _⟩
    have := cellI hO.sl j (by rw [cz_length]; simp; omega)
    rw [this, ups_get m j hj]
    simp [cz, eF]
  have eg : ∀ args w, (callFunc 33 args).run Try.prog w = .ok (.enter 33 args) w := enters_of Try.func33 (by kernel_rfl) rfl
  have hc := Any.insertionSortCmpFunc_one Try.insD (eF m) (oneF m) (cfR r m) 33 #[.pointer (some ⟨bx, 0, none⟩)] g 0 cap 0 (m + 1) (ups m) w eg hcm hH (by omega) (by rw [ups_size]; omega) (by rw [ups_size]; omega)
  change Calls Try.prog 37 _ _ _ at hc
  rw [ups_size] at hc
  rw [hm]
  refine hc.mono ?_
  rintro e W' ⟨rfl, q, rfl⟩
  obtain ⟨d, hd⟩ : ∃ d, d = insertionSort (ltOf (cfR r m)) (ups m) 0 (m + 1) := ⟨_, rfl⟩
  obtain ⟨s1, s2, s3⟩ := sorted_dev r m (ltOf (cfR r m)) (ltOf_cfR r m) d hd
  rw [← hd]
  refine ⟨rfl, d.toList.map Fin.val, ⟨by simp; omega, fun x => by rw [s2 x, hm], s3⟩, ?_, ?_⟩
  · have o := own_sorted (hO.keep0 ((Frm.refl [] w).drewN q)) d (by rw [s1, cz_length]; simp; omega)
    rw [hm] at o ⊢
    exact o
  · have f := frm_sort w g 0 d #[]
    rw [sortWorld_none] at f
    exact f.drewN q
set_option maxHeartbeats 1000000 in
theorem stable_any (r : List Int) (bx b off n cp g cap : Nat) (rsp sp : List Value) (w : World) (hr : 0 < r.length) (hl : r.length ≤ 12) (hO : OwnI w (.slice (some ⟨g, 0, none⟩) r.length cap) (cz (List.range r.length)) sp)
    (hb : w.cell? ⟨bx, 0, none⟩ = some (.slice (some ⟨b, off, none⟩) n cp)) (hS : SlI w (.slice (some ⟨b, off, none⟩) n cp) r rsp) (h1 : bx ≠ g) (h2 : b ≠ g) :
    Calls Try.prog 35 #[.slice (some ⟨g, 0, none⟩) r.length cap, .int .i64 r.length, .func (.func 33) #[] #[.pointer (some ⟨bx, 0, none⟩)]] w (SrtP r g cap sp w) := by
  have H := Lib.hid (ins_any r bx b off n cp g cap rsp sp w hr (by omega) hO hb hS h1 h2)
  have l1 : ¬ (20 : Int) ≤ (r.length : Int) := by omega
  have l2 : ¬ (20 : Int) < (r.length : Int) := by omega
  clear hO hb hS h1 h2
  go_enter Try.func35, Try.ntmps35
  go_wp2_with fail
  refine wp_loop_rounds 1 ?_
  rw [rounds_succ]
  go_wp2_with (go_at_call 37; refine Calls.mono (H.out) ?_; rintro ee W1 ⟨rfl, S, i1, o1, f1⟩)
  refine wp_loop_rounds 1 ?_
  rw [rounds_succ]
  go_wp2_with fail
  go_end0
  exact ⟨rfl, S, i1, o1, f1⟩
set_option maxHeartbeats 1000000 in
theorem Stable_any (r : List Int) (bx b off n cp g cap : Nat) (rsp sp : List Value) (w : World) (hr : 0 < r.length) (hl : r.length ≤ 12) (hO : OwnI w (.slice (some ⟨g, 0, none⟩) r.length cap) (cz (List.range r.length)) sp)
    (hb : w.cell? ⟨bx, 0, none⟩ = some (.slice (some ⟨b, off, none⟩) n cp)) (hS : SlI w (.slice (some ⟨b, off, none⟩) n cp) r rsp) (h1 : bx ≠ g) (h2 : b ≠ g) :
    Calls Try.prog 32 #[.slice (some ⟨g, 0, none⟩) r.length cap, .func (.func 33) #[] #[.pointer (some ⟨bx, 0, none⟩)]] w (SrtP r g cap sp w) := by
  have H := Lib.hid (stable_any r bx b off n cp g cap rsp sp w hr hl hO hb hS h1 h2)
  clear hO hb hS h1 h2
  go_enter Try.func32, Try.ntmps32
  go_wp2_with (go_at_call 35; refine Calls.mono (H.out) ?_; rintro ee W1 ⟨rfl, S, i1, o1, f1⟩)
  go_end0
  exact ⟨rfl, S, i1, o1, f1⟩
end Go.Proofs.Ytojchfpfemofkaa
