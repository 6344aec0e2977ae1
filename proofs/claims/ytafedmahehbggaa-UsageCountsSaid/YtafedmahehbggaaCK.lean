/-
  Contracts of SameAddrs, CopyAddrs, OverAddrs. No conditions but those that each theorem names.
-/
import Derived.Test.YtafedmahehbggaaCH
namespace Go.Proofs.Ytafedmahehbggaa
open Go.RowKit Go.Sort Go.Maps
set_option linter.unusedVariables false
set_option linter.unusedSimpArgs false
set_option maxRecDepth 100000

def CntRel (n : Nat) (w0 : World) (cv : Value) (wr : World) : Prop := ∃ k : Nat, k ≤ n ∧ cv = .int .i64 k ∧ Frm [] w0 wr
set_option maxHeartbeats 1000000 in
theorem Same_true (v x : Value) (l sp sp2 : List Ad) (w : World) (h1 : SlA w v l sp) (h2 : SlA w x l sp2) (hl : l.length ≤ 1000000) :
    Calls Try.prog 19 #[v, x] w fun e w' => e = .returned (.bool true) ∧ Frm [] w w' := by
  obtain ⟨a, cap, rfl, _, _⟩ := h1.form
  obtain ⟨a2, cap2, rfl, _, _⟩ := h2.form
  have hl9 : ((l.length : Nat) : Int) ≤ 1000000 := by omega
  have H1 := Lib.hid h1
  have H2 := Lib.hid h2
  clear h1 h2 hl
  go_enter Try.func19, Try.ntmps19
  go_wp2_with fail
  go_loopw [5] (CntRel l.length w) (fun cv _ => l.length - (intOf cv).toNat)
  case atStart => exact ⟨0, by omega, rfl, Frm.refl _ _⟩
  case round =>
    obtain ⟨k, hk, rfl, f⟩ := hrel
    by_cases hlt : k < l.length
    · obtain ⟨b0, off, rfl⟩ := H1.out.at (by omega)
      obtain ⟨b1, off1, rfl⟩ := H2.out.at (by omega)
      obtain ⟨c0, c1⟩ := (H1.out.keep f (by simp)).cells k hlt
      obtain ⟨d0, d1⟩ := (H2.out.keep f (by simp)).cells k hlt
      generalize l[k] = y at *
      have F := Lib.hid f
      clear f
      go_wp2_with fail
      go_quiet (fail)
      go_wp2_with fail
      go_roundw
      case rel => exact ⟨k + 1, by omega, by go_num, F.out.drewN _⟩
      case measure => simp [intOf]; omega
    · obtain rfl : k = l.length := by omega
      have F := Lib.hid f
      clear f
      go_wp2_with fail
      go_ret
      exact ⟨rfl, F.out⟩
theorem Copy_any (v : Value) (l sp : List Ad) (w : World) (hS : SlA w v l sp) (hl : l.length ≤ 1000000) : Calls Try.prog 35 #[v] w (Told w l) := by
  have o0 : OwnA 25 (w.alloc (.cells #[] 25)) (.slice (some ⟨w.heap.size, 0, none⟩) 0 0) [] [] := OwnA.of_heap (heap_alloc_new _ _) rfl rfl (by simp)
  have f0 : Frm [] w (w.alloc (.cells #[] 25)) := (Frm.refl _ _).alloc _
  have HS := Lib.hid hS
  clear hS
  go_enter Try.func35, Try.ntmps35
  go_wp2_with (at_builtin; refine wpList_append_ads AT o0 (HS.out.keep f0 (by simp)) (by simp; omega) rfl (.tmp 3) (.tmp 4) rfl rfl rfl ?_; intro a' cap' w' sp' o1 f1 b1)
  go_ret
  refine ⟨_, sp', rfl, by simpa using o1, f0.trans f1 (by simp [blk]), fun i hi => ?_⟩
  rcases b1 i (by simpa using hi) with h | h
  · simp [blk] at h; omega
  · simp at h; omega
theorem eas_set : ∀ (l : List Ad) (i : Nat) (x : Ad), eas (l.set i x) = ((eas l).set (i * 2) (.int .i64 x.1)).set (i * 2 + 1) (.int .i64 x.2)
  | [], i, x => by simp [eas]
  | y :: r, 0, x => by simp [eas_cons]
  | y :: r, i + 1, x => by
    rw [List.set_cons_succ, eas_cons, eas_set r i x, eas_cons, show (i + 1) * 2 = i * 2 + 1 + 1 by omega]
    simp [List.set_cons_succ]
theorem OwnA.store {T : TypeId} {w : World} {g n cap : Nat} {l sp : List Ad} (h : OwnA T w (.slice (some ⟨g, 0, none⟩) n cap) l sp) (i : Nat) (hi : i < l.length) (x : Ad) :
    OwnA T ((w.setCell ⟨g, i * 2, none⟩ (.int .i64 x.1)).setCell ⟨g, i * 2 + 1, none⟩ (.int .i64 x.2)) (.slice (some ⟨g, 0, none⟩) n cap) (l.set i x) sp := by
  obtain ⟨h1, h2, h3⟩ := h.caps
  refine OwnA.of_heap ?_ (by simpa using h1) (by simpa using h2) h3
  rw [heap_setCell_same _ (heap_setCell_same _ h.heap)]
  congr 2
  apply Array.ext'
  simp only [Array.toList_setIfInBounds, eas_append, eas_set]
  have hl := eas_length l
  rw [List.set_append_left _ _ (by omega), List.set_append_left _ _ (by simp; omega)]
def OverRel (g n cap : Nat) (sp : List Ad) (w0 : World) (cv : Value) (wr : World) : Prop := ∃ (k : Nat) (m : List Ad), k ≤ n ∧ m.length = n ∧ cv = .int .i64 k ∧ OwnA 25 wr (.slice (some ⟨g, 0, none⟩) n cap) m sp ∧ Frm [g] w0 wr
set_option maxHeartbeats 1000000 in
theorem Over_any (v : Value) (l sp : List Ad) (w : World) (hO : OwnA 25 w v l sp) (hl : l.length ≤ 1000000) :
    Calls Try.prog 20 #[v] w fun e w' => e = .returned (.tuple #[]) ∧ Frm (blk v) w w' := by
  obtain ⟨h1, ⟨rfl, h2, h3⟩ | ⟨g, cap, rfl, h3, h4, h5, h6⟩⟩ := id hO
  · clear hO h1 h3 hl h2
    go_enter Try.func20, Try.ntmps20
    go_wp2_with fail
    refine wp_loop_rounds 1 ?_
    rw [rounds_succ]
    go_wp2
    go_end0
    exact ⟨rfl, Frm.refl _ _⟩
  · have hl9 : ((l.length : Nat) : Int) ≤ 1000000 := by omega
    have HO := Lib.hid hO
    clear hO h1 h6 h5 h3 h4 hl
    go_enter Try.func20, Try.ntmps20
    go_wp2_with fail
    go_loopw [2] (OverRel g l.length cap sp w) (fun cv _ => l.length - (intOf cv).toNat)
    case atStart => exact ⟨0, l, by omega, rfl, rfl, HO.out, Frm.refl _ _⟩
    case round =>
      obtain ⟨k, m, hk, hm, rfl, o, f⟩ := hrel
      by_cases hlt : k < l.length
      · obtain ⟨c0, c1⟩ := o.sl.cells k (by omega)
        have z0 := frozen_of_heap o.heap (0 + k * 2)
        have z1 := frozen_of_heap o.heap (0 + k * 2 + 1)
        have hst := o.store k (by omega) (-7, -7)
        rw [Nat.zero_add] at c0 c1 z0 z1
        generalize m[k]'(by omega) = y at *
        have ST := Lib.hid hst
        have F := Lib.hid f
        have HM := Lib.hid hm
        clear hst o f hm
        go_wp2_with fail
        exact ⟨⟨k + 1, _, by omega, by simpa using HM.out, by go_num, ST.out, (F.out.setCell _ _ (.inl (by simp))).setCell _ _ (.inl (by simp))⟩, by simp [intOf]; omega⟩
      · obtain rfl : k = l.length := by omega
        have F := Lib.hid f
        clear f o hm
        go_wp2_with fail
        go_end0
        exact ⟨rfl, by simpa [blk] using F.out⟩
end Go.Proofs.Ytafedmahehbggaa
