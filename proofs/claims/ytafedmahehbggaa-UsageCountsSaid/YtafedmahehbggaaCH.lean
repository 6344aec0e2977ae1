/-
  Contracts of Index, Contains, Has. No conditions but those that each theorem names.
-/
import Derived.Test.YtafedmahehbggaaCF
namespace Go.Proofs.Ytafedmahehbggaa
open Go.RowKit Go.Sort Go.Maps
set_option linter.unusedVariables false
set_option linter.unusedSimpArgs false
set_option maxRecDepth 100000

theorem unlike {x y : Ad} (h : x ≠ y) : (x.1 == y.1) = false ∨ ((x.1 == y.1) = true ∧ (x.2 == y.2) = false) := by
  by_cases h1 : x.1 = y.1
  · by_cases h2 : x.2 = y.2
    · exact absurd (ad_ext h1 h2) h
    · exact .inr ⟨by simp [h1], by simp [h2]⟩
  · exact .inl (by simp [h1])
def IdxRel (l : List Ad) (x : Ad) (w0 : World) (cv : Value) (wr : World) : Prop := ∃ k : Nat, k ≤ l.length ∧ cv = .int .i64 k ∧ (∀ j (h : j < l.length), j < k → l[j] ≠ x) ∧ Frm [] w0 wr
def IdxB (l : List Ad) (x : Ad) (w : World) (e : Ending) (w' : World) : Prop := ∃ n : Int, e = .returned (.int .i64 n) ∧ Frm [] w w' ∧ -1 ≤ n ∧ n ≤ 100000 ∧ (0 ≤ n ↔ x ∈ l)
set_option maxHeartbeats 1000000 in
theorem Index_any (v : Value) (l sp : List Ad) (x : Ad) (w : World) (hS : SlA w v l sp) (hl : l.length ≤ 100000) :
    Calls Try.prog 61 #[v, av x] w (IdxB l x w) := by
  obtain ⟨a, cap, rfl, _, _⟩ := hS.form
  have hl9 : ((l.length : Nat) : Int) ≤ 100000 := by omega
  have HL := Lib.hid hl
  have HS := Lib.hid hS
  clear hl hS
  unfold av
  go_enter Try.func61, Try.ntmps61
  go_wp2_with fail
  have q0 := heap_alloc_new w (.cells #[.int .i64 x.1, .int .i64 x.2] 25)
  have f0 : Frm [] w (w.alloc (.cells #[.int .i64 x.1, .int .i64 x.2] 25)) := (Frm.refl [] w).alloc _
  generalize w.alloc (.cells #[.int .i64 x.1, .int .i64 x.2] 25) = w1 at *
  have F0 := Lib.hid f0
  have Q0 := Lib.hid q0
  clear f0 q0
  go_loopw [8] (IdxRel l x w1) (fun cv _ => l.length - (intOf cv).toNat)
  case atStart => exact ⟨0, by omega, rfl, fun j _ h => absurd h (Nat.not_lt_zero _), Frm.refl _ _⟩
  case round =>
    obtain ⟨k, hk, rfl, hne, f⟩ := hrel
    by_cases hlt : k < l.length
    · obtain ⟨b0, off, rfl⟩ := HS.out.at (by omega)
      have hs2 := (HS.out.keep F0.out (by simp)).keep f (by simp)
      obtain ⟨c0, c1⟩ := hs2.cells k hlt
      have q1 := f.heap Q0.out (by simp)
      have d0 : wr.cell? ⟨w.heap.size, 0, none⟩ = some (.int .i64 x.1) := by rw [cell_of_heap q1]; rfl
      have d1 : wr.cell? ⟨w.heap.size, 1, none⟩ = some (.int .i64 x.2) := by rw [cell_of_heap q1]; rfl
      have hxl : l[k] ∈ l := List.getElem_mem _
      generalize hx : l[k] = y at *
      have HX := Lib.hid hx
      have F := Lib.hid f
      have NE := Lib.hid hne
      have XL := Lib.hid hxl
      clear hx f hs2 q1 hne hxl
      by_cases hxy : x = y
      · subst hxy
        go_wp2_with fail
        go_quiet (fail)
        go_wp2_with fail
        go_ret
        exact ⟨k, rfl, (F0.out.trans F.out (by simp)).drewN _, by omega, by omega, ⟨fun _ => XL.out, fun _ => by omega⟩⟩
      · have hne2 : ∀ j (h : j < l.length), j < k + 1 → l[j] ≠ x := fun j h hj => by
          by_cases hjk : j = k
          · subst hjk; rw [HX.out]; exact fun e => hxy e.symm
          · exact NE.out j h (by omega)
        have NE2 := Lib.hid hne2
        clear hne2
        rcases unlike hxy with h1 | ⟨h1, h2⟩
        all_goals
          clear hxy
          go_wp2_with fail
          go_quiet (fail)
          go_wp2_with fail
          go_roundw
          case rel => exact ⟨k + 1, by omega, by go_num, NE2.out, F.out.drewN _⟩
          case measure => simp [intOf]; omega
    · obtain rfl : k = l.length := by omega
      have F := Lib.hid f
      have NE := Lib.hid hne
      clear f hne
      go_wp2_with fail
      go_ret
      exact ⟨-1, rfl, F0.out.trans F.out (by simp), by omega, by omega, ⟨fun h => by omega, fun h => by
        obtain ⟨j, hj, e⟩ := List.getElem_of_mem h
        exact absurd e (NE.out j hj hj)⟩⟩
theorem ret_bool {a b : Bool} (h : a = b) : Ending.returned (.bool a) = .returned (.bool b) := by rw [h]
def HasB (l : List Ad) (x : Ad) (w : World) (e : Ending) (w' : World) : Prop := e = .returned (.bool (decide (x ∈ l))) ∧ Frm [] w w'
theorem Contains_any (v : Value) (l sp : List Ad) (x : Ad) (w : World) (hS : SlA w v l sp) (hl : l.length ≤ 100000) :
    Calls Try.prog 55 #[v, av x] w (HasB l x w) := by
  have hc := fun W (f : Frm [] w W) => Index_any v l sp x W (hS.keep f (by simp)) hl
  have HC := Lib.hid hc
  clear hc hS hl
  unfold av at *
  go_enter Try.func55, Try.ntmps55
  go_wp2_with fail
  refine (HC.out _ ((Frm.refl [] w).alloc _)).mono ?_
  rintro r w1 ⟨n, rfl, f1, n1, n2, hn⟩
  have F1 := Lib.hid (((Frm.refl [] w).alloc (.cells #[.int .i64 x.1, .int .i64 x.2] 25)).trans f1 (by simp))
  have HN := Lib.hid hn
  clear hn f1
  go_wp2_with fail
  go_ret
  exact ⟨ret_bool (decide_eq_decide.2 HN.out), F1.out⟩
theorem Has_any (v : Value) (l sp : List Ad) (x : Ad) (w : World) (hS : SlA w v l sp) (hl : l.length ≤ 100000) :
    Calls Try.prog 33 #[v, av x] w (HasB l x w) := by
  have hc := fun W (f : Frm [] w W) => Contains_any v l sp x W (hS.keep f (by simp)) hl
  have HC := Lib.hid hc
  clear hc hS hl
  unfold av at *
  go_enter Try.func33, Try.ntmps33
  go_wp2_with fail
  refine (HC.out _ ((Frm.refl [] w).alloc _)).mono ?_
  rintro r w1 ⟨rfl, f1⟩
  have F1 := Lib.hid (((Frm.refl [] w).alloc (.cells #[.int .i64 x.1, .int .i64 x.2] 25)).trans f1 (by simp))
  clear f1
  go_wp2_with fail
  go_ret
  exact ⟨rfl, F1.out⟩
end Go.Proofs.Ytafedmahehbggaa
