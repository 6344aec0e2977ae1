/-
  Contracts of the document's Has and Apart. No conditions but those that each theorem names.
-/
import Derived.Test.YtpgekoicbceliaaCR
namespace Go.Proofs.Ytpgekoicbceliaa
open Go.RowKit Go.Sort Go.Maps
set_option linter.unusedVariables false
set_option linter.unusedSimpArgs false
set_option maxRecDepth 100000

set_option maxHeartbeats 1000000 in
theorem RefHas_any (v : Value) (l sp : List Ad) (x : Ad) (w : World) (hS : SlA w v l sp) (hl : l.length ≤ 1000) :
    Calls Try.prog 29 #[v, av x] w (HasB l x w) := by
  obtain ⟨a, cap, rfl, _, _⟩ := hS.form
  have hl9 : ((l.length : Nat) : Int) ≤ 1000 := by omega
  have HL := Lib.hid hl
  have HS := Lib.hid hS
  clear hl hS
  unfold av
  go_enter Try.func29, Try.ntmps29
  go_wp2_with fail
  have q0 := heap_alloc_new w (.cells #[.int .i64 x.1, .int .i64 x.2] 23)
  have f0 : Frm [] w (w.alloc (.cells #[.int .i64 x.1, .int .i64 x.2] 23)) := (Frm.refl [] w).alloc _
  generalize w.alloc (.cells #[.int .i64 x.1, .int .i64 x.2] 23) = w1 at *
  have F0 := Lib.hid f0
  have Q0 := Lib.hid q0
  clear f0 q0
  go_loopw [5] (IdxRel l x w1) (fun cv _ => l.length - (intOf cv).toNat)
  case atStart => exact ⟨0, by omega, rfl, fun j _ h => absurd h (Nat.not_lt_zero _), Frm.refl _ _⟩
  case round =>
    obtain ⟨k, hk, rfl, hne, f⟩ := hrel
    by_cases hlt : k < l.length
    · obtain ⟨b0, off, rfl⟩ := HS.out.at (by omega)
      have hs2 := (HS.out.keep F0.out (by simp)).keep f (by simp)
      obtain ⟨c0, c1⟩ := hs2.cells k hlt
      have q1 := f.heap Q0.out (by simp)
      have d0 : wr.cell? ⟨w.heap.size, 0, none⟩ = some (.int .i64 x.1) := by rw [cell_of_heap q1]; rfl
      have d1 : wr.cell? ⟨w.heap.size, 1, none⟩ = some (.int .i64 x.2) := by rw [cell_of_heap q1]; rfl
      have hxl : l[k] ∈ l := List.getElem_mem _
      generalize hx : l[k] = y at *
      have HX := Lib.hid hx
      have F := Lib.hid f
      have NE := Lib.hid hne
      have XL := Lib.hid hxl
      clear hx f hs2 q1 hne hxl
      by_cases hxy : y = x
      · subst hxy
        go_wp2_with fail
        go_quiet (fail)
        go_wp2_with fail
        go_ret
        exact ⟨ret_bool (decide_eq_true XL.out).symm, (F0.out.trans F.out (by simp)).drewN _⟩
      · have hne2 : ∀ j (h : j < l.length), j < k + 1 → l[j] ≠ x := fun j h hj => by
          by_cases hjk : j = k
          · subst hjk; rw [HX.out]; exact hxy
          · exact NE.out j h (by omega)
        have NE2 := Lib.hid hne2
        clear hne2
        rcases unlike hxy with h1 | ⟨h1, h2⟩
        all_goals
          clear hxy
          go_wp2_with fail
          go_quiet (fail)
          go_wp2_with fail
          go_roundw
          case rel => exact ⟨k + 1, by omega, by go_num, NE2.out, F.out.drewN _⟩
          case measure => simp [intOf]; omega
    · obtain rfl : k = l.length := by omega
      have F := Lib.hid f
      have NE := Lib.hid hne
      clear f hne
      go_wp2_with fail
      go_ret
      exact ⟨ret_bool (decide_eq_false fun h => by
        obtain ⟨j, hj, e⟩ := List.getElem_of_mem h
        exact absurd e (NE.out j hj hj)).symm, F0.out.trans F.out (by simp)⟩
def ApO (l : List Ad) (w0 : World) (cv : Value) (wr : World) : Prop := ∃ k : Nat, k ≤ l.length ∧ cv = .int .i64 k ∧ (devs (l.take k)).Nodup ∧ Frm [] w0 wr
def ApI (l : List Ad) (k : Nat) (d : Int) (w0 : World) (cv : Value) (wr : World) : Prop := ∃ j : Nat, j ≤ k ∧ cv = .int .i64 j ∧ (∀ t (h : t < l.length), t < j → l[t].1 ≠ d) ∧ Frm [] w0 wr
set_option maxHeartbeats 2000000 in
theorem RefApart_any (v : Value) (l sp : List Ad) (w : World) (hS : SlA w v l sp) (hl : l.length ≤ 1000) :
    Calls Try.prog 31 #[v] w fun e w' => e = .returned (.bool (apB l)) ∧ Frm [] w w' := by
  obtain ⟨a, cap, rfl, _, _⟩ := hS.form
  have hl9 : ((l.length : Nat) : Int) ≤ 1000 := by omega
  have HS := Lib.hid hS
  clear hl hS
  go_enter Try.func31, Try.ntmps31
  go_wp2_with fail
  go_loopw [3] (ApO l w) (fun cv _ => l.length - (intOf cv).toNat)
  case atStart => exact ⟨0, by omega, rfl, by simp [devs], Frm.refl _ _⟩
  case round =>
    obtain ⟨k, hk, rfl, hnd, f⟩ := hrel
    by_cases hlt : k < l.length
    · have hsu := nodup_take_succ l k hlt
      have F := Lib.hid f
      have ND := Lib.hid hnd
      have SU := Lib.hid hsu
      clear f hnd hsu
      go_wp2_with fail
      go_loopw [4] (ApI l k l[k].1 wr) (fun cv _ => k - (intOf cv).toNat)
      case atStart => exact ⟨0, by omega, rfl, fun t _ h => absurd h (Nat.not_lt_zero _), Frm.refl _ _⟩
      case round =>
        obtain ⟨j, hj, rfl, hne, g⟩ := hrel
        by_cases hlt2 : j < k
        · obtain ⟨b0, off, rfl⟩ := HS.out.at (by omega)
          have hs := (HS.out.keep F.out (by simp)).keep g (by simp)
          obtain ⟨c0, _⟩ := hs.cells j (by omega)
          obtain ⟨d0, _⟩ := hs.cells k hlt
          have hjl : j < l.length := by omega
          have i1 : (j : Int) < (l.length : Int) := by omega
          have i2 : (k : Int) < (l.length : Int) := by omega
          generalize hd : l[k].1 = d at *
          generalize hy : l[j].1 = y at *
          have G := Lib.hid g
          have NE := Lib.hid hne
          have HD := Lib.hid hd
          have HY := Lib.hid hy
          by_cases hyd : d = y
          · subst hyd
            clear g hne hd hy hs
            go_wp2_with fail
            go_quiet (fail)
            go_wp2_with fail
            go_ret
            exact ⟨ret_bool (decide_eq_false fun h => by
              have h1 := nodup_take_of l (k + 1) h
              exact (SU.out.1 h1).2 j hlt2 HY.out).symm, (F.out.trans G.out (by simp)).drewN _⟩
          · have hb : (d == y) = false := by simp [hyd]
            have hne2 : ∀ t (h : t < l.length), t < j + 1 → l[t].1 ≠ d := fun t h ht => by
              by_cases e : t = j
              · subst e; rw [HY.out]; exact fun e => hyd e.symm
              · exact NE.out t h (by omega)
            have NE2 := Lib.hid hne2
            clear g hne hd hy hs hyd hne2
            go_wp2_with fail
            go_quiet (fail)
            go_wp2_with fail
            go_roundw
            case rel => exact ⟨j + 1, by omega, by go_num, NE2.out, G.out.drewN _⟩
            case measure => simp [intOf]; omega
        · obtain rfl : j = k := by omega
          have G := Lib.hid g
          have NE := Lib.hid hne
          clear g hne
          go_wp2_with fail
          go_roundw
          case rel => exact ⟨j + 1, by omega, by go_num, SU.out.2 ⟨ND.out, fun t h => NE.out t (by omega) h⟩, F.out.trans G.out (by simp)⟩
          case measure => simp [intOf]; omega
    · obtain rfl : k = l.length := by omega
      have F := Lib.hid f
      rw [nodup_all] at hnd
      have ND := Lib.hid hnd
      clear f hnd
      go_wp2_with fail
      go_ret
      exact ⟨ret_bool (decide_eq_true ND.out).symm, F.out⟩
end Go.Proofs.Ytpgekoicbceliaa
