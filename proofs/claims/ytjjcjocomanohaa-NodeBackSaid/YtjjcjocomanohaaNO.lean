/-
  Contracts of BigNode and of SameNode at equal nodes. No conditions but those that each theorem names.
-/
import Derived.Test.YtjjcjocomanohaaNN
namespace Go.Proofs.Ytjjcjocomanohaa
open Go.RowKit
set_option linter.unusedVariables false
set_option linter.unusedSimpArgs false
set_option maxRecDepth 100000

/-- Has a pointer more than twenty addresses? -/
def bigB (n : Nd) : Bool := n.ps.any (fun p => decide (20 < p.ads.length))
theorem big_yes {n : Nd} {i : Nat} {p : Pt} (h : n.ps[i]? = some p) (hs : 20 < p.ads.length) : bigB n = true := by
  unfold bigB
  rw [List.any_eq_true]
  exact ⟨p, List.mem_of_getElem? h, by simpa using hs⟩
theorem big_no {n : Nd} (h : ∀ (j : Nat) (p : Pt), j < 4 → n.ps[j]? = some p → p.ads.length ≤ 20) (h4 : n.ps.length = 4) : bigB n = false := by
  unfold bigB
  rw [List.any_eq_false]
  intro p hp
  obtain ⟨i, hi, rfl⟩ := List.getElem_of_mem hp
  have := h i _ (by omega) (List.getElem?_eq_getElem hi)
  simp
  omega
theorem big_ads {n : Nd} (h : bigB n = false) : ∀ p ∈ n.ps, p.ads.length ≤ 20 := fun p hp => by
  have := List.any_eq_false.1 h p hp
  simpa using this
def BigRel (ps : List Pt) (w0 : World) (cv : Value) (wr : World) : Prop := ∃ k : Nat, k ≤ 4 ∧ cv = .int .i64 k ∧ (∀ (j : Nat) (p : Pt), j < k → ps[j]? = some p → p.ads.length ≤ 20) ∧ Frm [] w0 wr
set_option maxHeartbeats 4000000 in
theorem Big_any (x : Value) (n : Nd) (w : World) (hn : NdV w x n) : Calls Try.prog 34 #[x] w fun e w' => e = .returned (.bool (bigB n)) ∧ Frm [] w w' := by
  obtain ⟨N, rfl, hN, As, hps, hb⟩ := hn.box
  have b0 := hb w
  have f0 : Frm [] w (w.alloc (.cells N 51)) := (Frm.refl [] w).alloc _
  have HPS := Lib.hid hps
  clear hb hn hps
  go_enter Try.func34, Try.ntmps34
  go_upto_region 1 with (fail)
  generalize w.alloc (.cells N 51) = W at *
  have B0 := Lib.hid b0
  have F0 := Lib.hid f0
  clear b0 f0
  go_wp2_with fail
  go_loopw [3] (BigRel n.ps W) (fun cv _ => 4 - (intOf cv).toNat)
  case atStart => exact ⟨0, by omega, rfl, fun j p hj => by omega, Frm.refl _ _⟩
  case round =>
    obtain ⟨k, hk, rfl, hst, f⟩ := hrel
    have HST := Lib.hid hst
    have Fk := Lib.hid f
    clear hst f
    by_cases hlt : k < 4
    · obtain ⟨A, p, hA, hp, hv⟩ := HPS.out.get hlt
      obtain ⟨a, cap, sp, h0, _⟩ := ptv_list hv
      have cc : wr.cell? ⟨w.heap.size, 1 + k * 35, none⟩ = some (.slice a p.ads.length cap) := by
        have h := (B0.out.keep0 Fk.out).2.range hA 0 _ (by simpa using h0)
        simpa using h
      have HP := Lib.hid hp
      clear hA hp hv h0
      by_cases h20 : 20 < p.ads.length
      · have H := Lib.hid (big_yes HP.out h20)
        go_wp2_with fail
        go_ret
        exact ⟨by rw [H.out]; rfl, F0.out.trans Fk.out (by simp)⟩
      · have H20 := Lib.hid (show p.ads.length ≤ 20 by omega)
        have h20' : ¬ (20 : Int) < (p.ads.length : Int) := by omega
        clear h20
        go_wp2_with fail
        go_roundw
        case rel => exact ⟨k + 1, by omega, by go_num, fun j p' hj hp' => by
          rcases Nat.lt_or_ge j k with h | h
          · exact HST.out j p' h hp'
          · obtain rfl : j = k := by omega
            rw [HP.out] at hp'
            cases hp'
            exact H20.out, Fk.out⟩
        case measure => simp [intOf]; omega
    · obtain rfl : k = 4 := by omega
      have H := Lib.hid (big_no (n := n) HST.out HPS.out.2.1)
      go_wp2_with fail
      go_ret
      exact ⟨by rw [H.out]; rfl, F0.out.trans Fk.out (by simp)⟩
def CntRel (w0 : World) (cv : Value) (wr : World) : Prop := ∃ k : Nat, k ≤ 4 ∧ cv = .int .i64 k ∧ Frm [] w0 wr
set_option maxHeartbeats 4000000 in
theorem SameNode_true (x y : Value) (n : Nd) (w : World) (hn : NdV w x n) (hm : NdV w y n) (hl : ∀ p ∈ n.ps, p.ads.length ≤ 1000000) : Calls Try.prog 45 #[x, y] w (Yes w) := by
  obtain ⟨N, rfl, hN, As, hps, hb⟩ := hn.box
  obtain ⟨M, rfl, hM, Bs, hqs, hc⟩ := hm.box
  have b0 : BoxN ((w.alloc (.cells N 51)).alloc (.cells M 51)) w.heap.size (.agg N) n.lv As := (hb w).keep0 ((Frm.refl [] _).alloc _)
  have b1 : BoxN ((w.alloc (.cells N 51)).alloc (.cells M 51)) (w.heap.size + 1) (.agg M) n.lv Bs := by have := hc (w.alloc (.cells N 51)); simpa using this
  have f0 : Frm [] w ((w.alloc (.cells N 51)).alloc (.cells M 51)) := ((Frm.refl [] w).alloc _).alloc _
  have HPS := Lib.hid hps
  have HQS := Lib.hid hqs
  have HL := Lib.hid hl
  clear hb hc hn hm hps hqs hl
  go_enter Try.func45, Try.ntmps45
  go_upto_region 1 with (fail)
  generalize (w.alloc (.cells N 51)).alloc (.cells M 51) = W at *
  have B0 := Lib.hid b0
  have B1 := Lib.hid b1
  have F0 := Lib.hid f0
  have c0 := b0.2.lev
  have c1 := b1.2.lev
  clear b0 b1 f0
  go_wp2_with fail
  go_loopw [5] (CntRel W) (fun cv _ => 4 - (intOf cv).toNat)
  case atStart => exact ⟨0, by omega, rfl, Frm.refl _ _⟩
  case round =>
    obtain ⟨k, hk, rfl, f⟩ := hrel
    have Fk := Lib.hid f
    have d0 := f.cell c0 (by simp)
    have d1 := f.cell c1 (by simp)
    clear f c0 c1
    by_cases hlt : k < 4
    · obtain ⟨A, p, hA, hp, hv⟩ := HPS.out.get hlt
      obtain ⟨B, q, hB, hq, hu⟩ := HQS.out.get hlt
      have hpl := HL.out p (List.mem_of_getElem? hp)
      rw [hp] at hq
      cases hq
      have HM := Lib.hid (fun W (f : Frm [] w W) => SamePointer_any (.agg A) (.agg B) p p W (hv.keep0 f) (hu.keep0 f) hpl)
      rw [same_refl] at HM
      have LA := Lib.hid hA
      have LB := Lib.hid hB
      clear hA hB hp hv hu hpl
      go_upto_region 4 with (fail)
      refine wp_region_held_drew (S := fun z => Frm [] wr z) (by kernel_rfl) ((Frm.refl [] wr).drew) (fun hHeld => ?_)
      refine wpAnyH_take (i := 0) (oi := { dst := some 10, op := Op.move (Operand.tmp 5), type := 3, pos := "nodes.go:8", after := #[], guard := none }) (v := ?_) rfl (by kernel_rfl) (by kernel_rfl) (by kernel_rfl) (fun _ _ _ h => h) (Or.inl ⟨by rfl, ?_⟩) hHeld ?_
      rotate_left
      focus (intro z hSw; clear hSw; go_simp; try with_reducible rfl)
      try simp only [Act.put, List.setIfInBounds_toArray, List.set_cons_zero, List.set_cons_succ]
      refine wpAnyH_take (i := 1) (oi := { dst := some 11, op := Op.fieldAddr 51 (Operand.tmp 2) 1, type := 0, pos := "nodes.go:8", after := #[], guard := none }) (v := ?_) rfl (by kernel_rfl) (by kernel_rfl) (by kernel_rfl) (fun _ _ _ h => h) (Or.inl ⟨by rfl, ?_⟩) hHeld ?_
      rotate_left
      focus (intro z hSw; clear hSw; go_simp; try with_reducible rfl)
      try simp only [Act.put, List.setIfInBounds_toArray, List.set_cons_zero, List.set_cons_succ]
      refine wpAnyH_take (i := 2) (oi := { dst := some 12, op := Op.indexAddr 49 (Operand.tmp 11) (Operand.tmp 10), type := 0, pos := "nodes.go:8", after := #[{ on := 1, ground := Ground.data }, { on := 0, ground := Ground.data }], guard := none }) (v := ?_) rfl (by kernel_rfl) (by kernel_rfl) (by kernel_rfl) (fun _ _ _ h => h) (Or.inl ⟨by rfl, ?_⟩) hHeld ?_
      rotate_left
      focus (intro z hSw; clear hSw; go_simp; try with_reducible rfl)
      try simp only [Act.put, List.setIfInBounds_toArray, List.set_cons_zero, List.set_cons_succ]
      refine wpAnyH_take (i := 3) (oi := { dst := some 13, op := Op.load 26 (Operand.tmp 12), type := 26, pos := "nodes.go:8", after := #[{ on := 2, ground := Ground.data }], guard := none }) rfl (by kernel_rfl) (by kernel_rfl) (by kernel_rfl) (fun _ _ _ h => h) (yieldsIf_ld (by rfl) 26 _ rfl _ rfl (fun z hSw => ((B0.out.keep0 Fk.out).keep0 hSw).2.load LA.out)) hHeld ?_
      try simp only [Act.put, List.setIfInBounds_toArray, List.set_cons_zero, List.set_cons_succ]
      refine wpAnyH_take (i := 4) (oi := { dst := some 14, op := Op.move (Operand.tmp 5), type := 3, pos := "nodes.go:8", after := #[], guard := none }) (v := ?_) rfl (by kernel_rfl) (by kernel_rfl) (by kernel_rfl) (fun _ _ _ h => h) (Or.inl ⟨by rfl, ?_⟩) hHeld ?_
      rotate_left
      focus (intro z hSw; clear hSw; go_simp; try with_reducible rfl)
      try simp only [Act.put, List.setIfInBounds_toArray, List.set_cons_zero, List.set_cons_succ]
      refine wpAnyH_take (i := 5) (oi := { dst := some 15, op := Op.fieldAddr 51 (Operand.tmp 3) 1, type := 0, pos := "nodes.go:8", after := #[], guard := none }) (v := ?_) rfl (by kernel_rfl) (by kernel_rfl) (by kernel_rfl) (fun _ _ _ h => h) (Or.inl ⟨by rfl, ?_⟩) hHeld ?_
      rotate_left
      focus (intro z hSw; clear hSw; go_simp; try with_reducible rfl)
      try simp only [Act.put, List.setIfInBounds_toArray, List.set_cons_zero, List.set_cons_succ]
      refine wpAnyH_take (i := 6) (oi := { dst := some 16, op := Op.indexAddr 49 (Operand.tmp 15) (Operand.tmp 14), type := 0, pos := "nodes.go:8", after := #[{ on := 5, ground := Ground.data }, { on := 4, ground := Ground.data }], guard := none }) (v := ?_) rfl (by kernel_rfl) (by kernel_rfl) (by kernel_rfl) (fun _ _ _ h => h) (Or.inl ⟨by rfl, ?_⟩) hHeld ?_
      rotate_left
      focus (intro z hSw; clear hSw; go_simp; try with_reducible rfl)
      try simp only [Act.put, List.setIfInBounds_toArray, List.set_cons_zero, List.set_cons_succ]
      refine wpAnyH_take (i := 7) (oi := { dst := some 17, op := Op.load 26 (Operand.tmp 16), type := 26, pos := "nodes.go:8", after := #[{ on := 6, ground := Ground.data }], guard := none }) rfl (by kernel_rfl) (by kernel_rfl) (by kernel_rfl) (fun _ _ _ h => h) (yieldsIf_ld (by rfl) 26 _ rfl _ rfl (fun z hSw => ((B1.out.keep0 Fk.out).keep0 hSw).2.load LB.out)) hHeld ?_
      try simp only [Act.put, List.setIfInBounds_toArray, List.set_cons_zero, List.set_cons_succ]
      refine wpAnyH_ready (rs := [8]) (by kernel_rfl) (by simp) ?_
      refine AllReadyH.cons (o := { dst := some 18, op := Op.call { callee := Callee.value (Operand.func 27), args := #[Operand.tmp 13, Operand.tmp 17], argTypes := #[26, 26] }, type := 4, pos := "nodes.go:8", after := #[{ on := 3, ground := Ground.data }, { on := 7, ground := Ground.data }], guard := none }) rfl (fun K hK => ?_) AllReadyH.nil
      go_simp
      refine (HM.out _ ((F0.out.trans Fk.out (by simp)).trans hHeld (by simp))).mono ?_
      rintro r wn ⟨rfl, fn⟩
      refine hK.out _ _ ?_ (fun hNext => ?_)
      · exact hHeld.trans fn (by simp)
      clear hK K hHeld
      have hHeld := hNext
      clear hNext
      try simp only [Act.put, List.setIfInBounds_toArray, List.set_cons_zero, List.set_cons_succ]
      refine wpAnyH_take (i := 9) (oi := { dst := some 19, op := Op.unOp UnOp.not 4 (Operand.tmp 18), type := 4, pos := "nodes.go:8", after := #[{ on := 8, ground := Ground.data }], guard := none }) (v := ?_) rfl (by kernel_rfl) (by kernel_rfl) (by kernel_rfl) (fun _ _ _ h => h) (Or.inl ⟨by rfl, ?_⟩) hHeld ?_
      rotate_left
      focus (intro z hSw; clear hSw; go_simp; try with_reducible rfl)
      try simp only [Act.put, List.setIfInBounds_toArray, List.set_cons_zero, List.set_cons_succ]
      refine wpAnyH_done (by kernel_rfl) ?_ _
      go_wp2_with fail
      go_roundw
      case rel => exact ⟨k + 1, by omega, by go_num, Fk.out.trans hHeld (by simp)⟩
      case measure => simp [intOf]; omega
    · obtain rfl : k = 4 := by omega
      go_wp2_with fail
      go_ret
      exact ⟨rfl, F0.out.trans Fk.out (by simp)⟩
end Go.Proofs.Ytjjcjocomanohaa
