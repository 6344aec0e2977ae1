/-
  Dir, the laws: DirFull. No conditions but those that each theorem names.
-/
import Derived.Test.YtljhanhipmnioaaGreatDKa1
import Derived.Test.YtljhanhipmnioaaGreatDKa2
import Derived.Test.YtljhanhipmnioaaGreatDKa3
import Derived.Test.YtljhanhipmnioaaGreatDKa4
import Derived.Test.YtljhanhipmnioaaGreatDKa5
import Derived.Test.YtljhanhipmnioaaGreatDKa6
import Derived.Test.YtljhanhipmnioaaGreatDKa7
import Derived.Test.YtljhanhipmnioaaGreatDKa8
import Derived.Test.YtljhanhipmnioaaGreatDKa9
import Derived.Test.YtljhanhipmnioaaGreatDKa10
import Derived.Test.YtljhanhipmnioaaGreatDKa11
import Derived.Test.YtljhanhipmnioaaGreatDKa12
import Derived.Test.YtljhanhipmnioaaGreatDFa
import Derived.OrdersHeld
import Derived.Deep.RegionHeld
namespace Go.Proofs.YtljhanhipmnioaaGreat.Rd
open Go.RowKit
set_option linter.unusedVariables false
set_option linter.unusedSimpArgs false
set_option maxRecDepth 100000

open Pt (Pt may enc zeroPt be4 be1 pc pv PtV SlA OwnA BT wpList_load_g heap_alloc_at Ext Grew yieldsIf_ld)
open Kr (OwnE SlE Enco RowTys)

theorem step_val {P : Program} {w w' : World} {ops : Array Oper} {o : Oper} {a : Act} {K : Act → World → Prop} {Q : Exit → Act → World → Prop} {E : Prop} {v : Value}
    (hg : o.guard = none) (h : (execOp a.eval o).run P w = .ok (.value v) w') (k : K (a.put o.dst v) w') : if Region.wanted o (yielded ops a.tmps) = true then Oper.wp P o a w K Q else E := by
  rw [if_pos (by simp [Region.wanted, hg])]
  unfold Oper.wp
  rw [h]
  exact k
section
variable {ops : Array Oper} {o : Oper} {a : Act} {w : World} {K : Act → World → Prop} {Q : Exit → Act → World → Prop} {E : Prop}
theorem step_alloc27 (hg : o.guard = none) (ho : o.op = .alloc 27) (h : ∀ g w', TB w' g nilS nilS zeroT → Frm [] w w' → w.heap.size ≤ g → K (a.put o.dst (.pointer (some ⟨g, 0, none⟩))) w') :
    if Region.wanted o (yielded ops a.tmps) = true then Oper.wp Tryz.prog o a w K Q else E := by
  refine step_val (v := .pointer (some ⟨w.heap.size, 0, none⟩)) (w' := w.alloc (.cells (tc nilS nilS zeroT).toArray 27)) hg ?_ (h _ _ (TB.new _ _ _ _) ((Frm.refl [] w).alloc _) (Nat.le_refl _))
  exact exec_alloc27 ho w
end
def FuRel (b : Bool) (w w2 : World) (g : Nat) (c9 _c10 _c11 : Value) (wr : World) : Prop := ∃ (k : Nat) (vr vl : Value), k ≤ 17 ∧ c9 = .int .i64 k ∧ TB wr g vr vl (tabG b (min k 15)) ∧ OwnTb w2 wr vr vl (tabG b (min k 15)) ∧ Frm [] w wr ∧ w2.heap.size ≤ wr.heap.size
theorem PickD_any (n : Int) (k : Nat) (hk : 1 ≤ k) (hk2 : k ≤ 4294967296) (w : World) :
    Calls Tryz.prog 37 #[.int .i64 n, .int .i64 (k : Int)] w fun r w' => ∃ j : Nat, j < k ∧ r = .returned (.int .i64 (j : Int)) ∧ w' = w := by
  have h1 : -(k : Int) < n.tmod k := by
    rcases Int.le_total 0 n with h | h
    · have := Int.tmod_nonneg (k : Int) h; omega
    · have h3 := Int.tmod_nonneg (k : Int) (a := -n) (by omega)
      have h4 := Int.tmod_lt_of_pos (-n) (b := (k : Int)) (by omega)
      rw [Int.neg_tmod] at h3 h4
      omega
  have h2 : n.tmod k < (k : Int) := Int.tmod_lt_of_pos n (by omega)
  have hk9 : (k : Int) ≤ 4294967296 := by omega
  have hk1 : (1 : Int) ≤ (k : Int) := by omega
  have hk0 : ((k : Int) == 0) = false := by simp; omega
  have hw : IntKind.i64.wrap (n.tmod k) = n.tmod k := IntWalk.i64_in _ (by omega)
  generalize hm : n.tmod k = m at *
  go_enter Tryz.func37, Tryz.ntmps37
  by_cases hneg : m < 0
  · go_wp2_with fail
    go_ret
    refine ⟨(m + k).toNat, by omega, ?_, rfl⟩
    rw [Int.toNat_of_nonneg (by omega)]; rfl
  · go_wp2_with fail
    go_ret
    refine ⟨m.toNat, by omega, ?_, rfl⟩
    rw [Int.toNat_of_nonneg (by omega)]; rfl
theorem Pick15 (n : Int) (w : World) : Calls Tryz.prog 37 #[.int .i64 n, .int .i64 15] w fun r w' => ∃ j : Nat, j < 15 ∧ r = .returned (.int .i64 (j : Int)) ∧ w' = w := by
  have := PickD_any n 15 (by decide) (by decide) w
  simpa using this
set_option maxHeartbeats 16000000 in
theorem fullD_false (n : Int) (w : World) : Calls Tryz.prog 13 #[.bool false, .int .i64 n] w (YesD w) := by
  have F := Lib.hid (Frm.refl [] w)
  go_enter Tryz.func13, Tryz.ntmps13
  go_upto_region 2 with (first
    | (go_at_call 43; refine (New_any 2 w).mono ?_; intro r w1 hr; obtain ⟨vr1, vl1, rfl, o1, f1⟩ := hr.is ka0)
    | ((with_reducible (show wpList _ _ _ (Oper.mk _ (Op.alloc 27) _ _ _ _ :: _) _ _)); refine wpList_val rfl (exec_alloc27 rfl _) ?_)
    | ((with_reducible (show wpList _ _ _ (Oper.mk _ (Op.store 27 _ _) _ _ _ _ :: _) _ _)); refine wpList_store27 rfl (.tmp 5) (.tmp 21) rfl o1.ones.1 o1.ones.2 (TB.new w1 nilS nilS zeroT) rfl rfl ?_; intro w2 b2 f2))
  have f12 : Frm [] w1 w2 := ((Frm.refl [] w1).alloc _).trans f2 (fun i hi => .inr (by simp at hi; omega))
  have B2 := Lib.hid b2
  have F2 := Lib.hid (show Frm [] w w2 from f1.trans f12 (by simp))
  have O2 := Lib.hid (o1.keep0 f12)
  have GZ := Lib.hid (show w.heap.size ≤ w1.heap.size from f1.size)
  clear b2 f2 o1 f1 f12
  generalize w1.heap.size = g at *
  have LT := Lib.hid (show g < w2.heap.size from B2.out.lt)
  go_upto_region 3 with (first
    | ((with_reducible (show wpList _ _ _ (Oper.mk _ (Op.load 27 _) _ _ _ _ :: _) _ _)); refine wpList_load_g (by rfl) 27 _ rfl _ rfl B2.out.gets.all ?_)
    | (go_at_call 51; refine (Make_any _ _ (newT 2) { data := #[118] } 1 1 w2 O2.out.v fa0 (by decide)).mono ?_; intro r w3 hr; obtain ⟨vr3, vl3, rfl, o1, f1⟩ := hr.is kg0)
    | ((with_reducible (show wpList _ _ _ (Oper.mk _ (Op.store 27 _ _) _ _ _ _ :: _) _ _)); refine wpList_store27 rfl (.tmp 5) (.tmp 26) rfl o1.ones.1 o1.ones.2 (B2.out.keep0 f1) rfl rfl ?_; intro w4 b2 f2))
  have B4 := Lib.hid b2
  have F4 := Lib.hid (show Frm [] w w4 from (F2.out.trans f1 (by simp)).trans f2 (fun i hi => .inr (by simp at hi; have := GZ.out; omega)))
  have O4 := Lib.hid (o1.keep f2 (fun i hi => .inl (by simp at hi; have := LT.out; omega)))
  have S4 := Lib.hid (Nat.le_trans f1.size f2.size)
  clear b2 f2 o1 f1
  go_upto_region 7 with (fail)
  go_loopw [9, 10, 11] (FuRel false w w2 g) (fun c _ _ _ => 17 - (intOf c).toNat)
  case atStart => exact ⟨0, vr3, vl3, by omega, rfl, B4.out, O4.out, F4.out, S4.out⟩
  case round =>
    obtain ⟨k, vr, vl, hk, rfl, hB, hO, hF, hS⟩ := hrel
    clear B4 O4 F4 S4 B2 O2 F2
    have FR := Lib.hid hF
    have SR := Lib.hid hS
    clear hF hS
    by_cases hk17 : k < 17
    · have hk9 : (k : Int) < 17 := by omega
      have hk0 : (0 : Int) ≤ (k : Int) := by omega
      have hk1 : (k : Int) ≤ (k : Int) + 1 := by omega
      have hk2 : (k : Int) + 1 ≤ 21 := by omega
      have hw : IntKind.i64.wrap ((k : Int) + 1) = (k : Int) + 1 := IntWalk.i64_in _ (by omega)
      by_cases hk15 : k < 15
      · have hk159 : (k : Int) < 15 := by omega
        rw [show min k 15 = k from by omega] at hB hO
        have GR := Lib.hid (kgF k hk15)
        have FT := Lib.hid (fit_of (kmF k (by omega)))
        have BK := Lib.hid hB
        have OK := Lib.hid hO
        clear hB hO
        go_upto_region 9 with (fail)
        refine wp_region_held_drew (S := fun z => Frm [] wr z) (by kernel_rfl) ((Frm.refl [] wr).drew) (fun hHeld => ?_)
        refine wpAnyH_take (i := 0) (oi := ⟨some 39, .load 27 (.tmp 5), _, _, _, none⟩) rfl (by kernel_rfl) (by kernel_rfl) (by kernel_rfl) (fun _ _ _ h => h) (yieldsIf_ld (by rfl) 27 _ rfl _ rfl (fun z hSw => (BK.out.keep0 hSw).gets.all)) hHeld ?_
        try simp only [Act.put, List.setIfInBounds_toArray, List.set_cons_zero, List.set_cons_succ]
        refine wpAnyH_take (i := 1) (oi := ⟨some 40, .move (.tmp 0), _, _, _, none⟩) (v := ?_) rfl (by kernel_rfl) (by kernel_rfl) (by kernel_rfl) (fun _ _ _ h => h) (Or.inl ⟨by rfl, ?_⟩) hHeld ?_
        rotate_left
        focus (intro z hSw; clear hSw; go_simp; try with_reducible rfl)
        try simp only [Act.put, List.setIfInBounds_toArray, List.set_cons_zero, List.set_cons_succ]
        refine wpAnyH_take (i := 2) (oi := ⟨some 41, .move (.tmp 8), _, _, _, none⟩) (v := ?_) rfl (by kernel_rfl) (by kernel_rfl) (by kernel_rfl) (fun _ _ _ h => h) (Or.inl ⟨by rfl, ?_⟩) hHeld ?_
        rotate_left
        focus (intro z hSw; clear hSw; go_simp; try with_reducible rfl)
        try simp only [Act.put, List.setIfInBounds_toArray, List.set_cons_zero, List.set_cons_succ]
        refine wpAnyH_take (i := 3) (oi := ⟨some 42, .move (.tmp 9), _, _, _, none⟩) (v := ?_) rfl (by kernel_rfl) (by kernel_rfl) (by kernel_rfl) (fun _ _ _ h => h) (Or.inl ⟨by rfl, ?_⟩) hHeld ?_
        rotate_left
        focus (intro z hSw; clear hSw; go_simp; try with_reducible rfl)
        try simp only [Act.put, List.setIfInBounds_toArray, List.set_cons_zero, List.set_cons_succ]
        refine wpAnyH_take (i := 4) (oi := ⟨some 43, .move (.tmp 9), _, _, _, none⟩) (v := ?_) rfl (by kernel_rfl) (by kernel_rfl) (by kernel_rfl) (fun _ _ _ h => h) (Or.inl ⟨by rfl, ?_⟩) hHeld ?_
        rotate_left
        focus (intro z hSw; clear hSw; go_simp; try with_reducible rfl)
        try simp only [Act.put, List.setIfInBounds_toArray, List.set_cons_zero, List.set_cons_succ]
        refine wpAnyH_take (i := 5) (oi := ⟨some 44, .binOp .add 3 (.tmp 43) (.const (.int .i64 1)) 3, _, _, _, none⟩) (v := ?_) rfl (by kernel_rfl) (by kernel_rfl) (by kernel_rfl) (fun _ _ _ h => h) (Or.inl ⟨by rfl, ?_⟩) hHeld ?_
        rotate_left
        focus (intro z hSw; clear hSw; go_simp; try with_reducible rfl)
        try simp only [Act.put, List.setIfInBounds_toArray, List.set_cons_zero, List.set_cons_succ]
        refine wpAnyH_take (i := 6) (oi := ⟨some 45, .slice 9 (.tmp 41) (some (.tmp 42)) (some (.tmp 44)) none, _, _, _, none⟩) (v := ?_) rfl (by kernel_rfl) (by kernel_rfl) (by kernel_rfl) (fun _ _ _ h => h) (Or.inl ⟨by rfl, ?_⟩) hHeld ?_
        rotate_left
        focus (intro z hSw; clear hSw; go_simp; try with_reducible rfl)
        try simp only [Act.put, List.setIfInBounds_toArray, List.set_cons_zero, List.set_cons_succ]
        refine wpAnyH_ready (rs := [7, 11]) (by kernel_rfl) (by simp) ?_
        refine AllReadyH.cons (o := ⟨some 46, .call { callee := .value (.func 58), args := #[.tmp 39, .tmp 40, .tmp 45], argTypes := #[27, 4, 9] }, _, _, _, none⟩) rfl (fun K hK => ?_) ?_
        · go_simp
          refine (grows_any vr vl (tabG false k) false (lett k) _ (OK.out.v.keep0 hHeld) FT.out (lett_size k)).mono ?_
          intro r x1 hr
          obtain ⟨vr1, vl1, rfl, o1, f1⟩ := hr.is GR.out
          have hx := hHeld.trans f1 (by simp)
          refine hK.out _ _ ?_ (fun hNext => ?_)
          · exact hHeld.trans f1 (by simp)
          clear hK K hHeld
          have hHeld := hNext
          clear hNext
          try simp only [Act.put, List.setIfInBounds_toArray, List.set_cons_zero, List.set_cons_succ]
          refine wpAnyH_take (i := 8) (oi := ⟨some 38, .move (.tmp 46), _, _, _, none⟩) (v := ?_) rfl (by kernel_rfl) (by kernel_rfl) (by kernel_rfl) (fun _ _ _ h => h) (Or.inl ⟨by rfl, ?_⟩) hHeld ?_
          rotate_left
          focus (intro z hSw; clear hSw; go_simp; try with_reducible rfl)
          try simp only [Act.put, List.setIfInBounds_toArray, List.set_cons_zero, List.set_cons_succ]
          refine wpAnyH_take (i := 9) (oi := ⟨some 47, .extract (.tmp 38) 0, _, _, _, none⟩) (v := ?_) rfl (by kernel_rfl) (by kernel_rfl) (by kernel_rfl) (fun _ _ _ h => h) (Or.inl ⟨by rfl, ?_⟩) hHeld ?_
          rotate_left
          focus (intro z hSw; clear hSw; go_simp; try with_reducible rfl)
          try simp only [Act.put, List.setIfInBounds_toArray, List.set_cons_zero, List.set_cons_succ]
          refine wpAnyH_take (i := 10) (oi := ⟨some 48, .extract (.tmp 38) 1, _, _, _, none⟩) (v := ?_) rfl (by kernel_rfl) (by kernel_rfl) (by kernel_rfl) (fun _ _ _ h => h) (Or.inl ⟨by rfl, ?_⟩) hHeld ?_
          rotate_left
          focus (intro z hSw; clear hSw; go_simp; try with_reducible rfl)
          try simp only [Act.put, List.setIfInBounds_toArray, List.set_cons_zero, List.set_cons_succ]
          refine wpAnyH_ready (rs := [11]) (by kernel_rfl) (by simp) ?_
          refine AllReadyH.cons (o := ⟨some 10, .alloc 27, _, _, _, none⟩) rfl (fun K hK => ?_) ?_
          · refine step_alloc27 rfl rfl ?_
            intro g3 w9 m9 f9 n9
            refine hK.out _ _ ?_ (fun hNext => ?_)
            · exact hHeld.trans f9 (by simp)
            clear hK K hHeld
            have hHeld := hNext
            clear hNext
            try simp only [Act.put, List.setIfInBounds_toArray, List.set_cons_zero, List.set_cons_succ]
            refine wpAnyH_ready (rs := [12]) (by kernel_rfl) (by simp) ?_
            refine AllReadyH.cons (o := ⟨none, .store 27 (.tmp 10) (.tmp 47), _, _, _, none⟩) rfl (fun K hK => ?_) ?_
            · have m10 := m9
              have gz : wr.heap.size ≤ g3 := Nat.le_trans hx.size n9
              refine step_store27 rfl (.tmp 10) (.tmp 47) rfl o1.ones.1 o1.ones.2 m10 rfl rfl (fun V b10 f10 => ?_)
              have oC := (o1.keep ((f9.mono (by simp)).trans f10 (fun i hi => .inl hi)) (fun i hi => .inr (by simp at hi; omega))).base (w0 := w2) (Nat.le_trans SR.out (by simp))
              refine hK.out _ _ ?_ (fun hNext => ?_)
              · exact hHeld.trans f10 (fun i hi => .inr (by simp at hi; omega))
              clear hK K hHeld
              have hHeld := hNext
              clear hNext
              try simp only [Act.put, List.setIfInBounds_toArray, List.set_cons_zero, List.set_cons_succ]
              refine wpAnyH_take (i := 13) (oi := ⟨some 11, .assign (.tmp 48), _, _, _, none⟩) (v := ?_) rfl (by kernel_rfl) (by kernel_rfl) (by kernel_rfl) (fun _ _ _ h => h) (Or.inl ⟨by rfl, ?_⟩) hHeld ?_
              rotate_left
              focus (intro z hSw; clear hSw; go_simp; try with_reducible rfl)
              try simp only [Act.put, List.setIfInBounds_toArray, List.set_cons_zero, List.set_cons_succ]
              refine wpAnyH_done (by kernel_rfl) ?_ _
              have B10 := Lib.hid b10
              have OV := Lib.hid oC
              have BV := Lib.hid (BK.out.keep0 hHeld)
              have FV := Lib.hid hHeld
              clear b10 oC hHeld
              go_wp2_with (first
                | ((with_reducible (show wpList _ _ _ (Oper.mk _ (Op.load 27 _) _ _ _ _ :: _) _ _)); refine wpList_load_g (by rfl) 27 _ rfl _ rfl B10.out.gets.all ?_)
                | ((with_reducible (show wpList _ _ _ (Oper.mk _ (Op.store 27 _ _) _ _ _ _ :: _) _ _)); refine wpList_store27 rfl (.tmp 5) (.tmp 64) rfl OV.out.ones.1 OV.out.ones.2 BV.out rfl rfl ?_; intro V2 b2 f2))
              go_roundw
              case rel =>
                refine ⟨k + 1, vr1, vl1, by omega, by go_num, ?_, ?_, (FR.out.trans FV.out (by simp)).trans f2 (fun i hi => .inr (by simp at hi; have := GZ.out; omega)), Nat.le_trans SR.out (Nat.le_trans FV.out.size f2.size)⟩
                · rw [show min (k + 1) 15 = k + 1 from by omega]; exact b2
                · rw [show min (k + 1) 15 = k + 1 from by omega]; exact OV.out.keep f2 (fun i hi => .inl (by simp at hi; have := LT.out; omega))
              case measure => simp [intOf]; omega
            exact AllReadyH.nil
          exact AllReadyH.nil
        refine AllReadyH.cons (o := ⟨some 10, .alloc 27, _, _, _, none⟩) rfl (fun K hK => ?_) ?_
        · refine step_alloc27 rfl rfl ?_
          intro g3 w9 m9 f9 n9
          refine hK.out _ _ ?_ (fun hNext => ?_)
          · exact hHeld.trans f9 (by simp)
          clear hK K hHeld
          have hHeld := hNext
          clear hNext
          try simp only [Act.put, List.setIfInBounds_toArray, List.set_cons_zero, List.set_cons_succ]
          refine wpAnyH_ready (rs := [7]) (by kernel_rfl) (by simp) ?_
          refine AllReadyH.cons (o := ⟨some 46, .call { callee := .value (.func 58), args := #[.tmp 39, .tmp 40, .tmp 45], argTypes := #[27, 4, 9] }, _, _, _, none⟩) rfl (fun K hK => ?_) ?_
          · go_simp
            refine (grows_any vr vl (tabG false k) false (lett k) _ (OK.out.v.keep0 hHeld) FT.out (lett_size k)).mono ?_
            intro r x1 hr
            obtain ⟨vr1, vl1, rfl, o1, f1⟩ := hr.is GR.out
            have hx := hHeld.trans f1 (by simp)
            refine hK.out _ _ ?_ (fun hNext => ?_)
            · exact hHeld.trans f1 (by simp)
            clear hK K hHeld
            have hHeld := hNext
            clear hNext
            try simp only [Act.put, List.setIfInBounds_toArray, List.set_cons_zero, List.set_cons_succ]
            refine wpAnyH_take (i := 8) (oi := ⟨some 38, .move (.tmp 46), _, _, _, none⟩) (v := ?_) rfl (by kernel_rfl) (by kernel_rfl) (by kernel_rfl) (fun _ _ _ h => h) (Or.inl ⟨by rfl, ?_⟩) hHeld ?_
            rotate_left
            focus (intro z hSw; clear hSw; go_simp; try with_reducible rfl)
            try simp only [Act.put, List.setIfInBounds_toArray, List.set_cons_zero, List.set_cons_succ]
            refine wpAnyH_take (i := 9) (oi := ⟨some 47, .extract (.tmp 38) 0, _, _, _, none⟩) (v := ?_) rfl (by kernel_rfl) (by kernel_rfl) (by kernel_rfl) (fun _ _ _ h => h) (Or.inl ⟨by rfl, ?_⟩) hHeld ?_
            rotate_left
            focus (intro z hSw; clear hSw; go_simp; try with_reducible rfl)
            try simp only [Act.put, List.setIfInBounds_toArray, List.set_cons_zero, List.set_cons_succ]
            refine wpAnyH_take (i := 10) (oi := ⟨some 48, .extract (.tmp 38) 1, _, _, _, none⟩) (v := ?_) rfl (by kernel_rfl) (by kernel_rfl) (by kernel_rfl) (fun _ _ _ h => h) (Or.inl ⟨by rfl, ?_⟩) hHeld ?_
            rotate_left
            focus (intro z hSw; clear hSw; go_simp; try with_reducible rfl)
            try simp only [Act.put, List.setIfInBounds_toArray, List.set_cons_zero, List.set_cons_succ]
            refine wpAnyH_ready (rs := [12]) (by kernel_rfl) (by simp) ?_
            refine AllReadyH.cons (o := ⟨none, .store 27 (.tmp 10) (.tmp 47), _, _, _, none⟩) rfl (fun K hK => ?_) ?_
            · have m10 := m9.keep0 f1
              have gz : wr.heap.size ≤ g3 := by simpa using n9
              refine step_store27 rfl (.tmp 10) (.tmp 47) rfl o1.ones.1 o1.ones.2 m10 rfl rfl (fun V b10 f10 => ?_)
              have oC := (o1.keep f10 (fun i hi => .inl (by simp at hi; have := m9.lt; omega))).base (w0 := w2) (Nat.le_trans SR.out (Nat.le_trans (by simp) f9.size))
              refine hK.out _ _ ?_ (fun hNext => ?_)
              · exact hHeld.trans f10 (fun i hi => .inr (by simp at hi; omega))
              clear hK K hHeld
              have hHeld := hNext
              clear hNext
              try simp only [Act.put, List.setIfInBounds_toArray, List.set_cons_zero, List.set_cons_succ]
              refine wpAnyH_take (i := 13) (oi := ⟨some 11, .assign (.tmp 48), _, _, _, none⟩) (v := ?_) rfl (by kernel_rfl) (by kernel_rfl) (by kernel_rfl) (fun _ _ _ h => h) (Or.inl ⟨by rfl, ?_⟩) hHeld ?_
              rotate_left
              focus (intro z hSw; clear hSw; go_simp; try with_reducible rfl)
              try simp only [Act.put, List.setIfInBounds_toArray, List.set_cons_zero, List.set_cons_succ]
              refine wpAnyH_done (by kernel_rfl) ?_ _
              have B10 := Lib.hid b10
              have OV := Lib.hid oC
              have BV := Lib.hid (BK.out.keep0 hHeld)
              have FV := Lib.hid hHeld
              clear b10 oC hHeld
              go_wp2_with (first
                | ((with_reducible (show wpList _ _ _ (Oper.mk _ (Op.load 27 _) _ _ _ _ :: _) _ _)); refine wpList_load_g (by rfl) 27 _ rfl _ rfl B10.out.gets.all ?_)
                | ((with_reducible (show wpList _ _ _ (Oper.mk _ (Op.store 27 _ _) _ _ _ _ :: _) _ _)); refine wpList_store27 rfl (.tmp 5) (.tmp 64) rfl OV.out.ones.1 OV.out.ones.2 BV.out rfl rfl ?_; intro V2 b2 f2))
              go_roundw
              case rel =>
                refine ⟨k + 1, vr1, vl1, by omega, by go_num, ?_, ?_, (FR.out.trans FV.out (by simp)).trans f2 (fun i hi => .inr (by simp at hi; have := GZ.out; omega)), Nat.le_trans SR.out (Nat.le_trans FV.out.size f2.size)⟩
                · rw [show min (k + 1) 15 = k + 1 from by omega]; exact b2
                · rw [show min (k + 1) 15 = k + 1 from by omega]; exact OV.out.keep f2 (fun i hi => .inl (by simp at hi; have := LT.out; omega))
              case measure => simp [intOf]; omega
            exact AllReadyH.nil
          exact AllReadyH.nil
        exact AllReadyH.nil
      · have hk159 : ¬ (k : Int) < 15 := by omega
        rw [show min k 15 = 15 from by omega] at hB hO
        have GR := Lib.hid (kfF k (by omega) hk17)
        have FT := Lib.hid (fit_of (kmF 15 (by omega)))
        have BK := Lib.hid hB
        have OK := Lib.hid hO
        clear hB hO
        go_upto_region 9 with (fail)
        refine wp_region_held_drew (S := fun z => Frm [] wr z) (by kernel_rfl) ((Frm.refl [] wr).drew) (fun hHeld => ?_)
        refine wpAnyH_take (i := 0) (oi := ⟨some 39, .load 27 (.tmp 5), _, _, _, none⟩) rfl (by kernel_rfl) (by kernel_rfl) (by kernel_rfl) (fun _ _ _ h => h) (yieldsIf_ld (by rfl) 27 _ rfl _ rfl (fun z hSw => (BK.out.keep0 hSw).gets.all)) hHeld ?_
        try simp only [Act.put, List.setIfInBounds_toArray, List.set_cons_zero, List.set_cons_succ]
        refine wpAnyH_take (i := 1) (oi := ⟨some 40, .move (.tmp 0), _, _, _, none⟩) (v := ?_) rfl (by kernel_rfl) (by kernel_rfl) (by kernel_rfl) (fun _ _ _ h => h) (Or.inl ⟨by rfl, ?_⟩) hHeld ?_
        rotate_left
        focus (intro z hSw; clear hSw; go_simp; try with_reducible rfl)
        try simp only [Act.put, List.setIfInBounds_toArray, List.set_cons_zero, List.set_cons_succ]
        refine wpAnyH_take (i := 2) (oi := ⟨some 41, .move (.tmp 8), _, _, _, none⟩) (v := ?_) rfl (by kernel_rfl) (by kernel_rfl) (by kernel_rfl) (fun _ _ _ h => h) (Or.inl ⟨by rfl, ?_⟩) hHeld ?_
        rotate_left
        focus (intro z hSw; clear hSw; go_simp; try with_reducible rfl)
        try simp only [Act.put, List.setIfInBounds_toArray, List.set_cons_zero, List.set_cons_succ]
        refine wpAnyH_take (i := 3) (oi := ⟨some 42, .move (.tmp 9), _, _, _, none⟩) (v := ?_) rfl (by kernel_rfl) (by kernel_rfl) (by kernel_rfl) (fun _ _ _ h => h) (Or.inl ⟨by rfl, ?_⟩) hHeld ?_
        rotate_left
        focus (intro z hSw; clear hSw; go_simp; try with_reducible rfl)
        try simp only [Act.put, List.setIfInBounds_toArray, List.set_cons_zero, List.set_cons_succ]
        refine wpAnyH_take (i := 4) (oi := ⟨some 43, .move (.tmp 9), _, _, _, none⟩) (v := ?_) rfl (by kernel_rfl) (by kernel_rfl) (by kernel_rfl) (fun _ _ _ h => h) (Or.inl ⟨by rfl, ?_⟩) hHeld ?_
        rotate_left
        focus (intro z hSw; clear hSw; go_simp; try with_reducible rfl)
        try simp only [Act.put, List.setIfInBounds_toArray, List.set_cons_zero, List.set_cons_succ]
        refine wpAnyH_take (i := 5) (oi := ⟨some 44, .binOp .add 3 (.tmp 43) (.const (.int .i64 1)) 3, _, _, _, none⟩) (v := ?_) rfl (by kernel_rfl) (by kernel_rfl) (by kernel_rfl) (fun _ _ _ h => h) (Or.inl ⟨by rfl, ?_⟩) hHeld ?_
        rotate_left
        focus (intro z hSw; clear hSw; go_simp; try with_reducible rfl)
        try simp only [Act.put, List.setIfInBounds_toArray, List.set_cons_zero, List.set_cons_succ]
        refine wpAnyH_take (i := 6) (oi := ⟨some 45, .slice 9 (.tmp 41) (some (.tmp 42)) (some (.tmp 44)) none, _, _, _, none⟩) (v := ?_) rfl (by kernel_rfl) (by kernel_rfl) (by kernel_rfl) (fun _ _ _ h => h) (Or.inl ⟨by rfl, ?_⟩) hHeld ?_
        rotate_left
        focus (intro z hSw; clear hSw; go_simp; try with_reducible rfl)
        try simp only [Act.put, List.setIfInBounds_toArray, List.set_cons_zero, List.set_cons_succ]
        refine wpAnyH_ready (rs := [7, 11]) (by kernel_rfl) (by simp) ?_
        refine AllReadyH.cons (o := ⟨some 46, .call { callee := .value (.func 58), args := #[.tmp 39, .tmp 40, .tmp 45], argTypes := #[27, 4, 9] }, _, _, _, none⟩) rfl (fun K hK => ?_) ?_
        · go_simp
          refine (grows_any vr vl (tabG false 15) false (lett k) _ (OK.out.v.keep0 hHeld) FT.out (lett_size k)).mono ?_
          intro r x1 hr
          obtain ⟨vr1, vl1, rfl, o1, f1⟩ := hr.is GR.out
          have hx := hHeld.trans f1 (by simp)
          refine hK.out _ _ ?_ (fun hNext => ?_)
          · exact hHeld.trans f1 (by simp)
          clear hK K hHeld
          have hHeld := hNext
          clear hNext
          try simp only [Act.put, List.setIfInBounds_toArray, List.set_cons_zero, List.set_cons_succ]
          refine wpAnyH_take (i := 8) (oi := ⟨some 38, .move (.tmp 46), _, _, _, none⟩) (v := ?_) rfl (by kernel_rfl) (by kernel_rfl) (by kernel_rfl) (fun _ _ _ h => h) (Or.inl ⟨by rfl, ?_⟩) hHeld ?_
          rotate_left
          focus (intro z hSw; clear hSw; go_simp; try with_reducible rfl)
          try simp only [Act.put, List.setIfInBounds_toArray, List.set_cons_zero, List.set_cons_succ]
          refine wpAnyH_take (i := 9) (oi := ⟨some 47, .extract (.tmp 38) 0, _, _, _, none⟩) (v := ?_) rfl (by kernel_rfl) (by kernel_rfl) (by kernel_rfl) (fun _ _ _ h => h) (Or.inl ⟨by rfl, ?_⟩) hHeld ?_
          rotate_left
          focus (intro z hSw; clear hSw; go_simp; try with_reducible rfl)
          try simp only [Act.put, List.setIfInBounds_toArray, List.set_cons_zero, List.set_cons_succ]
          refine wpAnyH_take (i := 10) (oi := ⟨some 48, .extract (.tmp 38) 1, _, _, _, none⟩) (v := ?_) rfl (by kernel_rfl) (by kernel_rfl) (by kernel_rfl) (fun _ _ _ h => h) (Or.inl ⟨by rfl, ?_⟩) hHeld ?_
          rotate_left
          focus (intro z hSw; clear hSw; go_simp; try with_reducible rfl)
          try simp only [Act.put, List.setIfInBounds_toArray, List.set_cons_zero, List.set_cons_succ]
          refine wpAnyH_ready (rs := [11]) (by kernel_rfl) (by simp) ?_
          refine AllReadyH.cons (o := ⟨some 10, .alloc 27, _, _, _, none⟩) rfl (fun K hK => ?_) ?_
          · refine step_alloc27 rfl rfl ?_
            intro g3 w9 m9 f9 n9
            refine hK.out _ _ ?_ (fun hNext => ?_)
            · exact hHeld.trans f9 (by simp)
            clear hK K hHeld
            have hHeld := hNext
            clear hNext
            try simp only [Act.put, List.setIfInBounds_toArray, List.set_cons_zero, List.set_cons_succ]
            refine wpAnyH_ready (rs := [12]) (by kernel_rfl) (by simp) ?_
            refine AllReadyH.cons (o := ⟨none, .store 27 (.tmp 10) (.tmp 47), _, _, _, none⟩) rfl (fun K hK => ?_) ?_
            · have m10 := m9
              have gz : wr.heap.size ≤ g3 := Nat.le_trans hx.size n9
              refine step_store27 rfl (.tmp 10) (.tmp 47) rfl o1.ones.1 o1.ones.2 m10 rfl rfl (fun V b10 f10 => ?_)
              have oC := (o1.keep ((f9.mono (by simp)).trans f10 (fun i hi => .inl hi)) (fun i hi => .inr (by simp at hi; omega))).base (w0 := w2) (Nat.le_trans SR.out (by simp))
              refine hK.out _ _ ?_ (fun hNext => ?_)
              · exact hHeld.trans f10 (fun i hi => .inr (by simp at hi; omega))
              clear hK K hHeld
              have hHeld := hNext
              clear hNext
              try simp only [Act.put, List.setIfInBounds_toArray, List.set_cons_zero, List.set_cons_succ]
              refine wpAnyH_take (i := 13) (oi := ⟨some 11, .assign (.tmp 48), _, _, _, none⟩) (v := ?_) rfl (by kernel_rfl) (by kernel_rfl) (by kernel_rfl) (fun _ _ _ h => h) (Or.inl ⟨by rfl, ?_⟩) hHeld ?_
              rotate_left
              focus (intro z hSw; clear hSw; go_simp; try with_reducible rfl)
              try simp only [Act.put, List.setIfInBounds_toArray, List.set_cons_zero, List.set_cons_succ]
              refine wpAnyH_done (by kernel_rfl) ?_ _
              have B10 := Lib.hid b10
              have OV := Lib.hid oC
              have BV := Lib.hid (BK.out.keep0 hHeld)
              have FV := Lib.hid hHeld
              clear b10 oC hHeld
              go_wp2_with (fail)
              go_roundw
              case rel =>
                refine ⟨k + 1, vr, vl, by omega, by go_num, ?_, ?_, FR.out.trans FV.out (by simp), Nat.le_trans SR.out FV.out.size⟩
                · rw [show min (k + 1) 15 = 15 from by omega]; exact BV.out
                · rw [show min (k + 1) 15 = 15 from by omega]; exact OK.out.keep0 FV.out
              case measure => simp [intOf]; omega
            exact AllReadyH.nil
          exact AllReadyH.nil
        refine AllReadyH.cons (o := ⟨some 10, .alloc 27, _, _, _, none⟩) rfl (fun K hK => ?_) ?_
        · refine step_alloc27 rfl rfl ?_
          intro g3 w9 m9 f9 n9
          refine hK.out _ _ ?_ (fun hNext => ?_)
          · exact hHeld.trans f9 (by simp)
          clear hK K hHeld
          have hHeld := hNext
          clear hNext
          try simp only [Act.put, List.setIfInBounds_toArray, List.set_cons_zero, List.set_cons_succ]
          refine wpAnyH_ready (rs := [7]) (by kernel_rfl) (by simp) ?_
          refine AllReadyH.cons (o := ⟨some 46, .call { callee := .value (.func 58), args := #[.tmp 39, .tmp 40, .tmp 45], argTypes := #[27, 4, 9] }, _, _, _, none⟩) rfl (fun K hK => ?_) ?_
          · go_simp
            refine (grows_any vr vl (tabG false 15) false (lett k) _ (OK.out.v.keep0 hHeld) FT.out (lett_size k)).mono ?_
            intro r x1 hr
            obtain ⟨vr1, vl1, rfl, o1, f1⟩ := hr.is GR.out
            have hx := hHeld.trans f1 (by simp)
            refine hK.out _ _ ?_ (fun hNext => ?_)
            · exact hHeld.trans f1 (by simp)
            clear hK K hHeld
            have hHeld := hNext
            clear hNext
            try simp only [Act.put, List.setIfInBounds_toArray, List.set_cons_zero, List.set_cons_succ]
            refine wpAnyH_take (i := 8) (oi := ⟨some 38, .move (.tmp 46), _, _, _, none⟩) (v := ?_) rfl (by kernel_rfl) (by kernel_rfl) (by kernel_rfl) (fun _ _ _ h => h) (Or.inl ⟨by rfl, ?_⟩) hHeld ?_
            rotate_left
            focus (intro z hSw; clear hSw; go_simp; try with_reducible rfl)
            try simp only [Act.put, List.setIfInBounds_toArray, List.set_cons_zero, List.set_cons_succ]
            refine wpAnyH_take (i := 9) (oi := ⟨some 47, .extract (.tmp 38) 0, _, _, _, none⟩) (v := ?_) rfl (by kernel_rfl) (by kernel_rfl) (by kernel_rfl) (fun _ _ _ h => h) (Or.inl ⟨by rfl, ?_⟩) hHeld ?_
            rotate_left
            focus (intro z hSw; clear hSw; go_simp; try with_reducible rfl)
            try simp only [Act.put, List.setIfInBounds_toArray, List.set_cons_zero, List.set_cons_succ]
            refine wpAnyH_take (i := 10) (oi := ⟨some 48, .extract (.tmp 38) 1, _, _, _, none⟩) (v := ?_) rfl (by kernel_rfl) (by kernel_rfl) (by kernel_rfl) (fun _ _ _ h => h) (Or.inl ⟨by rfl, ?_⟩) hHeld ?_
            rotate_left
            focus (intro z hSw; clear hSw; go_simp; try with_reducible rfl)
            try simp only [Act.put, List.setIfInBounds_toArray, List.set_cons_zero, List.set_cons_succ]
            refine wpAnyH_ready (rs := [12]) (by kernel_rfl) (by simp) ?_
            refine AllReadyH.cons (o := ⟨none, .store 27 (.tmp 10) (.tmp 47), _, _, _, none⟩) rfl (fun K hK => ?_) ?_
            · have m10 := m9.keep0 f1
              have gz : wr.heap.size ≤ g3 := by simpa using n9
              refine step_store27 rfl (.tmp 10) (.tmp 47) rfl o1.ones.1 o1.ones.2 m10 rfl rfl (fun V b10 f10 => ?_)
              have oC := (o1.keep f10 (fun i hi => .inl (by simp at hi; have := m9.lt; omega))).base (w0 := w2) (Nat.le_trans SR.out (Nat.le_trans (by simp) f9.size))
              refine hK.out _ _ ?_ (fun hNext => ?_)
              · exact hHeld.trans f10 (fun i hi => .inr (by simp at hi; omega))
              clear hK K hHeld
              have hHeld := hNext
              clear hNext
              try simp only [Act.put, List.setIfInBounds_toArray, List.set_cons_zero, List.set_cons_succ]
              refine wpAnyH_take (i := 13) (oi := ⟨some 11, .assign (.tmp 48), _, _, _, none⟩) (v := ?_) rfl (by kernel_rfl) (by kernel_rfl) (by kernel_rfl) (fun _ _ _ h => h) (Or.inl ⟨by rfl, ?_⟩) hHeld ?_
              rotate_left
              focus (intro z hSw; clear hSw; go_simp; try with_reducible rfl)
              try simp only [Act.put, List.setIfInBounds_toArray, List.set_cons_zero, List.set_cons_succ]
              refine wpAnyH_done (by kernel_rfl) ?_ _
              have B10 := Lib.hid b10
              have OV := Lib.hid oC
              have BV := Lib.hid (BK.out.keep0 hHeld)
              have FV := Lib.hid hHeld
              clear b10 oC hHeld
              go_wp2_with (fail)
              go_roundw
              case rel =>
                refine ⟨k + 1, vr, vl, by omega, by go_num, ?_, ?_, FR.out.trans FV.out (by simp), Nat.le_trans SR.out FV.out.size⟩
                · rw [show min (k + 1) 15 = 15 from by omega]; exact BV.out
                · rw [show min (k + 1) 15 = 15 from by omega]; exact OK.out.keep0 FV.out
              case measure => simp [intOf]; omega
            exact AllReadyH.nil
          exact AllReadyH.nil
        exact AllReadyH.nil
    · have hk9 : ¬ (k : Int) < 17 := by omega
      rw [show min k 15 = 15 from by omega] at hB hO
      have B0 := Lib.hid hB
      have O0 := Lib.hid hO
      clear hB hO hk
      go_upto_region 15 with (go_at_call 37; refine (Pick15 n _).mono ?_; rintro r wr ⟨j, hj, rfl, rfl⟩)
      have hj0 : (0 : Int) ≤ (j : Int) := by omega
      have hj1 : (j : Int) ≤ (j : Int) + 1 := by omega
      have hj2 : (j : Int) + 1 ≤ 21 := by omega
      have hwj : IntKind.i64.wrap ((j : Int) + 1) = (j : Int) + 1 := IntWalk.i64_in _ (by omega)
      go_upto_region 16 with (fail)
      rw [show ({ data := #[97, 98, 99, 100, 101, 102, 103, 104, 105, 106, 107, 108, 109, 110, 111, 112, 113, 114, 115, 116, 117] } : ByteArray).extract j (j + 1) = lett j from rfl]
      have hz1 : ¬ 9223372036854775807 < ({ data := #[118, 64] } : ByteArray).size + (lett j).size := by have : ({ data := #[118, 64] } : ByteArray).size = 2 := rfl; have := lett_size j; omega
      have hz2 : ¬ 9223372036854775807 < 2 + (lett j).size := by have := lett_size j; omega
      have DR := Lib.hid (show Calls Tryz.prog 59 #[tv vr vl (tabG false 15), .string (lett j)] wr (TellE (dropT (tabG false 15) (nmG false j)) wr) from Drop_any vr vl (tabG false 15) (nmG false j) wr O0.out.v (fit_of (kmF 15 (by omega))) (nmG_size false j))
      have KD := Lib.hid (kdF j hj)
      have KU := Lib.hid (kuF j hj)
      clear hj0 hj1 hj2 hwj hj hk9
      go_upto_region 18 with (fail)
      clear hz1 hz2
      generalize lett j = lj at *
      generalize dropT (tabG false 15) (nmG false j) = dr at *
      have F0 := Lib.hid (Frm.refl [] wr)
      go_upto_region 19 with (first
        | ((with_reducible (show wpList _ _ _ (Oper.mk _ (Op.load 27 _) _ _ _ _ :: _) _ _)); refine wpList_load_g (by rfl) 27 _ rfl _ rfl (B0.out).gets.all ?_)
        | (go_at_call 59; refine (DR.out).mono ?_; intro r x1 hr; obtain ⟨vr1, vl1, rfl, o1, f1⟩ := hr.is KD.out.1)
        | ((with_reducible (show wpList _ _ _ (Oper.mk _ (Op.alloc 27) _ _ _ _ :: _) _ _)); refine wpList_val rfl (exec_alloc27 rfl _) ?_)
        | ((with_reducible (show wpList _ _ _ (Oper.mk _ (Op.store 27 _ _) _ _ _ _ :: _) _ _)); refine wpList_store27 rfl (.tmp 13) (.tmp 79) rfl o1.ones.1 o1.ones.2 (TB.new x1 nilS nilS zeroT) rfl rfl ?_; intro w1 b2 f2))
      have f12 : Frm [] x1 w1 := ((Frm.refl [] x1).alloc _).trans f2 (fun i hi => .inr (by simp at hi; omega))
      have B1 := Lib.hid b2
      have O1 := Lib.hid (o1.keep0 f12)
      have F1 := Lib.hid (show Frm [] wr w1 from (F0.out.trans f1 (by simp)).trans f12 (by simp))
      have G1 := Lib.hid (show Frm [] wr w1 from f1.trans f12 (by simp))
      clear b2 f2 o1 f1 f12 hr
      generalize x1.heap.size = g1 at *
      go_upto_region 20 with (first
        | ((with_reducible (show wpList _ _ _ (Oper.mk _ (Op.load 27 _) _ _ _ _ :: _) _ _)); refine wpList_load_g (by rfl) 27 _ rfl _ rfl (B1.out).gets.all ?_)
        | (go_at_call 58; refine (grows_any vr1 vl1 (drpG false j) false { data := #[117] } w1 O1.out.v (fit_of KD.out.2) (by decide)).mono ?_; intro r x2 hr; obtain ⟨vr2, vl2, rfl, o1, f1⟩ := hr.is KU.out.1)
        | ((with_reducible (show wpList _ _ _ (Oper.mk _ (Op.alloc 27) _ _ _ _ :: _) _ _)); refine wpList_val rfl (exec_alloc27 rfl _) ?_)
        | ((with_reducible (show wpList _ _ _ (Oper.mk _ (Op.store 27 _ _) _ _ _ _ :: _) _ _)); refine wpList_store27 rfl (.tmp 15) (.tmp 85) rfl o1.ones.1 o1.ones.2 (TB.new x2 nilS nilS zeroT) rfl rfl ?_; intro w2 b2 f2))
      have f12 : Frm [] x2 w2 := ((Frm.refl [] x2).alloc _).trans f2 (fun i hi => .inr (by simp at hi; omega))
      have B2 := Lib.hid b2
      have O2 := Lib.hid (o1.keep0 f12)
      have F2 := Lib.hid (show Frm [] wr w2 from (F1.out.trans f1 (by simp)).trans f12 (by simp))
      have G2 := Lib.hid (show Frm [] w1 w2 from f1.trans f12 (by simp))
      clear b2 f2 o1 f1 f12 hr
      generalize x2.heap.size = g2 at *
      go_upto_region 21 with (first
        | ((with_reducible (show wpList _ _ _ (Oper.mk _ (Op.load 27 _) _ _ _ _ :: _) _ _)); refine wpList_load_g (by rfl) 27 _ rfl _ rfl (B2.out).gets.all ?_)
        | (go_at_call 58; refine (grows_any vr2 vl2 (ugG false j) false { data := #[122] } w2 O2.out.v (fit_of KU.out.2.1) (by decide)).mono ?_; intro r x3 hr; obtain ⟨vr3, vl3, rfl, o1, f1⟩ := hr.is KU.out.2.2.2)
        | ((with_reducible (show wpList _ _ _ (Oper.mk _ (Op.alloc 27) _ _ _ _ :: _) _ _)); refine wpList_val rfl (exec_alloc27 rfl _) ?_)
        | ((with_reducible (show wpList _ _ _ (Oper.mk _ (Op.store 27 _ _) _ _ _ _ :: _) _ _)); refine wpList_store27 rfl (.tmp 17) (.tmp 91) rfl o1.ones.1 o1.ones.2 (TB.new x3 nilS nilS zeroT) rfl rfl ?_; intro w3 b2 f2))
      have f12 : Frm [] x3 w3 := ((Frm.refl [] x3).alloc _).trans f2 (fun i hi => .inr (by simp at hi; omega))
      have B3 := Lib.hid b2
      have O3 := Lib.hid (o1.keep0 f12)
      have F3 := Lib.hid (show Frm [] wr w3 from (F2.out.trans f1 (by simp)).trans f12 (by simp))
      have G3 := Lib.hid (show Frm [] w2 w3 from f1.trans f12 (by simp))
      clear b2 f2 o1 f1 f12 hr
      generalize x3.heap.size = g3 at *
      have FL := Lib.hid (F3.out)
      have HL0 := Lib.hid (show (tabG false 15).recs.length = 16 by kernel_rfl)
      have HL2 := Lib.hid KU.out.2.2.1
      have BF0 := Lib.hid (B0.out.keep0 F3.out)
      have BF2 := Lib.hid (B2.out.keep0 G3.out)
      obtain ⟨a0, c0, e0⟩ := O0.out.v.1.form
      obtain ⟨a2, c2, e2⟩ := O2.out.v.1.form
      have HQ0 := Lib.hid (fun z (f : Frm [] w3 z) => show z.cell? ⟨g, 1, none⟩ = some (.slice a0 16 c0) from by have := (BF0.out.keep0 f).gets.recs; rw [e0, HL0.out] at this; exact this)
      have HQ2 := Lib.hid (fun z (f : Frm [] w3 z) => show z.cell? ⟨g2, 1, none⟩ = some (.slice a2 16 c2) from by have := (BF2.out.keep0 f).gets.recs; rw [e2, HL2.out] at this; exact this)
      clear e0 e2
      go_wp2_with (go_at_call 39; refine (awakeD_any w3).mono ?_; rintro r w5 ⟨rfl, f5⟩; have q0 := HQ0.out _ f5; have q2 := HQ2.out _ f5)
      go_ret
      exact ⟨rfl, (FR.out.trans FL.out (by simp)).trans f5 (by simp)⟩
set_option maxHeartbeats 16000000 in
theorem fullD_true (n : Int) (w : World) : Calls Tryz.prog 13 #[.bool true, .int .i64 n] w (YesD w) := by
  have F := Lib.hid (Frm.refl [] w)
  go_enter Tryz.func13, Tryz.ntmps13
  go_upto_region 2 with (first
    | (go_at_call 43; refine (New_any 2 w).mono ?_; intro r w1 hr; obtain ⟨vr1, vl1, rfl, o1, f1⟩ := hr.is ka0)
    | ((with_reducible (show wpList _ _ _ (Oper.mk _ (Op.alloc 27) _ _ _ _ :: _) _ _)); refine wpList_val rfl (exec_alloc27 rfl _) ?_)
    | ((with_reducible (show wpList _ _ _ (Oper.mk _ (Op.store 27 _ _) _ _ _ _ :: _) _ _)); refine wpList_store27 rfl (.tmp 5) (.tmp 21) rfl o1.ones.1 o1.ones.2 (TB.new w1 nilS nilS zeroT) rfl rfl ?_; intro w2 b2 f2))
  have f12 : Frm [] w1 w2 := ((Frm.refl [] w1).alloc _).trans f2 (fun i hi => .inr (by simp at hi; omega))
  have B2 := Lib.hid b2
  have F2 := Lib.hid (show Frm [] w w2 from f1.trans f12 (by simp))
  have O2 := Lib.hid (o1.keep0 f12)
  have GZ := Lib.hid (show w.heap.size ≤ w1.heap.size from f1.size)
  clear b2 f2 o1 f1 f12
  generalize w1.heap.size = g at *
  have LT := Lib.hid (show g < w2.heap.size from B2.out.lt)
  go_upto_region 3 with (first
    | ((with_reducible (show wpList _ _ _ (Oper.mk _ (Op.load 27 _) _ _ _ _ :: _) _ _)); refine wpList_load_g (by rfl) 27 _ rfl _ rfl B2.out.gets.all ?_)
    | (go_at_call 51; refine (Make_any _ _ (newT 2) { data := #[118] } 1 1 w2 O2.out.v fa0 (by decide)).mono ?_; intro r w3 hr; obtain ⟨vr3, vl3, rfl, o1, f1⟩ := hr.is (kg0.trans (congrArg (fun t => (t, (0 : Int))) kg0'.symm)))
    | ((with_reducible (show wpList _ _ _ (Oper.mk _ (Op.store 27 _ _) _ _ _ _ :: _) _ _)); refine wpList_store27 rfl (.tmp 5) (.tmp 26) rfl o1.ones.1 o1.ones.2 (B2.out.keep0 f1) rfl rfl ?_; intro w4 b2 f2))
  have B4 := Lib.hid b2
  have F4 := Lib.hid (show Frm [] w w4 from (F2.out.trans f1 (by simp)).trans f2 (fun i hi => .inr (by simp at hi; have := GZ.out; omega)))
  have O4 := Lib.hid (o1.keep f2 (fun i hi => .inl (by simp at hi; have := LT.out; omega)))
  have S4 := Lib.hid (Nat.le_trans f1.size f2.size)
  clear b2 f2 o1 f1
  go_upto_region 7 with (fail)
  go_loopw [9, 10, 11] (FuRel true w w2 g) (fun c _ _ _ => 17 - (intOf c).toNat)
  case atStart => exact ⟨0, vr3, vl3, by omega, rfl, B4.out, O4.out, F4.out, S4.out⟩
  case round =>
    obtain ⟨k, vr, vl, hk, rfl, hB, hO, hF, hS⟩ := hrel
    clear B4 O4 F4 S4 B2 O2 F2
    have FR := Lib.hid hF
    have SR := Lib.hid hS
    clear hF hS
    by_cases hk17 : k < 17
    · have hk9 : (k : Int) < 17 := by omega
      have hk0 : (0 : Int) ≤ (k : Int) := by omega
      have hk1 : (k : Int) ≤ (k : Int) + 1 := by omega
      have hk2 : (k : Int) + 1 ≤ 21 := by omega
      have hw : IntKind.i64.wrap ((k : Int) + 1) = (k : Int) + 1 := IntWalk.i64_in _ (by omega)
      by_cases hk15 : k < 15
      · have hk159 : (k : Int) < 15 := by omega
        rw [show min k 15 = k from by omega] at hB hO
        have GR := Lib.hid (kgT k hk15)
        have FT := Lib.hid (fit_of (kmT k (by omega)))
        have BK := Lib.hid hB
        have OK := Lib.hid hO
        clear hB hO
        go_upto_region 9 with (fail)
        refine wp_region_held_drew (S := fun z => Frm [] wr z) (by kernel_rfl) ((Frm.refl [] wr).drew) (fun hHeld => ?_)
        refine wpAnyH_take (i := 0) (oi := ⟨some 39, .load 27 (.tmp 5), _, _, _, none⟩) rfl (by kernel_rfl) (by kernel_rfl) (by kernel_rfl) (fun _ _ _ h => h) (yieldsIf_ld (by rfl) 27 _ rfl _ rfl (fun z hSw => (BK.out.keep0 hSw).gets.all)) hHeld ?_
        try simp only [Act.put, List.setIfInBounds_toArray, List.set_cons_zero, List.set_cons_succ]
        refine wpAnyH_take (i := 1) (oi := ⟨some 40, .move (.tmp 0), _, _, _, none⟩) (v := ?_) rfl (by kernel_rfl) (by kernel_rfl) (by kernel_rfl) (fun _ _ _ h => h) (Or.inl ⟨by rfl, ?_⟩) hHeld ?_
        rotate_left
        focus (intro z hSw; clear hSw; go_simp; try with_reducible rfl)
        try simp only [Act.put, List.setIfInBounds_toArray, List.set_cons_zero, List.set_cons_succ]
        refine wpAnyH_take (i := 2) (oi := ⟨some 41, .move (.tmp 8), _, _, _, none⟩) (v := ?_) rfl (by kernel_rfl) (by kernel_rfl) (by kernel_rfl) (fun _ _ _ h => h) (Or.inl ⟨by rfl, ?_⟩) hHeld ?_
        rotate_left
        focus (intro z hSw; clear hSw; go_simp; try with_reducible rfl)
        try simp only [Act.put, List.setIfInBounds_toArray, List.set_cons_zero, List.set_cons_succ]
        refine wpAnyH_take (i := 3) (oi := ⟨some 42, .move (.tmp 9), _, _, _, none⟩) (v := ?_) rfl (by kernel_rfl) (by kernel_rfl) (by kernel_rfl) (fun _ _ _ h => h) (Or.inl ⟨by rfl, ?_⟩) hHeld ?_
        rotate_left
        focus (intro z hSw; clear hSw; go_simp; try with_reducible rfl)
        try simp only [Act.put, List.setIfInBounds_toArray, List.set_cons_zero, List.set_cons_succ]
        refine wpAnyH_take (i := 4) (oi := ⟨some 43, .move (.tmp 9), _, _, _, none⟩) (v := ?_) rfl (by kernel_rfl) (by kernel_rfl) (by kernel_rfl) (fun _ _ _ h => h) (Or.inl ⟨by rfl, ?_⟩) hHeld ?_
        rotate_left
        focus (intro z hSw; clear hSw; go_simp; try with_reducible rfl)
        try simp only [Act.put, List.setIfInBounds_toArray, List.set_cons_zero, List.set_cons_succ]
        refine wpAnyH_take (i := 5) (oi := ⟨some 44, .binOp .add 3 (.tmp 43) (.const (.int .i64 1)) 3, _, _, _, none⟩) (v := ?_) rfl (by kernel_rfl) (by kernel_rfl) (by kernel_rfl) (fun _ _ _ h => h) (Or.inl ⟨by rfl, ?_⟩) hHeld ?_
        rotate_left
        focus (intro z hSw; clear hSw; go_simp; try with_reducible rfl)
        try simp only [Act.put, List.setIfInBounds_toArray, List.set_cons_zero, List.set_cons_succ]
        refine wpAnyH_take (i := 6) (oi := ⟨some 45, .slice 9 (.tmp 41) (some (.tmp 42)) (some (.tmp 44)) none, _, _, _, none⟩) (v := ?_) rfl (by kernel_rfl) (by kernel_rfl) (by kernel_rfl) (fun _ _ _ h => h) (Or.inl ⟨by rfl, ?_⟩) hHeld ?_
        rotate_left
        focus (intro z hSw; clear hSw; go_simp; try with_reducible rfl)
        try simp only [Act.put, List.setIfInBounds_toArray, List.set_cons_zero, List.set_cons_succ]
        refine wpAnyH_ready (rs := [7, 11]) (by kernel_rfl) (by simp) ?_
        refine AllReadyH.cons (o := ⟨some 46, .call { callee := .value (.func 58), args := #[.tmp 39, .tmp 40, .tmp 45], argTypes := #[27, 4, 9] }, _, _, _, none⟩) rfl (fun K hK => ?_) ?_
        · go_simp
          refine (grows_any vr vl (tabG true k) true (lett k) _ (OK.out.v.keep0 hHeld) FT.out (lett_size k)).mono ?_
          intro r x1 hr
          obtain ⟨vr1, vl1, rfl, o1, f1⟩ := hr.is GR.out
          have hx := hHeld.trans f1 (by simp)
          refine hK.out _ _ ?_ (fun hNext => ?_)
          · exact hHeld.trans f1 (by simp)
          clear hK K hHeld
          have hHeld := hNext
          clear hNext
          try simp only [Act.put, List.setIfInBounds_toArray, List.set_cons_zero, List.set_cons_succ]
          refine wpAnyH_take (i := 8) (oi := ⟨some 38, .move (.tmp 46), _, _, _, none⟩) (v := ?_) rfl (by kernel_rfl) (by kernel_rfl) (by kernel_rfl) (fun _ _ _ h => h) (Or.inl ⟨by rfl, ?_⟩) hHeld ?_
          rotate_left
          focus (intro z hSw; clear hSw; go_simp; try with_reducible rfl)
          try simp only [Act.put, List.setIfInBounds_toArray, List.set_cons_zero, List.set_cons_succ]
          refine wpAnyH_take (i := 9) (oi := ⟨some 47, .extract (.tmp 38) 0, _, _, _, none⟩) (v := ?_) rfl (by kernel_rfl) (by kernel_rfl) (by kernel_rfl) (fun _ _ _ h => h) (Or.inl ⟨by rfl, ?_⟩) hHeld ?_
          rotate_left
          focus (intro z hSw; clear hSw; go_simp; try with_reducible rfl)
          try simp only [Act.put, List.setIfInBounds_toArray, List.set_cons_zero, List.set_cons_succ]
          refine wpAnyH_take (i := 10) (oi := ⟨some 48, .extract (.tmp 38) 1, _, _, _, none⟩) (v := ?_) rfl (by kernel_rfl) (by kernel_rfl) (by kernel_rfl) (fun _ _ _ h => h) (Or.inl ⟨by rfl, ?_⟩) hHeld ?_
          rotate_left
          focus (intro z hSw; clear hSw; go_simp; try with_reducible rfl)
          try simp only [Act.put, List.setIfInBounds_toArray, List.set_cons_zero, List.set_cons_succ]
          refine wpAnyH_ready (rs := [11]) (by kernel_rfl) (by simp) ?_
          refine AllReadyH.cons (o := ⟨some 10, .alloc 27, _, _, _, none⟩) rfl (fun K hK => ?_) ?_
          · refine step_alloc27 rfl rfl ?_
            intro g3 w9 m9 f9 n9
            refine hK.out _ _ ?_ (fun hNext => ?_)
            · exact hHeld.trans f9 (by simp)
            clear hK K hHeld
            have hHeld := hNext
            clear hNext
            try simp only [Act.put, List.setIfInBounds_toArray, List.set_cons_zero, List.set_cons_succ]
            refine wpAnyH_ready (rs := [12]) (by kernel_rfl) (by simp) ?_
            refine AllReadyH.cons (o := ⟨none, .store 27 (.tmp 10) (.tmp 47), _, _, _, none⟩) rfl (fun K hK => ?_) ?_
            · have m10 := m9
              have gz : wr.heap.size ≤ g3 := Nat.le_trans hx.size n9
              refine step_store27 rfl (.tmp 10) (.tmp 47) rfl o1.ones.1 o1.ones.2 m10 rfl rfl (fun V b10 f10 => ?_)
              have oC := (o1.keep ((f9.mono (by simp)).trans f10 (fun i hi => .inl hi)) (fun i hi => .inr (by simp at hi; omega))).base (w0 := w2) (Nat.le_trans SR.out (by simp))
              refine hK.out _ _ ?_ (fun hNext => ?_)
              · exact hHeld.trans f10 (fun i hi => .inr (by simp at hi; omega))
              clear hK K hHeld
              have hHeld := hNext
              clear hNext
              try simp only [Act.put, List.setIfInBounds_toArray, List.set_cons_zero, List.set_cons_succ]
              refine wpAnyH_take (i := 13) (oi := ⟨some 11, .assign (.tmp 48), _, _, _, none⟩) (v := ?_) rfl (by kernel_rfl) (by kernel_rfl) (by kernel_rfl) (fun _ _ _ h => h) (Or.inl ⟨by rfl, ?_⟩) hHeld ?_
              rotate_left
              focus (intro z hSw; clear hSw; go_simp; try with_reducible rfl)
              try simp only [Act.put, List.setIfInBounds_toArray, List.set_cons_zero, List.set_cons_succ]
              refine wpAnyH_done (by kernel_rfl) ?_ _
              have B10 := Lib.hid b10
              have OV := Lib.hid oC
              have BV := Lib.hid (BK.out.keep0 hHeld)
              have FV := Lib.hid hHeld
              clear b10 oC hHeld
              go_wp2_with (first
                | ((with_reducible (show wpList _ _ _ (Oper.mk _ (Op.load 27 _) _ _ _ _ :: _) _ _)); refine wpList_load_g (by rfl) 27 _ rfl _ rfl B10.out.gets.all ?_)
                | ((with_reducible (show wpList _ _ _ (Oper.mk _ (Op.store 27 _ _) _ _ _ _ :: _) _ _)); refine wpList_store27 rfl (.tmp 5) (.tmp 64) rfl OV.out.ones.1 OV.out.ones.2 BV.out rfl rfl ?_; intro V2 b2 f2))
              go_roundw
              case rel =>
                refine ⟨k + 1, vr1, vl1, by omega, by go_num, ?_, ?_, (FR.out.trans FV.out (by simp)).trans f2 (fun i hi => .inr (by simp at hi; have := GZ.out; omega)), Nat.le_trans SR.out (Nat.le_trans FV.out.size f2.size)⟩
                · rw [show min (k + 1) 15 = k + 1 from by omega]; exact b2
                · rw [show min (k + 1) 15 = k + 1 from by omega]; exact OV.out.keep f2 (fun i hi => .inl (by simp at hi; have := LT.out; omega))
              case measure => simp [intOf]; omega
            exact AllReadyH.nil
          exact AllReadyH.nil
        refine AllReadyH.cons (o := ⟨some 10, .alloc 27, _, _, _, none⟩) rfl (fun K hK => ?_) ?_
        · refine step_alloc27 rfl rfl ?_
          intro g3 w9 m9 f9 n9
          refine hK.out _ _ ?_ (fun hNext => ?_)
          · exact hHeld.trans f9 (by simp)
          clear hK K hHeld
          have hHeld := hNext
          clear hNext
          try simp only [Act.put, List.setIfInBounds_toArray, List.set_cons_zero, List.set_cons_succ]
          refine wpAnyH_ready (rs := [7]) (by kernel_rfl) (by simp) ?_
          refine AllReadyH.cons (o := ⟨some 46, .call { callee := .value (.func 58), args := #[.tmp 39, .tmp 40, .tmp 45], argTypes := #[27, 4, 9] }, _, _, _, none⟩) rfl (fun K hK => ?_) ?_
          · go_simp
            refine (grows_any vr vl (tabG true k) true (lett k) _ (OK.out.v.keep0 hHeld) FT.out (lett_size k)).mono ?_
            intro r x1 hr
            obtain ⟨vr1, vl1, rfl, o1, f1⟩ := hr.is GR.out
            have hx := hHeld.trans f1 (by simp)
            refine hK.out _ _ ?_ (fun hNext => ?_)
            · exact hHeld.trans f1 (by simp)
            clear hK K hHeld
            have hHeld := hNext
            clear hNext
            try simp only [Act.put, List.setIfInBounds_toArray, List.set_cons_zero, List.set_cons_succ]
            refine wpAnyH_take (i := 8) (oi := ⟨some 38, .move (.tmp 46), _, _, _, none⟩) (v := ?_) rfl (by kernel_rfl) (by kernel_rfl) (by kernel_rfl) (fun _ _ _ h => h) (Or.inl ⟨by rfl, ?_⟩) hHeld ?_
            rotate_left
            focus (intro z hSw; clear hSw; go_simp; try with_reducible rfl)
            try simp only [Act.put, List.setIfInBounds_toArray, List.set_cons_zero, List.set_cons_succ]
            refine wpAnyH_take (i := 9) (oi := ⟨some 47, .extract (.tmp 38) 0, _, _, _, none⟩) (v := ?_) rfl (by kernel_rfl) (by kernel_rfl) (by kernel_rfl) (fun _ _ _ h => h) (Or.inl ⟨by rfl, ?_⟩) hHeld ?_
            rotate_left
            focus (intro z hSw; clear hSw; go_simp; try with_reducible rfl)
            try simp only [Act.put, List.setIfInBounds_toArray, List.set_cons_zero, List.set_cons_succ]
            refine wpAnyH_take (i := 10) (oi := ⟨some 48, .extract (.tmp 38) 1, _, _, _, none⟩) (v := ?_) rfl (by kernel_rfl) (by kernel_rfl) (by kernel_rfl) (fun _ _ _ h => h) (Or.inl ⟨by rfl, ?_⟩) hHeld ?_
            rotate_left
            focus (intro z hSw; clear hSw; go_simp; try with_reducible rfl)
            try simp only [Act.put, List.setIfInBounds_toArray, List.set_cons_zero, List.set_cons_succ]
            refine wpAnyH_ready (rs := [12]) (by kernel_rfl) (by simp) ?_
            refine AllReadyH.cons (o := ⟨none, .store 27 (.tmp 10) (.tmp 47), _, _, _, none⟩) rfl (fun K hK => ?_) ?_
            · have m10 := m9.keep0 f1
              have gz : wr.heap.size ≤ g3 := by simpa using n9
              refine step_store27 rfl (.tmp 10) (.tmp 47) rfl o1.ones.1 o1.ones.2 m10 rfl rfl (fun V b10 f10 => ?_)
              have oC := (o1.keep f10 (fun i hi => .inl (by simp at hi; have := m9.lt; omega))).base (w0 := w2) (Nat.le_trans SR.out (Nat.le_trans (by simp) f9.size))
              refine hK.out _ _ ?_ (fun hNext => ?_)
              · exact hHeld.trans f10 (fun i hi => .inr (by simp at hi; omega))
              clear hK K hHeld
              have hHeld := hNext
              clear hNext
              try simp only [Act.put, List.setIfInBounds_toArray, List.set_cons_zero, List.set_cons_succ]
              refine wpAnyH_take (i := 13) (oi := ⟨some 11, .assign (.tmp 48), _, _, _, none⟩) (v := ?_) rfl (by kernel_rfl) (by kernel_rfl) (by kernel_rfl) (fun _ _ _ h => h) (Or.inl ⟨by rfl, ?_⟩) hHeld ?_
              rotate_left
              focus (intro z hSw; clear hSw; go_simp; try with_reducible rfl)
              try simp only [Act.put, List.setIfInBounds_toArray, List.set_cons_zero, List.set_cons_succ]
              refine wpAnyH_done (by kernel_rfl) ?_ _
              have B10 := Lib.hid b10
              have OV := Lib.hid oC
              have BV := Lib.hid (BK.out.keep0 hHeld)
              have FV := Lib.hid hHeld
              clear b10 oC hHeld
              go_wp2_with (first
                | ((with_reducible (show wpList _ _ _ (Oper.mk _ (Op.load 27 _) _ _ _ _ :: _) _ _)); refine wpList_load_g (by rfl) 27 _ rfl _ rfl B10.out.gets.all ?_)
                | ((with_reducible (show wpList _ _ _ (Oper.mk _ (Op.store 27 _ _) _ _ _ _ :: _) _ _)); refine wpList_store27 rfl (.tmp 5) (.tmp 64) rfl OV.out.ones.1 OV.out.ones.2 BV.out rfl rfl ?_; intro V2 b2 f2))
              go_roundw
              case rel =>
                refine ⟨k + 1, vr1, vl1, by omega, by go_num, ?_, ?_, (FR.out.trans FV.out (by simp)).trans f2 (fun i hi => .inr (by simp at hi; have := GZ.out; omega)), Nat.le_trans SR.out (Nat.le_trans FV.out.size f2.size)⟩
                · rw [show min (k + 1) 15 = k + 1 from by omega]; exact b2
                · rw [show min (k + 1) 15 = k + 1 from by omega]; exact OV.out.keep f2 (fun i hi => .inl (by simp at hi; have := LT.out; omega))
              case measure => simp [intOf]; omega
            exact AllReadyH.nil
          exact AllReadyH.nil
        exact AllReadyH.nil
      · have hk159 : ¬ (k : Int) < 15 := by omega
        rw [show min k 15 = 15 from by omega] at hB hO
        have GR := Lib.hid (kfT k (by omega) hk17)
        have FT := Lib.hid (fit_of (kmT 15 (by omega)))
        have BK := Lib.hid hB
        have OK := Lib.hid hO
        clear hB hO
        go_upto_region 9 with (fail)
        refine wp_region_held_drew (S := fun z => Frm [] wr z) (by kernel_rfl) ((Frm.refl [] wr).drew) (fun hHeld => ?_)
        refine wpAnyH_take (i := 0) (oi := ⟨some 39, .load 27 (.tmp 5), _, _, _, none⟩) rfl (by kernel_rfl) (by kernel_rfl) (by kernel_rfl) (fun _ _ _ h => h) (yieldsIf_ld (by rfl) 27 _ rfl _ rfl (fun z hSw => (BK.out.keep0 hSw).gets.all)) hHeld ?_
        try simp only [Act.put, List.setIfInBounds_toArray, List.set_cons_zero, List.set_cons_succ]
        refine wpAnyH_take (i := 1) (oi := ⟨some 40, .move (.tmp 0), _, _, _, none⟩) (v := ?_) rfl (by kernel_rfl) (by kernel_rfl) (by kernel_rfl) (fun _ _ _ h => h) (Or.inl ⟨by rfl, ?_⟩) hHeld ?_
        rotate_left
        focus (intro z hSw; clear hSw; go_simp; try with_reducible rfl)
        try simp only [Act.put, List.setIfInBounds_toArray, List.set_cons_zero, List.set_cons_succ]
        refine wpAnyH_take (i := 2) (oi := ⟨some 41, .move (.tmp 8), _, _, _, none⟩) (v := ?_) rfl (by kernel_rfl) (by kernel_rfl) (by kernel_rfl) (fun _ _ _ h => h) (Or.inl ⟨by rfl, ?_⟩) hHeld ?_
        rotate_left
        focus (intro z hSw; clear hSw; go_simp; try with_reducible rfl)
        try simp only [Act.put, List.setIfInBounds_toArray, List.set_cons_zero, List.set_cons_succ]
        refine wpAnyH_take (i := 3) (oi := ⟨some 42, .move (.tmp 9), _, _, _, none⟩) (v := ?_) rfl (by kernel_rfl) (by kernel_rfl) (by kernel_rfl) (fun _ _ _ h => h) (Or.inl ⟨by rfl, ?_⟩) hHeld ?_
        rotate_left
        focus (intro z hSw; clear hSw; go_simp; try with_reducible rfl)
        try simp only [Act.put, List.setIfInBounds_toArray, List.set_cons_zero, List.set_cons_succ]
        refine wpAnyH_take (i := 4) (oi := ⟨some 43, .move (.tmp 9), _, _, _, none⟩) (v := ?_) rfl (by kernel_rfl) (by kernel_rfl) (by kernel_rfl) (fun _ _ _ h => h) (Or.inl ⟨by rfl, ?_⟩) hHeld ?_
        rotate_left
        focus (intro z hSw; clear hSw; go_simp; try with_reducible rfl)
        try simp only [Act.put, List.setIfInBounds_toArray, List.set_cons_zero, List.set_cons_succ]
        refine wpAnyH_take (i := 5) (oi := ⟨some 44, .binOp .add 3 (.tmp 43) (.const (.int .i64 1)) 3, _, _, _, none⟩) (v := ?_) rfl (by kernel_rfl) (by kernel_rfl) (by kernel_rfl) (fun _ _ _ h => h) (Or.inl ⟨by rfl, ?_⟩) hHeld ?_
        rotate_left
        focus (intro z hSw; clear hSw; go_simp; try with_reducible rfl)
        try simp only [Act.put, List.setIfInBounds_toArray, List.set_cons_zero, List.set_cons_succ]
        refine wpAnyH_take (i := 6) (oi := ⟨some 45, .slice 9 (.tmp 41) (some (.tmp 42)) (some (.tmp 44)) none, _, _, _, none⟩) (v := ?_) rfl (by kernel_rfl) (by kernel_rfl) (by kernel_rfl) (fun _ _ _ h => h) (Or.inl ⟨by rfl, ?_⟩) hHeld ?_
        rotate_left
        focus (intro z hSw; clear hSw; go_simp; try with_reducible rfl)
        try simp only [Act.put, List.setIfInBounds_toArray, List.set_cons_zero, List.set_cons_succ]
        refine wpAnyH_ready (rs := [7, 11]) (by kernel_rfl) (by simp) ?_
        refine AllReadyH.cons (o := ⟨some 46, .call { callee := .value (.func 58), args := #[.tmp 39, .tmp 40, .tmp 45], argTypes := #[27, 4, 9] }, _, _, _, none⟩) rfl (fun K hK => ?_) ?_
        · go_simp
          refine (grows_any vr vl (tabG true 15) true (lett k) _ (OK.out.v.keep0 hHeld) FT.out (lett_size k)).mono ?_
          intro r x1 hr
          obtain ⟨vr1, vl1, rfl, o1, f1⟩ := hr.is GR.out
          have hx := hHeld.trans f1 (by simp)
          refine hK.out _ _ ?_ (fun hNext => ?_)
          · exact hHeld.trans f1 (by simp)
          clear hK K hHeld
          have hHeld := hNext
          clear hNext
          try simp only [Act.put, List.setIfInBounds_toArray, List.set_cons_zero, List.set_cons_succ]
          refine wpAnyH_take (i := 8) (oi := ⟨some 38, .move (.tmp 46), _, _, _, none⟩) (v := ?_) rfl (by kernel_rfl) (by kernel_rfl) (by kernel_rfl) (fun _ _ _ h => h) (Or.inl ⟨by rfl, ?_⟩) hHeld ?_
          rotate_left
          focus (intro z hSw; clear hSw; go_simp; try with_reducible rfl)
          try simp only [Act.put, List.setIfInBounds_toArray, List.set_cons_zero, List.set_cons_succ]
          refine wpAnyH_take (i := 9) (oi := ⟨some 47, .extract (.tmp 38) 0, _, _, _, none⟩) (v := ?_) rfl (by kernel_rfl) (by kernel_rfl) (by kernel_rfl) (fun _ _ _ h => h) (Or.inl ⟨by rfl, ?_⟩) hHeld ?_
          rotate_left
          focus (intro z hSw; clear hSw; go_simp; try with_reducible rfl)
          try simp only [Act.put, List.setIfInBounds_toArray, List.set_cons_zero, List.set_cons_succ]
          refine wpAnyH_take (i := 10) (oi := ⟨some 48, .extract (.tmp 38) 1, _, _, _, none⟩) (v := ?_) rfl (by kernel_rfl) (by kernel_rfl) (by kernel_rfl) (fun _ _ _ h => h) (Or.inl ⟨by rfl, ?_⟩) hHeld ?_
          rotate_left
          focus (intro z hSw; clear hSw; go_simp; try with_reducible rfl)
          try simp only [Act.put, List.setIfInBounds_toArray, List.set_cons_zero, List.set_cons_succ]
          refine wpAnyH_ready (rs := [11]) (by kernel_rfl) (by simp) ?_
          refine AllReadyH.cons (o := ⟨some 10, .alloc 27, _, _, _, none⟩) rfl (fun K hK => ?_) ?_
          · refine step_alloc27 rfl rfl ?_
            intro g3 w9 m9 f9 n9
            refine hK.out _ _ ?_ (fun hNext => ?_)
            · exact hHeld.trans f9 (by simp)
            clear hK K hHeld
            have hHeld := hNext
            clear hNext
            try simp only [Act.put, List.setIfInBounds_toArray, List.set_cons_zero, List.set_cons_succ]
            refine wpAnyH_ready (rs := [12]) (by kernel_rfl) (by simp) ?_
            refine AllReadyH.cons (o := ⟨none, .store 27 (.tmp 10) (.tmp 47), _, _, _, none⟩) rfl (fun K hK => ?_) ?_
            · have m10 := m9
              have gz : wr.heap.size ≤ g3 := Nat.le_trans hx.size n9
              refine step_store27 rfl (.tmp 10) (.tmp 47) rfl o1.ones.1 o1.ones.2 m10 rfl rfl (fun V b10 f10 => ?_)
              have oC := (o1.keep ((f9.mono (by simp)).trans f10 (fun i hi => .inl hi)) (fun i hi => .inr (by simp at hi; omega))).base (w0 := w2) (Nat.le_trans SR.out (by simp))
              refine hK.out _ _ ?_ (fun hNext => ?_)
              · exact hHeld.trans f10 (fun i hi => .inr (by simp at hi; omega))
              clear hK K hHeld
              have hHeld := hNext
              clear hNext
              try simp only [Act.put, List.setIfInBounds_toArray, List.set_cons_zero, List.set_cons_succ]
              refine wpAnyH_take (i := 13) (oi := ⟨some 11, .assign (.tmp 48), _, _, _, none⟩) (v := ?_) rfl (by kernel_rfl) (by kernel_rfl) (by kernel_rfl) (fun _ _ _ h => h) (Or.inl ⟨by rfl, ?_⟩) hHeld ?_
              rotate_left
              focus (intro z hSw; clear hSw; go_simp; try with_reducible rfl)
              try simp only [Act.put, List.setIfInBounds_toArray, List.set_cons_zero, List.set_cons_succ]
              refine wpAnyH_done (by kernel_rfl) ?_ _
              have B10 := Lib.hid b10
              have OV := Lib.hid oC
              have BV := Lib.hid (BK.out.keep0 hHeld)
              have FV := Lib.hid hHeld
              clear b10 oC hHeld
              go_wp2_with (fail)
              go_roundw
              case rel =>
                refine ⟨k + 1, vr, vl, by omega, by go_num, ?_, ?_, FR.out.trans FV.out (by simp), Nat.le_trans SR.out FV.out.size⟩
                · rw [show min (k + 1) 15 = 15 from by omega]; exact BV.out
                · rw [show min (k + 1) 15 = 15 from by omega]; exact OK.out.keep0 FV.out
              case measure => simp [intOf]; omega
            exact AllReadyH.nil
          exact AllReadyH.nil
        refine AllReadyH.cons (o := ⟨some 10, .alloc 27, _, _, _, none⟩) rfl (fun K hK => ?_) ?_
        · refine step_alloc27 rfl rfl ?_
          intro g3 w9 m9 f9 n9
          refine hK.out _ _ ?_ (fun hNext => ?_)
          · exact hHeld.trans f9 (by simp)
          clear hK K hHeld
          have hHeld := hNext
          clear hNext
          try simp only [Act.put, List.setIfInBounds_toArray, List.set_cons_zero, List.set_cons_succ]
          refine wpAnyH_ready (rs := [7]) (by kernel_rfl) (by simp) ?_
          refine AllReadyH.cons (o := ⟨some 46, .call { callee := .value (.func 58), args := #[.tmp 39, .tmp 40, .tmp 45], argTypes := #[27, 4, 9] }, _, _, _, none⟩) rfl (fun K hK => ?_) ?_
          · go_simp
            refine (grows_any vr vl (tabG true 15) true (lett k) _ (OK.out.v.keep0 hHeld) FT.out (lett_size k)).mono ?_
            intro r x1 hr
            obtain ⟨vr1, vl1, rfl, o1, f1⟩ := hr.is GR.out
            have hx := hHeld.trans f1 (by simp)
            refine hK.out _ _ ?_ (fun hNext => ?_)
            · exact hHeld.trans f1 (by simp)
            clear hK K hHeld
            have hHeld := hNext
            clear hNext
            try simp only [Act.put, List.setIfInBounds_toArray, List.set_cons_zero, List.set_cons_succ]
            refine wpAnyH_take (i := 8) (oi := ⟨some 38, .move (.tmp 46), _, _, _, none⟩) (v := ?_) rfl (by kernel_rfl) (by kernel_rfl) (by kernel_rfl) (fun _ _ _ h => h) (Or.inl ⟨by rfl, ?_⟩) hHeld ?_
            rotate_left
            focus (intro z hSw; clear hSw; go_simp; try with_reducible rfl)
            try simp only [Act.put, List.setIfInBounds_toArray, List.set_cons_zero, List.set_cons_succ]
            refine wpAnyH_take (i := 9) (oi := ⟨some 47, .extract (.tmp 38) 0, _, _, _, none⟩) (v := ?_) rfl (by kernel_rfl) (by kernel_rfl) (by kernel_rfl) (fun _ _ _ h => h) (Or.inl ⟨by rfl, ?_⟩) hHeld ?_
            rotate_left
            focus (intro z hSw; clear hSw; go_simp; try with_reducible rfl)
            try simp only [Act.put, List.setIfInBounds_toArray, List.set_cons_zero, List.set_cons_succ]
            refine wpAnyH_take (i := 10) (oi := ⟨some 48, .extract (.tmp 38) 1, _, _, _, none⟩) (v := ?_) rfl (by kernel_rfl) (by kernel_rfl) (by kernel_rfl) (fun _ _ _ h => h) (Or.inl ⟨by rfl, ?_⟩) hHeld ?_
            rotate_left
            focus (intro z hSw; clear hSw; go_simp; try with_reducible rfl)
            try simp only [Act.put, List.setIfInBounds_toArray, List.set_cons_zero, List.set_cons_succ]
            refine wpAnyH_ready (rs := [12]) (by kernel_rfl) (by simp) ?_
            refine AllReadyH.cons (o := ⟨none, .store 27 (.tmp 10) (.tmp 47), _, _, _, none⟩) rfl (fun K hK => ?_) ?_
            · have m10 := m9.keep0 f1
              have gz : wr.heap.size ≤ g3 := by simpa using n9
              refine step_store27 rfl (.tmp 10) (.tmp 47) rfl o1.ones.1 o1.ones.2 m10 rfl rfl (fun V b10 f10 => ?_)
              have oC := (o1.keep f10 (fun i hi => .inl (by simp at hi; have := m9.lt; omega))).base (w0 := w2) (Nat.le_trans SR.out (Nat.le_trans (by simp) f9.size))
              refine hK.out _ _ ?_ (fun hNext => ?_)
              · exact hHeld.trans f10 (fun i hi => .inr (by simp at hi; omega))
              clear hK K hHeld
              have hHeld := hNext
              clear hNext
              try simp only [Act.put, List.setIfInBounds_toArray, List.set_cons_zero, List.set_cons_succ]
              refine wpAnyH_take (i := 13) (oi := ⟨some 11, .assign (.tmp 48), _, _, _, none⟩) (v := ?_) rfl (by kernel_rfl) (by kernel_rfl) (by kernel_rfl) (fun _ _ _ h => h) (Or.inl ⟨by rfl, ?_⟩) hHeld ?_
              rotate_left
              focus (intro z hSw; clear hSw; go_simp; try with_reducible rfl)
              try simp only [Act.put, List.setIfInBounds_toArray, List.set_cons_zero, List.set_cons_succ]
              refine wpAnyH_done (by kernel_rfl) ?_ _
              have B10 := Lib.hid b10
              have OV := Lib.hid oC
              have BV := Lib.hid (BK.out.keep0 hHeld)
              have FV := Lib.hid hHeld
              clear b10 oC hHeld
              go_wp2_with (fail)
              go_roundw
              case rel =>
                refine ⟨k + 1, vr, vl, by omega, by go_num, ?_, ?_, FR.out.trans FV.out (by simp), Nat.le_trans SR.out FV.out.size⟩
                · rw [show min (k + 1) 15 = 15 from by omega]; exact BV.out
                · rw [show min (k + 1) 15 = 15 from by omega]; exact OK.out.keep0 FV.out
              case measure => simp [intOf]; omega
            exact AllReadyH.nil
          exact AllReadyH.nil
        exact AllReadyH.nil
    · have hk9 : ¬ (k : Int) < 17 := by omega
      rw [show min k 15 = 15 from by omega] at hB hO
      have B0 := Lib.hid hB
      have O0 := Lib.hid hO
      clear hB hO hk
      go_upto_region 15 with (go_at_call 37; refine (Pick15 n _).mono ?_; rintro r wr ⟨j, hj, rfl, rfl⟩)
      have hj0 : (0 : Int) ≤ (j : Int) := by omega
      have hj1 : (j : Int) ≤ (j : Int) + 1 := by omega
      have hj2 : (j : Int) + 1 ≤ 21 := by omega
      have hwj : IntKind.i64.wrap ((j : Int) + 1) = (j : Int) + 1 := IntWalk.i64_in _ (by omega)
      go_upto_region 16 with (fail)
      rw [show ({ data := #[97, 98, 99, 100, 101, 102, 103, 104, 105, 106, 107, 108, 109, 110, 111, 112, 113, 114, 115, 116, 117] } : ByteArray).extract j (j + 1) = lett j from rfl]
      have hz1 : ¬ 9223372036854775807 < ({ data := #[118, 64] } : ByteArray).size + (lett j).size := by have : ({ data := #[118, 64] } : ByteArray).size = 2 := rfl; have := lett_size j; omega
      have hz2 : ¬ 9223372036854775807 < 2 + (lett j).size := by have := lett_size j; omega
      have DR := Lib.hid (show Calls Tryz.prog 59 #[tv vr vl (tabG true 15), .string ({ data := #[118, 64] } ++ lett j)] wr (TellE (dropT (tabG true 15) (nmG true j)) wr) from Drop_any vr vl (tabG true 15) (nmG true j) wr O0.out.v (fit_of (kmT 15 (by omega))) (nmG_size true j))
      have KD := Lib.hid (kdT j hj)
      have KU := Lib.hid (kuT j hj)
      clear hj0 hj1 hj2 hwj hj hk9
      go_upto_region 18 with (fail)
      clear hz1 hz2
      generalize lett j = lj at *
      generalize dropT (tabG true 15) (nmG true j) = dr at *
      have F0 := Lib.hid (Frm.refl [] wr)
      go_upto_region 19 with (first
        | ((with_reducible (show wpList _ _ _ (Oper.mk _ (Op.load 27 _) _ _ _ _ :: _) _ _)); refine wpList_load_g (by rfl) 27 _ rfl _ rfl (B0.out).gets.all ?_)
        | (go_at_call 59; refine (DR.out).mono ?_; intro r x1 hr; obtain ⟨vr1, vl1, rfl, o1, f1⟩ := hr.is KD.out.1)
        | ((with_reducible (show wpList _ _ _ (Oper.mk _ (Op.alloc 27) _ _ _ _ :: _) _ _)); refine wpList_val rfl (exec_alloc27 rfl _) ?_)
        | ((with_reducible (show wpList _ _ _ (Oper.mk _ (Op.store 27 _ _) _ _ _ _ :: _) _ _)); refine wpList_store27 rfl (.tmp 13) (.tmp 79) rfl o1.ones.1 o1.ones.2 (TB.new x1 nilS nilS zeroT) rfl rfl ?_; intro w1 b2 f2))
      have f12 : Frm [] x1 w1 := ((Frm.refl [] x1).alloc _).trans f2 (fun i hi => .inr (by simp at hi; omega))
      have B1 := Lib.hid b2
      have O1 := Lib.hid (o1.keep0 f12)
      have F1 := Lib.hid (show Frm [] wr w1 from (F0.out.trans f1 (by simp)).trans f12 (by simp))
      have G1 := Lib.hid (show Frm [] wr w1 from f1.trans f12 (by simp))
      clear b2 f2 o1 f1 f12 hr
      generalize x1.heap.size = g1 at *
      go_upto_region 20 with (first
        | ((with_reducible (show wpList _ _ _ (Oper.mk _ (Op.load 27 _) _ _ _ _ :: _) _ _)); refine wpList_load_g (by rfl) 27 _ rfl _ rfl (B1.out).gets.all ?_)
        | (go_at_call 58; refine (grows_any vr1 vl1 (drpG true j) true { data := #[117] } w1 O1.out.v (fit_of KD.out.2) (by decide)).mono ?_; intro r x2 hr; obtain ⟨vr2, vl2, rfl, o1, f1⟩ := hr.is KU.out.1)
        | ((with_reducible (show wpList _ _ _ (Oper.mk _ (Op.alloc 27) _ _ _ _ :: _) _ _)); refine wpList_val rfl (exec_alloc27 rfl _) ?_)
        | ((with_reducible (show wpList _ _ _ (Oper.mk _ (Op.store 27 _ _) _ _ _ _ :: _) _ _)); refine wpList_store27 rfl (.tmp 15) (.tmp 85) rfl o1.ones.1 o1.ones.2 (TB.new x2 nilS nilS zeroT) rfl rfl ?_; intro w2 b2 f2))
      have f12 : Frm [] x2 w2 := ((Frm.refl [] x2).alloc _).trans f2 (fun i hi => .inr (by simp at hi; omega))
      have B2 := Lib.hid b2
      have O2 := Lib.hid (o1.keep0 f12)
      have F2 := Lib.hid (show Frm [] wr w2 from (F1.out.trans f1 (by simp)).trans f12 (by simp))
      have G2 := Lib.hid (show Frm [] w1 w2 from f1.trans f12 (by simp))
      clear b2 f2 o1 f1 f12 hr
      generalize x2.heap.size = g2 at *
      go_upto_region 21 with (first
        | ((with_reducible (show wpList _ _ _ (Oper.mk _ (Op.load 27 _) _ _ _ _ :: _) _ _)); refine wpList_load_g (by rfl) 27 _ rfl _ rfl (B2.out).gets.all ?_)
        | (go_at_call 58; refine (grows_any vr2 vl2 (ugG true j) true { data := #[122] } w2 O2.out.v (fit_of KU.out.2.1) (by decide)).mono ?_; intro r x3 hr; obtain ⟨vr3, vl3, rfl, o1, f1⟩ := hr.is KU.out.2.2.2)
        | ((with_reducible (show wpList _ _ _ (Oper.mk _ (Op.alloc 27) _ _ _ _ :: _) _ _)); refine wpList_val rfl (exec_alloc27 rfl _) ?_)
        | ((with_reducible (show wpList _ _ _ (Oper.mk _ (Op.store 27 _ _) _ _ _ _ :: _) _ _)); refine wpList_store27 rfl (.tmp 17) (.tmp 91) rfl o1.ones.1 o1.ones.2 (TB.new x3 nilS nilS zeroT) rfl rfl ?_; intro w3 b2 f2))
      have f12 : Frm [] x3 w3 := ((Frm.refl [] x3).alloc _).trans f2 (fun i hi => .inr (by simp at hi; omega))
      have B3 := Lib.hid b2
      have O3 := Lib.hid (o1.keep0 f12)
      have F3 := Lib.hid (show Frm [] wr w3 from (F2.out.trans f1 (by simp)).trans f12 (by simp))
      have G3 := Lib.hid (show Frm [] w2 w3 from f1.trans f12 (by simp))
      clear b2 f2 o1 f1 f12 hr
      generalize x3.heap.size = g3 at *
      have FL := Lib.hid (F3.out)
      have HL0 := Lib.hid (show (tabG true 15).recs.length = 16 by kernel_rfl)
      have HL2 := Lib.hid KU.out.2.2.1
      have BF0 := Lib.hid (B0.out.keep0 F3.out)
      have BF2 := Lib.hid (B2.out.keep0 G3.out)
      obtain ⟨a0, c0, e0⟩ := O0.out.v.1.form
      obtain ⟨a2, c2, e2⟩ := O2.out.v.1.form
      have HQ0 := Lib.hid (fun z (f : Frm [] w3 z) => show z.cell? ⟨g, 1, none⟩ = some (.slice a0 16 c0) from by have := (BF0.out.keep0 f).gets.recs; rw [e0, HL0.out] at this; exact this)
      have HQ2 := Lib.hid (fun z (f : Frm [] w3 z) => show z.cell? ⟨g2, 1, none⟩ = some (.slice a2 16 c2) from by have := (BF2.out.keep0 f).gets.recs; rw [e2, HL2.out] at this; exact this)
      clear e0 e2
      go_wp2_with (go_at_call 39; refine (awakeD_any w3).mono ?_; rintro r w5 ⟨rfl, f5⟩; have q0 := HQ0.out _ f5; have q2 := HQ2.out _ f5)
      go_ret
      exact ⟨rfl, (FR.out.trans FL.out (by simp)).trans f5 (by simp)⟩
theorem fullD_any (b : Bool) (n : Int) (w : World) : Calls Tryz.prog 13 #[.bool b, .int .i64 n] w (YesD w) := by
  cases b
  · exact fullD_false n w
  · exact fullD_true n w
end Go.Proofs.YtljhanhipmnioaaGreat.Rd
