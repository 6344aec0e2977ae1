/-
  Contracts of the document's reader's Rest, Left, End, and of its Open; no conditions but those that each theorem names.
-/
import Derived.Test.YtappmjophnhdaaaCG
namespace Go.Proofs.Ytappmjophnhdaaa
open Go.RowKit
set_option linter.unusedVariables false
set_option linter.unusedSimpArgs false

def VRestRel (w : World) (b : Nat) (v : Value) (l sp : List UInt8) (p : Nat) (fe fa : Int) (c : Value) (wr : World) : Prop :=
  ∃ k : Nat, ∃ fe' fa', p ≤ k ∧ k ≤ l.length ∧ c = .int .i64 k ∧ RvTo w b v l sp (p, fe', fa') wr ∧
    ((fe' = fe ∧ fa' = fa ∧ (fe ≠ 0 ∨ ∀ j, p ≤ j → j < k → l[j]? = some 0)) ∨ (fe = 0 ∧ fe' = 4 ∧ fa' = (p : Int) + firstNot (l.drop p) ∧ 0 ≤ firstNot (l.drop p)))
set_option maxRecDepth 100000 in
set_option maxHeartbeats 2000000 in
theorem VRest_any (b : Nat) (v : Value) (l sp : List UInt8) (s : Nat × Int × Int) (w : World) (hR : Rv w b v l sp s) (hp : s.1 ≤ l.length) (hl : l.length ≤ 1000000000) :
    Calls Try.prog 53 #[.pointer (some ⟨b, 0, none⟩)] w fun r w' => r = .returned (.tuple #[]) ∧ RvTo w b v l sp (rRest l s) w' := by
  obtain ⟨p, fe, fa⟩ := s
  simp only at hp
  obtain ⟨c0, c1, c2, c3, z⟩ := hR.cells
  obtain ⟨a, cap, rfl, hc1, hc2⟩ := hR.2.1.form
  have HR := Lib.hid hR
  clear hR z
  go_enter Try.func53, Try.ntmps53
  go_wp2_with fail
  go_loopw [2] (VRestRel w b (.slice a l.length cap) l sp p fe fa) (fun c _ => l.length - (intOf c).toNat)
  case atStart => exact ⟨p, fe, fa, Nat.le_refl _, hp, rfl, RvTo.same HR.out (Frm.refl _ _), .inl ⟨rfl, rfl, .inr fun j h1 h2 => by omega⟩⟩
  case round =>
    obtain ⟨k, fe', fa', hk1, hk2, rfl, hT, hS⟩ := hrel
    have R1 := hT.1
    obtain ⟨q0, q1, q2, q3, qz⟩ := R1.cells
    have HT := Lib.hid hT
    have HS := Lib.hid hS
    clear hT hS c0 c1 c2 c3
    by_cases hkl : k < l.length
    · obtain ⟨b0, off, rfl⟩ : ∃ b0 off, a = some ⟨b0, off, none⟩ := by
        rcases R1.2.1.cases with ⟨h, h2⟩ | ⟨_, _, h⟩ | ⟨b0, off, cap, h, _⟩
        · rw [h2] at hkl; simp at hkl
        · rw [h] at hkl; simp at hkl
        · cases h; exact ⟨b0, off, rfl⟩
      have hc := R1.2.1.cellAt k hkl
      have HK := Lib.hid hkl
      generalize hy : l[k] = y at *
      have HY := Lib.hid hy
      clear hy
      by_cases hy0 : y = 0
      · have hb0 : ((y.toNat : Int) != 0) = false := by rw [bne_cast]; simp [hy0]
        have HY0 := Lib.hid hy0
        clear hy0
        go_wp2_with fail
        refine ⟨⟨k + 1, fe', fa', by omega, by omega, by go_num, HT.out, ?_⟩, by simp [intOf]; omega⟩
        rcases HS.out with ⟨h1, h2, h3⟩ | h
        · refine .inl ⟨h1, h2, ?_⟩
          rcases h3 with h3 | h3
          · exact .inl h3
          · refine .inr fun j g1 g2 => ?_
            rcases Nat.lt_or_ge j k with h | h
            · exact h3 j g1 h
            · obtain rfl : j = k := by omega
              rw [List.getElem?_eq_getElem HK.out]
              exact congrArg some (HY.out.trans HY0.out)
        · exact .inr h
      · have hb0 : ((y.toNat : Int) != 0) = true := by rw [bne_cast]; simp [hy0]
        have HY0 := Lib.hid hy0
        clear hy0
        go_wp2_with fail
        refine (vfail_any b _ l sp (p, fe', fa') 4 k _ R1).mono ?_
        rintro r w2 ⟨rfl, h2⟩
        have H2 := Lib.hid h2
        clear h2
        go_wp2_with fail
        refine ⟨⟨k + 1, (failS (p, fe', fa') 4 k).2.1, (failS (p, fe', fa') 4 k).2.2, by omega, by omega, by go_num, ?_, ?_⟩, by simp [intOf]; omega⟩
        · have := HT.out.trans H2.out
          have e : failS (p, fe', fa') 4 k = (p, (failS (p, fe', fa') 4 k).2.1, (failS (p, fe', fa') 4 k).2.2) := by unfold failS; split <;> rfl
          rw [← e]; exact this
        · rcases HS.out with ⟨h1, h2, h3⟩ | ⟨h1, h2, h3, h4⟩
          · by_cases hfe : fe = 0
            · have h3 := h3.resolve_left (fun h => h hfe)
              have hlen : k - p < (l.drop p).length := by have := HK.out; simp; omega
              have hfn : firstNot (l.drop p) = (k : Int) - p := by
                have := firstNot_some (l := l.drop p) (k := k - p) hlen (fun j hj => by rw [List.getElem?_drop]; exact h3 (p + j) (by omega) (by omega))
                  (by rw [List.getElem_drop]
                      have hh := HY.out
                      have : l[p + (k - p)]'(by have := HK.out; omega) = y := by rw [← hh]; congr 1; omega
                      rw [this]; exact HY0.out)
                rw [this]; omega
              refine .inr ⟨hfe, ?_, ?_, by rw [hfn]; omega⟩
              · simp [failS, h1, hfe]
              · rw [hfn]; simp [failS, h1, hfe]; omega
            · refine .inl ⟨?_, ?_, .inl hfe⟩
              · simp [failS, h1, hfe]
              · simp [failS, h1, hfe, h2]
          · refine .inr ⟨h1, ?_, ?_, h4⟩
            · simp [failS, h2]
            · simp [failS, h2, h3]
    · obtain rfl : k = l.length := by omega
      rcases HS.out with ⟨h1, h2, h3⟩ | ⟨h1, h2, h3, h4⟩
      · subst h1 h2
        by_cases hfe : fe' = 0
        · have h3 := h3.resolve_left (fun h => h hfe)
          subst hfe
          have h5 := h3.resolve_left (fun h => h rfl)
          have hfn : firstNot (l.drop p) = -1 := firstNot_none fun j hj => by rw [List.getElem?_drop]; exact h5 (p + j) (by omega) (by simp at hj; omega)
          have hr : rRest l (p, 0, fa') = (l.length, 0, fa') := by simp [rRest, hfn]
          have HRR := Lib.hid hr
          clear hr hfn h3 h5
          go_wp2_with fail
          go_end0
          rw [HRR.out]
          have hP := R1.place l.length (.int .i64 l.length) rfl
          exact ⟨rfl, HT.out.trans hP⟩
        · have hr : rRest l (p, fe', fa') = (p, fe', fa') := by simp [rRest, hfe]
          have HRR := Lib.hid hr
          have hq : (fe' == 0) = false := by simpa using hfe
          clear hr hfe h3
          go_wp2_with fail
          go_end0
          rw [HRR.out]
          exact ⟨rfl, HT.out⟩
      · subst h1 h2 h3
        have hr : rRest l (p, 0, fa) = (p, 4, (p : Int) + firstNot (l.drop p)) := by unfold rRest; rw [if_pos rfl, if_neg (by simp; omega)]
        have HRR := Lib.hid hr
        clear hr h4
        go_wp2_with fail
        go_end0
        rw [HRR.out]
        exact ⟨rfl, HT.out⟩
set_option maxHeartbeats 1000000 in
theorem VLeft_any (b : Nat) (v : Value) (l sp : List UInt8) (p : Nat) (fe fa : Int) (w : World) (hR : Rv w b v l sp (p, fe, fa)) (hp : p ≤ l.length) (hl : l.length ≤ 1000000000) :
    Calls Try.prog 25 #[.pointer (some ⟨b, 0, none⟩)] w fun r w' => r = .returned (.int .i64 ((l.length : Int) - p)) ∧ ∃ n, w' = w.drewN n := by
  obtain ⟨c0, c1, c2, c3, z⟩ := hR.cells
  obtain ⟨a, cap, rfl, hc1, hc2⟩ := hR.2.1.form
  have hin : IntKind.i64.wrap ((l.length : Int) - p) = (l.length : Int) - p := IntWalk.i64_in _ (by omega)
  have HI := Lib.hid hin
  clear hin hp hc1 hc2 hR z
  go_enter Try.func25, Try.ntmps25
  go_wp2_with fail
  have hin := HI.out
  go_quiet (fail)
  go_wp2
  go_ret
  exact ⟨rfl, _, rfl⟩
set_option maxHeartbeats 1000000 in
theorem VEnd_any (b : Nat) (v : Value) (l sp : List UInt8) (p : Nat) (fe fa : Int) (w : World) (hR : Rv w b v l sp (p, fe, fa)) (hp : p ≤ l.length) (hl : l.length ≤ 1000000000) (hf : fe = 0 → fa = 0) :
    Calls Try.prog 28 #[.pointer (some ⟨b, 0, none⟩)] w fun r w' => r = .returned (flt (rEnd l (p, fe, fa)).1 (rEnd l (p, fe, fa)).2) ∧ Frm [] w w' := by
  obtain ⟨c0, c1, c2, c3, z⟩ := hR.cells
  obtain ⟨a, cap, rfl, hc1, hc2⟩ := hR.2.1.form
  have hblt := lt_heap hR.1
  have F : ∀ n u u', Frm [] w ((((w.alloc (.cells #[.int .i64 0, .int .i64 0] 51)).drewN n).setCell ⟨w.heap.size, 0, none⟩ u).setCell ⟨w.heap.size, 1, none⟩ u') := fun n u u' => (((((Frm.refl [] w).alloc _).drewN n).setCell _ _ (.inr (Nat.le_refl _))).setCell _ _ (.inr (Nat.le_refl _)))
  have HF := Lib.hid F
  clear hR z F
  by_cases hfe : fe = 0
  · have hfa := hf hfe
    subst hfe hfa
    clear hf
    by_cases hpl : p < l.length
    · have hr : rEnd l (p, 0, 0) = (4, (p : Int)) := by simp [rEnd, hpl]
      rw [hr]
      have hd : decide ((p : Int) < (l.length : Int)) = true := by simp; omega
      have hd2 : decide (p < l.length) = true := by simp; omega
      clear hr hpl
      go_enter Try.func28, Try.ntmps28
      go_wp2_with fail
      go_quiet (fail)
      go_wp2_with fail
      exact bodyPost_ret (v := flt 4 p) (by simp [results, Try.results28, go_sem, flt]) rfl ⟨rfl, HF.out _ _ _⟩
    · have hr : rEnd l (p, 0, 0) = (0, 0) := by simp [rEnd, hpl]
      rw [hr]
      have hd : decide ((p : Int) < (l.length : Int)) = false := by simp; omega
      have hd2 : decide (p < l.length) = false := by simp; omega
      clear hr hpl
      go_enter Try.func28, Try.ntmps28
      go_wp2_with fail
      go_quiet (fail)
      go_wp2_with fail
      exact bodyPost_ret (v := flt 0 0) (by simp [results, Try.results28, go_sem, flt]) rfl ⟨rfl, HF.out _ _ _⟩
  · have hr : rEnd l (p, fe, fa) = (fe, fa) := by simp [rEnd, hfe]
    rw [hr]
    have hd : (fe == 0) = false := by simpa using hfe
    clear hr hfe hf
    go_enter Try.func28, Try.ntmps28
    go_wp2_with fail
    go_quiet (fail)
    go_wp2_with fail
    exact bodyPost_ret (v := flt fe fa) (by simp [results, Try.results28, go_sem, flt]) rfl ⟨rfl, HF.out _ _ _⟩
def VOpened (w : World) (v : Value) (l sp : List UInt8) (r : Ending) (w' : World) : Prop := r = .returned (.pointer (some ⟨w.heap.size, 0, none⟩)) ∧ Rv w' w.heap.size v l sp (0, 0, 0) ∧ Frm [] w w'
theorem VOpen_any (v : Value) (l sp : List UInt8) (w : World) (hS : SlB w v l sp) (hB : ∀ k ∈ blkR v, k < w.heap.size) :
    Calls Try.prog 21 #[v] w fun r w' => VOpened w v l sp r w' := by
  obtain ⟨a0, cap0, rfl, _, _⟩ := hS.form
  have HS := Lib.hid hS
  have HB := Lib.hid hB
  clear hS hB
  go_enter Try.func21, Try.ntmps21
  go_wp2_with fail
  go_ret
  exact ⟨rfl, ⟨heap_alloc_new _ _, HS.out.keep ((Frm.refl [] _).alloc _) (by simp), fun hm => by have := HB.out _ hm; omega⟩, (Frm.refl [] _).alloc _⟩
end Go.Proofs.Ytappmjophnhdaaa
