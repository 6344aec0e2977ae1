/-
  Contract of Used. No conditions but those that each theorem names.
-/
import Derived.Test.YtjdejhgfkjeeiaaGreatDoorGB
namespace Go.Proofs.YtjdejhgfkjeeiaaGreatDoor
open Go.RowKit
set_option linter.unusedVariables false
set_option linter.unusedSimpArgs false
set_option maxRecDepth 100000
attribute [local go_sem] Oper.semAt_some

open Pt (Pt may enc readPt readE zeroPt pc pv PtV SlA OwnA)
open Kr (OwnE SlE Enco RowTys)
open Hs (Idx wpIn_round_region inBlock_lets ownPostK_lets grownBy_drew)
def usdJ (l : List (List UInt8)) (js : List Nat) : Nat := (js.filter (fun i => usedB (rowAt l i))).length
theorem usdJ_yes {l : List (List UInt8)} {js : List Nat} {j : Nat} (h : usedB (rowAt l j) = true) : usdJ l (js ++ [j]) = usdJ l js + 1 := by simp [usdJ, h]
theorem usdJ_no {l : List (List UInt8)} {js : List Nat} {j : Nat} (h : usedB (rowAt l j) = false) : usdJ l (js ++ [j]) = usdJ l js := by simp [usdJ, h]
theorem usdJ_len (l : List (List UInt8)) (js : List Nat) : usdJ l js ≤ js.length := List.length_filter_le _ _
def UI (wR : World) (L4 : Nat) (l : List (List UInt8)) (pre : List (Idx 4)) (W : World) : Prop := W.heap[L4]? = some (.cells #[.int .i64 (usdJ l (pre.map (·.1)))] 3 (0, 0)) ∧ Frm [L4] wR W
theorem UI_own (wR : World) (L4 : Nat) (l : List (List UInt8)) (h4 : L4 < wR.heap.size) : OwnFrom wR.heap.size (UI wR L4 l) := by
  rintro pre W W' row ⟨h1, h3⟩ hg hr
  have hf : Frm row.toList W W' := Frm.of_grown hg (fun k hk => by simp [hk])
  refine ⟨hf.heap h1 (fun hm => ?_), h3.trans hf (fun i hi => .inr (hr i (by simpa using hi)).1)⟩
  have := (hr L4 (by simpa using hm)).1
  omega
theorem usedB_no {b : List UInt8} (h : ∀ j (hj : j < b.length), b[j] = 0) : usedB b = false := by
  unfold usedB
  rw [List.any_eq_false]
  intro x hx
  obtain ⟨i, hi, rfl⟩ := List.getElem_of_mem hx
  simp [h i hi]
theorem usedB_yes {b : List UInt8} (j : Nat) (hj : j < b.length) (h : b[j] ≠ 0) : usedB b = true := by
  unfold usedB
  rw [List.any_eq_true]
  exact ⟨b[j], List.getElem_mem _, by simpa using h⟩
theorem slb_at {w : World} {a : Option Addr} {n cap : Nat} {b sp : List UInt8} (h : SlB w (.slice a n cap) b sp) (hp : 0 < b.length) : ∃ bb off, a = some ⟨bb, off, none⟩ := by
  obtain ⟨h1, ⟨h2, h3, h4⟩ | ⟨a', h2, h3, h4⟩ | ⟨b', off', cap', h2, h3, h4, h5, h6⟩⟩ := h
  · omega
  · omega
  · cases h2; exact ⟨_, _, rfl⟩
def UsedP (l : List (List UInt8)) (w : World) (r : Ending) (w' : World) : Prop := r = .returned (.tuple #[.int .i64 (usedN l), .int .i64 (foundE l)]) ∧ Frm [] w w'
set_option maxHeartbeats 4000000 in
theorem Used_any (v : Value) (l : List (List UInt8)) (w : World) (h : Ls w v l) (hb : ∀ b ∈ l, b.length ≤ 1000000) : Calls Tryz.prog 40 #[v] w (UsedP l w) := by
  obtain ⟨a, cap, rfl⟩ := h.form
  have H := Lib.hid h
  have HB := Lib.hid hb
  clear h hb
  refine (callsIn_wide (n := 7)).1 ?_
  refine callsIn_of_wp_marks Tryz.func40 rfl trivial ?_ rfl
  simp only [Tryz.ntmps40, List.size_toArray, List.length_cons, List.length_nil, Nat.reduceAdd, Nat.reduceSub, Array.replicate_succ, Array.replicate_zero, List.push_toArray, List.append_toArray, List.nil_append, List.cons_append]
  refine wpIn_wide.2 ?_
  by_cases hl4 : l.length = 4
  · have h4 := H.out.form
    rw [hl4] at h4 ⊢
    obtain ⟨b, off, cp, e⟩ := H.out.at (by omega)
    injection e with e1 e2 e3
    subst e1; subst e3
    go_wp2_with (first | go_step3 | (go_at_call 83; refine (All_any _ _ rfl).mono ?_; rintro r w2 ⟨rfl, rfl⟩))
    have hcb : ∀ i, i < 4 → ∃ c s, w.cell? ⟨b, off + i, none⟩ = some c ∧ SlB w c (rowAt l i) s ∧ (rowAt l i).length ≤ 1000000 := fun i hi => by
      obtain ⟨c, s, h1, h2⟩ := H.out.cell i (by omega)
      rw [rowAt_eq (by omega)]
      exact ⟨c, s, h1, h2, HB.out _ (List.getElem_mem _)⟩
    have hbw : b < w.heap.size := by obtain ⟨c, s, h1, _⟩ := hcb 0 (by omega); exact World.block_lt_of_cell? _ _ h1
    have HCB := Lib.hid hcb
    have f1 : Frm [] w ((w.alloc (.cells #[.int .i64 0] 3)).alloc (.cells #[.slice (some ⟨b, off, none⟩) 4 cap] 52)) := ((Frm.refl [] w).alloc _).alloc _
    have hL4 : ((w.alloc (.cells #[.int .i64 0] 3)).alloc (.cells #[.slice (some ⟨b, off, none⟩) 4 cap] 52)).heap[w.heap.size]? = some (.cells #[.int .i64 0] 3 (0, 0)) := heap_alloc_lt (heap_alloc_new _ _)
    have hB1 : ((w.alloc (.cells #[.int .i64 0] 3)).alloc (.cells #[.slice (some ⟨b, off, none⟩) 4 cap] 52)).heap[w.heap.size + 1]? = some (.cells #[.slice (some ⟨b, off, none⟩) 4 cap] 52 (0, 0)) := heap_at (by simp)
    have hzR : w.heap.size + 2 = ((w.alloc (.cells #[.int .i64 0] 3)).alloc (.cells #[.slice (some ⟨b, off, none⟩) 4 cap] 52)).heap.size := by simp
    have FR := Lib.hid f1
    clear hcb f1
    generalize (w.alloc (.cells #[.int .i64 0] 3)).alloc (.cells #[.slice (some ⟨b, off, none⟩) 4 cap] 52) = wR at *
    obtain ⟨cs, hcs⟩ : ∃ cs : Idx 4 → Value, ∀ x : Idx 4, wR.cell? ⟨b, off + x.1, none⟩ = some (cs x) ∧ ∃ s, SlB w (cs x) (rowAt l x.1) s := by
      refine ⟨fun x => (wR.cell? ⟨b, off + x.1, none⟩).getD undef, fun x => ?_⟩
      obtain ⟨c, s, h1, h2, h3⟩ := HCB.out x.1 x.2
      have h4 := FR.out.cell h1 (by simp)
      exact ⟨by simp [h4], s, by simpa [h4] using h2⟩
    have HCS := Lib.hid hcs
    have hgw : w.heap.size = w.heap.size := rfl
    generalize hL : w.heap.size = L4 at *
    have HN := Lib.hid (show b < L4 ∧ L4 + 2 = wR.heap.size from ⟨hbw, hzR⟩)
    have HL4 := Lib.hid hL4
    have HLW := Lib.hid hL
    clear hL hgw
    refine (wpIn_wide (n := 7)).1 ?_
    refine wpIn_rangeFunc_ownF rfl (by decide) (gf := 123) (lb := #[.pointer (some ⟨L4 + 1, 0, none⟩)]) rfl trivial (Go.Proofs.enters_of Tryz.func123 (by kernel_rfl) rfl)
      (all_stops (7 - 1) (by decide) (L4 + 1) b off 4 cap cs (by decide) wR (by omega) (by omega) hB1 (fun x => (hcs x).1))
      ?kt ?kb (Below.refl _ _) (fun _ => rfl) (UI wR L4 l) (fun _ _ _ => False) (UI_own wR L4 l (by omega)) (fun _ _ _ _ _ hs _ _ => hs) ⟨hL4, Frm.refl _ _⟩
      (fun x : Idx 4 => { tmps := #[.slice (some ⟨b, off, none⟩) 4 cap, undef, .int .i64 0, .int .i64 0, .pointer (some ⟨L4, 0, none⟩), undef, cs x, undef, undef, .slice (some ⟨b, off, none⟩) 4 cap, .int .i64 4, .bool false, .slice (some ⟨b, off, none⟩) 4 cap, .func (.func 123) #[] #[.pointer (some ⟨L4 + 1, 0, none⟩)], .int .i64 x.1, cs x, undef, undef, undef, undef, undef, undef, undef, undef, undef, undef, undef, undef], defers := [] }) ?assign ?body ?done ?stop
    case kt => intro A B C h k; exact k.trans h
    case kb => intro W' l o o' hl h ho hw; exact World.putObj_heap_other (by have := HN.out; omega)
    case assign =>
      intro l x W' K hK
      gi_wp2
      exact hK
    case body =>
      rintro l' pre x W' ⟨h4, fr⟩ hlen
      have hx := HCS.out x
      obtain ⟨_, s8, hs8⟩ := hx
      obtain ⟨_, _, _, _, hlen8⟩ := HCB.out x.1 x.2
      have FW := Lib.hid (show Frm [] w W' from FR.out.trans fr (fun i hi => .inr (by simp at hi; have := HLW.out; omega)))
      have hS := hs8.keep FW.out (by simp)
      have HUY := Lib.hid (show ∀ h : usedB (rowAt l x.1) = true, usdJ l ((pre ++ [x]).map (·.1)) = usdJ l (pre.map (·.1)) + 1 from fun h => by rw [List.map_append, List.map_cons, List.map_nil, usdJ_yes h])
      have HUN := Lib.hid (show ∀ h : usedB (rowAt l x.1) = false, usdJ l ((pre ++ [x]).map (·.1)) = usdJ l (pre.map (·.1)) from fun h => by rw [List.map_append, List.map_cons, List.map_nil, usdJ_no h])
      have hlm : usdJ l (pre.map (·.1)) ≤ 4 := Nat.le_trans (usdJ_len _ _) (by rw [List.length_map]; omega)
      generalize hm2 : usdJ l ((pre ++ [x]).map (·.1)) = m2 at *
      generalize usdJ l (pre.map (·.1)) = m at *
      have HM2 := Lib.hid hm2
      clear hm2
      have H4 := Lib.hid h4
      have FRR := Lib.hid fr
      have c4 : W'.cell? ⟨L4, 0, none⟩ = some (.int .i64 m) := by rw [cell_of_heap h4]; rfl
      have z4 := frozen_of_heap h4 0
      have hw1 : IntKind.i64.wrap ((m : Int) + 1) = (m : Int) + 1 := IntWalk.i64_in _ (by omega)
      have DONE := Lib.hid (show m2 = m → KeepsOthers W' W' ∧ Kp1 b W' W' ∧ UI wR L4 l (pre ++ [x]) W' from fun hm => ⟨keepsOthers_of (Frm.refl [] W') (fun i hi => by cases hi), rfl, by unfold UI; rw [HM2.out, hm]; exact ⟨H4.out, FRR.out⟩⟩)
      have DONE2 := Lib.hid (show m2 = m + 1 → KeepsOthers W' (W'.setCell ⟨L4, 0, none⟩ (.int .i64 ((m : Int) + 1))) ∧ Kp1 b W' (W'.setCell ⟨L4, 0, none⟩ (.int .i64 ((m : Int) + 1))) ∧ UI wR L4 l (pre ++ [x]) (W'.setCell ⟨L4, 0, none⟩ (.int .i64 ((m : Int) + 1))) from fun hm => by
        have f6 : Frm [L4] W' (W'.setCell ⟨L4, 0, none⟩ (.int .i64 ((m : Int) + 1))) := (Frm.refl [L4] W').setCell ⟨L4, 0, none⟩ _ (.inl (by simp))
        refine ⟨keepsOthers_of f6 (fun i hi => by simp at hi; subst hi; exact ⟨_, H4.out, rfl⟩), f6.block b (by have := HN.out; have := FRR.out.size; omega) (fun hmm => by simp at hmm; have := HN.out; omega), ?_, FRR.out.trans f6 (fun i hi => .inl hi)⟩
        rw [HM2.out, hm, heap_setCell_same _ H4.out]
        simp)
      obtain ⟨sa, sc, hse, _, _⟩ := hS.form
      generalize cs x = cx at *
      subst hse
      generalize rowAt l x.1 = bt at *
      have HS := Lib.hid hS
      have hbl9 : (bt.length : Int) ≤ 1000000 := by omega
      clear h4 fr hlen hs8 hlen8 hL4 hB1 hcs HCS HCB hlm hS
      refine wpIn_block ?_
      gi_wp2
      gi_loopw [18] (fun i wr => wr = W' ∧ ∃ k : Nat, k ≤ bt.length ∧ i = .int .i64 k ∧ ∀ j (hj : j < bt.length), j < k → bt[j] = 0) (fun i _ => bt.length - (intOf i).toNat)
      case atStart => exact ⟨rfl, 0, Nat.zero_le _, rfl, fun j _ h => by omega⟩
      case round =>
        obtain ⟨hwr, k, hk, rfl, hz⟩ := hrel
        obtain rfl := hwr.symm
        by_cases hlt : k < bt.length
        · have hlt' : (k : Int) < (bt.length : Int) := by omega
          obtain ⟨bb, bo, rfl⟩ := slb_at HS.out (by omega)
          have cb := SlB.cellAt HS.out k hlt
          by_cases hb0 : bt[k] = 0
          · have hbk : (((bt[k]).toNat : Int) != 0) = false := by rw [hb0]; rfl
            have HZ := Lib.hid (show ∀ j (hj : j < bt.length), j < k + 1 → bt[j] = 0 from fun j hj hjk => by
              rcases Nat.lt_or_ge j k with h | h
              · exact hz j hj h
              · obtain rfl : j = k := by omega
                exact hb0)
            generalize bt[k] = y at *
            clear hz hb0
            gi_wp2
            refine ⟨⟨trivial, k + 1, by omega, by go_num, HZ.out⟩, by simp [intOf]; omega⟩
          · have hbk : (((bt[k]).toNat : Int) != 0) = true := by
              have : (bt[k]).toNat ≠ 0 := fun h => hb0 (UInt8.toNat_inj.1 (by rw [h]; rfl))
              simp; exact this
            have hm := HUY.out (usedB_yes k hlt hb0)
            have HMM := Lib.hid hm
            generalize bt[k] = y at *
            clear hz hb0 hm
            gi_wp2
            exact DONE2.out HMM.out
        · obtain rfl : k = bt.length := by omega
          have hm := HUN.out (usedB_no (fun j hj => hz j hj hj))
          have HMM := Lib.hid hm
          clear hz hm
          gi_wp2
          exact DONE.out HMM.out
    case done =>
      rintro D xs W' hD hxs ⟨h4, fr⟩ hK
      rw [hxs] at h4
      have hfu : ((usdJ l (List.range 4) : Nat) : Int) = usedN l := by unfold usedN; rw [if_pos hl4]; rfl
      have hfe : foundE l = 0 := by unfold foundE; rw [if_pos hl4]
      rw [hfu] at h4
      have c4 : W'.cell? ⟨L4, 0, none⟩ = some (.int .i64 (usedN l)) := by rw [cell_of_heap h4]; rfl
      have fD : Frm [D] W' (W'.putObj D (.deferred none)) := Frm.of_grown (L := [D]) (grownBy_putObj' W' D (.deferred none)) (fun k e => by cases e; simp)
      have HF := Lib.hid (show Frm [] w (W'.putObj D (.deferred none)) from (FR.out.trans fr (fun i hi => .inr (by simp at hi; have := HLW.out; omega))).trans fD (fun i hi => .inr (by simp at hi; subst hi; have := FR.out.size; have := HLW.out; omega)))
      have HK := Lib.hid hK
      have HFE := Lib.hid hfe
      clear fr h4 hK fD hfu hfe hxs
      simp only [Exit.inBlock, Exit.then]
      go_wp2_with fail
      refine ⟨by simp, .inl ⟨_, _, rfl, run_takeDeferred HK.out, ?_⟩⟩
      exact ⟨.tuple #[.int .i64 (usedN l), .int .i64 0], by simp [results, Tryz.results40, go_sem], by rw [HFE.out], HF.out⟩
    case stop =>
      rintro D c pre W' _ _ h _
      exact h.elim
  · have hne : ¬ (l.length : Int) = 4 := by omega
    have e1 : usedN l = 0 := by unfold usedN; rw [if_neg hl4]
    have e2 : foundE l = 2 := by unfold foundE; rw [if_neg hl4]
    have HE := Lib.hid (And.intro e1 e2)
    clear e1 e2
    go_wp2_with (first | go_step3)
    show LeavesInM _ _ _ _ _ _ [] _ _
    exact ⟨.tuple #[.int .i64 0, .int .i64 2], by simp [results, Tryz.results40, go_sem], by rw [HE.out.1, HE.out.2], Frm.refl _ _⟩
end Go.Proofs.YtjdejhgfkjeeiaaGreatDoor
