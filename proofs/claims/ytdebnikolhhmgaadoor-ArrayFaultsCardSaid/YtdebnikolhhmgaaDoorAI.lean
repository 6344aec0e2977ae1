/-
  A step; reads that fail. No conditions but those that each theorem names.
-/
import Derived.Test.YtdebnikolhhmgaaDoorAH
namespace Go.Proofs.YtdebnikolhhmgaaDoor
open Go.RowKit
set_option linter.unusedVariables false
set_option linter.unusedSimpArgs false
set_option maxRecDepth 100000

open Kr (OwnE SlE Enco RowTys)
/-- What lies beside blocks of one type. -/
theorem ArrL.rest {lo : Nat} {w w' : World} {g : Nat} {s : St} {dv rv : Value} {drs : List Dr} {dsp : List Value} {rcs : List CelT} {rsp : List Value} {L : List Nat} {T : TypeId} (h : ArrL lo w g s dv rv drs dsp rcs rsp) (f : Frm L w w') (hf : Fa lo w w')
    (hL : ∀ k ∈ L, ∃ cs fr, w.heap[k]? = some (.cells cs T fr)) (h1 : T ≠ 86) (h2 : T ≠ 96) (h3 : T ≠ 90) :
    OwnE eD 4 86 w' dv drs dsp ∧ (∀ (i : Nat) (q : Dr) (d : Dv), drs[i]? = some q → s.devs[i]? = some d → q.1 = d.f ∧ q.2.1 = d.str ∧ q.2.2.1 = d.fl ∧ SecP lo w' q.2.2.2.1 d.secs) ∧ OwnE eC 1 90 w' rv rcs rsp ∧
      (∀ (i : Nat) (c : CelT) (x : Wt), rcs[i]? = some c → s.row[i]? = some x → ∃ gw, c.1 = .pointer (some ⟨gw, 0, none⟩) ∧ WtB w' gw x) := by
  have hno : ∀ {T' k : Nat} {n : Nat} {v : Value} {xs sp : List Value}, Own T' k w v n xs sp → T ≠ T' → ∀ j ∈ blk v, j ∉ L := fun ho ht j hj hm => by
    obtain ⟨cs, fr, hc⟩ := hL j hm
    obtain ⟨cs', hc'⟩ := own_blk ho j hj
    rw [hc] at hc'; cases hc'; exact ht rfl
  refine ⟨h.own.keep f (hno h.own h1), fun i q d hq hd => ?_, h.row.keep f (hno h.row h3), fun i c x hc hx => ?_⟩
  · obtain ⟨k1, k2, k3, scs, csp, q1, q2, q3, q4⟩ := h.dat i q d hq hd
    exact ⟨k1, k2, k3, scs, csp, q1.keep f (hno q1 h2), q2, q3, fun i q c hq hc => by obtain ⟨e1, e2⟩ := q4 i q c hq hc; exact ⟨e1, e2.fa hf⟩⟩
  · obtain ⟨gw, e1, e2⟩ := h.rat i c x hc hx
    exact ⟨gw, e1, e2.fa hf⟩
theorem ArrL.setRec {lo : Nat} {w w' : World} {g : Nat} {s s' : St} {dv rv : Value} {drs : List Dr} {dsp : List Value} {rcs : List CelT} {rsp : List Value} (h : ArrL lo w g s dv rv drs dsp rcs rsp) (f : Frm [g] w w')
    (hr : w'.heap[g]? = some (.cells (arc g s' dv rv).toArray 35 (0, 0))) (e1 : s'.devs = s.devs) (e2 : s'.row = s.row) : ArrL lo w' g s' dv rv drs dsp rcs rsp ∧ Fa lo w w' := by
  have hfa : Fa lo w w' := Fa.of_frm f fun k hk => by simp at hk; subst hk; exact ⟨h.glo, _, _, _, h.rcd, by decide⟩
  obtain ⟨k1, k2, k3, k4⟩ := h.rest (T := 35) f hfa (fun k hk => by simp at hk; subst hk; exact ⟨_, _, h.rcd⟩) (by decide) (by decide) (by decide)
  refine ⟨⟨hr, h.glo, k1, h.dlo, by rw [e1]; exact h.dlen, ?_, by rw [e1]; exact h.fb, h.dis, k3, h.rlo, by rw [e2]; exact h.rlen, ?_⟩, hfa⟩
  · rw [e1]; exact k2
  · rw [e2]; exact k4
structure WfS (s : St) : Prop where
  l0 : 0 ≤ s.left
  l1 : s.left ≤ 9223372036854775807
  s0 : 0 ≤ s.steps
  s1 : s.steps ≤ 1000000000000
  n1 : s.n ≤ 1000000
def nStep (s : St) : Option Nat × St := if s.set = true ∧ s.left = 0 then (some 2, { s with out := true }) else (none, { s with left := if s.set = true then s.left - 1 else s.left, steps := s.steps + 1 })
section
variable {lo : Nat} {w : World} {sn : Nat → Addr} {g : Nat} {s : St}
theorem burnt_any (q : Bool) (l : Int) (g : Nat) (w : World) (c4 : w.cell? ⟨g, 4, none⟩ = some (.bool q)) (c5 : w.cell? ⟨g, 5, none⟩ = some (.int .i64 l)) :
    Calls Tryd.prog 67 #[.pointer (some ⟨g, 4, none⟩)] w fun e w' => e = .returned (.bool (q && (l == 0))) ∧ w' = w := by
  cases q
  · go_enter Tryd.func67, Tryd.ntmps67
    go_wp2
    go_ret
    exact ⟨rfl, rfl⟩
  · go_enter Tryd.func67, Tryd.ntmps67
    go_wp2
    go_ret
    exact ⟨rfl, rfl⟩
theorem burn_no (l : Int) (g : Nat) (w : World) (c4 : w.cell? ⟨g, 4, none⟩ = some (.bool false)) :
    Calls Tryd.prog 68 #[.pointer (some ⟨g, 4, none⟩)] w fun e w' => e = .returned (.tuple #[]) ∧ w' = w := by
  go_enter Tryd.func68, Tryd.ntmps68
  go_wp2
  go_end0
  exact ⟨rfl, rfl⟩
theorem burn_yes (l : Int) (hl : -9223372036854775808 < l ∧ l ≤ 9223372036854775807) (g : Nat) (w : World) (c4 : w.cell? ⟨g, 4, none⟩ = some (.bool true)) (c5 : w.cell? ⟨g, 5, none⟩ = some (.int .i64 l)) (hz : w.frozen? ⟨g, 5, none⟩ = false) :
    Calls Tryd.prog 68 #[.pointer (some ⟨g, 4, none⟩)] w fun e w' => e = .returned (.tuple #[]) ∧ w' = w.setCell ⟨g, 5, none⟩ (.int .i64 (l - 1)) := by
  have hw : IntKind.i64.wrap (l - 1) = l - 1 := IntWalk.i64_in _ (by omega)
  go_enter Tryd.func68, Tryd.ntmps68
  go_wp2
  go_end0
  exact ⟨rfl, rfl⟩
def StepP (sn : Nat → Addr) (lo g : Nat) (r : Option Nat × St) (w : World) (e : Ending) (w' : World) : Prop := Ans sn r.1 e ∧ Arr lo w' g r.2 ∧ Fa lo w w'
theorem nextStep_any (hs : Sn w lo sn) (h : Arr lo w g s) (hw : WfS s) : Calls Tryd.prog 47 #[ptr g] w (StepP sn lo g (nStep s) w) := by
  obtain ⟨dv, rv, drs, dsp, rcs, rsp, h⟩ := h
  obtain ⟨c0, c1, c2, c3, c4, c5, c6, c7, cz⟩ := h.cells
  have cg := hs.v 2 (by omega)
  have hg2 : g ≠ 2 := by have := h.glo; have := hs.l; omega
  have HB := Lib.hid (burnt_any s.set s.left g w c4 c5)
  have HR := Lib.hid h.rcd
  have hz5 := cz 5
  have hz6 := cz 6
  have hz7 := cz 7
  have hws : IntKind.i64.wrap (s.steps + 1) = s.steps + 1 := IntWalk.i64_in _ (by have := hw.s0; have := hw.s1; omega)
  unfold ptr
  by_cases hq : s.set = true ∧ s.left = 0
  · have e : nStep s = (some 2, { s with out := true }) := by unfold nStep; rw [if_pos hq]
    rw [e]
    rw [hq.1, hq.2] at HB
    have H := Lib.hid h
    clear e hq h hs c0 c1 c2 c3 c4 c5 c7 cz hw
    have cg2 : (w.setCell ⟨g, 6, none⟩ (.bool true)).cell? ⟨2, 0, none⟩ = some (.iface 126 (.pointer (some (sn 2)))) := (World.cell?_setCell_other w ⟨g, 6, none⟩ ⟨2, 0, none⟩ _ (by simp)).trans cg
    go_enter Tryd.func47, Tryd.ntmps47
    go_wp2_with (go_at_call 67; refine HB.out.mono ?_; rintro e w1 ⟨rfl, hw1⟩; obtain rfl := hw1.symm)
    go_ret
    have f : Frm [g] w (w.setCell ⟨g, 6, none⟩ (.bool true)) := (Frm.refl [g] w).setCell _ _ (by simp)
    obtain ⟨k1, k2⟩ := H.out.setRec (s' := { s with out := true }) f (by rw [heap_setCell_same _ HR.out]; rfl) rfl rfl
    exact ⟨Ans.some sn _ (by omega), ⟨_, _, _, _, _, _, k1⟩, k2⟩
  · have e : nStep s = (none, { s with left := if s.set = true then s.left - 1 else s.left, steps := s.steps + 1 }) := by unfold nStep; rw [if_neg hq]
    rw [e]
    have hb : (s.set && (s.left == 0)) = false := by
      cases h1 : s.set
      · rfl
      · have : ¬ s.left = 0 := fun e => hq ⟨h1, e⟩
        simp [this]
    rw [hb] at HB
    have H := Lib.hid h
    cases hset : s.set
    · rw [hset] at c4
      have HN := Lib.hid (burn_no s.left g w c4)
      have hf : (if false = true then s.left - 1 else s.left) = s.left := rfl
      rw [hf]
      clear e hq h hs c0 c1 c2 c3 c4 c5 c6 cz hw hb hf
      go_enter Tryd.func47, Tryd.ntmps47
      go_wp2_with (first
        | (go_at_call 67; refine HB.out.mono ?_; rintro e w1 ⟨rfl, hw1⟩; obtain rfl := hw1.symm)
        | (go_at_call 68; refine HN.out.mono ?_; rintro e w2 ⟨rfl, hw2⟩; obtain rfl := hw2.symm))
      go_ret
      have f : Frm [g] w (w.setCell ⟨g, 7, none⟩ (.int .i64 (s.steps + 1))) := (Frm.refl [g] w).setCell _ _ (by simp)
      obtain ⟨k1, k2⟩ := H.out.setRec (s' := { s with set := false, left := s.left, steps := s.steps + 1 }) f (by rw [heap_setCell_same _ HR.out]; simp [arc, hset]) rfl rfl
      exact ⟨Ans.none sn, ⟨_, _, _, _, _, _, k1⟩, k2⟩
    · rw [hset] at c4
      have HN := Lib.hid (burn_yes s.left ⟨by have := hw.l0; omega, hw.l1⟩ g w c4 c5 hz5)
      have hf : (if true = true then s.left - 1 else s.left) = s.left - 1 := rfl
      rw [hf]
      have c7' : (w.setCell ⟨g, 5, none⟩ (.int .i64 (s.left - 1))).cell? ⟨g, 7, none⟩ = some (.int .i64 s.steps) := (World.cell?_setCell_other w ⟨g, 5, none⟩ ⟨g, 7, none⟩ _ (by simp)).trans c7
      have z7' : (w.setCell ⟨g, 5, none⟩ (.int .i64 (s.left - 1))).frozen? ⟨g, 7, none⟩ = false := by rw [World.frozen?_setCell]; exact hz7
      clear e hq h hs c0 c1 c2 c3 c4 c5 c6 c7 cz hw hb hf
      go_enter Tryd.func47, Tryd.ntmps47
      go_wp2_with (first
        | (go_at_call 67; refine HB.out.mono ?_; rintro e w1 ⟨rfl, hw1⟩; obtain rfl := hw1.symm)
        | (go_at_call 68; refine HN.out.mono ?_; rintro e w2 ⟨rfl, rfl⟩))
      go_ret
      have f : Frm [g] w ((w.setCell ⟨g, 5, none⟩ (.int .i64 (s.left - 1))).setCell ⟨g, 7, none⟩ (.int .i64 (s.steps + 1))) := ((Frm.refl [g] w).setCell _ _ (by simp)).setCell _ _ (by simp)
      obtain ⟨k1, k2⟩ := H.out.setRec (s' := { s with set := true, left := s.left - 1, steps := s.steps + 1 }) f (by rw [heap_setCell_same _ (heap_setCell_same _ HR.out)]; simp [arc, hset]) rfl rfl
      exact ⟨Ans.none sn, ⟨_, _, _, _, _, _, k1⟩, k2⟩
end
end Go.Proofs.YtdebnikolhhmgaaDoor
