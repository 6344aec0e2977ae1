/-
  demand. No conditions but those that each theorem names.
-/
import Derived.Test.YtdebnikolhhmgaaDoorAJ
namespace Go.Proofs.YtdebnikolhhmgaaDoor
open Go.RowKit
set_option linter.unusedVariables false
set_option linter.unusedSimpArgs false
set_option maxRecDepth 100000

open Kr (OwnE SlE Enco RowTys)
/-- A need, at this state of an array: what it answers, and what the array is then. -/
def NeedAt (sn : Nat → Addr) (lo g : Nat) (W0 : World) (f : Value) (s : St) (r : Option Nat × St) : Prop :=
  ∃ gf caps, f = .func (.func gf) #[] caps ∧ (∀ W : World, (callFunc gf (#[.pointer (some ⟨g, 0, none⟩)] ++ caps)).run Tryd.prog W = .ok (.enter gf (#[.pointer (some ⟨g, 0, none⟩)] ++ caps)) W) ∧
    ∀ W, Fa lo W0 W → Arr lo W g s → Calls Tryd.prog gf (#[.pointer (some ⟨g, 0, none⟩)] ++ caps) W (StepP sn lo g r W)
inductive Dem (sn : Nat → Addr) (lo g : Nat) (W0 : World) : List Value → St → Option Nat × St → Prop
  | nil (s : St) : Dem sn lo g W0 [] s (none, s)
  | stop (f : Value) (fs : List Value) (s s' : St) (k : Nat) : NeedAt sn lo g W0 f s (some k, s') → Dem sn lo g W0 (f :: fs) s (some k, s')
  | step (f : Value) (fs : List Value) (s s1 : St) (r : Option Nat × St) : NeedAt sn lo g W0 f s (none, s1) → Dem sn lo g W0 fs s1 r → Dem sn lo g W0 (f :: fs) s r
theorem Dem.inv {sn : Nat → Addr} {lo g : Nat} {W0 : World} {f : Value} {fs : List Value} {s : St} {r : Option Nat × St} (h : Dem sn lo g W0 (f :: fs) s r) :
    (∃ k s', r = (some k, s') ∧ NeedAt sn lo g W0 f s (some k, s')) ∨ ∃ s1, NeedAt sn lo g W0 f s (none, s1) ∧ Dem sn lo g W0 fs s1 r := by
  cases h with
  | stop _ _ _ s' k h => exact .inl ⟨k, s', rfl, h⟩
  | step _ _ _ s1 _ h1 h2 => exact .inr ⟨s1, h1, h2⟩
theorem Dem.end {sn : Nat → Addr} {lo g : Nat} {W0 : World} {s : St} {r : Option Nat × St} (h : Dem sn lo g W0 [] s r) : r = (none, s) := by cases h; rfl
section
variable {lo : Nat} {w : World} {sn : Nat → Addr} {g : Nat} {s : St}
def DmRel (sn : Nat → Addr) (lo g : Nat) (W0 : World) (fs : List Value) (r : Option Nat × St) (w : World) (cv : Value) (wr : World) : Prop :=
  ∃ (k : Nat) (s : St), k ≤ fs.length ∧ cv = .int .i64 k ∧ Dem sn lo g W0 (fs.drop k) s r ∧ Arr lo wr g s ∧ Fa lo w wr
set_option maxHeartbeats 4000000 in
theorem demand_any (W0 : World) (fs : List Value) (gn n : Nat) (r : Option Nat × St) (hs : Sn w lo sn) (h : Arr lo w g s) (hf : Fa lo W0 w) (hb : w.heap[gn]? = some (.cells fs.toArray 73 (0, 0))) (hn : n = fs.length) (hl : fs.length ≤ 10) (hD : Dem sn lo g W0 fs s r) :
    Calls Tryd.prog 37 #[.pointer (some ⟨g, 0, none⟩), .slice (some ⟨gn, 0, none⟩) n n] w (StepP sn lo g r w) := by
  subst hn
  have hm2 : Calls Tryd.prog 59 #[.pointer (some ⟨g, 0, none⟩)] w.drew fun e w' => e = .returned (.bool true) ∧ w' = w.drew := by
    obtain ⟨dv, rv, drs, dsp, rcs, rsp, h⟩ := h
    exact made_yes g w.drew h.cells.1
  have c1 := hs.v 1 (by omega)
  have hu := unless_true txA (.iface 126 (.pointer (some (sn 1)))) w.drew
  unfold txA at hu
  have HF := Lib.hid hf
  have HD := Lib.hid hD
  have AR := Lib.hid h.drew
  have HB := Lib.hid hb
  have hl9 : (fs.length : Int) ≤ 10 := by omega
  clear h hs hf hD hb
  go_enter Tryd.func37, Tryd.ntmps37
  go_upto_region 1 with (fail)
  refine wp_region_still_lit (by kernel_rfl) (by kernel_rfl) ?_
  change wpStill _ _ (World.drew _) _ _ _
  repeat still_step
  still_call hm2
  repeat still_step
  still_call hu
  repeat still_step
  refine wpStill_nil ?_
  change Exit.then _ _ _ _ (World.drew _)
  go_wp2_with fail
  go_loopw [18] (DmRel sn lo g W0 fs r w) (fun c _ => fs.length - (intOf c).toNat)
  case atStart => exact ⟨0, s, by omega, rfl, HD.out, AR.out, Fa.of0 ((Frm.refl [] w).drew) lo⟩
  case round =>
    obtain ⟨k, sk, hk, rfl, hd, ha, fa⟩ := hrel
    by_cases hlt : k < fs.length
    · rw [List.drop_eq_getElem_cons hlt] at hd
      have hcell : wr.cell? ⟨gn, k, none⟩ = some fs[k] := by
        rw [cell_of_heap (fa.typ _ _ _ _ HB.out (by decide)), List.getElem?_toArray, List.getElem?_eq_getElem hlt]
      have AK := Lib.hid ha
      have FK := Lib.hid fa
      rcases hd.inv with ⟨kk, s', hr, hN⟩ | ⟨s1, hN, hd2⟩
      · obtain ⟨gf, caps, he, hen, hc⟩ := hN
        rw [he] at hcell
        have HC := Lib.hid (hc wr (HF.out.trans fa) ha)
        have HR := Lib.hid hr
        clear hc he hr ha fa hd
        go_wp2_with fail
        refine HC.out.mono ?_
        rintro e w2 ⟨h1, h2, h3⟩
        rcases h1 with ⟨h1, _⟩ | ⟨k2, tx, h1, hk6, rfl⟩
        · cases h1
        · have H2 := Lib.hid (And.intro h1 (And.intro hk6 (And.intro h2 h3)))
          clear h1 hk6 h2 h3
          unfold rfu
          go_wp2_with fail
          go_ret
          have hz := H2.out
          rw [HR.out]
          exact ⟨.inr ⟨k2, tx, hz.1, hz.2.1, rfl⟩, hz.2.2.1, FK.out.trans hz.2.2.2⟩
      · obtain ⟨gf, caps, he, hen, hc⟩ := hN
        rw [he] at hcell
        have HC := Lib.hid (hc wr (HF.out.trans fa) ha)
        have D2 := Lib.hid hd2
        clear hc he ha fa hd hd2
        go_wp2_with fail
        refine HC.out.mono ?_
        rintro e w2 ⟨h1, h2, h3⟩
        rcases h1 with ⟨_, rfl⟩ | ⟨k2, tx, h1, hk6, rfl⟩
        · have H2 := Lib.hid (And.intro h2 h3)
          clear h2 h3
          go_wp2_with fail
          go_roundw
          case rel => exact ⟨k + 1, s1, by omega, by go_num, D2.out, H2.out.1, FK.out.trans H2.out.2⟩
          case measure => simp [intOf]; omega
        · cases h1
    · obtain rfl : k = fs.length := by omega
      rw [List.drop_length] at hd
      have hr := hd.end
      have AK := Lib.hid ha
      have FK := Lib.hid fa
      have HR := Lib.hid hr
      clear hd hr ha fa
      go_wp2_with fail
      go_ret
      rw [HR.out]
      exact ⟨Ans.none sn, AK.out, FK.out⟩
end
end Go.Proofs.YtdebnikolhhmgaaDoor
