/-
  Which tables are too long. No conditions but those that each theorem names.
-/
import Derived.Test.YtljhanhipmnioaaGreatMRa1
import Derived.Test.YtljhanhipmnioaaGreatMRa2
import Derived.Test.YtljhanhipmnioaaGreatMRa3
import Derived.Test.YtljhanhipmnioaaGreatMRa4
import Derived.Test.YtljhanhipmnioaaGreatMRa5
import Derived.Test.YtljhanhipmnioaaGreatMRa6
import Derived.Test.YtljhanhipmnioaaGreatMRa7
import Derived.Test.YtljhanhipmnioaaGreatMRa8
import Derived.Test.YtljhanhipmnioaaGreatMRa9
import Derived.Test.YtljhanhipmnioaaGreatMRa10
import Derived.Test.YtljhanhipmnioaaGreatMRb1
import Derived.WalkKit
import Derived.WalkSpells
import Derived.WalkLawsBesides
import Derived.Deep.AppendSrc
import Derived.Laws.CopyOwn
import Derived.Laws.BytesArg
import Derived.Carry
import Derived.Laws.BytesString
import Derived.Deep.SlicePairs
import Derived.Deep.Cut
import Derived.Lib.Hide
import Derived.Test.YtljhanhipmnioaaGreatChecked
import Derived.ChangeKeysEq
import Derived.Deep.MidRow
import Derived.Deep.RegionHeld3
import Derived.OpenShut
import Derived.WalkHide
import Derived.IntWalk
import Derived.StillTailTactics
import Derived.Deep.RegionLaw
import Derived.Deep.RegionWith
import Derived.Deep.QuietTactic
import Derived.BigQuiet
import Derived.OrdersHeld
import Derived.Deep.CutBlock
import Derived.Deep.DeepCutAuto
import Derived.Deep.Slices
import Derived.Defers
import Derived.Recover
import Derived.Deep.WholeRow
import Derived.Lib.Bytealg
import Derived.Lib.TrimUEq
import Derived.Lib.MinMaxS
import Derived.LaidEqlPtr
namespace Go.Proofs.YtljhanhipmnioaaGreat.Rd
open Go.RowKit
set_option linter.unusedVariables false
set_option linter.unusedSimpArgs false
set_option maxRecDepth 100000

open Pt (Pt may enc readPt readE zeroPt be4 be1 pc pv PtV SlA OwnA BT wpList_load_g heap_alloc_at lst_slB one_slB Ext Grew exec_slice_lh yieldsIf_ld)
open Kr (OwnE SlE Enco RowTys)

/-- Is a table too long? -/
def longB (t : Tab) : Bool := !decide (SmallT t)
theorem longB_yes {t : Tab} (h : ¬ SmallT t) : longB t = true := by simp [longB, h]
theorem longB_no {t : Tab} (h : SmallT t) : longB t = false := by simp [longB, h]
theorem longB_small {t : Tab} (h : longB t = false) : SmallT t := by simpa [longB] using h
def LongT (t : Tab) (e : Ending) : Prop := e = .returned (.bool (longB t))
set_option maxHeartbeats 4000000 in
theorem LongT_any (vr vl : Value) (t : Tab) (w : World) (h : TabV w vr vl t) : Calls Tryz.prog 14 #[tv vr vl t] w fun e w' => LongT t e ∧ Frm [] w w' := by
  obtain ⟨h1, sp, h2⟩ := h
  have hm1 := h1.max
  unfold tv
  have f0 : Frm [] w (w.alloc (.cells (tc vr vl t).toArray 27)) := (Frm.refl [] w).alloc _
  have B := Lib.hid (TB.new w vr vl t)
  generalize (tc vr vl t).toArray = A at *
  have F := Lib.hid f0
  have HR := Lib.hid (h1.keep0 f0)
  obtain ⟨av, ac, rfl⟩ := h1.form
  obtain ⟨lv, lc, rfl, hlc1, hlc2⟩ := h2.form
  have hm2 : (t.lives.length : Int) ≤ 9223372036854775807 := by simp only [maxLen] at hlc2; omega
  have d1 := B.out.gets.recs
  have d6 := B.out.gets.lives
  clear h1 h2 f0 hlc1 hlc2 B
  go_enter Tryz.func14, Tryz.ntmps14
  go_upto_region 1 with (fail)
  generalize w.alloc (.cells A 27) = W at *
  go_upto_region 2 with (fail)
  go_loopw [3] (fun cv wr => wr = W ∧ ∃ k : Nat, k ≤ t.recs.length ∧ k ≤ 21 ∧ cv = .int .i64 k ∧ ∀ i (h : i < t.recs.length), i < k → SmallR (t.recs[i])) (fun cv _ => 21 - (intOf cv).toNat)
  case atStart => exact ⟨rfl, 0, by omega, by omega, rfl, fun i h hi => by omega⟩
  case round =>
    obtain ⟨hwr, k, hk, hk21, rfl, hall⟩ := hrel
    subst hwr
    by_cases hlt : k < t.recs.length ∧ k < 21
    · obtain ⟨hlt, h21⟩ := hlt
      have hlt' : (k : Int) < (t.recs.length : Int) := by omega
      have h21' : (k : Int) < 21 := by omega
      obtain ⟨b, off, cp, e⟩ := HR.out.at (by omega)
      injection e with e1 e2 e3
      subst e1; subst e3
      obtain ⟨xa, xc, G, _⟩ := HR.out.gets k hlt
      have q1 := G.name
      have q4 := G.ads
      clear G
      have HALL := Lib.hid hall
      have HK := Lib.hid (show ∀ i (h : i < t.recs.length), i < k + 1 → SmallR t.recs[k] → SmallR t.recs[i] from fun i h hi hs => by
        rcases Nat.lt_or_ge i k with h2 | h2
        · exact HALL.out i h h2
        · obtain rfl : i = k := by omega
          exact hs)
      have HS := Lib.hid (show SmallR t.recs[k] ↔ (t.recs[k]).name.size ≤ 100 ∧ (t.recs[k]).root.ads.length ≤ 20 from Iff.rfl)
      clear hall
      by_cases hn : 100 < (t.recs[k]).name.size
      · have hn9 : (100 : Int) < ((t.recs[k]).name.size : Int) := by omega
        have HNO := Lib.hid (show longB t = true from longB_yes fun hs => by have := (hs.2.2 _ (List.getElem_mem hlt)).1; omega)
        generalize (t.recs[k]).name = nm at *
        generalize (t.recs[k]).root.ads.length = na at *
        clear hn
        go_wp2_with fail
        exact bodyPost_ret (v := .bool true) (by simp [results, Tryz.results14, go_sem]) rfl ⟨by unfold LongT; rw [HNO.out], F.out⟩
      · have hn9 : ¬ (100 : Int) < ((t.recs[k]).name.size : Int) := by omega
        by_cases ha : 20 < (t.recs[k]).root.ads.length
        · have ha9 : (20 : Int) < ((t.recs[k]).root.ads.length : Int) := by omega
          have HNO := Lib.hid (show longB t = true from longB_yes fun hs => by have := (hs.2.2 _ (List.getElem_mem hlt)).2; omega)
          generalize (t.recs[k]).name = nm at *
          generalize (t.recs[k]).root.ads.length = na at *
          clear hn ha
          go_wp2_with fail
          exact bodyPost_ret (v := .bool true) (by simp [results, Tryz.results14, go_sem]) rfl ⟨by unfold LongT; rw [HNO.out], F.out⟩
        · have ha9 : ¬ (20 : Int) < ((t.recs[k]).root.ads.length : Int) := by omega
          have HN := Lib.hid (show ∀ i (h : i < t.recs.length), i < k + 1 → SmallR t.recs[i] from fun i h hi => HK.out i h hi (HS.out.2 ⟨by omega, by omega⟩))
          clear HK HS HALL
          generalize (t.recs[k]).name = nm at *
          generalize (t.recs[k]).root.ads.length = na at *
          clear hn ha
          go_wp2_with fail
          go_roundw
          case rel => exact ⟨by first | trivial | rfl, k + 1, by omega, by omega, by go_num, HN.out⟩
          case measure => simp [intOf]; omega
    · have HALL := Lib.hid hall
      have HKE := Lib.hid hlt
      clear hall
      have hend : ∀ (_ : t.recs.length ≤ 20), ∀ x ∈ t.recs, SmallR x := fun h20 x hx => by
        obtain ⟨i, hi, rfl⟩ := List.getElem_of_mem hx
        exact HALL.out i hi (by have := HKE.out; omega)
      have HE := Lib.hid hend
      clear hend
      have hdec : (decide ((k : Int) < (t.recs.length : Int)) && decide ((k : Int) < 21)) = false := by
        simp; omega
      have hd2 : (if (k : Int) < (t.recs.length : Int) then decide ((k : Int) < 21) else false) = false := by
        split
        · simp; omega
        · rfl
      by_cases h20 : 20 < t.recs.length
      · have h20' : (20 : Int) < (t.recs.length : Int) := by omega
        have HNO := Lib.hid (show longB t = true from longB_yes fun hs => by have := hs.1; omega)
        by_cases h1 : k < t.recs.length
        · have h1' : (k : Int) < (t.recs.length : Int) := by omega
          have h2' : ¬ (k : Int) < 21 := by omega
          clear h20 h1 hlt hdec hd2
          go_wp2_with fail
          exact bodyPost_ret (v := .bool true) (by simp [results, Tryz.results14, go_sem]) rfl ⟨by unfold LongT; rw [HNO.out], F.out⟩
        · have h1' : ¬ (k : Int) < (t.recs.length : Int) := by omega
          clear h20 h1 hlt hdec hd2
          go_wp2_with fail
          exact bodyPost_ret (v := .bool true) (by simp [results, Tryz.results14, go_sem]) rfl ⟨by unfold LongT; rw [HNO.out], F.out⟩
      · have h20' : ¬ (20 : Int) < (t.recs.length : Int) := by omega
        have h1' : ¬ (k : Int) < (t.recs.length : Int) := by omega
        by_cases h3 : 20 < t.lives.length
        · have h3' : (20 : Int) < (t.lives.length : Int) := by omega
          have HNO := Lib.hid (show longB t = true from longB_yes fun hs => by have := hs.2.1; omega)
          clear h20 hlt hdec hd2 h3
          go_wp2_with fail
          exact bodyPost_ret (v := .bool true) (by simp [results, Tryz.results14, go_sem]) rfl ⟨by unfold LongT; rw [HNO.out], F.out⟩
        · have h3' : ¬ (20 : Int) < (t.lives.length : Int) := by omega
          have HH := Lib.hid (And.intro h20 h3)
          clear h20 hlt hdec hd2 h3
          go_wp2_with fail
          exact bodyPost_ret (v := .bool false) (by simp [results, Tryz.results14, go_sem]) rfl ⟨by unfold LongT; rw [longB_no ⟨by have := HH.out; omega, by have := HH.out; omega, HE.out (by have := HH.out; omega)⟩], F.out⟩
end Go.Proofs.YtljhanhipmnioaaGreat.Rd
