/-
  The document's among, together, Freed, Shared, All, Unique, Referenced, Holders. No conditions but those that each theorem names.
-/
import Derived.Test.YtafedmahehbggaaVA
namespace Go.Proofs.Ytafedmahehbggaa
open Go.RowKit Go.Sort Go.Maps
set_option linter.unusedVariables false
set_option linter.unusedSimpArgs false
set_option maxRecDepth 100000

open Kr (OwnE SlE Enco RowTys)
theorem amg_take (s : List Int) (i k : Nat) (hk : k < s.length) : amg (s.take (k + 1)) i = (amg (s.take k) i || (s[k] == (i : Int))) := by
  have e : (i : Int) ∈ s.take (k + 1) ↔ ((i : Int) ∈ s.take k ∨ s[k] = (i : Int)) := by
    rw [take_snoc hk, List.mem_append, List.mem_singleton]
    exact or_congr Iff.rfl eq_comm
  unfold amg
  rw [Bool.eq_iff_iff]
  simp only [decide_eq_true_eq, Bool.or_eq_true, beq_iff_eq]
  exact e
theorem amg_of {s : List Int} {i k : Nat} (hk : k < s.length) (h : s[k] = (i : Int)) : amg s i = true := by
  unfold amg
  exact decide_eq_true (h ▸ List.getElem_mem hk)
def AmRel (s : List Int) (i : Nat) (w0 : World) (cv : Value) (wr : World) : Prop := ∃ k : Nat, k ≤ s.length ∧ amg (s.take k) i = false ∧ cv = .int .i64 k ∧ Frm [] w0 wr
theorem among_any (s : List Int) (sv : Value) (ssp : List Value) (i : Nat) (w : World) (hI : SlI w sv s ssp) (hs : s.length ≤ 1000000) :
    Calls Try.prog 47 #[sv, .int .i64 (i : Int)] w fun e w' => e = .returned (.bool (amg s i)) ∧ Frm [] w w' := by
  obtain ⟨sa, scap, rfl, _, _⟩ := hI.form
  have hs9 : (s.length : Int) ≤ 1000000 := by omega
  have HI := Lib.hid hI
  clear hI hs
  obtain ⟨ii, hii⟩ : ∃ ii : Int, (i : Int) = ii := ⟨_, rfl⟩
  have HII := Lib.hid hii
  rw [hii]
  clear hii
  go_enter Try.func47, Try.ntmps47
  go_wp2_with fail
  go_loopw [5] (AmRel s i w) (fun c _ => s.length - (intOf c).toNat)
  case atStart => exact ⟨0, by omega, by simp [amg], rfl, Frm.refl _ _⟩
  case round =>
    obtain ⟨k, hk, hne, rfl, f⟩ := hrel
    by_cases hlt : k < s.length
    · obtain ⟨bs, offs, rfl⟩ := SlE.at (enc := iE) (k := 1) HI.out (by omega)
      have c0 := cellI (HI.out.keep0 f) k hlt
      have ha := amg_take s i k hlt
      have hb := amg_of (i := i) hlt
      rw [HII.out] at ha hb
      generalize s[k] = z at *
      have F := Lib.hid f
      have NE := Lib.hid hne
      have HA := Lib.hid ha
      clear f hne ha
      by_cases he : z = ii
      · have HB := Lib.hid (hb he)
        clear hb
        subst he
        go_wp2_with fail
        go_ret
        exact ⟨by rw [HB.out]; rfl, F.out⟩
      · clear hb
        have hz : (z == ii) = false := by simp [he]
        have hn : amg (s.take (k + 1)) i = false := by rw [HA.out, NE.out, hz]; rfl
        have HN := Lib.hid hn
        clear hn
        go_wp2_with fail
        go_roundw
        case rel => exact ⟨k + 1, by omega, HN.out, by go_num, F.out⟩
        case measure => simp [intOf]; omega
    · obtain rfl : k = s.length := by omega
      rw [List.take_length] at hne
      have F := Lib.hid f
      have NE := Lib.hid hne
      clear f hne
      go_wp2_with fail
      go_ret
      exact ⟨by rw [NE.out]; rfl, F.out⟩
def tgN (s : List Int) (out : Bool) (i : Nat) : Bool := amg s i != out
def TgRel (L : List (List Ad)) (s : List Int) (out : Bool) (w0 : World) (v cv : Value) (wr : World) : Prop :=
  ∃ (k : Nat) (sp : List Ad), k ≤ L.length ∧ cv = .int .i64 k ∧ OwnA 25 wr v (sel L (tgN s out) k) sp ∧ (∀ i ∈ blk v, w0.heap.size ≤ i) ∧ Frm [] w0 wr
set_option maxHeartbeats 4000000 in
theorem together_any (L : List (List Ad)) (v sv : Value) (s : List Int) (ssp : List Value) (out : Bool) (w : World) (hS : LsA w v L) (hL : Hs L) (hI : SlI w sv s ssp) (hs : s.length ≤ 1000000) :
    Calls Try.prog 45 #[v, sv, .bool out] w (Told w (srt (sel L (tgN s out) L.length))) := by
  obtain ⟨a, cap, rfl, hcap⟩ := hS.form
  have HS := Lib.hid hS
  have HL := Lib.hid hL
  have HI := Lib.hid (fun W (f : Frm [] w W) (i : Nat) => among_any s sv ssp i W (hI.keep0 f) hs)
  have hL9 : (L.length : Int) ≤ 64 := by have := hL.n; omega
  obtain ⟨sa, scap, rfl, _, _⟩ := hI.form
  clear hS hL hI hs hcap
  go_enter Try.func45, Try.ntmps45
  go_wp2_with fail
  go_loopw [7, 8] (TgRel L s out w) (fun _ c _ => L.length - (intOf c).toNat)
  case atStart => exact ⟨0, [], by omega, rfl, OwnA.nil 25 _, by simp [blk], Frm.refl _ _⟩
  case round =>
    obtain ⟨k, sp, hk, rfl, o, nf, f⟩ := hrel
    have hsl := sel_length HL.out.l (tgN s out) k
    have hsw := sel_wf HL.out.w (N := tgN s out) (k := k)
    have hsn : sel L (tgN s out) (k + 1) = sel L (tgN s out) k ++ (if tgN s out k then L.getD k [] else []) := rfl
    by_cases hlt : k < L.length
    · obtain ⟨b0, off, rfl⟩ := HS.out.at (by omega)
      obtain ⟨c, s1, hc0, hsl1⟩ := HS.out.cell k hlt
      have hc := f.cell hc0 (by simp)
      have hS1 := hsl1.keep f (by simp)
      rw [getD_at hlt] at hsn
      have hll := HL.out.l _ (List.getElem_mem hlt)
      generalize L[k] = l at *
      obtain ⟨la, lc, rfl, _, _⟩ := hsl1.form
      obtain ⟨q, hq⟩ : ∃ q, amg s k = q := ⟨_, rfl⟩
      have htg : tgN s out k = (q != out) := by rw [tgN, hq]
      have hlen : (sel L (tgN s out) k).length ≤ 64000 := by have := Nat.mul_le_mul_right 1000 (show k ≤ 64 by have := HL.out.n; omega); omega
      generalize sel L (tgN s out) k = S at *
      obtain ⟨b5, c5, rfl, _, _⟩ := o.sl.form
      have HQ := Lib.hid (show ∀ W, Frm [] w W → Calls Try.prog 47 #[.slice sa s.length scap, .int .i64 (k : Int)] W fun e w' => e = .returned (.bool q) ∧ Frm [] W w' from fun W hf => by rw [← hq]; exact HI.out W hf k)
      have F := Lib.hid f
      have O := Lib.hid o
      have NF := Lib.hid nf
      have S1 := Lib.hid hS1
      have SN := Lib.hid hsn
      have TG := Lib.hid htg
      have LN := Lib.hid (And.intro hlen hll)
      have C := Lib.hid hc
      clear hq f o nf hc0 hsl1 hS1 hsn htg hsl hsw hlen hll hc
      go_wp2_with fail
      refine (HQ.out _ F.out).mono ?_
      rintro e w1 ⟨rfl, f1⟩
      have F1 := Lib.hid (F.out.trans f1 (by simp))
      have O1 := Lib.hid (O.out.keep f1 (by simp))
      have S2 := Lib.hid (S1.out.keep f1 (by simp))
      have hc1 := f1.cell C.out (by simp)
      clear f1 HQ
      cases hqo : (q != out) with
      | false =>
        rw [hqo] at TG
        have hn : sel L (tgN s out) (k + 1) = S := by rw [SN.out, TG.out]; simp
        have HN := Lib.hid hn
        clear hn
        cases q <;> cases out
        all_goals first | (exact absurd hqo (by decide)) | skip
        all_goals
          clear hqo
          go_wp2_with fail
          go_roundw
          case rel => exact ⟨k + 1, sp, by omega, by go_num, by rw [HN.out]; exact O1.out, NF.out, F1.out⟩
          case measure => simp [intOf]; omega
      | true =>
        rw [hqo] at TG
        have hn : sel L (tgN s out) (k + 1) = S ++ l := by rw [SN.out, TG.out]; simp
        have HN := Lib.hid hn
        clear hn
        cases q <;> cases out
        all_goals first | (exact absurd hqo (by decide)) | skip
        all_goals
          clear hqo
          go_wp2_with (at_builtin; refine wpList_append_ads AT' O1.out S2.out (by have := LN.out; omega) rfl (.tmp 20) (.tmp 24) rfl rfl rfl ?_; intro a6 cap6 w6 sp6 o6 f6 n6)
          have O6 := Lib.hid (show OwnA 25 w6 (.slice a6 (S.length + l.length) cap6) (sel L (tgN s _) (k + 1)) sp6 from by rw [HN.out]; exact o6)
          have F6 := Lib.hid (F1.out.trans f6 (fun i hi => .inr (NF.out i hi)))
          have N6 := Lib.hid (show ∀ i ∈ blk (.slice a6 (S.length + l.length) cap6), w.heap.size ≤ i from fun i hi => by
            rcases n6 i hi with h | h
            · exact NF.out i h
            · have := F1.out.size; omega)
          clear o6 f6 n6
          go_wp2_with fail
          go_roundw
          case rel => exact ⟨k + 1, sp6, by omega, by go_num, O6.out, N6.out, F6.out⟩
          case measure => simp [intOf]; omega
    · obtain rfl : k = L.length := by omega
      have hl1 : (sel L (tgN s out) L.length).length ≤ 64000 := by have := Nat.mul_le_mul_right 1000 HL.out.n; omega
      have F := Lib.hid f
      obtain ⟨b5, c5, rfl, _, _⟩ := o.sl.form
      have HC := Lib.hid (RefSort_any _ _ sp _ o.sl (by omega))
      clear f o nf hsl hsw hsn hl1
      go_wp2_with fail
      refine HC.out.mono ?_
      rintro e w2 ⟨v2, sp2, rfl, o2, f2, n2⟩
      have O2 := Lib.hid (And.intro o2 (And.intro f2 n2))
      clear o2 f2 n2
      go_wp2_with fail
      go_ret
      exact ⟨v2, sp2, rfl, O2.out.1, F.out.trans O2.out.2.1 (by simp), fun i hi => by have := O2.out.2.2 i hi; have := F.out.size; omega⟩
end Go.Proofs.Ytafedmahehbggaa
