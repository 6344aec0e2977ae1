/-
  without, and the walk of UsageParts. No conditions but those that each theorem names.
-/
import Derived.Test.YtafedmahehbggaaVF
namespace Go.Proofs.Ytafedmahehbggaa
open Go.RowKit Go.Sort Go.Maps
set_option linter.unusedVariables false
set_option linter.unusedSimpArgs false
set_option maxRecDepth 100000

open Kr (OwnE SlE Enco RowTys)
open Kr (flt_cons flt_nil flt_length flt_oneCell flt_append flt_get)
/-- Holders, of which those that s names have nothing any more: the first k. -/
def restK (L : List (List Ad)) (s : List Int) (k : Nat) : List (List Ad) := (List.range k).map fun (i : Nat) => if amg s i then [] else L.getD i []
def restU (L : List (List Ad)) (s : List Int) : List (List Ad) := restK L s L.length
theorem restK_len (L : List (List Ad)) (s : List Int) (k : Nat) : (restK L s k).length = k := by simp [restK]
theorem restK_succ (L : List (List Ad)) (s : List Int) (k : Nat) : restK L s (k + 1) = restK L s k ++ [if amg s k then [] else L.getD k []] := by simp [restK, List.range_succ]
theorem mem_rest {L : List (List Ad)} {s : List Int} {i : Nat} {x : Ad} : x ∈ (restU L s).getD i [] ↔ (x ∈ L.getD i [] ∧ amg s i = false) := by
  by_cases hi : i < L.length
  · have e : (restU L s).getD i [] = if amg s i then [] else L.getD i [] := by
      rw [getD_at (by rw [restU, restK_len]; exact hi)]
      simp [restU, restK]
    rw [e]
    cases amg s i <;> simp
  · have e1 : (restU L s).getD i [] = [] := by rw [List.getD_eq_getElem?_getD, List.getElem?_eq_none (by rw [restU, restK_len]; omega)]; rfl
    have e2 : L.getD i [] = [] := by rw [List.getD_eq_getElem?_getD, List.getElem?_eq_none (by omega)]; rfl
    rw [e1, e2]
    simp
theorem hs_rest {L : List (List Ad)} (h : Hs L) (s : List Int) : Hs (restU L s) := by
  have key : ∀ l ∈ restU L s, l = [] ∨ l ∈ L := fun l hl => by
    obtain ⟨i, hi, rfl⟩ := List.mem_map.1 hl
    split
    · exact .inl rfl
    · rw [getD_at (List.mem_range.1 hi)]; exact .inr (List.getElem_mem _)
  refine ⟨by rw [restU, restK_len]; exact h.n, fun l hl => ?_, fun l hl => ?_⟩
  · rcases key l hl with rfl | h1
    · simp
    · exact h.l l h1
  · rcases key l hl with rfl | h1
    · simp
    · exact h.w l h1
theorem amg_app (d m : List Int) (i : Nat) : amg (d ++ m) i = true ↔ (amg d i = true ∨ amg m i = true) := by simp [amg]
theorem part1 {L : List (List Ad)} {d : List Int} : bothA (freedU L d) (allU (restU L d)) = [] := by
  refine List.eq_nil_iff_forall_not_mem.2 fun x hx => ?_
  rw [bothA, List.mem_filter, decide_eq_true_eq, mem_freedU, mem_allU] at hx
  obtain ⟨⟨_, h2⟩, i, hi⟩ := hx
  rw [mem_rest] at hi
  rw [h2 i hi.1] at hi
  cases hi.2
theorem part2 {L : List (List Ad)} {d : List Int} : srt (freedU L d ++ allU (restU L d)) = allU L := by
  refine rises_eq (rises_srt _) (rises_tell _ _) fun x => ?_
  rw [mem_srt, List.mem_append, mem_freedU, mem_allU, mem_allU]
  constructor
  · rintro (⟨⟨i, _, h⟩, _⟩ | ⟨i, h⟩)
    · exact ⟨i, h⟩
    · exact ⟨i, (mem_rest.1 h).1⟩
  · rintro ⟨i, h⟩
    by_cases ha : ∀ j, x ∈ L.getD j [] → amg d j = true
    · exact .inl ⟨⟨i, ha i h, h⟩, ha⟩
    · simp only [Classical.not_forall] at ha
      obtain ⟨j, hj, hn⟩ := ha
      exact .inr ⟨j, mem_rest.2 ⟨hj, by simpa using hn⟩⟩
theorem part3 {L : List (List Ad)} {d m : List Int} : srt (freedU L d ++ freedU (restU L d) m) = freedU L (d ++ m) := by
  refine rises_eq (rises_srt _) (rises_tell _ _) fun x => ?_
  rw [mem_srt, List.mem_append, mem_freedU, mem_freedU, mem_freedU]
  simp only [mem_rest, amg_app]
  constructor
  · rintro (⟨⟨i, h1, h2⟩, h3⟩ | ⟨⟨i, h1, h2, h3⟩, h4⟩)
    · exact ⟨⟨i, .inl h1, h2⟩, fun j hj => .inl (h3 j hj)⟩
    · refine ⟨⟨i, .inr h1, h2⟩, fun j hj => ?_⟩
      by_cases hd : amg d j = true
      · exact .inl hd
      · exact .inr (h4 j ⟨hj, by simpa using hd⟩)
  · rintro ⟨⟨i, h1, h2⟩, h3⟩
    by_cases ha : ∀ j, x ∈ L.getD j [] → amg d j = true
    · exact .inl ⟨⟨i, ha i h2, h2⟩, ha⟩
    · simp only [Classical.not_forall] at ha
      obtain ⟨j, hj, hn⟩ := ha
      refine .inr ⟨⟨j, (h3 j hj).resolve_left hn, hj, by simpa using hn⟩, fun q hq => (h3 q hq.1).resolve_left (by simp [hq.2])⟩
theorem part4 {L : List (List Ad)} {d m : List Int} : bothA (freedU L d) (freedU (restU L d) m) = [] := by
  refine List.eq_nil_iff_forall_not_mem.2 fun x hx => ?_
  rw [bothA, List.mem_filter, decide_eq_true_eq, mem_freedU, mem_freedU] at hx
  obtain ⟨⟨_, h2⟩, ⟨i, _, hi⟩, _⟩ := hx
  rw [mem_rest] at hi
  rw [h2 i hi.1] at hi
  cases hi.2
def WoRel (L : List (List Ad)) (s : List Int) (w : World) (v cv : Value) (wr : World) : Prop :=
  ∃ (k : Nat) (cs : List CelT) (sp : List Value), k ≤ L.length ∧ cv = .int .i64 k ∧ OwnE eC 1 30 wr v cs sp ∧ cs.length = k ∧ (∀ (i : Nat) (c : CelT) l, cs[i]? = some c → (restK L s k)[i]? = some l → ∃ s', SlA w c.1 l s') ∧ (∀ i ∈ blk v, w.heap.size ≤ i) ∧ Frm [] w wr
def WgRel (s : List Int) (i : Nat) (w : World) (g cv : Value) (wr : World) : Prop := ∃ k : Nat, k ≤ s.length ∧ cv = .int .i64 k ∧ g = .bool (amg (s.take k) i) ∧ wr = w
theorem wo_step {L : List (List Ad)} {s : List Int} {w : World} {k : Nat} {cs : List CelT} {c1 : CelT} {l1 s1 : List Ad} (hl : cs.length = k) (h : ∀ (i : Nat) (c : CelT) l, cs[i]? = some c → (restK L s k)[i]? = some l → ∃ s', SlA w c.1 l s')
    (h1 : SlA w c1.1 l1 s1) (e : restK L s (k + 1) = restK L s k ++ [l1]) : ∀ (i : Nat) (c : CelT) l, (cs ++ [c1])[i]? = some c → (restK L s (k + 1))[i]? = some l → ∃ s', SlA w c.1 l s' := fun i c l hc hr => by
  rw [e] at hr
  have hk := restK_len L s k
  by_cases hlt : i < k
  · rw [List.getElem?_append_left (by omega)] at hc hr
    exact h i c l hc hr
  · have : i = k := by
      rcases Nat.lt_or_ge i (k + 1) with h | h
      · omega
      · rw [List.getElem?_eq_none (by simp; omega)] at hc; cases hc
    subst this
    rw [List.getElem?_append_right (by omega)] at hc hr
    simp [hl, hk] at hc hr
    subst hc; subst hr
    exact ⟨s1, h1⟩
set_option maxHeartbeats 4000000 in
theorem without_any (L : List (List Ad)) (v sv : Value) (s : List Int) (ssp : List Value) (w : World) (hS : LsA w v L) (hL : Hs L) (hI : SlI w sv s ssp) (hs : s.length ≤ 1000000) :
    Calls Try.prog 30 #[v, sv] w fun e w' => ∃ v', e = .returned v' ∧ LsA w' v' (restU L s) ∧ Frm [] w w' := by
  obtain ⟨a, cap, rfl, hcap⟩ := hS.form
  obtain ⟨sa, scap, rfl, _, _⟩ := SlE.form hI
  have hL9 : (L.length : Int) ≤ 64 := by have := hL.n; omega
  have hs9 : (s.length : Int) ≤ 1000000 := by omega
  have HS := Lib.hid hS
  have HL := Lib.hid hL
  have HI := Lib.hid hI
  clear hS hL hcap hI hs
  go_enter Try.func30, Try.ntmps30
  go_wp2_with fail
  go_loopw [5, 6] (WoRel L s w) (fun _ c _ => L.length - (intOf c).toNat)
  case atStart => exact ⟨0, [], [], by omega, rfl, OwnE.nil _ _ _ _, rfl, fun i c l h => by simp at h, by simp [blk], Frm.refl _ _⟩
  case round =>
    obtain ⟨k, cs, sp, hk, rfl, o, hcl, hall, nf, f⟩ := hrel
    have hsu := restK_succ L s k
    obtain ⟨b5, c5, rfl, _, _⟩ := SlE.form (OwnE.sl o)
    have F := Lib.hid f
    have O := Lib.hid o
    have CL := Lib.hid hcl
    have AL := Lib.hid hall
    have NF := Lib.hid nf
    by_cases hlt : k < L.length
    · obtain ⟨b0, off, rfl⟩ := HS.out.at (by omega)
      obtain ⟨c, s1, hc0, hsl1⟩ := HS.out.cell k hlt
      have hcc := f.cell hc0 (by simp)
      rw [getD_at hlt] at hsu
      generalize L[k] = l at *
      obtain ⟨la, lc, rfl, _, _⟩ := hsl1.form
      have S1 := Lib.hid hsl1
      have SU := Lib.hid hsu
      have C := Lib.hid hcc
      obtain ⟨kk, hkk⟩ : ∃ kk : Int, (k : Int) = kk := ⟨_, rfl⟩
      have KK := Lib.hid hkk
      have hk9 : kk < (L.length : Int) := by omega
      have hk8 : 0 ≤ kk := by omega
      have hk7 : kk.toNat = k := by omega
      clear f o hcl hall nf hsu hc0 hsl1 hcc
      rw [hkk]
      clear hkk
      go_wp2_with fail
      go_loopw [7, 8] (WgRel s k wr) (fun _ c _ => s.length - (intOf c).toNat)
      case atStart => exact ⟨0, by omega, rfl, by simp [amg], rfl⟩
      case round =>
        obtain ⟨j, hj, rfl, rfl, hwr⟩ := hrel
        obtain rfl := hwr.symm
        by_cases hlt2 : j < s.length
        · obtain ⟨bs, offs, rfl⟩ := SlE.at (enc := iE) (k := 1) HI.out (by omega)
          have c0 := cellI (HI.out.keep0 F.out) j hlt2
          have ha := amg_take s k j hlt2
          rw [KK.out] at ha
          generalize s[j] = z at *
          have HA := Lib.hid ha
          clear ha
          cases hq : amg (s.take j) k with
          | true =>
            have HN := Lib.hid (show amg (s.take (j + 1)) k = true by rw [HA.out, hq]; rfl)
            clear hq
            go_wp2_with fail
            go_roundw
            case rel => exact ⟨j + 1, by omega, by go_num, by rw [HN.out], rfl⟩
            case measure => simp [intOf]; omega
          | false =>
            have HN := Lib.hid (show amg (s.take (j + 1)) k = (z == kk) by rw [HA.out, hq]; rfl)
            clear hq
            go_wp2_with fail
            go_roundw
            case rel => exact ⟨j + 1, by omega, by go_num, by rw [HN.out], rfl⟩
            case measure => simp [intOf]; omega
        · obtain rfl : j = s.length := by omega
          rw [List.take_length]
          have hwz : w.heap.size ≤ wr.heap.size := F.out.size
          cases hq : amg s k with
          | true =>
            rw [hq] at SU
            have SU2 := Lib.hid (show restK L s (k + 1) = restK L s k ++ [[]] from SU.out)
            clear hq
            have f1 : Frm [] wr (wr.alloc (.cells #[.slice none 0 0] 30)) := (Frm.refl [] wr).alloc _
            have F1 := Lib.hid (F.out.trans f1 (by simp))
            have O1 := Lib.hid (O.out.keep0 f1)
            have I1 := Lib.hid (one_cel wr (.slice none 0 0) rfl)
            clear f1
            go_wp2_with (at_builtin; refine Kr.wpList_append_e encC tysC O1.out I1.out (by have := CL.out; have := HL.out.n; simp; omega) (by decide) rfl (.tmp 31) (.tmp 32) rfl rfl rfl ?_; intro a6 cap6 w6 sp6 o6 f6 n6)
            have O6 := Lib.hid o6
            have F6 := Lib.hid (F1.out.trans f6 (fun i hi => .inr (NF.out i hi)))
            have N6 := Lib.hid (show ∀ i ∈ blk (.slice a6 (cs.length + [(⟨.slice none 0 0, rfl⟩ : CelT)].length) cap6), w.heap.size ≤ i from fun i hi => by
              rcases n6 i hi with h | h
              · exact NF.out i h
              · simp at h; omega)
            clear o6 f6 n6
            go_wp2_with fail
            go_roundw
            case rel => exact ⟨k + 1, _, sp6, by omega, by have := KK.out; go_num, O6.out, by simp [CL.out], wo_step CL.out AL.out (SlA.nil w) SU2.out, N6.out, F6.out⟩
            case measure => have := KK.out; simp [intOf]; omega
          | false =>
            rw [hq] at SU
            have SU2 := Lib.hid (show restK L s (k + 1) = restK L s k ++ [l] from SU.out)
            clear hq
            have f1 : Frm [] wr (wr.alloc (.cells #[.slice la l.length lc] 30)) := (Frm.refl [] wr).alloc _
            have F1 := Lib.hid (F.out.trans f1 (by simp))
            have O1 := Lib.hid (O.out.keep0 f1)
            have I1 := Lib.hid (one_cel wr (.slice la l.length lc) rfl)
            have hcc := C.out
            clear f1
            go_wp2_with (at_builtin; refine Kr.wpList_append_e encC tysC O1.out I1.out (by have := CL.out; have := HL.out.n; simp; omega) (by decide) rfl (.tmp 34) (.tmp 39) rfl rfl rfl ?_; intro a6 cap6 w6 sp6 o6 f6 n6)
            have O6 := Lib.hid o6
            have F6 := Lib.hid (F1.out.trans f6 (fun i hi => .inr (NF.out i hi)))
            have N6 := Lib.hid (show ∀ i ∈ blk (.slice a6 (cs.length + [(⟨.slice la l.length lc, rfl⟩ : CelT)].length) cap6), w.heap.size ≤ i from fun i hi => by
              rcases n6 i hi with h | h
              · exact NF.out i h
              · simp at h; omega)
            clear o6 f6 n6
            go_wp2_with fail
            go_roundw
            case rel => exact ⟨k + 1, _, sp6, by omega, by have := KK.out; go_num, O6.out, by simp [CL.out], wo_step CL.out AL.out S1.out SU2.out, N6.out, F6.out⟩
            case measure => have := KK.out; simp [intOf]; omega
    · obtain rfl : k = L.length := by omega
      clear f o hcl hall nf hsu
      go_wp2_with fail
      go_ret
      refine ⟨_, rfl, ⟨cs, sp, OwnE.sl O.out, by rw [restU, restK_len]; exact CL.out, fun i c l h1 h2 => ?_⟩, F.out⟩
      obtain ⟨s', h⟩ := AL.out i c l h1 h2
      exact ⟨s', h.keep F.out (by simp)⟩
end Go.Proofs.Ytafedmahehbggaa
