/-
  The document's Freed, Unique, All, Shared, Referenced, Holders. No conditions but those that each theorem names.
-/
import Derived.Test.YtafedmahehbggaaVB
namespace Go.Proofs.Ytafedmahehbggaa
open Go.RowKit Go.Sort Go.Maps
set_option linter.unusedVariables false
set_option linter.unusedSimpArgs false
set_option maxRecDepth 100000

open Kr (OwnE SlE Enco RowTys)
open Kr (flt_cons flt_nil flt_length flt_oneCell flt_append flt_get)
theorem sel_in {L : List (List Ad)} {s : List Int} (x : Ad) : x ∈ srt (sel L (tgN s false) L.length) ↔ inU L s x = true := by
  rw [mem_srt, mem_sel, inU, decide_eq_true_eq]
  simp only [tgN, Bool.bne_false]
theorem sel_out {L : List (List Ad)} {s : List Int} (x : Ad) : x ∈ srt (sel L (tgN s true) L.length) ↔ outU L s x = true := by
  rw [mem_srt, mem_sel, outU, decide_eq_true_eq]
  simp only [tgN, Bool.bne_true, Bool.not_eq_true']
theorem sel_len {L : List (List Ad)} (h : Hs L) (N : Nat → Bool) : (srt (sel L N L.length)).length ≤ 64000 := by
  have h1 := sel_length h.l N L.length
  have h2 := srt_length (sel L N L.length)
  have := Nat.mul_le_mul_right 1000 h.n
  omega
theorem RefFreed_any (L : List (List Ad)) (v sv : Value) (s : List Int) (ssp : List Value) (w : World) (hS : LsA w v L) (hL : Hs L) (hI : SlI w sv s ssp) (hs : s.length ≤ 1000000) :
    Calls Try.prog 17 #[v, sv] w (Told w (freedU L s)) := by
  have HT := Lib.hid (fun W (f : Frm [] w W) (o : Bool) => together_any L v sv s ssp o W (hS.keep0 f) hL (hI.keep0 f) hs)
  have HL := Lib.hid hL
  obtain ⟨a, cap, rfl, _⟩ := hS.form
  obtain ⟨sa, scap, rfl, _, _⟩ := hI.form
  clear hS hI hL hs
  go_enter Try.func17, Try.ntmps17
  go_wp2_with fail
  refine (HT.out _ (Frm.refl _ _) false).mono ?_
  rintro e w1 ⟨v1, sp1, rfl, o1, f1, n1⟩
  obtain ⟨a1, c1, rfl, _, _⟩ := o1.sl.form
  have O1 := Lib.hid o1
  have F1 := Lib.hid f1
  clear o1 f1 n1
  go_wp2_with fail
  refine (HT.out _ F1.out true).mono ?_
  rintro e w2 ⟨v2, sp2, rfl, o2, f2, n2⟩
  obtain ⟨a2, c2, rfl, _, _⟩ := o2.sl.form
  have O2 := Lib.hid o2
  have F2 := Lib.hid (F1.out.trans f2 (by simp))
  have O12 := Lib.hid (O1.out.keep f2 (by simp))
  clear o2 f2 n2
  go_wp2_with fail
  refine (RefMinus_any _ _ _ sp1 _ sp2 _ O12.out.sl (sel_len HL.out _) O2.out.sl (sel_len HL.out _)).mono ?_
  rintro e w3 ⟨v3, sp3, rfl, o3, f3, n3⟩
  rw [freed_eq sel_in sel_out] at o3
  have O3 := Lib.hid (And.intro o3 (And.intro f3 n3))
  clear o3 f3 n3
  go_wp2_with fail
  go_ret
  exact ⟨v3, sp3, rfl, O3.out.1, F2.out.trans O3.out.2.1 (by simp), fun i hi => by have := O3.out.2.2 i hi; have := F2.out.size; omega⟩
theorem RefUnique_any (L : List (List Ad)) (v : Value) (i : Int) (w : World) (hS : LsA w v L) (hL : Hs L) :
    Calls Try.prog 15 #[v, .int .i64 i] w (Told w (freedU L [i])) := by
  have f0 : Frm [] w (w.alloc (.cells #[.int .i64 i] 3)) := (Frm.refl [] w).alloc _
  have HC := Lib.hid (RefFreed_any L v (.slice (some ⟨w.heap.size, 0, none⟩) 1 1) [i] [] _ (hS.keep0 f0) hL (one_int w i) (by simp))
  have F0 := Lib.hid f0
  clear f0 hS hL
  go_enter Try.func15, Try.ntmps15
  go_wp2_with fail
  refine HC.out.mono ?_
  rintro e w2 ⟨v2, sp2, rfl, o2, f2, n2⟩
  go_wp2_with fail
  go_ret
  exact ⟨v2, sp2, rfl, o2, F0.out.trans f2 (by simp), fun i hi => by have := n2 i hi; have := F0.out.size; omega⟩
theorem all_eq {L : List (List Ad)} : srt (sel L (tgN [] true) L.length) = allU L := by
  refine rises_eq (rises_srt _) (rises_tell _ _) fun x => ?_
  rw [mem_srt, mem_sel, mem_allU]
  constructor
  · rintro ⟨i, _, _, h⟩; exact ⟨i, h⟩
  · rintro ⟨i, h⟩; exact ⟨i, (getD_mem h).1, by simp [tgN, amg], h⟩
theorem RefAll_any (L : List (List Ad)) (v : Value) (w : World) (hS : LsA w v L) (hL : Hs L) : Calls Try.prog 16 #[v] w (Told w (allU L)) := by
  have HT := Lib.hid (together_any L v (.slice none 0 0) [] [] true w hS hL (SlE.nil _ _ _) (by simp))
  rw [all_eq] at HT
  clear hS hL
  go_enter Try.func16, Try.ntmps16
  go_wp2_with fail
  refine HT.out.mono ?_
  rintro e w2 ⟨v2, sp2, rfl, o2, f2, n2⟩
  go_wp2_with fail
  go_ret
  exact ⟨v2, sp2, rfl, o2, f2, n2⟩
/-- The document's Shared, holder by holder. -/
def shU (L : List (List Ad)) (s : List Int) : Nat → List Ad
  | 0 => srt (sel L (tgN s false) L.length)
  | k + 1 => if amg s k then srt (bothA (shU L s k) (L.getD k [])) else shU L s k
theorem mem_shU {L : List (List Ad)} {s : List Int} {x : Ad} : ∀ k, x ∈ shU L s k ↔ (inU L s x = true ∧ ∀ i, i < k → amg s i = true → x ∈ L.getD i [])
  | 0 => by rw [shU, sel_in]; exact ⟨fun h => ⟨h, fun i hi => by omega⟩, fun h => h.1⟩
  | k + 1 => by
    rw [shU]
    by_cases h : amg s k = true
    · rw [if_pos h, mem_srt, bothA, List.mem_filter, mem_shU k, decide_eq_true_eq]
      constructor
      · rintro ⟨⟨h1, h2⟩, h3⟩
        exact ⟨h1, fun i hi ha => by
          by_cases e : i = k
          · subst e; exact h3
          · exact h2 i (by omega) ha⟩
      · rintro ⟨h1, h2⟩
        exact ⟨⟨h1, fun i hi ha => h2 i (by omega) ha⟩, h2 k (by omega) h⟩
    · rw [if_neg h, mem_shU k]
      constructor
      · rintro ⟨h1, h2⟩
        exact ⟨h1, fun i hi ha => by
          by_cases e : i = k
          · subst e; exact absurd ha h
          · exact h2 i (by omega) ha⟩
      · rintro ⟨h1, h2⟩
        exact ⟨h1, fun i hi ha => h2 i (by omega) ha⟩
theorem rises_shU {L : List (List Ad)} {s : List Int} : ∀ k, Rises (shU L s k)
  | 0 => rises_srt _
  | k + 1 => by
    rw [shU]
    split
    · exact rises_srt _
    · exact rises_shU k
theorem shU_len {L : List (List Ad)} (h : Hs L) {s : List Int} : ∀ k, (shU L s k).length ≤ 64000
  | 0 => sel_len h _
  | k + 1 => by
    have ih := shU_len h (s := s) k
    rw [shU]
    split
    · have h1 := srt_length (bothA (shU L s k) (L.getD k []))
      have h2 : (bothA (shU L s k) (L.getD k [])).length ≤ (shU L s k).length := List.length_filter_le _ _
      omega
    · exact ih
theorem shU_all {L : List (List Ad)} {s : List Int} : shU L s L.length = sharedU L s := by
  refine rises_eq (rises_shU _) (rises_tell _ _) fun x => ?_
  rw [mem_shU, mem_sharedU, inU, decide_eq_true_eq]
  constructor
  · rintro ⟨⟨i, h1, h2, _⟩, h3⟩
    exact ⟨⟨i, h1, h2⟩, h3⟩
  · rintro ⟨⟨i, h1, h2⟩, h3⟩
    exact ⟨⟨i, h1, h2, h3 i h1 h2⟩, h3⟩
def ShkRel (L : List (List Ad)) (s : List Int) (w0 : World) (v cv : Value) (wr : World) : Prop :=
  ∃ (k : Nat) (sp : List Ad), k ≤ L.length ∧ cv = .int .i64 k ∧ OwnA 25 wr v (shU L s k) sp ∧ (∀ i ∈ blk v, w0.heap.size ≤ i) ∧ Frm [] w0 wr
set_option maxHeartbeats 4000000 in
theorem RefShared_any (L : List (List Ad)) (v sv : Value) (s : List Int) (ssp : List Value) (w : World) (hS : LsA w v L) (hL : Hs L) (hI : SlI w sv s ssp) (hs : s.length ≤ 1000000) :
    Calls Try.prog 18 #[v, sv] w (Told w (sharedU L s)) := by
  have HT := Lib.hid (together_any L v sv s ssp false w hS hL hI hs)
  have HI := Lib.hid (fun W (f : Frm [] w W) (i : Nat) => among_any s sv ssp i W (hI.keep0 f) hs)
  have HS := Lib.hid hS
  have HL := Lib.hid hL
  have hL9 : (L.length : Int) ≤ 64 := by have := hL.n; omega
  obtain ⟨a, cap, rfl, hcap⟩ := hS.form
  obtain ⟨sa, scap, rfl, _, _⟩ := hI.form
  clear hS hI hL hs hcap
  go_enter Try.func18, Try.ntmps18
  go_wp2_with fail
  refine HT.out.mono ?_
  rintro e w1 ⟨v1, sp1, rfl, o1, f1, n1⟩
  have O1 := Lib.hid o1
  have F1 := Lib.hid f1
  have N1 := Lib.hid n1
  obtain ⟨a1, c1, rfl, _, _⟩ := o1.sl.form
  clear o1 f1 n1 HT
  go_wp2_with fail
  go_loopw [5, 6] (ShkRel L s w) (fun _ c _ => L.length - (intOf c).toNat)
  case atStart => exact ⟨0, sp1, by omega, rfl, O1.out, N1.out, F1.out⟩
  case round =>
    obtain ⟨k, sp, hk, rfl, o, nf, f⟩ := hrel
    have hsn : shU L s (k + 1) = if amg s k then srt (bothA (shU L s k) (L.getD k [])) else shU L s k := rfl
    have hlen := shU_len HL.out (s := s) k
    by_cases hlt : k < L.length
    · obtain ⟨b0, off, rfl⟩ := HS.out.at (by omega)
      obtain ⟨c, s1, hc0, hsl1⟩ := HS.out.cell k hlt
      have hc := f.cell hc0 (by simp)
      have hS1 := hsl1.keep f (by simp)
      rw [getD_at hlt] at hsn
      have hll := HL.out.l _ (List.getElem_mem hlt)
      generalize L[k] = l at *
      obtain ⟨la, lc, rfl, _, _⟩ := hsl1.form
      obtain ⟨q, hq⟩ : ∃ q, amg s k = q := ⟨_, rfl⟩
      rw [hq] at hsn
      generalize shU L s k = S at *
      obtain ⟨b5, c5, rfl, _, _⟩ := o.sl.form
      have HQ := Lib.hid (show ∀ W, Frm [] w W → Calls Try.prog 47 #[.slice sa s.length scap, .int .i64 (k : Int)] W fun e w' => e = .returned (.bool q) ∧ Frm [] W w' from fun W hf => by rw [← hq]; exact HI.out W hf k)
      have F := Lib.hid f
      have O := Lib.hid o
      have NF := Lib.hid nf
      have S1 := Lib.hid hS1
      have SN := Lib.hid hsn
      have LN := Lib.hid (And.intro hlen hll)
      have C := Lib.hid hc
      clear hq f o nf hc0 hsl1 hS1 hsn hlen hll hc
      go_wp2_with fail
      refine (HQ.out _ F.out).mono ?_
      rintro e w2 ⟨rfl, f2⟩
      have F2 := Lib.hid (F.out.trans f2 (by simp))
      have O2 := Lib.hid (O.out.keep f2 (by simp))
      have S2 := Lib.hid (S1.out.keep f2 (by simp))
      have hc2 := f2.cell C.out (by simp)
      clear f2 HQ
      cases q with
      | false =>
        have HN := Lib.hid (show shU L s (k + 1) = S by rw [SN.out]; rfl)
        go_wp2_with fail
        go_roundw
        case rel => exact ⟨k + 1, sp, by omega, by go_num, by rw [HN.out]; exact O2.out, NF.out, F2.out⟩
        case measure => simp [intOf]; omega
      | true =>
        have HN := Lib.hid (show shU L s (k + 1) = srt (bothA S l) by rw [SN.out]; rfl)
        go_wp2_with fail
        refine (RefBoth_any _ _ S sp l s1 _ O2.out.sl LN.out.1 S2.out (by have := LN.out.2; omega)).mono ?_
        rintro e w6 ⟨v6, sp6, rfl, o6, f6, n6⟩
        obtain ⟨a6, c6, rfl, _, _⟩ := o6.sl.form
        have O6 := Lib.hid o6
        have F6 := Lib.hid (F2.out.trans f6 (by simp))
        have N6 := Lib.hid (show ∀ i ∈ blk (.slice a6 (srt (bothA S l)).length c6), w.heap.size ≤ i from fun i hi => by have := n6 i hi; have := F2.out.size; omega)
        clear o6 f6 n6
        go_wp2_with fail
        go_roundw
        case rel => exact ⟨k + 1, sp6, by omega, by go_num, by rw [HN.out]; exact O6.out, N6.out, F6.out⟩
        case measure => simp [intOf]; omega
    · obtain rfl : k = L.length := by omega
      rw [shU_all] at o
      have F := Lib.hid f
      have NF := Lib.hid nf
      have O := Lib.hid o
      obtain ⟨b5, c5, rfl, _, _⟩ := o.sl.form
      clear f o nf hsn hlen
      go_wp2_with fail
      go_ret
      exact ⟨_, sp, rfl, O.out, F.out, NF.out⟩
/-- What the document's Referenced counts. -/
theorem ref_eq {L : List (List Ad)} {i : Int} : srt (sel L (tgN [i] false) L.length) = sharedU L [i] := by
  refine rises_eq (rises_srt _) (rises_tell _ _) fun x => ?_
  rw [sel_in, mem_sharedU, inU, decide_eq_true_eq]
  have ha : ∀ j : Nat, amg [i] j = true ↔ (j : Int) = i := fun j => by simp [amg]
  constructor
  · rintro ⟨j, h1, h2, h3⟩
    refine ⟨⟨j, h1, h2⟩, fun k _ hk => ?_⟩
    rw [ha] at h2 hk
    have : k = j := by omega
    subst this; exact h3
  · rintro ⟨⟨j, h1, h2⟩, h3⟩
    exact ⟨j, h1, h2, h3 j h1 h2⟩
theorem RefReferenced_any (L : List (List Ad)) (v : Value) (i : Int) (w : World) (hS : LsA w v L) (hL : Hs L) :
    Calls Try.prog 23 #[v, .int .i64 i] w fun e w' => e = .returned (.int .i64 ((sharedU L [i]).length : Nat)) ∧ Frm [] w w' := by
  have f0 : Frm [] w (w.alloc (.cells #[.int .i64 i] 3)) := (Frm.refl [] w).alloc _
  have HC := Lib.hid (together_any L v (.slice (some ⟨w.heap.size, 0, none⟩) 1 1) [i] [] false _ (hS.keep0 f0) hL (one_int w i) (by simp))
  rw [ref_eq] at HC
  have F0 := Lib.hid f0
  clear f0 hS hL
  go_enter Try.func23, Try.ntmps23
  go_wp2_with fail
  refine HC.out.mono ?_
  rintro e w2 ⟨v2, sp2, rfl, o2, f2, n2⟩
  obtain ⟨a2, c2, rfl, _, _⟩ := o2.sl.form
  go_wp2_with fail
  go_ret
  exact ⟨rfl, F0.out.trans f2 (by simp)⟩
def RhRel (L : List (List Ad)) (x : Ad) (g0 : Nat) (w : World) (d cv : Value) (wr : World) : Prop :=
  wr.heap[g0]? = some (.cells #[.int .i64 x.1, .int .i64 x.2] 25 (0, 0)) ∧ Frm [] w wr ∧ ∃ k : Nat, k ≤ L.length ∧ cv = .int .i64 k ∧ GotI (who L x k) w d wr
set_option maxHeartbeats 4000000 in
theorem RefHolders_any (L : List (List Ad)) (v : Value) (x : Ad) (w : World) (hS : LsA w v L) (hL : Hs L) :
    Calls Try.prog 25 #[v, av x] w (ToldN w (who L x L.length)) := by
  have F0 := Lib.hid (show Frm [] w (w.alloc (.cells #[.int .i64 x.1, .int .i64 x.2] 25)) from (Frm.refl [] w).alloc _)
  have H0 := Lib.hid (heap_alloc_new w (.cells #[.int .i64 x.1, .int .i64 x.2] 25))
  have HS := Lib.hid hS
  have HL := Lib.hid hL
  have hL9 : (L.length : Int) ≤ 64 := by have := hL.n; omega
  obtain ⟨a, cap, rfl, hcap⟩ := hS.form
  unfold av
  clear hS hL hcap
  go_enter Try.func25, Try.ntmps25
  go_wp2_with fail
  generalize w.alloc (.cells #[.int .i64 x.1, .int .i64 x.2] 25) = w0 at *
  obtain ⟨g0, hg0⟩ : ∃ g0, w.heap.size = g0 := ⟨_, rfl⟩
  rw [hg0] at H0 ⊢
  clear hg0
  go_loopw [5, 6] (RhRel L x g0 w) (fun _ c _ => L.length - (intOf c).toNat)
  case atStart => exact ⟨H0.out, F0.out, 0, by omega, rfl, [], OwnE.nil _ _ _ _, by simp [blk]⟩
  case round =>
    obtain ⟨hx0, f, k, hk, rfl, sp, o, nf⟩ := hrel
    have hwl := who_len L x k
    have hws := who_succ L x k
    obtain ⟨wl, hwl2⟩ : ∃ wl, who L x k = wl := ⟨_, rfl⟩
    rw [hwl2] at o hwl hws
    obtain ⟨b5, c5, rfl, _, _⟩ := o.sl.form
    have X := Lib.hid hx0
    have F := Lib.hid f
    have O := Lib.hid o
    have NF := Lib.hid nf
    have WL := Lib.hid hwl
    have W2 := Lib.hid hwl2
    by_cases hlt : k < L.length
    · obtain ⟨b0, off, rfl⟩ := HS.out.at (by omega)
      obtain ⟨c, s1, hc0, hsl1⟩ := HS.out.cell k hlt
      have hcc := f.cell hc0 (by simp)
      have hS1 := hsl1.keep f (by simp)
      rw [getD_at hlt] at hws
      have hll := HL.out.l _ (List.getElem_mem hlt)
      generalize L[k] = l at *
      obtain ⟨la, lc, rfl, _, _⟩ := hsl1.form
      have C := Lib.hid hcc
      have S1 := Lib.hid hS1
      have WS := Lib.hid hws
      have LL := Lib.hid (show l.length ≤ 100000 by omega)
      clear hx0 f o nf hws hwl hwl2 hc0 hsl1 hcc hS1 hll
      go_upto_region 5 with (fail)
      refine wp_region_held_drew (S := fun z => Frm [] wr z) (by kernel_rfl) ((Frm.refl [] wr).drew) (fun hHeld => ?_)
      refine wpAnyH_take (i := 0) (oi := { dst := some 13, op := Op.move (Operand.tmp 0), type := 22, pos := "ref.go:59", after := #[], guard := none }) (v := ?_) rfl (by kernel_rfl) (by kernel_rfl) (by kernel_rfl) (fun _ _ _ h => h) (Or.inl ⟨by rfl, ?_⟩) hHeld ?_
      rotate_left
      focus (intro z hSw; clear hSw; go_simp; try with_reducible rfl)
      try simp only [Act.put, List.setIfInBounds_toArray, List.set_cons_zero, List.set_cons_succ]
      refine wpAnyH_take (i := 1) (oi := { dst := some 14, op := Op.move (Operand.tmp 6), type := 3, pos := "ref.go:59", after := #[], guard := none }) (v := ?_) rfl (by kernel_rfl) (by kernel_rfl) (by kernel_rfl) (fun _ _ _ h => h) (Or.inl ⟨by rfl, ?_⟩) hHeld ?_
      rotate_left
      focus (intro z hSw; clear hSw; go_simp; try with_reducible rfl)
      try simp only [Act.put, List.setIfInBounds_toArray, List.set_cons_zero, List.set_cons_succ]
      refine wpAnyH_take (i := 2) (oi := { dst := some 15, op := Op.indexAddr 22 (Operand.tmp 13) (Operand.tmp 14), type := 0, pos := "ref.go:59", after := #[{ on := 0, ground := Ground.data }, { on := 1, ground := Ground.data }], guard := none }) (v := ?_) rfl (by kernel_rfl) (by kernel_rfl) (by kernel_rfl) (fun _ _ _ h => h) (Or.inl ⟨by rfl, ?_⟩) hHeld ?_
      rotate_left
      focus (intro z hSw; clear hSw; go_simp; try with_reducible rfl)
      try simp only [Act.put, List.setIfInBounds_toArray, List.set_cons_zero, List.set_cons_succ]
      refine wpAnyH_take (i := 3) (oi := { dst := some 16, op := Op.load 30 (Operand.tmp 15), type := 30, pos := "ref.go:59", after := #[{ on := 2, ground := Ground.data }], guard := none }) (v := ?_) rfl (by kernel_rfl) (by kernel_rfl) (by kernel_rfl) (fun _ _ _ h => h) (Or.inl ⟨by rfl, ?_⟩) hHeld ?_
      rotate_left
      focus (intro z hSw; have hcz := hSw.cell C.out (by simp); clear hSw; go_simp; try with_reducible rfl)
      try simp only [Act.put, List.setIfInBounds_toArray, List.set_cons_zero, List.set_cons_succ]
      refine wpAnyH_take (i := 4) (oi := { dst := some 17, op := Op.load 25 (Operand.tmp 3), type := 25, pos := "ref.go:59", after := #[], guard := none }) rfl (by kernel_rfl) (by kernel_rfl) (by kernel_rfl) (fun _ _ _ h => h) (yieldsIf_ld (by rfl) 25 _ rfl _ rfl (fun z hSw => load25 (hSw.heap X.out (by simp)))) hHeld ?_
      try simp only [Act.put, List.setIfInBounds_toArray, List.set_cons_zero, List.set_cons_succ]
      refine wpAnyH_ready (rs := [5]) (by kernel_rfl) (by simp) ?_
      refine AllReadyH.cons (o := { dst := some 18, op := Op.call { callee := Callee.value (Operand.func 50), args := #[Operand.tmp 16, Operand.tmp 17], argTypes := #[30, 25] }, type := 4, pos := "ref.go:59", after := #[{ on := 3, ground := Ground.data }, { on := 4, ground := Ground.data }], guard := none }) rfl (fun K hK => ?_) AllReadyH.nil
      go_simp
      refine (RefHas_any _ l s1 x _ (S1.out.keep hHeld (by simp)) LL.out).mono ?_
      rintro e w4 ⟨rfl, f4⟩
      refine hK.out _ _ ?_ (fun hNext => ?_)
      · exact hHeld.trans f4 (by simp)
      clear hK K hHeld
      have hHeld := hNext
      clear hNext
      try simp only [Act.put, List.setIfInBounds_toArray, List.set_cons_zero, List.set_cons_succ]
      refine wpAnyH_done (by kernel_rfl) ?_ _
      have X1 := Lib.hid (hHeld.heap X.out (by simp))
      have F1 := Lib.hid (F.out.trans hHeld (by simp))
      have O1 := Lib.hid (O.out.keep0 hHeld)
      clear hHeld f4
      cases hq : decide (x ∈ l) with
      | false =>
        have HN := Lib.hid (show who L x (k + 1) = wl by rw [WS.out, if_neg (of_decide_eq_false hq), List.append_nil])
        clear hq
        go_wp2_with fail
        go_roundw
        case rel => exact ⟨X1.out, F1.out, k + 1, by omega, by go_num, sp, by rw [HN.out]; exact O1.out, NF.out⟩
        case measure => simp [intOf]; omega
      | true =>
        have HN := Lib.hid (show who L x (k + 1) = wl ++ [(k : Int)] by rw [WS.out, if_pos (of_decide_eq_true hq)])
        clear hq
        have f1 : Frm [] w4 (w4.alloc (.cells #[.int .i64 (k : Int)] 3)) := (Frm.refl [] w4).alloc _
        have F2 := Lib.hid (F1.out.trans f1 (by simp))
        have O2 := Lib.hid (O1.out.keep0 f1)
        have I1 := Lib.hid (one_int w4 (k : Int))
        have X2 := Lib.hid (f1.heap X1.out (by simp))
        clear f1
        go_wp2_with (at_builtin; refine Kr.wpList_append_e encI tysI O2.out I1.out (by have := WL.out; simp; omega) (by decide) rfl (.tmp 19) (.tmp 21) rfl rfl rfl ?_; intro a6 cap6 w6 sp6 o6 f6 n6)
        have hfw : w.heap.size ≤ (w4.alloc (.cells #[.int .i64 (k : Int)] 3)).heap.size := F2.out.size
        have O6 := Lib.hid (show GotI (who L x (k + 1)) w (.slice a6 (wl.length + 1) cap6) w6 from ⟨sp6, by rw [HN.out]; exact o6, fun i hi => by
          rcases n6 i hi with h | h
          · exact NF.out i h
          · omega⟩)
        have F6 := Lib.hid (F2.out.trans f6 (fun i hi => .inr (NF.out i hi)))
        have hob := own_blk O2.out
        have q2 : g0 ∉ blk (.slice b5 wl.length c5) := fun h => by obtain ⟨cs, hc⟩ := hob _ h; rw [X2.out] at hc; cases hc
        have X6 := Lib.hid (f6.heap X2.out q2)
        clear o6 f6 n6 q2 hob
        go_wp2_with fail
        go_roundw
        case rel => exact ⟨X6.out, F6.out, k + 1, by omega, by go_num, O6.out⟩
        case measure => simp [intOf]; omega
    · obtain rfl : k = L.length := by omega
      clear hx0 f o nf hws hwl hwl2
      go_wp2_with fail
      go_ret
      exact ⟨_, sp, rfl, by rw [W2.out]; exact O.out, F.out, NF.out⟩
end Go.Proofs.Ytafedmahehbggaa
