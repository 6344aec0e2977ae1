/-
  The walk of UsageCounts. No conditions but those that each theorem names.
-/
import Derived.Test.YtafedmahehbggaaVI
import Derived.Test.YtafedmahehbggaaVE
import Derived.Test.YtafedmahehbggaaVH
namespace Go.Proofs.Ytafedmahehbggaa
open Go.RowKit Go.Sort Go.Maps
set_option linter.unusedVariables false
set_option linter.unusedSimpArgs false
set_option maxRecDepth 100000

open Kr (OwnE SlE Enco RowTys)
def fU (L : List (List Ad)) (i : Nat) : Nat := (freedU L [(i : Int)]).length
def gU (L : List (List Ad)) (i : Nat) : Nat := (sharedU L [(i : Int)]).length
theorem fU_le {L : List (List Ad)} (h : Hs L) (i : Nat) : fU L i ≤ 64000 := fl_len h _
theorem gU_le {L : List (List Ad)} (h : Hs L) (i : Nat) : gU L i ≤ 64000 := fl_len h _
def C1 (L : List (List Ad)) (w : World) (a b c : Value) (wr : World) : Prop := ∃ k : Nat, k ≤ L.length ∧ c = .int .i64 k ∧ a = .int .i64 ((cntUp (fU L) k : Nat) : Int) ∧ b = .int .i64 ((cntUp (gU L) k : Nat) : Int) ∧ Frm [] w wr
def one1 (L : List (List Ad)) (k : Nat) : Nat := (((allU L).take k).filter fun x => decide (wn L x = 1)).length
def held (L : List (List Ad)) (k : Nat) : Nat := (((allU L).take k).map (wn L)).sum
def C2 (L : List (List Ad)) (A0 : Nat) (w : World) (a h c : Value) (wr : World) : Prop := ∃ k : Nat, k ≤ (allU L).length ∧ c = .int .i64 k ∧ a = .int .i64 ((A0 : Int) - ((one1 L k : Nat) : Int)) ∧ h = .int .i64 ((held L k : Nat) : Int) ∧ Frm [] w wr
theorem one1_succ (L : List (List Ad)) (k : Nat) (hk : k < (allU L).length) : one1 L (k + 1) = one1 L k + if wn L (allU L)[k] = 1 then 1 else 0 := by
  unfold one1
  rw [setOf_step _ k hk, List.filter_append, List.length_append]
  congr 1
  by_cases h : wn L (allU L)[k] = 1 <;> simp [h]
theorem held_succ (L : List (List Ad)) (k : Nat) (hk : k < (allU L).length) : held L (k + 1) = held L k + wn L (allU L)[k] := by
  unfold held
  rw [setOf_step _ k hk, List.map_append, List.sum_append]
  simp
theorem one1_le (L : List (List Ad)) (k : Nat) : one1 L k ≤ (allU L).length := by
  have h1 := List.length_filter_le (fun x => decide (wn L x = 1)) ((allU L).take k)
  have h2 : ((allU L).take k).length ≤ (allU L).length := by simp; omega
  unfold one1; omega
theorem wn_le {L : List (List Ad)} (h : Hs L) (x : Ad) : wn L x ≤ 64 := by have := who_len L x L.length; have := h.n; unfold wn; omega
theorem held_le {L : List (List Ad)} (h : Hs L) : ∀ k, k ≤ (allU L).length → held L k ≤ k * 64
  | 0, _ => by simp [held]
  | k + 1, hk => by
    have ih := held_le h k (by omega)
    rw [held_succ L k (by omega), Nat.succ_mul]
    have := wn_le h (allU L)[k]
    omega
theorem in_shared {L : List (List Ad)} {s : List Int} {x : Ad} (h : x ∈ sharedU L s) {z : Int} (hz : z ∈ s) (h0 : 0 ≤ z) (hn : z < L.length) : x ∈ L.getD z.toNat [] :=
  (mem_sharedU.1 h).2 z.toNat (by omega) (by unfold amg; exact decide_eq_true (by rw [Int.toNat_of_nonneg h0]; exact hz))
theorem load25at {w : World} {b o : Nat} {x : Ad} (h0 : w.cell? ⟨b, o, none⟩ = some (.int .i64 x.1)) (h1 : w.cell? ⟨b, o + 1, none⟩ = some (.int .i64 x.2)) : (Instr.loadAt 25 (.pointer (some ⟨b, o, none⟩))).run Try.prog w = .ok (av x) w :=
  run_loadAt_mid w b o 25 (ea x) _ (fun j u hu => by
    match j with
    | 0 => simp [ea] at hu; subst hu; exact h0
    | 1 => simp [ea] at hu; subst hu; exact h1
    | k + 2 => simp [ea] at hu) Try.underlying25 rfl (by rw [i25]; rfl)
theorem Has_true (v : Value) (l sp : List Ad) (x : Ad) (w : World) (hS : SlA w v l sp) (hl : l.length ≤ 100000) (h : x ∈ l) :
    Calls Try.prog 33 #[v, av x] w fun e w' => e = .returned (.bool true) ∧ Frm [] w w' := by
  refine (Has_any v l sp x w hS hl).mono ?_
  rintro e w' ⟨rfl, f⟩
  rw [decide_eq_true h]
  exact ⟨rfl, f⟩
set_option maxHeartbeats 16000000 in
theorem counts_law (v : Value) (L : List (List Ad)) (sv : Value) (s : List Int) (ssp : List Value) (w : World) (hS : LsA w v L) (hw : ∀ l ∈ L, ∀ x ∈ l, WfA x) (hI : SlI w sv s ssp) (hwI : ∀ z ∈ s, -9223372036854775808 ≤ z ∧ z ≤ 9223372036854775807) :
    Calls Try.prog 6 #[v, sv] w (Yes w) := by
  have HS := Lib.hid hS
  have HI := Lib.hid hI
  have WF := Lib.hid hw
  obtain ⟨a, cap, rfl, _⟩ := hS.form
  obtain ⟨sa, scap, rfl, _, _⟩ := SlE.form hI
  clear hS hI hw hwI
  go_enter Try.func6, Try.ntmps6
  go_wp2_with fail
  refine (awake_any _).mono ?_
  rintro e w1 ⟨rfl, f1⟩
  have F1 := Lib.hid f1
  clear f1
  go_wp2_with fail
  refine (long_any L _ _ s ssp _ (HS.out.keep0 F1.out) (HI.out.keep0 F1.out)).mono ?_
  rintro e w2 ⟨b, rfl, f2, hb⟩
  have F2 := Lib.hid (F1.out.trans f2 (by simp))
  clear f2 F1
  cases b with
  | true =>
    clear hb
    go_wp2_with fail
    go_ret
    exact ⟨rfl, F2.out⟩
  | false =>
    have HL := Lib.hid (long2 (hb rfl) WF.out)
    have SN := Lib.hid (hb rfl).2.2
    have hL9 : (L.length : Int) ≤ 64 := by have := (hb rfl).2.1; omega
    have hs9 : (s.length : Int) ≤ 40 := by have := (hb rfl).2.2; omega
    clear hb
    go_wp2_with fail
    refine (All_any L _ _ (HS.out.keep0 F2.out) HL.out).mono ?_
    rintro e w3 ⟨v3, sp3, rfl, o3, f3, n3⟩
    obtain ⟨a3, c3, rfl, _, _⟩ := o3.sl.form
    have F3 := Lib.hid (F2.out.trans f3 (by simp))
    have AL := Lib.hid o3
    have NL := Lib.hid (show (allU L).length ≤ 64000 from fl_len HL.out _)
    have hA9 : ((allU L).length : Int) ≤ 64000 := by have := NL.out; omega
    clear o3 f3 n3 F2
    go_wp2_with fail
    go_loopw [7, 8, 10] (C1 L w3) (fun _ _ c _ => L.length - (intOf c).toNat)
    case atStart => exact ⟨0, by omega, rfl, rfl, rfl, Frm.refl _ _⟩
    case round =>
      obtain ⟨k, hk, rfl, rfl, rfl, f⟩ := hrel
      have F := Lib.hid f
      by_cases hlt : k < L.length
      · have hf := fU_le HL.out k
        have hg := gU_le HL.out k
        have hcf := cntUp_le (fU_le HL.out) k
        have hcg := cntUp_le (gU_le HL.out) k
        have hkm := Nat.mul_le_mul_right 64000 (show k ≤ 64 by have := HL.out.n; omega)
        have ef : cntUp (fU L) (k + 1) = cntUp (fU L) k + fU L k := rfl
        have eg : cntUp (gU L) (k + 1) = cntUp (gU L) k + gU L k := rfl
        obtain ⟨p, hp⟩ : ∃ p, fU L k = p := ⟨_, rfl⟩
        obtain ⟨q, hq⟩ : ∃ q, gU L k = q := ⟨_, rfl⟩
        rw [hp] at hf ef
        rw [hq] at hg eg
        have HP := Lib.hid (show (freedU L [(k : Int)]).length = p from hp)
        have HQ := Lib.hid (show (sharedU L [(k : Int)]).length = q from hq)
        obtain ⟨x, hx⟩ : ∃ x, cntUp (fU L) k = x := ⟨_, rfl⟩
        obtain ⟨y, hy⟩ : ∃ y, cntUp (gU L) k = y := ⟨_, rfl⟩
        rw [hx] at hcf ef ⊢
        rw [hy] at hcg eg ⊢
        have EF := Lib.hid ef
        have EG := Lib.hid eg
        have h1 : IntKind.i64.wrap ((x : Int) + (p : Int)) = (x : Int) + (p : Int) := IntWalk.i64_in _ (by omega)
        have h2 : IntKind.i64.wrap ((y : Int) + (q : Int)) = (y : Int) + (q : Int) := IntWalk.i64_in _ (by omega)
        clear hp hq hf hg hcf hcg hkm ef eg hx hy f
        go_wp2_with fail
        refine (Unique_any L _ (k : Int) _ (HS.out.keep0 (F3.out.trans F.out (by simp))) HL.out).mono ?_
        rintro e w4 ⟨v4, sp4, rfl, o4, f4, n4⟩
        obtain ⟨a4, c4, rfl, _, _⟩ := o4.sl.form
        rw [HP.out]
        have F4 := Lib.hid (F.out.trans f4 (by simp))
        clear o4 f4 n4
        have HR := Lib.hid (Referenced_any L _ (k : Int) _ (HS.out.keep0 (F3.out.trans F4.out (by simp))) HL.out)
        rw [HQ.out] at HR
        go_wp2_with fail
        refine HR.out.mono ?_
        rintro e w5 ⟨rfl, f5⟩
        have F5 := Lib.hid (F4.out.trans f5 (by simp))
        clear f5 HR
        go_wp2_with fail
        go_roundw
        case rel => exact ⟨k + 1, by omega, by go_num, by rw [EF.out]; go_num, by rw [EG.out]; go_num, F5.out⟩
        case measure => simp [intOf]; omega
      · obtain rfl : k = L.length := by omega
        have hsf : cntUp (fU L) L.length = ((allU L).filter fun x => decide (wn L x = 1)).length := sum_freed L
        have hsg : cntUp (gU L) L.length = ((allU L).map (wn L)).sum := sum_shared L
        have hA0 : cntUp (fU L) L.length ≤ 64000 := by rw [hsf]; have := List.length_filter_le (fun x => decide (wn L x = 1)) (allU L); have := NL.out; omega
        obtain ⟨A0, h0⟩ : ∃ x, cntUp (fU L) L.length = x := ⟨_, rfl⟩
        obtain ⟨B0, hB0⟩ : ∃ x, cntUp (gU L) L.length = x := ⟨_, rfl⟩
        rw [h0] at hsf hA0 ⊢
        rw [hB0] at hsg ⊢
        have SF := Lib.hid hsf
        have SG := Lib.hid hsg
        have A9 := Lib.hid hA0
        clear hsf hsg hA0 h0 hB0 f
        go_wp2_with fail
        go_loopw [7, 9, 11] (C2 L A0 w3) (fun _ _ c _ => (allU L).length - (intOf c).toNat)
        case atStart => exact ⟨0, by omega, rfl, by simp [one1], rfl, F.out⟩
        case round =>
          obtain ⟨k, hk, rfl, rfl, rfl, f⟩ := hrel
          have F2 := Lib.hid f
          by_cases hlt : k < (allU L).length
          · obtain ⟨b0, off, rfl⟩ := AL.out.sl.at (by omega)
            obtain ⟨c0, c1⟩ := (AL.out.sl.keep f (by simp)).cells k hlt
            have hmem : (allU L)[k] ∈ allU L := List.getElem_mem hlt
            have hpos := wn_pos hmem
            have hle := wn_le HL.out (allU L)[k]
            have h1s := one1_succ L k hlt
            have h2s := held_succ L k hlt
            have h1l := one1_le L k
            have h2l := held_le HL.out k (by omega)
            have hwx : WfA (allU L)[k] := by obtain ⟨i, hi⟩ := mem_allU.1 hmem; exact HL.out.wf hi
            generalize (allU L)[k] = x at *
            have HH := Holders_any L _ x _ (HS.out.keep0 (F3.out.trans F2.out (by simp))) HL.out hwx
            have HW := Lib.hid (show (who L x L.length).length = wn L x from rfl)
            unfold av at HH
            have HH2 := Lib.hid HH
            obtain ⟨n, hn⟩ : ∃ n, wn L x = n := ⟨_, rfl⟩
            rw [hn] at hpos hle h1s h2s HW
            obtain ⟨y, hy⟩ : ∃ y, one1 L k = y := ⟨_, rfl⟩
            obtain ⟨z, hz⟩ : ∃ z, held L k = z := ⟨_, rfl⟩
            rw [hy] at h1s h1l ⊢
            rw [hz] at h2s h2l ⊢
            have E1 := Lib.hid h1s
            have E2 := Lib.hid h2s
            have hkz : k * 64 ≤ 64000 * 64 := Nat.mul_le_mul_right 64 (by omega)
            have w1 : IntKind.i64.wrap ((z : Int) + (n : Int)) = (z : Int) + (n : Int) := IntWalk.i64_in _ (by omega)
            have w2 : IntKind.i64.wrap ((A0 : Int) - (y : Int) - 1) = (A0 : Int) - (y : Int) - 1 := IntWalk.i64_in _ (by have := A9.out; have := NL.out; omega)
            have hn0 : ((n : Int) == 0) = false := by simp; omega
            clear hmem hn hy hz f HH h1s h2s h1l h2l hkz hwx
            go_wp2_with fail
            refine HH2.out.mono ?_
            rintro e w4 ⟨v4, sp4, rfl, o4, f4, n4⟩
            obtain ⟨a4, c4, rfl, _, _⟩ := SlE.form (OwnE.sl o4)
            rw [HW.out]
            have F4 := Lib.hid (F2.out.trans f4 (by simp))
            clear o4 f4 n4 c0 c1
            by_cases hone : n = 1
            · have E3 := Lib.hid (show one1 L (k + 1) = y + 1 by rw [E1.out, if_pos hone])
              have E4 := Lib.hid (show held L (k + 1) = z + 1 by rw [E2.out, hone])
              have w3 : IntKind.i64.wrap ((z : Int) + 1) = (z : Int) + 1 := by have h := w1; rw [hone] at h; exact h
              clear w1
              subst hone
              go_wp2_with fail
              go_roundw
              case rel => exact ⟨k + 1, by omega, by go_num, by rw [E3.out]; congr 1; omega, by rw [E4.out]; congr 1, F4.out⟩
              case measure => simp [intOf]; omega
            · have hn1 : ((n : Int) == 1) = false := by simp; omega
              go_wp2_with fail
              go_roundw
              case rel => exact ⟨k + 1, by omega, by go_num, by rw [E1.out, if_neg hone]; rfl, by rw [E2.out]; congr 1, F4.out⟩
              case measure => simp [intOf]; omega
          · obtain rfl : k = (allU L).length := by omega
            have hone : one1 L (allU L).length = A0 := by rw [SF.out, one1, List.take_length]
            have hheld : held L (allU L).length = B0 := by rw [SG.out, held, List.take_length]
            rw [hone, hheld, show (A0 : Int) - (A0 : Int) = 0 by omega]
            clear f hone hheld
            go_wp2_with fail
            have hsl := (bound_all HL.out (fun x => anyU L.length s && decide (∀ i, i < L.length → amg s i = true → x ∈ L.getD i []))).1
            have SHL := Lib.hid (show (sharedU L s).length ≤ 64000 from hsl)
            clear hsl
            refine (Shared_any L _ _ s ssp _ (HS.out.keep0 (F3.out.trans F2.out (by simp))) HL.out (HI.out.keep0 (F3.out.trans F2.out (by simp))) (by have := SN.out; omega)).mono ?_
            rintro e w8 ⟨v8, sp8, rfl, o8, f8, n8⟩
            obtain ⟨a8, c8, rfl, _, _⟩ := o8.sl.form
            have F8 := Lib.hid (F2.out.trans f8 (by simp))
            have SH := Lib.hid o8
            have IS := Lib.hid (fun x (hx : x ∈ sharedU L s) z (hz : z ∈ s) h0 hn => in_shared (L := L) hx (z := z) hz h0 hn)
            have WS := Lib.hid (fun x (hx : x ∈ sharedU L s) => (bound_all HL.out (fun x => anyU L.length s && decide (∀ i, i < L.length → amg s i = true → x ∈ L.getD i []))).2 x hx)
            obtain ⟨R, hR⟩ : ∃ R, sharedU L s = R := ⟨_, rfl⟩
            rw [hR] at SH SHL IS WS ⊢
            have hR9 : (R.length : Int) ≤ 64000 := by have := SHL.out; omega
            clear o8 f8 n8 hR
            go_wp2_with fail
            go_loopw [14] (fun c wr => ∃ k : Nat, k ≤ R.length ∧ c = .int .i64 k ∧ Frm [] w8 wr) (fun c _ => R.length - (intOf c).toNat)
            case atStart => exact ⟨0, by omega, rfl, Frm.refl _ _⟩
            case round =>
              obtain ⟨i, hi, rfl, f⟩ := hrel
              have F9 := Lib.hid f
              by_cases hlt3 : i < R.length
              · have hmem : R[i] ∈ R := List.getElem_mem hlt3
                have hcell := fun wz (fz : Frm [] w8 wz) => fun b off cp (hb : (Value.slice a8 R.length c8) = .slice (some ⟨b, off, none⟩) R.length cp) => by
                  have := SH.out.sl.keep fz (by simp)
                  rw [hb] at this
                  exact this.cells i hlt3
                have his := IS.out _ hmem
                obtain ⟨b8, off8, rfl⟩ := SH.out.sl.at (by omega)
                have hcell2 := fun wz (fz : Frm [] w8 wz) => hcell wz fz b8 off8 c8 rfl
                generalize R[i] = x at *
                have HC := Lib.hid hcell2
                have HIS := Lib.hid his
                clear hmem hcell hcell2 his f
                go_wp2_with fail
                go_loopw [15] (fun c wr => ∃ k : Nat, k ≤ s.length ∧ c = .int .i64 k ∧ Frm [] w8 wr) (fun c _ => s.length - (intOf c).toNat)
                case atStart => exact ⟨0, by omega, rfl, F9.out⟩
                case round =>
                  obtain ⟨k, hk, rfl, f⟩ := hrel
                  have F10 := Lib.hid f
                  by_cases hlt4 : k < s.length
                  · obtain ⟨bs, offs, rfl⟩ := SlE.at (enc := iE) (k := 1) HI.out (by omega)
                    have FW := Lib.hid (F3.out.trans (F8.out.trans f (by simp)) (by simp))
                    have c0 := cellI (HI.out.keep0 FW.out) k hlt4
                    have hz := HIS.out s[k] (List.getElem_mem hlt4)
                    generalize s[k] = z at *
                    have HZ := Lib.hid hz
                    clear f hz
                    by_cases hz0 : 0 ≤ z
                    · by_cases hz1 : z < (L.length : Int)
                      · obtain ⟨b0, off, rfl⟩ := HS.out.at (by omega)
                        obtain ⟨c, s1, hc0, hsl1⟩ := HS.out.cell z.toNat (by omega)
                        have hin := HZ.out hz0 hz1
                        rw [getD_at (show z.toNat < L.length by omega)] at hin
                        have hll := HL.out.l _ (List.getElem_mem (show z.toNat < L.length by omega))
                        generalize L[z.toNat] = l at *
                        obtain ⟨la, lc, rfl, _, _⟩ := hsl1.form
                        have CC := Lib.hid (FW.out.cell hc0 (by simp))
                        have C0 := Lib.hid c0
                        have SL := Lib.hid (hsl1.keep FW.out (by simp))
                        have IN := Lib.hid hin
                        have LL := Lib.hid (show l.length ≤ 100000 by omega)
                        clear c0 hc0 hsl1 hin hll
                        go_upto_region 27 with (fail)
                        refine wp_region_held_drew (S := fun z => Frm [] wr z) (by kernel_rfl) ((Frm.refl [] wr).drew) (fun hHeld => ?_)
                        refine wpAnyH_take (i := 0) (oi := { dst := some 79, op := Op.move (Operand.tmp 1), type := 23, pos := "outright.go:96", after := #[], guard := none }) (v := ?_) rfl (by kernel_rfl) (by kernel_rfl) (by kernel_rfl) (fun _ _ _ h => h) (Or.inl ⟨by rfl, ?_⟩) hHeld ?_
                        rotate_left
                        focus (intro z hSw; clear hSw; go_simp; try with_reducible rfl)
                        try simp only [Act.put, List.setIfInBounds_toArray, List.set_cons_zero, List.set_cons_succ]
                        refine wpAnyH_take (i := 1) (oi := { dst := some 80, op := Op.move (Operand.tmp 15), type := 3, pos := "outright.go:96", after := #[], guard := none }) (v := ?_) rfl (by kernel_rfl) (by kernel_rfl) (by kernel_rfl) (fun _ _ _ h => h) (Or.inl ⟨by rfl, ?_⟩) hHeld ?_
                        rotate_left
                        focus (intro z hSw; clear hSw; go_simp; try with_reducible rfl)
                        try simp only [Act.put, List.setIfInBounds_toArray, List.set_cons_zero, List.set_cons_succ]
                        refine wpAnyH_take (i := 2) (oi := { dst := some 81, op := Op.indexAddr 23 (Operand.tmp 79) (Operand.tmp 80), type := 0, pos := "outright.go:96", after := #[{ on := 0, ground := Ground.data }, { on := 1, ground := Ground.data }], guard := none }) (v := ?_) rfl (by kernel_rfl) (by kernel_rfl) (by kernel_rfl) (fun _ _ _ h => h) (Or.inl ⟨by rfl, ?_⟩) hHeld ?_
                        rotate_left
                        focus (intro z hSw; clear hSw; go_simp; try with_reducible rfl)
                        try simp only [Act.put, List.setIfInBounds_toArray, List.set_cons_zero, List.set_cons_succ]
                        refine wpAnyH_take (i := 3) (oi := { dst := some 82, op := Op.load 3 (Operand.tmp 81), type := 3, pos := "outright.go:96", after := #[{ on := 2, ground := Ground.data }], guard := none }) (v := ?_) rfl (by kernel_rfl) (by kernel_rfl) (by kernel_rfl) (fun _ _ _ h => h) (Or.inl ⟨by rfl, ?_⟩) hHeld ?_
                        rotate_left
                        focus (intro z hSw; have hc0 := hSw.cell C0.out (by simp); have hcc := hSw.cell CC.out (by simp); clear hSw; go_simp; try with_reducible rfl)
                        try simp only [Act.put, List.setIfInBounds_toArray, List.set_cons_zero, List.set_cons_succ]
                        refine wpAnyH_take (i := 4) (oi := { dst := some 83, op := Op.binOp BinOp.geq 3 (Operand.tmp 82) (Operand.const (Value.int IntKind.i64 0)) 3, type := 4, pos := "outright.go:96", after := #[{ on := 3, ground := Ground.data }], guard := none }) (v := ?_) rfl (by kernel_rfl) (by kernel_rfl) (by kernel_rfl) (fun _ _ _ h => h) (Or.inl ⟨by rfl, ?_⟩) hHeld ?_
                        rotate_left
                        focus (intro z hSw; clear hSw; go_simp; try with_reducible rfl)
                        try simp only [Act.put, List.setIfInBounds_toArray, List.set_cons_zero, List.set_cons_succ]
                        refine wpAnyH_take (i := 5) (oi := { dst := some 84, op := Op.move (Operand.tmp 83), type := 4, pos := "outright.go:96", after := #[{ on := 4, ground := Ground.data }], guard := none }) (v := ?_) rfl (by kernel_rfl) (by kernel_rfl) (by kernel_rfl) (fun _ _ _ h => h) (Or.inl ⟨by rfl, ?_⟩) hHeld ?_
                        rotate_left
                        focus (intro z hSw; clear hSw; go_simp; try with_reducible rfl)
                        try simp only [Act.put, List.setIfInBounds_toArray, List.set_cons_zero, List.set_cons_succ]
                        refine wpAnyH_take (i := 6) (oi := { dst := some 85, op := Op.move (Operand.tmp 1), type := 23, pos := "outright.go:96", after := #[{ on := 5, ground := Ground.guard }], guard := some (5, true) }) (v := ?_) rfl (by kernel_rfl) (by kernel_rfl) (by kernel_rfl) (fun _ _ _ h => h) (Or.inl ⟨by rfl, ?_⟩) hHeld ?_
                        rotate_left
                        focus (intro z hSw; clear hSw; go_simp; try with_reducible rfl)
                        try simp only [Act.put, List.setIfInBounds_toArray, List.set_cons_zero, List.set_cons_succ]
                        refine wpAnyH_take (i := 7) (oi := { dst := some 86, op := Op.move (Operand.tmp 15), type := 3, pos := "outright.go:96", after := #[{ on := 5, ground := Ground.guard }], guard := some (5, true) }) (v := ?_) rfl (by kernel_rfl) (by kernel_rfl) (by kernel_rfl) (fun _ _ _ h => h) (Or.inl ⟨by rfl, ?_⟩) hHeld ?_
                        rotate_left
                        focus (intro z hSw; clear hSw; go_simp; try with_reducible rfl)
                        try simp only [Act.put, List.setIfInBounds_toArray, List.set_cons_zero, List.set_cons_succ]
                        refine wpAnyH_take (i := 8) (oi := { dst := some 87, op := Op.indexAddr 23 (Operand.tmp 85) (Operand.tmp 86), type := 0, pos := "outright.go:96", after := #[{ on := 6, ground := Ground.data }, { on := 7, ground := Ground.data }, { on := 5, ground := Ground.guard }], guard := some (5, true) }) (v := ?_) rfl (by kernel_rfl) (by kernel_rfl) (by kernel_rfl) (fun _ _ _ h => h) (Or.inl ⟨by rfl, ?_⟩) hHeld ?_
                        rotate_left
                        focus (intro z hSw; clear hSw; go_simp; try with_reducible rfl)
                        try simp only [Act.put, List.setIfInBounds_toArray, List.set_cons_zero, List.set_cons_succ]
                        refine wpAnyH_take (i := 9) (oi := { dst := some 88, op := Op.load 3 (Operand.tmp 87), type := 3, pos := "outright.go:96", after := #[{ on := 8, ground := Ground.data }, { on := 5, ground := Ground.guard }], guard := some (5, true) }) (v := ?_) rfl (by kernel_rfl) (by kernel_rfl) (by kernel_rfl) (fun _ _ _ h => h) (Or.inl ⟨by rfl, ?_⟩) hHeld ?_
                        rotate_left
                        focus (intro z hSw; have hc0 := hSw.cell C0.out (by simp); have hcc := hSw.cell CC.out (by simp); clear hSw; go_simp; try with_reducible rfl)
                        try simp only [Act.put, List.setIfInBounds_toArray, List.set_cons_zero, List.set_cons_succ]
                        refine wpAnyH_take (i := 10) (oi := { dst := some 89, op := Op.move (Operand.tmp 0), type := 22, pos := "outright.go:96", after := #[{ on := 5, ground := Ground.guard }], guard := some (5, true) }) (v := ?_) rfl (by kernel_rfl) (by kernel_rfl) (by kernel_rfl) (fun _ _ _ h => h) (Or.inl ⟨by rfl, ?_⟩) hHeld ?_
                        rotate_left
                        focus (intro z hSw; clear hSw; go_simp; try with_reducible rfl)
                        try simp only [Act.put, List.setIfInBounds_toArray, List.set_cons_zero, List.set_cons_succ]
                        refine wpAnyH_take (i := 11) (oi := { dst := some 90, op := Op.call { callee := Callee.builtin Builtin.len, args := #[Operand.tmp 89], argTypes := #[22] }, type := 3, pos := "outright.go:96", after := #[{ on := 10, ground := Ground.data }, { on := 5, ground := Ground.guard }], guard := some (5, true) }) (v := ?_) rfl (by kernel_rfl) (by kernel_rfl) (by kernel_rfl) (fun _ _ _ h => h) (Or.inl ⟨by rfl, ?_⟩) hHeld ?_
                        rotate_left
                        focus (intro z hSw; clear hSw; go_simp; try with_reducible rfl)
                        try simp only [Act.put, List.setIfInBounds_toArray, List.set_cons_zero, List.set_cons_succ]
                        refine wpAnyH_take (i := 12) (oi := { dst := some 91, op := Op.binOp BinOp.lss 3 (Operand.tmp 88) (Operand.tmp 90) 3, type := 4, pos := "outright.go:96", after := #[{ on := 9, ground := Ground.data }, { on := 11, ground := Ground.data }, { on := 5, ground := Ground.guard }], guard := some (5, true) }) (v := ?_) rfl (by kernel_rfl) (by kernel_rfl) (by kernel_rfl) (fun _ _ _ h => h) (Or.inl ⟨by rfl, ?_⟩) hHeld ?_
                        rotate_left
                        focus (intro z hSw; clear hSw; go_simp; try with_reducible rfl)
                        try simp only [Act.put, List.setIfInBounds_toArray, List.set_cons_zero, List.set_cons_succ]
                        refine wpAnyH_take (i := 13) (oi := { dst := some 92, op := Op.pick (Operand.tmp 84) (Operand.tmp 91) (Operand.const (Value.bool false)), type := 4, pos := "outright.go:96", after := #[{ on := 5, ground := Ground.data }, { on := 12, ground := Ground.data }], guard := none }) (v := ?_) rfl (by kernel_rfl) (by kernel_rfl) (by kernel_rfl) (fun _ _ _ h => h) (Or.inl ⟨by rfl, ?_⟩) hHeld ?_
                        rotate_left
                        focus (intro z hSw; clear hSw; go_simp; try with_reducible rfl)
                        try simp only [Act.put, List.setIfInBounds_toArray, List.set_cons_zero, List.set_cons_succ]
                        refine wpAnyH_take (i := 14) (oi := { dst := some 93, op := Op.move (Operand.tmp 92), type := 4, pos := "outright.go:96", after := #[{ on := 13, ground := Ground.data }, { on := 5, ground := Ground.chain }], guard := none }) (v := ?_) rfl (by kernel_rfl) (by kernel_rfl) (by kernel_rfl) (fun _ _ _ h => h) (Or.inl ⟨by rfl, ?_⟩) hHeld ?_
                        rotate_left
                        focus (intro z hSw; clear hSw; go_simp; try with_reducible rfl)
                        try simp only [Act.put, List.setIfInBounds_toArray, List.set_cons_zero, List.set_cons_succ]
                        refine wpAnyH_take (i := 15) (oi := { dst := some 94, op := Op.move (Operand.tmp 0), type := 22, pos := "outright.go:96", after := #[{ on := 14, ground := Ground.guard }], guard := some (14, true) }) (v := ?_) rfl (by kernel_rfl) (by kernel_rfl) (by kernel_rfl) (fun _ _ _ h => h) (Or.inl ⟨by rfl, ?_⟩) hHeld ?_
                        rotate_left
                        focus (intro z hSw; clear hSw; go_simp; try with_reducible rfl)
                        try simp only [Act.put, List.setIfInBounds_toArray, List.set_cons_zero, List.set_cons_succ]
                        refine wpAnyH_take (i := 16) (oi := { dst := some 95, op := Op.move (Operand.tmp 1), type := 23, pos := "outright.go:96", after := #[{ on := 14, ground := Ground.guard }], guard := some (14, true) }) (v := ?_) rfl (by kernel_rfl) (by kernel_rfl) (by kernel_rfl) (fun _ _ _ h => h) (Or.inl ⟨by rfl, ?_⟩) hHeld ?_
                        rotate_left
                        focus (intro z hSw; clear hSw; go_simp; try with_reducible rfl)
                        try simp only [Act.put, List.setIfInBounds_toArray, List.set_cons_zero, List.set_cons_succ]
                        refine wpAnyH_take (i := 17) (oi := { dst := some 96, op := Op.move (Operand.tmp 15), type := 3, pos := "outright.go:96", after := #[{ on := 14, ground := Ground.guard }], guard := some (14, true) }) (v := ?_) rfl (by kernel_rfl) (by kernel_rfl) (by kernel_rfl) (fun _ _ _ h => h) (Or.inl ⟨by rfl, ?_⟩) hHeld ?_
                        rotate_left
                        focus (intro z hSw; clear hSw; go_simp; try with_reducible rfl)
                        try simp only [Act.put, List.setIfInBounds_toArray, List.set_cons_zero, List.set_cons_succ]
                        refine wpAnyH_take (i := 18) (oi := { dst := some 97, op := Op.indexAddr 23 (Operand.tmp 95) (Operand.tmp 96), type := 0, pos := "outright.go:96", after := #[{ on := 16, ground := Ground.data }, { on := 17, ground := Ground.data }, { on := 14, ground := Ground.guard }], guard := some (14, true) }) (v := ?_) rfl (by kernel_rfl) (by kernel_rfl) (by kernel_rfl) (fun _ _ _ h => h) (Or.inl ⟨by rfl, ?_⟩) hHeld ?_
                        rotate_left
                        focus (intro z hSw; clear hSw; go_simp; try with_reducible rfl)
                        try simp only [Act.put, List.setIfInBounds_toArray, List.set_cons_zero, List.set_cons_succ]
                        refine wpAnyH_take (i := 19) (oi := { dst := some 98, op := Op.load 3 (Operand.tmp 97), type := 3, pos := "outright.go:96", after := #[{ on := 18, ground := Ground.data }, { on := 14, ground := Ground.guard }], guard := some (14, true) }) (v := ?_) rfl (by kernel_rfl) (by kernel_rfl) (by kernel_rfl) (fun _ _ _ h => h) (Or.inl ⟨by rfl, ?_⟩) hHeld ?_
                        rotate_left
                        focus (intro z hSw; have hc0 := hSw.cell C0.out (by simp); have hcc := hSw.cell CC.out (by simp); clear hSw; go_simp; try with_reducible rfl)
                        try simp only [Act.put, List.setIfInBounds_toArray, List.set_cons_zero, List.set_cons_succ]
                        refine wpAnyH_take (i := 20) (oi := { dst := some 99, op := Op.indexAddr 22 (Operand.tmp 94) (Operand.tmp 98), type := 0, pos := "outright.go:96", after := #[{ on := 15, ground := Ground.data }, { on := 19, ground := Ground.data }, { on := 14, ground := Ground.guard }], guard := some (14, true) }) (v := ?_) rfl (by kernel_rfl) (by kernel_rfl) (by kernel_rfl) (fun _ _ _ h => h) (Or.inl ⟨by rfl, ?_⟩) hHeld ?_
                        rotate_left
                        focus (intro z hSw; clear hSw; go_simp; try with_reducible rfl)
                        try simp only [Act.put, List.setIfInBounds_toArray, List.set_cons_zero, List.set_cons_succ]
                        refine wpAnyH_take (i := 21) (oi := { dst := some 100, op := Op.load 30 (Operand.tmp 99), type := 30, pos := "outright.go:96", after := #[{ on := 20, ground := Ground.data }, { on := 14, ground := Ground.guard }], guard := some (14, true) }) (v := ?_) rfl (by kernel_rfl) (by kernel_rfl) (by kernel_rfl) (fun _ _ _ h => h) (Or.inl ⟨by rfl, ?_⟩) hHeld ?_
                        rotate_left
                        focus (intro z hSw; have hc0 := hSw.cell C0.out (by simp); have hcc := hSw.cell CC.out (by simp); clear hSw; go_simp; try with_reducible rfl)
                        try simp only [Act.put, List.setIfInBounds_toArray, List.set_cons_zero, List.set_cons_succ]
                        refine wpAnyH_take (i := 22) (oi := { dst := some 101, op := Op.move (Operand.tmp 13), type := 30, pos := "outright.go:96", after := #[{ on := 14, ground := Ground.guard }], guard := some (14, true) }) (v := ?_) rfl (by kernel_rfl) (by kernel_rfl) (by kernel_rfl) (fun _ _ _ h => h) (Or.inl ⟨by rfl, ?_⟩) hHeld ?_
                        rotate_left
                        focus (intro z hSw; clear hSw; go_simp; try with_reducible rfl)
                        try simp only [Act.put, List.setIfInBounds_toArray, List.set_cons_zero, List.set_cons_succ]
                        refine wpAnyH_take (i := 23) (oi := { dst := some 102, op := Op.move (Operand.tmp 14), type := 3, pos := "outright.go:96", after := #[{ on := 14, ground := Ground.guard }], guard := some (14, true) }) (v := ?_) rfl (by kernel_rfl) (by kernel_rfl) (by kernel_rfl) (fun _ _ _ h => h) (Or.inl ⟨by rfl, ?_⟩) hHeld ?_
                        rotate_left
                        focus (intro z hSw; clear hSw; go_simp; try with_reducible rfl)
                        try simp only [Act.put, List.setIfInBounds_toArray, List.set_cons_zero, List.set_cons_succ]
                        refine wpAnyH_take (i := 24) (oi := { dst := some 103, op := Op.indexAddr 30 (Operand.tmp 101) (Operand.tmp 102), type := 0, pos := "outright.go:96", after := #[{ on := 22, ground := Ground.data }, { on := 23, ground := Ground.data }, { on := 14, ground := Ground.guard }], guard := some (14, true) }) (v := ?_) rfl (by kernel_rfl) (by kernel_rfl) (by kernel_rfl) (fun _ _ _ h => h) (Or.inl ⟨by rfl, ?_⟩) hHeld ?_
                        rotate_left
                        focus (intro z hSw; clear hSw; go_simp; try with_reducible rfl)
                        try simp only [Act.put, List.setIfInBounds_toArray, List.set_cons_zero, List.set_cons_succ]
                        refine wpAnyH_take (i := 25) (oi := { dst := some 104, op := Op.load 25 (Operand.tmp 103), type := 25, pos := "outright.go:96", after := #[{ on := 24, ground := Ground.data }, { on := 14, ground := Ground.guard }], guard := some (14, true) }) rfl (by kernel_rfl) (by kernel_rfl) (by kernel_rfl) (fun _ _ _ h => h) (yieldsIf_ld (by rfl) 25 _ rfl _ rfl (fun z hSw => (by exact load25at (x := x) ((HC.out z (F10.out.trans hSw (by simp))).1) ((HC.out z (F10.out.trans hSw (by simp))).2)))) hHeld ?_
                        try simp only [Act.put, List.setIfInBounds_toArray, List.set_cons_zero, List.set_cons_succ]
                        refine wpAnyH_ready (rs := [26]) (by kernel_rfl) (by simp) ?_
                        refine AllReadyH.cons (o := { dst := some 105, op := Op.call { callee := Callee.value (Operand.func 33), args := #[Operand.tmp 100, Operand.tmp 104], argTypes := #[30, 25] }, type := 4, pos := "outright.go:96", after := #[{ on := 21, ground := Ground.data }, { on := 25, ground := Ground.data }, { on := 14, ground := Ground.chain }, { on := 14, ground := Ground.guard }], guard := some (14, true) }) rfl (fun K hK => ?_) AllReadyH.nil
                        go_simp
                        refine (Has_true _ l s1 x _ (SL.out.keep hHeld (by simp)) LL.out IN.out).mono ?_
                        rintro e w4 ⟨rfl, f4⟩
                        refine hK.out _ _ ?_ (fun hNext => ?_)
                        · exact hHeld.trans f4 (by simp)
                        clear hK K hHeld
                        have hHeld := hNext
                        clear hNext
                        try simp only [Act.put, List.setIfInBounds_toArray, List.set_cons_zero, List.set_cons_succ]
                        refine wpAnyH_take (i := 27) (oi := { dst := some 106, op := Op.unOp UnOp.not 4 (Operand.tmp 105), type := 4, pos := "outright.go:96", after := #[{ on := 26, ground := Ground.data }, { on := 14, ground := Ground.guard }], guard := some (14, true) }) (v := ?_) rfl (by kernel_rfl) (by kernel_rfl) (by kernel_rfl) (fun _ _ _ h => h) (Or.inl ⟨by rfl, ?_⟩) hHeld ?_
                        rotate_left
                        focus (intro z hSw; clear hSw; go_simp; try with_reducible rfl)
                        try simp only [Act.put, List.setIfInBounds_toArray, List.set_cons_zero, List.set_cons_succ]
                        refine wpAnyH_take (i := 28) (oi := { dst := some 107, op := Op.pick (Operand.tmp 93) (Operand.tmp 106) (Operand.const (Value.bool false)), type := 4, pos := "outright.go:96", after := #[{ on := 14, ground := Ground.data }, { on := 27, ground := Ground.data }], guard := none }) (v := ?_) rfl (by kernel_rfl) (by kernel_rfl) (by kernel_rfl) (fun _ _ _ h => h) (Or.inl ⟨by rfl, ?_⟩) hHeld ?_
                        rotate_left
                        focus (intro z hSw; clear hSw; go_simp; try with_reducible rfl)
                        try simp only [Act.put, List.setIfInBounds_toArray, List.set_cons_zero, List.set_cons_succ]
                        refine wpAnyH_done (by kernel_rfl) ?_ _
                        have F11 := Lib.hid (F10.out.trans hHeld (by simp))
                        clear hHeld f4
                        go_wp2_with fail
                        go_roundw
                        case rel => exact ⟨k + 1, by omega, by go_num, F11.out⟩
                        case measure => simp [intOf]; omega
                      · have C0 := Lib.hid c0
                        clear c0
                        go_upto_region 27 with (fail)
                        refine wp_region_held_drew (S := fun z => Frm [] wr z) (by kernel_rfl) ((Frm.refl [] wr).drew) (fun hHeld => ?_)
                        refine wpAnyH_take (i := 0) (oi := { dst := some 79, op := Op.move (Operand.tmp 1), type := 23, pos := "outright.go:96", after := #[], guard := none }) (v := ?_) rfl (by kernel_rfl) (by kernel_rfl) (by kernel_rfl) (fun _ _ _ h => h) (Or.inl ⟨by rfl, ?_⟩) hHeld ?_
                        rotate_left
                        focus (intro z hSw; clear hSw; go_simp; try with_reducible rfl)
                        try simp only [Act.put, List.setIfInBounds_toArray, List.set_cons_zero, List.set_cons_succ]
                        refine wpAnyH_take (i := 1) (oi := { dst := some 80, op := Op.move (Operand.tmp 15), type := 3, pos := "outright.go:96", after := #[], guard := none }) (v := ?_) rfl (by kernel_rfl) (by kernel_rfl) (by kernel_rfl) (fun _ _ _ h => h) (Or.inl ⟨by rfl, ?_⟩) hHeld ?_
                        rotate_left
                        focus (intro z hSw; clear hSw; go_simp; try with_reducible rfl)
                        try simp only [Act.put, List.setIfInBounds_toArray, List.set_cons_zero, List.set_cons_succ]
                        refine wpAnyH_take (i := 2) (oi := { dst := some 81, op := Op.indexAddr 23 (Operand.tmp 79) (Operand.tmp 80), type := 0, pos := "outright.go:96", after := #[{ on := 0, ground := Ground.data }, { on := 1, ground := Ground.data }], guard := none }) (v := ?_) rfl (by kernel_rfl) (by kernel_rfl) (by kernel_rfl) (fun _ _ _ h => h) (Or.inl ⟨by rfl, ?_⟩) hHeld ?_
                        rotate_left
                        focus (intro z hSw; clear hSw; go_simp; try with_reducible rfl)
                        try simp only [Act.put, List.setIfInBounds_toArray, List.set_cons_zero, List.set_cons_succ]
                        refine wpAnyH_take (i := 3) (oi := { dst := some 82, op := Op.load 3 (Operand.tmp 81), type := 3, pos := "outright.go:96", after := #[{ on := 2, ground := Ground.data }], guard := none }) (v := ?_) rfl (by kernel_rfl) (by kernel_rfl) (by kernel_rfl) (fun _ _ _ h => h) (Or.inl ⟨by rfl, ?_⟩) hHeld ?_
                        rotate_left
                        focus (intro z hSw; have hc0 := hSw.cell C0.out (by simp); clear hSw; go_simp; try with_reducible rfl)
                        try simp only [Act.put, List.setIfInBounds_toArray, List.set_cons_zero, List.set_cons_succ]
                        refine wpAnyH_take (i := 4) (oi := { dst := some 83, op := Op.binOp BinOp.geq 3 (Operand.tmp 82) (Operand.const (Value.int IntKind.i64 0)) 3, type := 4, pos := "outright.go:96", after := #[{ on := 3, ground := Ground.data }], guard := none }) (v := ?_) rfl (by kernel_rfl) (by kernel_rfl) (by kernel_rfl) (fun _ _ _ h => h) (Or.inl ⟨by rfl, ?_⟩) hHeld ?_
                        rotate_left
                        focus (intro z hSw; clear hSw; go_simp; try with_reducible rfl)
                        try simp only [Act.put, List.setIfInBounds_toArray, List.set_cons_zero, List.set_cons_succ]
                        refine wpAnyH_take (i := 5) (oi := { dst := some 84, op := Op.move (Operand.tmp 83), type := 4, pos := "outright.go:96", after := #[{ on := 4, ground := Ground.data }], guard := none }) (v := ?_) rfl (by kernel_rfl) (by kernel_rfl) (by kernel_rfl) (fun _ _ _ h => h) (Or.inl ⟨by rfl, ?_⟩) hHeld ?_
                        rotate_left
                        focus (intro z hSw; clear hSw; go_simp; try with_reducible rfl)
                        try simp only [Act.put, List.setIfInBounds_toArray, List.set_cons_zero, List.set_cons_succ]
                        refine wpAnyH_take (i := 6) (oi := { dst := some 85, op := Op.move (Operand.tmp 1), type := 23, pos := "outright.go:96", after := #[{ on := 5, ground := Ground.guard }], guard := some (5, true) }) (v := ?_) rfl (by kernel_rfl) (by kernel_rfl) (by kernel_rfl) (fun _ _ _ h => h) (Or.inl ⟨by rfl, ?_⟩) hHeld ?_
                        rotate_left
                        focus (intro z hSw; clear hSw; go_simp; try with_reducible rfl)
                        try simp only [Act.put, List.setIfInBounds_toArray, List.set_cons_zero, List.set_cons_succ]
                        refine wpAnyH_take (i := 7) (oi := { dst := some 86, op := Op.move (Operand.tmp 15), type := 3, pos := "outright.go:96", after := #[{ on := 5, ground := Ground.guard }], guard := some (5, true) }) (v := ?_) rfl (by kernel_rfl) (by kernel_rfl) (by kernel_rfl) (fun _ _ _ h => h) (Or.inl ⟨by rfl, ?_⟩) hHeld ?_
                        rotate_left
                        focus (intro z hSw; clear hSw; go_simp; try with_reducible rfl)
                        try simp only [Act.put, List.setIfInBounds_toArray, List.set_cons_zero, List.set_cons_succ]
                        refine wpAnyH_take (i := 8) (oi := { dst := some 87, op := Op.indexAddr 23 (Operand.tmp 85) (Operand.tmp 86), type := 0, pos := "outright.go:96", after := #[{ on := 6, ground := Ground.data }, { on := 7, ground := Ground.data }, { on := 5, ground := Ground.guard }], guard := some (5, true) }) (v := ?_) rfl (by kernel_rfl) (by kernel_rfl) (by kernel_rfl) (fun _ _ _ h => h) (Or.inl ⟨by rfl, ?_⟩) hHeld ?_
                        rotate_left
                        focus (intro z hSw; clear hSw; go_simp; try with_reducible rfl)
                        try simp only [Act.put, List.setIfInBounds_toArray, List.set_cons_zero, List.set_cons_succ]
                        refine wpAnyH_take (i := 9) (oi := { dst := some 88, op := Op.load 3 (Operand.tmp 87), type := 3, pos := "outright.go:96", after := #[{ on := 8, ground := Ground.data }, { on := 5, ground := Ground.guard }], guard := some (5, true) }) (v := ?_) rfl (by kernel_rfl) (by kernel_rfl) (by kernel_rfl) (fun _ _ _ h => h) (Or.inl ⟨by rfl, ?_⟩) hHeld ?_
                        rotate_left
                        focus (intro z hSw; have hc0 := hSw.cell C0.out (by simp); clear hSw; go_simp; try with_reducible rfl)
                        try simp only [Act.put, List.setIfInBounds_toArray, List.set_cons_zero, List.set_cons_succ]
                        refine wpAnyH_take (i := 10) (oi := { dst := some 89, op := Op.move (Operand.tmp 0), type := 22, pos := "outright.go:96", after := #[{ on := 5, ground := Ground.guard }], guard := some (5, true) }) (v := ?_) rfl (by kernel_rfl) (by kernel_rfl) (by kernel_rfl) (fun _ _ _ h => h) (Or.inl ⟨by rfl, ?_⟩) hHeld ?_
                        rotate_left
                        focus (intro z hSw; clear hSw; go_simp; try with_reducible rfl)
                        try simp only [Act.put, List.setIfInBounds_toArray, List.set_cons_zero, List.set_cons_succ]
                        refine wpAnyH_take (i := 11) (oi := { dst := some 90, op := Op.call { callee := Callee.builtin Builtin.len, args := #[Operand.tmp 89], argTypes := #[22] }, type := 3, pos := "outright.go:96", after := #[{ on := 10, ground := Ground.data }, { on := 5, ground := Ground.guard }], guard := some (5, true) }) (v := ?_) rfl (by kernel_rfl) (by kernel_rfl) (by kernel_rfl) (fun _ _ _ h => h) (Or.inl ⟨by rfl, ?_⟩) hHeld ?_
                        rotate_left
                        focus (intro z hSw; clear hSw; go_simp; try with_reducible rfl)
                        try simp only [Act.put, List.setIfInBounds_toArray, List.set_cons_zero, List.set_cons_succ]
                        refine wpAnyH_take (i := 12) (oi := { dst := some 91, op := Op.binOp BinOp.lss 3 (Operand.tmp 88) (Operand.tmp 90) 3, type := 4, pos := "outright.go:96", after := #[{ on := 9, ground := Ground.data }, { on := 11, ground := Ground.data }, { on := 5, ground := Ground.guard }], guard := some (5, true) }) (v := ?_) rfl (by kernel_rfl) (by kernel_rfl) (by kernel_rfl) (fun _ _ _ h => h) (Or.inl ⟨by rfl, ?_⟩) hHeld ?_
                        rotate_left
                        focus (intro z hSw; clear hSw; go_simp; try with_reducible rfl)
                        try simp only [Act.put, List.setIfInBounds_toArray, List.set_cons_zero, List.set_cons_succ]
                        refine wpAnyH_take (i := 13) (oi := { dst := some 92, op := Op.pick (Operand.tmp 84) (Operand.tmp 91) (Operand.const (Value.bool false)), type := 4, pos := "outright.go:96", after := #[{ on := 5, ground := Ground.data }, { on := 12, ground := Ground.data }], guard := none }) (v := ?_) rfl (by kernel_rfl) (by kernel_rfl) (by kernel_rfl) (fun _ _ _ h => h) (Or.inl ⟨by rfl, ?_⟩) hHeld ?_
                        rotate_left
                        focus (intro z hSw; clear hSw; go_simp; try with_reducible rfl)
                        try simp only [Act.put, List.setIfInBounds_toArray, List.set_cons_zero, List.set_cons_succ]
                        refine wpAnyH_take (i := 14) (oi := { dst := some 93, op := Op.move (Operand.tmp 92), type := 4, pos := "outright.go:96", after := #[{ on := 13, ground := Ground.data }, { on := 5, ground := Ground.chain }], guard := none }) (v := ?_) rfl (by kernel_rfl) (by kernel_rfl) (by kernel_rfl) (fun _ _ _ h => h) (Or.inl ⟨by rfl, ?_⟩) hHeld ?_
                        rotate_left
                        focus (intro z hSw; clear hSw; go_simp; try with_reducible rfl)
                        try simp only [Act.put, List.setIfInBounds_toArray, List.set_cons_zero, List.set_cons_succ]
                        refine wpAnyH_take (i := 15) (oi := { dst := some 94, op := Op.move (Operand.tmp 0), type := 22, pos := "outright.go:96", after := #[{ on := 14, ground := Ground.guard }], guard := some (14, true) }) (v := undef) rfl (by kernel_rfl) (by kernel_rfl) (by kernel_rfl) (fun _ _ _ h => h) (Or.inr ⟨by rfl, rfl⟩) hHeld ?_
                        try simp only [Act.put, List.setIfInBounds_toArray, List.set_cons_zero, List.set_cons_succ]
                        refine wpAnyH_take (i := 16) (oi := { dst := some 95, op := Op.move (Operand.tmp 1), type := 23, pos := "outright.go:96", after := #[{ on := 14, ground := Ground.guard }], guard := some (14, true) }) (v := undef) rfl (by kernel_rfl) (by kernel_rfl) (by kernel_rfl) (fun _ _ _ h => h) (Or.inr ⟨by rfl, rfl⟩) hHeld ?_
                        try simp only [Act.put, List.setIfInBounds_toArray, List.set_cons_zero, List.set_cons_succ]
                        refine wpAnyH_take (i := 17) (oi := { dst := some 96, op := Op.move (Operand.tmp 15), type := 3, pos := "outright.go:96", after := #[{ on := 14, ground := Ground.guard }], guard := some (14, true) }) (v := undef) rfl (by kernel_rfl) (by kernel_rfl) (by kernel_rfl) (fun _ _ _ h => h) (Or.inr ⟨by rfl, rfl⟩) hHeld ?_
                        try simp only [Act.put, List.setIfInBounds_toArray, List.set_cons_zero, List.set_cons_succ]
                        refine wpAnyH_take (i := 18) (oi := { dst := some 97, op := Op.indexAddr 23 (Operand.tmp 95) (Operand.tmp 96), type := 0, pos := "outright.go:96", after := #[{ on := 16, ground := Ground.data }, { on := 17, ground := Ground.data }, { on := 14, ground := Ground.guard }], guard := some (14, true) }) (v := undef) rfl (by kernel_rfl) (by kernel_rfl) (by kernel_rfl) (fun _ _ _ h => h) (Or.inr ⟨by rfl, rfl⟩) hHeld ?_
                        try simp only [Act.put, List.setIfInBounds_toArray, List.set_cons_zero, List.set_cons_succ]
                        refine wpAnyH_take (i := 19) (oi := { dst := some 98, op := Op.load 3 (Operand.tmp 97), type := 3, pos := "outright.go:96", after := #[{ on := 18, ground := Ground.data }, { on := 14, ground := Ground.guard }], guard := some (14, true) }) (v := undef) rfl (by kernel_rfl) (by kernel_rfl) (by kernel_rfl) (fun _ _ _ h => h) (Or.inr ⟨by rfl, rfl⟩) hHeld ?_
                        try simp only [Act.put, List.setIfInBounds_toArray, List.set_cons_zero, List.set_cons_succ]
                        refine wpAnyH_take (i := 20) (oi := { dst := some 99, op := Op.indexAddr 22 (Operand.tmp 94) (Operand.tmp 98), type := 0, pos := "outright.go:96", after := #[{ on := 15, ground := Ground.data }, { on := 19, ground := Ground.data }, { on := 14, ground := Ground.guard }], guard := some (14, true) }) (v := undef) rfl (by kernel_rfl) (by kernel_rfl) (by kernel_rfl) (fun _ _ _ h => h) (Or.inr ⟨by rfl, rfl⟩) hHeld ?_
                        try simp only [Act.put, List.setIfInBounds_toArray, List.set_cons_zero, List.set_cons_succ]
                        refine wpAnyH_take (i := 21) (oi := { dst := some 100, op := Op.load 30 (Operand.tmp 99), type := 30, pos := "outright.go:96", after := #[{ on := 20, ground := Ground.data }, { on := 14, ground := Ground.guard }], guard := some (14, true) }) (v := undef) rfl (by kernel_rfl) (by kernel_rfl) (by kernel_rfl) (fun _ _ _ h => h) (Or.inr ⟨by rfl, rfl⟩) hHeld ?_
                        try simp only [Act.put, List.setIfInBounds_toArray, List.set_cons_zero, List.set_cons_succ]
                        refine wpAnyH_take (i := 22) (oi := { dst := some 101, op := Op.move (Operand.tmp 13), type := 30, pos := "outright.go:96", after := #[{ on := 14, ground := Ground.guard }], guard := some (14, true) }) (v := undef) rfl (by kernel_rfl) (by kernel_rfl) (by kernel_rfl) (fun _ _ _ h => h) (Or.inr ⟨by rfl, rfl⟩) hHeld ?_
                        try simp only [Act.put, List.setIfInBounds_toArray, List.set_cons_zero, List.set_cons_succ]
                        refine wpAnyH_take (i := 23) (oi := { dst := some 102, op := Op.move (Operand.tmp 14), type := 3, pos := "outright.go:96", after := #[{ on := 14, ground := Ground.guard }], guard := some (14, true) }) (v := undef) rfl (by kernel_rfl) (by kernel_rfl) (by kernel_rfl) (fun _ _ _ h => h) (Or.inr ⟨by rfl, rfl⟩) hHeld ?_
                        try simp only [Act.put, List.setIfInBounds_toArray, List.set_cons_zero, List.set_cons_succ]
                        refine wpAnyH_take (i := 24) (oi := { dst := some 103, op := Op.indexAddr 30 (Operand.tmp 101) (Operand.tmp 102), type := 0, pos := "outright.go:96", after := #[{ on := 22, ground := Ground.data }, { on := 23, ground := Ground.data }, { on := 14, ground := Ground.guard }], guard := some (14, true) }) (v := undef) rfl (by kernel_rfl) (by kernel_rfl) (by kernel_rfl) (fun _ _ _ h => h) (Or.inr ⟨by rfl, rfl⟩) hHeld ?_
                        try simp only [Act.put, List.setIfInBounds_toArray, List.set_cons_zero, List.set_cons_succ]
                        refine wpAnyH_take (i := 25) (oi := { dst := some 104, op := Op.load 25 (Operand.tmp 103), type := 25, pos := "outright.go:96", after := #[{ on := 24, ground := Ground.data }, { on := 14, ground := Ground.guard }], guard := some (14, true) }) (v := undef) rfl (by kernel_rfl) (by kernel_rfl) (by kernel_rfl) (fun _ _ _ h => h) (Or.inr ⟨by rfl, rfl⟩) hHeld ?_
                        try simp only [Act.put, List.setIfInBounds_toArray, List.set_cons_zero, List.set_cons_succ]
                        refine wpAnyH_take (i := 26) (oi := { dst := some 105, op := Op.call { callee := Callee.value (Operand.func 33), args := #[Operand.tmp 100, Operand.tmp 104], argTypes := #[30, 25] }, type := 4, pos := "outright.go:96", after := #[{ on := 21, ground := Ground.data }, { on := 25, ground := Ground.data }, { on := 14, ground := Ground.chain }, { on := 14, ground := Ground.guard }], guard := some (14, true) }) (v := undef) rfl (by kernel_rfl) (by kernel_rfl) (by kernel_rfl) (fun _ _ _ h => h) (Or.inr ⟨by rfl, rfl⟩) hHeld ?_
                        try simp only [Act.put, List.setIfInBounds_toArray, List.set_cons_zero, List.set_cons_succ]
                        refine wpAnyH_take (i := 27) (oi := { dst := some 106, op := Op.unOp UnOp.not 4 (Operand.tmp 105), type := 4, pos := "outright.go:96", after := #[{ on := 26, ground := Ground.data }, { on := 14, ground := Ground.guard }], guard := some (14, true) }) (v := undef) rfl (by kernel_rfl) (by kernel_rfl) (by kernel_rfl) (fun _ _ _ h => h) (Or.inr ⟨by rfl, rfl⟩) hHeld ?_
                        try simp only [Act.put, List.setIfInBounds_toArray, List.set_cons_zero, List.set_cons_succ]
                        refine wpAnyH_take (i := 28) (oi := { dst := some 107, op := Op.pick (Operand.tmp 93) (Operand.tmp 106) (Operand.const (Value.bool false)), type := 4, pos := "outright.go:96", after := #[{ on := 14, ground := Ground.data }, { on := 27, ground := Ground.data }], guard := none }) (v := ?_) rfl (by kernel_rfl) (by kernel_rfl) (by kernel_rfl) (fun _ _ _ h => h) (Or.inl ⟨by rfl, ?_⟩) hHeld ?_
                        rotate_left
                        focus (intro z hSw; clear hSw; go_simp; try with_reducible rfl)
                        try simp only [Act.put, List.setIfInBounds_toArray, List.set_cons_zero, List.set_cons_succ]
                        refine wpAnyH_done (by kernel_rfl) ?_ _
                        have F11 := Lib.hid (F10.out.trans hHeld (by simp))
                        clear hHeld
                        go_wp2_with fail
                        go_roundw
                        case rel => exact ⟨k + 1, by omega, by go_num, F11.out⟩
                        case measure => simp [intOf]; omega
                    · have C0 := Lib.hid c0
                      clear c0
                      go_upto_region 27 with (fail)
                      refine wp_region_held_drew (S := fun z => Frm [] wr z) (by kernel_rfl) ((Frm.refl [] wr).drew) (fun hHeld => ?_)
                      refine wpAnyH_take (i := 0) (oi := { dst := some 79, op := Op.move (Operand.tmp 1), type := 23, pos := "outright.go:96", after := #[], guard := none }) (v := ?_) rfl (by kernel_rfl) (by kernel_rfl) (by kernel_rfl) (fun _ _ _ h => h) (Or.inl ⟨by rfl, ?_⟩) hHeld ?_
                      rotate_left
                      focus (intro z hSw; clear hSw; go_simp; try with_reducible rfl)
                      try simp only [Act.put, List.setIfInBounds_toArray, List.set_cons_zero, List.set_cons_succ]
                      refine wpAnyH_take (i := 1) (oi := { dst := some 80, op := Op.move (Operand.tmp 15), type := 3, pos := "outright.go:96", after := #[], guard := none }) (v := ?_) rfl (by kernel_rfl) (by kernel_rfl) (by kernel_rfl) (fun _ _ _ h => h) (Or.inl ⟨by rfl, ?_⟩) hHeld ?_
                      rotate_left
                      focus (intro z hSw; clear hSw; go_simp; try with_reducible rfl)
                      try simp only [Act.put, List.setIfInBounds_toArray, List.set_cons_zero, List.set_cons_succ]
                      refine wpAnyH_take (i := 2) (oi := { dst := some 81, op := Op.indexAddr 23 (Operand.tmp 79) (Operand.tmp 80), type := 0, pos := "outright.go:96", after := #[{ on := 0, ground := Ground.data }, { on := 1, ground := Ground.data }], guard := none }) (v := ?_) rfl (by kernel_rfl) (by kernel_rfl) (by kernel_rfl) (fun _ _ _ h => h) (Or.inl ⟨by rfl, ?_⟩) hHeld ?_
                      rotate_left
                      focus (intro z hSw; clear hSw; go_simp; try with_reducible rfl)
                      try simp only [Act.put, List.setIfInBounds_toArray, List.set_cons_zero, List.set_cons_succ]
                      refine wpAnyH_take (i := 3) (oi := { dst := some 82, op := Op.load 3 (Operand.tmp 81), type := 3, pos := "outright.go:96", after := #[{ on := 2, ground := Ground.data }], guard := none }) (v := ?_) rfl (by kernel_rfl) (by kernel_rfl) (by kernel_rfl) (fun _ _ _ h => h) (Or.inl ⟨by rfl, ?_⟩) hHeld ?_
                      rotate_left
                      focus (intro z hSw; have hc0 := hSw.cell C0.out (by simp); clear hSw; go_simp; try with_reducible rfl)
                      try simp only [Act.put, List.setIfInBounds_toArray, List.set_cons_zero, List.set_cons_succ]
                      refine wpAnyH_take (i := 4) (oi := { dst := some 83, op := Op.binOp BinOp.geq 3 (Operand.tmp 82) (Operand.const (Value.int IntKind.i64 0)) 3, type := 4, pos := "outright.go:96", after := #[{ on := 3, ground := Ground.data }], guard := none }) (v := ?_) rfl (by kernel_rfl) (by kernel_rfl) (by kernel_rfl) (fun _ _ _ h => h) (Or.inl ⟨by rfl, ?_⟩) hHeld ?_
                      rotate_left
                      focus (intro z hSw; clear hSw; go_simp; try with_reducible rfl)
                      try simp only [Act.put, List.setIfInBounds_toArray, List.set_cons_zero, List.set_cons_succ]
                      refine wpAnyH_take (i := 5) (oi := { dst := some 84, op := Op.move (Operand.tmp 83), type := 4, pos := "outright.go:96", after := #[{ on := 4, ground := Ground.data }], guard := none }) (v := ?_) rfl (by kernel_rfl) (by kernel_rfl) (by kernel_rfl) (fun _ _ _ h => h) (Or.inl ⟨by rfl, ?_⟩) hHeld ?_
                      rotate_left
                      focus (intro z hSw; clear hSw; go_simp; try with_reducible rfl)
                      try simp only [Act.put, List.setIfInBounds_toArray, List.set_cons_zero, List.set_cons_succ]
                      refine wpAnyH_take (i := 6) (oi := { dst := some 85, op := Op.move (Operand.tmp 1), type := 23, pos := "outright.go:96", after := #[{ on := 5, ground := Ground.guard }], guard := some (5, true) }) (v := undef) rfl (by kernel_rfl) (by kernel_rfl) (by kernel_rfl) (fun _ _ _ h => h) (Or.inr ⟨by rfl, rfl⟩) hHeld ?_
                      try simp only [Act.put, List.setIfInBounds_toArray, List.set_cons_zero, List.set_cons_succ]
                      refine wpAnyH_take (i := 7) (oi := { dst := some 86, op := Op.move (Operand.tmp 15), type := 3, pos := "outright.go:96", after := #[{ on := 5, ground := Ground.guard }], guard := some (5, true) }) (v := undef) rfl (by kernel_rfl) (by kernel_rfl) (by kernel_rfl) (fun _ _ _ h => h) (Or.inr ⟨by rfl, rfl⟩) hHeld ?_
                      try simp only [Act.put, List.setIfInBounds_toArray, List.set_cons_zero, List.set_cons_succ]
                      refine wpAnyH_take (i := 8) (oi := { dst := some 87, op := Op.indexAddr 23 (Operand.tmp 85) (Operand.tmp 86), type := 0, pos := "outright.go:96", after := #[{ on := 6, ground := Ground.data }, { on := 7, ground := Ground.data }, { on := 5, ground := Ground.guard }], guard := some (5, true) }) (v := undef) rfl (by kernel_rfl) (by kernel_rfl) (by kernel_rfl) (fun _ _ _ h => h) (Or.inr ⟨by rfl, rfl⟩) hHeld ?_
                      try simp only [Act.put, List.setIfInBounds_toArray, List.set_cons_zero, List.set_cons_succ]
                      refine wpAnyH_take (i := 9) (oi := { dst := some 88, op := Op.load 3 (Operand.tmp 87), type := 3, pos := "outright.go:96", after := #[{ on := 8, ground := Ground.data }, { on := 5, ground := Ground.guard }], guard := some (5, true) }) (v := undef) rfl (by kernel_rfl) (by kernel_rfl) (by kernel_rfl) (fun _ _ _ h => h) (Or.inr ⟨by rfl, rfl⟩) hHeld ?_
                      try simp only [Act.put, List.setIfInBounds_toArray, List.set_cons_zero, List.set_cons_succ]
                      refine wpAnyH_take (i := 10) (oi := { dst := some 89, op := Op.move (Operand.tmp 0), type := 22, pos := "outright.go:96", after := #[{ on := 5, ground := Ground.guard }], guard := some (5, true) }) (v := undef) rfl (by kernel_rfl) (by kernel_rfl) (by kernel_rfl) (fun _ _ _ h => h) (Or.inr ⟨by rfl, rfl⟩) hHeld ?_
                      try simp only [Act.put, List.setIfInBounds_toArray, List.set_cons_zero, List.set_cons_succ]
                      refine wpAnyH_take (i := 11) (oi := { dst := some 90, op := Op.call { callee := Callee.builtin Builtin.len, args := #[Operand.tmp 89], argTypes := #[22] }, type := 3, pos := "outright.go:96", after := #[{ on := 10, ground := Ground.data }, { on := 5, ground := Ground.guard }], guard := some (5, true) }) (v := undef) rfl (by kernel_rfl) (by kernel_rfl) (by kernel_rfl) (fun _ _ _ h => h) (Or.inr ⟨by rfl, rfl⟩) hHeld ?_
                      try simp only [Act.put, List.setIfInBounds_toArray, List.set_cons_zero, List.set_cons_succ]
                      refine wpAnyH_take (i := 12) (oi := { dst := some 91, op := Op.binOp BinOp.lss 3 (Operand.tmp 88) (Operand.tmp 90) 3, type := 4, pos := "outright.go:96", after := #[{ on := 9, ground := Ground.data }, { on := 11, ground := Ground.data }, { on := 5, ground := Ground.guard }], guard := some (5, true) }) (v := undef) rfl (by kernel_rfl) (by kernel_rfl) (by kernel_rfl) (fun _ _ _ h => h) (Or.inr ⟨by rfl, rfl⟩) hHeld ?_
                      try simp only [Act.put, List.setIfInBounds_toArray, List.set_cons_zero, List.set_cons_succ]
                      refine wpAnyH_take (i := 13) (oi := { dst := some 92, op := Op.pick (Operand.tmp 84) (Operand.tmp 91) (Operand.const (Value.bool false)), type := 4, pos := "outright.go:96", after := #[{ on := 5, ground := Ground.data }, { on := 12, ground := Ground.data }], guard := none }) (v := ?_) rfl (by kernel_rfl) (by kernel_rfl) (by kernel_rfl) (fun _ _ _ h => h) (Or.inl ⟨by rfl, ?_⟩) hHeld ?_
                      rotate_left
                      focus (intro z hSw; clear hSw; go_simp; try with_reducible rfl)
                      try simp only [Act.put, List.setIfInBounds_toArray, List.set_cons_zero, List.set_cons_succ]
                      refine wpAnyH_take (i := 14) (oi := { dst := some 93, op := Op.move (Operand.tmp 92), type := 4, pos := "outright.go:96", after := #[{ on := 13, ground := Ground.data }, { on := 5, ground := Ground.chain }], guard := none }) (v := ?_) rfl (by kernel_rfl) (by kernel_rfl) (by kernel_rfl) (fun _ _ _ h => h) (Or.inl ⟨by rfl, ?_⟩) hHeld ?_
                      rotate_left
                      focus (intro z hSw; clear hSw; go_simp; try with_reducible rfl)
                      try simp only [Act.put, List.setIfInBounds_toArray, List.set_cons_zero, List.set_cons_succ]
                      refine wpAnyH_take (i := 15) (oi := { dst := some 94, op := Op.move (Operand.tmp 0), type := 22, pos := "outright.go:96", after := #[{ on := 14, ground := Ground.guard }], guard := some (14, true) }) (v := undef) rfl (by kernel_rfl) (by kernel_rfl) (by kernel_rfl) (fun _ _ _ h => h) (Or.inr ⟨by rfl, rfl⟩) hHeld ?_
                      try simp only [Act.put, List.setIfInBounds_toArray, List.set_cons_zero, List.set_cons_succ]
                      refine wpAnyH_take (i := 16) (oi := { dst := some 95, op := Op.move (Operand.tmp 1), type := 23, pos := "outright.go:96", after := #[{ on := 14, ground := Ground.guard }], guard := some (14, true) }) (v := undef) rfl (by kernel_rfl) (by kernel_rfl) (by kernel_rfl) (fun _ _ _ h => h) (Or.inr ⟨by rfl, rfl⟩) hHeld ?_
                      try simp only [Act.put, List.setIfInBounds_toArray, List.set_cons_zero, List.set_cons_succ]
                      refine wpAnyH_take (i := 17) (oi := { dst := some 96, op := Op.move (Operand.tmp 15), type := 3, pos := "outright.go:96", after := #[{ on := 14, ground := Ground.guard }], guard := some (14, true) }) (v := undef) rfl (by kernel_rfl) (by kernel_rfl) (by kernel_rfl) (fun _ _ _ h => h) (Or.inr ⟨by rfl, rfl⟩) hHeld ?_
                      try simp only [Act.put, List.setIfInBounds_toArray, List.set_cons_zero, List.set_cons_succ]
                      refine wpAnyH_take (i := 18) (oi := { dst := some 97, op := Op.indexAddr 23 (Operand.tmp 95) (Operand.tmp 96), type := 0, pos := "outright.go:96", after := #[{ on := 16, ground := Ground.data }, { on := 17, ground := Ground.data }, { on := 14, ground := Ground.guard }], guard := some (14, true) }) (v := undef) rfl (by kernel_rfl) (by kernel_rfl) (by kernel_rfl) (fun _ _ _ h => h) (Or.inr ⟨by rfl, rfl⟩) hHeld ?_
                      try simp only [Act.put, List.setIfInBounds_toArray, List.set_cons_zero, List.set_cons_succ]
                      refine wpAnyH_take (i := 19) (oi := { dst := some 98, op := Op.load 3 (Operand.tmp 97), type := 3, pos := "outright.go:96", after := #[{ on := 18, ground := Ground.data }, { on := 14, ground := Ground.guard }], guard := some (14, true) }) (v := undef) rfl (by kernel_rfl) (by kernel_rfl) (by kernel_rfl) (fun _ _ _ h => h) (Or.inr ⟨by rfl, rfl⟩) hHeld ?_
                      try simp only [Act.put, List.setIfInBounds_toArray, List.set_cons_zero, List.set_cons_succ]
                      refine wpAnyH_take (i := 20) (oi := { dst := some 99, op := Op.indexAddr 22 (Operand.tmp 94) (Operand.tmp 98), type := 0, pos := "outright.go:96", after := #[{ on := 15, ground := Ground.data }, { on := 19, ground := Ground.data }, { on := 14, ground := Ground.guard }], guard := some (14, true) }) (v := undef) rfl (by kernel_rfl) (by kernel_rfl) (by kernel_rfl) (fun _ _ _ h => h) (Or.inr ⟨by rfl, rfl⟩) hHeld ?_
                      try simp only [Act.put, List.setIfInBounds_toArray, List.set_cons_zero, List.set_cons_succ]
                      refine wpAnyH_take (i := 21) (oi := { dst := some 100, op := Op.load 30 (Operand.tmp 99), type := 30, pos := "outright.go:96", after := #[{ on := 20, ground := Ground.data }, { on := 14, ground := Ground.guard }], guard := some (14, true) }) (v := undef) rfl (by kernel_rfl) (by kernel_rfl) (by kernel_rfl) (fun _ _ _ h => h) (Or.inr ⟨by rfl, rfl⟩) hHeld ?_
                      try simp only [Act.put, List.setIfInBounds_toArray, List.set_cons_zero, List.set_cons_succ]
                      refine wpAnyH_take (i := 22) (oi := { dst := some 101, op := Op.move (Operand.tmp 13), type := 30, pos := "outright.go:96", after := #[{ on := 14, ground := Ground.guard }], guard := some (14, true) }) (v := undef) rfl (by kernel_rfl) (by kernel_rfl) (by kernel_rfl) (fun _ _ _ h => h) (Or.inr ⟨by rfl, rfl⟩) hHeld ?_
                      try simp only [Act.put, List.setIfInBounds_toArray, List.set_cons_zero, List.set_cons_succ]
                      refine wpAnyH_take (i := 23) (oi := { dst := some 102, op := Op.move (Operand.tmp 14), type := 3, pos := "outright.go:96", after := #[{ on := 14, ground := Ground.guard }], guard := some (14, true) }) (v := undef) rfl (by kernel_rfl) (by kernel_rfl) (by kernel_rfl) (fun _ _ _ h => h) (Or.inr ⟨by rfl, rfl⟩) hHeld ?_
                      try simp only [Act.put, List.setIfInBounds_toArray, List.set_cons_zero, List.set_cons_succ]
                      refine wpAnyH_take (i := 24) (oi := { dst := some 103, op := Op.indexAddr 30 (Operand.tmp 101) (Operand.tmp 102), type := 0, pos := "outright.go:96", after := #[{ on := 22, ground := Ground.data }, { on := 23, ground := Ground.data }, { on := 14, ground := Ground.guard }], guard := some (14, true) }) (v := undef) rfl (by kernel_rfl) (by kernel_rfl) (by kernel_rfl) (fun _ _ _ h => h) (Or.inr ⟨by rfl, rfl⟩) hHeld ?_
                      try simp only [Act.put, List.setIfInBounds_toArray, List.set_cons_zero, List.set_cons_succ]
                      refine wpAnyH_take (i := 25) (oi := { dst := some 104, op := Op.load 25 (Operand.tmp 103), type := 25, pos := "outright.go:96", after := #[{ on := 24, ground := Ground.data }, { on := 14, ground := Ground.guard }], guard := some (14, true) }) (v := undef) rfl (by kernel_rfl) (by kernel_rfl) (by kernel_rfl) (fun _ _ _ h => h) (Or.inr ⟨by rfl, rfl⟩) hHeld ?_
                      try simp only [Act.put, List.setIfInBounds_toArray, List.set_cons_zero, List.set_cons_succ]
                      refine wpAnyH_take (i := 26) (oi := { dst := some 105, op := Op.call { callee := Callee.value (Operand.func 33), args := #[Operand.tmp 100, Operand.tmp 104], argTypes := #[30, 25] }, type := 4, pos := "outright.go:96", after := #[{ on := 21, ground := Ground.data }, { on := 25, ground := Ground.data }, { on := 14, ground := Ground.chain }, { on := 14, ground := Ground.guard }], guard := some (14, true) }) (v := undef) rfl (by kernel_rfl) (by kernel_rfl) (by kernel_rfl) (fun _ _ _ h => h) (Or.inr ⟨by rfl, rfl⟩) hHeld ?_
                      try simp only [Act.put, List.setIfInBounds_toArray, List.set_cons_zero, List.set_cons_succ]
                      refine wpAnyH_take (i := 27) (oi := { dst := some 106, op := Op.unOp UnOp.not 4 (Operand.tmp 105), type := 4, pos := "outright.go:96", after := #[{ on := 26, ground := Ground.data }, { on := 14, ground := Ground.guard }], guard := some (14, true) }) (v := undef) rfl (by kernel_rfl) (by kernel_rfl) (by kernel_rfl) (fun _ _ _ h => h) (Or.inr ⟨by rfl, rfl⟩) hHeld ?_
                      try simp only [Act.put, List.setIfInBounds_toArray, List.set_cons_zero, List.set_cons_succ]
                      refine wpAnyH_take (i := 28) (oi := { dst := some 107, op := Op.pick (Operand.tmp 93) (Operand.tmp 106) (Operand.const (Value.bool false)), type := 4, pos := "outright.go:96", after := #[{ on := 14, ground := Ground.data }, { on := 27, ground := Ground.data }], guard := none }) (v := ?_) rfl (by kernel_rfl) (by kernel_rfl) (by kernel_rfl) (fun _ _ _ h => h) (Or.inl ⟨by rfl, ?_⟩) hHeld ?_
                      rotate_left
                      focus (intro z hSw; clear hSw; go_simp; try with_reducible rfl)
                      try simp only [Act.put, List.setIfInBounds_toArray, List.set_cons_zero, List.set_cons_succ]
                      refine wpAnyH_done (by kernel_rfl) ?_ _
                      have F11 := Lib.hid (F10.out.trans hHeld (by simp))
                      clear hHeld
                      go_wp2_with fail
                      go_roundw
                      case rel => exact ⟨k + 1, by omega, by go_num, F11.out⟩
                      case measure => simp [intOf]; omega
                  · obtain rfl : k = s.length := by omega
                    clear f
                    go_wp2_with fail
                    go_roundw
                    case rel => exact ⟨i + 1, by omega, by go_num, F10.out⟩
                    case measure => simp [intOf]; omega
              · obtain rfl : i = R.length := by omega
                clear f
                have FW := Lib.hid (F3.out.trans (F8.out.trans F9.out (by simp)) (by simp))
                have ALs := Lib.hid ((AL.out.keep F8.out (by simp)).keep F9.out (by simp))
                have HSo := Lib.hid (Sort_any _ (allU L) sp3 _ ALs.out.sl (by have := NL.out; omega) (bound_all HL.out (fun _ => true)).2)
                rw [srt_all] at HSo
                have hbz : ((B0 : Int) == (B0 : Int)) = true := by simp
                go_wp2_with fail
                refine HSo.out.mono ?_
                rintro e w14 ⟨v14, sp14, rfl, o14, f14, n14⟩
                obtain ⟨a14, c14, rfl, _, _⟩ := o14.sl.form
                have O14 := Lib.hid o14
                have AL2 := Lib.hid (ALs.out.keep f14 (by simp))
                have F14 := Lib.hid (FW.out.trans f14 (by simp))
                clear o14 f14 n14 HSo
                go_wp2_with fail
                refine (Same_true _ _ _ _ _ _ AL2.out.sl O14.out.sl (by have := NL.out; omega)).mono ?_
                rintro e w15 ⟨rfl, f15⟩
                go_wp2_with fail
                go_ret
                exact ⟨rfl, F14.out.trans f15 (by simp)⟩
end Go.Proofs.Ytafedmahehbggaa
