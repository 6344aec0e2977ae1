/-
  long, copies, kept, three. No conditions but those that each theorem names.
-/
import Derived.Test.YtafedmahehbggaaVC
namespace Go.Proofs.Ytafedmahehbggaa
open Go.RowKit Go.Sort Go.Maps
set_option linter.unusedVariables false
set_option linter.unusedSimpArgs false
set_option maxRecDepth 100000

open Kr (OwnE SlE Enco RowTys)
open Kr (flt_cons flt_nil flt_length flt_oneCell flt_append flt_get)
theorem LsA.max {w : World} {v : Value} {L : List (List Ad)} (h : LsA w v L) : L.length ≤ maxLen := by
  obtain ⟨cs, sp, hs, hl, hr⟩ := h
  obtain ⟨a, cap, e, h1, h2⟩ := hs.form
  omega
theorem SlA.max {w : World} {v : Value} {l sp : List Ad} (h : SlA w v l sp) : l.length ≤ maxLen := by
  obtain ⟨a, cap, e, h1, h2⟩ := h.form
  omega
theorem SlI.max {w : World} {v : Value} {l : List Int} {sp : List Value} (h : SlI w v l sp) : l.length ≤ maxLen := by
  obtain ⟨a, cap, e, h1, h2⟩ := SlE.form h
  omega
def LongU (L : List (List Ad)) (s : List Int) (w : World) (e : Ending) (w' : World) : Prop := ∃ b, e = .returned (.bool b) ∧ Frm [] w w' ∧ (b = false → (∀ l ∈ L, l.length ≤ 100) ∧ L.length ≤ 20 ∧ s.length ≤ 40)
def LoRel (L : List (List Ad)) (w : World) (cv : Value) (wr : World) : Prop := ∃ k : Nat, k ≤ L.length ∧ cv = .int .i64 k ∧ (∀ i (h : i < L.length), i < k → L[i].length ≤ 100) ∧ Frm [] w wr
set_option maxHeartbeats 2000000 in
theorem long_any (L : List (List Ad)) (v sv : Value) (s : List Int) (ssp : List Value) (w : World) (hS : LsA w v L) (hI : SlI w sv s ssp) :
    Calls Try.prog 7 #[v, sv] w (LongU L s w) := by
  have hm := hS.max
  have hsm := SlI.max hI
  simp only [maxLen] at hm hsm
  obtain ⟨a, cap, rfl, hcap⟩ := hS.form
  obtain ⟨sa, scap, rfl, _, _⟩ := hI.form
  have hm9 : (L.length : Int) ≤ 9223372036854775807 := by omega
  have hs9 : (s.length : Int) ≤ 9223372036854775807 := by omega
  have HS := Lib.hid hS
  clear hS hI hcap hm hsm
  go_enter Try.func7, Try.ntmps7
  go_wp2_with fail
  go_loopw [5] (LoRel L w) (fun c _ => L.length - (intOf c).toNat)
  case atStart => exact ⟨0, by omega, rfl, fun i _ h => absurd h (Nat.not_lt_zero _), Frm.refl _ _⟩
  case round =>
    obtain ⟨k, hk, rfl, hall, f⟩ := hrel
    by_cases hlt : k < L.length
    · obtain ⟨b0, off, rfl⟩ := HS.out.at (by omega)
      obtain ⟨c, s1, hc0, hsl1⟩ := HS.out.cell k hlt
      have hcc := f.cell hc0 (by simp)
      have hlm := hsl1.max
      simp only [maxLen] at hlm
      have hnew : L[k].length ≤ 100 → ∀ i (h : i < L.length), i < k + 1 → L[i].length ≤ 100 := fun h1 i h hi => by
        by_cases e : i = k
        · subst e; exact h1
        · exact hall i h (by omega)
      generalize L[k] = l at *
      obtain ⟨la, lc, rfl, _, _⟩ := hsl1.form
      have hl9 : (l.length : Int) ≤ 9223372036854775807 := by omega
      have F := Lib.hid f
      clear f hc0 hsl1 hall hlm
      by_cases h1 : l.length ≤ 100
      · have HN := Lib.hid (hnew h1)
        have h2 : ¬ (100 : Int) < (l.length : Int) := by omega
        clear hnew h1
        go_wp2_with fail
        go_roundw
        case rel => exact ⟨k + 1, by omega, by go_num, HN.out, F.out⟩
        case measure => simp [intOf]; omega
      · have h2 : (100 : Int) < (l.length : Int) := by omega
        clear hnew h1
        go_wp2_with fail
        go_ret
        exact ⟨true, rfl, F.out, fun h => by cases h⟩
    · obtain rfl : k = L.length := by omega
      have F := Lib.hid f
      have HA := Lib.hid (show ∀ l ∈ L, l.length ≤ 100 from fun l hl => by obtain ⟨i, hi, rfl⟩ := List.getElem_of_mem hl; exact hall i hi hi)
      clear f hall
      by_cases h1 : (20 : Int) < (L.length : Int)
      · go_wp2_with fail
        go_ret
        exact ⟨true, rfl, F.out, fun h => by cases h⟩
      · by_cases h2 : (40 : Int) < (s.length : Int)
        · go_wp2_with fail
          go_ret
          exact ⟨true, rfl, F.out, fun h => by cases h⟩
        · have H1 := Lib.hid h1
          have H2 := Lib.hid h2
          go_wp2_with fail
          go_ret
          exact ⟨false, rfl, F.out, fun _ => ⟨HA.out, by have := H1.out; omega, by have := H2.out; omega⟩⟩
theorem tysC : RowTys Try.prog 22 30 1 24 := ⟨Try.underlying22, .slice none 0 0, rfl, by kernel_rfl⟩
/-- Lists of the call's own: each new, the list of them too. -/
def OwnL (w : World) (wr : World) (v : Value) (L : List (List Ad)) : Prop := ∃ cs sp, OwnE eC 1 30 wr v cs sp ∧ cs.length = L.length ∧ (∀ (i : Nat) (c : CelT) l, cs[i]? = some c → L[i]? = some l → ∃ s, OwnA 25 wr c.1 l s) ∧ ∀ i ∈ blk v, w.heap.size ≤ i
theorem OwnL.ls {w wr : World} {v : Value} {L : List (List Ad)} (h : OwnL w wr v L) : LsA wr v L := by
  obtain ⟨cs, sp, h1, h2, h3, h4⟩ := h
  exact ⟨cs, sp, h1.sl, h2, fun i c l a b => by obtain ⟨s, h⟩ := h3 i c l a b; exact ⟨s, h.sl⟩⟩
theorem OwnL.keep0 {w wr wr' : World} {v : Value} {L : List (List Ad)} (h : OwnL w wr v L) (f : Frm [] wr wr') : OwnL w wr' v L := by
  obtain ⟨cs, sp, h1, h2, h3, h4⟩ := h
  exact ⟨cs, sp, h1.keep0 f, h2, fun i c l a b => by obtain ⟨s, h⟩ := h3 i c l a b; exact ⟨s, h.keep f (by simp)⟩, h4⟩
theorem OwnL.nil (w wr : World) : OwnL w wr (.slice none 0 0) [] := ⟨[], [], OwnE.nil _ _ _ _, rfl, fun i c l h => by simp at h, by simp [blk]⟩
theorem OwnL.form {w wr : World} {v : Value} {L : List (List Ad)} (h : OwnL w wr v L) : ∃ a cap, v = .slice a L.length cap := by
  obtain ⟨cs, sp, h1, h2, h3, h4⟩ := h
  obtain ⟨a, cap, e, _, _⟩ := h1.sl.form
  exact ⟨a, cap, by rw [← h2]; exact e⟩
theorem one_cel (w : World) (x : Value) (hx : x.oneCell' = true) : SlE eC 1 (w.alloc (.cells #[x] 30)) (.slice (some ⟨w.heap.size, 0, none⟩) 1 1) [⟨x, hx⟩] [] :=
  SlE.of_block (T := 30) encC (by rw [Kr.flt_one]; exact heap_alloc_new _ _) rfl (by decide)
/-- One list more: append(out, x). -/
theorem wpList_app_list {w w0 : World} {ops : Array Oper} {rest : List Oper} {o : Oper} {a : Act} {Q : Exit → Act → World → Prop}
    {v : Value} {L : List (List Ad)} {l s : List Ad} {xa : Option Addr} {xc : Nat} (hO : OwnL w0 w v L) (hX : OwnA 25 w (.slice xa l.length xc) l s) (hb : L.length ≤ 1000) (hw : w0.heap.size ≤ w.heap.size)
    (hg : o.guard = none) (sv x : Operand) (hop : o.op = Op.call { callee := Callee.builtin Builtin.append, args := #[sv, x], argTypes := #[22, 22] }) (hs : a.eval sv = v) (hx : a.eval x = .slice (some ⟨w.heap.size, 0, none⟩) 1 1)
    (kk : ∀ a' cap' w', OwnL w0 w' (.slice a' (L.length + 1) cap') (L ++ [l]) → Frm (blk v) w w' → wpList Try.prog ops Q rest (a.put o.dst (.slice a' (L.length + 1) cap')) w') :
    wpList Try.prog ops Q (o :: rest) a (w.alloc (.cells #[.slice xa l.length xc] 30)) := by
  obtain ⟨cs, sp, h1, h2, h3, h4⟩ := hO
  have f1 : Frm [] w (w.alloc (.cells #[.slice xa l.length xc] 30)) := (Frm.refl [] w).alloc _
  refine Kr.wpList_append_e encC tysC (h1.keep0 f1) (one_cel w (.slice xa l.length xc) rfl) (by simp; omega) (by decide) hg sv x hop hs hx ?_
  intro a6 cap6 w6 sp6 o6 f6 n6
  have hob := own_blk h1
  have hne : ∀ (c : CelT) l' s', OwnA 25 w c.1 l' s' → ∀ i ∈ blk c.1, i ∉ blk v := fun c l' s' hA i hi hv => by
    obtain ⟨cs1, e1⟩ := hob i hv
    obtain ⟨cs2, e2⟩ := own_blk hA i hi
    rw [e1] at e2; cases e2
  have hA := hX.keep f1 (by simp)
  have e : (cs ++ [(⟨.slice xa l.length xc, rfl⟩ : CelT)]).length = L.length + 1 := by simp [h2]
  have e2 : (cs.length + [(⟨.slice xa l.length xc, rfl⟩ : CelT)].length) = L.length + 1 := by simp [h2]
  rw [e2] at o6 n6 ⊢
  refine kk a6 cap6 w6 ⟨_, sp6, o6, by simp [h2], fun i c l' hi hl => ?_, fun i hi => ?_⟩ ((f1.mono (by simp)).trans f6 (fun i hi => .inl hi))
  · by_cases hlt : i < L.length
    · rw [List.getElem?_append_left (by omega)] at hi
      rw [List.getElem?_append_left hlt] at hl
      obtain ⟨s', hs'⟩ := h3 i c l' hi hl
      exact ⟨s', (hs'.keep f1 (by simp)).keep f6 (hne c l' s' hs')⟩
    · have : i = L.length := by
        rcases Nat.lt_or_ge i (L.length + 1) with h | h
        · omega
        · rw [List.getElem?_eq_none (by simp; omega)] at hl; cases hl
      subst this
      rw [List.getElem?_append_right (by omega)] at hi hl
      simp [h2] at hi hl
      subst hi; subst hl
      exact ⟨s, hA.keep f6 (fun i hi hv => by
        obtain ⟨cs1, e1⟩ := hob i hv
        obtain ⟨cs2, e2⟩ := own_blk hX i hi
        rw [e1] at e2; cases e2)⟩
  · rcases n6 i hi with h | h
    · exact h4 i h
    · simp at h; omega
def CoRel (L : List (List Ad)) (w : World) (v cv : Value) (wr : World) : Prop := ∃ k : Nat, k ≤ L.length ∧ cv = .int .i64 k ∧ OwnL w wr v (L.take k) ∧ Frm [] w wr
set_option maxHeartbeats 2000000 in
theorem copies_any (L : List (List Ad)) (v : Value) (w : World) (hS : LsA w v L) (hL : Hs L) : Calls Try.prog 9 #[v] w fun e w' => ∃ v', e = .returned v' ∧ OwnL w w' v' L ∧ Frm [] w w' := by
  obtain ⟨a, cap, rfl, hcap⟩ := hS.form
  have hL9 : (L.length : Int) ≤ 64 := by have := hL.n; omega
  have HS := Lib.hid hS
  have HL := Lib.hid hL
  clear hS hL hcap
  go_enter Try.func9, Try.ntmps9
  go_wp2_with fail
  go_loopw [3, 4] (CoRel L w) (fun _ c _ => L.length - (intOf c).toNat)
  case atStart => exact ⟨0, by omega, rfl, OwnL.nil _ _, Frm.refl _ _⟩
  case round =>
    obtain ⟨k, hk, rfl, o, f⟩ := hrel
    have hlen : (L.take k).length = k := by simp; omega
    by_cases hlt : k < L.length
    · obtain ⟨b0, off, rfl⟩ := HS.out.at (by omega)
      obtain ⟨c, s1, hc0, hsl1⟩ := HS.out.cell k hlt
      have hcc := f.cell hc0 (by simp)
      have hS1 := hsl1.keep f (by simp)
      have hll := HL.out.l _ (List.getElem_mem hlt)
      have hts : L.take (k + 1) = L.take k ++ [L[k]] := by rw [List.take_succ_eq_append_getElem hlt]
      generalize L[k] = l at *
      obtain ⟨la, lc, rfl, _, _⟩ := hsl1.form
      generalize L.take k = T at *
      obtain ⟨b5, c5, rfl⟩ := o.form
      have F := Lib.hid f
      have O := Lib.hid o
      have S1 := Lib.hid hS1
      have TS := Lib.hid hts
      have LN := Lib.hid (And.intro hlen hll)
      clear f o hc0 hsl1 hS1 hts hlen hll
      go_wp2_with fail
      refine (Copy_any _ l s1 _ S1.out (by have := LN.out.2; omega)).mono ?_
      rintro e w2 ⟨v2, sp2, rfl, o2, f2, n2⟩
      obtain ⟨a2, c2, rfl, _, _⟩ := o2.sl.form
      have O2 := Lib.hid o2
      have F2 := Lib.hid (F.out.trans f2 (by simp))
      have OL := Lib.hid (O.out.keep0 f2)
      clear o2 f2 n2
      go_wp2_with (at_builtin; refine wpList_app_list OL.out O2.out (by have := LN.out.1; have := HL.out.n; omega) F2.out.size rfl (.tmp 11) (.tmp 17) rfl rfl rfl ?_; intro a6 cap6 w6 o6 f6)
      have O6 := Lib.hid (show OwnL w w6 (.slice a6 (T.length + 1) cap6) (L.take (k + 1)) from by rw [TS.out]; exact o6)
      have F6 := Lib.hid (F2.out.trans f6 (fun i hi => .inr (by obtain ⟨cs, sp, q1, q2, q3, q4⟩ := O.out; exact q4 i hi)))
      clear o6 f6
      go_wp2_with fail
      go_roundw
      case rel => exact ⟨k + 1, by omega, by go_num, O6.out, F6.out⟩
      case measure => simp [intOf]; omega
    · obtain rfl : k = L.length := by omega
      rw [List.take_length] at o
      have F := Lib.hid f
      have O := Lib.hid o
      obtain ⟨b5, c5, rfl⟩ := o.form
      clear f o hlen
      go_wp2_with fail
      go_ret
      exact ⟨_, rfl, O.out, F.out⟩
set_option maxHeartbeats 2000000 in
theorem kept_any (L : List (List Ad)) (v x : Value) (w : World) (hS : LsA w v L) (hX : LsA w x L) (hL : Hs L) : Calls Try.prog 26 #[v, x] w fun e w' => e = .returned (.bool true) ∧ Frm [] w w' := by
  obtain ⟨a, cap, rfl, hcap⟩ := hS.form
  obtain ⟨xa, xcap, rfl, hxcap⟩ := hX.form
  have hL9 : (L.length : Int) ≤ 64 := by have := hL.n; omega
  have HS := Lib.hid hS
  have HX := Lib.hid hX
  have HL := Lib.hid hL
  clear hS hL hcap hX hxcap
  go_enter Try.func26, Try.ntmps26
  go_wp2_with fail
  go_loopw [5] (CntRel L.length w) (fun c _ => L.length - (intOf c).toNat)
  case atStart => exact ⟨0, by omega, rfl, Frm.refl _ _⟩
  case round =>
    obtain ⟨k, hk, rfl, f⟩ := hrel
    by_cases hlt : k < L.length
    · obtain ⟨b0, off, rfl⟩ := HS.out.at (by omega)
      obtain ⟨c, s1, hc0, hsl1⟩ := HS.out.cell k hlt
      obtain ⟨b2, off2, rfl⟩ := HX.out.at (by omega)
      obtain ⟨c2, s2, hc2, hsl2⟩ := HX.out.cell k hlt
      have hcc := f.cell hc0 (by simp)
      have hcc2 := f.cell hc2 (by simp)
      have hll := HL.out.l _ (List.getElem_mem hlt)
      generalize L[k] = l at *
      obtain ⟨la, lc, rfl, _, _⟩ := hsl1.form
      obtain ⟨lb, ld, rfl, _, _⟩ := hsl2.form
      have F := Lib.hid f
      have C := Lib.hid hcc
      have C2 := Lib.hid hcc2
      have S1 := Lib.hid (hsl1.keep f (by simp))
      have S2 := Lib.hid (hsl2.keep f (by simp))
      have LN := Lib.hid hll
      clear f hc0 hsl1 hc2 hsl2 hcc hcc2 hll
      go_upto_region 4 with (fail)
      refine wp_region_held_drew (S := fun z => Frm [] wr z) (by kernel_rfl) ((Frm.refl [] wr).drew) (fun hHeld => ?_)
      refine wpAnyH_take (i := 0) (oi := { dst := some 12, op := Op.move (Operand.tmp 0), type := 22, pos := "law.go:33", after := #[], guard := none }) (v := ?_) rfl (by kernel_rfl) (by kernel_rfl) (by kernel_rfl) (fun _ _ _ h => h) (Or.inl ⟨by rfl, ?_⟩) hHeld ?_
      rotate_left
      focus (intro z hSw; clear hSw; go_simp; try with_reducible rfl)
      try simp only [Act.put, List.setIfInBounds_toArray, List.set_cons_zero, List.set_cons_succ]
      refine wpAnyH_take (i := 1) (oi := { dst := some 13, op := Op.move (Operand.tmp 5), type := 3, pos := "law.go:33", after := #[], guard := none }) (v := ?_) rfl (by kernel_rfl) (by kernel_rfl) (by kernel_rfl) (fun _ _ _ h => h) (Or.inl ⟨by rfl, ?_⟩) hHeld ?_
      rotate_left
      focus (intro z hSw; clear hSw; go_simp; try with_reducible rfl)
      try simp only [Act.put, List.setIfInBounds_toArray, List.set_cons_zero, List.set_cons_succ]
      refine wpAnyH_take (i := 2) (oi := { dst := some 14, op := Op.indexAddr 22 (Operand.tmp 12) (Operand.tmp 13), type := 0, pos := "law.go:33", after := #[{ on := 0, ground := Ground.data }, { on := 1, ground := Ground.data }], guard := none }) (v := ?_) rfl (by kernel_rfl) (by kernel_rfl) (by kernel_rfl) (fun _ _ _ h => h) (Or.inl ⟨by rfl, ?_⟩) hHeld ?_
      rotate_left
      focus (intro z hSw; clear hSw; go_simp; try with_reducible rfl)
      try simp only [Act.put, List.setIfInBounds_toArray, List.set_cons_zero, List.set_cons_succ]
      refine wpAnyH_take (i := 3) (oi := { dst := some 15, op := Op.load 30 (Operand.tmp 14), type := 30, pos := "law.go:33", after := #[{ on := 2, ground := Ground.data }], guard := none }) (v := ?_) rfl (by kernel_rfl) (by kernel_rfl) (by kernel_rfl) (fun _ _ _ h => h) (Or.inl ⟨by rfl, ?_⟩) hHeld ?_
      rotate_left
      focus (intro z hSw; have hcz := hSw.cell C.out (by simp); have hcy := hSw.cell C2.out (by simp); clear hSw; go_simp; try with_reducible rfl)
      try simp only [Act.put, List.setIfInBounds_toArray, List.set_cons_zero, List.set_cons_succ]
      refine wpAnyH_take (i := 4) (oi := { dst := some 16, op := Op.move (Operand.tmp 1), type := 22, pos := "law.go:33", after := #[], guard := none }) (v := ?_) rfl (by kernel_rfl) (by kernel_rfl) (by kernel_rfl) (fun _ _ _ h => h) (Or.inl ⟨by rfl, ?_⟩) hHeld ?_
      rotate_left
      focus (intro z hSw; clear hSw; go_simp; try with_reducible rfl)
      try simp only [Act.put, List.setIfInBounds_toArray, List.set_cons_zero, List.set_cons_succ]
      refine wpAnyH_take (i := 5) (oi := { dst := some 17, op := Op.move (Operand.tmp 5), type := 3, pos := "law.go:33", after := #[], guard := none }) (v := ?_) rfl (by kernel_rfl) (by kernel_rfl) (by kernel_rfl) (fun _ _ _ h => h) (Or.inl ⟨by rfl, ?_⟩) hHeld ?_
      rotate_left
      focus (intro z hSw; clear hSw; go_simp; try with_reducible rfl)
      try simp only [Act.put, List.setIfInBounds_toArray, List.set_cons_zero, List.set_cons_succ]
      refine wpAnyH_take (i := 6) (oi := { dst := some 18, op := Op.indexAddr 22 (Operand.tmp 16) (Operand.tmp 17), type := 0, pos := "law.go:33", after := #[{ on := 4, ground := Ground.data }, { on := 5, ground := Ground.data }], guard := none }) (v := ?_) rfl (by kernel_rfl) (by kernel_rfl) (by kernel_rfl) (fun _ _ _ h => h) (Or.inl ⟨by rfl, ?_⟩) hHeld ?_
      rotate_left
      focus (intro z hSw; clear hSw; go_simp; try with_reducible rfl)
      try simp only [Act.put, List.setIfInBounds_toArray, List.set_cons_zero, List.set_cons_succ]
      refine wpAnyH_take (i := 7) (oi := { dst := some 19, op := Op.load 30 (Operand.tmp 18), type := 30, pos := "law.go:33", after := #[{ on := 6, ground := Ground.data }], guard := none }) (v := ?_) rfl (by kernel_rfl) (by kernel_rfl) (by kernel_rfl) (fun _ _ _ h => h) (Or.inl ⟨by rfl, ?_⟩) hHeld ?_
      rotate_left
      focus (intro z hSw; have hcz := hSw.cell C.out (by simp); have hcy := hSw.cell C2.out (by simp); clear hSw; go_simp; try with_reducible rfl)
      try simp only [Act.put, List.setIfInBounds_toArray, List.set_cons_zero, List.set_cons_succ]
      refine wpAnyH_ready (rs := [8]) (by kernel_rfl) (by simp) ?_
      refine AllReadyH.cons (o := { dst := some 20, op := Op.call { callee := Callee.value (Operand.func 19), args := #[Operand.tmp 15, Operand.tmp 19], argTypes := #[30, 30] }, type := 4, pos := "law.go:33", after := #[{ on := 3, ground := Ground.data }, { on := 7, ground := Ground.data }], guard := none }) rfl (fun K hK => ?_) AllReadyH.nil
      go_simp
      refine (Same_true _ _ l s1 s2 _ (S1.out.keep hHeld (by simp)) (S2.out.keep hHeld (by simp)) (by have := LN.out; omega)).mono ?_
      rintro e w4 ⟨rfl, f4⟩
      refine hK.out _ _ ?_ (fun hNext => ?_)
      · exact hHeld.trans f4 (by simp)
      clear hK K hHeld
      have hHeld := hNext
      clear hNext
      try simp only [Act.put, List.setIfInBounds_toArray, List.set_cons_zero, List.set_cons_succ]
      refine wpAnyH_take (i := 9) (oi := { dst := some 21, op := Op.unOp UnOp.not 4 (Operand.tmp 20), type := 4, pos := "law.go:33", after := #[{ on := 8, ground := Ground.data }], guard := none }) (v := ?_) rfl (by kernel_rfl) (by kernel_rfl) (by kernel_rfl) (fun _ _ _ h => h) (Or.inl ⟨by rfl, ?_⟩) hHeld ?_
      rotate_left
      focus (intro z hSw; clear hSw; go_simp; try with_reducible rfl)
      try simp only [Act.put, List.setIfInBounds_toArray, List.set_cons_zero, List.set_cons_succ]
      refine wpAnyH_done (by kernel_rfl) ?_ _
      have F1 := Lib.hid (F.out.trans hHeld (by simp))
      clear hHeld f4
      go_wp2_with fail
      go_roundw
      case rel => exact ⟨k + 1, by omega, by go_num, F1.out⟩
      case measure => simp [intOf]; omega
    · obtain rfl : k = L.length := by omega
      have F := Lib.hid f
      clear f
      go_wp2_with fail
      go_ret
      exact ⟨rfl, F.out⟩
end Go.Proofs.Ytafedmahehbggaa
