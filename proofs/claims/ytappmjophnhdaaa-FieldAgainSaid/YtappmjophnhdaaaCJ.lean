/-
  The walk of FieldReads: for all bytes and every list of asks that can be read it returns true and changes nothing that was there; no conditions but that they can be read.
-/
import Derived.Test.YtappmjophnhdaaaCI
import Derived.Deep.RegionWith
namespace Go.Proofs.Ytappmjophnhdaaa
open Go.RowKit
set_option linter.unusedVariables false
set_option linter.unusedSimpArgs false

/-- A list of asks that can be read. -/
structure Asks (w : World) (val : Value) (xs : List Ask0) : Prop where
  form : ∃ a cap, val = .slice a xs.length cap
  big : xs.length ≤ 9223372036854775807
  at' : ∀ k (hk : k < xs.length), ∃ b off, (∃ cap, val = .slice (some ⟨b, off, none⟩) xs.length cap) ∧
    w.cell? ⟨b, off + k * 4, none⟩ = some (.int .i64 xs[k].kind) ∧ w.cell? ⟨b, off + k * 4 + 1, none⟩ = some (.int .i64 xs[k].size) ∧ w.cell? ⟨b, off + k * 4 + 2, none⟩ = some (.int .i64 xs[k].low) ∧ w.cell? ⟨b, off + k * 4 + 3, none⟩ = some (.int .i64 xs[k].high)
def stepsR (l : List UInt8) (xs : List Ask0) (s : Nat × Int × Int) : Nat × Int × Int := xs.foldl (fun s x => x.step l s) s
/-- A place that is not behind the end; a fault that tells no place where there is none. -/
def Okay (l : List UInt8) (s : Nat × Int × Int) : Prop := s.1 ≤ l.length ∧ (s.2.1 = 0 → s.2.2 = 0)
theorem stepR_okay {α : Type} {l : List UInt8} {s : Nat × Int × Int} {z : α} {o : (Int × Int) ⊕ α} {n : Nat} (h : Okay l s) (h1 : ∀ e a, o = .inl (e, a) → e ≠ 0) (h2 : ∀ m, o = .inr m → s.1 + n ≤ l.length) : Okay l (stepR s z o n).2 := by
  unfold stepR
  split
  · rename_i h0
    cases o with
    | inl f => exact ⟨h.1, fun h3 => absurd h3 (h1 f.1 f.2 rfl)⟩
    | inr m => exact ⟨h2 m rfl, fun _ => h.2 h0⟩
  · exact h
theorem Ask0.step_okay (x : Ask0) {l : List UInt8} {s : Nat × Int × Int} (h : Okay l s) : Okay l (x.step l s) := by
  unfold Ask0.step
  split
  · refine stepR_okay h (fun e a he => ?_) (fun m he => ?_)
    · cases hn : numRead l s.1 x.size x.low x.high with
      | inl f =>
        rw [hn] at he
        simp at he
        subst he
        unfold numRead at hn
        split at hn
        · cases hn; decide
        split at hn
        · cases hn; decide
        split at hn
        · cases hn; decide
        · cases hn
      | inr f =>
        rw [hn] at he
        simp at he
    · cases hn : numRead l s.1 x.size x.low x.high with
      | inl f =>
        rw [hn] at he
        simp at he
      | inr f =>
        unfold numRead at hn
        split at hn
        · cases hn
        split at hn
        · cases hn
        omega
  · split
    · refine stepR_okay h (fun e a he => ?_) (fun m he => ?_)
      · unfold textRead at he
        split at he
        · cases he; decide
        split at he
        · cases he; decide
        split at he
        · cases he; decide
        split at he
        · cases he; decide
        split at he
        · cases he; decide
        · cases he
      · unfold textRead at he
        split at he
        · cases he
        split at he
        · cases he
        omega
    · split
      · refine stepR_okay h (fun e a he => ?_) (fun m he => ?_)
        · unfold rawRead at he
          split at he
          · cases he; decide
          split at he
          · cases he; decide
          · cases he
        · unfold rawRead at he
          split at he
          · cases he
          split at he
          · cases he
          omega
      · split
        · unfold rRest
          split
          · rename_i h0
            split
            · exact ⟨Nat.le_refl _, fun _ => h.2 h0⟩
            · exact ⟨h.1, fun h3 => by simp at h3⟩
          · exact h
        · exact h
theorem stepsR_okay (xs : List Ask0) {l : List UInt8} : ∀ {s : Nat × Int × Int}, Okay l s → Okay l (stepsR l xs s) := by
  induction xs with
  | nil => intro s h; exact h
  | cons x xs ih => intro s h; exact ih (x.step_okay h)
theorem stepsR_snoc (l : List UInt8) (xs : List Ask0) (k : Nat) (hk : k < xs.length) (s : Nat × Int × Int) : stepsR l (xs.take (k + 1)) s = xs[k].step l (stepsR l (xs.take k) s) := by
  unfold stepsR
  rw [List.take_succ_eq_append_getElem hk, List.foldl_append]
  rfl
def ReadsRel (w : World) (br bv : Nat) (vr vv : Value) (l sp1 sp2 : List UInt8) (xs : List Ask0) (c : Value) (wr : World) : Prop :=
  ∃ k : Nat, k ≤ xs.length ∧ c = .int .i64 k ∧ Both wr br bv vr vv l sp1 sp2 (stepsR l (xs.take k) (0, 0, 0)) ∧ Frm [br, bv] w wr
set_option maxRecDepth 100000 in
set_option maxHeartbeats 4000000 in
theorem reads_awake (vb val : Value) (l msp : List UInt8) (xs : List Ask0) (w : World) (hS : SlB w vb l msp) (hX : Asks w val xs) (hbig : 1000 < l.length ∨ 60 < xs.length) : Calls Try.prog 4 #[vb, val] w fun r w' => YesF w r w' := by
  obtain ⟨a, cap, rfl, hc1, hc2⟩ := hS.form
  obtain ⟨a2, cap2, rfl⟩ := hX.form
  have hb := hX.big
  have hm : (l.length : Int) ≤ 9223372036854775807 := by simp [maxLen] at hc2; omega
  have hm2 : (xs.length : Int) ≤ 9223372036854775807 := by omega
  clear hS hX hc1 hc2
  by_cases h1 : 1000 < l.length
  · have h1' : (1000 : Int) < (l.length : Int) := by omega
    clear hbig h1
    go_enter Try.func4, Try.ntmps4
    go_wp2_with fail
    refine (awake_any _).mono ?_
    rintro r wa ⟨rfl, fa⟩
    go_wp2_with fail
    refine bodyPost_ret (results_tmp rfl _ _ _) rfl ?_
    exact ⟨rfl, fa⟩
  · have h1' : ¬ (1000 : Int) < (l.length : Int) := by omega
    have h2' : (60 : Int) < (xs.length : Int) := by omega
    clear hbig h1
    go_enter Try.func4, Try.ntmps4
    go_wp2_with fail
    refine (awake_any _).mono ?_
    rintro r wa ⟨rfl, fa⟩
    go_wp2_with fail
    refine bodyPost_ret (results_tmp rfl _ _ _) rfl ?_
    exact ⟨rfl, fa⟩
set_option maxRecDepth 100000 in
set_option maxHeartbeats 8000000 in
theorem reads_short (vb val : Value) (l msp : List UInt8) (xs : List Ask0) (w : World) (hS : SlB w vb l msp) (hB : ∀ k ∈ blkR vb, k < w.heap.size) (hX : Asks w val xs) (hl : l.length ≤ 1000) (hx : xs.length ≤ 60) : Calls Try.prog 4 #[vb, val] w fun r w' => YesF w r w' := by
  obtain ⟨a, cap, rfl, hc1, hc2⟩ := hS.form
  obtain ⟨a2, cap2, rfl⟩ := hX.form
  have h1' : ¬ (1000 : Int) < (l.length : Int) := by omega
  have h2' : ¬ (60 : Int) < (xs.length : Int) := by omega
  have hx6 : (xs.length : Int) ≤ 60 := by omega
  have HS := Lib.hid hS
  have HB := Lib.hid hB
  have HX := Lib.hid hX.at'
  clear hS hB hX hc1 hc2
  go_enter Try.func4, Try.ntmps4
  go_wp2_with fail
  refine (Lent_any _ l msp _ HS.out (by omega)).mono ?_
  rintro r w1 ⟨rfl, o1, f1⟩
  go_wp2_with fail
  refine (Open_any _ l _ _ o1.sl (by omega)).mono ?_
  rintro r w2 ⟨br, ar, capr, spr, rfl, r2, f2, hbr, fr2⟩
  have s2 := f1.size
  have hlentlt : w.heap.size < w1.heap.size := o1.lt _ (by simp [blk])
  have S2 := Lib.hid (HS.out.keep (f1.trans f2 (by simp)) (by simp))
  have O2 := Lib.hid (o1.keep f2 (by simp))
  have R2 := Lib.hid r2
  have FR2 := Lib.hid fr2
  have F2 := Lib.hid (f1.trans f2 (by simp))
  clear o1 r2 f1 fr2
  have s3 := f2.size
  clear f2
  go_wp2_with fail
  refine (VOpen_any _ l msp _ S2.out (fun k hk => by have := HB.out k hk; omega)).mono ?_
  rintro r w3 ⟨rfl, r3, f3⟩
  have hbrl := R2.out.lt br (by simp)
  have hB3 : Both w3 br w2.heap.size (.slice ar l.length capr) (.slice a l.length cap) l spr msp (0, 0, 0) := by
    refine ⟨R2.out.keep f3 (by simp) (by simp), r3, fun hm => ?_, fun hm => ?_, fun k hk => ?_⟩
    · have := R2.out.lt _ hm; omega
    · rcases List.mem_cons.1 hm with h | h
      · omega
      · have := HB.out _ h; omega
    · have := HB.out k hk; have := f3.size; omega
  have HB3 := Lib.hid hB3
  have O3 := Lib.hid (O2.out.keep f3 (by simp))
  have F3 := Lib.hid (F2.out.trans f3 (by simp))
  clear hB3 f3 r3
  have hl9 : l.length ≤ 1000000000 := by omega
  go_wp2_with fail
  go_loopw [8] (ReadsRel w3 br w2.heap.size (.slice ar l.length capr) (.slice a l.length cap) l spr msp xs) (fun c _ => xs.length - (intOf c).toNat)
  case atStart => exact ⟨0, Nat.zero_le _, rfl, HB3.out, Frm.refl _ _⟩
  case round =>
    obtain ⟨k, hk, rfl, hB4, f4⟩ := hrel
    by_cases hlt : k < xs.length
    · have hok := stepsR_okay (xs.take k) (l := l) (s := (0, 0, 0)) ⟨Nat.zero_le _, fun _ => rfl⟩
      have hok2 := stepsR_okay (xs.take (k + 1)) (l := l) (s := (0, 0, 0)) ⟨Nat.zero_le _, fun _ => rfl⟩
      have hsn := stepsR_snoc l xs k hlt (0, 0, 0)
      rw [hsn] at hok2
      generalize stepsR l (xs.take k) (0, 0, 0) = s0 at hB4 hok hok2 hsn
      obtain ⟨b, off, ⟨cap3, hval⟩, q0, q1, q2, q3⟩ := HX.out k hlt
      cases hval
      have FW : Frm [] w wr := (F3.out.trans f4 (fun i hi => .inr (by simp at hi; omega)))
      have p0 := FW.cell q0 (by simp)
      have p1 := FW.cell q1 (by simp)
      have p2 := FW.cell q2 (by simp)
      have p3 := FW.cell q3 (by simp)
      have hrd := fun W (f : Frm [] wr W) => read_any br w2.heap.size _ _ l spr msp s0 xs[k] W (hB4.keep f (by simp)) hok.1 hl9
      generalize hs1 : xs[k].step l s0 = s1 at hok2 hsn hrd
      obtain ⟨p', fe', fa'⟩ := s1
      have hpl : p' ≤ l.length := hok2.1
      have hff : fe' = 0 → fa' = 0 := hok2.2
      have HRD := Lib.hid hrd
      have HSN := Lib.hid hsn
      have HFF := Lib.hid hff
      have F4 := Lib.hid f4
      clear hrd hsn hs1 hok hok2 hff hB4 f4 q0 q1 q2 q3 FW
      go_wp2_with fail
      go_region_with (first
        | (go_at_call 22; refine (HRD.out _ (by first | exact (Frm.refl [] _).drew | exact (Frm.refl [] _).drewN _)).mono ?_; rintro r wx ⟨rfl, hcur, fx⟩; obtain ⟨g0, g1, g2, g3, gz⟩ := hcur.b.cells; clear gz)
        | (go_at_call 23; refine (RAt_any br _ l spr _ _ _ _ hcur.a).mono ?_; rintro r wy ⟨rfl, hwy⟩; subst hwy)
        | (go_at_call 24; refine (RLeft_any br _ l spr p' _ _ _ hcur.a hpl hl9).mono ?_; rintro r wy ⟨rfl, nn, rfl⟩)
        | (go_at_call 25; refine (VLeft_any w2.heap.size _ l msp p' fe' fa' _ (hcur.b.keep ((Frm.refl [] _).drewN _) (by simp) (by simp)) hpl hl9).mono ?_; rintro r wy ⟨rfl, nn2, rfl⟩)
        | (go_at_call 26; refine (RFault_any br _ l spr p' fe' fa' _ (hcur.a.keep ((Frm.refl [] _).drewN _) (by simp) (by simp))).mono ?_; unfold flt; rintro r wz ⟨rfl, fz⟩; have hcur2 := hcur.keep (((Frm.refl [] _).drewN _).trans fz (by simp)) (by simp); have fxz := fx.trans (((Frm.refl [] _).drewN _).trans fz (by simp)) (by simp); obtain ⟨j0, j1, j2, j3, jz⟩ := hcur2.b.cells; clear jz)
        | (go_at_call 27; refine (REnd_any br _ l spr p' fe' fa' _ hcur2.a hpl hl9).mono ?_; rintro r wu ⟨rfl, fu⟩)
        | (go_at_call 28; refine (VEnd_any w2.heap.size _ l msp p' fe' fa' _ ((hcur2.keep fu (by simp)).b) hpl hl9 HFF.out).mono ?_; unfold flt; rintro r wv ⟨rfl, fv⟩))
      all_goals
        go_wp2_with fail
        refine ⟨⟨k + 1, by omega, by go_num, ?_, ?_⟩, by simp [intOf]; omega⟩
        · rw [HSN.out]; exact hcur2.keep (fu.trans fv (by simp)) (by simp)
        · refine F4.out.trans (((?_ : Frm [br, w2.heap.size] _ _).trans fxz (by simp)).trans (fu.trans fv (by simp)) (by simp)) (by simp)
          first | exact (Frm.refl _ _).drew | exact (Frm.refl _ _).drewN _
    · obtain rfl : k = xs.length := by omega
      have hok := stepsR_okay xs (l := l) (s := (0, 0, 0)) ⟨Nat.zero_le _, fun _ => rfl⟩
      rw [List.take_length] at hB4
      generalize stepsR l xs (0, 0, 0) = s1 at hB4 hok
      obtain ⟨p', fe', fa'⟩ := s1
      have hpl : p' ≤ l.length := hok.1
      have hff : fe' = 0 → fa' = 0 := hok.2
      have HFF := Lib.hid hff
      have H4 := Lib.hid hB4
      have F4 := Lib.hid f4
      have FW : Frm [] w wr := (F3.out.trans f4 (fun i hi => .inr (by simp at hi; omega)))
      have HFW := Lib.hid FW
      have O4 := Lib.hid (O3.out.keep f4 (by simp [blk]; omega))
      clear hff hok hB4 f4 FW
      go_wp2_with fail
      refine (REnd_any br _ l spr p' fe' fa' _ H4.out.a hpl hl9).mono ?_
      unfold flt
      rintro r w5 ⟨rfl, f5⟩
      go_wp2_with fail
      refine (VEnd_any w2.heap.size _ l msp p' fe' fa' _ ((H4.out.keep f5 (by simp)).b) hpl hl9 HFF.out).mono ?_
      unfold flt
      rintro r w6 ⟨rfl, f6⟩
      have H6 := Lib.hid ((H4.out.keep f5 (by simp)).keep f6 (by simp))
      go_wp2_with fail
      refine (RLeft_any br _ l spr p' _ _ _ H6.out.a hpl hl9).mono ?_
      rintro r w7 ⟨rfl, nn, rfl⟩
      go_wp2_with fail
      refine (VLeft_any w2.heap.size _ l msp p' fe' fa' _ (H6.out.b.keep ((Frm.refl [] _).drewN _) (by simp) (by simp)) hpl hl9).mono ?_
      rintro r w8 ⟨rfl, nn2, rfl⟩
      have F8 : Frm [] wr (w6.drewN (nn + nn2)) := (f5.trans f6 (by simp)).drewN _
      have O8 := Lib.hid (O4.out.keep F8 (by simp))
      have S8 := Lib.hid (HS.out.keep (HFW.out.trans F8 (by simp)) (by simp))
      have HF8 := Lib.hid F8
      clear F8
      go_wp2_with fail
      refine (Kept_true _ _ _ _ l msp _ O8.out S8.out (by omega)).mono ?_
      rintro r w9 ⟨rfl, f9⟩
      go_wp2_with fail
      refine (awake_any _).mono ?_
      rintro r wa ⟨rfl, fa⟩
      go_wp2_with fail
      go_ret
      exact ⟨rfl, (HFW.out.trans HF8.out (by simp)).trans (f9.trans fa (by simp)) (by simp)⟩
end Go.Proofs.Ytappmjophnhdaaa
