/-
  Contracts of common, Shared, Referenced, Holders. No conditions but those that each theorem names.
-/
import Derived.Test.YtafedmahehbggaaUY
import Derived.Test.YtafedmahehbggaaKI
namespace Go.Proofs.Ytafedmahehbggaa
open Go.RowKit Go.Sort Go.Maps
set_option linter.unusedVariables false
set_option linter.unusedSimpArgs false
set_option maxRecDepth 100000

open Kr (OwnE SlE Enco RowTys)
theorem common_none (w : World) : Calls Try.prog 44 #[.slice none 0 0] w (Told w []) := by
  go_enter Try.func44, Try.ntmps44
  go_wp2_with fail
  go_ret
  exact ⟨_, [], rfl, OwnA.nil 25 _, Frm.refl _ _, by simp [blk]⟩
theorem common_one (g cap : Nat) (v : Value) (l sp : List Ad) (w : World) (hc : w.cell? ⟨g, 0, none⟩ = some v) (h1 : 1 ≤ cap) (hS : SlA w v l sp) (hl : l.length ≤ 100000) (hw : ∀ x ∈ l, WfA x) :
    Calls Try.prog 44 #[.slice (some ⟨g, 0, none⟩) 1 cap] w (Told w (srt l)) := by
  obtain ⟨a, vc, rfl, _, _⟩ := hS.form
  have HC := Lib.hid (Sort_any _ l sp w hS hl hw)
  clear hS hl hw
  go_enter Try.func44, Try.ntmps44
  go_wp2_with fail
  refine HC.out.mono ?_
  rintro e w1 ⟨v1, sp1, rfl, o1, f1, n1⟩
  obtain ⟨a1, c1, rfl, _, _⟩ := o1.sl.form
  have T1 := Lib.hid (And.intro o1 (And.intro f1 n1))
  clear o1 f1 n1
  by_cases hc1 : cap = 1
  · subst hc1
    go_wp2_with fail
    go_loopw [3, 16] (fun b c wr => b = .slice a1 (srt l).length c1 ∧ c = .int .i64 0 ∧ wr = w1) (fun _ _ _ => 0)
    case atStart => exact ⟨rfl, rfl, rfl⟩
    case round =>
      obtain ⟨rfl, rfl, rfl⟩ := hrel
      go_wp2_with fail
      go_ret
      exact ⟨_, sp1, rfl, T1.out.1, T1.out.2.1, T1.out.2.2⟩
  · have hc2 : ¬ (cap : Int) = 1 := by omega
    go_wp2_with fail
    go_loopw [3, 16] (fun b c wr => b = .slice a1 (srt l).length c1 ∧ c = .int .i64 0 ∧ wr = w1) (fun _ _ _ => 0)
    case atStart => exact ⟨rfl, rfl, rfl⟩
    case round =>
      obtain ⟨rfl, rfl, rfl⟩ := hrel
      go_wp2_with fail
      go_ret
      exact ⟨_, sp1, rfl, T1.out.1, T1.out.2.1, T1.out.2.2⟩
theorem hb_all {L : List (List Ad)} {s : List Int} {x : Ad} : (hb L x L.length ≠ 0 ∧ ((hb L x L.length &&& nb L.length s) == nb L.length s) = true) ↔ (inL L x ∧ ∀ i, i < L.length → amg s i = true → x ∈ L.getD i []) := by
  rw [bits_all, hb_ne]
  simp only [decide_eq_true_eq, inL]
theorem shared_eq {L : List (List Ad)} {s : List Int} {A : List Ad} (hn : anyU L.length s = true) (hA : ∀ x, x ∈ A ↔ (inL L x ∧ ∀ i, i < L.length → amg s i = true → x ∈ L.getD i [])) : srt A = sharedU L s :=
  tell_eq fun x => by rw [hA x, hn, Bool.true_and, decide_eq_true_eq]; rfl
theorem shared_none {L : List (List Ad)} {s : List Int} (hn : anyU L.length s = false) : sharedU L s = [] := by
  have : ∀ x, x ∉ sharedU L s := fun x hx => by
    rw [sharedU, mem_tell, hn] at hx
    simp at hx
  exact List.eq_nil_iff_forall_not_mem.2 this
def ShP (L : List (List Ad)) (s : List Int) (x : Ad) : Prop := inL L x ∧ ∀ i, i < L.length → amg s i = true → x ∈ L.getD i []
def ShRel (L : List (List Ad)) (s : List Int) (v : Value) (g : Nat) (w : World) (d cv : Value) (wr : World) : Prop :=
  Row1 wr g v (nb L.length s) ∧ Frm [] w wr ∧ ((cv = .int .i64 0 ∧ d = .slice none 0 0) ∨ (cv = .int .i64 1 ∧ ((anyU L.length s = false ∧ d = .slice none 0 0) ∨ (anyU L.length s = true ∧ ∃ gs cap u, d = .slice (some ⟨gs, 0, none⟩) 1 cap ∧ 1 ≤ cap ∧ wr.cell? ⟨gs, 0, none⟩ = some u ∧ Got (ShP L s) w u wr))))
set_option maxHeartbeats 8000000 in
theorem Shared_any (L : List (List Ad)) (v sv : Value) (s : List Int) (ssp : List Value) (w : World) (hS : LsA w v L) (hL : Hs L) (hI : SlI w sv s ssp) (hs : s.length ≤ 1000000) :
    Calls Try.prog 14 #[v, sv] w (Told w (sharedU L s)) := by
  have e43 : ∀ args w, (callFunc 43 args).run Try.prog w = .ok (.enter 43 args) w := enters_of Try.func43 (by kernel_rfl) rfl
  have hmf : ∀ (fn : Fn) (first cap : Array Value) (w : World), (Instr.makeFunc fn first cap).run Try.prog w = .ok (.func fn first cap) w := fun _ _ _ _ => rfl
  by_cases h0 : L.length = 0
  · obtain rfl : L = [] := List.eq_nil_of_length_eq_zero h0
    have HR := Lib.hid (rows_none v sv s ssp w hS hI hs)
    clear hS hL h0 hI hs
    go_enter Try.func14, Try.ntmps14
    go_wp2_with fail
    refine HR.out.mono ?_
    rintro e w1 ⟨rfl, f1⟩
    have F1 := Lib.hid f1
    clear f1 HR
    go_wp2_with fail
    go_loopw [5, 12] (fun d c wr => d = .slice none 0 0 ∧ c = .int .i64 0 ∧ wr = w1) (fun _ c _ => 0)
    case atStart => exact ⟨rfl, rfl, rfl⟩
    case round =>
      obtain ⟨rfl, rfl, rfl⟩ := hrel
      go_wp2_with fail
      refine (common_none _).mono ?_
      rintro e w2 ⟨v2, sp2, rfl, o2, f2, n2⟩
      have hk : [] = sharedU [] s := (shared_none (by simp [anyU])).symm
      rw [hk] at o2
      go_wp2_with fail
      go_ret
      exact ⟨v2, sp2, rfl, o2, F1.out.trans f2 (by simp), fun i hi => by have := n2 i hi; have := F1.out.size; omega⟩
  · have HR := Lib.hid (rows_any L v sv s ssp w hS hL.n (by omega) hI hs)
    have HS := Lib.hid hS
    have HL := Lib.hid hL
    obtain ⟨a, cap, rfl, hcap⟩ := hS.form
    clear hS hL hcap hI hs
    go_enter Try.func14, Try.ntmps14
    go_wp2_with fail
    refine HR.out.mono ?_
    rintro e w1 ⟨g, c1, rfl, hr, f1, ng⟩
    have R1 := Lib.hid hr
    have F1 := Lib.hid f1
    have NG := Lib.hid ng
    clear hr f1 ng HR
    go_wp2_with fail
    go_loopw [5, 12] (ShRel L s (.slice a L.length cap) g w) (fun _ c _ => 1 - (intOf c).toNat)
    case atStart => exact ⟨R1.out, F1.out, .inl ⟨rfl, rfl⟩⟩
    case round =>
      obtain ⟨hr, f, ⟨rfl, rfl⟩ | ⟨rfl, hg⟩⟩ := hrel
      · obtain ⟨c0, c1, c2, _⟩ := hr.cell
        have F := Lib.hid f
        have R := Lib.hid hr
        clear f hr
        obtain ⟨z, hz⟩ : ∃ z, ((nb L.length s : Nat) : Int) = z := ⟨_, rfl⟩
        have HZ := Lib.hid hz
        rw [hz] at c2
        clear hz
        go_upto_region 5 with (fail)
        have f3 : Frm [] wr (wr.alloc (.cells #[.int .i64 0, .slice a L.length cap, .int .u64 z] 53)) := (Frm.refl [] wr).alloc _
        have h3 := heap_alloc_new wr (.cells #[.int .i64 0, .slice a L.length cap, .int .u64 z] 53)
        have R3 := Lib.hid (R.out.keep f3 (by simp))
        have F3 := Lib.hid (F.out.trans f3 (by simp))
        generalize wr.alloc (.cells #[.int .i64 0, .slice a L.length cap, .int .u64 z] 53) = w3 at *
        obtain ⟨g3, hg3⟩ : ∃ g3, wr.heap.size = g3 := ⟨_, rfl⟩
        rw [hg3] at h3 ⊢
        have H3 := Lib.hid h3
        have d0 : w3.cell? ⟨g3, 0, none⟩ = some (.int .i64 0) := by rw [cell_of_heap h3]; rfl
        have d1 : w3.cell? ⟨g3, 1, none⟩ = some (.slice a L.length cap) := by rw [cell_of_heap h3]; rfl
        have d2 : w3.cell? ⟨g3, 2, none⟩ = some (.int .u64 z) := by rw [cell_of_heap h3]; rfl
        clear c0 c1 c2 f3 h3 hg3
        have hzz : (z != 0) = anyU L.length s := by
          rw [← HZ.out, anyU, ← nb_zero]
          cases nb L.length s <;> rfl
        cases hany : anyU L.length s with
        | false =>
          rw [hany] at hzz
          have HA := Lib.hid hany
          clear hany
          go_wp2_with fail
          go_roundw
          case rel => exact ⟨R3.out, F3.out, .inr ⟨rfl, .inl ⟨HA.out, rfl⟩⟩⟩
          case measure => decide
        | true =>
          rw [hany] at hzz
          have HA := Lib.hid hany
          clear hany
          go_wp2_with fail
          refine (count_any L _ _ _ _ (HS.out.keep0 F3.out) HL.out.n HL.out.l HL.out.w).mono ?_
          rintro e w4 ⟨b, n, rfl, hB, hn, f4, nb4⟩
          have B4 := Lib.hid hB
          have N4 := Lib.hid hn
          have F4 := Lib.hid (F3.out.trans f4 (by simp))
          have R4 := Lib.hid (R3.out.keep f4 (by simp))
          have H4 := Lib.hid (f4.heap H3.out (by simp))
          clear hB hn f4 nb4 d0 d1 d2
          go_wp2_with fail
          refine (where_any (fun n => (n &&& nb L.length s) == nb L.length s) 43 g3 e43 _ HL.out.lt b n _ (fun n W hn hf => ball_any n _ g3 hn (HL.out.nlt s) W (by rw [cell_of_heap (hf.heap H4.out (by simp)), HZ.out]; rfl)) B4.out (by have := N4.out; omega)).mono ?_
          rintro e w5 ⟨v5, ss, sp5, rfl, o5, m5, w5f, l5, f5, n5⟩
          have G5 := Lib.hid (show Got (ShP L s) w v5 w5 from ⟨ss, sp5, o5, anyB HL.out (p := fun n => (n &&& nb L.length s) == nb L.length s) (P := ShP L s) m5 w5f (fun x => hb_all) (fun x h => by obtain ⟨i, h⟩ := h.1; exact HL.out.wf h), w5f, by have := N4.out; omega, fun i hi => by have := n5 i hi; have := F4.out.size; omega⟩)
          obtain ⟨a5, c5, rfl, _, _⟩ := o5.sl.form
          have F5 := Lib.hid (F4.out.trans f5 (by simp))
          have R5 := Lib.hid (R4.out.keep f5 (by simp))
          clear o5 m5 w5f l5 f5 n5
          go_wp2_with fail
          have f6 : ∀ (A B : Obj), Frm [] w5 ((w5.alloc A).alloc B).drew := fun A B => (((Frm.refl [] w5).alloc A).alloc B).drew
          go_roundw
          case rel =>
            refine ⟨R5.out.keep (f6 _ _) (by simp), F5.out.trans (f6 _ _) (by simp), .inr ⟨rfl, .inr ⟨HA.out, _, _, .slice a5 ss.length c5, rfl, grownCap_ge w5 1 0 30, ?_, G5.out.keep (f6 _ _) (by simp)⟩⟩⟩
            rw [World.cell?_drew, cell_of_heap (heap_alloc_at (by simp)), Array.getElem?_append_left (by simp)]
            rfl
          case measure => decide
      · have F := Lib.hid f
        rcases hg with ⟨hn, rfl⟩ | ⟨hn, gs, cp, u, rfl, h1, hc, ss, sp, o, m, wf, l, nf⟩
        · have hk := shared_none hn
          clear f hr hn
          go_wp2_with fail
          refine (common_none _).mono ?_
          rintro e w2 ⟨v2, sp2, rfl, o2, f2, n2⟩
          rw [← hk] at o2
          have O2 := Lib.hid o2
          have F2 := Lib.hid f2
          have N2 := Lib.hid n2
          clear o2 f2 n2
          go_wp2_with fail
          go_ret
          exact ⟨v2, sp2, rfl, O2.out, F.out.trans F2.out (by simp), fun i hi => by have := N2.out i hi; have := F.out.size; omega⟩
        · have hk := shared_eq hn m
          have HC := Lib.hid (common_one gs cp u ss sp _ hc h1 o.sl (by omega) wf)
          clear f hr hn m hc o nf wf
          go_wp2_with fail
          refine HC.out.mono ?_
          rintro e w2 ⟨v2, sp2, rfl, o2, f2, n2⟩
          rw [hk] at o2
          have O2 := Lib.hid o2
          have F2 := Lib.hid f2
          have N2 := Lib.hid n2
          clear o2 f2 n2
          go_wp2_with fail
          go_ret
          exact ⟨v2, sp2, rfl, O2.out, F.out.trans F2.out (by simp), fun i hi => by have := N2.out i hi; have := F.out.size; omega⟩
theorem Referenced_any (L : List (List Ad)) (v : Value) (i : Int) (w : World) (hS : LsA w v L) (hL : Hs L) :
    Calls Try.prog 22 #[v, .int .i64 i] w fun e w' => e = .returned (.int .i64 ((sharedU L [i]).length : Nat)) ∧ Frm [] w w' := by
  have f0 : Frm [] w (w.alloc (.cells #[.int .i64 i] 3)) := (Frm.refl [] w).alloc _
  have HC := Lib.hid (Shared_any L v (.slice (some ⟨w.heap.size, 0, none⟩) 1 1) [i] [] _ (hS.keep0 f0) hL (one_int w i) (by simp))
  have F0 := Lib.hid f0
  clear f0 hS hL
  go_enter Try.func22, Try.ntmps22
  go_wp2_with fail
  refine HC.out.mono ?_
  rintro e w2 ⟨v2, sp2, rfl, o2, f2, n2⟩
  obtain ⟨a2, c2, rfl, _, _⟩ := o2.sl.form
  go_wp2_with fail
  go_ret
  exact ⟨rfl, F0.out.trans f2 (by simp)⟩
end Go.Proofs.Ytafedmahehbggaa
