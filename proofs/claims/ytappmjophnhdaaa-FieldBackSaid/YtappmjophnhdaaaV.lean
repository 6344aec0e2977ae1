/-
  Contracts of a reader's Text, Fault, End, of Open, and of writers that are none; no conditions but those that each theorem names.
-/
import Derived.Test.YtappmjophnhdaaaU
namespace Go.Proofs.Ytappmjophnhdaaa
open Go.RowKit
set_option linter.unusedVariables false
set_option linter.unusedSimpArgs false

set_option maxHeartbeats 2000000 in
theorem RTextR_ok (br : Nat) (v : Value) (l sp : List UInt8) (p : Nat) (fa most : Int) (m : List UInt8) (w : World) (hR : Rd w br v l sp p 0 fa) (hp : p ≤ l.length) (hl : l.length ≤ 1000000000) (hx : textRead l p most = .inr m) :
    Calls Try.prog 31 #[.pointer (some ⟨br, 0, none⟩), .int .i64 most] w fun r w' => r = .returned (.string ⟨m.toArray⟩) ∧ RdTo w br v l sp (p + (1 + most.toNat), 0, fa) w' := by
  have hlt := hR.lt
  have f3 : ∀ a b c, Frm [] w (((w.alloc a).alloc b).alloc c) := fun a b c => (((Frm.refl [] w).alloc _).alloc _).alloc _
  have hblt := hlt br (by simp)
  have HL := Lib.hid hlt
  have HF := Lib.hid f3
  clear hlt f3
  have hsz : 0 ≤ most := by
    unfold textRead at hx
    split at hx
    · cases hx
    · rename_i hs; have : 0 ≤ most ∧ most ≤ 255 := by simpa [isMostB] using hs
      omega
  obtain ⟨sz, rfl⟩ := Int.eq_ofNat_of_zero_le hsz
  have HX := Lib.hid hx
  clear hx hsz
  go_enter Try.func31, Try.ntmps31
  go_wp2_with fail
  have hnb : w.heap.size + 1 + 1 ∉ blk v := fun hm => by have := HL.out _ (List.mem_cons_of_mem _ hm); omega
  refine (uf_ret 61 _ br v l sp p fa (fun w' => RdTo w br v l sp (p + (1 + sz), 0, fa) w' ∧ w'.cell? ⟨w.heap.size + 1 + 1, 0, none⟩ = some (.string ⟨m.toArray⟩)) _ (hR.keep (HF.out _ _ _) (by simp) (by simp)) (fun w => enter_of Try.func61 (by kernel_rfl) (by kernel_rfl) _ w) (fun w1 f1 => ?_)).mono ?_
  · refine (rtext_ok _ _ br _ v l sp p 0 fa sz m w1 (hR.keep ((HF.out _ _ _).trans f1 (by simp)) (by simp) (by simp)) hp hl (f1.cell ?_ (by simp)) (f1.cell ?_ (by simp)) HX.out (f1.heap ?_ (by simp)) ?_ ?_ ?_ hnb).mono ?_
    case refine_7 =>
      rintro r w2 ⟨rfl, g1, g2, g3⟩
      exact ⟨rfl, ⟨by simpa using g1, (((HF.out _ _ _).mono (by simp)).trans f1 (by simp)).trans g3 (by simp; omega)⟩, g2⟩
    all_goals first | exact heap_alloc_at (by simp) | (simp [go_sem]; done) | (simp; done) | (simp; omega) | omega
  · rintro r w2 ⟨rfl, h1, h2⟩
    go_wp2
    go_ret
    exact ⟨rfl, h1⟩
def flt (e a : Int) : Value := .agg #[.int .i64 e, .int .i64 a]
theorem RFault_any (br : Nat) (v : Value) (l sp : List UInt8) (p fe fa : Int) (w : World) (hR : Rd w br v l sp p fe fa) :
    Calls Try.prog 26 #[.pointer (some ⟨br, 0, none⟩)] w fun r w' => r = .returned (flt fe fa) ∧ Frm [] w w' := by
  obtain ⟨h1, h2, h3⟩ := hR
  have c0 : w.cell? ⟨br, 0, none⟩ = some (.pointer (some ⟨br, 0, none⟩)) := by rw [cell_of_heap h1]; rfl
  have c3 : w.cell? ⟨br, 3, none⟩ = some (.int .i64 fe) := by rw [cell_of_heap h1]; rfl
  have c4 : w.cell? ⟨br, 4, none⟩ = some (.int .i64 fa) := by rw [cell_of_heap h1]; rfl
  have hlt := lt_heap h1
  clear h1
  go_enter Try.func26, Try.ntmps26
  go_wp2_with (go_at_call 54; refine (rmade_yes br _ (by simp [go_sem, hlt, c0])).mono ?_; rintro r w' ⟨rfl, rfl⟩)
  exact bodyPost_ret (v := flt fe fa) (by simp [results, Try.results26, go_sem, flt]) rfl ⟨rfl, (Frm.refl _ _).alloc _⟩
def rEnd (l : List UInt8) (s : Nat × Int × Int) : Int × Int := if s.2.1 ≠ 0 then (s.2.1, s.2.2) else if s.1 < l.length then (4, s.1) else (0, 0)
set_option maxHeartbeats 1000000 in
theorem REnd_any (br : Nat) (v : Value) (l sp : List UInt8) (p : Nat) (fe fa : Int) (w : World) (hR : Rd w br v l sp p fe fa) (hp : p ≤ l.length) (hl : l.length ≤ 1000000000) :
    Calls Try.prog 27 #[.pointer (some ⟨br, 0, none⟩)] w fun r w' => r = .returned (flt (rEnd l (p, fe, fa)).1 (rEnd l (p, fe, fa)).2) ∧ Frm [] w w' := by
  have hR' := hR
  obtain ⟨h1, h2, h3⟩ := hR
  have c2 : w.cell? ⟨br, 2, none⟩ = some (.int .i64 p) := by rw [cell_of_heap h1]; rfl
  have hlt := lt_heap h1
  clear h1
  have f0 : Frm [] w (w.alloc (.cells #[.int .i64 0, .int .i64 0] 51)) := (Frm.refl _ _).alloc _
  by_cases hfe : fe = 0
  · subst hfe
    by_cases hpl : p < l.length
    · have hr : rEnd l (p, 0, fa) = (4, (p : Int)) := by simp [rEnd, hpl]
      rw [hr]
      have hd : (0 : Int) < (l.length : Int) - p := by omega
      clear hr hpl
      go_enter Try.func27, Try.ntmps27
      go_wp2_with (first | (go_at_call 26; refine (RFault_any br v l sp p 0 fa _ (hR'.keep f0 (by simp) (by simp))).mono ?_; rintro r w1 ⟨rfl, f1⟩; unfold flt; have b1 : w1.heap[w.heap.size]? = some (.cells #[.int .i64 0, .int .i64 0] 51 (0, 0)) := f1.heap (heap_alloc_new _ _) (by simp); have q1 : w1.cell? ⟨w.heap.size, 0, none⟩ = some (.int .i64 0) := (by rw [cell_of_heap b1]; rfl); have q2 : w1.cell? ⟨w.heap.size, 1, none⟩ = some (.int .i64 0) := (by rw [cell_of_heap b1]; rfl); have q3 : w1.frozen? ⟨w.heap.size, 0, none⟩ = false := frozen_of_heap b1 0; have q4 : w1.frozen? ⟨w.heap.size, 1, none⟩ = false := frozen_of_heap b1 1; have q5 : w.heap.size < w1.heap.size := lt_heap b1; have q6 : w1.cell? ⟨br, 2, none⟩ = some (.int .i64 p) := f1.cell (f0.cell c2 (by simp)) (by simp); have q7 : br < w1.heap.size := (by omega); clear b1) | (go_at_call 24; refine (RLeft_any br v l sp p 0 fa _ (hR'.keep ((f0.trans f1 (by simp)).alloc _) (by simp) (by simp)) hp hl).mono ?_; rintro r w2 ⟨rfl, nn, rfl⟩))
      exact bodyPost_ret (v := flt 4 p) (by simp [results, Try.results27, go_sem, flt, q1, q2, q5]) rfl ⟨rfl, ((((f0.trans f1 (by simp)).alloc _).drewN _).setCell _ _ (.inr (Nat.le_refl _))).setCell _ _ (.inr (Nat.le_refl _))⟩
    · have hr : rEnd l (p, 0, fa) = (0, 0) := by simp [rEnd, hpl]
      rw [hr]
      have hd : ¬ (0 : Int) < (l.length : Int) - p := by omega
      clear hr hpl
      go_enter Try.func27, Try.ntmps27
      go_wp2_with (first | (go_at_call 26; refine (RFault_any br v l sp p 0 fa _ (hR'.keep f0 (by simp) (by simp))).mono ?_; rintro r w1 ⟨rfl, f1⟩; unfold flt; have b1 : w1.heap[w.heap.size]? = some (.cells #[.int .i64 0, .int .i64 0] 51 (0, 0)) := f1.heap (heap_alloc_new _ _) (by simp); have q1 : w1.cell? ⟨w.heap.size, 0, none⟩ = some (.int .i64 0) := (by rw [cell_of_heap b1]; rfl); have q2 : w1.cell? ⟨w.heap.size, 1, none⟩ = some (.int .i64 0) := (by rw [cell_of_heap b1]; rfl); have q3 : w1.frozen? ⟨w.heap.size, 0, none⟩ = false := frozen_of_heap b1 0; have q4 : w1.frozen? ⟨w.heap.size, 1, none⟩ = false := frozen_of_heap b1 1; have q5 : w.heap.size < w1.heap.size := lt_heap b1; have q6 : w1.cell? ⟨br, 2, none⟩ = some (.int .i64 p) := f1.cell (f0.cell c2 (by simp)) (by simp); have q7 : br < w1.heap.size := (by omega); clear b1) | (go_at_call 24; refine (RLeft_any br v l sp p 0 fa _ (hR'.keep ((f0.trans f1 (by simp)).alloc _) (by simp) (by simp)) hp hl).mono ?_; rintro r w2 ⟨rfl, nn, rfl⟩))
      exact bodyPost_ret (v := flt 0 0) (by simp [results, Try.results27, go_sem, flt, q1, q2, q5]) rfl ⟨rfl, ((((f0.trans f1 (by simp)).alloc _).drewN _).setCell _ _ (.inr (Nat.le_refl _))).setCell _ _ (.inr (Nat.le_refl _))⟩
  · have hr : rEnd l (p, fe, fa) = (fe, fa) := by simp [rEnd, hfe]
    rw [hr]
    have hd : (fe != 0) = true := by simpa using hfe
    clear hr hfe
    go_enter Try.func27, Try.ntmps27
    go_wp2_with (first | (go_at_call 26; refine (RFault_any br v l sp p fe fa _ (hR'.keep f0 (by simp) (by simp))).mono ?_; rintro r w1 ⟨rfl, f1⟩; unfold flt; have b1 : w1.heap[w.heap.size]? = some (.cells #[.int .i64 0, .int .i64 0] 51 (0, 0)) := f1.heap (heap_alloc_new _ _) (by simp); have q1 : w1.cell? ⟨w.heap.size, 0, none⟩ = some (.int .i64 0) := (by rw [cell_of_heap b1]; rfl); have q2 : w1.cell? ⟨w.heap.size, 1, none⟩ = some (.int .i64 0) := (by rw [cell_of_heap b1]; rfl); have q3 : w1.frozen? ⟨w.heap.size, 0, none⟩ = false := frozen_of_heap b1 0; have q4 : w1.frozen? ⟨w.heap.size, 1, none⟩ = false := frozen_of_heap b1 1; have q5 : w.heap.size < w1.heap.size := lt_heap b1; have q6 : w1.cell? ⟨br, 2, none⟩ = some (.int .i64 p) := f1.cell (f0.cell c2 (by simp)) (by simp); have q7 : br < w1.heap.size := (by omega); clear b1) | (go_at_call 24; refine (RLeft_any br v l sp p fe fa _ (hR'.keep ((f0.trans f1 (by simp)).alloc _) (by simp) (by simp)) hp hl).mono ?_; rintro r w2 ⟨rfl, nn, rfl⟩))
    exact bodyPost_ret (v := flt fe fa) (by simp [results, Try.results27, go_sem, flt, q1, q2, q5]) rfl ⟨rfl, (((f0.trans f1 (by simp)).setCell _ _ (.inr (Nat.le_refl _))).setCell _ _ (.inr (Nat.le_refl _))).alloc _⟩
/-- What Open makes. -/
def Opened (w : World) (l : List UInt8) (r : Ending) (w' : World) : Prop :=
  ∃ br a cap sp', r = .returned (.pointer (some ⟨br, 0, none⟩)) ∧ Rd w' br (.slice a l.length cap) l sp' ((0 : Nat) : Int) 0 0 ∧ Frm [] w w' ∧ w.heap.size ≤ br ∧ Fresh w (.slice a l.length cap)
theorem Open_any (v : Value) (l sp : List UInt8) (w : World) (hS : SlB w v l sp) (hl : l.length ≤ 1000000000) :
    Calls Try.prog 20 #[v] w fun r w' => Opened w l r w' := by
  obtain ⟨a0, cap0, rfl, _, _⟩ := hS.form
  go_enter Try.func20, Try.ntmps20
  go_wp2_with (go_at_call 49; refine (Clone_any _ l sp _ hS (by omega)).mono ?_; rintro r w1 ⟨a', cap', sp', rfl, o1, f1, b1⟩)
  go_ret
  refine ⟨w1.heap.size, a', cap', sp', rfl, ⟨heap_alloc_new _ _, o1.keep ((Frm.refl [] _).alloc _) (by simp), fun hm => ?_⟩, f1.alloc _, f1.size, b1⟩
  have := o1.lt _ hm
  omega
/-- Writers and readers that are none. -/
def WNone (w : World) (a : Option Addr) : Prop := a = none ∨ ∃ b, a = some ⟨b, 0, none⟩ ∧ w.cell? ⟨b, 0, none⟩ = some (.pointer none)
theorem WNone.keep {w w' : World} {a : Option Addr} (h : WNone w a) (f : Frm [] w w') : WNone w' a := by
  rcases h with h | ⟨b, h1, h2⟩
  · exact .inl h
  · exact .inr ⟨b, h1, f.cell h2 (by simp)⟩
theorem wmade (a : Option Addr) (w : World) (h : WNone w a) : Calls Try.prog 48 #[.pointer a] w fun e w' => e = .returned (.bool false) ∧ w' = w := by
  rcases h with rfl | ⟨b, rfl, h⟩
  · exact made_nil w
  · exact made_no b w h
theorem rmade (a : Option Addr) (w : World) (h : WNone w a) : Calls Try.prog 54 #[.pointer a] w fun e w' => e = .returned (.bool false) ∧ w' = w := by
  rcases h with rfl | ⟨b, rfl, h⟩
  · exact rmade_nil w
  · exact rmade_no b w h
theorem unless_none (a : Option Addr) (K : Value) (w : World) (h : WNone w a) : Calls Try.prog 66 #[.pointer a, K] w fun r w' => r = .returned (.tuple #[]) ∧ Frm [] w w' := by
  go_enter Try.func66, Try.ntmps66
  go_wp2_with (go_at_call 48; refine (wmade a _ h).mono ?_; rintro r w' ⟨rfl, rfl⟩)
  go_end0
  exact ⟨rfl, Frm.refl _ _⟩
theorem WNum_none (a : Option Addr) (n size : Int) (w : World) (h : WNone w a) : Calls Try.prog 41 #[.pointer a, .int .i64 n, .int .i64 size] w fun r w' => r = .returned (.tuple #[]) ∧ Frm [] w w' := by
  have f3 : ∀ x y z, Frm [] w (((w.alloc x).alloc y).alloc z) := fun x y z => (((Frm.refl [] w).alloc _).alloc _).alloc _
  go_enter Try.func41, Try.ntmps41
  go_wp2_with (go_at_call 66; refine (unless_none a _ _ (h.keep (f3 _ _ _))).mono ?_; rintro r w' ⟨rfl, f⟩)
  go_end0
  exact ⟨rfl, (f3 _ _ _).trans f (by simp)⟩
theorem WText_none (a : Option Addr) (s : ByteArray) (most : Int) (w : World) (h : WNone w a) : Calls Try.prog 42 #[.pointer a, .string s, .int .i64 most] w fun r w' => r = .returned (.tuple #[]) ∧ Frm [] w w' := by
  have f3 : ∀ x y z, Frm [] w (((w.alloc x).alloc y).alloc z) := fun x y z => (((Frm.refl [] w).alloc _).alloc _).alloc _
  go_enter Try.func42, Try.ntmps42
  go_wp2_with (go_at_call 66; refine (unless_none a _ _ (h.keep (f3 _ _ _))).mono ?_; rintro r w' ⟨rfl, f⟩)
  go_end0
  exact ⟨rfl, (f3 _ _ _).trans f (by simp)⟩
theorem WRaw_none (a : Option Addr) (b : Option Addr) (n c : Nat) (w : World) (h : WNone w a) : Calls Try.prog 43 #[.pointer a, .slice b n c] w fun r w' => r = .returned (.tuple #[]) ∧ Frm [] w w' := by
  have f3 : ∀ x y, Frm [] w ((w.alloc x).alloc y) := fun x y => ((Frm.refl [] w).alloc _).alloc _
  go_enter Try.func43, Try.ntmps43
  go_wp2_with (go_at_call 66; refine (unless_none a _ _ (h.keep (f3 _ _))).mono ?_; rintro r w' ⟨rfl, f⟩)
  go_end0
  exact ⟨rfl, (f3 _ _).trans f (by simp)⟩
theorem WPad_none (a : Option Addr) (to : Int) (w : World) (h : WNone w a) : Calls Try.prog 37 #[.pointer a, .int .i64 to] w fun r w' => r = .returned (.tuple #[]) ∧ Frm [] w w' := by
  have f3 : ∀ x y, Frm [] w ((w.alloc x).alloc y) := fun x y => ((Frm.refl [] w).alloc _).alloc _
  go_enter Try.func37, Try.ntmps37
  go_wp2_with (go_at_call 66; refine (unless_none a _ _ (h.keep (f3 _ _))).mono ?_; rintro r w' ⟨rfl, f⟩)
  go_end0
  exact ⟨rfl, (f3 _ _).trans f (by simp)⟩
theorem WOut_none (a : Option Addr) (w : World) (h : WNone w a) : Calls Try.prog 15 #[.pointer a] w fun r w' => r = .returned (.tuple #[.slice none 0 0, .int .i64 1]) ∧ w' = w := by
  go_enter Try.func15, Try.ntmps15
  go_wp2_with (go_at_call 48; refine (wmade a _ h).mono ?_; rintro r w' ⟨rfl, rfl⟩)
  go_ret2
  exact ⟨rfl, rfl⟩
end Go.Proofs.Ytappmjophnhdaaa
