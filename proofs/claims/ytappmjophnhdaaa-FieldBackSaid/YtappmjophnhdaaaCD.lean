/-
  Contracts of the document's reader: fail, some, Num; no conditions but those that each theorem names.
-/
import Derived.Test.YtappmjophnhdaaaCB
namespace Go.Proofs.Ytappmjophnhdaaa
open Go.RowKit
set_option linter.unusedVariables false
set_option linter.unusedSimpArgs false

/-- The document's reader: its bytes, its place, its fault. -/
def Rv (w : World) (b : Nat) (v : Value) (l sp : List UInt8) (s : Nat × Int × Int) : Prop :=
  w.heap[b]? = some (.cells #[v, .int .i64 s.1, .int .i64 s.2.1, .int .i64 s.2.2] 53 (0, 0)) ∧ SlB w v l sp ∧ b ∉ blkR v
theorem Rv.keep {w w' : World} {b : Nat} {v : Value} {l sp : List UInt8} {s : Nat × Int × Int} {L : List Nat} (h : Rv w b v l sp s) (f : Frm L w w') (h1 : b ∉ L) (h2 : ∀ k ∈ blkR v, k ∉ L) : Rv w' b v l sp s :=
  ⟨f.heap h.1 h1, h.2.1.keepR f h2, h.2.2⟩
def RvTo (w : World) (b : Nat) (v : Value) (l sp : List UInt8) (s : Nat × Int × Int) (w' : World) : Prop := Rv w' b v l sp s ∧ Frm [b] w w'
theorem RvTo.same {w : World} {b : Nat} {v : Value} {l sp : List UInt8} {s : Nat × Int × Int} (h : Rv w b v l sp s) {w' : World} (f : Frm [] w w') : RvTo w b v l sp s w' := ⟨h.keep f (by simp) (by simp), f.mono (by simp)⟩
theorem RvTo.trans {w w1 w2 : World} {b : Nat} {v : Value} {l sp : List UInt8} {s s' : Nat × Int × Int} (h : RvTo w b v l sp s w1) (k : RvTo w1 b v l sp s' w2) : RvTo w b v l sp s' w2 := ⟨k.1, h.2.trans k.2 (by simp)⟩
def failS (s : Nat × Int × Int) (e a : Int) : Nat × Int × Int := if s.2.1 = 0 then (s.1, e, a) else s
set_option maxHeartbeats 1000000 in
theorem vfail_any (b : Nat) (v : Value) (l sp : List UInt8) (s : Nat × Int × Int) (e a : Int) (w : World) (hR : Rv w b v l sp s) :
    Calls Try.prog 76 #[.pointer (some ⟨b, 0, none⟩), .int .i64 e, .int .i64 a] w fun r w' => r = .returned (.tuple #[]) ∧ RvTo w b v l sp (failS s e a) w' := by
  obtain ⟨p, fe, fa⟩ := s
  have hR' := hR
  obtain ⟨h1, h2, h3⟩ := hR
  have c2 : w.cell? ⟨b, 2, none⟩ = some (.int .i64 fe) := by rw [cell_of_heap h1]; rfl
  have c3 : w.cell? ⟨b, 3, none⟩ = some (.int .i64 fa) := by rw [cell_of_heap h1]; rfl
  have z2 : w.frozen? ⟨b, 2, none⟩ = false := frozen_of_heap h1 2
  have z3 : w.frozen? ⟨b, 3, none⟩ = false := frozen_of_heap h1 3
  have H1 := Lib.hid h1
  clear h1
  by_cases hfe : fe = 0
  · subst hfe
    have hr : failS (p, 0, fa) e a = (p, e, a) := by simp [failS]
    rw [hr]
    clear hr
    go_enter Try.func76, Try.ntmps76
    go_wp2
    go_end0
    have F : Frm [b] w ((w.setCell ⟨b, 2, none⟩ (.int .i64 e)).setCell ⟨b, 3, none⟩ (.int .i64 a)) := ((Frm.refl [b] w).setCell _ _ (by simp)).setCell _ _ (by simp)
    refine ⟨rfl, ⟨?_, ?_, h3⟩, F⟩
    · rw [heap_setCell_same _ (heap_setCell_same _ H1.out)]
      rfl
    · exact h2.keepR F (fun k hk => by simp; rintro rfl; exact h3 hk)
  · have hr : failS (p, fe, fa) e a = (p, fe, fa) := by simp [failS, hfe]
    rw [hr]
    have hq : (fe == 0) = false := by simpa using hfe
    clear hr hfe
    go_enter Try.func76, Try.ntmps76
    go_wp2
    go_end0
    exact ⟨rfl, RvTo.same hR' (Frm.refl _ _)⟩
def someS (l : List UInt8) (s : Nat × Int × Int) (n : Int) : Nat × Int × Int := if (l.length : Int) - s.1 < n then failS s 4 l.length else s
set_option maxHeartbeats 1000000 in
theorem vsome_bad (b : Nat) (v n : Value) (l sp : List UInt8) (s : Nat × Int × Int) (w : World) (hR : Rv w b v l sp s) (hfe : s.2.1 ≠ 0) :
    Calls Try.prog 77 #[.pointer (some ⟨b, 0, none⟩), n] w fun r w' => r = .returned (.bool false) ∧ ∃ k, w' = w.drewN k := by
  obtain ⟨p, fe, fa⟩ := s
  obtain ⟨h1, h2, h3⟩ := hR
  have c2 : w.cell? ⟨b, 2, none⟩ = some (.int .i64 fe) := by rw [cell_of_heap h1]; rfl
  have hq : (fe == 0) = false := by simpa using hfe
  clear h1 hfe
  go_enter Try.func77, Try.ntmps77
  go_wp2
  go_quiet (fail)
  go_wp2
  go_ret
  exact ⟨rfl, _, rfl⟩
set_option maxHeartbeats 1000000 in
theorem vsome_ok (b : Nat) (v : Value) (l sp : List UInt8) (p : Nat) (fa n : Int) (w : World) (hR : Rv w b v l sp (p, 0, fa)) (hp : p ≤ l.length) (hl : l.length ≤ 1000000000) :
    Calls Try.prog 77 #[.pointer (some ⟨b, 0, none⟩), .int .i64 n] w fun r w' => r = .returned (.bool (decide (n ≤ (l.length : Int) - p))) ∧ RvTo w b v l sp (someS l (p, 0, fa) n) w' := by
  have hR' := hR
  obtain ⟨h1, h2, h3⟩ := hR
  obtain ⟨a, cap, rfl, hc1, hc2⟩ := h2.form
  have c0 : w.cell? ⟨b, 0, none⟩ = some (.slice a l.length cap) := by rw [cell_of_heap h1]; rfl
  have c1 : w.cell? ⟨b, 1, none⟩ = some (.int .i64 p) := by rw [cell_of_heap h1]; rfl
  have c2 : w.cell? ⟨b, 2, none⟩ = some (.int .i64 0) := by rw [cell_of_heap h1]; rfl
  have hin : IntKind.i64.wrap ((l.length : Int) - p) = (l.length : Int) - p := IntWalk.i64_in _ (by omega)
  have HI := Lib.hid hin
  clear h1 hin
  by_cases hn : (l.length : Int) - p < n
  · have hr : someS l (p, 0, fa) n = (p, 4, (l.length : Int)) := by simp [someS, failS, hn]
    have hd : decide (n ≤ (l.length : Int) - p) = false := by simp; omega
    rw [hr, hd]
    have hb : decide ((l.length : Int) - p < n) = true := by simpa using hn
    clear hr hn hd
    go_enter Try.func77, Try.ntmps77
    go_wp2
    have hin := HI.out
    go_quiet (fail)
    clear hin
    go_wp2_with fail
    refine (vfail_any b _ l sp (p, 0, fa) 4 l.length _ (hR'.keep ((Frm.refl [] _).drewN _) (by simp) (by simp))).mono ?_
    rintro r w1 ⟨rfl, h⟩
    have q2 : w1.cell? ⟨b, 2, none⟩ = some (.int .i64 4) := by
      have := h.1.1
      simp [failS] at this
      rw [cell_of_heap this]; rfl
    go_wp2
    go_ret
    refine ⟨rfl, ?_⟩
    have := h
    simp only [failS, if_true] at this
    exact ⟨this.1, ((Frm.refl [b] w).drewN _).trans this.2 (by simp)⟩
  · have hr : someS l (p, 0, fa) n = (p, 0, fa) := by simp [someS, hn]
    have hd : decide (n ≤ (l.length : Int) - p) = true := by simp; omega
    rw [hr, hd]
    have hb : decide ((l.length : Int) - p < n) = false := by simpa using hn
    clear hr hn hd
    go_enter Try.func77, Try.ntmps77
    go_wp2
    have hin := HI.out
    go_quiet (fail)
    clear hin
    go_wp2
    go_ret
    exact ⟨rfl, RvTo.same hR' ((Frm.refl [] _).drewN _)⟩
end Go.Proofs.Ytappmjophnhdaaa
