/-
  Contracts of a reader's Text and Rest where they give up over a byte that is not 0, and of the law's fails; no conditions but those that each theorem names.
-/
import Derived.Test.YtappmjophnhdaaaZ
namespace Go.Proofs.Ytappmjophnhdaaa
open Go.RowKit
set_option linter.unusedVariables false
set_option linter.unusedSimpArgs false

set_option maxHeartbeats 2000000 in
theorem RTextR_noughts (br : Nat) (v : Value) (l sp : List UInt8) (p : Nat) (fa most : Int) (b : UInt8) (r : List UInt8) (w : World) (hR : Rd w br v l sp p 0 fa) (hp : p ≤ l.length) (hl : l.length ≤ 1000000000)
    (hs' : isMostB most = true) (hge' : p + (1 + most.toNat) ≤ l.length) (hroom : (l.drop p).take (1 + most.toNat) = b :: r) (hbs : ¬ most < b.toNat) (hfn' : 0 ≤ firstNot (r.drop b.toNat)) :
    Calls Try.prog 31 #[.pointer (some ⟨br, 0, none⟩), .int .i64 most] w fun rr w' => rr = .returned (.string ByteArray.empty) ∧ RdTo w br v l sp (p, 4, ((p + (1 + b.toNat) : Nat) : Int) + firstNot (r.drop b.toNat)) w' := by
  have hlt := hR.lt
  have f3 : ∀ a b c, Frm [] w (((w.alloc a).alloc b).alloc c) := fun a b c => (((Frm.refl [] w).alloc _).alloc _).alloc _
  have hblt := hlt br (by simp)
  have HL := Lib.hid hlt
  have HF := Lib.hid f3
  have X1 := Lib.hid hs'
  have X2 := Lib.hid hge'
  have X3 := Lib.hid hroom
  have X4 := Lib.hid hbs
  have X5 := Lib.hid hfn'
  clear hlt f3 hs' hge' hroom hbs hfn'
  go_enter Try.func31, Try.ntmps31
  go_wp2_with fail
  refine (uf_gave 61 _ br v l sp p fa 4 (((p + (1 + b.toNat) : Nat) : Int) + firstNot (r.drop b.toNat)) _ (hR.keep (HF.out _ _ _) (by simp) (by simp)) (fun w => enter_of Try.func61 (by kernel_rfl) (by kernel_rfl) _ w) (fun w1 f1 => ?_)).mono ?_
  · refine rtext_noughts _ _ br _ v l sp p 0 fa most b r w1 (hR.keep ((HF.out _ _ _).trans f1 (by simp)) (by simp) (by simp)) hp hl (f1.cell ?_ (by simp)) (f1.cell ?_ (by simp)) X1.out X2.out X3.out (Int.not_lt.2 X4.out) X5.out
    all_goals first | (simp [go_sem]; done) | (simp; done) | (simp; omega) | omega
  · rintro rr w2 ⟨rfl, h1, h2⟩
    have q0 : w2.cell? ⟨w.heap.size + 1 + 1, 0, none⟩ = some (.string ByteArray.empty) := h2.cell (by simp [go_sem]; rfl) (by simp; omega)
    go_wp2
    go_ret
    exact ⟨rfl, h1, ((HF.out _ _ _).mono (by simp)).trans h2 (by simp)⟩
set_option maxHeartbeats 2000000 in
theorem RRestR_fault (br : Nat) (v : Value) (l sp : List UInt8) (p : Nat) (fa : Int) (w : World) (hR : Rd w br v l sp p 0 fa) (hp : p ≤ l.length) (hl : l.length ≤ 1000000000) (hf : 0 ≤ firstNot (l.drop p)) (hf2 : firstNot (l.drop p) < 1000000000000) :
    Calls Try.prog 33 #[.pointer (some ⟨br, 0, none⟩)] w fun r w' => r = .returned (.tuple #[]) ∧ RdTo w br v l sp (p, 4, (p : Int) + firstNot (l.drop p)) w' := by
  have hlt := hR.lt
  have f3 : ∀ a, Frm [] w (w.alloc a) := fun a => (Frm.refl [] w).alloc _
  have hblt := hlt br (by simp)
  have HF := Lib.hid f3
  have X1 := Lib.hid hf
  have X2 := Lib.hid hf2
  clear hlt f3 hf hf2
  go_enter Try.func33, Try.ntmps33
  go_wp2_with fail
  refine (uf_gave 65 _ br v l sp p fa 4 ((p : Int) + firstNot (l.drop p)) _ (hR.keep (HF.out _) (by simp) (by simp)) (fun w => enter_of Try.func65 (by kernel_rfl) (by kernel_rfl) _ w) (fun w1 f1 => ?_)).mono ?_
  · refine rest_fault _ br v l sp p 0 fa w1 (hR.keep ((HF.out _).trans f1 (by simp)) (by simp) (by simp)) hp hl (f1.cell ?_ (by simp)) X1.out X2.out
    all_goals first | (simp [go_sem]; done) | (simp; done) | (simp; omega) | omega
  · rintro rr w2 ⟨rfl, h1, h2⟩
    go_wp2
    go_end0
    exact ⟨rfl, h1, ((HF.out _).mono (by simp)).trans h2 (by simp)⟩
theorem fails_true (val : Value) (xs : List Act0) (w : World) (L : List UInt8) (E : Int) (hA : ActsAt w.heap.size w val xs) (hs : steps xs ([], 0) = (L, E)) (hE : E ≠ 0) :
    Calls Try.prog 34 #[.int .i64 E, val] w fun r w' => r = .returned (.bool true) ∧ Frm [] w w' := by
  obtain ⟨a, cap, rfl⟩ := hA.form
  have hT := told_any _ xs w hA
  rw [hs] at hT
  have HT := Lib.hid hT
  have ho : outB L E = [] := by simp [outB, hE]
  have HO := Lib.hid ho
  have hq : (E == E) = true := by simp
  clear hT hs hA ho
  go_enter Try.func34, Try.ntmps34
  go_wp2_with (go_at_call 40; refine HT.out.mono ?_; unfold Outs; simp only [HO.out]; rintro r w1 ⟨a1, cap1, sp1, rfl, o1, f1, b1⟩)
  go_ret
  exact ⟨rfl, f1⟩
end Go.Proofs.Ytappmjophnhdaaa
