/-
  Contract of a reader's Num; no conditions but those that the theorem names.
-/
import Derived.Test.YtappmjophnhdaaaR
namespace Go.Proofs.Ytappmjophnhdaaa
open Go.RowKit
set_option linter.unusedVariables false
set_option linter.unusedSimpArgs false

/-- A reader's place and fault behind a step. -/
def stepR {α : Type} (s : Nat × Int × Int) (zero : α) (o : (Int × Int) ⊕ α) (n : Nat) : α × (Nat × Int × Int) :=
  if s.2.1 = 0 then match o with | .inl f => (zero, s.1, f.1, f.2) | .inr x => (x, s.1 + n, 0, s.2.2) else (zero, s)
def RdTo (w : World) (br : Nat) (v : Value) (l sp : List UInt8) (s : Nat × Int × Int) (w' : World) : Prop := Rd w' br v l sp s.1 s.2.1 s.2.2 ∧ Frm [br] w w'
theorem heap_alloc_at {w : World} {o : Obj} {n : Nat} (hn : n = w.heap.size) : (w.alloc o).heap[n]? = some o := by subst hn; exact heap_alloc_new _ _
theorem Rd.lt {w : World} {br : Nat} {v : Value} {l sp : List UInt8} {p fe fa : Int} (h : Rd w br v l sp p fe fa) : ∀ k ∈ br :: blk v, k < w.heap.size := by
  intro k hk
  rcases List.mem_cons.1 hk with rfl | hk
  · exact lt_heap h.1
  · exact h.2.1.lt k hk
def rNum (l : List UInt8) (s : Nat × Int × Int) (size low high : Int) : Int × (Nat × Int × Int) := stepR s 0 ((numRead l s.1 size low high).map id (Int.ofNat ·)) size.toNat
set_option maxHeartbeats 2000000 in
theorem RNumR_any (br : Nat) (v : Value) (l sp : List UInt8) (s : Nat × Int × Int) (size low high : Int) (w : World) (hR : Rd w br v l sp s.1 s.2.1 s.2.2) (hp : s.1 ≤ l.length) (hl : l.length ≤ 1000000000) :
    Calls Try.prog 30 #[.pointer (some ⟨br, 0, none⟩), .int .i64 size, .int .i64 low, .int .i64 high] w fun r w' =>
      r = .returned (.int .i64 (rNum l s size low high).1) ∧ RdTo w br v l sp (rNum l s size low high).2 w' := by
  obtain ⟨p, fe, fa⟩ := s
  simp only at hR hp
  have hlt := hR.lt
  have f5 : ∀ a b c d e, Frm [] w (((((w.alloc a).alloc b).alloc c).alloc d).alloc e) := fun a b c d e => (((((Frm.refl [] w).alloc _).alloc _).alloc _).alloc _).alloc _
  have hblt := hlt br (by simp)
  have HL := Lib.hid hlt
  have HF := Lib.hid f5
  clear hlt f5
  by_cases hfe : fe = 0
  · subst hfe
    cases hx : numRead l p size low high with
    | inl f =>
      obtain ⟨e, a⟩ := f
      have hr : rNum l (p, 0, fa) size low high = (0, p, e, a) := by simp [rNum, stepR, hx]
      rw [hr]
      have HX := Lib.hid hx
      clear hr hx
      go_enter Try.func30, Try.ntmps30
      go_wp2_with fail
      refine (uf_gave 56 _ br v l sp p fa e a _ (hR.keep (HF.out _ _ _ _ _) (by simp) (by simp)) (fun w => enter_of Try.func56 (by kernel_rfl) (by kernel_rfl) _ w) (fun w1 f1 => ?_)).mono ?_
      · refine rnum_fault _ _ br _ _ _ v l sp p 0 fa size low high e a w1 (hR.keep ((HF.out _ _ _ _ _).trans f1 (by simp)) (by simp) (by simp)) hp hl (f1.cell ?_ (by simp)) (f1.cell ?_ (by simp)) (f1.cell ?_ (by simp)) (f1.cell ?_ (by simp)) HX.out
        all_goals first | (simp [go_sem]; done) | (simp; done) | (simp; omega) | omega
      · rintro r w2 ⟨rfl, h1, h2⟩
        have q0 : w2.cell? ⟨w.heap.size + 1 + 1 + 1 + 1, 0, none⟩ = some (.int .i64 0) := h2.cell (by simp [go_sem]) (by simp; omega)
        go_wp2
        go_ret
        exact ⟨rfl, h1, ((HF.out _ _ _ _ _).mono (by simp)).trans h2 (by simp)⟩
    | inr m =>
      have hr : rNum l (p, 0, fa) size low high = ((m : Int), p + size.toNat, (0 : Int), fa) := by simp [rNum, stepR, hx]
      have hsz : 0 ≤ size := by
        unfold numRead at hx
        split at hx
        · cases hx
        · rename_i hs; have : 1 ≤ size ∧ size ≤ 7 := by simpa [isSizeB] using hs
          omega
      obtain ⟨sz, rfl⟩ := Int.eq_ofNat_of_zero_le hsz
      rw [hr]
      have HX := Lib.hid hx
      clear hr hx hsz
      go_enter Try.func30, Try.ntmps30
      go_wp2_with fail
      have hnb : w.heap.size + 1 + 1 + 1 + 1 ∉ blk v := fun hm => by have := HL.out _ (List.mem_cons_of_mem _ hm); omega
      refine (uf_ret 56 _ br v l sp p fa (fun w' => RdTo w br v l sp (p + sz, 0, fa) w' ∧ w'.cell? ⟨w.heap.size + 1 + 1 + 1 + 1, 0, none⟩ = some (.int .i64 m)) _ (hR.keep (HF.out _ _ _ _ _) (by simp) (by simp)) (fun w => enter_of Try.func56 (by kernel_rfl) (by kernel_rfl) _ w) (fun w1 f1 => ?_)).mono ?_
      · refine (rnum_ok _ _ br _ _ _ v l sp p 0 fa sz low high m w1 (hR.keep ((HF.out _ _ _ _ _).trans f1 (by simp)) (by simp) (by simp)) hp hl (f1.cell ?_ (by simp)) (f1.cell ?_ (by simp)) (f1.cell ?_ (by simp)) (f1.cell ?_ (by simp)) HX.out (f1.heap ?_ (by simp)) ?_ ?_ ?_ hnb).mono ?_
        case refine_9 =>
          rintro r w2 ⟨rfl, g1, g2, g3⟩
          exact ⟨rfl, ⟨by simpa using g1, (((HF.out _ _ _ _ _).mono (by simp)).trans f1 (by simp)).trans g3 (by simp; omega)⟩, g2⟩
        all_goals first | exact heap_alloc_at (by simp) | (simp [go_sem]; done) | (simp; done) | (simp; omega) | omega
      · rintro r w2 ⟨rfl, h1, h2⟩
        go_wp2
        go_ret
        exact ⟨rfl, h1⟩
  · have hr : rNum l (p, fe, fa) size low high = (0, p, fe, fa) := by simp [rNum, stepR, hfe]
    rw [hr]
    clear hr
    go_enter Try.func30, Try.ntmps30
    go_wp2_with fail
    refine (uf_fault _ br v l sp p fe fa _ (hR.keep (HF.out _ _ _ _ _) (by simp) (by simp)) hfe).mono ?_
    rintro r w2 ⟨rfl, h2⟩
    have q0 : w2.cell? ⟨w.heap.size + 1 + 1 + 1 + 1, 0, none⟩ = some (.int .i64 0) := h2.cell (by simp [go_sem]) (by simp)
    go_wp2
    go_ret
    exact ⟨rfl, hR.keep ((HF.out _ _ _ _ _).trans h2 (by simp)) (by simp) (by simp), ((HF.out _ _ _ _ _).mono (by simp)).trans h2 (by simp)⟩
end Go.Proofs.Ytappmjophnhdaaa
