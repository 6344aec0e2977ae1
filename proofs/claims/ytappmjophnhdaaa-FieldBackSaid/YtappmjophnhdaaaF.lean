/-
  Contracts of a writer's unlessFailed and Num; no conditions but those that each theorem names.
-/
import Derived.Test.YtappmjophnhdaaaD
namespace Go.Proofs.Ytappmjophnhdaaa
open Go.RowKit
set_option linter.unusedVariables false
set_option linter.unusedSimpArgs false

/-- What is written where there is no error yet. -/
def wStep (s : List UInt8 × Int) (f : List UInt8 → List UInt8 × Int) : List UInt8 × Int := if s.2 = 0 then f s.1 else s
theorem wStep_at (l : List UInt8) (e : Int) (f : List UInt8 → List UInt8 × Int) : (wStep (l, e) f).1 = (if e = 0 then (f l).1 else l) ∧ (wStep (l, e) f).2 = (if e = 0 then (f l).2 else e) := by
  unfold wStep; split <;> simp_all
set_option maxHeartbeats 1000000 in
theorem unless_any (K : FuncId) (cap : Array Value) (bw : Nat) (v : Value) (l sp : List UInt8) (e : Int) (f : List UInt8 → List UInt8 × Int) (w : World) (hW : Wr w bw v l sp e)
    (hcf : ∀ w, (callFunc K cap).run Try.prog w = .ok (.enter K cap) w) (hput : e = 0 → Calls Try.prog K cap w fun r w' => r = .returned (.int .i64 (f l).2) ∧ WrTo w bw v (f l).1 0 w') :
    Calls Try.prog 66 #[.pointer (some ⟨bw, 0, none⟩), .func (.func K) #[] cap] w fun r w' => r = .returned (.tuple #[]) ∧ WrTo w bw v (wStep (l, e) f).1 (wStep (l, e) f).2 w' := by
  rw [(wStep_at l e f).1, (wStep_at l e f).2]
  have hW' := hW
  obtain ⟨h1, h2, h3⟩ := hW'
  have c0 : w.cell? ⟨bw, 0, none⟩ = some (.pointer (some ⟨bw, 0, none⟩)) := by rw [cell_of_heap h1]; rfl
  have c2 : w.cell? ⟨bw, 2, none⟩ = some (.int .i64 e) := by rw [cell_of_heap h1]; rfl
  have H1 := Lib.hid h1
  clear h1
  by_cases he : e = 0
  · have hp := Lib.hid (hput he)
    rw [if_pos he, if_pos he]
    subst he
    clear hput
    go_enter Try.func66, Try.ntmps66
    go_wp2_with (go_at_call 48; refine (made_yes bw _ c0).mono ?_; rintro r w' ⟨rfl, rfl⟩)
    refine hp.out.mono ?_
    rintro r w1 ⟨rfl, v', sp', hv, f1, b1⟩
    have g1 := f1
    have z2 : w1.frozen? ⟨bw, 2, none⟩ = false := frozen_of_heap hv.1 2
    have y2 : w1.cell? ⟨bw, 2, none⟩ = some (.int .i64 0) := by rw [cell_of_heap hv.1]; rfl
    go_wp2
    go_end0
    refine ⟨rfl, v', sp', ⟨?_, ?_, hv.2.2⟩, ?_, b1⟩
    · rw [heap_setCell_same _ hv.1]; rfl
    · exact hv.2.1.keep ((Frm.refl [bw] _).setCell _ _ (by simp)) (fun k hk => by simp; rintro rfl; exact hv.2.2 hk)
    · exact f1.setCell _ _ (by simp)
  · rw [if_neg he, if_neg he]
    have hq : (e == 0) = false := by simpa using he
    have hw := WrTo.same hW
    clear hput he
    go_enter Try.func66, Try.ntmps66
    go_wp2_with (go_at_call 48; refine (made_yes bw _ c0).mono ?_; rintro r w' ⟨rfl, rfl⟩)
    go_end0
    exact ⟨rfl, hw⟩
theorem enter_of {P : Program} {f : FuncId} {fn : Func} (hf : P.funcs[f]? = some fn) (hname : (fn.name == "runtime.NumGoroutine") = false) (hb : fn.body.isSome = true) (args : Array Value) (w : World) :
    (callFunc f args).run P w = .ok (.enter f args) w := by
  have h1 : fn.name ≠ "runtime.NumGoroutine" := by simpa using hname
  obtain ⟨c, hc⟩ := Option.isSome_iff_exists.1 hb
  simp [callFunc, hf, h1, hc]
theorem Wr.lt {w : World} {bw : Nat} {v : Value} {l sp : List UInt8} {e : Int} (h : Wr w bw v l sp e) : ∀ k ∈ bw :: blk v, k < w.heap.size := by
  intro k hk
  rcases List.mem_cons.1 hk with rfl | hk
  · exact lt_heap h.1
  · exact h.2.1.lt k hk
set_option maxHeartbeats 1000000 in
theorem Num_any (bw : Nat) (v : Value) (l sp : List UInt8) (e n size : Int) (w : World) (hW : Wr w bw v l sp e) (hl : l.length ≤ 65536) (hn : n ≤ 9223372036854775807) :
    Calls Try.prog 41 #[.pointer (some ⟨bw, 0, none⟩), .int .i64 n, .int .i64 size] w fun r w' => r = .returned (.tuple #[]) ∧
      WrTo w bw v (wStep (l, e) (numStep · n size)).1 (wStep (l, e) (numStep · n size)).2 w' := by
  have f3 : ∀ x y z, Frm [] w (((w.alloc x).alloc y).alloc z) := fun x y z => (((Frm.refl [] w).alloc _).alloc _).alloc _
  have hlt := hW.lt
  have nb : ∀ k, w.heap.size ≤ k → k ∉ bw :: blk v := fun k hk hm => by have := hlt k hm; omega
  have H1 := Lib.hid hlt
  have H2 := Lib.hid nb
  clear hlt nb
  go_enter Try.func41, Try.ntmps41
  go_wp2_with fail
  refine (unless_any 69 _ bw v l sp e (numStep · n size) _ (hW.keep (f3 _ _ _) (by simp) (by simp)) (fun w => enter_of Try.func69 (by kernel_rfl) (by kernel_rfl) _ w) (fun he => ?_)).mono ?_
  · refine num1_any _ _ _ bw v l sp 0 n size _ (by subst he; exact hW.keep (f3 _ _ _) (by simp) (by simp)) hl ?_ ?_ ?_ hn (H2.out _ ?_) (H2.out _ ?_) (H2.out _ ?_)
    all_goals first | (simp [go_sem]; done) | (simp; done) | (simp; omega) | omega
  · rintro r w' ⟨rfl, hw⟩
    go_wp2
    go_end0
    exact ⟨rfl, hw.behind (f3 _ _ _)⟩
end Go.Proofs.Ytappmjophnhdaaa
