/-
  Contract of told. No conditions but those that each theorem names.
-/
import Derived.Test.YtjdejhgfkjeeiaaGreatDoorGL
namespace Go.Proofs.YtjdejhgfkjeeiaaGreatDoor
open Go.RowKit
set_option linter.unusedVariables false
set_option linter.unusedSimpArgs false
set_option maxRecDepth 100000

open Pt (Pt may enc readPt readE zeroPt pc pv PtV SlA OwnA)
open Kr (OwnE SlE Enco RowTys)
/-- What is told of a sector: its uberblock, its list new. -/
def ToldP (b : List UInt8) (w : World) (r : Ending) (w' : World) : Prop := ∃ a cap sp, r = .returned (uv (.slice a (unp b).1.root.ads.length cap) (unp b).1) ∧ OwnA 47 w' (.slice a (unp b).1.root.ads.length cap) (unp b).1.root.ads sp ∧ Frm [] w w' ∧ ∀ i ∈ blk (.slice a (unp b).1.root.ads.length cap), w.heap.size ≤ i
theorem exec_convS {o : Oper} {a : Act} {w w' : World} {x : Operand} {s : ByteArray} {r : Value} (ho : o.op = .convert 9 32 x) (hx : a.eval x = .string s) (h : (convert 9 32 (.string s)).run Tryz.prog w = .ok r w') : (execOp a.eval o).run Tryz.prog w = .ok (.value r) w' := by
  simp [execOp, ho, hx, h, Result.andThen]
set_option maxHeartbeats 4000000 in
theorem told_any {s0 s1 s2 : Addr} (x : En) (w : World) (hs : Sens w s0 s1 s2) (hG : Hs.Glob w) (hl : x.2.length ≤ 1000000) : Calls Tryz.prog 88 #[vEn x] w (ToldP x.2 w) := by
  obtain ⟨x1, b⟩ := x
  have hl : b.length ≤ 1000000 := hl
  have HL := Lib.hid hl
  have HU := Lib.hid (fun v sp W (f : Frm [] w W) (hS : SlB W v b sp) => Unpack_own v b sp W hS hl (hs.keep0 f) (hG.keep f (by simp)))
  unfold UnpO at HU
  have hwf := unp_wf b
  have HP : ToldP b w = fun r w' => ∃ a cap sp, r = .returned (uv (.slice a (unp b).1.root.ads.length cap) (unp b).1) ∧ OwnA 47 w' (.slice a (unp b).1.root.ads.length cap) (unp b).1.root.ads sp ∧ Frm [] w w' ∧ ∀ i ∈ blk (.slice a (unp b).1.root.ads.length cap), w.heap.size ≤ i := rfl
  simp only
  rw [HP]
  clear HP hs hG hl
  generalize (unp b).1 = u at *
  generalize (unp b).2 = e at *
  have HC := Lib.hid (fun W => conv_str W b HL.out)
  unfold vEn
  simp only
  generalize hsb : sB b = S at *
  clear hsb
  have hA := heap_alloc_new w (.cells #[.int .i64 x1, .string S] 118)
  have f0 : Frm [] w (w.alloc (.cells #[.int .i64 x1, .string S] 118)) := (Frm.refl [] w).alloc _
  have f1 : Frm [] (w.alloc (.cells #[.int .i64 x1, .string S] 118)) ((w.alloc (.cells #[.int .i64 x1, .string S] 118)).alloc (.cells (uc nilS zeroU).toArray 28)) := (Frm.refl [] _).alloc _
  have B0 := Lib.hid (UB.new (w.alloc (.cells #[.int .i64 x1, .string S] 118)) nilS zeroU_wf)
  have hb := f1.heap hA (by simp)
  have F1 := Lib.hid (f0.trans f1 (by simp))
  go_enter Tryz.func88, Tryz.ntmps88
  go_upto_region 1 with ((with_reducible (show wpList _ _ _ (Oper.mk _ (Op.alloc 28) _ _ _ _ :: _) _ _)); refine wpList_val rfl (exec_alloc28 rfl _) ?_)
  have k0 : ((w.alloc (.cells #[.int .i64 x1, .string S] 118)).alloc (.cells (uc nilS zeroU).toArray 28)).cell? ⟨w.heap.size, 1, none⟩ = some (.string S) := by rw [cell_of_heap hb]; rfl
  have HZ := Lib.hid (show w.heap.size < (w.alloc (.cells #[.int .i64 x1, .string S] 118)).heap.size by simp)
  clear hA hb f0 f1
  generalize (w.alloc (.cells #[.int .i64 x1, .string S] 118)).alloc (.cells (uc nilS zeroU).toArray 28) = W1 at *
  generalize (w.alloc (.cells #[.int .i64 x1, .string S] 118)).heap.size = n1 at *
  obtain ⟨W2, cap2, sp2, hc2, hs2, hf2⟩ := HC.out W1
  have HC2 := Lib.hid hc2
  have HS2 := Lib.hid hs2
  have F2 := Lib.hid (F1.out.trans hf2 (by simp))
  have FX := Lib.hid hf2
  have hn1 : ¬ n1 = w.heap.size := by have := HZ.out; omega
  clear hc2 hs2 hf2 HC
  go_upto_region 2 with (first
    | ((with_reducible (show wpList _ _ _ (Oper.mk _ (Op.convert 9 32 _) _ _ _ _ :: _) _ _)); refine wpList_val rfl (exec_convS rfl rfl HC2.out) ?_)
    | ((with_reducible (show wpList _ _ _ (Oper.mk _ (Op.alloc 28) _ _ _ _ :: _) _ _)); refine wpList_lay28 rfl rfl rfl _ _ rfl (v := .slice ya u.root.ads.length yc) rfl (u := u) hwf rfl rfl ?_)
    | (go_at_call 26; refine (HU.out _ _ _ F2.out HS2.out).mono ?_; rintro r w3 ⟨ya, yc, ysp, rfl, oy, f3, n3⟩))
  have hylt := oy.lt
  have f4 : Frm [] w3 (w3.alloc (.cells (uc (.slice ya u.root.ads.length yc) u).toArray 28)) := (Frm.refl [] w3).alloc _
  have G4 := Lib.hid (UB.new w3 (.slice ya u.root.ads.length yc) hwf)
  have B4 := Lib.hid (B0.out.keep0 ((FX.out.trans f3 (by simp)).trans f4 (by simp)))
  have OY := Lib.hid (oy.keep f4 (by simp))
  have F4 := Lib.hid ((F2.out.trans f3 (by simp)).trans f4 (by simp))
  have HN := Lib.hid (show ∀ i ∈ blk (.slice ya u.root.ads.length yc), w.heap.size ≤ i ∧ ¬ i = n1 from fun i hi => by
    have h1 := n3 i hi
    have h2 := F2.out.size
    have h3 := (B0.out.keep0 FX.out).lt
    exact ⟨by omega, by omega⟩)
  clear f4 oy f3 n3 hylt k0
  generalize w3.alloc (.cells (uc (.slice ya u.root.ads.length yc) u).toArray 28) = W4 at *
  generalize w3.heap.size = L4 at *
  have HW := Lib.hid hwf
  go_wp2_with (first
    | ((with_reducible (show wpList _ _ _ (Oper.mk _ (Op.load 28 _) _ _ _ _ :: _) _ _)); refine wpList_load_g (by rfl) 28 _ rfl _ rfl G4.out.gets.all ?_)
    | ((with_reducible (show wpList _ _ _ (Oper.mk _ (Op.store 28 _ _) _ _ _ _ :: _) _ _)); refine wpList_store28 rfl _ _ rfl rfl B4.out HW.out rfl rfl ?_; intro V B5 F5))
  refine bodyPost_ret (v := uv (.slice ya u.root.ads.length yc) u) (results_cell_row (p := 2) rfl _ _ n1 28 _ (0, 0) _ rfl B5.1 Tryz.underlying28 rfl (by rw [i28, List.size_toArray, uc_length HW.out])) rfl ?_
  exact ⟨ya, yc, ysp, rfl, OY.out.keep F5 (fun i hi => by have := (HN.out i hi).2; simpa using this), F4.out.trans F5 (fun i hi => by simp at hi; subst hi; exact .inr (by have := HZ.out; omega)), fun i hi => (HN.out i hi).1⟩
end Go.Proofs.YtjdejhgfkjeeiaaGreatDoor
