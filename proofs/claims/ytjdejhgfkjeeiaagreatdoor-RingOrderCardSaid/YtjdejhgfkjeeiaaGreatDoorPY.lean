/-
  Contracts of pointer: Read, Same, and plain facts. No conditions but those that each theorem names.
-/
import Derived.Test.YtjdejhgfkjeeiaaGreatDoorPX
import Derived.Test.YtjdejhgfkjeeiaaGreatDoorPM
import Derived.Test.YtjdejhgfkjeeiaaGreatDoorPI
import Derived.Deep.WholeRow
namespace Go.Proofs.YtjdejhgfkjeeiaaGreatDoor.Pt
open Go.RowKit
set_option linter.unusedVariables false
set_option linter.unusedSimpArgs false
set_option maxRecDepth 100000

/-- Bytes that are a pointer's. -/
def goodB (l : List UInt8) : Bool := (l.length == 47) && decide (rawN l ≤ 3) && mayB (rawPt l) && (enc (rawPt l) == l)
theorem goodB_iff (l : List UInt8) : goodB l = true ↔ l.length = 47 ∧ rawN l ≤ 3 ∧ may (rawPt l) ∧ enc (rawPt l) = l := by
  simp only [goodB, Bool.and_eq_true, beq_iff_eq, decide_eq_true_eq, mayB_iff, and_assoc]
def readPt (l : List UInt8) : Pt := if goodB l = true then rawPt l else zeroPt
def readE (l : List UInt8) : Int := if goodB l = true then 0 else if l.length = 47 then 2 else 4
def readAt (l : List UInt8) : Int := if goodB l = true then 0 else if l.length = 47 then 0 else if l.length < 47 then l.length else 47
def Read1 (l : List UInt8) (g : Nat) (w : World) (e : Ending) (w' : World) : Prop :=
  (goodB l = false ∧ e = GaveUp (readE l) (readAt l) ∧ Frm [] w w') ∨
  (goodB l = true ∧ e = .returned (.tuple #[]) ∧ Frm [g] w w' ∧ ∃ a cap sp, PB w' g (.slice a (rawPt l).ads.length cap) (rawPt l).b (rawPt l).l (rawPt l).s ∧ OwnA 47 w' (.slice a (rawPt l).ads.length cap) (rawPt l).ads sp ∧ ∀ i ∈ blk (.slice a (rawPt l).ads.length cap), w.heap.size ≤ i)
theorem read1_no {l : List UInt8} {g : Nat} {w w' : World} (h : l.length = 47) (hn : ¬ (rawN l ≤ 3 ∧ may (rawPt l) ∧ enc (rawPt l) = l)) (f : Frm [] w w') : Read1 l g w (GaveUp 2 0) w' := by
  have hg : goodB l = false := by
    cases hb : goodB l with
    | false => rfl
    | true => exact absurd ((goodB_iff l).1 hb).2 hn
  exact Or.inl ⟨hg, by simp [readE, readAt, hg, h], f⟩
theorem read1_len {l : List UInt8} {g : Nat} {w w' : World} {n : Int} (h : l.length ≠ 47) (hn : n = if l.length < 47 then (l.length : Int) else 47) (f : Frm [] w w') : Read1 l g w (GaveUp 4 n) w' := by
  have hg : goodB l = false := by
    cases hb : goodB l with
    | false => rfl
    | true => exact absurd ((goodB_iff l).1 hb).1 h
  exact Or.inl ⟨hg, by simp [readE, readAt, hg, h, hn], f⟩
/-- A pointer is stored into a block that was just made. -/
theorem wpList_store_new {ops : Array Oper} {rest : List Oper} {op : Oper} {a : Act} {W : World} {Q : Exit → Act → World → Prop} (hgd : op.guard = none) (x y : Operand) (ho : op.op = .store 26 x y) {Z : Array Value} (hZ : Z.size = 35)
    {v : Option Addr} {n cap : Nat} {b l : Int} {s : List UInt8} (hs : s.length = 32) (hx : a.eval x = .pointer (some ⟨W.heap.size, 0, none⟩)) (hy : a.eval y = pv (.slice v n cap) b l s)
    (k : wpList Tryz.prog ops Q rest (a.put op.dst undef) (W.alloc (.cells (pc (.slice v n cap) b l s).toArray 26))) : wpList Tryz.prog ops Q (op :: rest) a (W.alloc (.cells Z 26)) := by
  refine wpList_store_row hgd 26 x y ho W.heap.size (pc (.slice v n cap) b l s).toArray hx hy 26 Z (heap_alloc_new _ _) (by rw [i26, pc_size, hs]) (by rw [pc_size, hs, hZ]) (pc_one _ _ _) ?_
  rw [World.setRow_alloc_new]
  exact k
set_option maxHeartbeats 8000000 in
theorem readStep_any (g0 g1 : Nat) (v : Value) (l sp : List UInt8) (w : World) (hS : SlB w v l sp) (h0 : w.heap[g0]? = some (.cells #[v] 32 (0, 0))) (h1 : PB w g1 (.slice none 0 0) 0 0 (List.replicate 32 0)) (hl : l.length ≤ 1000000) :
    Calls Tryz.prog 152 #[.pointer (some ⟨g0, 0, none⟩), .pointer (some ⟨g1, 0, none⟩)] w (Read1 l g1 w) := by
  obtain ⟨a, cap, rfl, _, _⟩ := hS.form
  have c0 : w.cell? ⟨g0, 0, none⟩ = some (.slice a l.length cap) := by rw [cell_of_heap h0]; rfl
  have H0 := Lib.hid h0
  have H1 := Lib.hid h1
  have HS := Lib.hid hS
  have g1lt := h1.lt
  clear h0 h1 hS
  by_cases h47 : l.length = 47
  · have H47 := Lib.hid h47
    have hpo := Lib.hid (fun W (f : Frm [] w W) => pointerOf_any (.slice a l.length cap) l sp W (HS.out.keep f (by simp)) h47)
    rw [h47] at c0 HS hpo
    clear hl
    go_enter Tryz.func152, Tryz.ntmps152
    go_upto_region 1 with (go_at_call 153; refine (demand_yes _ _ _).mono ?_; rintro r w1 ⟨rfl, rfl⟩)
    go_upto_region 2 with (first | (go_at_call 154; refine (hpo.out _ (Frm.refl [] _)).mono ?_; rintro r w2 ⟨⟨hn, rfl⟩ | ⟨hn, x, rfl, hx, hfr⟩, f2⟩; exact ⟨rfl, read1_no H47.out (fun h => by have := h.1; omega) f2⟩; obtain ⟨xa, xc, xsp, rfl, sx, zx⟩ := hx) | ((with_reducible (show wpList _ _ _ (Oper.mk _ (Op.store 26 _ _) _ _ _ _ :: _) _ _)); refine wpList_store_new rfl (.tmp 2) (.tmp 11) rfl rfl zx rfl rfl ?_))
    rw [ptBlk_pv] at hfr
    have HFR := Lib.hid hfr
    have HN := Lib.hid hn
    have F2 := Lib.hid f2
    have B3 := Lib.hid (PB.new w2 (.slice xa (rawPt l).ads.length xc) (rawPt l).b (rawPt l).l (rawPt l).s)
    have F3 := Lib.hid (f2.alloc (.cells (pc (.slice xa (rawPt l).ads.length xc) (rawPt l).b (rawPt l).l (rawPt l).s).toArray 26))
    have hlen : (rawPt l).ads.length ≤ 3 := by simp [rawPt]; omega
    have HLN := Lib.hid hlen
    have SX := Lib.hid (sx.keep ((Frm.refl [] w2).alloc (.cells (pc (.slice xa (rawPt l).ads.length xc) (rawPt l).b (rawPt l).l (rawPt l).s).toArray 26)) (by simp))
    have ZX := Lib.hid zx
    have hlt2 : w2.heap.size < (w2.alloc (.cells (pc (.slice xa (rawPt l).ads.length xc) (rawPt l).b (rawPt l).l (rawPt l).s).toArray 26)).heap.size := by simp
    clear hn f2 sx zx hpo hlen hfr
    generalize w2.alloc (.cells (pc (.slice xa (rawPt l).ads.length xc) (rawPt l).b (rawPt l).l (rawPt l).s).toArray 26) = V at *
    have hg1 : g1 < w2.heap.size := Nat.lt_of_lt_of_le g1lt F2.out.size
    have hpv := fun W (f : Frm [] V W) => (⟨xa, xc, xsp, rfl, (SX.out.keep f (by simp)).sl, ZX.out⟩ : PtV W (pv (.slice xa (rawPt l).ads.length xc) (rawPt l).b (rawPt l).l (rawPt l).s) (rawPt l))
    have HPV := Lib.hid hpv
    have hdm := Lib.hid (fun W (f : Frm [] V W) => demandMay_any _ (rawPt l) W (HPV.out W f) (by have := HLN.out; omega))
    have hfo := Lib.hid (fun (hm : may (rawPt l)) W (f : Frm [] V W) => show Calls Tryz.prog 129 #[pv (.slice xa (rawPt l).ads.length xc) (rawPt l).b (rawPt l).l (rawPt l).s] W (Told W (enc (rawPt l))) from by
      obtain ⟨L, b, lv, e1, e2, h3, hb, hb4, hlv⟩ := may_nat hm
      rw [e2]
      refine fieldsOf_any _ L b lv (rawPt l).s W ?_ h3 (fun y hy => by have := hb y hy; omega) (by omega) (by omega)
      have := HPV.out W f
      rw [← e1]
      exact this)
    have c3 := F3.out.cell c0 (by simp)
    clear hpv c0
    generalize hq : rawPt l = p at *
    have HQ := Lib.hid hq
    clear hq
    generalize hg2 : w2.heap.size = g2 at *
    clear hg2
    go_upto_region 3 with (first | ((with_reducible (show wpList _ _ _ (Oper.mk _ (Op.load 26 _) _ _ _ _ :: _) _ _)); refine wpList_load_g (by rfl) 26 _ rfl _ rfl (B3.out.gets ZX.out).all ?_) | (go_at_call 155; refine (hdm.out _ (Frm.refl [] V)).mono ?_; rintro r w4 ⟨⟨rfl, hm⟩ | ⟨rfl, hm⟩, f4⟩; rotate_left; exact ⟨rfl, read1_no H47.out (fun h => hm (by rw [← HQ.out]; exact h.2.1)) (F3.out.trans f4 (by simp))⟩))
    have HM := Lib.hid hm
    have F4 := Lib.hid (F3.out.trans f4 (by simp))
    have FV := Lib.hid f4
    have B4 := Lib.hid (B3.out.keep f4 (by simp))
    have c4 := f4.cell c3 (by simp)
    have C4 := Lib.hid c4
    clear c3 f4 hm hdm c4
    refine wp_region_held_drew (S := fun z => Frm [] w4 z) (by kernel_rfl) ((Frm.refl [] w4).drew) (fun hHeld => ?_)
    refine wpAnyH_take (i := 0) (oi := { dst := some 14, op := Op.load 26 (Operand.tmp 2), type := 26, pos := "pointer.go:34", after := #[], guard := none }) rfl (by kernel_rfl) (by kernel_rfl) (by kernel_rfl) (fun _ _ _ h => h) (yieldsIf_ld (by rfl) 26 _ rfl _ rfl (fun z hSw => ((B4.out.keep hSw (by simp)).gets ZX.out).all)) hHeld ?_
    try simp only [Act.put, List.setIfInBounds_toArray, List.set_cons_zero, List.set_cons_succ]
    refine wpAnyH_take (i := 2) (oi := { dst := some 16, op := Op.load 32 (Operand.tmp 0), type := 32, pos := "pointer.go:34", after := #[], guard := none }) (v := ?_) rfl (by kernel_rfl) (by kernel_rfl) (by kernel_rfl) (fun _ _ _ h => h) (Or.inl ⟨by rfl, ?_⟩) hHeld ?_
    rotate_left
    focus (intro z hSw; have c5 := hSw.cell C4.out (by simp); clear hSw; go_simp; try with_reducible rfl)
    try simp only [Act.put, List.setIfInBounds_toArray, List.set_cons_zero, List.set_cons_succ]
    refine wpAnyH_ready (rs := [1]) (by kernel_rfl) (by simp) ?_
    refine AllReadyH.cons (o := { dst := some 15, op := Op.call { callee := Callee.value (Operand.func 129), args := #[Operand.tmp 14], argTypes := #[26] }, type := 152, pos := "pointer.go:34", after := #[{ on := 0, ground := Ground.data }], guard := none }) rfl (fun K hK => ?_) AllReadyH.nil
    go_simp
    refine (hfo.out HM.out _ (FV.out.trans hHeld (by simp))).mono ?_
    rintro r w5 ⟨a5, cap5, sp5, rfl, o5, f5, n5⟩
    have O5 := Lib.hid o5
    generalize hen : enc p = le at *
    have HEN := Lib.hid hen
    clear hen
    refine hK.out _ _ ?_ (fun hNext => ?_)
    · exact hHeld.trans f5 (by simp)
    clear hK K hHeld
    have hHeld := hNext
    clear hNext
    try simp only [Act.put, List.setIfInBounds_toArray, List.set_cons_zero, List.set_cons_succ]
    refine wpAnyH_ready (rs := [3]) (by kernel_rfl) (by simp) ?_
    refine AllReadyH.cons (o := { dst := some 17, op := Op.call { callee := Callee.value (Operand.func 156), args := #[Operand.tmp 15, Operand.tmp 16], argTypes := #[32, 32] }, type := 4, pos := "pointer.go:34", after := #[{ on := 1, ground := Ground.data }, { on := 2, ground := Ground.data }, { on := 1, ground := Ground.chain }], guard := none }) rfl (fun K hK => ?_) AllReadyH.nil
    go_simp
    refine (bytesEqual_any _ _ le sp5 l sp _ O5.out.sl (HS.out.keep (F4.out.trans hHeld (by simp)) (by simp))).mono ?_
    rintro r w6 ⟨rfl, rfl⟩
    refine hK.out _ _ ?_ (fun hNext => ?_)
    · exact hHeld
    clear hK K hHeld
    have hHeld := hNext
    clear hNext
    try simp only [Act.put, List.setIfInBounds_toArray, List.set_cons_zero, List.set_cons_succ]
    refine wpAnyH_ready (rs := [4]) (by kernel_rfl) (by simp) ?_
    refine AllReadyH.cons (o := { dst := some 18, op := Op.call { callee := Callee.value (Operand.func 153), args := #[Operand.tmp 17, Operand.const (Value.int IntKind.i64 2), Operand.const (Value.int IntKind.i64 0)], argTypes := #[4, 33, 3] }, type := 0, pos := "pointer.go:34", after := #[{ on := 3, ground := Ground.data }, { on := 3, ground := Ground.chain }], guard := none }) rfl (fun K hK => ?_) AllReadyH.nil
    go_simp
    refine (demand_any _ _).mono ?_
    rintro r w7 ⟨⟨rfl, hb⟩ | ⟨rfl, hb⟩, rfl⟩
    rotate_left
    exact ⟨rfl, read1_no H47.out (fun h => hb (by have := h.2.2; rw [HQ.out, HEN.out] at this; simp [this])) (F4.out.trans hHeld (by simp))⟩
    refine hK.out _ _ ?_ (fun hNext => ?_)
    · exact hHeld
    clear hK K hHeld
    have hHeld := hNext
    clear hNext
    try simp only [Act.put, List.setIfInBounds_toArray, List.set_cons_zero, List.set_cons_succ]
    refine wpAnyH_done (by kernel_rfl) ?_ _
    have FX := Lib.hid hHeld
    have G7 := Lib.hid ((B4.out.keep hHeld (by simp)).gets ZX.out)
    have Z7 := Lib.hid (H1.out.keep (F4.out.trans hHeld (by simp)) (by simp))
    have HB := Lib.hid hb
    clear hHeld hb hfo
    go_upto_region 4 with (fail)
    refine wp_region_lit ?_
    refine wpList_load_g (by rfl) 26 (.tmp 2) rfl _ rfl G7.out.all ?_
    refine wpList_store_row rfl 26 (.tmp 1) (.tmp 19) rfl g1 (pc (.slice xa p.ads.length xc) p.b p.l p.s).toArray rfl rfl 26 _ Z7.out (by rw [i26, pc_size, ZX.out]) (by rw [pc_size, pc_size, ZX.out]; rfl) (pc_one _ _ _) ?_
    have hfin := setRow_heap w7 g1 _ (pc (.slice xa p.ads.length xc) p.b p.l p.s).toArray 26 (0, 0) Z7.out
    have ffin : Frm [g1] w7 (w7.setRow g1 (pc (.slice xa p.ads.length xc) p.b p.l p.s).toArray) := ⟨rfl, rfl, rfl, by simp [World.setRow], fun k hk hn => setRow_other _ _ k _ (by simpa using hn)⟩
    have sfin := (SX.out.keep (FV.out.trans FX.out (by simp)) (by simp)).keep ffin (fun i hi => by have := HFR.out i hi; simp; omega)
    have fall : Frm [g1] w1 (w7.setRow g1 (pc (.slice xa p.ads.length xc) p.b p.l p.s).toArray) := ((F4.out.trans FX.out (by simp)).mono (by simp)).trans ffin (by simp)
    generalize w7.setRow g1 (pc (.slice xa p.ads.length xc) p.b p.l p.s).toArray = w8 at *
    have HF := Lib.hid hfin
    have SF := Lib.hid sfin
    have FA := Lib.hid fall
    clear hfin sfin ffin fall
    go_wp2_with fail
    go_end0
    have hgood : goodB l = true := (goodB_iff l).2 ⟨H47.out, HN.out, by rw [HQ.out]; exact HM.out, by rw [HQ.out, HEN.out]; have := HB.out; simpa using this⟩
    refine Or.inr ⟨hgood, rfl, FA.out, xa, xc, xsp, ?_, ?_, ?_⟩
    · rw [HQ.out]; exact HF.out
    · rw [HQ.out]; exact SF.out
    · rw [HQ.out]; exact HFR.out
  · have H47 := Lib.hid h47
    have hd : ((l.length : Int) == 47) = false := by simp; omega
    have hne : ¬ ((l.length : Int) = 47) := by omega
    by_cases hlt : l.length < 47
    · go_enter Tryz.func152, Tryz.ntmps152
      go_wp2_with (go_at_call 153; refine (demand_no _ _ _).mono ?_; rintro r w1 ⟨rfl, rfl⟩; exact ⟨rfl, read1_len H47.out (by first | (simp [hlt]; done) | (simp [hlt]; omega)) (Frm.refl _ _)⟩)
    · go_enter Tryz.func152, Tryz.ntmps152
      go_wp2_with (go_at_call 153; refine (demand_no _ _ _).mono ?_; rintro r w1 ⟨rfl, rfl⟩; exact ⟨rfl, read1_len H47.out (by first | (simp [hlt]; done) | (simp [hlt]; omega)) (Frm.refl _ _)⟩)
end Go.Proofs.YtjdejhgfkjeeiaaGreatDoor.Pt

namespace Go.Proofs.YtjdejhgfkjeeiaaGreatDoor.Pt
open Go.RowKit
set_option linter.unusedVariables false
set_option linter.unusedSimpArgs false
set_option maxRecDepth 100000

set_option maxHeartbeats 1000000 in
theorem faultOf_retL (L : List Nat) (K : FuncId) (cap : Array Value) (R : World → Prop) (w : World) (hL : w.heap.size ∉ L)
    (hcf : ∀ w, (callFunc K cap).run Tryz.prog w = .ok (.enter K cap) w) (hstep : ∀ w1, Frm [] w w1 → w.heap.size < w1.heap.size → Calls Tryz.prog K cap w1 fun e w' => e = .returned (.tuple #[]) ∧ Frm L w1 w' ∧ R w') :
    Calls Tryz.prog 151 #[.func (.func K) #[] cap] w (Through R w) := by
  have HS := Lib.hid hstep
  clear hstep
  have hmf : ∀ (fn : Fn) (first cap : Array Value) (w : World), (Instr.makeFunc fn first cap).run Tryz.prog w = .ok (.func fn first cap) w := fun _ _ _ _ => rfl
  go_enter_defers Tryz.func151, Tryz.ntmps151
  go_wp2_with fail
  have hn := heap_alloc_new w (.cells #[.int .i64 0, .int .i64 0] 101)
  refine (HS.out _ ((Frm.refl [] _).alloc _) (by simp)).mono ?_
  rintro e w1 ⟨rfl, f1, hr⟩
  have hb := f1.heap hn hL
  have c0 : w1.cell? ⟨w.heap.size, 0, none⟩ = some (.int .i64 0) := by rw [cell_of_heap hb]; rfl
  have c1 : w1.cell? ⟨w.heap.size, 1, none⟩ = some (.int .i64 0) := by rw [cell_of_heap hb]; rfl
  have z0 := frozen_of_heap hb 0
  have z1 := frozen_of_heap hb 1
  have hb2 : ((w1.setCell ⟨w.heap.size, 0, none⟩ (.int .i64 0)).setCell ⟨w.heap.size, 1, none⟩ (.int .i64 0)).heap[w.heap.size]? = some (.cells #[.int .i64 0, .int .i64 0] 101 (0, 0)) := by rw [heap_setCell_same _ (heap_setCell_same _ hb)]; rfl
  have f2 : Frm [w.heap.size] w1 ((w1.setCell ⟨w.heap.size, 0, none⟩ (.int .i64 0)).setCell ⟨w.heap.size, 1, none⟩ (.int .i64 0)) := ((Frm.refl _ w1).setCell _ _ (by simp)).setCell _ _ (by simp)
  have HB2 := Lib.hid hb2
  have F2 := Lib.hid f2
  have HRR := Lib.hid hr
  clear hn hb hb2 f2 f1 hr HS
  go_wp2
  generalize (w1.setCell ⟨w.heap.size, 0, none⟩ (.int .i64 0)).setCell ⟨w.heap.size, 1, none⟩ (.int .i64 0) = W2 at *
  refine leaves_cons (f := 176) (args := #[.pointer (some ⟨w.heap.size, 0, none⟩)]) (by simp) (by simp [go_sem]) ?_
  refine (catch_idle ⟨w.heap.size, 0, none⟩ _).mono ?_
  rintro e u' w3 ⟨rfl, rfl, f3⟩
  have hb3 := f3.heap HB2.out (by simp)
  have k0 : w3.cell? ⟨w.heap.size, 0, none⟩ = some (.int .i64 0) := by rw [cell_of_heap hb3]; rfl
  have k1 : w3.cell? ⟨w.heap.size, 1, none⟩ = some (.int .i64 0) := by rw [cell_of_heap hb3]; rfl
  simp [Leaves, settle, results, Tryz.results151, go_sem, k0, k1]
  exact ⟨rfl, w1, HRR.out, F2.out.trans f3 (by simp)⟩
/-- Results that lie in two cells. -/
theorem results_two {P : Program} {fn : Func} {p q : Tmp} {t1 t2 : TypeId} (h : fn.results = #[.cell p t1, .cell q t2]) (tmps : Array Value) (w : World) {a1 a2 : Addr} {v1 v2 : Value} (h1 : tmps.getD p undef = .pointer (some a1)) (h2 : tmps.getD q undef = .pointer (some a2))
    (k1 : (loadVar t1 a1).run P w = .ok v1 w) (k2 : (loadVar t2 a2).run P w = .ok v2 w) : (results fn tmps).run P w = .ok (.tuple #[v1, v2]) w := by
  have h1' : tmps[p]?.getD undef = .pointer (some a1) := by simpa using h1
  have h2' : tmps[q]?.getD undef = .pointer (some a2) := by simpa using h2
  simp [results, h, h1', h2', asAddr, k1, k2, Result.andThen]
def zs : List UInt8 := List.replicate 32 0
theorem zs_len : zs.length = 32 := rfl
theorem exec_alloc26z {o : Oper} {a : Act} (hop : o.op = Op.alloc 26) (W : World) : (execOp a.eval o).run Tryz.prog W = .ok (.value (.pointer (some ⟨W.heap.size, 0, none⟩))) (W.alloc (.cells (pc (.slice none 0 0) 0 0 zs).toArray 26)) := exec_alloc26 hop W
def ReadP (l : List UInt8) (w : World) (e : Ending) (w' : World) : Prop := ∃ x, e = .returned (.tuple #[x, .agg #[.int .i64 (readE l), .int .i64 (readAt l)]]) ∧ PtV w' x (readPt l) ∧ Frm [] w w'
theorem pto_zero (w : World) : PtO w (pv (.slice none 0 0) 0 0 (List.replicate 32 0)) zeroPt := ⟨none, 0, [], rfl, OwnA.nil _ _, rfl⟩
/-- The same, and the list of what is told is new, and its own. -/
def ReadO (l : List UInt8) (w : World) (e : Ending) (w' : World) : Prop := ∃ x, e = .returned (.tuple #[x, .agg #[.int .i64 (readE l), .int .i64 (readAt l)]]) ∧ PtO w' x (readPt l) ∧ Frm [] w w' ∧ ∀ i ∈ ptBlk x, w.heap.size ≤ i
/-- The same, and the list of what is told is new. -/
def ReadN (l : List UInt8) (w : World) (e : Ending) (w' : World) : Prop := ∃ x, e = .returned (.tuple #[x, .agg #[.int .i64 (readE l), .int .i64 (readAt l)]]) ∧ PtV w' x (readPt l) ∧ Frm [] w w' ∧ ∀ i ∈ ptBlk x, w.heap.size ≤ i
theorem d40 : (Tryz.prog.info? 101).map (·.size) = some 2 := by kernel_rfl
set_option maxHeartbeats 8000000 in
theorem ReadO_any (v : Value) (l sp : List UInt8) (w : World) (hS : SlB w v l sp) (hl : l.length ≤ 1000000) : Calls Tryz.prog 114 #[v] w (ReadO l w) := by
  obtain ⟨a, cap, rfl, _, _⟩ := hS.form
  have HS := Lib.hid hS
  have HL := Lib.hid hl
  clear hl hS
  have hmf : ∀ (fn : Fn) (first cap : Array Value) (w : World), (Instr.makeFunc fn first cap).run Tryz.prog w = .ok (.func fn first cap) w := fun _ _ _ _ => rfl
  go_enter Tryz.func114, Tryz.ntmps114
  go_upto_region 2 with ((with_reducible (show wpList _ _ _ (Oper.mk _ (Op.alloc 26) _ _ _ _ :: _) _ _)); refine wpList_val rfl (exec_alloc26z rfl _) ?_)
  simp only [World.size_alloc]
  have hb0 : ((((w.alloc (.cells #[.slice a l.length cap] 32)).alloc (.cells (pc (.slice none 0 0) 0 0 zs).toArray 26)).alloc (.cells #[.int .i64 0, .int .i64 0] 101)).alloc (.cells (pc (.slice none 0 0) 0 0 zs).toArray 26)).heap[w.heap.size]? = some (.cells #[.slice a l.length cap] 32 (0, 0)) := heap_alloc_lt (heap_alloc_lt (heap_alloc_lt (heap_alloc_new _ _)))
  have hb1 : ((((w.alloc (.cells #[.slice a l.length cap] 32)).alloc (.cells (pc (.slice none 0 0) 0 0 zs).toArray 26)).alloc (.cells #[.int .i64 0, .int .i64 0] 101)).alloc (.cells (pc (.slice none 0 0) 0 0 zs).toArray 26)).heap[w.heap.size + 1]? = some (.cells (pc (.slice none 0 0) 0 0 zs).toArray 26 (0, 0)) := heap_alloc_lt (heap_alloc_lt (heap_alloc_at (by simp)))
  have hb2 : ((((w.alloc (.cells #[.slice a l.length cap] 32)).alloc (.cells (pc (.slice none 0 0) 0 0 zs).toArray 26)).alloc (.cells #[.int .i64 0, .int .i64 0] 101)).alloc (.cells (pc (.slice none 0 0) 0 0 zs).toArray 26)).heap[w.heap.size + 1 + 1]? = some (.cells #[.int .i64 0, .int .i64 0] 101 (0, 0)) := heap_alloc_lt (heap_alloc_at (by simp))
  have hb3 : ((((w.alloc (.cells #[.slice a l.length cap] 32)).alloc (.cells (pc (.slice none 0 0) 0 0 zs).toArray 26)).alloc (.cells #[.int .i64 0, .int .i64 0] 101)).alloc (.cells (pc (.slice none 0 0) 0 0 zs).toArray 26)).heap[w.heap.size + 1 + 1 + 1]? = some (.cells (pc (.slice none 0 0) 0 0 zs).toArray 26 (0, 0)) := heap_alloc_at (by simp)
  have hf : Frm [] w ((((w.alloc (.cells #[.slice a l.length cap] 32)).alloc (.cells (pc (.slice none 0 0) 0 0 zs).toArray 26)).alloc (.cells #[.int .i64 0, .int .i64 0] 101)).alloc (.cells (pc (.slice none 0 0) 0 0 zs).toArray 26)) := ((((Frm.refl [] w).alloc _).alloc _).alloc _).alloc _
  have hsz : ((((w.alloc (.cells #[.slice a l.length cap] 32)).alloc (.cells (pc (.slice none 0 0) 0 0 zs).toArray 26)).alloc (.cells #[.int .i64 0, .int .i64 0] 101)).alloc (.cells (pc (.slice none 0 0) 0 0 zs).toArray 26)).heap.size = w.heap.size + 4 := by simp
  generalize (((w.alloc (.cells #[.slice a l.length cap] 32)).alloc (.cells (pc (.slice none 0 0) 0 0 zs).toArray 26)).alloc (.cells #[.int .i64 0, .int .i64 0] 101)).alloc (.cells (pc (.slice none 0 0) 0 0 zs).toArray 26) = W at *
  generalize hg3 : w.heap.size + 1 + 1 + 1 = g3 at *
  generalize hg2 : w.heap.size + 1 + 1 = g2 at *
  generalize hg1 : w.heap.size + 1 = g1 at *
  have HB0 := Lib.hid hb0
  have HB1 := Lib.hid hb1
  have HB2 := Lib.hid hb2
  have HB3 := Lib.hid hb3
  have HF := Lib.hid hf
  have HSZ := Lib.hid (show g1 = w.heap.size + 1 ∧ g2 = w.heap.size + 2 ∧ g3 = w.heap.size + 3 ∧ W.heap.size = w.heap.size + 4 from by omega)
  have hst := fun w1 (f1 : Frm [] W w1) => readStep_any w.heap.size g3 (.slice a l.length cap) l sp w1 (HS.out.keep (HF.out.trans f1 (by simp)) (by simp)) (f1.heap HB0.out (by simp)) (f1.heap HB3.out (by simp)) HL.out
  have HST := Lib.hid hst
  clear hb0 hb1 hb2 hb3 hf hsz hst hg1 hg2 hg3
  cases hg : goodB l with
  | true =>
    have HGD := Lib.hid hg
    have hF := faultOf_retL [g3] 152 #[.pointer (some ⟨w.heap.size, 0, none⟩), .pointer (some ⟨g3, 0, none⟩)] (fun z => Frm [g3] W z ∧ ∃ a cap sp, PB z (g3) (.slice a (rawPt l).ads.length cap) (rawPt l).b (rawPt l).l (rawPt l).s ∧ OwnA 47 z (.slice a (rawPt l).ads.length cap) (rawPt l).ads sp ∧ ∀ i ∈ blk (.slice a (rawPt l).ads.length cap), W.heap.size < i) W (by have := HSZ.out; simp; omega) (fun w => enter_of Tryz.func152 (by kernel_rfl) (by kernel_rfl) _ w) (fun w1 f1 hsz1 => (HST.out w1 f1).mono (by
      rintro e w' (⟨hb, _⟩ | ⟨hb, rfl, f2, xa, xc, xsp, q1, q2, q3⟩)
      · rw [hg] at hb; cases hb
      · exact ⟨rfl, f2, (f1.mono (by simp)).trans f2 (by simp), xa, xc, xsp, q1, q2, fun i hi => Nat.lt_of_lt_of_le hsz1 (q3 i hi)⟩))
    have HFF := Lib.hid hF
    clear hF hg
    go_upto_region 3 with (go_at_call 151; refine HFF.out.mono ?_; rintro r w5 ⟨rfl, w4, ⟨f4, xa, xc, xsp, pb4, sx4, nb4⟩, f5⟩)
    have F45 := Lib.hid ((f4.mono (L' := [g3, W.heap.size]) (by simp)).trans (L' := [W.heap.size]) f5 (by simp))
    have ZL := Lib.hid (show (rawPt l).s.length = 32 from by have := ((goodB_iff l).1 HGD.out).1; simp [rawPt]; omega)
    have PB5 := Lib.hid (pb4.keep f5 (by have := HSZ.out; simp; omega))
    have SX5 := Lib.hid (sx4.keep f5 (fun i hi => by have := nb4 i hi; simp; omega))
    have NX5 := Lib.hid nb4
    have SXV := Lib.hid (SX5.out.keep ((Frm.refl [] w5).alloc (.cells #[.int .i64 0, .int .i64 0] 101)) (by simp))
    clear pb4 sx4 nb4 f4 f5
    have hv : (w5.alloc (.cells #[.int .i64 0, .int .i64 0] 101)).heap[w5.heap.size]? = some (.cells #[.int .i64 0, .int .i64 0] 101 (0, 0)) := heap_alloc_new _ _
    have fv : Frm [g3, W.heap.size] W (w5.alloc (.cells #[.int .i64 0, .int .i64 0] 101)) := F45.out.alloc _
    have pv5 : PB (w5.alloc (.cells #[.int .i64 0, .int .i64 0] 101)) g3 (.slice xa (rawPt l).ads.length xc) (rawPt l).b (rawPt l).l (rawPt l).s := PB5.out.alloc _
    have hw5 : W.heap.size ≤ w5.heap.size := F45.out.size
    generalize w5.alloc (.cells #[.int .i64 0, .int .i64 0] 101) = V at *
    generalize w5.heap.size = g5 at *
    have hgs : g1 ≠ g2 ∧ g1 ≠ g3 ∧ g2 ≠ g3 ∧ g1 ≠ g5 ∧ g2 ≠ g5 ∧ w.heap.size ≤ g1 ∧ w.heap.size ≤ g2 ∧ g1 < W.heap.size ∧ g2 < W.heap.size := by have := HSZ.out; omega
    have HGS := Lib.hid hgs
    have PV5 := Lib.hid pv5
    have HV := Lib.hid hv
    have V1 := Lib.hid (fv.heap HB1.out (by have := HGS.out; simp; omega))
    have V2 := Lib.hid (fv.heap HB2.out (by have := HGS.out; simp; omega))
    have FVV := Lib.hid fv
    clear hv fv pv5 hw5 hgs
    refine wp_region_held_drew (S := fun z => Frm [g1, g2] V z) (by kernel_rfl) ((Frm.refl [g1, g2] V).drew) (fun hHeld => ?_)
    refine wpAnyH_take (i := 0) (oi := { dst := some 8, op := Op.load 26 (Operand.tmp 4), type := 26, pos := "pointer.go:37", after := #[], guard := none }) rfl (by kernel_rfl) (by kernel_rfl) (by kernel_rfl) (fun _ _ _ h => h) (yieldsIf_ld (by rfl) 26 _ rfl _ rfl (fun z hSw => ((PV5.out.keep hSw (by have := HGS.out; simp; omega)).gets ZL.out).all)) hHeld ?_
    try simp only [Act.put, List.setIfInBounds_toArray, List.set_cons_zero, List.set_cons_succ]
    refine wpAnyH_take (i := 1) (oi := { dst := some 9, op := Op.load 101 (Operand.tmp 5), type := 101, pos := "pointer.go:37", after := #[{ on := 2, ground := Ground.gcOnly Departure.lateStores }], guard := none }) (v := ?_) rfl (by kernel_rfl) (by kernel_rfl) (by kernel_rfl) (fun _ _ _ h => h) (Or.inl ⟨by rfl, ?_⟩) hHeld ?_
    rotate_left
    focus (intro z hSw; have hz := hSw.heap HV.out (by have := HGS.out; simp; omega); have c0 : z.cell? ⟨g5, 0, none⟩ = _ := cell_of_heap hz 0; have c1 : z.cell? ⟨g5, 1, none⟩ = _ := cell_of_heap hz 1; clear hSw hz; go_simp; try with_reducible rfl)
    try simp only [Act.put, List.setIfInBounds_toArray, List.set_cons_zero, List.set_cons_succ]
    refine wpAnyH_ready (rs := [2]) (by kernel_rfl) (by simp) ?_
    refine AllReadyH.cons (o := { dst := none, op := Op.store 26 (Operand.tmp 2) (Operand.tmp 8), type := 0, pos := "pointer.go:37", after := #[{ on := 0, ground := Ground.data }, { on := 0, ground := Ground.phase }, { on := 1, ground := Ground.textOnly Departure.lateStores }], guard := none }) rfl (fun K hK => ?_) AllReadyH.nil
    rw [if_pos (by rfl)]
    refine wp_store_row 26 (.tmp 2) (.tmp 8) rfl g1 (pc (.slice xa (rawPt l).ads.length xc) (rawPt l).b (rawPt l).l (rawPt l).s).toArray rfl rfl 26 _ (show V.drew.heap[g1]? = _ from V1.out) (by rw [i26, pc_size, ZL.out]) (by simp only [pc_size, ZL.out, zs_len]) (pc_one _ _ _) ?_
    refine hK.out _ _ ?_ (fun hNext => ?_)
    · exact hHeld.trans (L' := [g1]) ⟨rfl, rfl, rfl, by simp [World.setRow], fun k hk hn => setRow_other _ _ k _ (by simpa using hn)⟩ (by simp)
    clear hK K hHeld
    have hHeld := hNext
    clear hNext
    try simp only [Act.put, List.setIfInBounds_toArray, List.set_cons_zero, List.set_cons_succ]
    refine wpAnyH_ready (rs := [3]) (by kernel_rfl) (by simp) ?_
    refine AllReadyH.cons (o := { dst := none, op := Op.store 101 (Operand.tmp 3) (Operand.tmp 9), type := 0, pos := "pointer.go:37", after := #[{ on := 1, ground := Ground.data }, { on := 2, ground := Ground.chain }, { on := 0, ground := Ground.phase }, { on := 1, ground := Ground.phase }, { on := 2, ground := Ground.phase }], guard := none }) rfl (fun K hK => ?_) AllReadyH.nil
    have v2 : (V.drew.setRow g1 (pc (.slice xa (rawPt l).ads.length xc) (rawPt l).b (rawPt l).l (rawPt l).s).toArray).heap[g2]? = _ := (setRow_other _ _ g2 _ (fun h => HGS.out.1 h.symm)).trans V2.out
    have k0 := cell_of_heap v2 0
    have k1 := cell_of_heap v2 1
    have z0 := frozen_of_heap v2 0
    have z1 := frozen_of_heap v2 1
    simp only [List.getElem?_toArray, List.getElem?_cons_zero, List.getElem?_cons_succ] at k0 k1
    go_simp
    refine hK.out _ _ ?_ (fun hNext => ?_)
    · exact (hHeld.setCell _ _ (.inl (by simp))).setCell _ _ (.inl (by simp))
    clear hK K hHeld
    have hHeld := hNext
    clear hNext
    try simp only [Act.put, List.setIfInBounds_toArray, List.set_cons_zero, List.set_cons_succ]
    refine wpAnyH_done (by kernel_rfl) ?_ _
    have hf1 : (((V.drew.setRow g1 (pc (.slice xa (rawPt l).ads.length xc) (rawPt l).b (rawPt l).l (rawPt l).s).toArray).setCell ⟨g2, 0, none⟩ (.int .i64 0)).setCell ⟨g2, 1, none⟩ (.int .i64 0)).heap[g1]? = some (.cells (pc (.slice xa (rawPt l).ads.length xc) (rawPt l).b (rawPt l).l (rawPt l).s).toArray 26 (0, 0)) := (heap_setCell_ne _ HGS.out.1).trans ((heap_setCell_ne _ HGS.out.1).trans (setRow_heap V.drew g1 _ _ 26 (0, 0) V1.out))
    have hf2 : (((V.drew.setRow g1 (pc (.slice xa (rawPt l).ads.length xc) (rawPt l).b (rawPt l).l (rawPt l).s).toArray).setCell ⟨g2, 0, none⟩ (.int .i64 0)).setCell ⟨g2, 1, none⟩ (.int .i64 0)).heap[g2]? = some (.cells #[.int .i64 0, .int .i64 0] 101 (0, 0)) := by
      rw [heap_setCell_same _ (heap_setCell_same _ ((setRow_other V.drew g1 g2 (pc (.slice xa (rawPt l).ads.length xc) (rawPt l).b (rawPt l).l (rawPt l).s).toArray (fun h => HGS.out.1 h.symm)).trans V2.out))]
      rfl
    have ff : Frm [] w (((V.drew.setRow g1 (pc (.slice xa (rawPt l).ads.length xc) (rawPt l).b (rawPt l).l (rawPt l).s).toArray).setCell ⟨g2, 0, none⟩ (.int .i64 0)).setCell ⟨g2, 1, none⟩ (.int .i64 0)) := (HF.out.trans FVV.out (fun i hi => by have := HGS.out; have := HSZ.out; simp at hi; omega)).trans hHeld (fun i hi => by have := HGS.out; simp at hi; omega)
    have fvx := Lib.hid hHeld
    have HF1 := Lib.hid hf1
    have HF2 := Lib.hid hf2
    have FFF := Lib.hid ff
    clear hf1 hf2 ff hHeld
    generalize (((V.drew.setRow g1 (pc (.slice xa (rawPt l).ads.length xc) (rawPt l).b (rawPt l).l (rawPt l).s).toArray).setCell ⟨g2, 0, none⟩ (.int .i64 0)).setCell ⟨g2, 1, none⟩ (.int .i64 0)) = Y at *
    go_wp2_with fail
    refine bodyPost_ret (v := .tuple #[pv (.slice xa (rawPt l).ads.length xc) (rawPt l).b (rawPt l).l (rawPt l).s, .agg #[.int .i64 0, .int .i64 0]]) (results_two (p := 2) (q := 3) rfl _ _ rfl rfl (run_loadVar_row Y g1 26 26 _ (0, 0) _ HF1.out Tryz.underlying26 rfl (by rw [i26]; simp only [pc_size, ZL.out])) (run_loadVar_row Y g2 101 101 _ (0, 0) _ HF2.out Tryz.underlying101 rfl (by rw [d40]; rfl))) rfl ?_
    have hE : readE l = 0 := by simp [readE, HGD.out]
    have hA : readAt l = 0 := by simp [readAt, HGD.out]
    have hP : readPt l = rawPt l := by simp [readPt, HGD.out]
    exact ⟨_, by rw [hE, hA], by rw [hP]; exact ⟨xa, xc, xsp, rfl, SXV.out.keep fvx.out (fun i hi => by have := NX5.out i hi; have := HGS.out; simp; omega), ZL.out⟩, FFF.out, fun i hi => by rw [ptBlk_pv] at hi; have := NX5.out i hi; have := HSZ.out; omega⟩
  | false =>
    have HGD := Lib.hid hg
    have hF := faultOf_gave 152 #[.pointer (some ⟨w.heap.size, 0, none⟩), .pointer (some ⟨g3, 0, none⟩)] (readE l) (readAt l) W (fun w => enter_of Tryz.func152 (by kernel_rfl) (by kernel_rfl) _ w) (fun w1 f1 => (HST.out w1 f1).mono (by
      rintro e w' (⟨hb, rfl, f2⟩ | ⟨hb, _⟩)
      · exact ⟨rfl, f2⟩
      · rw [hg] at hb; cases hb))
    have HFF := Lib.hid hF
    clear hF hg
    go_upto_region 3 with (go_at_call 151; refine HFF.out.mono ?_; rintro r w5 ⟨rfl, f5⟩)
    have F45 := Lib.hid (f5.mono (L' := [g3, W.heap.size]) (by simp))
    have PB5 := Lib.hid (show PB w5 g3 (.slice none 0 0) 0 0 zs from f5.heap HB3.out (by simp))
    have hv : (w5.alloc (.cells #[.int .i64 (readE l), .int .i64 (readAt l)] 101)).heap[w5.heap.size]? = some (.cells #[.int .i64 (readE l), .int .i64 (readAt l)] 101 (0, 0)) := heap_alloc_new _ _
    have fv : Frm [g3, W.heap.size] W (w5.alloc (.cells #[.int .i64 (readE l), .int .i64 (readAt l)] 101)) := F45.out.alloc _
    have pv5 : PB (w5.alloc (.cells #[.int .i64 (readE l), .int .i64 (readAt l)] 101)) g3 (.slice none 0 0) 0 0 zs := PB5.out.alloc _
    have hw5 : W.heap.size ≤ w5.heap.size := F45.out.size
    generalize w5.alloc (.cells #[.int .i64 (readE l), .int .i64 (readAt l)] 101) = V at *
    generalize w5.heap.size = g5 at *
    have hgs : g1 ≠ g2 ∧ g1 ≠ g3 ∧ g2 ≠ g3 ∧ g1 ≠ g5 ∧ g2 ≠ g5 ∧ w.heap.size ≤ g1 ∧ w.heap.size ≤ g2 ∧ g1 < W.heap.size ∧ g2 < W.heap.size := by have := HSZ.out; omega
    have HGS := Lib.hid hgs
    have PV5 := Lib.hid pv5
    have HV := Lib.hid hv
    have V1 := Lib.hid (fv.heap HB1.out (by have := HGS.out; simp; omega))
    have V2 := Lib.hid (fv.heap HB2.out (by have := HGS.out; simp; omega))
    have FVV := Lib.hid fv
    clear hv fv pv5 hw5 hgs
    refine wp_region_held_drew (S := fun z => Frm [g1, g2] V z) (by kernel_rfl) ((Frm.refl [g1, g2] V).drew) (fun hHeld => ?_)
    refine wpAnyH_take (i := 0) (oi := { dst := some 8, op := Op.load 26 (Operand.tmp 4), type := 26, pos := "pointer.go:37", after := #[], guard := none }) rfl (by kernel_rfl) (by kernel_rfl) (by kernel_rfl) (fun _ _ _ h => h) (yieldsIf_ld (by rfl) 26 _ rfl _ rfl (fun z hSw => ((PV5.out.keep hSw (by have := HGS.out; simp; omega)).gets zs_len).all)) hHeld ?_
    try simp only [Act.put, List.setIfInBounds_toArray, List.set_cons_zero, List.set_cons_succ]
    refine wpAnyH_take (i := 1) (oi := { dst := some 9, op := Op.load 101 (Operand.tmp 5), type := 101, pos := "pointer.go:37", after := #[{ on := 2, ground := Ground.gcOnly Departure.lateStores }], guard := none }) (v := ?_) rfl (by kernel_rfl) (by kernel_rfl) (by kernel_rfl) (fun _ _ _ h => h) (Or.inl ⟨by rfl, ?_⟩) hHeld ?_
    rotate_left
    focus (intro z hSw; have hz := hSw.heap HV.out (by have := HGS.out; simp; omega); have c0 : z.cell? ⟨g5, 0, none⟩ = _ := cell_of_heap hz 0; have c1 : z.cell? ⟨g5, 1, none⟩ = _ := cell_of_heap hz 1; clear hSw hz; go_simp; try with_reducible rfl)
    try simp only [Act.put, List.setIfInBounds_toArray, List.set_cons_zero, List.set_cons_succ]
    refine wpAnyH_ready (rs := [2]) (by kernel_rfl) (by simp) ?_
    refine AllReadyH.cons (o := { dst := none, op := Op.store 26 (Operand.tmp 2) (Operand.tmp 8), type := 0, pos := "pointer.go:37", after := #[{ on := 0, ground := Ground.data }, { on := 0, ground := Ground.phase }, { on := 1, ground := Ground.textOnly Departure.lateStores }], guard := none }) rfl (fun K hK => ?_) AllReadyH.nil
    rw [if_pos (by rfl)]
    refine wp_store_row 26 (.tmp 2) (.tmp 8) rfl g1 (pc (.slice none 0 0) 0 0 zs).toArray rfl rfl 26 _ (show V.drew.heap[g1]? = _ from V1.out) (by rw [i26, pc_size, zs_len]) (by simp only [pc_size]) (pc_one _ _ _) ?_
    refine hK.out _ _ ?_ (fun hNext => ?_)
    · exact hHeld.trans (L' := [g1]) ⟨rfl, rfl, rfl, by simp [World.setRow], fun k hk hn => setRow_other _ _ k _ (by simpa using hn)⟩ (by simp)
    clear hK K hHeld
    have hHeld := hNext
    clear hNext
    try simp only [Act.put, List.setIfInBounds_toArray, List.set_cons_zero, List.set_cons_succ]
    refine wpAnyH_ready (rs := [3]) (by kernel_rfl) (by simp) ?_
    refine AllReadyH.cons (o := { dst := none, op := Op.store 101 (Operand.tmp 3) (Operand.tmp 9), type := 0, pos := "pointer.go:37", after := #[{ on := 1, ground := Ground.data }, { on := 2, ground := Ground.chain }, { on := 0, ground := Ground.phase }, { on := 1, ground := Ground.phase }, { on := 2, ground := Ground.phase }], guard := none }) rfl (fun K hK => ?_) AllReadyH.nil
    have v2 : (V.drew.setRow g1 (pc (.slice none 0 0) 0 0 zs).toArray).heap[g2]? = _ := (setRow_other _ _ g2 _ (fun h => HGS.out.1 h.symm)).trans V2.out
    have k0 := cell_of_heap v2 0
    have k1 := cell_of_heap v2 1
    have z0 := frozen_of_heap v2 0
    have z1 := frozen_of_heap v2 1
    simp only [List.getElem?_toArray, List.getElem?_cons_zero, List.getElem?_cons_succ] at k0 k1
    go_simp
    refine hK.out _ _ ?_ (fun hNext => ?_)
    · exact (hHeld.setCell _ _ (.inl (by simp))).setCell _ _ (.inl (by simp))
    clear hK K hHeld
    have hHeld := hNext
    clear hNext
    try simp only [Act.put, List.setIfInBounds_toArray, List.set_cons_zero, List.set_cons_succ]
    refine wpAnyH_done (by kernel_rfl) ?_ _
    have hf1 : (((V.drew.setRow g1 (pc (.slice none 0 0) 0 0 zs).toArray).setCell ⟨g2, 0, none⟩ (.int .i64 (readE l))).setCell ⟨g2, 1, none⟩ (.int .i64 (readAt l))).heap[g1]? = some (.cells (pc (.slice none 0 0) 0 0 zs).toArray 26 (0, 0)) := (heap_setCell_ne _ HGS.out.1).trans ((heap_setCell_ne _ HGS.out.1).trans (setRow_heap V.drew g1 _ _ 26 (0, 0) V1.out))
    have hf2 : (((V.drew.setRow g1 (pc (.slice none 0 0) 0 0 zs).toArray).setCell ⟨g2, 0, none⟩ (.int .i64 (readE l))).setCell ⟨g2, 1, none⟩ (.int .i64 (readAt l))).heap[g2]? = some (.cells #[.int .i64 (readE l), .int .i64 (readAt l)] 101 (0, 0)) := by
      rw [heap_setCell_same _ (heap_setCell_same _ ((setRow_other V.drew g1 g2 (pc (.slice none 0 0) 0 0 zs).toArray (fun h => HGS.out.1 h.symm)).trans V2.out))]
      rfl
    have ff : Frm [] w (((V.drew.setRow g1 (pc (.slice none 0 0) 0 0 zs).toArray).setCell ⟨g2, 0, none⟩ (.int .i64 (readE l))).setCell ⟨g2, 1, none⟩ (.int .i64 (readAt l))) := (HF.out.trans FVV.out (fun i hi => by have := HGS.out; have := HSZ.out; simp at hi; omega)).trans hHeld (fun i hi => by have := HGS.out; simp at hi; omega)
    have fvx := Lib.hid hHeld
    have HF1 := Lib.hid hf1
    have HF2 := Lib.hid hf2
    have FFF := Lib.hid ff
    clear hf1 hf2 ff hHeld
    generalize (((V.drew.setRow g1 (pc (.slice none 0 0) 0 0 zs).toArray).setCell ⟨g2, 0, none⟩ (.int .i64 (readE l))).setCell ⟨g2, 1, none⟩ (.int .i64 (readAt l))) = Y at *
    go_wp2_with fail
    refine bodyPost_ret (v := .tuple #[pv (.slice none 0 0) 0 0 zs, .agg #[.int .i64 (readE l), .int .i64 (readAt l)]]) (results_two (p := 2) (q := 3) rfl _ _ rfl rfl (run_loadVar_row Y g1 26 26 _ (0, 0) _ HF1.out Tryz.underlying26 rfl (by rw [i26]; simp only [pc_size, zs_len])) (run_loadVar_row Y g2 101 101 _ (0, 0) _ HF2.out Tryz.underlying101 rfl (by rw [d40]; rfl))) rfl ?_
    have hP : readPt l = zeroPt := by simp [readPt, HGD.out]
    exact ⟨_, rfl, by rw [hP]; exact pto_zero _, FFF.out, fun i hi => by rw [ptBlk_pv] at hi; simp [blk] at hi⟩
theorem ReadN_any (v : Value) (l sp : List UInt8) (w : World) (hS : SlB w v l sp) (hl : l.length ≤ 1000000) : Calls Tryz.prog 114 #[v] w (ReadN l w) :=
  (ReadO_any v l sp w hS hl).mono fun e w' ⟨x, h1, h2, h3, h4⟩ => ⟨x, h1, h2.v, h3, h4⟩
theorem Read_any (v : Value) (l sp : List UInt8) (w : World) (hS : SlB w v l sp) (hl : l.length ≤ 1000000) : Calls Tryz.prog 114 #[v] w (ReadP l w) :=
  (ReadO_any v l sp w hS hl).mono fun e w' ⟨x, h1, h2, h3, _⟩ => ⟨x, h1, h2.v, h3⟩
end Go.Proofs.YtjdejhgfkjeeiaaGreatDoor.Pt

namespace Go.Proofs.YtjdejhgfkjeeiaaGreatDoor.Pt
set_option linter.unusedVariables false
set_option linter.unusedSimpArgs false
set_option maxRecDepth 100000

theorem be1_nat (n : Nat) (h : n < 256) : beNat [UInt8.ofNat n] = n := by simp [beNat]; omega
theorem be2_nat (n : Nat) (h : n < 65536) : beNat [UInt8.ofNat (n / 256), UInt8.ofNat n] = n := by simp [beNat]; omega
theorem be4_nat (n : Nat) (h : n < 4294967296) : beNat [UInt8.ofNat (n / 16777216), UInt8.ofNat (n / 65536), UInt8.ofNat (n / 256), UInt8.ofNat n] = n := by simp [beNat]; omega
theorem ptB_cons (L : List (Nat × Nat)) (b lv : Nat) (s : List UInt8) : ptB L b lv s = UInt8.ofNat L.length :: ((pad3 L).flatMap adB ++ (be4 b ++ (UInt8.ofNat lv :: s))) := by simp [ptB, addrsB, be1]
theorem raw_ptB (L : List (Nat × Nat)) (b lv : Nat) (s : List UInt8) (hs : s.length = 32) (h3 : L.length ≤ 3) (hb : ∀ x ∈ L, x.1 < 8 ∧ x.2 < 4096) (hb4 : b ≤ 2147483648) (hlv : lv ≤ 3) :
    (ptB L b lv s).length = 47 ∧ rawN (ptB L b lv s) ≤ 3 ∧ rawPt (ptB L b lv s) = ptN L b lv s := by
  have e1 : ∀ n, n ≤ 3 → beNat [UInt8.ofNat n] = n := fun n h => be1_nat n (by omega)
  have e4 := be4_nat b (by omega)
  match L, h3, hb with
  | [], _, hb =>
    refine ⟨by simp [ptB_cons, pad3, adB, be1, be2, be4, hs], by simp [ptB_cons, rawN]; exact e1 0 (by omega) ▸ (by omega), ?_⟩
    have hn : rawN (ptB [] b lv s) = 0 := by simp only [ptB_cons, rawN, List.take_succ_cons, List.take_zero]; exact e1 0 (by omega)
    refine Pt.ext' ?_ ?_ ?_ ?_
    · simp only [rawPt, hn]; rfl
    · simp [rawPt, ptB_cons, pad3, adB, be1, be2, be4, e4, ptN]
    · simp [rawPt, ptB_cons, pad3, adB, be1, be2, be4, e1 lv hlv, ptN]
    · simp [rawPt, ptB_cons, pad3, adB, be1, be2, be4, ptN]
  | [x0], _, hb => 
    have k0 := hb x0 (by simp)
    have a0 := be1_nat x0.1 (by omega)
    have c0 := be2_nat x0.2 (by omega)
    have hn : rawN (ptB [x0] b lv s) = 1 := by simp only [ptB_cons, rawN, List.take_succ_cons, List.take_zero]; exact e1 1 (by omega)
    refine ⟨by simp [ptB_cons, pad3, adB, be1, be2, be4, hs], by omega, ?_⟩
    refine Pt.ext' ?_ ?_ ?_ ?_
    · simp only [rawPt, hn]; simp [List.range_succ, rawAd, ptB_cons, pad3, adB, be1, be2, be4, ptN, adI, a0, c0]
    · simp [rawPt, ptB_cons, pad3, adB, be1, be2, be4, e4, ptN]
    · simp [rawPt, ptB_cons, pad3, adB, be1, be2, be4, e1 lv hlv, ptN]
    · simp [rawPt, ptB_cons, pad3, adB, be1, be2, be4, ptN]
  | [x0, x1], _, hb =>
    have k0 := hb x0 (by simp)
    have a0 := be1_nat x0.1 (by omega)
    have c0 := be2_nat x0.2 (by omega)
    have k1 := hb x1 (by simp)
    have a1 := be1_nat x1.1 (by omega)
    have c1 := be2_nat x1.2 (by omega)
    have hn : rawN (ptB [x0, x1] b lv s) = 2 := by simp only [ptB_cons, rawN, List.take_succ_cons, List.take_zero]; exact e1 2 (by omega)
    refine ⟨by simp [ptB_cons, pad3, adB, be1, be2, be4, hs], by omega, ?_⟩
    refine Pt.ext' ?_ ?_ ?_ ?_
    · simp only [rawPt, hn]; simp [List.range_succ, rawAd, ptB_cons, pad3, adB, be1, be2, be4, ptN, adI, a0, c0, a1, c1]
    · simp [rawPt, ptB_cons, pad3, adB, be1, be2, be4, e4, ptN]
    · simp [rawPt, ptB_cons, pad3, adB, be1, be2, be4, e1 lv hlv, ptN]
    · simp [rawPt, ptB_cons, pad3, adB, be1, be2, be4, ptN]
  | [x0, x1, x2], _, hb =>
    have k0 := hb x0 (by simp)
    have a0 := be1_nat x0.1 (by omega)
    have c0 := be2_nat x0.2 (by omega)
    have k1 := hb x1 (by simp)
    have a1 := be1_nat x1.1 (by omega)
    have c1 := be2_nat x1.2 (by omega)
    have k2 := hb x2 (by simp)
    have a2 := be1_nat x2.1 (by omega)
    have c2 := be2_nat x2.2 (by omega)
    have hn : rawN (ptB [x0, x1, x2] b lv s) = 3 := by simp only [ptB_cons, rawN, List.take_succ_cons, List.take_zero]; exact e1 3 (by omega)
    refine ⟨by simp [ptB_cons, pad3, adB, be1, be2, be4, hs], by omega, ?_⟩
    refine Pt.ext' ?_ ?_ ?_ ?_
    · simp only [rawPt, hn]; simp [List.range_succ, rawAd, ptB_cons, pad3, adB, be1, be2, be4, ptN, adI, a0, c0, a1, c1, a2, c2]
    · simp [rawPt, ptB_cons, pad3, adB, be1, be2, be4, e4, ptN]
    · simp [rawPt, ptB_cons, pad3, adB, be1, be2, be4, e1 lv hlv, ptN]
    · simp [rawPt, ptB_cons, pad3, adB, be1, be2, be4, ptN]
  | _ :: _ :: _ :: _ :: _, h, _ => simp at h
/-- A pointer's bytes are read as it. -/
theorem enc_good {p : Pt} (h : may p) (hs : p.s.length = 32) : goodB (enc p) = true ∧ rawPt (enc p) = p := by
  obtain ⟨L, b, lv, e1, e2, h3, hb, hb4, hlv⟩ := may_nat h
  obtain ⟨r1, r2, r3⟩ := raw_ptB L b lv p.s hs h3 hb hb4 hlv
  rw [← e2] at r1 r2 r3
  rw [← e1] at r3
  refine ⟨(goodB_iff _).2 ⟨r1, r2, by rw [r3]; exact h, by rw [r3]⟩, r3⟩
theorem enc_inj {p q : Pt} (hp : may p) (hq : may q) (h1 : p.s.length = 32) (h2 : q.s.length = 32) (h : enc p = enc q) : p = q := by
  rw [← (enc_good hp h1).2, h, (enc_good hq h2).2]
theorem enc_len {p : Pt} (h : may p) (hs : p.s.length = 32) : (enc p).length = 47 := ((goodB_iff _).1 (enc_good h hs).1).1
end Go.Proofs.YtjdejhgfkjeeiaaGreatDoor.Pt

namespace Go.Proofs.YtjdejhgfkjeeiaaGreatDoor.Pt
open Go.RowKit
set_option linter.unusedVariables false
set_option linter.unusedSimpArgs false
set_option maxRecDepth 100000

/-- A box that holds a pointer. -/
def Boxed (w : World) (g : Nat) (x : Value) (p : Pt) : Prop := ∃ a cap, x = pv (.slice a p.ads.length cap) p.b p.l p.s ∧ PB w g (.slice a p.ads.length cap) p.b p.l p.s ∧ p.s.length = 32
theorem Boxed.load {w : World} {g : Nat} {x : Value} {p : Pt} (h : Boxed w g x p) : (Instr.loadAt 26 (.pointer (some ⟨g, 0, none⟩))).run Tryz.prog w = .ok x w := by
  obtain ⟨a, cap, rfl, h1, h2⟩ := h
  exact (h1.gets h2).all
theorem Boxed.c0 {w : World} {g : Nat} {x : Value} {p : Pt} (h : Boxed w g x p) : ∃ a cap, w.cell? ⟨g, 0, none⟩ = some (.slice a p.ads.length cap) := by
  obtain ⟨a, cap, rfl, h1, h2⟩ := h
  exact ⟨a, cap, (h1.gets h2).c0⟩
theorem Boxed.keep {w w' : World} {L : List Nat} {g : Nat} {x : Value} {p : Pt} (h : Boxed w g x p) (f : Frm L w w') (hn : g ∉ L) : Boxed w' g x p := by
  obtain ⟨a, cap, e, h1, h2⟩ := h
  exact ⟨a, cap, e, h1.keep f hn, h2⟩
theorem Boxed.keep0 {w w' : World} {g : Nat} {x : Value} {p : Pt} (h : Boxed w g x p) (f : Frm [] w w') : Boxed w' g x p := h.keep f (by simp)
theorem Boxed.lt {w : World} {g : Nat} {x : Value} {p : Pt} (h : Boxed w g x p) : g < w.heap.size := by
  obtain ⟨a, cap, e, h1, h2⟩ := h
  exact h1.lt
theorem PtV.box {w : World} {x : Value} {p : Pt} (h : PtV w x p) : ∃ A : Array Value, x = .agg A ∧ A.size = 35 ∧ ∀ W : World, Boxed (W.alloc (.cells A 26)) W.heap.size (.agg A) p := by
  obtain ⟨a, cap, sp, rfl, h2, h3⟩ := h
  exact ⟨_, rfl, by rw [pc_size, h3], fun W => ⟨a, cap, rfl, PB.new _ _ _ _ _, h3⟩⟩
theorem PtV.len {w : World} {x : Value} {p : Pt} (h : PtV w x p) : p.s.length = 32 := by
  obtain ⟨a, cap, sp, rfl, h2, h3⟩ := h
  exact h3
theorem same_comm (p q : Pt) : same q p = same p q := by
  rw [Bool.eq_iff_iff, same_iff, same_iff]
  exact eq_comm
theorem same_refl (p : Pt) : same p p = true := same_iff.2 rfl
theorem like_refl (p : Pt) : like p p = true := by simp [like, sameB]
theorem chk_cases (p : Pt) : (may p ∧ chk p = 0 ∧ outB p = enc p) ∨ (¬ may p ∧ chk p = 2 ∧ outB p = []) := by
  by_cases h : may p
  · exact .inl ⟨h, by simp [chk, (mayB_iff p).2 h], by simp [outB, (mayB_iff p).2 h]⟩
  · exact .inr ⟨h, by simp [chk, (mayB_not p).2 h], by simp [outB, (mayB_not p).2 h]⟩
end Go.Proofs.YtjdejhgfkjeeiaaGreatDoor.Pt

namespace Go.Proofs.YtjdejhgfkjeeiaaGreatDoor.Pt
open Go.RowKit
set_option linter.unusedVariables false
set_option linter.unusedSimpArgs false
set_option maxRecDepth 100000

/-- What bytes are told as, that were told of a pointer. -/
theorem read_enc {p : Pt} (h : may p) (hs : p.s.length = 32) : readE (enc p) = 0 ∧ readAt (enc p) = 0 ∧ readPt (enc p) = p := by
  obtain ⟨h1, h2⟩ := enc_good h hs
  exact ⟨by simp [readE, h1], by simp [readAt, h1], by simp [readPt, h1, h2]⟩
theorem read_cases (l : List UInt8) : (readE l = 0 ∧ may (readPt l) ∧ enc (readPt l) = l ∧ (readPt l).ads.length ≤ 3) ∨ (readE l ≠ 0 ∧ 0 ≤ readAt l ∧ readAt l ≤ l.length) := by
  by_cases h : goodB l = true
  · obtain ⟨h1, h2, h3, h4⟩ := (goodB_iff l).1 h
    refine .inl ⟨by simp [readE, h], by simp [readPt, h, h3], by simp [readPt, h, h4], ?_⟩
    simp [readPt, h, rawPt]
    exact h2
  · right
    have h' : goodB l = false := by simpa using h
    by_cases h47 : l.length = 47
    · exact ⟨by simp [readE, h', h47], by simp [readAt, h', h47], by simp [readAt, h', h47]⟩
    · by_cases h2 : l.length < 47
      · exact ⟨by simp [readE, h', h47], by simp [readAt, h', h47, h2], by simp [readAt, h', h47, h2]⟩
      · exact ⟨by simp [readE, h', h47], by simp [readAt, h', h47, h2], by simp [readAt, h', h47, h2]; omega⟩
theorem read_len (l : List UInt8) : (readPt l).ads.length ≤ 3 := by
  by_cases h : goodB l = true
  · obtain ⟨h1, h2, h3, h4⟩ := (goodB_iff l).1 h
    simp [readPt, h, rawPt]
    exact h2
  · have h' : goodB l = false := by simpa using h
    simp [readPt, h', zeroPt]
/-- A pointer that may be is a hole just if it has no address. -/
theorem may_hole {p : Pt} (h : may p) : hole p = decide (p.ads.length = 0) := by
  unfold may MayRest at h
  rcases h with h | h
  · rw [h]
    have : p.ads = [] := by rw [hole_iff.1 h]; rfl
    simp [this]
  · have h1 : hole p ≠ true := fun e => by
      have := h.1
      rw [hole_iff.1 e] at this
      simp [zeroPt] at this
    have h2 := h.1
    have h3 : hole p = false := by simpa using h1
    rw [h3]
    symm
    simp
    intro e
    rw [e] at h2
    simp at h2
end Go.Proofs.YtjdejhgfkjeeiaaGreatDoor.Pt

namespace Go.Proofs.YtjdejhgfkjeeiaaGreatDoor.Pt
open Go.RowKit
set_option linter.unusedVariables false
set_option linter.unusedSimpArgs false
set_option maxRecDepth 100000

theorem same_ads {p q : Pt} (h : like p q = true) : same p q = (p.ads == q.ads) := by
  simp only [like, sameB, Bool.and_eq_true, beq_iff_eq] at h
  simp [same, h.2.1.1, h.2.1.2, h.2.2]
theorem same_not_like {p q : Pt} (h : like p q = false) : same p q = false := by
  cases hs : same p q with
  | false => rfl
  | true => rw [same_iff.1 hs, like_refl] at h; cases h
set_option maxHeartbeats 4000000 in
theorem RefSame_any (x y : Value) (p q : Pt) (w : World) (hp : PtV w x p) (hq : PtV w y q) (hl : p.ads.length ≤ 1000000) :
    Calls Tryz.prog 61 #[x, y] w fun e w' => e = .returned (.bool (same p q)) ∧ Frm [] w w' := by
  have HP := Lib.hid hp
  have HQ := Lib.hid hq
  have HK := Lib.hid (fun W (f : Frm [] w W) => RefLike_any x y p q W (HP.out.keep0 f) (HQ.out.keep0 f))
  obtain ⟨a, cap, sp, hx, s1, z1⟩ := hp
  obtain ⟨a2, cap2, sp2, hy, s2, z2⟩ := hq
  obtain ⟨A, rfl, hA, hb1⟩ := HP.out.box
  obtain ⟨B, rfl, hB, hb2⟩ := HQ.out.box
  have b1 : Boxed ((w.alloc (.cells A 26)).alloc (.cells B 26)) w.heap.size (.agg A) p := (hb1 w).keep0 ((Frm.refl [] _).alloc _)
  have b2 : Boxed ((w.alloc (.cells A 26)).alloc (.cells B 26)) (w.heap.size + 1) (.agg B) q := by have := hb2 (w.alloc (.cells A 26)); simpa using this
  have k1 : ((w.alloc (.cells A 26)).alloc (.cells B 26)).cell? ⟨w.heap.size, 0, none⟩ = some (.slice a p.ads.length cap) := by
    have h : (w.alloc (.cells A 26)).heap[w.heap.size]? = some (.cells (pc (.slice a p.ads.length cap) p.b p.l p.s).toArray 26 (0, 0)) := by rw [heap_alloc_new]; simp only [pv, Value.agg.injEq] at hx; rw [hx]
    exact ((Frm.refl [] _).alloc _).cell (by rw [cell_of_heap h]; rfl) (by simp)
  have k2 : ((w.alloc (.cells A 26)).alloc (.cells B 26)).cell? ⟨w.heap.size + 1, 0, none⟩ = some (.slice a2 q.ads.length cap2) := by
    have h : ((w.alloc (.cells A 26)).alloc (.cells B 26)).heap[w.heap.size + 1]? = some (.cells (pc (.slice a2 q.ads.length cap2) q.b q.l q.s).toArray 26 (0, 0)) := by rw [heap_alloc_at (by simp)]; simp only [pv, Value.agg.injEq] at hy; rw [hy]
    rw [cell_of_heap h]; rfl
  have f : Frm [] w ((w.alloc (.cells A 26)).alloc (.cells B 26)) := ((Frm.refl [] w).alloc _).alloc _
  have H1 := Lib.hid s1
  have H2 := Lib.hid s2
  obtain ⟨_, _, hv2, _, hm2⟩ := s2.form
  simp only [Value.slice.injEq, true_and] at hv2
  obtain ⟨rfl, rfl⟩ := hv2
  have hm9 : q.ads.length ≤ maxLen := by omega
  unfold maxLen at hm9
  have hl9 : ((p.ads.length : Nat) : Int) ≤ 1000000 := by omega
  have hl8 : ((q.ads.length : Nat) : Int) ≤ 9223372036854775807 := by omega
  clear s1 s2 hl hb1 hb2 hx hy z1 z2 hm2
  have HSL := Lib.hid (@same_not_like p q)
  have HSA := Lib.hid (@same_ads p q)
  generalize same p q = sm at *
  generalize like p q = lk at *
  generalize p.ads = l at *
  generalize q.ads = m at *
  go_enter Tryz.func61, Tryz.ntmps61
  go_upto_region 1 with (fail)
  generalize (w.alloc (.cells A 26)).alloc (.cells B 26) = W at *
  have B1 := Lib.hid b1
  have B2 := Lib.hid b2
  have F := Lib.hid f
  clear b1 b2 f
  cases lk with
  | false =>
    have E := Lib.hid (HSL.out (by simp))
    go_wp2_with (first | ((with_reducible (show wpList _ _ _ (Oper.mk _ (Op.load 26 (.tmp 2)) _ _ _ _ :: _) _ _)); refine wpList_load_g (by rfl) 26 _ rfl _ rfl B1.out.load ?_) | ((with_reducible (show wpList _ _ _ (Oper.mk _ (Op.load 26 (.tmp 3)) _ _ _ _ :: _) _ _)); refine wpList_load_g (by rfl) 26 _ rfl _ rfl B2.out.load ?_) | (go_at_call 108; refine (HK.out _ F.out).mono ?_; rintro r w1 ⟨rfl, f1⟩; have k3 := f1.cell k1 (by simp); have k4 := f1.cell k2 (by simp)))
    go_ret
    exact ⟨ret_bool E.out.symm, F.out.trans f1 (by simp)⟩
  | true =>
    obtain E := Lib.hid (HSA.out (by simp))
    by_cases hlm : l.length = m.length
    · have HLM := Lib.hid hlm
      rw [← hlm] at H2 hl8 k2
      have hd : ((l.length : Int) != (l.length : Int)) = false := by simp
      clear hlm
      go_upto_region 3 with (first | ((with_reducible (show wpList _ _ _ (Oper.mk _ (Op.load 26 (.tmp 2)) _ _ _ _ :: _) _ _)); refine wpList_load_g (by rfl) 26 _ rfl _ rfl B1.out.load ?_) | ((with_reducible (show wpList _ _ _ (Oper.mk _ (Op.load 26 (.tmp 3)) _ _ _ _ :: _) _ _)); refine wpList_load_g (by rfl) 26 _ rfl _ rfl B2.out.load ?_) | (go_at_call 108; refine (HK.out _ F.out).mono ?_; rintro r w1 ⟨rfl, f1⟩; have k3 := f1.cell k1 (by simp); have k4 := f1.cell k2 (by simp)))
      have F1 := Lib.hid (F.out.trans f1 (by simp))
      clear f1 k1 k2
      go_wp2_with fail
      go_loopw [5] (PreRel l m w1) (fun cv _ => l.length - (intOf cv).toNat)
      case atStart => exact ⟨0, by omega, rfl, fun j hj => by omega, Frm.refl _ _⟩
      case round =>
        obtain ⟨k, hk, rfl, hp, f⟩ := hrel
        have HP := Lib.hid hp
        have k5 := f.cell k3 (by simp)
        have k6 := f.cell k4 (by simp)
        clear hp k3 k4
        by_cases hlt : k < l.length
        · have hlt2 : k < m.length := by rw [← HLM.out]; exact hlt
          have hH2 := H2.out
          rw [HLM.out] at hH2
          obtain ⟨b0, off, rfl⟩ := H1.out.at (by omega)
          obtain ⟨b1, off1, rfl⟩ := hH2.at (by omega)
          obtain ⟨c0, c1⟩ := (H1.out.keep (F1.out.trans f (by simp)) (by simp)).cells k hlt
          obtain ⟨d0, d1⟩ := (hH2.keep (F1.out.trans f (by simp)) (by simp)).cells k hlt2
          have hn := @pre_not l m k hlt hlt2
          have hy : ∀ j, j < k + 1 → l[k] = m[k] → l[j]? = m[j]? := fun j hj he => by
            rcases Nat.lt_or_ge j k with h | h
            · exact HP.out j h
            · obtain rfl : j = k := by omega
              rw [List.getElem?_eq_getElem hlt, List.getElem?_eq_getElem hlt2, he]
          generalize l[k] = y at *
          generalize m[k] = z at *
          have FF := Lib.hid f
          have HN := Lib.hid hn
          have HY := Lib.hid hy
          clear f hn hy hH2 hlt2
          by_cases e1 : y.1 = z.1
          · by_cases e2 : y.2 = z.2
            · have e3 := ad_ext e1 e2
              subst e3
              go_wp2_with fail
              go_quiet (fail)
              go_wp2_with fail
              go_roundw
              case rel => exact ⟨k + 1, by omega, by go_num, fun j hj => by first | exact HY.out j hj rfl | exact HY.out j hj trivial, FF.out.drewN _⟩
              case measure => simp [intOf]; omega
            · have E2 := Lib.hid (HN.out fun e => e2 (by rw [e]))
              have e2' : (y.2 == z.2) = false := by simpa using e2
              rw [← e1] at d0
              clear e2
              go_wp2_with fail
              go_quiet (fail)
              go_wp2_with fail
              go_ret
              exact ⟨ret_bool (E.out.trans E2.out).symm, F1.out.trans (FF.out.drewN _) (by simp)⟩
          · have E2 := Lib.hid (HN.out fun e => e1 (by rw [e]))
            have e1' : (y.1 == z.1) = false := by simpa using e1
            clear e1
            go_wp2_with fail
            go_quiet (fail)
            go_wp2_with fail
            go_ret
            exact ⟨ret_bool (E.out.trans E2.out).symm, F1.out.trans (FF.out.drewN _) (by simp)⟩
        · obtain rfl : k = l.length := by omega
          have FF := Lib.hid f
          clear f
          go_wp2_with fail
          go_ret
          exact ⟨ret_bool (E.out.trans (pre_all HLM.out HP.out)).symm, F1.out.trans FF.out (by simp)⟩
    · have E2 := Lib.hid (len_not hlm)
      have hd : ((l.length : Int) != (m.length : Int)) = true := by simp; omega
      clear hlm
      go_wp2_with (first | ((with_reducible (show wpList _ _ _ (Oper.mk _ (Op.load 26 (.tmp 2)) _ _ _ _ :: _) _ _)); refine wpList_load_g (by rfl) 26 _ rfl _ rfl B1.out.load ?_) | ((with_reducible (show wpList _ _ _ (Oper.mk _ (Op.load 26 (.tmp 3)) _ _ _ _ :: _) _ _)); refine wpList_load_g (by rfl) 26 _ rfl _ rfl B2.out.load ?_) | (go_at_call 108; refine (HK.out _ F.out).mono ?_; rintro r w1 ⟨rfl, f1⟩; have k3 := f1.cell k1 (by simp); have k4 := f1.cell k2 (by simp)))
      go_ret
      exact ⟨ret_bool (E.out.trans E2.out).symm, F.out.trans f1 (by simp)⟩
end Go.Proofs.YtjdejhgfkjeeiaaGreatDoor.Pt
