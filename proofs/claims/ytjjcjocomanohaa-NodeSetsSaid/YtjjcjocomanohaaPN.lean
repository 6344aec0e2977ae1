/-
  Contract of the closure of Read. No conditions but those that each theorem names.
-/
import Derived.Test.YtjjcjocomanohaaPM
import Derived.Test.YtjjcjocomanohaaPI
import Derived.Deep.WholeRow
namespace Go.Proofs.Ytjjcjocomanohaa
open Go.RowKit
set_option linter.unusedVariables false
set_option linter.unusedSimpArgs false
set_option maxRecDepth 100000

/-- Bytes that are a pointer's. -/
def goodB (l : List UInt8) : Bool := (l.length == 47) && decide (rawN l ≤ 3) && mayB (rawPt l) && (enc (rawPt l) == l)
theorem goodB_iff (l : List UInt8) : goodB l = true ↔ l.length = 47 ∧ rawN l ≤ 3 ∧ may (rawPt l) ∧ enc (rawPt l) = l := by
  simp only [goodB, Bool.and_eq_true, beq_iff_eq, decide_eq_true_eq, mayB_iff, and_assoc]
def readPt (l : List UInt8) : Pt := if goodB l = true then rawPt l else zeroPt
def readE (l : List UInt8) : Int := if goodB l = true then 0 else if l.length = 47 then 2 else 4
def readAt (l : List UInt8) : Int := if goodB l = true then 0 else if l.length = 47 then 0 else if l.length < 47 then l.length else 47
def Read1 (l : List UInt8) (g : Nat) (w : World) (e : Ending) (w' : World) : Prop :=
  (goodB l = false ∧ e = GaveUp (readE l) (readAt l) ∧ Frm [] w w') ∨
  (goodB l = true ∧ e = .returned (.tuple #[]) ∧ Frm [g] w w' ∧ ∃ a cap sp, PB w' g (.slice a (rawPt l).ads.length cap) (rawPt l).b (rawPt l).l (rawPt l).s ∧ SlA w' (.slice a (rawPt l).ads.length cap) (rawPt l).ads sp ∧ ∀ i ∈ blk (.slice a (rawPt l).ads.length cap), w.heap.size ≤ i)
theorem read1_no {l : List UInt8} {g : Nat} {w w' : World} (h : l.length = 47) (hn : ¬ (rawN l ≤ 3 ∧ may (rawPt l) ∧ enc (rawPt l) = l)) (f : Frm [] w w') : Read1 l g w (GaveUp 2 0) w' := by
  have hg : goodB l = false := by
    cases hb : goodB l with
    | false => rfl
    | true => exact absurd ((goodB_iff l).1 hb).2 hn
  exact Or.inl ⟨hg, by simp [readE, readAt, hg, h], f⟩
theorem read1_len {l : List UInt8} {g : Nat} {w w' : World} {n : Int} (h : l.length ≠ 47) (hn : n = if l.length < 47 then (l.length : Int) else 47) (f : Frm [] w w') : Read1 l g w (GaveUp 4 n) w' := by
  have hg : goodB l = false := by
    cases hb : goodB l with
    | false => rfl
    | true => exact absurd ((goodB_iff l).1 hb).1 h
  exact Or.inl ⟨hg, by simp [readE, readAt, hg, h, hn], f⟩
/-- A pointer is stored into a block that was just made. -/
theorem wpList_store_new {ops : Array Oper} {rest : List Oper} {op : Oper} {a : Act} {W : World} {Q : Exit → Act → World → Prop} (hgd : op.guard = none) (x y : Operand) (ho : op.op = .store 26 x y) {Z : Array Value} (hZ : Z.size = 35)
    {v : Option Addr} {n cap : Nat} {b l : Int} {s : List UInt8} (hs : s.length = 32) (hx : a.eval x = .pointer (some ⟨W.heap.size, 0, none⟩)) (hy : a.eval y = pv (.slice v n cap) b l s)
    (k : wpList Try.prog ops Q rest (a.put op.dst undef) (W.alloc (.cells (pc (.slice v n cap) b l s).toArray 26))) : wpList Try.prog ops Q (op :: rest) a (W.alloc (.cells Z 26)) := by
  refine wpList_store_row hgd 26 x y ho W.heap.size (pc (.slice v n cap) b l s).toArray hx hy 26 Z (heap_alloc_new _ _) (by rw [i26, pc_size, hs]) (by rw [pc_size, hs, hZ]) (pc_one _ _ _) ?_
  rw [World.setRow_alloc_new]
  exact k
set_option maxHeartbeats 8000000 in
theorem readStep_any (g0 g1 : Nat) (v : Value) (l sp : List UInt8) (w : World) (hS : SlB w v l sp) (h0 : w.heap[g0]? = some (.cells #[v] 29 (0, 0))) (h1 : PB w g1 (.slice none 0 0) 0 0 (List.replicate 32 0)) (hl : l.length ≤ 1000000) :
    Calls Try.prog 59 #[.pointer (some ⟨g0, 0, none⟩), .pointer (some ⟨g1, 0, none⟩)] w (Read1 l g1 w) := by
  obtain ⟨a, cap, rfl, _, _⟩ := hS.form
  have c0 : w.cell? ⟨g0, 0, none⟩ = some (.slice a l.length cap) := by rw [cell_of_heap h0]; rfl
  have H0 := Lib.hid h0
  have H1 := Lib.hid h1
  have HS := Lib.hid hS
  have g1lt := h1.lt
  clear h0 h1 hS
  by_cases h47 : l.length = 47
  · have H47 := Lib.hid h47
    have hpo := Lib.hid (fun W (f : Frm [] w W) => pointerOf_any (.slice a l.length cap) l sp W (HS.out.keep f (by simp)) h47)
    rw [h47] at c0 HS hpo
    clear hl
    go_enter Try.func59, Try.ntmps59
    go_upto_region 1 with (go_at_call 60; refine (demand_yes _ _ _).mono ?_; rintro r w1 ⟨rfl, rfl⟩)
    go_upto_region 2 with (first | (go_at_call 61; refine (hpo.out _ (Frm.refl [] _)).mono ?_; rintro r w2 ⟨⟨hn, rfl⟩ | ⟨hn, x, rfl, hx, hfr⟩, f2⟩; exact ⟨rfl, read1_no H47.out (fun h => by have := h.1; omega) f2⟩; obtain ⟨xa, xc, xsp, rfl, sx, zx⟩ := hx) | ((with_reducible (show wpList _ _ _ (Oper.mk _ (Op.store 26 _ _) _ _ _ _ :: _) _ _)); refine wpList_store_new rfl (.tmp 2) (.tmp 11) rfl rfl zx rfl rfl ?_))
    rw [ptBlk_pv] at hfr
    have HFR := Lib.hid hfr
    have HN := Lib.hid hn
    have F2 := Lib.hid f2
    have B3 := Lib.hid (PB.new w2 (.slice xa (rawPt l).ads.length xc) (rawPt l).b (rawPt l).l (rawPt l).s)
    have F3 := Lib.hid (f2.alloc (.cells (pc (.slice xa (rawPt l).ads.length xc) (rawPt l).b (rawPt l).l (rawPt l).s).toArray 26))
    have hlen : (rawPt l).ads.length ≤ 3 := by simp [rawPt]; omega
    have HLN := Lib.hid hlen
    have SX := Lib.hid (sx.keep ((Frm.refl [] w2).alloc (.cells (pc (.slice xa (rawPt l).ads.length xc) (rawPt l).b (rawPt l).l (rawPt l).s).toArray 26)) (by simp))
    have ZX := Lib.hid zx
    have hlt2 : w2.heap.size < (w2.alloc (.cells (pc (.slice xa (rawPt l).ads.length xc) (rawPt l).b (rawPt l).l (rawPt l).s).toArray 26)).heap.size := by simp
    clear hn f2 sx zx hpo hlen hfr
    generalize w2.alloc (.cells (pc (.slice xa (rawPt l).ads.length xc) (rawPt l).b (rawPt l).l (rawPt l).s).toArray 26) = V at *
    have hg1 : g1 < w2.heap.size := Nat.lt_of_lt_of_le g1lt F2.out.size
    have hpv := fun W (f : Frm [] V W) => (⟨xa, xc, xsp, rfl, SX.out.keep f (by simp), ZX.out⟩ : PtV W (pv (.slice xa (rawPt l).ads.length xc) (rawPt l).b (rawPt l).l (rawPt l).s) (rawPt l))
    have HPV := Lib.hid hpv
    have hdm := Lib.hid (fun W (f : Frm [] V W) => demandMay_any _ (rawPt l) W (HPV.out W f) (by have := HLN.out; omega))
    have hfo := Lib.hid (fun (hm : may (rawPt l)) W (f : Frm [] V W) => show Calls Try.prog 50 #[pv (.slice xa (rawPt l).ads.length xc) (rawPt l).b (rawPt l).l (rawPt l).s] W (Told W (enc (rawPt l))) from by
      obtain ⟨L, b, lv, e1, e2, h3, hb, hb4, hlv⟩ := may_nat hm
      rw [e2]
      refine fieldsOf_any _ L b lv (rawPt l).s W ?_ h3 (fun y hy => by have := hb y hy; omega) (by omega) (by omega)
      have := HPV.out W f
      rw [← e1]
      exact this)
    have c3 := F3.out.cell c0 (by simp)
    clear hpv c0
    generalize hq : rawPt l = p at *
    have HQ := Lib.hid hq
    clear hq
    generalize hg2 : w2.heap.size = g2 at *
    clear hg2
    go_upto_region 3 with (first | ((with_reducible (show wpList _ _ _ (Oper.mk _ (Op.load 26 _) _ _ _ _ :: _) _ _)); refine wpList_load_g (by rfl) 26 _ rfl _ rfl (B3.out.gets ZX.out).all ?_) | (go_at_call 53; refine (hdm.out _ (Frm.refl [] V)).mono ?_; rintro r w4 ⟨⟨rfl, hm⟩ | ⟨rfl, hm⟩, f4⟩; rotate_left; exact ⟨rfl, read1_no H47.out (fun h => hm (by rw [← HQ.out]; exact h.2.1)) (F3.out.trans f4 (by simp))⟩))
    have HM := Lib.hid hm
    have F4 := Lib.hid (F3.out.trans f4 (by simp))
    have FV := Lib.hid f4
    have B4 := Lib.hid (B3.out.keep f4 (by simp))
    have c4 := f4.cell c3 (by simp)
    have C4 := Lib.hid c4
    clear c3 f4 hm hdm c4
    refine wp_region_held_drew (S := fun z => Frm [] w4 z) (by kernel_rfl) ((Frm.refl [] w4).drew) (fun hHeld => ?_)
    refine wpAnyH_take (i := 0) (oi := { dst := some 14, op := Op.load 26 (Operand.tmp 2), type := 26, pos := "pointer.go:34", after := #[], guard := none }) rfl (by kernel_rfl) (by kernel_rfl) (by kernel_rfl) (fun _ _ _ h => h) (yieldsIf_ld (by rfl) 26 _ rfl _ rfl (fun z hSw => ((B4.out.keep hSw (by simp)).gets ZX.out).all)) hHeld ?_
    try simp only [Act.put, List.setIfInBounds_toArray, List.set_cons_zero, List.set_cons_succ]
    refine wpAnyH_take (i := 2) (oi := { dst := some 16, op := Op.load 29 (Operand.tmp 0), type := 29, pos := "pointer.go:34", after := #[], guard := none }) (v := ?_) rfl (by kernel_rfl) (by kernel_rfl) (by kernel_rfl) (fun _ _ _ h => h) (Or.inl ⟨by rfl, ?_⟩) hHeld ?_
    rotate_left
    focus (intro z hSw; have c5 := hSw.cell C4.out (by simp); clear hSw; go_simp; try with_reducible rfl)
    try simp only [Act.put, List.setIfInBounds_toArray, List.set_cons_zero, List.set_cons_succ]
    refine wpAnyH_ready (rs := [1]) (by kernel_rfl) (by simp) ?_
    refine AllReadyH.cons (o := { dst := some 15, op := Op.call { callee := Callee.value (Operand.func 50), args := #[Operand.tmp 14], argTypes := #[26] }, type := 64, pos := "pointer.go:34", after := #[{ on := 0, ground := Ground.data }], guard := none }) rfl (fun K hK => ?_) AllReadyH.nil
    go_simp
    refine (hfo.out HM.out _ (FV.out.trans hHeld (by simp))).mono ?_
    rintro r w5 ⟨a5, cap5, sp5, rfl, o5, f5, n5⟩
    have O5 := Lib.hid o5
    generalize hen : enc p = le at *
    have HEN := Lib.hid hen
    clear hen
    refine hK.out _ _ ?_ (fun hNext => ?_)
    · exact hHeld.trans f5 (by simp)
    clear hK K hHeld
    have hHeld := hNext
    clear hNext
    try simp only [Act.put, List.setIfInBounds_toArray, List.set_cons_zero, List.set_cons_succ]
    refine wpAnyH_ready (rs := [3]) (by kernel_rfl) (by simp) ?_
    refine AllReadyH.cons (o := { dst := some 17, op := Op.call { callee := Callee.value (Operand.func 62), args := #[Operand.tmp 15, Operand.tmp 16], argTypes := #[29, 29] }, type := 4, pos := "pointer.go:34", after := #[{ on := 1, ground := Ground.data }, { on := 2, ground := Ground.data }, { on := 1, ground := Ground.chain }], guard := none }) rfl (fun K hK => ?_) AllReadyH.nil
    go_simp
    refine (bytesEqual_any _ _ le sp5 l sp _ O5.out.sl (HS.out.keep (F4.out.trans hHeld (by simp)) (by simp))).mono ?_
    rintro r w6 ⟨rfl, rfl⟩
    refine hK.out _ _ ?_ (fun hNext => ?_)
    · exact hHeld
    clear hK K hHeld
    have hHeld := hNext
    clear hNext
    try simp only [Act.put, List.setIfInBounds_toArray, List.set_cons_zero, List.set_cons_succ]
    refine wpAnyH_ready (rs := [4]) (by kernel_rfl) (by simp) ?_
    refine AllReadyH.cons (o := { dst := some 18, op := Op.call { callee := Callee.value (Operand.func 60), args := #[Operand.tmp 17, Operand.const (Value.int IntKind.i64 2), Operand.const (Value.int IntKind.i64 0)], argTypes := #[4, 30, 3] }, type := 0, pos := "pointer.go:34", after := #[{ on := 3, ground := Ground.data }, { on := 3, ground := Ground.chain }], guard := none }) rfl (fun K hK => ?_) AllReadyH.nil
    go_simp
    refine (demand_any _ _).mono ?_
    rintro r w7 ⟨⟨rfl, hb⟩ | ⟨rfl, hb⟩, rfl⟩
    rotate_left
    exact ⟨rfl, read1_no H47.out (fun h => hb (by have := h.2.2; rw [HQ.out, HEN.out] at this; simp [this])) (F4.out.trans hHeld (by simp))⟩
    refine hK.out _ _ ?_ (fun hNext => ?_)
    · exact hHeld
    clear hK K hHeld
    have hHeld := hNext
    clear hNext
    try simp only [Act.put, List.setIfInBounds_toArray, List.set_cons_zero, List.set_cons_succ]
    refine wpAnyH_done (by kernel_rfl) ?_ _
    have FX := Lib.hid hHeld
    have G7 := Lib.hid ((B4.out.keep hHeld (by simp)).gets ZX.out)
    have Z7 := Lib.hid (H1.out.keep (F4.out.trans hHeld (by simp)) (by simp))
    have HB := Lib.hid hb
    clear hHeld hb hfo
    go_upto_region 4 with (fail)
    refine wp_region_lit ?_
    refine wpList_load_g (by rfl) 26 (.tmp 2) rfl _ rfl G7.out.all ?_
    refine wpList_store_row rfl 26 (.tmp 1) (.tmp 19) rfl g1 (pc (.slice xa p.ads.length xc) p.b p.l p.s).toArray rfl rfl 26 _ Z7.out (by rw [i26, pc_size, ZX.out]) (by rw [pc_size, pc_size, ZX.out]; rfl) (pc_one _ _ _) ?_
    have hfin := setRow_heap w7 g1 _ (pc (.slice xa p.ads.length xc) p.b p.l p.s).toArray 26 (0, 0) Z7.out
    have ffin : Frm [g1] w7 (w7.setRow g1 (pc (.slice xa p.ads.length xc) p.b p.l p.s).toArray) := ⟨rfl, rfl, rfl, by simp [World.setRow], fun k hk hn => setRow_other _ _ k _ (by simpa using hn)⟩
    have sfin := (SX.out.keep (FV.out.trans FX.out (by simp)) (by simp)).keep ffin (fun i hi => by have := HFR.out i hi; simp; omega)
    have fall : Frm [g1] w1 (w7.setRow g1 (pc (.slice xa p.ads.length xc) p.b p.l p.s).toArray) := ((F4.out.trans FX.out (by simp)).mono (by simp)).trans ffin (by simp)
    generalize w7.setRow g1 (pc (.slice xa p.ads.length xc) p.b p.l p.s).toArray = w8 at *
    have HF := Lib.hid hfin
    have SF := Lib.hid sfin
    have FA := Lib.hid fall
    clear hfin sfin ffin fall
    go_wp2_with fail
    go_end0
    have hgood : goodB l = true := (goodB_iff l).2 ⟨H47.out, HN.out, by rw [HQ.out]; exact HM.out, by rw [HQ.out, HEN.out]; have := HB.out; simpa using this⟩
    refine Or.inr ⟨hgood, rfl, FA.out, xa, xc, xsp, ?_, ?_, ?_⟩
    · rw [HQ.out]; exact HF.out
    · rw [HQ.out]; exact SF.out
    · rw [HQ.out]; exact HFR.out
  · have H47 := Lib.hid h47
    have hd : ((l.length : Int) == 47) = false := by simp; omega
    have hne : ¬ ((l.length : Int) = 47) := by omega
    by_cases hlt : l.length < 47
    · go_enter Try.func59, Try.ntmps59
      go_wp2_with (go_at_call 60; refine (demand_no _ _ _).mono ?_; rintro r w1 ⟨rfl, rfl⟩; exact ⟨rfl, read1_len H47.out (by first | (simp [hlt]; done) | (simp [hlt]; omega)) (Frm.refl _ _)⟩)
    · go_enter Try.func59, Try.ntmps59
      go_wp2_with (go_at_call 60; refine (demand_no _ _ _).mono ?_; rintro r w1 ⟨rfl, rfl⟩; exact ⟨rfl, read1_len H47.out (by first | (simp [hlt]; done) | (simp [hlt]; omega)) (Frm.refl _ _)⟩)
end Go.Proofs.Ytjjcjocomanohaa
