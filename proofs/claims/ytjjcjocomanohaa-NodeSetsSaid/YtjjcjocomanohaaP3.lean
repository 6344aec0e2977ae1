/-
  Contracts of SamePointer, Same, Like, Hole, of the program and of the answer of the document. No conditions but those that each theorem names.
-/
import Derived.Test.YtjjcjocomanohaaP2
namespace Go.Proofs.Ytjjcjocomanohaa
open Go.RowKit
set_option linter.unusedVariables false
set_option linter.unusedSimpArgs false
set_option maxRecDepth 100000

/-- A pointer: its addresses, its birth, its level, its sum. -/
structure Pt where
  (ads : List Ad) (b l : Int) (s : List UInt8)
theorem Pt.ext' {p q : Pt} (h1 : p.ads = q.ads) (h2 : p.b = q.b) (h3 : p.l = q.l) (h4 : p.s = q.s) : p = q := by cases p; cases q; simp_all
/-- A value that is a pointer, whose addresses can be read. -/
def PtV (w : World) (x : Value) (p : Pt) : Prop := ∃ a cap sp, x = pv (.slice a p.ads.length cap) p.b p.l p.s ∧ SlA w (.slice a p.ads.length cap) p.ads sp ∧ p.s.length = 32
def ptBlk : Value → List Nat
  | .agg cs => match cs[0]? with | some v => blk v | none => []
  | _ => []
theorem ptBlk_pv (v : Value) (b l : Int) (s : List UInt8) : ptBlk (pv v b l s) = blk v := by simp [ptBlk, pv, pc]
theorem PtV.keep {w w' : World} {x : Value} {p : Pt} {L : List Nat} (h : PtV w x p) (f : Frm L w w') (hn : ∀ k ∈ ptBlk x, k ∉ L) : PtV w' x p := by
  obtain ⟨a, cap, sp, rfl, h2, h3⟩ := h
  rw [ptBlk_pv] at hn
  exact ⟨a, cap, sp, rfl, h2.keep f hn, h3⟩
theorem PtV.keep0 {w w' : World} {x : Value} {p : Pt} (h : PtV w x p) (f : Frm [] w w') : PtV w' x p := h.keep f (by simp)
def zeroPt : Pt := ⟨[], 0, 0, List.replicate 32 0⟩
def same (p q : Pt) : Bool := p.ads == q.ads && p.b == q.b && p.l == q.l && p.s == q.s
def sameB (p q : Pt) : Bool := p.b == q.b && p.l == q.l && p.s == q.s
def like (p q : Pt) : Bool := (decide (p.ads.length = 0) == decide (q.ads.length = 0)) && sameB p q
def hole (p : Pt) : Bool := same p zeroPt
theorem same_iff {p q : Pt} : same p q = true ↔ p = q := by
  simp only [same, Bool.and_eq_true, beq_iff_eq]
  exact ⟨fun ⟨⟨⟨h1, h2⟩, h3⟩, h4⟩ => Pt.ext' h1 h2 h3 h4, fun h => by subst h; simp⟩
set_option maxHeartbeats 1000000 in
theorem SamePointer_any (x y : Value) (p q : Pt) (w : World) (hp : PtV w x p) (hq : PtV w y q) (hl : p.ads.length ≤ 1000000) :
    Calls Try.prog 27 #[x, y] w fun e w' => e = .returned (.bool (same p q)) ∧ Frm [] w w' := by
  obtain ⟨a, cap, sp, rfl, s1, z1⟩ := hp
  obtain ⟨a2, cap2, sp2, rfl, s2, z2⟩ := hq
  obtain ⟨ads, b, l, s⟩ := p
  obtain ⟨bs, b2, l2, t⟩ := q
  simp only [same] at *
  have B1 := (PB.new w (.slice a ads.length cap) b l s).alloc (.cells (pc (.slice a2 bs.length cap2) b2 l2 t).toArray 26)
  have B2 := PB.new1 w (.cells (pc (.slice a ads.length cap) b l s).toArray 26) (.slice a2 bs.length cap2) b2 l2 t
  have f : Frm [] w ((w.alloc (.cells (pc (.slice a ads.length cap) b l s).toArray 26)).alloc (.cells (pc (.slice a2 bs.length cap2) b2 l2 t).toArray 26)) := ((Frm.refl [] w).alloc _).alloc _
  have hC := fun W (f : Frm [] w W) => SameAddrs_any (.slice a ads.length cap) (.slice a2 bs.length cap2) ads bs sp sp2 W (s1.keep f (by simp)) (s2.keep f (by simp)) hl
  have HC := Lib.hid hC
  have hq : (binOp .eql 24 (idv s) (idv t)).run Try.prog = _ := funext fun W => eql24 s t z1 z2 W
  have hg := fun op x y W => agg_guard op x y s t W
  have HL := Lib.hid hl
  clear hC s1 s2 hl
  generalize ads.length = n at *
  generalize bs.length = m at *
  generalize (ads == bs) = u at *
  unfold pv
  generalize hA : (pc (.slice a n cap) b l s).toArray = A at *
  generalize hB : (pc (.slice a2 m cap2) b2 l2 t).toArray = B at *
  go_enter Try.func27, Try.ntmps27
  go_upto_region 1 with (fail)
  generalize (w.alloc (.cells A 26)).alloc (.cells B 26) = W at *
  have G1 := B1.gets z1
  have G2 := B2.gets z2
  have c0 := G1.c0
  have d0 := G2.c0
  have B1h := Lib.hid B1
  have B2h := Lib.hid B2
  clear hA hB G1 G2 B1 B2
  go_wp2_with (first | (go_at_call 58; refine (HC.out _ f).mono ?_; rintro r w1 ⟨rfl, f1⟩; have G1 := (B1h.out.keep f1 (by simp)).gets z1; have G2 := (B2h.out.keep f1 (by simp)).gets z2; have c1 := G1.c1; have c2 := G1.c2; have d1 := G2.c1; have d2 := G2.c2; have G1h := Lib.hid G1; have G2h := Lib.hid G2; have F1 := Lib.hid (f.trans f1 (by simp)); clear f1 G1 G2) | refine wpList_load_g (by rfl) 24 _ rfl _ rfl G1h.out.sum ?_ | refine wpList_load_g (by rfl) 24 _ rfl _ rfl G2h.out.sum ?_)
  all_goals
    go_ret
    refine ⟨?_, F1.out⟩
    simp_all
end Go.Proofs.Ytjjcjocomanohaa
