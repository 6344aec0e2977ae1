/-
  Contracts of Same, Hole and the like of the program. No conditions but those that each theorem names.
-/
import Derived.Test.YtjjcjocomanohaaP3
namespace Go.Proofs.Ytjjcjocomanohaa
open Go.RowKit
set_option linter.unusedVariables false
set_option linter.unusedSimpArgs false
set_option maxRecDepth 100000

set_option maxHeartbeats 1000000 in
theorem Same_any (x y : Value) (p q : Pt) (w : World) (hp : PtV w x p) (hq : PtV w y q) (hl : p.ads.length ≤ 1000000) :
    Calls Try.prog 23 #[x, y] w fun e w' => e = .returned (.bool (same p q)) ∧ Frm [] w w' := by
  obtain ⟨a, cap, sp, rfl, s1, z1⟩ := hp
  obtain ⟨a2, cap2, sp2, rfl, s2, z2⟩ := hq
  obtain ⟨ads, b, l, s⟩ := p
  obtain ⟨bs, b2, l2, t⟩ := q
  simp only [same, Bool.and_assoc] at *
  have B1 := (PB.new w (.slice a ads.length cap) b l s).alloc (.cells (pc (.slice a2 bs.length cap2) b2 l2 t).toArray 26)
  have B2 := PB.new1 w (.cells (pc (.slice a ads.length cap) b l s).toArray 26) (.slice a2 bs.length cap2) b2 l2 t
  have f : Frm [] w ((w.alloc (.cells (pc (.slice a ads.length cap) b l s).toArray 26)).alloc (.cells (pc (.slice a2 bs.length cap2) b2 l2 t).toArray 26)) := ((Frm.refl [] w).alloc _).alloc _
  have hC := fun W (f : Frm [] w W) => Equal_any (.slice a ads.length cap) (.slice a2 bs.length cap2) ads bs sp sp2 W (s1.keep f (by simp)) (s2.keep f (by simp)) hl
  have hD := fun W => sameBlock_any (.slice a ads.length cap) (.slice a2 bs.length cap2) b l b2 l2 s t z1 z2 W
  simp only [Bool.and_assoc] at hD
  generalize (b == b2 && (l == l2 && s == t)) = u2 at *
  have HC := Lib.hid hC
  have HD := Lib.hid hD
  have HL := Lib.hid hl
  clear hC hD s1 s2 hl
  generalize ads.length = n at *
  generalize bs.length = m at *
  generalize (ads == bs) = u at *
  have hA0 : pv (.slice a n cap) b l s = .agg (pc (.slice a n cap) b l s).toArray := rfl
  have hB0 : pv (.slice a2 m cap2) b2 l2 t = .agg (pc (.slice a2 m cap2) b2 l2 t).toArray := rfl
  have HA0 := Lib.hid hA0
  have HB0 := Lib.hid hB0
  rw [hA0, hB0]
  clear hA0 hB0
  generalize hA : (pc (.slice a n cap) b l s).toArray = A at *
  generalize hB : (pc (.slice a2 m cap2) b2 l2 t).toArray = B at *
  cases u
  all_goals
    go_enter Try.func23, Try.ntmps23
    go_upto_region 1 with (fail)
    generalize (w.alloc (.cells A 26)).alloc (.cells B 26) = W at *
    have G1 := B1.gets z1
    have G2 := B2.gets z2
    have c0 := G1.c0
    have d0 := G2.c0
    have B1h := Lib.hid B1
    have B2h := Lib.hid B2
    clear hA hB G1 G2 B1 B2
    go_wp2_with (first | (go_at_call 55; refine (HC.out _ f).mono ?_; rintro r w1 ⟨rfl, f1⟩; have G1 := (B1h.out.keep f1 (by simp)).gets z1; have G2 := (B2h.out.keep f1 (by simp)).gets z2; have G1h := Lib.hid G1; have G2h := Lib.hid G2; have F1 := Lib.hid (f.trans f1 (by simp)); clear f1 G1 G2) | refine wpList_load_g (by rfl) 26 _ rfl _ rfl G1h.out.all ?_ | refine wpList_load_g (by rfl) 26 _ rfl _ rfl G2h.out.all ?_ | (go_at_call 56; refine (HD.out _).mono ?_; rintro r w2 ⟨rfl, f2⟩; have F2 := Lib.hid (F1.out.trans f2 (by simp)); clear f2))
    all_goals go_ret
    all_goals
      first | exact ⟨ret_bool (by simp), F2.out⟩ | exact ⟨ret_bool (by simp), F1.out⟩
theorem ptv_zero (w : World) : PtV w (pv (.slice none 0 0) 0 0 (List.replicate 32 0)) zeroPt := ⟨none, 0, [], rfl, SlA.nil _, rfl⟩
set_option maxHeartbeats 1000000 in
theorem Hole_any (x : Value) (p : Pt) (w : World) (hp : PtV w x p) (hl : p.ads.length ≤ 1000000) :
    Calls Try.prog 20 #[x] w fun e w' => e = .returned (.bool (hole p)) ∧ Frm [] w w' := by
  have hC := fun W (f : Frm [] w W) => Same_any x _ p zeroPt W (hp.keep0 f) (ptv_zero W) hl
  obtain ⟨a, cap, sp, rfl, s1, z1⟩ := hp
  obtain ⟨ads, b, l, s⟩ := p
  unfold hole
  have B1 := PB.new w (.slice a ads.length cap) b l s
  have f : Frm [] w (w.alloc (.cells (pc (.slice a ads.length cap) b l s).toArray 26)) := (Frm.refl [] w).alloc _
  generalize same _ zeroPt = u at *
  have HC := Lib.hid hC
  clear hC s1 hl
  simp only at *
  generalize ads.length = n at *
  have hA0 : pv (.slice a n cap) b l s = .agg (pc (.slice a n cap) b l s).toArray := rfl
  have HA0 := Lib.hid hA0
  rw [hA0]
  clear hA0
  generalize hA : (pc (.slice a n cap) b l s).toArray = A at *
  go_enter Try.func20, Try.ntmps20
  go_upto_region 1 with (fail)
  generalize w.alloc (.cells A 26) = W at *
  have G1 := Lib.hid (B1.gets z1)
  clear hA B1
  go_wp2_with (first | refine wpList_load_g (by rfl) 26 _ rfl _ rfl G1.out.all ?_ | (go_at_call 23; refine (HC.out _ f).mono ?_; rintro r w2 ⟨rfl, f2⟩))
  go_ret
  exact ⟨rfl, f.trans f2 (by simp)⟩
end Go.Proofs.Ytjjcjocomanohaa
