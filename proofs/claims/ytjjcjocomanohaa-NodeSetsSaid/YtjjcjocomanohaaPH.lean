/-
  What bytes a pointer that may be has; contract of Bytes. No conditions but those that each theorem names.
-/
import Derived.Test.YtjjcjocomanohaaPG
namespace Go.Proofs.Ytjjcjocomanohaa
open Go.RowKit
set_option linter.unusedVariables false
set_option linter.unusedSimpArgs false
set_option maxRecDepth 100000

/-- The bytes of a pointer. -/
def enc (p : Pt) : List UInt8 := ptB (p.ads.map fun x => (x.1.toNat, x.2.toNat)) p.b.toNat p.l.toNat p.s
def outB (p : Pt) : List UInt8 := if mayB p = true then enc p else []
theorem hole_iff {p : Pt} : hole p = true ↔ p = zeroPt := same_iff
theorem may_nat {p : Pt} (h : may p) : ∃ L b lv, p = ptN L b lv p.s ∧ enc p = ptB L b lv p.s ∧ L.length ≤ 3 ∧ (∀ x ∈ L, x.1 < 8 ∧ x.2 < 4096) ∧ b ≤ 2147483648 ∧ lv ≤ 3 := by
  have hall : ∀ x ∈ p.ads, (0 ≤ x.1 ∧ x.1 ≤ 7) ∧ (5 ≤ x.2 ∧ x.2 ≤ 4095) := by
    intro x hx
    rcases h with h | h
    · rw [hole_iff.1 h] at hx; simp [zeroPt] at hx
    · obtain ⟨j, hj, rfl⟩ := List.getElem_of_mem hx
      have := h.2.1 j hj _ (List.getElem?_eq_getElem hj)
      exact ⟨this.1, this.2.1⟩
  have hb : 0 ≤ p.b ∧ p.b ≤ 2147483648 := by
    rcases h with h | h
    · rw [hole_iff.1 h]; simp [zeroPt]
    · exact ⟨by have := h.2.2.1; omega, h.2.2.1.2⟩
  have hl : 0 ≤ p.l ∧ p.l ≤ 3 := by
    rcases h with h | h
    · rw [hole_iff.1 h]; simp [zeroPt]
    · exact h.2.2.2
  have hn : p.ads.length ≤ 3 := by
    rcases h with h | h
    · rw [hole_iff.1 h]; simp [zeroPt]
    · exact h.1.2
  refine ⟨p.ads.map fun x => (x.1.toNat, x.2.toNat), p.b.toNat, p.l.toNat, ?_, rfl, by simpa using hn, ?_, by omega, by omega⟩
  · refine Pt.ext' ?_ (by simp [ptN]; omega) (by simp [ptN]; omega) rfl
    simp only [ptN, List.map_map]
    conv => lhs; rw [← List.map_id p.ads]
    refine List.map_congr_left fun x hx => ?_
    obtain ⟨⟨h1, _⟩, h2, _⟩ := hall x hx
    exact ad_ext (by simp [adI]; omega) (by simp [adI]; omega)
  · intro x hx
    obtain ⟨y, hy, rfl⟩ := List.mem_map.1 hx
    obtain ⟨⟨h1, h2⟩, h3, h4⟩ := hall y hy
    exact ⟨by simp; omega, by simp; omega⟩
def BytesP (p : Pt) (w : World) (e : Ending) (w' : World) : Prop := ∃ a cap sp, e = .returned (.tuple #[.slice a (outB p).length cap, .int .i64 (chk p)]) ∧ OwnB 5 w' (.slice a (outB p).length cap) (outB p) sp ∧ Frm [] w w' ∧ ∀ i ∈ blk (.slice a (outB p).length cap), w.heap.size ≤ i
theorem bytesP_no {p : Pt} {w w' : World} (h : ¬ may p) (f : Frm [] w w') : BytesP p w (.returned (.tuple #[.slice none 0 0, .int .i64 2])) w' := by
  have h1 := (mayB_not p).2 h
  exact ⟨none, 0, [], by simp [outB, chk, h1], by simpa [outB, h1] using OwnB.nil 5 w', f, by simp [blk]⟩
theorem bytesP_yes {p : Pt} {w w' : World} {a : Option Addr} {cap : Nat} {l sp : List UInt8} (h : may p) (hl : enc p = l) (ho : OwnB 5 w' (.slice a l.length cap) l sp) (f : Frm [] w w') (hn : ∀ i ∈ blk (.slice a l.length cap), w.heap.size ≤ i) :
    BytesP p w (.returned (.tuple #[.slice a l.length cap, .int .i64 0])) w' := by
  have h1 := (mayB_iff p).2 h
  subst hl
  exact ⟨a, cap, sp, by simp [outB, chk, h1], by simpa [outB, h1] using ho, f, by simpa [outB, h1] using hn⟩
set_option maxHeartbeats 4000000 in
theorem Bytes_any (x : Value) (p : Pt) (w : World) (hp : PtV w x p) (hl : p.ads.length ≤ 1000000) : Calls Try.prog 15 #[x] w (BytesP p w) := by
  have hC := fun W (f : Frm [] w W) => Check_any x p W (hp.keep0 f) hl
  have hD := fun (hm : may p) W (f : Frm [] w W) => show Calls Try.prog 50 #[x] W (Told W (enc p)) from by
    obtain ⟨L, b, lv, e1, e2, h3, hb, hb4, hlv⟩ := may_nat hm
    rw [e2]
    refine fieldsOf_any x L b lv p.s W ?_ h3 (fun y hy => by have := hb y hy; omega) (by omega) (by omega)
    rw [← e1]
    exact hp.keep0 f
  obtain ⟨a, cap, sp, rfl, hS, hs⟩ := hp
  have B1 := PB.new w (.slice a p.ads.length cap) p.b p.l p.s
  have f : Frm [] w (w.alloc (.cells (pc (.slice a p.ads.length cap) p.b p.l p.s).toArray 26)) := (Frm.refl [] w).alloc _
  have hA0 : pv (.slice a p.ads.length cap) p.b p.l p.s = .agg (pc (.slice a p.ads.length cap) p.b p.l p.s).toArray := rfl
  have HA0 := Lib.hid hA0
  have HC := Lib.hid hC
  have HD := Lib.hid hD
  have hc1 : may p → chk p = 0 := fun h => by simp [chk, (mayB_iff p).2 h]
  have hc2 : ¬ may p → chk p = 2 := fun h => by simp [chk, (mayB_not p).2 h]
  rw [hA0]
  clear hA0 hC hD hS hl
  generalize hA : (pc (.slice a p.ads.length cap) p.b p.l p.s).toArray = A at *
  generalize p.ads.length = n at *
  by_cases hm : may p
  · rw [hc1 hm] at HC
    have HM := Lib.hid hm
    clear hc1 hc2 hm
    generalize hen : enc p = l at *
    have HEN := Lib.hid hen
    clear hen
    go_enter Try.func15, Try.ntmps15
    go_upto_region 1 with (fail)
    generalize w.alloc (.cells A 26) = W at *
    have B1h := Lib.hid B1
    have G0 := Lib.hid (B1.gets hs)
    clear hA B1
    go_wp2_with (first | ((with_reducible (show wpList _ _ _ (Oper.mk _ (Op.load 26 _) _ _ _ _ :: _) _ _)); first | refine wpList_load_g (by rfl) 26 _ rfl _ rfl G1.out.all ?_ | refine wpList_load_g (by rfl) 26 _ rfl _ rfl G0.out.all ?_) | (go_at_call 18; refine (HC.out _ f).mono ?_; rintro r w2 ⟨rfl, f2⟩; have F2 := Lib.hid (f.trans f2 (by simp)); have G1 := Lib.hid ((B1h.out.keep f2 (by simp)).gets hs)) | (go_at_call 50; refine (HD.out HM.out _ F2.out).mono ?_; rintro r w3 ⟨a3, cap3, sp3, rfl, o3, f3, n3⟩))
    go_ret2
    exact bytesP_yes HM.out HEN.out o3 (F2.out.trans f3 (by simp)) (fun i hi => Nat.le_trans F2.out.size (n3 i hi))
  · rw [hc2 hm] at HC
    have HM := Lib.hid hm
    clear hc1 hc2 hm HD
    go_enter Try.func15, Try.ntmps15
    go_upto_region 1 with (fail)
    generalize w.alloc (.cells A 26) = W at *
    have G0 := Lib.hid (B1.gets hs)
    clear hA B1
    go_wp2_with (first | ((with_reducible (show wpList _ _ _ (Oper.mk _ (Op.load 26 _) _ _ _ _ :: _) _ _)); refine wpList_load_g (by rfl) 26 _ rfl _ rfl G0.out.all ?_) | (go_at_call 18; refine (HC.out _ f).mono ?_; rintro r w2 ⟨rfl, f2⟩))
    go_ret2
    exact bytesP_no HM.out (f.trans f2 (by simp))
end Go.Proofs.Ytjjcjocomanohaa
