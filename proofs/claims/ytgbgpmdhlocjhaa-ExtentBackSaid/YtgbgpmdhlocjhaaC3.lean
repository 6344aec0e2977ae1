/-
  Contracts of the document's Count, Lowest, Add, Cut, Both and Within. No conditions but those that each theorem names.
-/
import Derived.Test.YtgbgpmdhlocjhaaC2
namespace Go.Proofs.Ytgbgpmdhlocjhaa
open Go.RowKit
set_option linter.unusedVariables false
set_option linter.unusedSimpArgs false
set_option maxRecDepth 100000

theorem RefCount_any (v : Value) (l : List Ex) (sp : List Value) (w : World) (hS : SlX w v l sp) (hl : l.length ≤ 1000000000) (hx : ∀ x ∈ l, -9223372036854775808 ≤ x.1 ∧ x.1 ≤ 9223372036854775807) :
    Calls Try.prog 22 #[v] w fun e w' => e = .returned (.int .i64 (numE l)) ∧ Frm [] w w' := by
  have HL := Lib.hid (fun W (f : Frm [] w W) => RefList_any v l sp W (hS.keep0 f) hl hx)
  clear hS hx hl
  go_enter Try.func22, Try.ntmps22
  go_wp2_with (go_at_call 14; refine (HL.out _ (Frm.refl _ _)).mono ?_; rintro e w1 ⟨s, c, hs, v1, sp1, rfl, o1, f1, n1⟩; obtain ⟨a1, c1, rfl, _, _⟩ := o1.sl.form)
  go_ret
  refine ⟨?_, f1⟩
  congr 2
  unfold numE
  rcases hs with ⟨h, _, rfl⟩ | ⟨h, _, rfl⟩
  · rw [if_pos h, cntE_secs h]; rfl
  · rw [if_neg h]; rfl
/-- The first ones of a row. -/
theorem OwnI.cut {w : World} {a : Option Addr} {n cap : Nat} {l : List Int} {sp : List Value} (h : OwnI w (.slice a n cap) l sp) (k : Nat) (hk : k ≤ l.length) : SlI w (.slice a k cap) (l.take k) (flt iE (l.drop k) ++ sp) := by
  have hlen : (l.take k).length = k := by simp; omega
  obtain ⟨h1, ⟨h2, h3, h4⟩ | ⟨g, cap', h2, h3, h4, h5, h6⟩⟩ := h
  · cases h2
    obtain rfl : l = [] := List.eq_nil_of_length_eq_zero h3
    obtain rfl : k = 0 := by simpa using hk
    subst h4
    exact SlE.nil _ _ _
  · cases h2
    refine OwnE.sl (T := 3) (OwnE.of_heap encI ?_ hlen.symm (by omega) ?_ h4)
    · rw [h6, ← List.append_assoc, ← flt_append, List.take_append_drop]
    · rw [List.length_append, flt_length encI] at h5
      rw [hlen, List.length_append, flt_length encI, List.length_drop]; omega
set_option maxHeartbeats 2000000 in
theorem RefLowest_any (v : Value) (l : List Ex) (n : Int) (sp : List Value) (w : World) (hS : SlX w v l sp) (hl : l.length ≤ 1000000000) (hx : ∀ x ∈ l, -9223372036854775808 ≤ x.1 ∧ x.1 ≤ 9223372036854775807) (hn : -9223372036854775808 ≤ n ∧ n ≤ 9223372036854775807) :
    Calls Try.prog 34 #[v, .int .i64 n] w fun e w' => ∃ r c, LowP l n r c ∧ ToldX w r c e w' := by
  have HL := Lib.hid (fun W (f : Frm [] w W) => RefList_any v l sp W (hS.keep0 f) hl hx)
  clear hS hx hl
  go_enter Try.func34, Try.ntmps34
  go_upto_region 2 with (go_at_call 14; refine (HL.out _ (Frm.refl _ _)).mono ?_; rintro e w1 ⟨s, c, hs, v1, sp1, rfl, o1, f1, n1⟩; obtain ⟨a1, c1, rfl, _, _⟩ := o1.sl.form)
  have O1 := Lib.hid o1
  have F1 := Lib.hid f1
  have N1 := Lib.hid n1
  clear o1 f1 n1 HL
  rcases hs with ⟨hg, rfl, rfl⟩ | ⟨hg, rfl, rfl⟩
  · have hce := cntE_le hg
    have hcs := cntE_secs hg
    have hb := fun s (h : s ∈ secs l) => hg.bounds (mem_secs.1 h)
    have HG := Lib.hid hg
    have HB := Lib.hid hb
    have HCS := Lib.hid hcs
    by_cases h0 : n < 0
    · have H0 := Lib.hid h0
      clear hcs hce hg hb
      go_wp2_with fail
      go_ret2
      exact ⟨[], 2, .inr (.inr ⟨.inr H0.out, rfl, rfl⟩), _, [], rfl, OwnE.nil _ _ _ _, F1.out, by simp [blk]⟩
    · by_cases h1 : ((secs l).length : Int) < n
      · have H0 := Lib.hid h0
        have H1 := Lib.hid h1
        clear hcs hce hg hb
        generalize (secs l).length = m at *
        go_wp2_with fail
        go_ret2
        exact ⟨[], 8, .inr (.inl ⟨HG.out, by have := H0.out; omega, by rw [HCS.out]; exact H1.out, rfl, rfl⟩), _, [], rfl, OwnE.nil _ _ _ _, F1.out, by simp [blk]⟩
      · obtain ⟨N, hN⟩ : ∃ N : Nat, n = (N : Int) := ⟨n.toNat, by omega⟩
        subst hN
        have hcut := O1.out.cut N (by omega)
        have hlN : ((secs l).take N).length ≤ 100000 := by simp; omega
        have HRO := Lib.hid (RefOf_any _ _ _ w1 hcut hlN)
        have hc1 : N ≤ c1 := by have := O1.out.sl.form; obtain ⟨_, _, h, h2, _⟩ := this; cases h; omega
        have hc2 : (N : Int) ≤ (c1 : Int) := by omega
        have HCE := Lib.hid hce
        have H1 := Lib.hid h1
        have hle : ¬ (((secs l).length : Nat) : Int) < (N : Int) := h1
        clear hcs hce hg hb hcut hlN h1
        generalize hm : (secs l).length = m at *
        have HM := Lib.hid hm
        clear hm
        go_wp2_with (go_at_call 16; refine (HRO.out).mono ?_; rintro e w2 ⟨r, c, ho, v2, sp2, rfl, o2, f2, n2⟩)
        go_ret2
        have hin : inR ((secs l).take N) := fun s hs => HB.out s (List.mem_of_mem_take hs)
        rcases ho with ⟨_, rfl, hr⟩ | ⟨h, _⟩
        · exact ⟨r, 0, .inl ⟨HG.out, by omega, by rw [HCS.out]; have := H1.out; have := HM.out; omega, rfl, hr⟩, _, sp2, rfl, o2, F1.out.trans f2 (by simp), fun i hi => by have := n2 i hi; have := F1.out.size; omega⟩
        · exact absurd hin h
  · have HG := Lib.hid hg
    clear hg
    go_wp2_with fail
    go_ret2
    exact ⟨[], 2, .inr (.inr ⟨.inl HG.out, rfl, rfl⟩), _, [], rfl, OwnE.nil _ _ _ _, F1.out, by simp [blk]⟩
/-- What is made of two lists. -/
def MkP (f : Bool → Bool → Bool) (l m : List Ex) (r : List Ex) (c : Int) : Prop := (Good l ∧ Good m ∧ c = 0 ∧ IsL r fun s => 0 ≤ s ∧ s < 4096 ∧ f (hasB l s) (hasB m s) = true) ∨ (¬ (Good l ∧ Good m) ∧ c = 2 ∧ r = [])
theorem MkP.eq {f : Bool → Bool → Bool} {l m : List Ex} {r r' : List Ex} {c c' : Int} (h : MkP f l m r c) (h' : MkP f l m r' c') : r = r' ∧ c = c' := by
  rcases h with ⟨a, b, d, h⟩ | ⟨a, b, h⟩ <;> rcases h' with ⟨a', b', d', h'⟩ | ⟨a', b', h'⟩
  · exact ⟨h.eq h' fun _ => Iff.rfl, by rw [d, d']⟩
  · exact absurd ⟨a, b⟩ a'
  · exact absurd ⟨a', b'⟩ a
  · exact ⟨by rw [h, h'], by rw [b, b']⟩
def fOf (how : Int) : Bool → Bool → Bool := if how = 0 then (· || ·) else if how = 1 then (fun a b => a && !b) else (· && ·)
def Mk2Rel (f : Bool → Bool → Bool) (p q : Int → Bool) (g1 g2 : Nat) (w0 : World) (cv : Value) (wr : World) : Prop := ∃ (i : Nat) (t : Int → Bool), i ≤ 4096 ∧ cv = .int .i64 i ∧ Bl wr g1 t ∧ (∀ s, t s = if 0 ≤ s ∧ s < (i : Int) then f (p s) (q s) else p s) ∧ Bl wr g2 q ∧ Frm [] w0 wr
set_option maxHeartbeats 8000000 in
theorem make2_any (v x : Value) (l m : List Ex) (how : Int) (hh : how = 0 ∨ how = 1 ∨ how = 2) (sp msp : List Value) (w : World) (hS : SlX w v l sp) (hl : l.length ≤ 1000000000) (hx : ∀ x ∈ l, -9223372036854775808 ≤ x.1 ∧ x.1 ≤ 9223372036854775807)
    (hM : SlX w x m msp) (hm : m.length ≤ 1000000000) (hxm : ∀ x ∈ m, -9223372036854775808 ≤ x.1 ∧ x.1 ≤ 9223372036854775807) :
    Calls Try.prog 47 #[v, x, .int .i64 how] w fun e w' => ∃ r c, MkP (fOf how) l m r c ∧ ToldX w r c e w' := by
  have HC := Lib.hid (fun W (f : Frm [] w W) => RefCheck_any v l sp W (hS.keep0 f) hl hx)
  have HD := Lib.hid (fun W (f : Frm [] w W) => RefCheck_any x m msp W (hM.keep0 f) hm hxm)
  have HH := Lib.hid hh
  clear hh
  by_cases hg : Good l
  · rw [chkE_good hg] at HC
    by_cases hgm : Good m
    · rw [chkE_good hgm] at HD
      have HA := Lib.hid (fun W (f : Frm [] w W) => marks_any v l sp W (hS.keep0 f) hg)
      have HB := Lib.hid (fun W (f : Frm [] w W) => marks_any x m msp W (hM.keep0 f) hgm)
      have HG := Lib.hid (And.intro hg hgm)
      clear hS hg hx hl hM hgm hxm hm
      generalize hp : hasB l = p at *
      generalize hq : hasB m = q at *
      have HP := Lib.hid (And.intro hp hq)
      clear hp hq
      go_enter Try.func47, Try.ntmps47
      go_upto_region 3 with (first
        | (go_at_call 20; first
            | (with_reducible refine (HC.out _ (Frm.refl _ _)).mono ?_; rintro e w1 ⟨rfl, f1⟩)
            | (with_reducible refine (HD.out _ f1).mono ?_; rintro e w2 ⟨rfl, f2⟩)))
      have f12 := f1.trans f2 (by simp)
      clear f1 f2 HC HD
      go_upto_region 4 with (first
        | (go_at_call 41; first
            | (with_reducible refine (HA.out _ f12).mono ?_; rintro e w3 ⟨rfl, f3⟩; have f13 := f12.trans f3 (by simp); clear f12 f3)
            | (with_reducible refine (HB.out _ f13).mono ?_; rintro e w4 ⟨rfl, f4⟩; have f14 := f13.trans f4 (by simp); clear f13 f4))
        | ((with_reducible (show wpList _ _ _ (Oper.mk (some 8) (Op.alloc 49) _ _ _ _ :: _) _ _)); refine wpList_val rfl (exec_alloc49 rfl _) ?_;
            have b8 : Bl (w4.alloc (.cells (bA fun _ => false) 49)) w4.heap.size (fun _ => false) := heap_alloc_new _ _;
            have f15 := f14.alloc (.cells (bA fun _ => false) 49); have hz8 : w4.heap.size < (w4.alloc (.cells (bA fun _ => false) 49)).heap.size := by simp)
        | ((with_reducible (show wpList _ _ _ (Oper.mk (some 9) (Op.alloc 49) _ _ _ _ :: _) _ _)); generalize w4.alloc (.cells (bA fun _ => false) 49) = W5 at *; refine wpList_val rfl (exec_alloc49 rfl _) ?_;
            have b9 : Bl (W5.alloc (.cells (bA fun _ => false) 49)) W5.heap.size (fun _ => false) := heap_alloc_new _ _;
            have c8 := b8.keep0 ((Frm.refl [] W5).alloc (.cells (bA fun _ => false) 49));
            have f16 := f15.alloc (.cells (bA fun _ => false) 49); generalize W5.alloc (.cells (bA fun _ => false) 49) = W6 at *)
        | ((with_reducible (show wpList _ _ _ (Oper.mk _ (Op.store 49 (Operand.tmp 8) _) _ _ _ _ :: _) _ _)); refine Bl.store c8 rfl _ _ rfl rfl rfl ?_; intro w7 b7 f7)
        | ((with_reducible (show wpList _ _ _ (Oper.mk _ (Op.store 49 (Operand.tmp 9) _) _ _ _ _ :: _) _ _)); refine Bl.store (f7.heap b9 (by simp; omega)) rfl _ _ rfl rfl rfl ?_; intro w8 b10 f8))
      have hgs : w.heap.size ≤ w4.heap.size := f14.size
      generalize w4.heap.size = g1 at *
      generalize W5.heap.size = g2 at *
      have b11 := f8.heap b7 (by simp; omega)
      have F := Lib.hid ((f16.trans f7 (fun i hi => by simp at hi; omega)).trans f8 (fun i hi => by simp at hi; omega))
      have B1 := Lib.hid (show Bl w8 g1 p from b11)
      have B2 := Lib.hid b10
      have Z := Lib.hid (show w.heap.size ≤ g1 ∧ g1 < g2 from ⟨hgs, hz8⟩)
      clear f14 f15 f16 f7 f8 b7 b8 b9 b10 b11 c8 hgs hz8 HA HB
      go_wp2_with fail
      go_loopw [10] (Mk2Rel (fOf how) p q g1 g2 w) (fun cv _ => 4096 - (intOf cv).toNat)
      case atStart => exact ⟨0, p, by omega, rfl, B1.out, fun s => by rw [if_neg (by omega)], B2.out, F.out⟩
      case round =>
        obtain ⟨i, t, hi, rfl, hb1, ht, hb2, f⟩ := hrel
        have F1 := Lib.hid f
        by_cases hlt : i < 4096
        · have hlt9 : (i : Int) < 4096 := by omega
          have c1 := hb1.cell i hlt
          have c2 := hb2.cell i hlt
          have z1 := frozen_of_heap hb1 i
          have hti : t (i : Int) = p (i : Int) := by rw [ht]; simp
          rw [hti] at c1
          have hst : ∀ b, b = fOf how (p (i : Int)) (q (i : Int)) → Mk2Rel (fOf how) p q g1 g2 w (.int .i64 ((i : Int) + 1)) (wr.setCell ⟨g1, i, none⟩ (.bool b)) := fun b hb => by
            refine ⟨i + 1, _, by omega, by go_num, hb1.set i hlt b, fun s => ?_, (heap_setCell_ne _ (by have := Z.out; show g2 ≠ g1; omega)).trans hb2, f.setCell _ _ (.inr (by have := Z.out; show w.heap.size ≤ g1; omega))⟩
            by_cases hs : s = (i : Int)
            · subst hs; rw [if_pos rfl, if_pos (by omega), hb]
            · rw [if_neg hs, ht s]
              by_cases h : 0 ≤ s ∧ s < (i : Int)
              · rw [if_pos h, if_pos (by omega)]
              · rw [if_neg h, if_neg (by omega)]
          have ST := Lib.hid hst
          clear hst hb1 ht hb2 f hti
          rcases HH.out with rfl | rfl | rfl
          all_goals
            cases hpi : p (i : Int) <;> cases hqi : q (i : Int) <;> rw [hpi] at c1 ST <;> rw [hqi] at c2 ST <;>
              (clear hpi hqi HH
               go_wp2_with fail
               exact ⟨ST.out _ (by rfl), by simp [intOf]; omega⟩)
        · obtain rfl : i = 4096 := by omega
          have hb1' : Bl wr g1 (fun s => if 0 ≤ s ∧ s < 4096 then fOf how (p s) (q s) else p s) := by
            have e : t = fun s => if 0 ≤ s ∧ s < ((4096 : Nat) : Int) then fOf how (p s) (q s) else p s := funext ht
            rw [e] at hb1; exact hb1
          have HB1 := Lib.hid hb1'
          clear hb1 ht hb2 f hb1'
          have HR := Lib.hid (runs_any (fun s => if 0 ≤ s ∧ s < 4096 then fOf how (p s) (q s) else p s) wr)
          go_wp2_with (first
            | ((with_reducible (show wpList _ _ _ (Oper.mk _ (Op.load 49 _) _ _ _ _ :: _) _ _)); refine wpList_load_row rfl 49 _ rfl _ rfl _ _ _ _ HB1.out Try.underlying49 rfl (by rw [i49, bA_size]) ?_)
            | (go_at_call 43; refine (HR.out).mono ?_; rintro e w9 ⟨r, hr, v9, sp9, rfl, o9, f9, n9⟩))
          go_ret2
          exact ⟨r, 0, .inl ⟨HG.out.1, HG.out.2, rfl, hr.congr fun s => by
            rw [HP.out.1, HP.out.2]
            constructor
            · rintro ⟨h1, h2, h3⟩; rw [if_pos ⟨h1, h2⟩] at h3; exact ⟨h1, h2, h3⟩
            · rintro ⟨h1, h2, h3⟩; rw [if_pos ⟨h1, h2⟩]; exact ⟨h1, h2, h3⟩⟩, _, sp9, rfl, o9, F1.out.trans f9 (by simp), fun j hj => by have := n9 j hj; have := F1.out.size; omega⟩
    · rw [chkE_bad hgm] at HD
      have HG := Lib.hid hgm
      clear hS hg hx hl hM hgm hxm hm
      go_enter Try.func47, Try.ntmps47
      go_wp2_with (first
        | (go_at_call 20; first
            | (with_reducible refine (HC.out _ (Frm.refl _ _)).mono ?_; rintro e w1 ⟨rfl, f1⟩)
            | (with_reducible refine (HD.out _ f1).mono ?_; rintro e w2 ⟨rfl, f2⟩)))
      go_ret2
      exact ⟨[], 2, .inr ⟨fun h => HG.out h.2, rfl, rfl⟩, _, [], rfl, OwnE.nil _ _ _ _, f1.trans f2 (by simp), by simp [blk]⟩
  · rw [chkE_bad hg] at HC
    have HG := Lib.hid hg
    clear hS hg hx hl hM hxm hm
    go_enter Try.func47, Try.ntmps47
    go_wp2_with (go_at_call 20; with_reducible refine (HC.out _ (Frm.refl _ _)).mono ?_; rintro e w1 ⟨rfl, f1⟩)
    go_ret2
    exact ⟨[], 2, .inr ⟨fun h => HG.out h.1, rfl, rfl⟩, _, [], rfl, OwnE.nil _ _ _ _, f1, by simp [blk]⟩
section
variable (v x : Value) (l m : List Ex) (sp msp : List Value) (w : World) (hS : SlX w v l sp) (hl : l.length ≤ 1000000000) (hx : ∀ x ∈ l, -9223372036854775808 ≤ x.1 ∧ x.1 ≤ 9223372036854775807)
    (hM : SlX w x m msp) (hm : m.length ≤ 1000000000) (hxm : ∀ x ∈ m, -9223372036854775808 ≤ x.1 ∧ x.1 ≤ 9223372036854775807)
include hS hl hx hM hm hxm
theorem RefAdd_any : Calls Try.prog 26 #[v, x] w fun e w' => ∃ r c, MkP (fOf 0) l m r c ∧ ToldX w r c e w' := by
  have H := Lib.hid (make2_any v x l m 0 (.inl rfl) sp msp w hS hl hx hM hm hxm)
  clear hS hl hx hM hm hxm
  go_enter Try.func26, Try.ntmps26
  go_wp2_with (go_at_call 47; refine (H.out).mono ?_; rintro e w1 ⟨r, c, hr, v1, sp1, rfl, o1, f1, n1⟩)
  go_ret2
  exact ⟨r, c, hr, _, sp1, rfl, o1, f1, n1⟩
theorem RefCut_any : Calls Try.prog 28 #[v, x] w fun e w' => ∃ r c, MkP (fOf 1) l m r c ∧ ToldX w r c e w' := by
  have H := Lib.hid (make2_any v x l m 1 (.inr (.inl rfl)) sp msp w hS hl hx hM hm hxm)
  clear hS hl hx hM hm hxm
  go_enter Try.func28, Try.ntmps28
  go_wp2_with (go_at_call 47; refine (H.out).mono ?_; rintro e w1 ⟨r, c, hr, v1, sp1, rfl, o1, f1, n1⟩)
  go_ret2
  exact ⟨r, c, hr, _, sp1, rfl, o1, f1, n1⟩
theorem RefBoth_any : Calls Try.prog 30 #[v, x] w fun e w' => ∃ r c, MkP (fOf 2) l m r c ∧ ToldX w r c e w' := by
  have H := Lib.hid (make2_any v x l m 2 (.inr (.inr rfl)) sp msp w hS hl hx hM hm hxm)
  clear hS hl hx hM hm hxm
  go_enter Try.func30, Try.ntmps30
  go_wp2_with (go_at_call 47; refine (H.out).mono ?_; rintro e w1 ⟨r, c, hr, v1, sp1, rfl, o1, f1, n1⟩)
  go_ret2
  exact ⟨r, c, hr, _, sp1, rfl, o1, f1, n1⟩
end
/-- What Within tells, of what Cut tells. -/
def wiB (r : List Ex) (c : Int) : Bool := decide (c = 0 ∧ r = [])
theorem MkP.code {f : Bool → Bool → Bool} {l m : List Ex} {r : List Ex} {c : Int} (h : MkP f l m r c) : (c = 0 ∧ Good r) ∨ (c = 2 ∧ r = []) := by
  rcases h with ⟨_, _, d, h⟩ | ⟨_, b, h⟩
  · exact .inl ⟨d, h.1⟩
  · exact .inr ⟨b, h⟩
theorem RefWithin_any (v x : Value) (l m : List Ex) (sp msp : List Value) (w : World) (hS : SlX w v l sp) (hl : l.length ≤ 1000000000) (hx : ∀ x ∈ l, -9223372036854775808 ≤ x.1 ∧ x.1 ≤ 9223372036854775807)
    (hM : SlX w x m msp) (hm : m.length ≤ 1000000000) (hxm : ∀ x ∈ m, -9223372036854775808 ≤ x.1 ∧ x.1 ≤ 9223372036854775807) :
    Calls Try.prog 32 #[v, x] w fun e w' => ∃ r c, MkP (fOf 1) l m r c ∧ e = .returned (.bool (wiB r c)) ∧ Frm [] w w' := by
  have H := Lib.hid (RefCut_any v x l m sp msp w hS hl hx hM hm hxm)
  clear hS hl hx hM hm hxm
  go_enter Try.func32, Try.ntmps32
  go_upto_region 2 with (go_at_call 28; refine (H.out).mono ?_; rintro e w1 ⟨r, c, hr, v1, sp1, rfl, o1, f1, n1⟩; obtain ⟨a1, c1, rfl, _, _⟩ := o1.sl.form)
  clear o1 n1 H
  have hrc := hr.code
  have HR := Lib.hid hr
  have F1 := Lib.hid f1
  clear hr f1
  rcases hrc with ⟨rfl, hg⟩ | ⟨rfl, rfl⟩
  · have hrl := hg.len
    cases r with
    | nil =>
      clear hrl hg
      go_wp2_with fail
      go_ret
      exact ⟨_, _, HR.out, rfl, F1.out⟩
    | cons y r' =>
      have hb : ((((y :: r').length : Nat) : Int) == 0) = false := by simp; omega
      have HW := Lib.hid (show wiB (y :: r') 0 = false by simp [wiB])
      generalize (y :: r').length = k at *
      clear hrl hg
      go_wp2_with fail
      go_ret
      exact ⟨_, _, HR.out, by rw [HW.out]; rfl, F1.out⟩
  · go_wp2_with fail
    go_ret
    exact ⟨_, _, HR.out, rfl, F1.out⟩
end Go.Proofs.Ytgbgpmdhlocjhaa
