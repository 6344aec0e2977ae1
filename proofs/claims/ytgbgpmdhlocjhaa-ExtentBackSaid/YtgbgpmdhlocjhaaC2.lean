/-
  Contracts of the document's Of, List, Count and Lowest. No conditions but those that each theorem names.
-/
import Derived.Test.YtgbgpmdhlocjhaaC1
namespace Go.Proofs.Ytgbgpmdhlocjhaa
open Go.RowKit
set_option linter.unusedVariables false
set_option linter.unusedSimpArgs false
set_option maxRecDepth 100000

set_option maxHeartbeats 4000000 in
theorem RefOf_any (v : Value) (l : List Int) (sp : List Value) (w : World) (hS : SlI w v l sp) (hl : l.length ≤ 100000) :
    Calls Try.prog 16 #[v] w fun e w' => ∃ r c, OfP l r c ∧ ToldX w r c e w' := by
  obtain ⟨a, cap, rfl, _, _⟩ := hS.form
  have hl9 : ((l.length : Nat) : Int) ≤ 100000 := by omega
  have b0 : Bl (w.alloc (.cells (bA fun _ => false) 49)) w.heap.size (fun _ => false) := heap_alloc_new _ _
  have f0 : Frm [] w (w.alloc (.cells (bA fun _ => false) 49)) := (Frm.refl _ _).alloc _
  have HS := Lib.hid hS
  have HL := Lib.hid hl
  clear hS hl
  go_enter Try.func16, Try.ntmps16
  go_upto_region 2 with ((with_reducible (show wpList _ _ _ (Oper.mk _ (Op.alloc 49) _ _ _ _ :: _) _ _)); refine wpList_val rfl (exec_alloc49 rfl _) ?_)
  generalize w.alloc (.cells (bA fun _ => false) 49) = W at *
  obtain ⟨g, hg⟩ : ∃ g, w.heap.size = g := ⟨_, rfl⟩
  rw [hg] at b0 ⊢
  have B0 := Lib.hid b0
  have F0 := Lib.hid f0
  have HG := Lib.hid hg
  clear b0 f0 hg
  go_wp2_with fail
  go_loopw [5] (OfRel1 l g w) (fun cv _ => l.length - (intOf cv).toNat)
  case atStart => exact ⟨0, by omega, rfl, by simp, by simpa using B0.out, F0.out, by have := HG.out; omega⟩
  case round =>
    obtain ⟨k, hk, rfl, hin, hB, f, hgs⟩ := hrel
    have F := Lib.hid f
    have HGS := Lib.hid hgs
    by_cases hlt : k < l.length
    · obtain ⟨b0, off, rfl⟩ := HS.out.at (by omega)
      have c0 := cellI (HS.out.keep0 f) k hlt
      by_cases hr : 0 ≤ l[k] ∧ l[k] < 4096
      · have hts := take_step l k hlt
        generalize hx : l[k] = x at *
        have cB := hB.cell x.toNat (by omega)
        have zB := frozen_of_heap hB x.toNat
        have hst := hB.set x.toNat (by omega) true
        have e : ((x.toNat : Nat) : Int) = x := by omega
        have hst' : Bl (wr.setCell ⟨g, x.toNat, none⟩ (.bool true)) g (fun s => decide (s ∈ l.take (k + 1))) := by
          refine (congrArg (Bl _ g) ?_).mp hst
          funext s
          rw [hts, e]
          by_cases h : s = x <;> simp [h]
        have hin' : ∀ s ∈ l.take (k + 1), 0 ≤ s ∧ s < 4096 := by
          rw [hts]; intro s hs
          rcases List.mem_append.1 hs with h | h
          · exact hin s h
          · simp at h; subst h; exact hr
        obtain ⟨r0, r1⟩ := hr
        have hn0 : ¬ x < 0 := by omega
        have hn1 : ¬ 4096 ≤ x := by omega
        have ST := Lib.hid hst'
        have HIN := Lib.hid hin'
        generalize hxn : x.toNat = xn at *
        clear hx hts hst hst' hin' hin hB f hgs e
        go_wp2_with fail
        go_roundw
        case rel => exact ⟨k + 1, by omega, by go_num, HIN.out, ST.out, F.out.setCell _ _ (.inr HGS.out), HGS.out⟩
        case measure => simp [intOf]; omega
      · have HN := Lib.hid (inR_not hlt hr)
        generalize l[k] = x at *
        clear hin hB f hgs
        by_cases h0 : x < 0
        · go_wp2_with fail
          go_ret2
          exact ⟨[], 2, .inr ⟨HN.out, rfl, rfl⟩, _, [], rfl, OwnE.nil _ _ _ _, F.out, by simp [blk]⟩
        · have h1 : 4096 ≤ x := by omega
          go_wp2_with fail
          go_ret2
          exact ⟨[], 2, .inr ⟨HN.out, rfl, rfl⟩, _, [], rfl, OwnE.nil _ _ _ _, F.out, by simp [blk]⟩
    · obtain rfl : k = l.length := by omega
      rw [List.take_length] at hin hB
      have HIN := Lib.hid hin
      have HB := Lib.hid hB
      have HR := Lib.hid (runs_any (fun s => decide (s ∈ l)) wr)
      clear f hgs hin hB
      generalize hq : (fun (s : Int) => decide (s ∈ l)) = p at *
      have HQ := Lib.hid (show ∀ s, p s = true ↔ s ∈ l from fun s => by rw [← hq]; simp)
      clear hq
      go_wp2_with (first
        | ((with_reducible (show wpList _ _ _ (Oper.mk _ (Op.load 49 _) _ _ _ _ :: _) _ _)); refine wpList_load_row rfl 49 _ rfl _ rfl _ _ _ _ HB.out Try.underlying49 rfl (by rw [i49, bA_size]) ?_)
        | (go_at_call 43; refine (HR.out).mono ?_; rintro e w2 ⟨r, hr, v2, sp2, rfl, o2, f2, n2⟩))
      go_ret2
      exact ⟨r, 0, .inl ⟨HIN.out, rfl, hr.congr fun s => ⟨fun h => by simpa using h.2.2, fun h => ⟨(HIN.out s h).1, (HIN.out s h).2, by simpa using h⟩⟩⟩, _, sp2, rfl, o2, F.out.trans f2 (by simp), fun i hi => by have := n2 i hi; have := F.out.size; omega⟩
theorem World.setRow_alloc_new (W : World) (cs vs : Array Value) (T : TypeId) : (W.alloc (.cells cs T)).setRow W.heap.size vs = W.alloc (.cells vs T) := by
  unfold World.setRow World.alloc
  congr 1
  apply Array.ext_getElem?
  intro i
  rw [Array.getElem?_modify, Array.getElem?_push, Array.getElem?_push]
  by_cases h : i = W.heap.size
  · subst h; simp
  · rw [if_neg h, if_neg h, if_neg (fun e => h e.symm)]
theorem lay49 {ops : Array Oper} {rest : List Oper} {o1 o3 : Oper} {a : Act} {W : World} {Q : Exit → Act → World → Prop} (g1 : o1.guard = none) (g3 : o3.guard = none)
    (h1 : o1.op = .alloc 49) (p x : Operand) (h3 : o3.op = .store 49 p x) {q : Int → Bool}
    (e1 : (a.put o1.dst (.pointer (some ⟨W.heap.size, 0, none⟩))).eval p = .pointer (some ⟨W.heap.size, 0, none⟩))
    (e2 : (a.put o1.dst (.pointer (some ⟨W.heap.size, 0, none⟩))).eval x = .agg (bA q))
    (k : wpList Try.prog ops Q rest ((a.put o1.dst (.pointer (some ⟨W.heap.size, 0, none⟩))).put o3.dst undef) (W.alloc (.cells (bA q) 49))) :
    wpList Try.prog ops Q (o1 :: o3 :: rest) a W := by
  refine wpList_val g1 (exec_alloc49 h1 _) ?_
  refine wpList_store_row g3 49 p x h3 W.heap.size (bA q) e1 e2 49 _ (heap_alloc_new _ _) (by rw [i49, bA_size]) (by rw [bA_size, bA_size]) (bA_one q) ?_
  rw [World.setRow_alloc_new]
  exact k
def RLiRel (p : Int → Bool) (g : Nat) (w0 : World) (lv cv : Value) (wr : World) : Prop := ∃ (i : Nat) (sp : List Value), i ≤ 4096 ∧ cv = .int .i64 i ∧ OwnI wr lv (scan p i) sp ∧ Bl wr g p ∧ (∀ j ∈ blk lv, w0.heap.size ≤ j ∧ j ≠ g) ∧ Frm [] w0 wr
theorem scan_len (p : Int → Bool) (n : Nat) : (scan p n).length ≤ n := by
  have := List.length_filter_le p (run 0 n)
  rw [run_length] at this
  exact this
theorem secs_hasB {l : List Ex} (h : Good l) : scan (hasB l) 4096 = secs l := by
  rw [secs_scan h]
  unfold scan
  congr 1
  funext s
  rw [Bool.eq_iff_iff, hasB_iff]
  simp
set_option maxHeartbeats 4000000 in
theorem RefList_any (v : Value) (l : List Ex) (sp : List Value) (w : World) (hS : SlX w v l sp) (hl : l.length ≤ 1000000000) (hx : ∀ x ∈ l, -9223372036854775808 ≤ x.1 ∧ x.1 ≤ 9223372036854775807) :
    Calls Try.prog 14 #[v] w fun e w' => ∃ s c, ListP l s c ∧ ToldI w s c e w' := by
  have HC := Lib.hid (fun W (f : Frm [] w W) => RefCheck_any v l sp W (hS.keep0 f) hl hx)
  by_cases hg : Good l
  · rw [chkE_good hg] at HC
    have HM := Lib.hid (fun W (f : Frm [] w W) => marks_any v l sp W (hS.keep0 f) hg)
    have HG := Lib.hid hg
    have HSC := Lib.hid (secs_hasB hg)
    clear hS hg hx hl
    generalize hasB l = p at *
    go_enter Try.func14, Try.ntmps14
    go_upto_region 4 with (go_at_call 20; refine (HC.out _ (Frm.refl _ _)).mono ?_; rintro e w1 ⟨rfl, f1⟩)
    go_upto_region 5 with (first
      | (go_at_call 41; refine (HM.out _ f1).mono ?_; rintro e w2 ⟨rfl, f2⟩)
      | ((with_reducible (show wpList _ _ _ (Oper.mk _ (Op.alloc 49) _ _ _ _ :: _) _ _)); refine lay49 rfl rfl rfl _ _ rfl (q := p) rfl rfl ?_))
    have b0 : Bl (w2.alloc (.cells (bA p) 49)) w2.heap.size p := heap_alloc_new _ _
    have f0 : Frm [] w (w2.alloc (.cells (bA p) 49)) := (f1.trans f2 (by simp)).alloc _
    have hgs : w.heap.size ≤ w2.heap.size := (f1.trans f2 (by simp)).size
    generalize w2.alloc (.cells (bA p) 49) = W at *
    generalize w2.heap.size = g at *
    have B0 := Lib.hid b0
    have F0 := Lib.hid f0
    have HGS := Lib.hid hgs
    clear b0 f0 hgs f1 f2 HC HM
    generalize bA p = A at *
    go_wp2_with fail
    go_loopw [4, 6] (RLiRel p g w) (fun _ cv _ => 4096 - (intOf cv).toNat)
    case atStart => exact ⟨0, [], by omega, rfl, by simpa [scan, run] using OwnE.nil iE 1 3 _, B0.out, by simp [blk], F0.out⟩
    case round =>
      obtain ⟨i, sp2, hi, rfl, o, hb, nb, f⟩ := hrel
      obtain ⟨a3, c3, rfl, _, _⟩ := o.sl.form
      have hsl := scan_len p i
      have F := Lib.hid f
      have N := Lib.hid nb
      have HB := Lib.hid hb
      by_cases hlt : i < 4096
      · have hlt9 : (i : Int) < 4096 := by omega
        have cB := hb.cell i hlt
        have hss := scan_succ p i
        cases hpi : p (i : Int) with
        | false =>
          rw [hpi] at cB hss
          have O := Lib.hid (show OwnI wr (.slice a3 (scan p i).length c3) (scan p (i + 1)) sp2 by rw [hss]; exact o)
          clear hpi o hb nb f hss
          generalize (scan p i).length = m at *
          go_wp2_with fail
          go_roundw
          case rel => exact ⟨i + 1, sp2, by omega, by go_num, O.out, HB.out, N.out, F.out⟩
          case measure => simp [intOf]; omega
        | true =>
          rw [hpi] at cB hss
          have o1 := o.keep0 ((Frm.refl [] wr).alloc (.cells #[.int .i64 (i : Int)] 3))
          have s1 := sli_new (heap_alloc_new wr (.cells #[.int .i64 (i : Int)] 3))
          have f1 := f.alloc (.cells #[.int .i64 (i : Int)] 3)
          have hb1 := hb.keep0 ((Frm.refl [] wr).alloc (.cells #[.int .i64 (i : Int)] 3))
          have hgl := lt_heap hb
          have hfs := f.size
          have O1 := Lib.hid o1
          have S1 := Lib.hid s1
          have F1 := Lib.hid f1
          have HB1 := Lib.hid hb1
          have HZ := Lib.hid (show w.heap.size ≤ wr.heap.size ∧ g < wr.heap.size from ⟨hfs, hgl⟩)
          have HSS := Lib.hid (show scan p (i + 1) = scan p i ++ [(i : Int)] by rw [hss]; simp)
          generalize hm : (scan p i).length = m at *
          have HM := Lib.hid hm
          have hbn : m + 1 ≤ 1000000000 := by omega
          clear hpi o hb nb f hss o1 s1 f1 hb1 hm hgl hfs hsl
          go_wp2_with (at_builtin; refine wpList_append_n encI tysI O1.out S1.out (nn := m + 1) (by simp) hbn (by omega) rfl (.tmp 19) (.tmp 21) rfl rfl rfl ?_; intro a5 c5 w5 sp5 o5 f5 b5)
          go_roundw
          case rel => exact ⟨i + 1, sp5, by omega, by go_num, by rw [HSS.out]; exact o5, f5.heap HB1.out (fun hm => (N.out g hm).2 rfl), fun j hj => by
              rcases b5 j hj with h | h
              · exact N.out j h
              · simp only [World.size_alloc] at h; have := HZ.out; omega, F1.out.trans f5 (fun j hj => .inr (N.out j hj).1)⟩
          case measure => simp [intOf]; omega
      · obtain rfl : i = 4096 := by omega
        have O := Lib.hid o
        clear o hb nb f
        generalize hm : (scan p 4096).length = m at *
        have HM := Lib.hid hm
        clear hm
        go_wp2_with fail
        go_ret2
        exact ⟨scan p 4096, 0, .inl ⟨HG.out, rfl, HSC.out⟩, _, sp2, rfl, O.out, F.out, fun j hj => (N.out j hj).1⟩
  · rw [chkE_bad hg] at HC
    have HG := Lib.hid hg
    clear hS hg hx hl
    go_enter Try.func14, Try.ntmps14
    go_wp2_with (go_at_call 20; refine (HC.out _ (Frm.refl _ _)).mono ?_; rintro e w1 ⟨rfl, f1⟩)
    go_ret2
    exact ⟨[], 2, .inr ⟨HG.out, rfl, rfl⟩, _, [], rfl, OwnE.nil _ _ _ _, f1, by simp [blk]⟩
end Go.Proofs.Ytgbgpmdhlocjhaa
