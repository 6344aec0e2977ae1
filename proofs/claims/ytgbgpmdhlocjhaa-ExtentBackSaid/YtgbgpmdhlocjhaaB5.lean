/-
  Contract of List: the sectors of a list. No conditions but those that each theorem names.
-/
import Derived.Test.YtgbgpmdhlocjhaaB4
namespace Go.Proofs.Ytgbgpmdhlocjhaa
open Go.RowKit
set_option linter.unusedVariables false
set_option linter.unusedSimpArgs false
set_option maxRecDepth 100000

def ListP (l : List Ex) (s : List Int) (c : Int) : Prop := (Good l ∧ c = 0 ∧ s = secs l) ∨ (¬ Good l ∧ c = 2 ∧ s = [])
theorem ListP.eq {l : List Ex} {s s' : List Int} {c c' : Int} (h : ListP l s c) (h' : ListP l s' c') : s = s' ∧ c = c' := by
  rcases h with ⟨a, b, h⟩ | ⟨a, b, h⟩ <;> rcases h' with ⟨a', b', h'⟩ | ⟨a', b', h'⟩
  · exact ⟨by rw [h, h'], by rw [b, b']⟩
  · exact absurd a a'
  · exact absurd a' a
  · exact ⟨by rw [h, h'], by rw [b, b']⟩
theorem sli_new {W : World} {g : Nat} {x : Int} (h : W.heap[g]? = some (.cells #[.int .i64 x] 3 (0, 0))) : SlI W (.slice (some ⟨g, 0, none⟩) 1 1) [x] [] := SlE.of_block encI h rfl (by omega)
theorem secs_take (l : List Ex) (k : Nat) (hk : k < l.length) : secs (l.take (k + 1)) = secs (l.take k) ++ run l[k].1 l[k].2.toNat := by
  rw [List.take_succ_eq_append_getElem hk, secs_append]; simp [secs]
def LiRel (l : List Ex) (w0 : World) (lv cv : Value) (wr : World) : Prop := ∃ (k : Nat) (sp : List Value), k ≤ l.length ∧ cv = .int .i64 k ∧ OwnI wr lv (secs (l.take k)) sp ∧ (∀ i ∈ blk lv, w0.heap.size ≤ i) ∧ Frm [] w0 wr
def LiRel2 (h : List Int) (x : Ex) (g : Nat) (w0 : World) (lv sv : Value) (wr : World) : Prop := ∃ (j : Nat) (sp : List Value), (j : Int) ≤ x.2 ∧ sv = .int .i64 (x.1 + j) ∧ OwnI wr lv (h ++ run x.1 j) sp ∧ (∀ i ∈ blk lv, w0.heap.size ≤ i ∧ i ≠ g) ∧ Frm [] w0 wr ∧ wr.heap[g]? = some (.cells #[.int .i64 x.1, .int .i64 x.2] 47 (0, 0))
set_option maxHeartbeats 4000000 in
theorem List_any (v : Value) (l : List Ex) (sp : List Value) (w : World) (hS : SlX w v l sp) (hl : l.length ≤ 1000000000) (hx : ∀ x ∈ l, -9223372036854775808 ≤ x.1 ∧ x.1 ≤ 9223372036854775807) :
    Calls Try.prog 13 #[v] w fun e w' => ∃ s c, ListP l s c ∧ ToldI w s c e w' := by
  have HC := Lib.hid (fun W (f : Frm [] w W) => Check_any v l sp W (hS.keep0 f) hl hx)
  obtain ⟨a, cap, rfl, _, _⟩ := hS.form
  by_cases hg : Good l
  · rw [chkE_good hg] at HC
    have hl9 : ((l.length : Nat) : Int) ≤ 5000 := by have := hg.len; omega
    have HS := Lib.hid hS
    have HG := Lib.hid hg
    clear hS hg hx hl
    go_enter Try.func13, Try.ntmps13
    go_wp2_with (go_at_call 19; refine (HC.out _ (Frm.refl _ _)).mono ?_; rintro e w1 ⟨rfl, f1⟩)
    have F1 := Lib.hid f1
    clear f1
    go_loopw [5, 16] (LiRel l w) (fun _ cv _ => l.length - (intOf cv).toNat)
    case atStart => exact ⟨0, [], by omega, rfl, by simpa [secs] using OwnE.nil iE 1 3 _, by simp [blk], F1.out⟩
    case round =>
      obtain ⟨k, sp2, hk, rfl, o, nb, f⟩ := hrel
      obtain ⟨a3, c3, rfl, _, _⟩ := o.sl.form
      by_cases hlt : k < l.length
      · obtain ⟨b0, off, rfl⟩ := HS.out.at (by omega)
        obtain ⟨c0, c1⟩ := cellsX (HS.out.keep0 f) k hlt
        have hts := secs_take l k hlt
        have hxg := HG.out.1 l[k] (List.getElem_mem _)
        have hlen := secs_len_le (HG.out.take (k + 1))
        rw [hts] at hlen
        have f2 := f.alloc (.cells #[.int .i64 l[k].1, .int .i64 l[k].2] 47)
        have hb2 := heap_alloc_new wr (.cells #[.int .i64 l[k].1, .int .i64 l[k].2] 47)
        have o2 := o.keep0 ((Frm.refl [] wr).alloc (.cells #[.int .i64 l[k].1, .int .i64 l[k].2] 47))
        have nb2 : ∀ i ∈ blk (.slice a3 (secs (l.take k)).length c3), w.heap.size ≤ i ∧ i ≠ wr.heap.size := fun i hi => ⟨nb i hi, by have := o.lt i hi; omega⟩
        have hsz : w.heap.size ≤ wr.heap.size := f.size
        clear o nb f
        generalize hxx : l[k] = x at *
        generalize secs (l.take k) = h at *
        rw [List.length_append, run_length] at hlen
        have HTS := Lib.hid hts
        have HLEN := Lib.hid hlen
        clear hxx hts hlen
        go_upto_region 9 with (fail)
        generalize wr.alloc (.cells #[.int .i64 x.1, .int .i64 x.2] 47) = W at *
        generalize hgg : wr.heap.size = g at *
        have F2 := Lib.hid f2
        have HB2 := Lib.hid hb2
        have O2 := Lib.hid o2
        have N2 := Lib.hid nb2
        have HSZ := Lib.hid hsz
        have HXG := Lib.hid hxg
        clear f2 hb2 o2 nb2 hsz hgg c0 c1
        go_loopw [5, 8] (LiRel2 h x g w) (fun _ cv _ => (x.1 + x.2 - intOf cv).toNat)
        case atStart => exact ⟨0, sp2, by have := HXG.out; omega, by go_num, by rw [show run x.1 0 = [] from rfl, List.append_nil]; exact O2.out, N2.out, F2.out, HB2.out⟩
        case round =>
          obtain ⟨j, sp3, hj, rfl, o, nb, f, hb⟩ := hrel
          obtain ⟨a4, c4, rfl, _, _⟩ := o.sl.form
          have d0 : wr.cell? ⟨g, 0, none⟩ = some (.int .i64 x.1) := by rw [cell_of_heap hb]; rfl
          have d1 : wr.cell? ⟨g, 1, none⟩ = some (.int .i64 x.2) := by rw [cell_of_heap hb]; rfl
          have hxg := HXG.out
          have HBH := Lib.hid (behind_any x wr (by omega))
          have fb : Frm [] wr (wr.alloc (.cells #[.int .i64 x.1, .int .i64 x.2] 47)) := (Frm.refl _ _).alloc _
          have hlr : (h ++ run x.1 j).length = h.length + j := by rw [List.length_append, run_length]
          by_cases hlt2 : (j : Int) < x.2
          · have hlt3 : x.1 + (j : Int) < x.1 + x.2 := by omega
            have hw : IntKind.i64.wrap (x.1 + (j : Int) + 1) = x.1 + (j : Int) + 1 := IntWalk.i64_in _ (by omega)
            have o3 := o.keep0 fb
            have hb3 := fb.heap hb (by simp)
            generalize wr.alloc (.cells #[.int .i64 x.1, .int .i64 x.2] 47) = W2 at *
            have o4 := o3.keep0 ((Frm.refl [] W2).alloc (.cells #[.int .i64 (x.1 + (j : Int))] 3))
            have s4 := sli_new (heap_alloc_new W2 (.cells #[.int .i64 (x.1 + (j : Int))] 3))
            have f4 := (f.trans fb (by simp)).alloc (.cells #[.int .i64 (x.1 + (j : Int))] 3)
            have hb4 := ((Frm.refl [] W2).alloc (.cells #[.int .i64 (x.1 + (j : Int))] 3)).heap hb3 (by simp)
            have hz4 : W2.heap.size < (W2.alloc (.cells #[.int .i64 (x.1 + (j : Int))] 3)).heap.size := by simp
            have hg4 : g < W2.heap.size := lt_heap hb3
            have hz0 : w.heap.size ≤ W2.heap.size := (f.trans fb (by simp)).size
            generalize hln : (h ++ run x.1 j).length = ln at *
            have hbn : ln + 1 ≤ 1000000000 := by have := HLEN.out; omega
            have O4 := Lib.hid o4
            have S4 := Lib.hid s4
            have F4 := Lib.hid f4
            have HB4 := Lib.hid hb4
            have N4 := Lib.hid nb
            have Z4 := Lib.hid (show W2.heap.size < (W2.alloc (.cells #[.int .i64 (x.1 + (j : Int))] 3)).heap.size ∧ g < W2.heap.size ∧ w.heap.size ≤ W2.heap.size from ⟨hz4, hg4, hz0⟩)
            clear o o3 o4 s4 f f4 hb hb3 hb4 fb nb hz4 hg4 hz0 hln hlr hxg
            go_wp2_with (first
              | (go_at_call 40; refine (HBH.out).mono ?_; rintro e w1 ⟨rfl, rfl⟩)
              | (at_builtin; refine wpList_append_n encI tysI O4.out S4.out (nn := ln + 1) (by simp) hbn (by omega) rfl (.tmp 28) (.tmp 30) rfl rfl rfl ?_; intro a5 c5 w5 sp5 o5 f5 b5))
            go_roundw
            case rel => exact ⟨j + 1, sp5, by omega, by go_num, by rw [run_succ, ← List.append_assoc]; exact o5, fun i hi => by
              rcases b5 i (by simpa using hi) with h | h
              · exact N4.out i h
              · have := Z4.out; omega, F4.out.trans f5 (fun i hi => .inr (N4.out i hi).1), f5.heap HB4.out (fun hm => (N4.out g hm).2 rfl)⟩
            case measure => simp [intOf]; omega
          · have hj2 : x.2.toNat = j := by omega
            have hlt3 : ¬ x.1 + (j : Int) < x.1 + x.2 := by omega
            have o3 := o.keep0 fb
            have f3 := f.trans fb (by simp)
            have O3 := Lib.hid o3
            have F3 := Lib.hid f3
            have N3 := Lib.hid nb
            have HTS2 := Lib.hid (show h ++ run x.1 j = secs (l.take (k + 1)) by rw [HTS.out, hj2])
            generalize hln : (h ++ run x.1 j).length = ln at *
            have HLN := Lib.hid hln
            clear o o3 f f3 fb hb nb hlr hxg hln hj2
            go_wp2_with (go_at_call 40; refine (HBH.out).mono ?_; rintro e w1 ⟨rfl, rfl⟩)
            go_roundw
            case rel => exact ⟨k + 1, sp3, by omega, by go_num, by have := O3.out; rw [← HLN.out, HTS2.out] at this; rw [← HLN.out, HTS2.out]; exact this, fun i hi => (N3.out i hi).1, F3.out⟩
            case measure => simp [intOf]; omega
      · obtain rfl : k = l.length := by omega
        rw [List.take_length] at o nb ⊢
        have O := Lib.hid o
        have N := Lib.hid nb
        have F := Lib.hid f
        clear o nb f
        go_wp2_with fail
        go_ret2
        exact ⟨secs l, 0, .inl ⟨HG.out, rfl, rfl⟩, _, sp2, rfl, O.out, F.out, N.out⟩
  · rw [chkE_bad hg] at HC
    have HG := Lib.hid hg
    clear hS hg hx hl
    go_enter Try.func13, Try.ntmps13
    go_wp2_with (go_at_call 19; refine (HC.out _ (Frm.refl _ _)).mono ?_; rintro e w1 ⟨rfl, f1⟩)
    go_ret2
    exact ⟨[], 2, .inr ⟨HG.out, rfl, rfl⟩, _, [], rfl, OwnE.nil _ _ _ _, f1, by simp [blk]⟩
end Go.Proofs.Ytgbgpmdhlocjhaa
