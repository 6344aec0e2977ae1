/-
  Contracts of fullest, take, usable. No conditions but those that each theorem names.
-/
import Derived.Test.YtojchfpfemofkaaS1
namespace Go.Proofs.Ytojchfpfemofkaa
open Go.RowKit
set_option linter.unusedVariables false
set_option linter.unusedSimpArgs false
set_option maxRecDepth 100000

def FulRel (v : Value) (bx g n : Nat) (w0 : World) (cv : Value) (wr : World) : Prop := ∃ k : Nat, k ≤ n ∧ cv = .int .i64 k ∧ OwnI wr (.slice (some ⟨g, 0, none⟩) n n) (cz (List.range k) ++ List.replicate (n - k) 0) [] ∧ wr.heap[bx]? = some (.cells #[v] 22 (0, 0)) ∧ Frm [] w0 wr
/-- What fullest tells. -/
def FulP (r : List Int) (w : World) (e : Ending) (w' : World) : Prop := ∃ S g, InOrder r S ∧ e = .returned (.slice (some ⟨g, 0, none⟩) r.length r.length) ∧ OwnI w' (.slice (some ⟨g, 0, none⟩) r.length r.length) (cz S) [] ∧ Frm [] w w' ∧ w.heap.size ≤ g
set_option maxHeartbeats 2000000 in
theorem fullest_any (v : Value) (r : List Int) (sp : List Value) (w : World) (hS : SlI w v r sp) (hr : 0 < r.length) (hl : r.length ≤ 12) : Calls Try.prog 29 #[v] w (FulP r w) := by
  obtain ⟨a, cap, rfl, _, _⟩ := hS.form
  obtain ⟨b, off, rfl⟩ := hS.at hr
  have hbl := SlE.blk_lt encI hS hr b (by simp [blk])
  have HS := Lib.hid hS
  have HL := Lib.hid (And.intro hr hl)
  have hl9 : ((r.length : Nat) : Int) ≤ 12 := by omega
  have HB := Lib.hid hbl
  have hf0 : Frm [] w (w.alloc (.cells #[.slice (some ⟨b, off, none⟩) r.length cap] 22)) := (Frm.refl _ _).alloc _
  have hx0 : (w.alloc (.cells #[.slice (some ⟨b, off, none⟩) r.length cap] 22)).heap[w.heap.size]? = some (.cells #[.slice (some ⟨b, off, none⟩) r.length cap] 22 (0, 0)) := heap_alloc_new _ _
  have HF0 := Lib.hid hf0
  have HX0 := Lib.hid hx0
  have hs0 : (w.alloc (.cells #[.slice (some ⟨b, off, none⟩) r.length cap] 22)).heap.size = w.heap.size + 1 := Array.size_push ..
  have HS0 := Lib.hid hs0
  have c0 := cell_of_heap hx0 0
  clear hS hl hr hbl hf0 hx0 hs0
  go_enter Try.func29, Try.ntmps29
  go_wp2_with (at_make; refine wpList_make_ints r.length (by omega) rfl (.tmp 6) (.tmp 6) rfl rfl rfl rfl rfl ?_; intro w1 o1 f1)
  have hg : ∃ g, g = (w.alloc (.cells #[.slice (some ⟨b, off, none⟩) r.length cap] 22)).heap.size := ⟨_, rfl⟩
  obtain ⟨g, hg⟩ := hg
  rw [← hg] at o1
  have hg2 : w.heap.size + 1 = g := by rw [hg, HS0.out]
  rw [hg2]
  have O1 := Lib.hid o1
  have F1 := Lib.hid (HF0.out.trans f1 (by simp))
  have X1 := Lib.hid (f1.heap HX0.out (by simp))
  have HG := Lib.hid hg2
  clear o1 f1 hg hg2 HF0 HX0 HS0 c0
  go_loopw [10] (FulRel (.slice (some ⟨b, off, none⟩) r.length cap) w.heap.size g r.length w) (fun cv _ => r.length - (intOf cv).toNat)
  case atStart => exact ⟨0, by omega, rfl, by simpa [cz] using O1.out, X1.out, F1.out⟩
  case round =>
    clear O1 F1 X1
    obtain ⟨k, hk, rfl, o, x, f⟩ := hrel
    by_cases hlt : k < r.length
    · have hlen : (cz (List.range k) ++ List.replicate (r.length - k) (0 : Int)).length = r.length := by simp [cz]; omega
      have c1 := cellI o.sl k (by rw [hlen]; omega)
      have z1 := frozen_of_heap (OwnE.heap o) (0 + k)
      have hst := OwnE.store encI o k 0 (by rw [hlen]; omega) (by omega) (k : Int) (.int .i64 k) rfl
      have e1 : (cz (List.range k) ++ List.replicate (r.length - k) (0 : Int)).set k (k : Int) = cz (List.range (k + 1)) ++ List.replicate (r.length - (k + 1)) 0 := by
        rw [List.set_append_right _ _ (by simp [cz]), List.range_succ, show r.length - k = r.length - (k + 1) + 1 by omega, List.replicate_succ, cz_append]
        simp [cz]
      rw [e1] at hst
      simp only [Nat.add_zero, Nat.mul_one] at hst
      rw [Nat.zero_add] at c1 z1
      generalize (cz (List.range k) ++ List.replicate (r.length - k) (0 : Int))[k]'_ = y at *
      have ST := Lib.hid hst
      have F := Lib.hid f
      have X := Lib.hid x
      clear hst o f x e1 hlen
      go_wp2_with fail
      go_roundw
      case rel => exact ⟨k + 1, by omega, by go_num, ST.out, by rw [heap_setCell_ne _ (show w.heap.size ≠ g by have := HG.out; omega)]; exact X.out, F.out.setCell _ _ (.inr (show w.heap.size ≤ g by have := HG.out; omega))⟩
      case measure => simp [intOf]; omega
    · obtain rfl : k = r.length := by omega
      have o2 : OwnI wr (.slice (some ⟨g, 0, none⟩) r.length r.length) (cz (List.range r.length)) [] := by simpa using o
      have H := Lib.hid (Stable_any r w.heap.size b off r.length cap g r.length sp [] wr HL.out.1 HL.out.2 o2 (cell_of_heap x 0) (HS.out.keep0 f) (by have := HG.out; omega) (by have := HG.out; have := HB.out; omega))
      have F := Lib.hid f
      clear o o2 f x
      go_wp2_with (go_at_call 32; refine Calls.mono (H.out) ?_; rintro ee W1 ⟨rfl, S, i1, o1, f1⟩)
      go_ret
      exact ⟨S, g, i1, rfl, o1, F.out.trans f1 (by have := HG.out; simp; omega), by have := HG.out; omega⟩
/-- All of a choice is in the row, and can be taken from. -/
structure Can (r : List Int) (l : List Nat) : Prop where
  nd : l.Nodup
  pos : ∀ x ∈ l, 0 < gt r x ∧ gt r x ≤ 1000000
theorem decL_take (r : List Int) (l : List Nat) (k : Nat) (hk : k < l.length) : decL r (l.take (k + 1)) = (decL r (l.take k)).set l[k] (gt (decL r (l.take k)) l[k] - 1) := by
  rw [List.take_succ_eq_append_getElem hk, decL_append]
  rfl
theorem Can.lt {r : List Int} {l : List Nat} (h : Can r l) (x : Nat) (hx : x ∈ l) : x < r.length := gt_pos (h.pos x hx).1
theorem Can.at {r : List Int} {l : List Nat} (h : Can r l) (k : Nat) (hk : k < l.length) : gt (decL r (l.take k)) l[k] = gt r l[k] := by
  have hsp : l.take k ++ l.drop k = l := List.take_append_drop _ _
  have hn := h.nd
  rw [← hsp] at hn
  have hn1 := List.nodup_append.1 hn
  rw [gt_decL _ _ hn1.1 (fun x hx => h.lt x (List.mem_of_mem_take hx)), if_neg, Int.sub_zero]
  intro hin
  refine hn1.2.2 _ hin l[k] ?_ rfl
  rw [List.drop_eq_getElem_cons hk]
  exact List.mem_cons_self ..
def TakRel (r : List Int) (l : List Nat) (v : Value) (sp : List Value) (w0 : World) (cv : Value) (wr : World) : Prop := ∃ k : Nat, k ≤ l.length ∧ cv = .int .i64 k ∧ OwnI wr v (decL r (l.take k)) sp ∧ Frm (blk v) w0 wr
set_option maxHeartbeats 2000000 in
theorem take_any (v d : Value) (r : List Int) (l : List Nat) (sp dsp : List Value) (w : World) (hO : OwnI w v r sp) (hS : SlI w d (cz l) dsp) (hc : Can r l) (hl : r.length ≤ 12) (hll : l.length ≤ 12) (hn : ∀ i ∈ blk d, i ∉ blk v) :
    Calls Try.prog 30 #[v, d] w fun e w' => e = .returned (.tuple #[]) ∧ OwnI w' v (decL r l) sp ∧ Frm (blk v) w w' := by
  obtain ⟨a, cap, rfl, _, _⟩ := hO.sl.form
  obtain ⟨a2, cap2, rfl, _, _⟩ := hS.form
  have HO := Lib.hid hO
  have HS := Lib.hid hS
  have HC := Lib.hid hc
  have HN := Lib.hid hn
  have hl9 : ((l.length : Nat) : Int) ≤ 12 := by omega
  have hl8 : ((r.length : Nat) : Int) ≤ 12 := by omega
  rw [cz_length]
  clear hO hS hc hn hl hll
  go_enter Try.func30, Try.ntmps30
  go_wp2_with fail
  go_loopw [8] (TakRel r l (.slice a r.length cap) sp w) (fun cv _ => l.length - (intOf cv).toNat)
  case atStart => exact ⟨0, by omega, rfl, by simpa [decL] using HO.out, Frm.refl _ _⟩
  case round =>
    obtain ⟨k, hk, rfl, o, f⟩ := hrel
    by_cases hlt : k < l.length
    · have hp := HC.out.pos l[k] (List.getElem_mem _)
      have hq := HC.out.at k hlt
      have hb := HC.out.lt l[k] (List.getElem_mem _)
      have hdl := decL_length (l.take k) r
      obtain ⟨b1, o1, rfl⟩ := HS.out.at (by rw [cz_length]; omega)
      rw [← hdl] at o
      obtain ⟨b0, off, rfl⟩ := o.sl.at (by omega)
      have hoff : off = 0 := by
        obtain ⟨_, h | ⟨g, cp, h, _⟩⟩ := o
        · cases h.1
        · cases h; rfl
      subst hoff
      have hd := cellI (HS.out.keep f HN.out) k (by rw [cz_length]; exact hlt)
      rw [cz_get l k hlt] at hd
      have c1 := cellI o.sl l[k] (by omega)
      rw [← gt_lt, hq] at c1
      have z1 := frozen_of_heap (OwnE.heap o) (0 + l[k])
      have hst := OwnE.store encI o l[k] 0 (by omega) (by omega) (gt r l[k] - 1) (.int .i64 (gt r l[k] - 1)) rfl
      have e1 := decL_take r l k hlt
      rw [hq] at e1
      rw [← e1, decL_length] at hst
      simp only [Nat.add_zero, Nat.mul_one] at hst
      rw [Nat.zero_add] at c1 z1
      generalize gt r l[k] = y at *
      generalize l[k] = x at *
      have hw1 : IntKind.i64.wrap (y - 1) = y - 1 := IntWalk.i64_in _ (by omega)
      have hx9 : (x : Int) < (r.length : Int) := by omega
      have ST := Lib.hid hst
      have F := Lib.hid f
      clear hst o f e1 hdl hq
      go_wp2_with fail
      go_roundw
      case rel => exact ⟨k + 1, by omega, by go_num, ST.out, F.out.setCell _ _ (.inl (by simp [blk]))⟩
      case measure => simp [intOf]; omega
    · obtain rfl : k = l.length := by omega
      rw [List.take_length] at o
      have F := Lib.hid f
      have O := Lib.hid o
      clear f o
      go_wp2_with fail
      go_end0
      exact ⟨rfl, O.out, F.out⟩
/-- The room that is usable. -/
def rm (f : List Int) (t : List Bool) : List Int := (List.range f.length).map fun i => if t.getD i false = true then gt f i else 0
theorem rm_length (f : List Int) (t : List Bool) : (rm f t).length = f.length := by simp [rm]
theorem gt_rm (f : List Int) (t : List Bool) (i : Nat) : gt (rm f t) i = if t.getD i false = true then gt f i else 0 := by
  by_cases h : i < f.length
  · rw [gt_lt (by rw [rm_length]; exact h)]; simp [rm]
  · rw [gt_ge (by rw [rm_length]; omega), gt_ge (by omega)]; simp
theorem ext_gt {l m : List Int} (h : l.length = m.length) (e : ∀ i, gt l i = gt m i) : l = m := by
  apply List.ext_getElem h
  intro i h1 h2
  have := e i
  rwa [gt_lt h1, gt_lt h2] at this
theorem rm_nil (f : List Int) : rm f [] = List.replicate f.length 0 := by
  apply ext_gt
  · simp [rm_length]
  · intro i; rw [gt_rm]; simp [gt, List.getElem?_replicate]; split <;> rfl
theorem getD_take (t : List Bool) (k i : Nat) : (t.take k).getD i false = if i < k then t.getD i false else false := by
  simp only [List.getD_eq_getElem?_getD, List.getElem?_take]
  split <;> simp
theorem rm_step (f : List Int) (t : List Bool) (k : Nat) (hk : k < t.length) (hkf : k < f.length) : rm f (t.take (k + 1)) = if t[k] = true then (rm f (t.take k)).set k (gt f k) else rm f (t.take k) := by
  have hd : t.getD k false = t[k] := by simp [hk]
  split
  · rename_i ht
    apply ext_gt
    · simp [rm_length]
    · intro i
      rw [gt_set (by rw [rm_length]; exact hkf), gt_rm, gt_rm, getD_take, getD_take]
      by_cases e : i = k
      · subst e; rw [hd, ht]; simp
      · rw [if_neg e]
        by_cases e2 : i < k
        · simp [e2, show i < k + 1 by omega]
        · simp [e2, show ¬ i < k + 1 by omega]
  · rename_i ht
    apply ext_gt
    · simp [rm_length]
    · intro i
      rw [gt_rm, gt_rm, getD_take, getD_take]
      by_cases e : i = k
      · subst e; rw [hd]; simp [ht]
      · by_cases e2 : i < k
        · simp [e2, show i < k + 1 by omega]
        · simp [e2, show ¬ i < k + 1 by omega]
/-- How many are there. -/
def upN (t : List Bool) : Nat := t.count true
theorem upN_step (t : List Bool) (k : Nat) (hk : k < t.length) : upN (t.take (k + 1)) = if t[k] = true then upN (t.take k) + 1 else upN (t.take k) := by
  unfold upN
  rw [List.take_succ_eq_append_getElem hk, List.count_append]
  cases t[k] <;> simp
theorem upN_le (t : List Bool) : upN t ≤ t.length := List.count_le_length
def UseRel (fr : List Int) (t : List Bool) (g : Nat) (w0 : World) (uv cv : Value) (wr : World) : Prop := ∃ k : Nat, k ≤ t.length ∧ cv = .int .i64 k ∧ uv = .int .i64 (upN (t.take k)) ∧ OwnI wr (.slice (some ⟨g, 0, none⟩) fr.length fr.length) (rm fr (t.take k)) [] ∧ Frm [] w0 wr
set_option maxHeartbeats 2000000 in
theorem usable_any (v d : Value) (fr : List Int) (t : List Bool) (sp dsp : List Value) (w : World) (hS : SlI w v fr sp) (hT : SlO w d t dsp) (hl : fr.length ≤ 12) (he : t.length = fr.length) :
    Calls Try.prog 28 #[v, d] w fun e w' => ∃ g, e = .returned (.tuple #[.slice (some ⟨g, 0, none⟩) fr.length fr.length, .int .i64 (upN t)]) ∧ OwnI w' (.slice (some ⟨g, 0, none⟩) fr.length fr.length) (rm fr t) [] ∧ Frm [] w w' ∧ w.heap.size ≤ g := by
  obtain ⟨a, cap, rfl, _, _⟩ := hS.form
  obtain ⟨a2, cap2, rfl, _, _⟩ := hT.form
  have HS := Lib.hid hS
  have HT := Lib.hid hT
  have HE := Lib.hid he
  have HL := Lib.hid hl
  have hl9 : ((fr.length : Nat) : Int) ≤ 12 := by omega
  have hl8 : ((t.length : Nat) : Int) ≤ 12 := by omega
  clear hS hT he hl
  go_enter Try.func28, Try.ntmps28
  go_wp2_with (at_make; refine wpList_make_ints fr.length (by omega) rfl (.tmp 9) (.tmp 9) rfl rfl rfl rfl rfl ?_; intro w1 o1 f1)
  generalize hg : w.heap.size = g at *
  have O1 := Lib.hid o1
  have F1 := Lib.hid f1
  have HG := Lib.hid hg
  clear o1 f1 hg
  go_loopw [5, 13] (UseRel fr t g w) (fun _ cv _ => t.length - (intOf cv).toNat)
  case atStart => exact ⟨0, by omega, rfl, rfl, by rw [List.take_zero, rm_nil]; exact O1.out, F1.out⟩
  case round =>
    clear O1 F1
    obtain ⟨k, hk, rfl, rfl, o, f⟩ := hrel
    by_cases hlt : k < t.length
    · have hkf : k < fr.length := by have := HE.out; omega
      obtain ⟨b0, off, rfl⟩ := HS.out.at (by omega)
      obtain ⟨b1, off1, rfl⟩ := HT.out.at (by omega)
      have c0 := cellI (HS.out.keep0 f) k hkf
      have c1 := cellO (HT.out.keep0 f) k hlt
      have hrs := rm_step fr t k hlt hkf
      have hus := upN_step t k hlt
      have hub := upN_le (t.take k)
      have htl : (t.take k).length = k := by simp; omega
      rw [← gt_lt] at c0
      have hk9 : (k : Int) < (fr.length : Int) := by omega
      cases hb : t[k] with
      | true =>
        rw [hb, if_pos rfl] at hrs hus
        rw [hb] at c1
        have hlen := rm_length fr (t.take k)
        have c2 := cellI o.sl k (by omega)
        have z1 := frozen_of_heap (OwnE.heap o) (0 + k)
        have hst := OwnE.store encI o k 0 (by omega) (by omega) (gt fr k) (.int .i64 (gt fr k)) rfl
        rw [← hrs] at hst
        simp only [Nat.add_zero, Nat.mul_one] at hst
        rw [Nat.zero_add] at c2 z1
        generalize (rm fr (t.take k))[k]'_ = z at *
        generalize gt fr k = y at *
        generalize upN (t.take k) = u at *
        have hw1 : IntKind.i64.wrap ((u : Int) + 1) = (u : Int) + 1 := IntWalk.i64_in _ (by omega)
        have HU := Lib.hid hus
        have ST := Lib.hid hst
        have F := Lib.hid f
        clear hst o f hrs hus hb hub htl hlen
        go_wp2_with fail
        go_roundw
        case rel => exact ⟨k + 1, by omega, by go_num, by rw [HU.out]; go_num, ST.out, F.out.setCell _ _ (.inr (show w.heap.size ≤ g by have := HG.out; omega))⟩
        case measure => simp [intOf]; omega
      | false =>
        rw [hb] at c1 hrs hus
        simp only [Bool.false_eq_true, if_false] at hrs hus
        rw [← hrs] at o
        have HU := Lib.hid hus
        have O := Lib.hid o
        have F := Lib.hid f
        clear o f hrs hus hb hub htl
        generalize upN (t.take k) = u at *
        go_wp2_with fail
        go_roundw
        case rel => exact ⟨k + 1, by omega, by go_num, by rw [HU.out], O.out, F.out⟩
        case measure => simp [intOf]; omega
    · obtain rfl : k = t.length := by omega
      rw [List.take_length] at o ⊢
      have O := Lib.hid o
      have F := Lib.hid f
      clear o f
      go_wp2_with fail
      go_ret2
      exact ⟨g, rfl, O.out, F.out, by have := HG.out; omega⟩
end Go.Proofs.Ytojchfpfemofkaa
