/-
  Contracts of Sort, Union, Minus, Both, On. No conditions but those that each theorem names.
-/
import Derived.Test.YtafedmahehbggaaCD
namespace Go.Proofs.Ytafedmahehbggaa
open Go.RowKit Go.Sort Go.Maps
set_option linter.unusedVariables false
set_option linter.unusedSimpArgs false
set_option maxRecDepth 100000

/-- A list that the call has made: what it tells, and that nothing that was there has changed. -/
def Told (w : World) (l : List Ad) (e : Ending) (w' : World) : Prop := ∃ v sp, e = .returned v ∧ OwnA 25 w' v l sp ∧ Frm [] w w' ∧ ∀ i ∈ blk v, w.heap.size ≤ i
theorem Sort_any (v : Value) (l sp : List Ad) (w : World) (hS : SlA w v l sp) (hl : l.length ≤ 100000) (hw : ∀ x ∈ l, WfA x) :
    Calls Try.prog 34 #[v] w (Told w (srt l)) := by
  have HL := Lib.hid hl
  clear hl
  go_enter Try.func34, Try.ntmps34
  go_wp2_with fail
  refine (setOf_any v l sp _ hS HL.out hw).mono ?_
  rintro r w1 ⟨b, rfl, s1, f1, n1⟩
  have F1 := Lib.hid f1
  clear f1
  go_wp2_with fail
  refine (rising_any b _ l _ s1 (by have := HL.out; omega)).mono ?_
  rintro r w2 ⟨v2, sp2, rfl, o2, f2, n2⟩
  go_wp2_with fail
  go_ret
  exact ⟨v2, sp2, rfl, o2, F1.out.trans f2 (by simp), fun i hi => by have := n2 i hi; have := F1.out.size; omega⟩
/-- The set of S, and of the first ones of a list besides. -/
def UniRel (S l : List Ad) (n b : Nat) (w0 : World) (c : Value) (wr : World) : Prop := ∃ k : Nat, k ≤ l.length ∧ c = .int .i64 k ∧ SetW wr b (n + k) (S ++ l.take k) ∧ Frm [b] w0 wr
set_option maxHeartbeats 1000000 in
theorem Union_any (v x : Value) (l sp m msp : List Ad) (w : World) (hS : SlA w v l sp) (hl : l.length ≤ 100000) (hw : ∀ x ∈ l, WfA x) (hM : SlA w x m msp) (hm : m.length ≤ 100000) (hwm : ∀ x ∈ m, WfA x) :
    Calls Try.prog 32 #[v, x] w (Told w (srt (l ++ m))) := by
  obtain ⟨a, cap, rfl, _, _⟩ := hM.form
  have hm9 : ((m.length : Nat) : Int) ≤ 100000 := by omega
  have HL := Lib.hid hl
  have HMl := Lib.hid hm
  have HM := Lib.hid hM
  have HWM := Lib.hid hwm
  clear hl hm hM hwm
  go_enter Try.func32, Try.ntmps32
  go_wp2_with fail
  refine (setOf_any v l sp _ hS HL.out hw).mono ?_
  rintro r w1 ⟨b, rfl, s1, f1, n1⟩
  have F1 := Lib.hid f1
  have S1 := Lib.hid s1
  have N1 := Lib.hid n1
  clear f1 s1 n1 hS hw
  go_wp2_with fail
  go_loopw [12] (UniRel l m l.length b w1) (fun c _ => m.length - (intOf c).toNat)
  case atStart => exact ⟨0, by omega, rfl, by simpa using S1.out, Frm.refl _ _⟩
  case round =>
    obtain ⟨k, hk, rfl, h, f⟩ := hrel
    by_cases hlt : k < m.length
    · obtain ⟨b0, off, rfl⟩ := HM.out.at (by omega)
      have hs2 := (HM.out.keep F1.out (by simp)).keep f (fun i hi => by have := HM.out.blk_lt (by omega) i hi; have := N1.out; simp; omega)
      obtain ⟨c0, c1⟩ := hs2.cells k hlt
      have hwx := HWM.out m[k] (List.getElem_mem _)
      have hts := setOf_step m k hlt
      generalize hx : m[k] = x at *
      have H := Lib.hid h
      have F := Lib.hid f
      have WX := Lib.hid hwx
      have HT := Lib.hid hts
      clear hx h f hs2 hwx hts
      go_wp2_with fail
      refine (put_any b (l.length + k) _ x _ (H.out.keep ((Frm.refl [] _).alloc _) (by simp)) WX.out (by have := HL.out; have := HMl.out; omega)).mono ?_
      rintro r w3 ⟨rfl, s3, f3⟩
      have S3 := Lib.hid s3
      have F3 := Lib.hid (F.out.trans (((Frm.refl [b] _).alloc _).trans f3 (by simp)) (by simp))
      clear s3 f3
      go_wp2_with fail
      go_roundw
      case rel => exact ⟨k + 1, by omega, by go_num, by rw [HT.out, ← List.append_assoc, ← Nat.add_assoc]; exact S3.out, F3.out⟩
      case measure => simp [intOf]; omega
    · obtain rfl : k = m.length := by omega
      have H := Lib.hid h
      have F := Lib.hid (F1.out.trans f (fun i hi => by simp at hi; have := N1.out; omega))
      clear h f
      go_wp2_with fail
      refine (rising_any b _ _ _ H.out (by have := HL.out; have := HMl.out; omega)).mono ?_
      rintro r w2 ⟨v2, sp2, rfl, o2, f2, n2⟩
      go_wp2_with fail
      go_ret
      rw [List.take_length] at o2
      exact ⟨v2, sp2, rfl, o2, F.out.trans f2 (by simp), fun i hi => by have := n2 i hi; have := F.out.size; omega⟩

theorem SetD.congr {D : DataW Unit} {S S' : List Ad} (h : SetD D S) (e : ∀ x, x ∈ S' ↔ x ∈ S) : SetD D S' := ⟨fun x hx => h.1 x ((e x).1 hx), fun x hx => (h.2 x hx).trans (e x).symm⟩
theorem SetW.congr {w : World} {b n : Nat} {S S' : List Ad} (h : SetW w b n S) (e : ∀ x, x ∈ S' ↔ x ∈ S) : SetW w b n S' := by
  obtain ⟨D, h1, h2⟩ := h
  exact ⟨D, h1, h2.congr e⟩
theorem SetW.mono {w : World} {b n n' : Nat} {S : List Ad} (h : SetW w b n S) (e : n ≤ n') : SetW w b n' S := by
  obtain ⟨D, h1, h2⟩ := h
  exact ⟨D, h1.mono e, h2⟩
def minA (l m : List Ad) : List Ad := l.filter fun x => !decide (x ∈ m)
def bothA (l m : List Ad) : List Ad := l.filter fun x => decide (x ∈ m)
def onA (l : List Ad) (d : Int) : List Ad := l.filter fun x => decide (x.1 = d)
def MinRel (l m : List Ad) (b : Nat) (w0 : World) (c : Value) (wr : World) : Prop := ∃ k : Nat, k ≤ m.length ∧ c = .int .i64 k ∧ SetW wr b l.length (minA l (m.take k)) ∧ Frm [b] w0 wr
set_option maxHeartbeats 1000000 in
theorem Minus_any (v x : Value) (l sp m msp : List Ad) (w : World) (hS : SlA w v l sp) (hl : l.length ≤ 100000) (hw : ∀ x ∈ l, WfA x) (hM : SlA w x m msp) (hm : m.length ≤ 100000) (hwm : ∀ x ∈ m, WfA x) :
    Calls Try.prog 42 #[v, x] w (Told w (srt (minA l m))) := by
  obtain ⟨a, cap, rfl, _, _⟩ := hM.form
  have hm9 : ((m.length : Nat) : Int) ≤ 100000 := by omega
  have HL := Lib.hid hl
  have HMl := Lib.hid hm
  have HM := Lib.hid hM
  have HWM := Lib.hid hwm
  clear hl hm hM hwm
  go_enter Try.func42, Try.ntmps42
  go_wp2_with fail
  refine (setOf_any v l sp _ hS HL.out hw).mono ?_
  rintro r w1 ⟨b, rfl, s1, f1, n1⟩
  have F1 := Lib.hid f1
  have S1 := Lib.hid s1
  have N1 := Lib.hid n1
  clear f1 s1 n1 hS hw
  go_wp2_with fail
  go_loopw [12] (MinRel l m b w1) (fun c _ => m.length - (intOf c).toNat)
  case atStart => exact ⟨0, by omega, rfl, S1.out.congr (by simp [minA]), Frm.refl _ _⟩
  case round =>
    obtain ⟨k, hk, rfl, h, f⟩ := hrel
    by_cases hlt : k < m.length
    · obtain ⟨b0, off, rfl⟩ := HM.out.at (by omega)
      have hs2 := (HM.out.keep F1.out (by simp)).keep f (fun i hi => by have := HM.out.blk_lt (by omega) i hi; have := N1.out; simp; omega)
      obtain ⟨c0, c1⟩ := hs2.cells k hlt
      have hwx := HWM.out m[k] (List.getElem_mem _)
      have hts := setOf_step m k hlt
      generalize hx : m[k] = x at *
      obtain ⟨D, hown, hD⟩ := h
      have hkey := key_A hwx
      have HO := Lib.hid hown
      have HD := Lib.hid hD
      have HK := Lib.hid hkey
      have F := Lib.hid f
      have WX := Lib.hid hwx
      have HT := Lib.hid hts
      clear hx hown hD hkey f hs2 hwx hts
      go_wp2_with (at_delete; refine wpList_delete_own _ rfl _ _ 63 25 rfl 70 law23 Try.underlying63 unitElem b l.length D rfl (HO.out.alloc _) _ _ rfl HK.out ?_; intro w3 hown3 hturn3)
      have s3 : SetW w3 b l.length (minA l (m.take (k + 1))) := ⟨_, hown3, (HD.out.del WX.out).congr fun y => by
        rw [HT.out]
        simp only [minA, List.mem_filter, List.mem_append, List.mem_singleton, Bool.not_eq_true', decide_eq_false_iff_not, bne_iff_ne]
        constructor
        · rintro ⟨h1, h2⟩; exact ⟨⟨h1, fun h => h2 (.inl h)⟩, fun h => h2 (.inr h)⟩
        · rintro ⟨⟨h1, h2⟩, h3⟩; exact ⟨h1, fun h => h.elim h2 h3⟩⟩
      have f3 : Frm [b] w1 w3 := (F.out.alloc _).trans (Frm.of_grown hturn3.grown (L := [b]) (by simp)) (by simp)
      have S3 := Lib.hid s3
      have F3 := Lib.hid f3
      clear s3 f3 hown3 hturn3
      go_wp2_with fail
      go_roundw
      case rel => exact ⟨k + 1, by omega, by go_num, S3.out, F3.out⟩
      case measure => simp [intOf]; omega
    · obtain rfl : k = m.length := by omega
      have H := Lib.hid h
      have F := Lib.hid (F1.out.trans f (fun i hi => by simp at hi; have := N1.out; omega))
      clear h f
      go_wp2_with fail
      refine (rising_any b _ _ _ H.out (by have := HL.out; have := HMl.out; omega)).mono ?_
      rintro r w2 ⟨v2, sp2, rfl, o2, f2, n2⟩
      go_wp2_with fail
      go_ret
      rw [List.take_length] at o2
      exact ⟨v2, sp2, rfl, o2, F.out.trans f2 (by simp), fun i hi => by have := n2 i hi; have := F.out.size; omega⟩
theorem has_yes (b n : Nat) (S : List Ad) (x : Ad) (w : World) (hS : SetW w b n S) (hx : WfA x) (h : x ∈ S) :
    Calls Try.prog 52 #[.map (some b), av x] w fun e w' => e = .returned (.bool true) ∧ Frm [] w w' := by
  have := has_any b n S x w hS hx
  rwa [decide_eq_true h] at this
theorem has_no (b n : Nat) (S : List Ad) (x : Ad) (w : World) (hS : SetW w b n S) (hx : WfA x) (h : x ∉ S) :
    Calls Try.prog 52 #[.map (some b), av x] w fun e w' => e = .returned (.bool false) ∧ Frm [] w w' := by
  have := has_any b n S x w hS hx
  rwa [decide_eq_false h] at this
def BothRel (l m : List Ad) (b c : Nat) (w0 : World) (cv : Value) (wr : World) : Prop := ∃ k : Nat, k ≤ m.length ∧ cv = .int .i64 k ∧ SetW wr b l.length l ∧ SetW wr c k (bothA (m.take k) l) ∧ Frm [c] w0 wr
set_option maxHeartbeats 1000000 in
theorem Both_any (v x : Value) (l sp m msp : List Ad) (w : World) (hS : SlA w v l sp) (hl : l.length ≤ 100000) (hw : ∀ x ∈ l, WfA x) (hM : SlA w x m msp) (hm : m.length ≤ 100000) (hwm : ∀ x ∈ m, WfA x) :
    Calls Try.prog 31 #[v, x] w (Told w (srt (bothA l m))) := by
  obtain ⟨a, cap, rfl, _, _⟩ := hM.form
  have hm9 : ((m.length : Nat) : Int) ≤ 100000 := by omega
  have hmm := @run_makeMap Try.prog
  have HL := Lib.hid hl
  have HMl := Lib.hid hm
  have HM := Lib.hid hM
  have HWM := Lib.hid hwm
  clear hl hm hM hwm
  go_enter Try.func31, Try.ntmps31
  go_wp2_with fail
  refine (setOf_any v l sp _ hS HL.out hw).mono ?_
  rintro r w1 ⟨b, rfl, s1, f1, n1⟩
  have F1 := Lib.hid f1
  have S1 := Lib.hid s1
  have N1 := Lib.hid n1
  clear f1 s1 n1 hS hw
  go_wp2_with fail
  generalize hw2 : w1.alloc (.map #[] 0) = w2
  have h2 : SetW w2 w1.heap.size 0 [] := ⟨.map [], by rw [← hw2]; exact World.ownsMap_made w1 Try.prog 25 unitElem, SetD.empty⟩
  have f2 : Frm [] w1 w2 := by rw [← hw2]; exact (Frm.refl [] w1).alloc _
  clear hw2
  obtain ⟨c, hc⟩ : ∃ c, w1.heap.size = c := ⟨_, rfl⟩
  rw [hc] at h2 ⊢
  have S2 := Lib.hid (S1.out.keep f2 (by simp))
  have NC := Lib.hid (show b < c by have := S1.out.lt; omega)
  have HC := Lib.hid hc
  have H2 := Lib.hid h2
  have F2 := Lib.hid (F1.out.trans f2 (by simp))
  clear hc h2 f2 hmm
  go_loopw [14] (BothRel l m b c w2) (fun cv _ => m.length - (intOf cv).toNat)
  case atStart => exact ⟨0, by omega, rfl, S2.out, by simpa [bothA] using H2.out, Frm.refl _ _⟩
  case round =>
    obtain ⟨k, hk, rfl, g, h, f⟩ := hrel
    by_cases hlt : k < m.length
    · obtain ⟨b0, off, rfl⟩ := HM.out.at (by omega)
      have hs2 := (HM.out.keep F2.out (by simp)).keep f (fun i hi => by have := HM.out.blk_lt (by omega) i hi; have := N1.out; have := NC.out; simp; omega)
      obtain ⟨c0, c1⟩ := hs2.cells k hlt
      have hwx := HWM.out m[k] (List.getElem_mem _)
      have hts := setOf_step m k hlt
      generalize hx : m[k] = x at *
      have G := Lib.hid g
      have H := Lib.hid h
      have F := Lib.hid f
      have WX := Lib.hid hwx
      have HT := Lib.hid hts
      clear hx g h f hs2 hwx hts
      by_cases hin : x ∈ l
      · have HI := Lib.hid hin
        clear hin
        go_wp2_with fail
        refine (has_yes b _ l x _ (G.out.keep ((Frm.refl [] _).alloc _) (by simp)) WX.out HI.out).mono ?_
        rintro r w3 ⟨rfl, f3⟩
        have q0 := f3.heap (heap_alloc_new wr (.cells #[.int .i64 x.1, .int .i64 x.2] 25)) (by simp)
        have d0 : w3.cell? ⟨wr.heap.size, 0, none⟩ = some (.int .i64 x.1) := by rw [cell_of_heap q0]; rfl
        have d1 : w3.cell? ⟨wr.heap.size, 1, none⟩ = some (.int .i64 x.2) := by rw [cell_of_heap q0]; rfl
        have F3 := Lib.hid (((Frm.refl [] wr).alloc (.cells #[.int .i64 x.1, .int .i64 x.2] 25)).trans f3 (by simp))
        clear f3 q0
        go_wp2_with fail
        refine (put_any c k _ x _ (H.out.keep F3.out (by simp)) WX.out (by have := HMl.out; omega)).mono ?_
        rintro r w4 ⟨rfl, s4, f4⟩
        have s5 : SetW w4 c (k + 1) (bothA (m.take (k + 1)) l) := by
          rw [HT.out]; simpa [bothA, List.filter_append, HI.out] using s4
        have S5 := Lib.hid s5
        have G5 := Lib.hid ((G.out.keep F3.out (by simp)).keep f4 (by have := NC.out; simp; omega))
        have F5 := Lib.hid ((F.out.trans F3.out (by simp)).trans f4 (by simp))
        clear s4 f4 s5 d0 d1
        go_wp2_with fail
        go_roundw
        case rel => exact ⟨k + 1, by omega, by go_num, G5.out, S5.out, F5.out⟩
        case measure => simp [intOf]; omega
      · have HI := Lib.hid hin
        clear hin
        go_wp2_with fail
        refine (has_no b _ l x _ (G.out.keep ((Frm.refl [] _).alloc _) (by simp)) WX.out HI.out).mono ?_
        rintro r w3 ⟨rfl, f3⟩
        have F3 := Lib.hid (((Frm.refl [] wr).alloc (.cells #[.int .i64 x.1, .int .i64 x.2] 25)).trans f3 (by simp))
        have s5 : SetW w3 c (k + 1) (bothA (m.take (k + 1)) l) := by
          rw [HT.out]; exact ((H.out.keep F3.out (by simp)).mono (Nat.le_succ _)).congr (by simp [bothA, List.filter_append, HI.out])
        have S5 := Lib.hid s5
        have G5 := Lib.hid (G.out.keep F3.out (by simp))
        have F5 := Lib.hid (F.out.trans F3.out (by simp))
        clear f3 s5
        go_wp2_with fail
        go_roundw
        case rel => exact ⟨k + 1, by omega, by go_num, G5.out, S5.out, F5.out⟩
        case measure => simp [intOf]; omega
    · obtain rfl : k = m.length := by omega
      have H := Lib.hid h
      have F := Lib.hid (F2.out.trans f (fun i hi => by simp at hi; have := N1.out; have := NC.out; omega))
      clear h f g
      go_wp2_with fail
      refine (rising_any c _ _ _ H.out (by have := HL.out; have := HMl.out; omega)).mono ?_
      rintro r w2 ⟨v2, sp2, rfl, o2, f2, n2⟩
      go_wp2_with fail
      go_ret
      have e : srt (bothA (m.take m.length) l) = srt (bothA l m) := srt_congr (by intro x; simp [bothA, List.mem_filter, and_comm])
      rw [e] at o2
      exact ⟨v2, sp2, rfl, o2, F.out.trans f2 (by simp), fun i hi => by have := n2 i hi; have := F.out.size; omega⟩
end Go.Proofs.Ytafedmahehbggaa
