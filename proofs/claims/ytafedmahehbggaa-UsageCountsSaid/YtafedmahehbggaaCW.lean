/-
  Contracts of the document's Union, Minus, Both, On. No conditions but those that each theorem names.
-/
import Derived.Test.YtafedmahehbggaaCV
namespace Go.Proofs.Ytafedmahehbggaa
open Go.RowKit Go.Sort Go.Maps
set_option linter.unusedVariables false
set_option linter.unusedSimpArgs false
set_option maxRecDepth 100000

/-- Those of a list that are in, or are not in, another one. -/
def someA (l m : List Ad) (b : Bool) : List Ad := l.filter fun x => decide (x ∈ m) == b
theorem some_min (l m : List Ad) : someA l m false = minA l m := by unfold someA minA; congr 1; funext x; cases decide (x ∈ m) <;> rfl
theorem some_both (l m : List Ad) : someA l m true = bothA l m := by unfold someA bothA; congr 1; funext x; cases decide (x ∈ m) <;> rfl
def SomRel (f : List Ad → List Ad) (l : List Ad) (w0 : World) (lv cv : Value) (wr : World) : Prop := ∃ (k : Nat) (sp : List Ad), k ≤ l.length ∧ cv = .int .i64 k ∧ OwnA 25 wr lv (f (l.take k)) sp ∧ (∀ i ∈ blk lv, w0.heap.size ≤ i) ∧ Frm [] w0 wr
set_option maxHeartbeats 4000000 in
theorem some_any (v x : Value) (l sp m msp : List Ad) (b : Bool) (w : World) (hS : SlA w v l sp) (hl : l.length ≤ 64000) (hM : SlA w x m msp) (hm : m.length ≤ 64000) :
    Calls Try.prog 58 #[v, x, .bool b] w (Told w (srt (someA l m b))) := by
  obtain ⟨a, cap, rfl, _, _⟩ := hS.form
  have hl9 : ((l.length : Nat) : Int) ≤ 64000 := by omega
  have HS := Lib.hid hS
  have HM := Lib.hid hM
  have HL := Lib.hid hl
  have HMl := Lib.hid hm
  clear hS hM hl hm
  go_enter Try.func58, Try.ntmps58
  go_wp2_with fail
  go_loopw [7, 8] (SomRel (fun t => someA t m b) l w) (fun _ cv _ => l.length - (intOf cv).toNat)
  case atStart => exact ⟨0, [], by omega, rfl, by simpa [someA] using OwnA.nil 25 _, by simp [blk], Frm.refl _ _⟩
  case round =>
    obtain ⟨k, spo, hk, rfl, o, nb, f⟩ := hrel
    dsimp only at o
    obtain ⟨ao, co, rfl, _, _⟩ := o.sl.form
    by_cases hlt : k < l.length
    · obtain ⟨b0, off, rfl⟩ := HS.out.at (by omega)
      obtain ⟨c0, c1⟩ := (HS.out.keep f (by simp)).cells k hlt
      have hsn : someA (l.take (k + 1)) m b = someA (l.take k) m b ++ (if (decide (l[k] ∈ m) == b) = true then [l[k]] else []) := by
        rw [setOf_step l k hlt]
        unfold someA
        rw [List.filter_append]
        congr 1
        by_cases h : (decide (l[k] ∈ m) == b) = true <;> simp [h]
      have hol : (someA (l.take k) m b).length ≤ k := Nat.le_trans (List.length_filter_le _ _) (by simp; omega)
      generalize someA (l.take k) m b = T at *
      generalize l[k] = y at *
      have O := Lib.hid o
      have N := Lib.hid nb
      have F := Lib.hid f
      have SN := Lib.hid hsn
      have OL := Lib.hid hol
      have HI := Lib.hid hlt
      have hcall := fun W (fW : Frm [] wr W) => RefHas_any x m msp y W ((HM.out.keep F.out (by simp)).keep fW (by simp)) (by have := HMl.out; omega)
      unfold HasB at hcall
      generalize decide (y ∈ m) = q at *
      have HC := Lib.hid hcall
      clear o nb f hsn hol hcall
      cases hqb : (q == b) with
      | true =>
        have SN2 := SN.out
        rw [if_pos hqb] at SN2
        have SN3 := Lib.hid SN2
        clear SN2
        go_wp2_with fail
        refine (HC.out _ (Frm.refl [] _)).mono ?_
        rintro r w1 ⟨rfl, f1⟩
        have g0 := f1.cell c0 (by simp)
        have g1 := f1.cell c1 (by simp)
        have F1 := Lib.hid (F.out.trans f1 (by simp))
        have O1 := Lib.hid (O.out.keep f1 (by simp))
        clear f1 c0 c1
        go_wp2_with (at_builtin; refine wpList_append_ads AT (O1.out.keep ((Frm.refl [] _).alloc _) (by simp)) (sla_one (x := y) (heap_alloc_at (by simp))) (by have := OL.out; have := HL.out; have := HI.out; simp; omega) rfl (.tmp 23) (.tmp 28) rfl rfl rfl ?_; intro a4 cap4 w4 sp4 o4 f4 n4)
        have hnew : SomRel (fun t => someA t m b) l w (.slice a4 (T.length + 1) cap4) (.int .i64 ((k : Int) + 1)) w4 := ⟨k + 1, sp4, by have := HI.out; omega, by go_num, by show OwnA 25 w4 _ (someA (l.take (k + 1)) m b) sp4; rw [SN3.out]; simpa using o4, fun i hi => by
          rcases n4 i (by simpa using hi) with h | h
          · exact N.out i h
          · have := F1.out.size; simp at h; omega, ((F1.out.alloc _).trans f4 (fun i hi => .inr (N.out i hi)))⟩
        have HNW := Lib.hid hnew
        have HI2 := HI
        clear hnew o4 f4 n4
        go_wp2_with fail
        go_roundw
        case rel => exact HNW.out
        case measure => have := HI2.out; simp [intOf]; omega
      | false =>
        have SN2 := SN.out
        rw [if_neg (by rw [hqb]; decide), List.append_nil] at SN2
        have SN3 := Lib.hid SN2
        clear SN2
        go_wp2_with fail
        refine (HC.out _ (Frm.refl [] _)).mono ?_
        rintro r w1 ⟨rfl, f1⟩
        have F1 := Lib.hid (F.out.trans f1 (by simp))
        have O1 := Lib.hid (O.out.keep f1 (by simp))
        have HI2 := HI
        clear f1 c0 c1
        go_wp2_with fail
        go_roundw
        case rel => exact ⟨k + 1, spo, HI2.out, by go_num, by show OwnA 25 w1 _ (someA (l.take (k + 1)) m b) spo; rw [SN3.out]; exact O1.out, N.out, F1.out⟩
        case measure => have := HI2.out; simp [intOf]; omega
    · obtain rfl : k = l.length := by omega
      have hll : (someA (l.take l.length) m b).length ≤ 100000 := by have := HL.out; have h := List.length_filter_le (fun x => decide (x ∈ m) == b) (l.take l.length); unfold someA; simp at h ⊢; omega
      have e : srt (someA (l.take l.length) m b) = srt (someA l m b) := by rw [List.take_length]
      generalize someA (l.take l.length) m b = T at *
      have E := Lib.hid e
      have O := Lib.hid o.sl
      have N := Lib.hid nb
      have F := Lib.hid f
      have LL := Lib.hid hll
      clear o nb f hll e
      go_wp2_with fail
      refine (RefSort_any _ T spo _ O.out LL.out).mono ?_
      rintro r w3 ⟨v3, sp3, rfl, o3, f3, n3⟩
      go_wp2_with fail
      go_ret
      rw [E.out] at o3
      exact ⟨v3, sp3, rfl, o3, F.out.trans f3 (by simp), fun i hi => by have := n3 i hi; have := F.out.size; omega⟩
theorem RefMinus_any (v x : Value) (l sp m msp : List Ad) (w : World) (hS : SlA w v l sp) (hl : l.length ≤ 64000) (hM : SlA w x m msp) (hm : m.length ≤ 64000) :
    Calls Try.prog 46 #[v, x] w (Told w (srt (minA l m))) := by
  have hc := some_any v x l sp m msp false w hS hl hM hm
  rw [some_min] at hc
  have HC := Lib.hid hc
  clear hc hS hl hM hm
  go_enter Try.func46, Try.ntmps46
  go_wp2_with fail
  refine HC.out.mono ?_
  rintro r w3 ⟨v3, sp3, rfl, o3, f3, n3⟩
  go_wp2_with fail
  go_ret
  exact ⟨v3, sp3, rfl, o3, f3, n3⟩
theorem RefBoth_any (v x : Value) (l sp m msp : List Ad) (w : World) (hS : SlA w v l sp) (hl : l.length ≤ 64000) (hM : SlA w x m msp) (hm : m.length ≤ 64000) :
    Calls Try.prog 48 #[v, x] w (Told w (srt (bothA l m))) := by
  have hc := some_any v x l sp m msp true w hS hl hM hm
  rw [some_both] at hc
  have HC := Lib.hid hc
  clear hc hS hl hM hm
  go_enter Try.func48, Try.ntmps48
  go_wp2_with fail
  refine HC.out.mono ?_
  rintro r w3 ⟨v3, sp3, rfl, o3, f3, n3⟩
  go_wp2_with fail
  go_ret
  exact ⟨v3, sp3, rfl, o3, f3, n3⟩
end Go.Proofs.Ytafedmahehbggaa
