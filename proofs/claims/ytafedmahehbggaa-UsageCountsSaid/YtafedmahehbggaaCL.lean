/-
  Contracts of of, and awake. No conditions but those that each theorem names.
-/
import Derived.Test.YtafedmahehbggaaCK
namespace Go.Proofs.Ytafedmahehbggaa
open Go.RowKit Go.Sort Go.Maps
set_option linter.unusedVariables false
set_option linter.unusedSimpArgs false
set_option maxRecDepth 100000

/-- Numbers that stand in a block of their own: those of addresses, in turn. -/
def OfRel (l : List Ad) (w0 : World) (lv cv : Value) (wr : World) : Prop := ∃ (k : Nat) (sp : List Ad), k ≤ l.length ∧ cv = .int .i64 (2 * (k : Int)) ∧ OwnA 25 wr lv (l.take k) sp ∧ (∀ i ∈ blk lv, w0.heap.size ≤ i) ∧ Frm [] w0 wr
set_option maxHeartbeats 2000000 in
theorem of_any (l : List Ad) (n g : Nat) (w : World) (hb : w.heap[g]? = some (.cells (eas l).toArray 3 (0, 0))) (hn : n = l.length * 2) (hl : l.length ≤ 1000) :
    Calls Try.prog 29 #[.slice (some ⟨g, 0, none⟩) n n] w (Told w l) := by
  subst hn
  have hl9 : ((l.length * 2 : Nat) : Int) = 2 * (l.length : Int) := by omega
  have hl8 : (l.length : Int) ≤ 1000 := by omega
  have HB := Lib.hid hb
  have HL := Lib.hid hl
  have H9 := Lib.hid hl9
  clear hb hl hl9
  go_enter Try.func29, Try.ntmps29
  go_wp2_with fail
  go_loopw [3, 4] (OfRel l w) (fun _ cv _ => l.length - (intOf cv).toNat / 2)
  case atStart => exact ⟨0, [], by omega, rfl, by simpa using OwnA.nil 25 _, by simp [blk], Frm.refl _ _⟩
  case round =>
    obtain ⟨k, sp, hk, rfl, o, nb, f⟩ := hrel
    obtain ⟨a3, c3, rfl, _, _⟩ := o.sl.form
    have htl : (l.take k).length = k := by simp; omega
    by_cases hlt : k < l.length
    · have q := f.heap HB.out (by simp)
      have c0 : wr.cell? ⟨g, 2 * k, none⟩ = some (.int .i64 l[k].1) := by rw [cell_of_heap q, List.getElem?_toArray, Nat.mul_comm, eas_get0 l k hlt]
      have c1 : wr.cell? ⟨g, 2 * k + 1, none⟩ = some (.int .i64 l[k].2) := by rw [cell_of_heap q, List.getElem?_toArray, Nat.mul_comm, eas_get1 l k hlt]
      have hts := setOf_step l k hlt
      generalize hx : l[k] = x at *
      have F := Lib.hid f
      generalize l.take k = T at *
      have TL := Lib.hid htl
      have O := Lib.hid o
      have N := Lib.hid nb
      have HT := Lib.hid hts
      have hk9 : (k : Int) < (l.length : Int) := by omega
      have e1 : IntKind.i64.wrap (2 * (k : Int) + 1) = 2 * (k : Int) + 1 := IntWalk.i64_in _ (by omega)
      have e2 : (2 * (k : Int)).toNat = 2 * k := by omega
      have e3 : (2 * (k : Int) + 1).toNat = 2 * k + 1 := by omega
      have e4 : decide (2 * (k : Int) + 1 < ((l.length * 2 : Nat) : Int)) = true := by simp; omega
      have b1 : (0 : Int) ≤ 2 * (k : Int) := by omega
      have b2 : 2 * (k : Int) < (l.length : Int) * 2 := by omega
      have b3 : (0 : Int) ≤ 2 * (k : Int) + 1 := by omega
      have b4 : 2 * (k : Int) + 1 < (l.length : Int) * 2 := by omega
      clear hx o nb f q hts htl
      go_wp2_with fail
      have o1 := O.out.keep (((Frm.refl [] wr).alloc (.cells #[.int .i64 x.1, .int .i64 x.2] 25)).drew) (by simp)
      have s1 : SlA ((wr.alloc (.cells #[.int .i64 x.1, .int .i64 x.2] 25)).drew) (.slice (some ⟨wr.heap.size, 0, none⟩) 1 1) [x] [] := sla_one (heap_alloc_at rfl)
      have hbn : T.length + [x].length ≤ 1000000000000 := by have := HL.out; have := TL.out; simp; omega
      have S1 := Lib.hid s1
      have O1 := Lib.hid o1
      have HBN := Lib.hid hbn
      clear s1 o1 hbn
      go_region_law ((refine step_append_ads AT O1.out S1.out HBN.out (by rfl) (.tmp 12) (.tmp 23) (by rfl) (by rfl) (by rfl) ?_; intro a4 cap4 w4 sp4 o4 f4 n4))
      all_goals
        have hnew : OfRel l w (.slice a4 (T.length + 1) cap4) (.int .i64 (2 * (k : Int) + 2)) w4 := ⟨k + 1, sp4, by omega, by go_num, by rw [HT.out]; simpa using o4, fun i hi => by
          rcases n4 i (by simpa using hi) with h | h
          · exact N.out i h
          · have := F.out.size; simp at h; omega, (((F.out.alloc _).drew).trans f4 (fun i hi => .inr (N.out i hi)))⟩
        have HNW := Lib.hid hnew
        have e5 : IntKind.i64.wrap (2 * (k : Int) + 2) = 2 * (k : Int) + 2 := IntWalk.i64_in _ (by omega)
        have e6 : (2 * (k : Int) + 2).toNat / 2 = k + 1 := by omega
        have E6 := Lib.hid e6
        have K9 := Lib.hid hk9
        clear hnew o4 f4 n4 e6 hk9 b1 b2 b3 b4 e1 e2 e3 e4
        go_wp2_with fail
        go_roundw
        case rel => exact HNW.out
        case measure => have := E6.out; have := K9.out; simp [intOf]; omega
    · obtain rfl : k = l.length := by omega
      have F := Lib.hid f
      rw [List.take_length] at o nb ⊢
      have N := Lib.hid nb
      have O := Lib.hid o
      have e1 : IntKind.i64.wrap (2 * (l.length : Int) + 1) = 2 * (l.length : Int) + 1 := IntWalk.i64_in _ (by omega)
      have e4 : decide (2 * (l.length : Int) + 1 < (l.length : Int) * 2) = false := by simp; omega
      clear f nb o htl
      go_wp2_with fail
      go_ret
      exact ⟨_, sp, rfl, O.out, F.out, N.out⟩
end Go.Proofs.Ytafedmahehbggaa
