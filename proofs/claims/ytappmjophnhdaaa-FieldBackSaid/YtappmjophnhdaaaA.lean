/-
  Contracts of a writer's New, made and add, for every memory; no conditions but those that each theorem names.
-/
import Derived.Test.YtappmjophnhdaaaRows
import Derived.Test.YtappmjophnhdaaaKB
import Derived.BigQuiet
import Derived.Deep.QuietTactic
import Derived.Deep.RegionWith
import Derived.LaidEqlPtr
import Derived.Lib.Hide
namespace Go.Proofs.Ytappmjophnhdaaa
open Go.RowKit
set_option linter.unusedVariables false
set_option linter.unusedSimpArgs false

theorem BT : ByteTys Try.prog 26 5 := ⟨Try.underlying26, Try.underlying5, by kernel_rfl⟩
theorem run_equalIn_nil_ptr {P : Program} (w : World) (d : Nat) {t te : TypeId} (q : Option Addr) (h : P.underlying t = some (.pointer te)) :
    (Op.equalIn (d + 1) t (.pointer none) (.pointer q)).run P w = .ok q.isNone w := by
  cases q <;> simp [Op.equalIn, run_underlying h]
theorem run_eql_nil_ptr {P : Program} (w : World) {t te : TypeId} (q : Option Addr) (h : P.underlying t = some (.pointer te)) :
    (binOp .eql t (.pointer none) (.pointer q)).run P w = .ok (.bool q.isNone) w := by
  simp only [binOp]
  simp [Op.equal, Op.maxDepth, run_equalIn_nil_ptr w 9999 q h]
theorem info57 : (Try.prog.info? 57).isSome = true := by kernel_rfl
theorem eqW (w : World) (a : Addr) : (binOp .eql 23 (.pointer (some a)) (.pointer (some a))).run Try.prog w = .ok (.bool true) w := by
  obtain ⟨j, hj⟩ := Option.isSome_iff_exists.1 info57
  exact run_eql_ptr_same w a Try.underlying23 hj
theorem eqW0 (w : World) (a : Addr) : (binOp .eql 23 (.pointer none) (.pointer (some a))).run Try.prog w = .ok (.bool false) w := run_eql_nil_ptr w _ Try.underlying23

theorem made_nil (w : World) :
    Calls Try.prog 48 #[.pointer none] w fun e w' => e = .returned (.bool false) ∧ w' = w := by
  go_enter Try.func48, Try.ntmps48
  go_wp2
  go_ret
  exact ⟨rfl, rfl⟩
theorem made_yes (b : Nat) (w : World) (h : w.cell? ⟨b, 0, none⟩ = some (.pointer (some ⟨b, 0, none⟩))) :
    Calls Try.prog 48 #[.pointer (some ⟨b, 0, none⟩)] w fun e w' => e = .returned (.bool true) ∧ w' = w := by
  have h1 := eqW
  go_enter Try.func48, Try.ntmps48
  go_wp2
  go_ret
  exact ⟨rfl, rfl⟩
theorem made_no (b : Nat) (w : World) (h : w.cell? ⟨b, 0, none⟩ = some (.pointer none)) :
    Calls Try.prog 48 #[.pointer (some ⟨b, 0, none⟩)] w fun e w' => e = .returned (.bool false) ∧ w' = w := by
  have h1 := eqW0
  go_enter Try.func48, Try.ntmps48
  go_wp2
  go_ret
  exact ⟨rfl, rfl⟩

/-- A writer's block: itself, its bytes, its error. -/
def Wr (w : World) (bw : Nat) (v : Value) (l sp : List UInt8) (e : Int) : Prop :=
  w.heap[bw]? = some (.cells #[.pointer (some ⟨bw, 0, none⟩), v, .int .i64 e] 57 (0, 0)) ∧ OwnB 5 w v l sp ∧ bw ∉ blk v
theorem Wr.keep {w w' : World} {bw : Nat} {v : Value} {l sp : List UInt8} {e : Int} {L : List Nat} (h : Wr w bw v l sp e) (f : Frm L w w') (h1 : bw ∉ L) (h2 : ∀ k ∈ blk v, k ∉ L) : Wr w' bw v l sp e :=
  ⟨f.heap h.1 h1, h.2.1.keep f h2, h.2.2⟩

theorem New_any (w : World) :
    Calls Try.prog 10 #[] w fun e w' => e = .returned (.pointer (some ⟨w.heap.size, 0, none⟩)) ∧ Wr w' w.heap.size (.slice none 0 0) [] [] 0 ∧ Frm [] w w' := by
  go_enter Try.func10, Try.ntmps10
  go_wp2
  go_ret
  exact ⟨rfl, ⟨heap_alloc_new _ _, OwnB.nil _ _, by simp [blk]⟩, (Frm.refl _ _).alloc _⟩

/-- A writer behind a call: its bytes and its error; nothing else that was there is changed. -/
def WrTo (w : World) (bw : Nat) (v : Value) (l : List UInt8) (e : Int) (w' : World) : Prop :=
  ∃ v' sp', Wr w' bw v' l sp' e ∧ Frm (bw :: blk v) w w' ∧ ∀ i ∈ blk v', i ∈ blk v ∨ w.heap.size ≤ i
theorem WrTo.same {w : World} {bw : Nat} {v : Value} {l sp : List UInt8} {e : Int} (h : Wr w bw v l sp e) : WrTo w bw v l e w := ⟨v, sp, h, Frm.refl _ _, fun i hi => .inl hi⟩
theorem add_fits (bw : Nat) (v x : Value) (l sp m msp : List UInt8) (e : Int) (w : World) (hW : Wr w bw v l sp e) (hS : SlB w x m msp) (hl : l.length + m.length ≤ 65536) :
    Calls Try.prog 68 #[.pointer (some ⟨bw, 0, none⟩), x] w fun r w' => r = .returned (.int .i64 0) ∧ WrTo w bw v (l ++ m) e w' := by
  obtain ⟨h1, h2, h3⟩ := hW
  obtain ⟨a, cap, rfl, hc1, hc2⟩ := h2.sl.form
  obtain ⟨b, cap2, rfl, hd1, hd2⟩ := hS.form
  have c1 : w.cell? ⟨bw, 1, none⟩ = some (.slice a l.length cap) := by rw [cell_of_heap h1]; rfl
  have hle : ¬ (65536 - (l.length : Int) < (m.length : Int)) := by omega
  have hlt := lt_heap h1
  have H1 := Lib.hid h1
  clear h1
  go_enter Try.func68, Try.ntmps68
  go_wp2_with (at_builtin; refine wpList_append_bytes BT h2 hS (by omega) rfl (.tmp 18) (.tmp 19) rfl rfl rfl ?_; intro a' cap' w' sp' o1 f1 b1; have d0 := f1.heap H1.out h3; have d1 : w'.cell? ⟨bw, 1, none⟩ = some (.slice a l.length cap) := (by rw [cell_of_heap d0]; rfl); have d2 : w'.frozen? ⟨bw, 1, none⟩ = false := frozen_of_heap d0 1; have D0 := Lib.hid d0; clear d0)
  go_ret
  have hne : bw ∉ blk (.slice a' (l.length + m.length) cap') := by
    intro hm
    rcases b1 _ hm with h | h
    · exact h3 h
    · omega
  refine ⟨rfl, _, sp', ⟨?_, ?_, hne⟩, ?_, b1⟩
  · rw [heap_setCell_same _ D0.out]; rfl
  · exact o1.keep ((Frm.refl [bw] _).setCell _ _ (by simp)) (fun k hk => by simp; rintro rfl; exact hne hk)
  · exact (f1.mono (fun i hi => .inl (List.mem_cons_of_mem _ hi))).setCell _ _ (by simp)
theorem add_long (bw : Nat) (v x : Value) (l sp m msp : List UInt8) (e : Int) (w : World) (hW : Wr w bw v l sp e) (hS : SlB w x m msp) (hl : 65536 < l.length + m.length) (hl2 : l.length ≤ 65536) :
    Calls Try.prog 68 #[.pointer (some ⟨bw, 0, none⟩), x] w fun r w' => r = .returned (.int .i64 3) ∧ w' = w := by
  obtain ⟨h1, h2, h3⟩ := hW
  obtain ⟨a, cap, rfl, hc1, hc2⟩ := h2.sl.form
  obtain ⟨b, cap2, rfl, hd1, hd2⟩ := hS.form
  have c1 : w.cell? ⟨bw, 1, none⟩ = some (.slice a l.length cap) := by rw [cell_of_heap h1]; rfl
  have hle : (65536 - (l.length : Int) < (m.length : Int)) := by omega
  clear h1
  go_enter Try.func68, Try.ntmps68
  go_wp2
  go_ret
  exact ⟨rfl, rfl⟩
end Go.Proofs.Ytappmjophnhdaaa
