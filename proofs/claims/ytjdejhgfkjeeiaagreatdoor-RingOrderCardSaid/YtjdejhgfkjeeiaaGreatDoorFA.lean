/-
  Contracts of the writer of field, and of the document's. No conditions but those that each theorem names.
-/
import Derived.Test.YtjdejhgfkjeeiaaGreatDoorRows
import Derived.Test.YtjdejhgfkjeeiaaGreatDoorKB
import Derived.BigQuiet
import Derived.Deep.QuietTactic
import Derived.Deep.RegionWith
import Derived.LaidEqlPtr
import Derived.Lib.Hide
import Derived.Deep.RegionHeld3
import Derived.IntWalk
import Derived.OpenShut
namespace Go.Proofs.YtjdejhgfkjeeiaaGreatDoor
open Go.RowKit
set_option linter.unusedVariables false
set_option maxRecDepth 100000
set_option linter.unusedSimpArgs false

theorem BT : ByteTys Tryz.prog 32 5 := ⟨Tryz.underlying32, Tryz.underlying5, by kernel_rfl⟩
theorem run_equalIn_nil_ptr {P : Program} (w : World) (d : Nat) {t te : TypeId} (q : Option Addr) (h : P.underlying t = some (.pointer te)) :
    (Op.equalIn (d + 1) t (.pointer none) (.pointer q)).run P w = .ok q.isNone w := by
  cases q <;> simp [Op.equalIn, run_underlying h]
theorem run_eql_nil_ptr {P : Program} (w : World) {t te : TypeId} (q : Option Addr) (h : P.underlying t = some (.pointer te)) :
    (binOp .eql t (.pointer none) (.pointer q)).run P w = .ok (.bool q.isNone) w := by
  simp only [binOp]
  simp [Op.equal, Op.maxDepth, run_equalIn_nil_ptr w 9999 q h]
theorem info57 : (Tryz.prog.info? 155).isSome = true := by kernel_rfl
theorem eqW (w : World) (a : Addr) : (binOp .eql 120 (.pointer (some a)) (.pointer (some a))).run Tryz.prog w = .ok (.bool true) w := by
  obtain ⟨j, hj⟩ := Option.isSome_iff_exists.1 info57
  exact run_eql_ptr_same w a Tryz.underlying120 hj
theorem eqW0 (w : World) (a : Addr) : (binOp .eql 120 (.pointer none) (.pointer (some a))).run Tryz.prog w = .ok (.bool false) w := run_eql_nil_ptr w _ Tryz.underlying120

theorem made_nil (w : World) :
    Calls Tryz.prog 137 #[.pointer none] w fun e w' => e = .returned (.bool false) ∧ w' = w := by
  go_enter Tryz.func137, Tryz.ntmps137
  go_wp2
  go_ret
  exact ⟨rfl, rfl⟩
theorem made_yes (b : Nat) (w : World) (h : w.cell? ⟨b, 0, none⟩ = some (.pointer (some ⟨b, 0, none⟩))) :
    Calls Tryz.prog 137 #[.pointer (some ⟨b, 0, none⟩)] w fun e w' => e = .returned (.bool true) ∧ w' = w := by
  have h1 := eqW
  go_enter Tryz.func137, Tryz.ntmps137
  go_wp2
  go_ret
  exact ⟨rfl, rfl⟩
theorem made_no (b : Nat) (w : World) (h : w.cell? ⟨b, 0, none⟩ = some (.pointer none)) :
    Calls Tryz.prog 137 #[.pointer (some ⟨b, 0, none⟩)] w fun e w' => e = .returned (.bool false) ∧ w' = w := by
  have h1 := eqW0
  go_enter Tryz.func137, Tryz.ntmps137
  go_wp2
  go_ret
  exact ⟨rfl, rfl⟩

/-- A writer's block: itself, its bytes, its error. -/
def Wr (w : World) (bw : Nat) (v : Value) (l sp : List UInt8) (e : Int) : Prop :=
  w.heap[bw]? = some (.cells #[.pointer (some ⟨bw, 0, none⟩), v, .int .i64 e] 155 (0, 0)) ∧ OwnB 5 w v l sp ∧ bw ∉ blk v
theorem Wr.keep {w w' : World} {bw : Nat} {v : Value} {l sp : List UInt8} {e : Int} {L : List Nat} (h : Wr w bw v l sp e) (f : Frm L w w') (h1 : bw ∉ L) (h2 : ∀ k ∈ blk v, k ∉ L) : Wr w' bw v l sp e :=
  ⟨f.heap h.1 h1, h.2.1.keep f h2, h.2.2⟩

theorem New_any (w : World) :
    Calls Tryz.prog 91 #[] w fun e w' => e = .returned (.pointer (some ⟨w.heap.size, 0, none⟩)) ∧ Wr w' w.heap.size (.slice none 0 0) [] [] 0 ∧ Frm [] w w' := by
  go_enter Tryz.func91, Tryz.ntmps91
  go_wp2
  go_ret
  exact ⟨rfl, ⟨heap_alloc_new _ _, OwnB.nil _ _, by simp [blk]⟩, (Frm.refl _ _).alloc _⟩

/-- A writer behind a call: its bytes and its error; nothing else that was there is changed. -/
def WrTo (w : World) (bw : Nat) (v : Value) (l : List UInt8) (e : Int) (w' : World) : Prop :=
  ∃ v' sp', Wr w' bw v' l sp' e ∧ Frm (bw :: blk v) w w' ∧ ∀ i ∈ blk v', i ∈ blk v ∨ w.heap.size ≤ i
theorem WrTo.same {w : World} {bw : Nat} {v : Value} {l sp : List UInt8} {e : Int} (h : Wr w bw v l sp e) : WrTo w bw v l e w := ⟨v, sp, h, Frm.refl _ _, fun i hi => .inl hi⟩
theorem add_fits (bw : Nat) (v x : Value) (l sp m msp : List UInt8) (e : Int) (w : World) (hW : Wr w bw v l sp e) (hS : SlB w x m msp) (hl : l.length + m.length ≤ 65536) :
    Calls Tryz.prog 132 #[.pointer (some ⟨bw, 0, none⟩), x] w fun r w' => r = .returned (.int .i64 0) ∧ WrTo w bw v (l ++ m) e w' := by
  obtain ⟨h1, h2, h3⟩ := hW
  obtain ⟨a, cap, rfl, hc1, hc2⟩ := h2.sl.form
  obtain ⟨b, cap2, rfl, hd1, hd2⟩ := hS.form
  have c1 : w.cell? ⟨bw, 1, none⟩ = some (.slice a l.length cap) := by rw [cell_of_heap h1]; rfl
  have hle : ¬ (65536 - (l.length : Int) < (m.length : Int)) := by omega
  have hlt := lt_heap h1
  have H1 := Lib.hid h1
  clear h1
  go_enter Tryz.func132, Tryz.ntmps132
  go_wp2_with (at_builtin; refine wpList_append_bytes BT h2 hS (by omega) rfl (.tmp 18) (.tmp 19) rfl rfl rfl ?_; intro a' cap' w' sp' o1 f1 b1; have d0 := f1.heap H1.out h3; have d1 : w'.cell? ⟨bw, 1, none⟩ = some (.slice a l.length cap) := (by rw [cell_of_heap d0]; rfl); have d2 : w'.frozen? ⟨bw, 1, none⟩ = false := frozen_of_heap d0 1; have D0 := Lib.hid d0; clear d0)
  go_ret
  have hne : bw ∉ blk (.slice a' (l.length + m.length) cap') := by
    intro hm
    rcases b1 _ hm with h | h
    · exact h3 h
    · omega
  refine ⟨rfl, _, sp', ⟨?_, ?_, hne⟩, ?_, b1⟩
  · rw [heap_setCell_same _ D0.out]; rfl
  · exact o1.keep ((Frm.refl [bw] _).setCell _ _ (by simp)) (fun k hk => by simp; rintro rfl; exact hne hk)
  · exact (f1.mono (fun i hi => .inl (List.mem_cons_of_mem _ hi))).setCell _ _ (by simp)
theorem add_long (bw : Nat) (v x : Value) (l sp m msp : List UInt8) (e : Int) (w : World) (hW : Wr w bw v l sp e) (hS : SlB w x m msp) (hl : 65536 < l.length + m.length) (hl2 : l.length ≤ 65536) :
    Calls Tryz.prog 132 #[.pointer (some ⟨bw, 0, none⟩), x] w fun r w' => r = .returned (.int .i64 3) ∧ w' = w := by
  obtain ⟨h1, h2, h3⟩ := hW
  obtain ⟨a, cap, rfl, hc1, hc2⟩ := h2.sl.form
  obtain ⟨b, cap2, rfl, hd1, hd2⟩ := hS.form
  have c1 : w.cell? ⟨bw, 1, none⟩ = some (.slice a l.length cap) := by rw [cell_of_heap h1]; rfl
  have hle : (65536 - (l.length : Int) < (m.length : Int)) := by omega
  clear h1
  go_enter Tryz.func132, Tryz.ntmps132
  go_wp2
  go_ret
  exact ⟨rfl, rfl⟩
end Go.Proofs.YtjdejhgfkjeeiaaGreatDoor

namespace Go.Proofs.YtjdejhgfkjeeiaaGreatDoor
open Go.RowKit
set_option linter.unusedVariables false
set_option maxRecDepth 100000
set_option linter.unusedSimpArgs false

/-- The k lowest bytes of a number, the highest first. -/
def beBytes (n : Nat) : Nat → List UInt8
  | 0 => []
  | k + 1 => UInt8.ofNat (n / 2 ^ (8 * k)) :: beBytes n k
theorem beBytes_length (n k : Nat) : (beBytes n k).length = k := by induction k <;> simp [beBytes, *]
theorem zeros_set (m : Nat) (L : List UInt8) (x : UInt8) : (List.replicate (m + 1) 0 ++ L).set m x = List.replicate m 0 ++ x :: L := by
  rw [List.replicate_succ', List.append_assoc, List.set_append_right _ _ (by simp)]
  simp
def NabRel (w : World) (n size : Nat) (c : Value) (wr : World) : Prop :=
  ∃ k : Nat, k ≤ size ∧ c = .int .i64 k ∧ OwnB 5 wr (.slice (some ⟨w.heap.size, 0, none⟩) size size) (List.replicate (size - k) 0 ++ beBytes n k) [] ∧ Frm [] w wr
set_option maxHeartbeats 400000 in
theorem nab_any (n : Nat) (size : Nat) (w : World) (h1 : 1 ≤ size) (h7 : size ≤ 7) (hn : n < 2 ^ (8 * size)) :
    Calls Tryz.prog 135 #[.int .i64 n, .int .i64 size] w fun r w' => r = .returned (.slice (some ⟨w.heap.size, 0, none⟩) size size) ∧
      OwnB 5 w' (.slice (some ⟨w.heap.size, 0, none⟩) size size) (beBytes n size) [] ∧ Frm [] w w' := by
  go_enter Tryz.func135, Tryz.ntmps135
  go_wp2_with (at_make; refine wpList_make_bytes BT size (by omega) rfl (.tmp 7) (.tmp 7) rfl rfl rfl rfl rfl ?_; intro w1 o1 f1)
  go_loopw [11] (NabRel w n size) (fun c _ => size - (intOf c).toNat)
  case atStart => exact ⟨0, by omega, rfl, by simpa [beBytes] using o1, f1⟩
  case round =>
    obtain ⟨k, hk, rfl, o2, f2⟩ := hrel
    by_cases hlt : k < size
    · have hc := o2.cell (size - 1 - k) (by simp [beBytes_length]; omega)
      have hf := o2.frozen (size - 1 - k)
      unfold bv at hc
      go_wp2
      refine ⟨⟨k + 1, by omega, by go_num, ?_, f2.setCell _ _ (.inr (Nat.le_refl _))⟩, by simp [intOf]; omega⟩
      have := o2.store (size - 1 - k) (by simp [beBytes_length]; omega) (UInt8.ofNat (n / 2 ^ (8 * k))) rfl
      rw [show size - k = (size - 1 - k) + 1 by omega, zeros_set] at this
      rw [show size - (k + 1) = size - 1 - k by omega]
      simpa [beBytes, bv] using this
    · obtain rfl : k = size := by omega
      go_wp2
      go_ret
      exact ⟨rfl, by simpa using o2, f2⟩

def textBytes (s : List UInt8) (most : Nat) : List UInt8 := UInt8.ofNat s.length :: (s ++ List.replicate (most - s.length) 0)
theorem textBytes_length (s : List UInt8) (most : Nat) (h : s.length ≤ most) : (textBytes s most).length = 1 + most := by simp [textBytes]; omega
end Go.Proofs.YtjdejhgfkjeeiaaGreatDoor

namespace Go.Proofs.YtjdejhgfkjeeiaaGreatDoor
open Go.RowKit
set_option linter.unusedVariables false
set_option maxRecDepth 100000
set_option linter.unusedSimpArgs false

def isSizeB (n : Int) : Bool := decide (1 ≤ n) && decide (n ≤ 7)
theorem isSize_any (n : Int) (w : World) :
    Calls Tryz.prog 134 #[.int .i64 n] w fun e w' => e = .returned (.bool (isSizeB n)) ∧ w' = w := by
  by_cases h1 : 1 ≤ n
  · have hb : isSizeB n = decide (n ≤ 7) := by simp [isSizeB, h1]
    rw [hb]; clear hb
    go_enter Tryz.func134, Tryz.ntmps134
    go_wp2
    go_ret
    exact ⟨rfl, rfl⟩
  · have hb : isSizeB n = false := by simp [isSizeB, h1]
    rw [hb]; clear hb
    go_enter Tryz.func134, Tryz.ntmps134
    go_wp2
    go_ret
    exact ⟨rfl, rfl⟩
def isMostB (n : Int) : Bool := decide (0 ≤ n) && decide (n ≤ 255)
/-- What is written behind bytes: the bytes then, and the error. -/
def addStep (l m : List UInt8) : List UInt8 × Int := if l.length + m.length ≤ 65536 then (l ++ m, 0) else (l, 3)
def numStep (l : List UInt8) (n size : Int) : List UInt8 × Int :=
  if isSizeB size = false then (l, 2) else if n < 0 ∨ 2 ^ (8 * size.toNat) ≤ n then (l, 5) else addStep l (beBytes n.toNat size.toNat)
theorem add_any (bw : Nat) (v x : Value) (l sp m msp : List UInt8) (e : Int) (w : World) (hW : Wr w bw v l sp e) (hS : SlB w x m msp) (hl : l.length ≤ 65536) :
    Calls Tryz.prog 132 #[.pointer (some ⟨bw, 0, none⟩), x] w fun r w' => r = .returned (.int .i64 (addStep l m).2) ∧ WrTo w bw v (addStep l m).1 e w' := by
  unfold addStep
  split
  · exact add_fits bw v x l sp m msp e w hW hS ‹_›
  · exact (add_long bw v x l sp m msp e w hW hS (by omega) hl).mono fun r w' ⟨h1, h2⟩ => ⟨h1, by subst h2; exact WrTo.same hW⟩
theorem WrTo.cell {w w' : World} {bw : Nat} {v : Value} {l : List UInt8} {e : Int} (h : WrTo w bw v l e w') {p : Addr} {x : Value} (hc : w.cell? p = some x) (hn : p.block ∉ bw :: blk v) : w'.cell? p = some x := by
  obtain ⟨v', sp', _, f, _⟩ := h
  exact f.cell hc hn
/-- A writer behind two steps, the first of which wrote nothing that was there. -/
theorem WrTo.behind {w w1 w' : World} {bw : Nat} {v : Value} {l : List UInt8} {e : Int} (f : Frm [] w w1) (h : WrTo w1 bw v l e w') : WrTo w bw v l e w' := by
  obtain ⟨v', sp', h1, h2, h3⟩ := h
  exact ⟨v', sp', h1, (f.mono (by simp)).trans h2 (fun i hi => .inl hi), fun i hi => (h3 i hi).imp id (fun h => Nat.le_trans f.size h)⟩
set_option maxHeartbeats 1000000 in
theorem num1_any (bn bs bp bw : Nat) (v : Value) (l sp : List UInt8) (e n size : Int) (w : World) (hW : Wr w bw v l sp e) (hl : l.length ≤ 65536)
    (c1 : w.cell? ⟨bs, 0, none⟩ = some (.int .i64 size)) (c2 : w.cell? ⟨bn, 0, none⟩ = some (.int .i64 n)) (c3 : w.cell? ⟨bp, 0, none⟩ = some (.pointer (some ⟨bw, 0, none⟩))) (hn : n ≤ 9223372036854775807)
    (d1 : bs ∉ bw :: blk v) (d2 : bn ∉ bw :: blk v) (d3 : bp ∉ bw :: blk v) :
    Calls Tryz.prog 133 #[.pointer (some ⟨bs, 0, none⟩), .pointer (some ⟨bn, 0, none⟩), .pointer (some ⟨bp, 0, none⟩)] w fun r w' =>
      r = .returned (.int .i64 (numStep l n size).2) ∧ WrTo w bw v (numStep l n size).1 e w' := by
  by_cases hs : isSizeB size = false
  · have hr : numStep l n size = (l, 2) := by simp [numStep, hs]
    rw [hr]
    have hw := WrTo.same hW
    clear hr
    go_enter Tryz.func133, Tryz.ntmps133
    go_wp2_with (go_at_call 134; refine (isSize_any _ _).mono ?_; rintro e w' ⟨rfl, rfl⟩)
    go_ret
    exact ⟨rfl, hw⟩
  · have hs' : isSizeB size = true := by simpa using hs
    have hb : 1 ≤ size ∧ size ≤ 7 := by simpa [isSizeB] using hs'
    obtain ⟨hb1, hb2⟩ := hb
    clear hs
    obtain ⟨s, rfl⟩ := Int.eq_ofNat_of_zero_le (show 0 ≤ size by omega)
    by_cases h0 : n < 0
    · have hr : numStep l n s = (l, 5) := by simp [numStep, hs', h0]
      rw [hr]
      have hw := WrTo.same hW
      clear hr
      go_enter Tryz.func133, Tryz.ntmps133
      go_wp2_with (go_at_call 134; refine (isSize_any _ _).mono ?_; rintro e w' ⟨rfl, rfl⟩)
      go_ret
      exact ⟨rfl, hw⟩
    · obtain ⟨k, rfl⟩ := Int.eq_ofNat_of_zero_le (show 0 ≤ n by omega)
      clear h0
      by_cases hk : 2 ^ (8 * s) ≤ k
      · have hr : numStep l k s = (l, 5) := by
          have : (2 : Int) ^ (8 * s) ≤ k := by exact_mod_cast hk
          simp [numStep, hs', this]
        rw [hr]
        have hw := WrTo.same hW
        have hq : 0 < (k : Int) / 2 ^ (8 * s) := by
          have : 0 < k / 2 ^ (8 * s) := Nat.div_pos hk (Nat.two_pow_pos _)
          exact_mod_cast this
        clear hr hk
        go_enter Tryz.func133, Tryz.ntmps133
        go_wp2_with (go_at_call 134; refine (isSize_any _ _).mono ?_; rintro e w' ⟨rfl, rfl⟩)
        go_ret
        exact ⟨rfl, hw⟩
      · have hr : numStep l k s = addStep l (beBytes k s) := by
          have : ¬ (2 : Int) ^ (8 * s) ≤ k := by exact_mod_cast hk
          have h00 : ¬ (k : Int) < 0 := by omega
          simp [numStep, hs', this, h00]
        rw [hr]
        have hq : (k : Int) / 2 ^ (8 * s) ≤ 0 := by
          have : k / 2 ^ (8 * s) = 0 := Nat.div_eq_of_lt (by omega)
          exact_mod_cast Nat.le_of_eq this
        clear hr
        have hk2 : k < 2 ^ (8 * s) := by omega
        clear hk
        go_enter Tryz.func133, Tryz.ntmps133
        go_wp2_with (go_at_call 134; refine (isSize_any _ _).mono ?_; rintro e w' ⟨rfl, rfl⟩)
        go_region_held3 (fun x => x.cell? ⟨bs, 0, none⟩ = some (.int .i64 s) ∧ x.cell? ⟨bn, 0, none⟩ = some (.int .i64 k) ∧ x.cell? ⟨bp, 0, none⟩ = some (.pointer (some ⟨bw, 0, none⟩)))
          (first | go_keep | (go_split_ands; exact ⟨f1.cell ‹_› (by simp), f1.cell ‹_› (by simp), f1.cell ‹_› (by simp)⟩) | (go_split_ands; exact ⟨f2.cell ‹_› d1, f2.cell ‹_› d2, f2.cell ‹_› d3⟩))
          (first | (go_at_call 135; refine (nab_any k s _ (by omega) (by omega) hk2).mono ?_; rintro r w1 ⟨rfl, o1, f1⟩) | (go_at_call 132; refine (add_any bw v _ l sp _ [] e _ (hW.keep ((Frm.refl [] _).drew.trans f1 (by simp)) (by simp) (by simp)) o1.sl hl).mono ?_; rintro r w2 ⟨rfl, f2⟩))
        go_wp2
        go_ret
        exact ⟨rfl, f2.behind ((Frm.refl [] _).drew.trans f1 (by simp))⟩
end Go.Proofs.YtjdejhgfkjeeiaaGreatDoor

namespace Go.Proofs.YtjdejhgfkjeeiaaGreatDoor
open Go.RowKit
set_option linter.unusedVariables false
set_option maxRecDepth 100000
set_option linter.unusedSimpArgs false

def textStep (l s : List UInt8) (most : Int) : List UInt8 × Int :=
  if isMostB most = false then (l, 2) else if most < s.length then (l, 3) else addStep l (textBytes s most.toNat)
theorem raw1_any (bp bb bw : Nat) (v x : Value) (l sp m msp : List UInt8) (e : Int) (w : World) (hW : Wr w bw v l sp e) (hS : SlB w x m msp) (hl : l.length ≤ 65536)
    (c1 : w.cell? ⟨bb, 0, none⟩ = some x) (c3 : w.cell? ⟨bp, 0, none⟩ = some (.pointer (some ⟨bw, 0, none⟩))) :
    Calls Tryz.prog 131 #[.pointer (some ⟨bp, 0, none⟩), .pointer (some ⟨bb, 0, none⟩)] w fun r w' =>
      r = .returned (.int .i64 (addStep l m).2) ∧ WrTo w bw v (addStep l m).1 e w' := by
  obtain ⟨a, cap, rfl, _, _⟩ := hS.form
  go_enter Tryz.func131, Tryz.ntmps131
  go_wp2_with (go_at_call 132; refine (add_any bw v _ l sp _ _ e _ hW hS hl).mono ?_; rintro r w2 ⟨rfl, f2⟩)
  go_ret
  exact ⟨rfl, f2⟩

theorem WrTo.drewN {w w' : World} {bw : Nat} {v : Value} {l : List UInt8} {e : Int} (h : WrTo w bw v l e w') (n : Nat) : WrTo w bw v l e (w'.drewN n) := by
  obtain ⟨v', sp', h1, h2, h3⟩ := h
  exact ⟨v', sp', h1.keep ((Frm.refl [] _).drewN n) (by simp) (by simp), h2.drewN n, h3⟩
end Go.Proofs.YtjdejhgfkjeeiaaGreatDoor

namespace Go.Proofs.YtjdejhgfkjeeiaaGreatDoor
open Go.RowKit
set_option linter.unusedVariables false
set_option linter.unusedSimpArgs false
def padStep (l : List UInt8) (to : Int) : List UInt8 × Int := if 65536 < to ∨ to < l.length then (l, 2) else addStep l (List.replicate (to.toNat - l.length) 0)
set_option maxRecDepth 100000 in
set_option maxHeartbeats 1000000 in
theorem pad1_any (bt bp bw : Nat) (v : Value) (l sp : List UInt8) (e to : Int) (w : World) (hW : Wr w bw v l sp e) (hl : l.length ≤ 65536)
    (c1 : w.cell? ⟨bt, 0, none⟩ = some (.int .i64 to)) (c3 : w.cell? ⟨bp, 0, none⟩ = some (.pointer (some ⟨bw, 0, none⟩)))
    (d1 : bt ∉ bw :: blk v) (d3 : bp ∉ bw :: blk v) :
    Calls Tryz.prog 136 #[.pointer (some ⟨bt, 0, none⟩), .pointer (some ⟨bp, 0, none⟩)] w fun r w' =>
      r = .returned (.int .i64 (padStep l to).2) ∧ WrTo w bw v (padStep l to).1 e w' := by
  have hW' := hW
  obtain ⟨h1, h2, h3⟩ := hW'
  obtain ⟨a, cap, rfl, hc1, hc2⟩ := h2.sl.form
  have c2 : w.cell? ⟨bw, 1, none⟩ = some (.slice a l.length cap) := by rw [cell_of_heap h1]; rfl
  have H1 := Lib.hid h1
  clear h1
  by_cases hs : 65536 < to
  · have hr : padStep l to = (l, 2) := by simp [padStep, hs]
    rw [hr]
    have hw := WrTo.same hW
    clear hr
    have hq : decide ((65536 : Int) < to) = true := by simp [hs]
    go_enter Tryz.func136, Tryz.ntmps136
    go_wp2
    go_quiet (fail)
    go_wp2
    go_ret
    exact ⟨rfl, hw.drewN _⟩
  · have hq : decide ((65536 : Int) < to) = false := by simp; omega
    by_cases h2' : to < l.length
    · have hr : padStep l to = (l, 2) := by simp [padStep, h2']
      rw [hr]
      have hw := WrTo.same hW
      clear hr
      go_enter Tryz.func136, Tryz.ntmps136
      go_wp2
      go_quiet (fail)
      go_wp2
      go_ret
      exact ⟨rfl, hw.drewN _⟩
    · have hr : padStep l to = addStep l (List.replicate (to.toNat - l.length) 0) := by simp [padStep, hs, h2']
      rw [hr]
      obtain ⟨k, rfl⟩ := Int.eq_ofNat_of_zero_le (show 0 ≤ to by omega)
      have hle : ¬ (k : Int) < (l.length : Int) := by omega
      have hk1 : (k : Int) ≤ 65536 := by omega
      have hk2 : l.length ≤ k := by omega
      simp only [Int.toNat_natCast]
      clear hr hs h2'
      go_enter Tryz.func136, Tryz.ntmps136
      go_wp2
      go_quiet (fail)
      go_wp2
      have hin : -9223372036854775808 ≤ (k : Int) - (l.length : Int) ∧ (k : Int) - (l.length : Int) ≤ 9223372036854775807 := by omega
      have hkn : k - l.length ≤ 281474976710656 := by omega
      have hwr : IntKind.i64.wrap ((k : Int) - (l.length : Int)) = ((k - l.length : Nat) : Int) := by rw [IntWalk.i64_in _ hin]; omega
      clear hin
      go_region_with (first | (refine upon_make_bytes BT (k - l.length) hkn ?_; intro w1 o1 f1; have q1 : w1.cell? ⟨bp, 0, none⟩ = some (.pointer (some ⟨bw, 0, none⟩)) := f1.cell c3 (by simp)) | (go_at_call 132; refine (add_any bw _ _ l sp _ [] e _ (hW.keep (((Frm.refl [] _).drewN _).trans f1 (by simp)) (by simp) (by simp)) o1.sl hl).mono ?_; rintro r w2 ⟨rfl, f2⟩))
      all_goals go_wp2
      all_goals go_ret
      all_goals exact ⟨rfl, f2.behind (((Frm.refl [] _).drewN _).trans f1 (by simp))⟩
end Go.Proofs.YtjdejhgfkjeeiaaGreatDoor

namespace Go.Proofs.YtjdejhgfkjeeiaaGreatDoor
open Go.RowKit
set_option linter.unusedVariables false
set_option maxRecDepth 100000
set_option linter.unusedSimpArgs false

/-- What is written where there is no error yet. -/
def wStep (s : List UInt8 × Int) (f : List UInt8 → List UInt8 × Int) : List UInt8 × Int := if s.2 = 0 then f s.1 else s
theorem wStep_at (l : List UInt8) (e : Int) (f : List UInt8 → List UInt8 × Int) : (wStep (l, e) f).1 = (if e = 0 then (f l).1 else l) ∧ (wStep (l, e) f).2 = (if e = 0 then (f l).2 else e) := by
  unfold wStep; split <;> simp_all
set_option maxHeartbeats 1000000 in
theorem unless_any (K : FuncId) (cap : Array Value) (bw : Nat) (v : Value) (l sp : List UInt8) (e : Int) (f : List UInt8 → List UInt8 × Int) (w : World) (hW : Wr w bw v l sp e)
    (hcf : ∀ w, (callFunc K cap).run Tryz.prog w = .ok (.enter K cap) w) (hput : e = 0 → Calls Tryz.prog K cap w fun r w' => r = .returned (.int .i64 (f l).2) ∧ WrTo w bw v (f l).1 0 w') :
    Calls Tryz.prog 130 #[.pointer (some ⟨bw, 0, none⟩), .func (.func K) #[] cap] w fun r w' => r = .returned (.tuple #[]) ∧ WrTo w bw v (wStep (l, e) f).1 (wStep (l, e) f).2 w' := by
  rw [(wStep_at l e f).1, (wStep_at l e f).2]
  have hW' := hW
  obtain ⟨h1, h2, h3⟩ := hW'
  have c0 : w.cell? ⟨bw, 0, none⟩ = some (.pointer (some ⟨bw, 0, none⟩)) := by rw [cell_of_heap h1]; rfl
  have c2 : w.cell? ⟨bw, 2, none⟩ = some (.int .i64 e) := by rw [cell_of_heap h1]; rfl
  have H1 := Lib.hid h1
  clear h1
  by_cases he : e = 0
  · have hp := Lib.hid (hput he)
    rw [if_pos he, if_pos he]
    subst he
    clear hput
    go_enter Tryz.func130, Tryz.ntmps130
    go_wp2_with (go_at_call 137; refine (made_yes bw _ c0).mono ?_; rintro r w' ⟨rfl, rfl⟩)
    refine hp.out.mono ?_
    rintro r w1 ⟨rfl, v', sp', hv, f1, b1⟩
    have g1 := f1
    have z2 : w1.frozen? ⟨bw, 2, none⟩ = false := frozen_of_heap hv.1 2
    have y2 : w1.cell? ⟨bw, 2, none⟩ = some (.int .i64 0) := by rw [cell_of_heap hv.1]; rfl
    go_wp2
    go_end0
    refine ⟨rfl, v', sp', ⟨?_, ?_, hv.2.2⟩, ?_, b1⟩
    · rw [heap_setCell_same _ hv.1]; rfl
    · exact hv.2.1.keep ((Frm.refl [bw] _).setCell _ _ (by simp)) (fun k hk => by simp; rintro rfl; exact hv.2.2 hk)
    · exact f1.setCell _ _ (by simp)
  · rw [if_neg he, if_neg he]
    have hq : (e == 0) = false := by simpa using he
    have hw := WrTo.same hW
    clear hput he
    go_enter Tryz.func130, Tryz.ntmps130
    go_wp2_with (go_at_call 137; refine (made_yes bw _ c0).mono ?_; rintro r w' ⟨rfl, rfl⟩)
    go_end0
    exact ⟨rfl, hw⟩
theorem enter_of {P : Program} {f : FuncId} {fn : Func} (hf : P.funcs[f]? = some fn) (hname : (fn.name == "runtime.NumGoroutine") = false) (hb : fn.body.isSome = true) (args : Array Value) (w : World) :
    (callFunc f args).run P w = .ok (.enter f args) w := by
  have h1 : fn.name ≠ "runtime.NumGoroutine" := by simpa using hname
  obtain ⟨c, hc⟩ := Option.isSome_iff_exists.1 hb
  simp [callFunc, hf, h1, hc]
theorem Wr.lt {w : World} {bw : Nat} {v : Value} {l sp : List UInt8} {e : Int} (h : Wr w bw v l sp e) : ∀ k ∈ bw :: blk v, k < w.heap.size := by
  intro k hk
  rcases List.mem_cons.1 hk with rfl | hk
  · exact lt_heap h.1
  · exact h.2.1.lt k hk
set_option maxHeartbeats 1000000 in
theorem Num_any (bw : Nat) (v : Value) (l sp : List UInt8) (e n size : Int) (w : World) (hW : Wr w bw v l sp e) (hl : l.length ≤ 65536) (hn : n ≤ 9223372036854775807) :
    Calls Tryz.prog 93 #[.pointer (some ⟨bw, 0, none⟩), .int .i64 n, .int .i64 size] w fun r w' => r = .returned (.tuple #[]) ∧
      WrTo w bw v (wStep (l, e) (numStep · n size)).1 (wStep (l, e) (numStep · n size)).2 w' := by
  have f3 : ∀ x y z, Frm [] w (((w.alloc x).alloc y).alloc z) := fun x y z => (((Frm.refl [] w).alloc _).alloc _).alloc _
  have hlt := hW.lt
  have nb : ∀ k, w.heap.size ≤ k → k ∉ bw :: blk v := fun k hk hm => by have := hlt k hm; omega
  have H1 := Lib.hid hlt
  have H2 := Lib.hid nb
  clear hlt nb
  go_enter Tryz.func93, Tryz.ntmps93
  go_wp2_with fail
  refine (unless_any 133 _ bw v l sp e (numStep · n size) _ (hW.keep (f3 _ _ _) (by simp) (by simp)) (fun w => enter_of Tryz.func133 (by kernel_rfl) (by kernel_rfl) _ w) (fun he => ?_)).mono ?_
  · refine num1_any _ _ _ bw v l sp 0 n size _ (by subst he; exact hW.keep (f3 _ _ _) (by simp) (by simp)) hl ?_ ?_ ?_ hn (H2.out _ ?_) (H2.out _ ?_) (H2.out _ ?_)
    all_goals first | (simp [go_sem]; done) | (simp; done) | (simp; omega) | omega
  · rintro r w' ⟨rfl, hw⟩
    go_wp2
    go_end0
    exact ⟨rfl, hw.behind (f3 _ _ _)⟩
end Go.Proofs.YtjdejhgfkjeeiaaGreatDoor

namespace Go.Proofs.YtjdejhgfkjeeiaaGreatDoor
open Go.RowKit
set_option linter.unusedVariables false
set_option maxRecDepth 100000
set_option linter.unusedSimpArgs false

set_option maxHeartbeats 1000000 in
theorem Raw_any (bw : Nat) (v x : Value) (l sp m msp : List UInt8) (e : Int) (w : World) (hW : Wr w bw v l sp e) (hl : l.length ≤ 65536) (hS : SlB w x m msp) :
    Calls Tryz.prog 92 #[.pointer (some ⟨bw, 0, none⟩), x] w fun r w' => r = .returned (.tuple #[]) ∧
      WrTo w bw v (wStep (l, e) (addStep · m)).1 (wStep (l, e) (addStep · m)).2 w' := by
  obtain ⟨a, cap, rfl, _, _⟩ := hS.form
  have f3 : ∀ x y, Frm [] w ((w.alloc x).alloc y) := fun x y => ((Frm.refl [] w).alloc _).alloc _
  go_enter Tryz.func92, Tryz.ntmps92
  go_wp2_with fail
  refine (unless_any 131 _ bw v l sp e (addStep · m) _ (hW.keep (f3 _ _) (by simp) (by simp)) (fun w => enter_of Tryz.func131 (by kernel_rfl) (by kernel_rfl) _ w) (fun he => ?_)).mono ?_
  · refine raw1_any _ _ bw v _ l sp m msp 0 _ (by subst he; exact hW.keep (f3 _ _) (by simp) (by simp)) (hS.keep (f3 _ _) (by simp)) hl ?_ ?_
    all_goals first | (simp [go_sem]; done) | (simp; done) | (simp; omega) | omega
  · rintro r w' ⟨rfl, hw⟩
    go_wp2
    go_end0
    exact ⟨rfl, hw.behind (f3 _ _)⟩
set_option maxHeartbeats 1000000 in
theorem Pad_any (bw : Nat) (v : Value) (l sp : List UInt8) (e to : Int) (w : World) (hW : Wr w bw v l sp e) (hl : l.length ≤ 65536) :
    Calls Tryz.prog 94 #[.pointer (some ⟨bw, 0, none⟩), .int .i64 to] w fun r w' => r = .returned (.tuple #[]) ∧
      WrTo w bw v (wStep (l, e) (padStep · to)).1 (wStep (l, e) (padStep · to)).2 w' := by
  have f3 : ∀ x y, Frm [] w ((w.alloc x).alloc y) := fun x y => ((Frm.refl [] w).alloc _).alloc _
  have hlt := hW.lt
  have nb : ∀ k, w.heap.size ≤ k → k ∉ bw :: blk v := fun k hk hm => by have := hlt k hm; omega
  have H2 := Lib.hid nb
  clear hlt nb
  go_enter Tryz.func94, Tryz.ntmps94
  go_wp2_with fail
  refine (unless_any 136 _ bw v l sp e (padStep · to) _ (hW.keep (f3 _ _) (by simp) (by simp)) (fun w => enter_of Tryz.func136 (by kernel_rfl) (by kernel_rfl) _ w) (fun he => ?_)).mono ?_
  · refine pad1_any _ _ bw v l sp 0 to _ (by subst he; exact hW.keep (f3 _ _) (by simp) (by simp)) hl ?_ ?_ (H2.out _ ?_) (H2.out _ ?_)
    all_goals first | (simp [go_sem]; done) | (simp; done) | (simp; omega) | omega
  · rintro r w' ⟨rfl, hw⟩
    go_wp2
    go_end0
    exact ⟨rfl, hw.behind (f3 _ _)⟩

/-- slices.Clone of bytes: new memory, or none. -/
def Fresh (w : World) (v : Value) : Prop := ∀ k ∈ blk v, w.heap.size ≤ k
theorem eqSl (w : World) (a : Option Addr) (n c : Nat) : (binOp .eql 32 (.slice a n c) (.slice none 0 0)).run Tryz.prog w = .ok (.bool a.isNone) w := Lib.run_eql_slice_nil w 32 5 a n c 0 0 Tryz.underlying32
def Cloned (w : World) (l : List UInt8) (r : Ending) (w' : World) : Prop := ∃ a cap sp', r = .returned (.slice a l.length cap) ∧ OwnB 5 w' (.slice a l.length cap) l sp' ∧ Frm [] w w' ∧ Fresh w (.slice a l.length cap)
theorem Clone_any (v : Value) (l sp : List UInt8) (w : World) (hS : SlB w v l sp) (hl : l.length ≤ 140737488355328) :
    Calls Tryz.prog 138 #[v] w fun r w' => Cloned w l r w' := by
  have hS' := hS
  have he := eqSl
  have hS3 := hS
  obtain ⟨h1, ⟨rfl, h2, h3⟩ | ha⟩ := hS'
  · obtain rfl : l = [] := List.eq_nil_of_length_eq_zero h2
    go_enter Tryz.func138, Tryz.ntmps138
    go_wp2_with fail
    go_ret
    exact ⟨none, 0, [], rfl, OwnB.nil _ _, Frm.refl _ _, by simp [Fresh, blk]⟩
  · have hS2 := Lib.hid hS
    obtain ⟨ad, cap, rfl⟩ : ∃ ad cap, v = .slice (some ad) l.length cap := by
      rcases ha with ⟨a, rfl, h2, h3⟩ | ⟨b, off, cap, rfl, _⟩
      · exact ⟨a, 0, by rw [h2]⟩
      · exact ⟨_, cap, rfl⟩
    clear hS h1 ha hS3
    have o0 : OwnB 5 (w.alloc (.cells #[] 5)) (.slice (some ⟨w.heap.size, 0, none⟩) 0 0) [] [] := OwnB.of_heap (heap_alloc_new _ _) rfl rfl (by simp)
    have f0 : Frm [] w (w.alloc (.cells #[] 5)) := (Frm.refl _ _).alloc _
    go_enter Tryz.func138, Tryz.ntmps138
    go_wp2_with (at_builtin; refine wpList_append_bytes BT o0 (hS2.out.keep f0 (by simp)) (by simp; omega) rfl (.tmp 5) (.tmp 6) rfl rfl rfl ?_; intro a' cap' w' sp' o1 f1 b1)
    go_ret
    refine ⟨a', cap', sp', by simp, by simpa using o1, f0.trans f1 (by simp [blk]), ?_⟩
    intro k hk
    rcases b1 k (by simpa using hk) with h | h
    · simp [blk] at h; omega
    · simp at h; omega
end Go.Proofs.YtjdejhgfkjeeiaaGreatDoor

namespace Go.Proofs.YtjdejhgfkjeeiaaGreatDoor
open Go.RowKit
set_option linter.unusedVariables false
set_option maxRecDepth 100000
set_option linter.unusedSimpArgs false

/-- What Out tells of bytes: nothing with an error. -/
def outB (l : List UInt8) (e : Int) : List UInt8 := if e = 0 then l else []
/-- What Out tells: the error, or a copy of the bytes. -/
def Outs (w : World) (l : List UInt8) (e : Int) (r : Ending) (w' : World) : Prop :=
  ∃ a cap sp', r = .returned (.tuple #[.slice a (outB l e).length cap, .int .i64 e]) ∧ OwnB 5 w' (.slice a (outB l e).length cap) (outB l e) sp' ∧ Frm [] w w' ∧ Fresh w (.slice a (outB l e).length cap)
set_option maxHeartbeats 1000000 in
theorem Out_any (bw : Nat) (v : Value) (l sp : List UInt8) (e : Int) (w : World) (hW : Wr w bw v l sp e) (hl : l.length ≤ 65536) :
    Calls Tryz.prog 95 #[.pointer (some ⟨bw, 0, none⟩)] w fun r w' => Outs w l e r w' := by
  obtain ⟨h1, h2, h3⟩ := hW
  obtain ⟨a, cap, rfl, hc1, hc2⟩ := h2.sl.form
  have c0 : w.cell? ⟨bw, 0, none⟩ = some (.pointer (some ⟨bw, 0, none⟩)) := by rw [cell_of_heap h1]; rfl
  have c1 : w.cell? ⟨bw, 1, none⟩ = some (.slice a l.length cap) := by rw [cell_of_heap h1]; rfl
  have c2 : w.cell? ⟨bw, 2, none⟩ = some (.int .i64 e) := by rw [cell_of_heap h1]; rfl
  clear h1
  by_cases he : e = 0
  · subst he
    go_enter Tryz.func95, Tryz.ntmps95
    go_wp2_with (first | (go_at_call 137; refine (made_yes bw _ c0).mono ?_; rintro r w' ⟨rfl, rfl⟩) | (go_at_call 138; refine (Clone_any _ l sp _ h2.sl (by omega)).mono ?_; rintro r w1 ⟨a', cap', sp', rfl, o1, f1, b1⟩))
    go_ret2
    exact ⟨a', cap', sp', by simp [outB], by simpa [outB] using o1, f1, by simpa [outB] using b1⟩
  · have hq : (e != 0) = true := by simpa using he
    have hE := Lib.hid he
    clear he
    go_enter Tryz.func95, Tryz.ntmps95
    go_wp2_with (first | (go_at_call 137; refine (made_yes bw _ c0).mono ?_; rintro r w' ⟨rfl, rfl⟩))
    go_quiet (fail)
    go_wp2
    go_ret2
    exact ⟨none, 0, [], by simp [outB, hE.out], by simpa [outB, hE.out] using OwnB.nil _ _, (Frm.refl _ _).drewN _, by simp [Fresh, blk]⟩
theorem Same_any (v x : Value) (l sp m msp : List UInt8) (w : World) (h1 : SlB w v l sp) (h2 : SlB w x m msp) :
    Calls Tryz.prog 18 #[v, x] w fun r w' => r = .returned (.bool (l == m)) ∧ w' = w := by
  obtain ⟨a, cap, rfl, _, _⟩ := h1.form
  obtain ⟨a2, cap2, rfl, _, _⟩ := h2.form
  have e1 := convert_bytes BT h1 Tryz.underlying9
  have e2 := convert_bytes BT h2 Tryz.underlying9
  go_enter Tryz.func18, Tryz.ntmps18
  go_wp2
  go_ret
  exact ⟨rfl, rfl⟩
/-- The marks behind what is lent. -/
def marks (n : Nat) : Nat → List UInt8
  | 0 => []
  | k + 1 => UInt8.ofNat (160 + n % 90) :: marks (n + 1) k
theorem marks_length (n k : Nat) : (marks n k).length = k := by induction k generalizing n <;> simp [marks, *]
theorem marks_snoc (n k : Nat) : marks n (k + 1) = marks n k ++ [UInt8.ofNat (160 + (n + k) % 90)] := by
  induction k generalizing n with
  | zero => rfl
  | succ k ih => rw [marks, ih, marks, show n + 1 + k = n + (k + 1) by omega]; rfl
def LentRel (w : World) (l : List UInt8) (c : Value) (wr : World) : Prop :=
  ∃ k : Nat, k ≤ 3 ∧ c = .int .i64 ((l.length + k : Nat) : Int) ∧ OwnB 5 wr (.slice (some ⟨w.heap.size, 0, none⟩) (l.length + 3) (l.length + 3)) (l ++ marks l.length k ++ List.replicate (3 - k) 0) [] ∧ Frm [] w wr
set_option maxHeartbeats 1000000 in
theorem Lent_any (v : Value) (l sp : List UInt8) (w : World) (hS : SlB w v l sp) (hl : l.length ≤ 1000000) :
    Calls Tryz.prog 25 #[v] w fun r w' => r = .returned (.slice (some ⟨w.heap.size, 0, none⟩) l.length (l.length + 3)) ∧
      OwnB 5 w' (.slice (some ⟨w.heap.size, 0, none⟩) l.length (l.length + 3)) l (marks l.length 3) ∧ Frm [] w w' := by
  obtain ⟨a, cap, rfl, hc1, hc2⟩ := hS.form
  have hsrc : ∀ wx, Frm [] w wx → Src Tryz.prog 1 32 (.slice a l.length cap) l.length (bvs l) wx := fun wx fx => Sl.src Tryz.underlying32 (hS.keep fx (by simp)) (bvs_one l)
  have Hsrc := Lib.hid hsrc
  clear hsrc
  go_enter Tryz.func25, Tryz.ntmps25
  go_wp2_with (first | (at_make; refine wpList_make_bytes BT (l.length + 3) (by omega) rfl (.tmp 7) (.tmp 7) rfl rfl rfl rfl rfl ?_; intro w1 o1 f1) | ((with_reducible (show wpList _ _ _ (Oper.mk _ (Op.call (Call.mk (Callee.builtin Builtin.copy) _ _)) _ _ _ _ :: _) _ _)); (refine wpList_copy_bytes BT o1 0 (Hsrc.out _ f1) (by simp <;> omega) (by omega) (fun _ => rfl) rfl (.tmp 9) (.tmp 10) rfl rfl rfl ?_); intro w2 o2 f2))
  go_loopw [4] (LentRel w l) (fun c _ => l.length + 3 - (intOf c).toNat)
  case atStart =>
    refine ⟨0, by omega, rfl, ?_, f1.trans f2 (by simp)⟩
    simpa [marks] using o2
  case round =>
    obtain ⟨k, hk, rfl, o3, f3⟩ := hrel
    by_cases hlt : k < 3
    · have hc := o3.cell (l.length + k) (by simp [marks_length]; omega)
      have hf := o3.frozen (l.length + k)
      unfold bv at hc
      go_wp2
      refine ⟨⟨k + 1, by omega, by go_num, ?_, f3.setCell _ _ (.inr (Nat.le_refl _))⟩, by simp [intOf]; omega⟩
      have h4 := o3.store (l.length + k) (by simp [marks_length]; omega) (UInt8.ofNat (160 + (l.length + k) % 90)) (u := .int .u8 (160 + ((l.length : Int) + k) % 90)) (by simp [bv]; omega)
      rw [show 3 - k = (3 - (k + 1)) + 1 by omega, List.set_append_right _ _ (by simp [marks_length]), show l.length + k - (l ++ marks l.length k).length = 0 by simp [marks_length], List.replicate_succ, List.set_cons_zero] at h4
      rw [marks_snoc]
      simpa using h4
    · obtain rfl : k = 3 := by omega
      go_wp2
      go_ret
      refine ⟨rfl, ?_, f3⟩
      refine OwnB.of_heap ?_ rfl (by simp [marks_length]) (by simp [maxLen]; omega)
      have := o3.heap
      simpa using this
def OverRel (w : World) (g cap : Nat) (c : Value) (wr : World) : Prop :=
  ∃ k : Nat, ∃ L : List UInt8, k ≤ cap ∧ c = .int .i64 k ∧ L.length = cap ∧ OwnB 5 wr (.slice (some ⟨g, 0, none⟩) cap cap) L [] ∧ Frm [g] w wr
end Go.Proofs.YtjdejhgfkjeeiaaGreatDoor

namespace Go.Proofs.YtjdejhgfkjeeiaaGreatDoor
open Go.RowKit
set_option linter.unusedVariables false
set_option maxRecDepth 100000
set_option linter.unusedSimpArgs false

theorem OwnB.whole {T : TypeId} {w : World} {g n cap : Nat} {l sp : List UInt8} (h : OwnB T w (.slice (some ⟨g, 0, none⟩) n cap) l sp) : OwnB T w (.slice (some ⟨g, 0, none⟩) cap cap) (l ++ sp) [] := by
  obtain ⟨k1, k2, k3⟩ := h.caps
  exact OwnB.of_heap (by simpa using h.heap) (by simp; omega) (by simp; omega) k3
set_option maxHeartbeats 1000000 in
theorem Kept_true (g n cap : Nat) (x : Value) (l msp : List UInt8) (w : World) (hO : OwnB 5 w (.slice (some ⟨g, 0, none⟩) n cap) l (marks l.length 3)) (hS : SlB w x l msp) (hl : l.length ≤ 1000000) :
    Calls Tryz.prog 29 #[.slice (some ⟨g, 0, none⟩) n cap, x] w fun r w' => r = .returned (.bool true) ∧ Frm [] w w' := by
  obtain ⟨a, cap2, rfl, hc1, hc2⟩ := hS.form
  obtain ⟨k1, k2, k3⟩ := hO.caps
  rw [marks_length] at k2
  subst k1
  have Hw := Lib.hid hO.whole
  clear k3 hO
  have HN := Lib.hid k2
  have hg : ((l.length : Int) == (l.length : Int)) = true := by simp
  have hn0 : (0 : Int) ≤ (cap : Int) := by omega
  have hle : (cap : Int) ≤ (cap : Int) := by omega
  have hsum : IntKind.i64.wrap ((l.length : Int) + 3) = (cap : Int) := by rw [IntWalk.i64_in _ (by omega)]; omega
  clear k2
  go_enter Tryz.func29, Tryz.ntmps29
  go_wp2
  go_region_held3 (fun _ => True)
    (first | trivial | go_keep)
    (first | (go_at_call 25; refine (Lent_any _ l msp _ (hS.keep ((Frm.refl [] _).drewN _) (by simp)) hl).mono ?_; rw [← HN.out]; rintro r w1 ⟨rfl, o1, f1⟩) | (go_at_call 18; refine (Same_any _ _ _ [] _ [] _ (Hw.out.keep (((Frm.refl [] _).drewN _).trans f1 (by simp)) (by simp)).sl o1.whole.sl).mono ?_; rintro r w2 ⟨rfl, rfl⟩))
  go_wp2
  go_ret
  exact ⟨by simp, ((Frm.refl [] _).drewN _).trans f1 (by simp)⟩
end Go.Proofs.YtjdejhgfkjeeiaaGreatDoor

namespace Go.Proofs.YtjdejhgfkjeeiaaGreatDoor
open Go.RowKit
set_option linter.unusedVariables false
set_option maxRecDepth 100000
set_option linter.unusedSimpArgs false

/-- The blocks that a slice can be read from: none, if it has no room. -/
def blkR : Value → List Nat
  | .slice (some a) _ cap => if cap = 0 then [] else [a.block]
  | _ => []
theorem blkR_sub {v : Value} {k : Nat} (h : k ∈ blkR v) : k ∈ blk v := by
  cases v with
  | slice a n cap => cases a with
    | none => simp [blkR] at h
    | some a => simp only [blkR] at h; split at h <;> simp_all [blk]
  | _ => simp [blkR] at h
theorem SlB.keepR {w w' : World} {v : Value} {l sp : List UInt8} {L : List Nat} (h : SlB w v l sp) (f : Frm L w w') (hn : ∀ k ∈ blkR v, k ∉ L) : SlB w' v l sp := by
  obtain ⟨h1, h2 | h2 | ⟨b, off, cap, h2, h3, h4, h5, h6⟩⟩ := h
  · exact ⟨h1, .inl h2⟩
  · exact ⟨h1, .inr (.inl h2)⟩
  · subst h2
    by_cases hc : cap = 0
    · refine ⟨h1, .inr (.inr ⟨b, off, cap, rfl, h3, h4, h5, fun i u hu => ?_⟩)⟩
      have : (bvs l ++ bvs sp) = [] := List.eq_nil_of_length_eq_zero (by simpa [hc] using h5)
      rw [this] at hu
      simp at hu
    · exact ⟨h1, .inr (.inr ⟨b, off, cap, rfl, h3, h4, h5, fun i u hu => f.cell (h6 i u hu) (hn b (by simp [blkR, hc]))⟩)⟩
/-- The document's writer: its bytes, its error. -/
def Rw (w : World) (b : Nat) (v : Value) (l sp : List UInt8) (e : Int) : Prop :=
  w.heap[b]? = some (.cells #[v, .int .i64 e] 78 (0, 0)) ∧ OwnB 5 w v l sp ∧ b ∉ blk v
theorem Rw.keep {w w' : World} {bw : Nat} {v : Value} {l sp : List UInt8} {e : Int} {L : List Nat} (h : Rw w bw v l sp e) (f : Frm L w w') (h1 : bw ∉ L) (h2 : ∀ k ∈ blk v, k ∉ L) : Rw w' bw v l sp e :=
  ⟨f.heap h.1 h1, h.2.1.keep f h2, h.2.2⟩
theorem Rw.lt {w : World} {bw : Nat} {v : Value} {l sp : List UInt8} {e : Int} (h : Rw w bw v l sp e) : ∀ k ∈ bw :: blk v, k < w.heap.size := by
  intro k hk
  rcases List.mem_cons.1 hk with rfl | hk
  · exact lt_heap h.1
  · exact h.2.1.lt k hk
def RwTo (w : World) (bw : Nat) (v : Value) (s : List UInt8 × Int) (w' : World) : Prop :=
  ∃ v' sp', Rw w' bw v' s.1 sp' s.2 ∧ Frm (bw :: blk v) w w' ∧ ∀ i ∈ blk v', i ∈ blk v ∨ w.heap.size ≤ i
theorem RwTo.same {w : World} {bw : Nat} {v : Value} {l sp : List UInt8} {e : Int} (h : Rw w bw v l sp e) : RwTo w bw v (l, e) w := ⟨v, sp, h, Frm.refl _ _, fun _ hi => .inl hi⟩
theorem RwTo.drewN {w w' : World} {bw : Nat} {v : Value} {s : List UInt8 × Int} (h : RwTo w bw v s w') (n : Nat) : RwTo w bw v s (w'.drewN n) := by
  obtain ⟨v', sp', h1, h2, h3⟩ := h
  exact ⟨v', sp', h1.keep ((Frm.refl [] _).drewN n) (by simp) (by simp), h2.drewN n, h3⟩
theorem RwTo.behind {w w1 w' : World} {bw : Nat} {v : Value} {s : List UInt8 × Int} (f : Frm [] w w1) (h : RwTo w1 bw v s w') : RwTo w bw v s w' := by
  obtain ⟨v', sp', h1, h2, h3⟩ := h
  exact ⟨v', sp', h1, (f.mono (by simp)).trans h2 (fun i hi => .inl hi), fun i hi => (h3 i hi).imp id (fun h => Nat.le_trans f.size h)⟩
theorem size_any (n : Int) (w : World) :
    Calls Tryz.prog 102 #[.int .i64 n] w fun e w' => e = .returned (.bool (isSizeB n)) ∧ w' = w := by
  by_cases h1 : 1 ≤ n
  · have hb : isSizeB n = decide (n ≤ 7) := by simp [isSizeB, h1]
    rw [hb]; clear hb
    go_enter Tryz.func102, Tryz.ntmps102
    go_wp2
    go_ret
    exact ⟨rfl, rfl⟩
  · have hb : isSizeB n = false := by simp [isSizeB, h1]
    rw [hb]; clear hb
    go_enter Tryz.func102, Tryz.ntmps102
    go_wp2
    go_ret
    exact ⟨rfl, rfl⟩
set_option maxHeartbeats 1000000 in
theorem put_err (bw : Nat) (v x : Value) (l sp m msp : List UInt8) (E e : Int) (w : World) (hW : Rw w bw v l sp E) (hS : SlB w x m msp) (he : e ≠ 0) :
    Calls Tryz.prog 101 #[.pointer (some ⟨bw, 0, none⟩), x, .int .i64 e] w fun r w' => r = .returned (.tuple #[]) ∧ RwTo w bw v (wStep (l, E) fun l => (l, e)) w' := by
  obtain ⟨a, cap, rfl, _, _⟩ := hS.form
  have hW' := hW
  obtain ⟨h1, h2, h3⟩ := hW'
  have c1 : w.cell? ⟨bw, 1, none⟩ = some (.int .i64 E) := by rw [cell_of_heap h1]; rfl
  have z1 : w.frozen? ⟨bw, 1, none⟩ = false := frozen_of_heap h1 1
  have H1 := Lib.hid h1
  clear h1
  by_cases hE : E = 0
  · subst hE
    have hq : (e == 0) = false := by simpa using he
    clear he
    go_enter Tryz.func101, Tryz.ntmps101
    go_wp2
    go_end0
    refine ⟨rfl, v, sp, ⟨?_, ?_, h3⟩, (Frm.refl _ _).setCell _ _ (by simp), fun i hi => .inl hi⟩
    · rw [heap_setCell_same _ H1.out]; rfl
    · exact h2.keep ((Frm.refl [bw] _).setCell _ _ (by simp)) (fun k hk => by simp; rintro rfl; exact h3 hk)
  · have hq : (E != 0) = true := by simpa using hE
    have hr : (wStep (l, E) fun l => (l, e)) = (l, E) := by simp [wStep, hE]
    rw [hr]
    have hw := RwTo.same hW
    clear hE hr he
    go_enter Tryz.func101, Tryz.ntmps101
    go_wp2
    refine bodyPost_ret (results_none rfl _ _ _) rfl ?_
    exact ⟨rfl, hw⟩
set_option maxHeartbeats 1000000 in
theorem put_ok (bw : Nat) (v x : Value) (l sp m msp : List UInt8) (E : Int) (w : World) (hW : Rw w bw v l sp E) (hS : SlB w x m msp) (hx : bw ∉ blkR x) (hl : l.length ≤ 65536) (hm : m.length ≤ 1000000) :
    Calls Tryz.prog 101 #[.pointer (some ⟨bw, 0, none⟩), x, .int .i64 0] w fun r w' => r = .returned (.tuple #[]) ∧ RwTo w bw v (wStep (l, E) (addStep · m)) w' := by
  obtain ⟨a, cap, rfl, _, _⟩ := hS.form
  have hW' := hW
  obtain ⟨h1, h2, h3⟩ := hW'
  obtain ⟨a2, cap2, rfl, hc1, hc2⟩ := h2.sl.form
  have c0 : w.cell? ⟨bw, 0, none⟩ = some (.slice a2 l.length cap2) := by rw [cell_of_heap h1]; rfl
  have c1 : w.cell? ⟨bw, 1, none⟩ = some (.int .i64 E) := by rw [cell_of_heap h1]; rfl
  have z1 : w.frozen? ⟨bw, 1, none⟩ = false := frozen_of_heap h1 1
  have H1 := Lib.hid h1
  have hw := RwTo.same hW
  clear h1 hW
  by_cases hE : E = 0
  · subst hE
    by_cases hfit : l.length + m.length ≤ 65536
    · have hr : wStep (l, 0) (addStep · m) = (l ++ m, 0) := by simp [wStep, addStep, hfit]
      rw [hr]
      have hq : ¬ 65536 < (l.length : Int) + m.length := by omega
      have hcell0 : (w.setCell ⟨bw, 1, none⟩ (.int .i64 0)).cell? ⟨bw, 0, none⟩ = some (.slice a2 l.length cap2) := by rw [World.cell?_setCell_other _ _ _ _ (by simp)]; exact c0
      have f0 : Frm [bw] w (w.setCell ⟨bw, 1, none⟩ (.int .i64 0)) := (Frm.refl [bw] _).setCell _ _ (by simp)
      have o0 := h2.keep f0 (fun k hk => by simp; rintro rfl; exact h3 hk)
      have g0 := Lib.hid (heap_setCell_same (i := 1) (.int .i64 0) H1.out)
      clear hr hw hfit
      have s0 := hS.keepR f0 (fun k hk => by simp; rintro rfl; exact hx hk)
      have hlt := lt_heap H1.out
      go_enter Tryz.func101, Tryz.ntmps101
      go_wp2_with (at_builtin; refine wpList_append_bytes BT o0 s0 (by omega) rfl (.tmp 34) (.tmp 35) rfl rfl rfl ?_; intro a' cap' w' sp' o1 f1 b1; have d0 := f1.heap g0.out h3; have d1 : w'.cell? ⟨bw, 0, none⟩ = some (.slice a2 l.length cap2) := (by rw [cell_of_heap d0]; rfl); have d2 : w'.frozen? ⟨bw, 0, none⟩ = false := frozen_of_heap d0 0; have D0 := Lib.hid d0; clear d0)
      go_end0
      have hne : bw ∉ blk (.slice a' (l.length + m.length) cap') := by
        intro hm
        rcases b1 _ hm with h | h
        · exact h3 h
        · simp at h; omega
      refine ⟨rfl, _, sp', ⟨?_, ?_, hne⟩, ?_, by simpa using b1⟩
      · rw [heap_setCell_same _ D0.out]; rfl
      · exact o1.keep ((Frm.refl [bw] _).setCell _ _ (by simp)) (fun k hk => by simp; rintro rfl; exact hne hk)
      · exact ((f0.mono (by simp)).trans f1 (fun i hi => .inl (List.mem_cons_of_mem _ hi))).setCell _ _ (by simp)
    · have hr : wStep (l, 0) (addStep · m) = (l, 3) := by simp [wStep, addStep, hfit]
      rw [hr]
      have hq : 65536 < (l.length : Int) + m.length := by omega
      clear hr hw hfit
      go_enter Tryz.func101, Tryz.ntmps101
      go_wp2
      go_end0
      refine ⟨rfl, _, sp, ⟨?_, ?_, h3⟩, (Frm.refl _ _).setCell _ _ (by simp), fun i hi => .inl hi⟩
      · rw [heap_setCell_same _ H1.out]; rfl
      · exact h2.keep ((Frm.refl [bw] _).setCell _ _ (by simp)) (fun k hk => by simp; rintro rfl; exact h3 hk)
  · have hq : (E != 0) = true := by simpa using hE
    have hr : (wStep (l, E) (addStep · m)) = (l, E) := by simp [wStep, hE]
    rw [hr]
    clear hE hr
    go_enter Tryz.func101, Tryz.ntmps101
    go_wp2
    refine bodyPost_ret (results_none rfl _ _ _) rfl ?_
    exact ⟨rfl, hw⟩
end Go.Proofs.YtjdejhgfkjeeiaaGreatDoor

namespace Go.Proofs.YtjdejhgfkjeeiaaGreatDoor
open Go.RowKit
set_option linter.unusedVariables false
set_option linter.unusedSimpArgs false

theorem OwnB.one {w : World} {u : Value} {x : UInt8} (hu : u = bv x) : OwnB 5 (w.alloc (.cells #[u] 5)) (.slice (some ⟨w.heap.size, 0, none⟩) 1 1) [x] [] := by
  subst hu
  exact OwnB.of_heap (by rw [heap_alloc_new]; rfl) rfl rfl (by simp [maxLen])
def RNumRel (w : World) (n size : Nat) (b c : Value) (wr : World) : Prop :=
  ∃ j : Nat, ∃ a len cap l sp, j ≤ size ∧ c = .int .i64 ((j : Int) - 1) ∧ b = .slice a len cap ∧ l.length = size - j ∧ OwnB 5 wr (.slice a len cap) l sp ∧ l ++ beBytes n j = beBytes n size ∧ Frm [] w wr ∧ Fresh w (.slice a len cap)
set_option maxHeartbeats 1000000 in
theorem RNum_any (bw : Nat) (v : Value) (l sp : List UInt8) (E n size : Int) (w : World) (hW : Rw w bw v l sp E) (hl : l.length ≤ 65536) (hn : n ≤ 9223372036854775807) :
    Calls Tryz.prog 54 #[.pointer (some ⟨bw, 0, none⟩), .int .i64 n, .int .i64 size] w fun r w' => r = .returned (.tuple #[]) ∧ RwTo w bw v (wStep (l, E) (numStep · n size)) w' := by
  by_cases hs : isSizeB size = false
  · have hr : (fun l => numStep l n size) = fun l => (l, 2) := by funext l; simp [numStep, hs]
    rw [hr]
    clear hr
    go_enter Tryz.func54, Tryz.ntmps54
    go_wp2_with (first | (go_at_call 102; refine (size_any _ _).mono ?_; rintro e w' ⟨rfl, rfl⟩) | (go_at_call 101; refine (put_err bw v _ l sp [] [] E 2 _ hW (SlB.nil _) (by decide)).mono ?_; rintro e w' ⟨rfl, hw⟩))
    refine bodyPost_ret (results_none rfl _ _ _) rfl ?_
    exact ⟨rfl, hw⟩
  · have hs' : isSizeB size = true := by simpa using hs
    have hb : 1 ≤ size ∧ size ≤ 7 := by simpa [isSizeB] using hs'
    obtain ⟨hb1, hb2⟩ := hb
    clear hs
    obtain ⟨s, rfl⟩ := Int.eq_ofNat_of_zero_le (show 0 ≤ size by omega)
    by_cases h0 : n < 0
    · have hr : (fun l => numStep l n s) = fun l => (l, 5) := by funext l; simp [numStep, hs', h0]
      rw [hr]
      clear hr
      go_enter Tryz.func54, Tryz.ntmps54
      go_wp2_with (first | (go_at_call 102; refine (size_any _ _).mono ?_; rintro e w' ⟨rfl, rfl⟩) | (go_at_call 101; refine (put_err bw v _ l sp [] [] E 5 _ hW (SlB.nil _) (by decide)).mono ?_; rintro e w' ⟨rfl, hw⟩))
      refine bodyPost_ret (results_none rfl _ _ _) rfl ?_
      exact ⟨rfl, hw⟩
    · obtain ⟨k, rfl⟩ := Int.eq_ofNat_of_zero_le (show 0 ≤ n by omega)
      clear h0
      by_cases hk : 2 ^ (8 * s) ≤ k
      · have hr : (fun l => numStep l k s) = fun l => (l, 5) := by
          funext l
          have : (2 : Int) ^ (8 * s) ≤ k := by exact_mod_cast hk
          simp [numStep, hs', this]
        rw [hr]
        have hq : 0 < (k : Int) / 2 ^ (8 * s) := by
          have : 0 < k / 2 ^ (8 * s) := Nat.div_pos hk (Nat.two_pow_pos _)
          exact_mod_cast this
        clear hr hk
        go_enter Tryz.func54, Tryz.ntmps54
        go_wp2_with (first | (go_at_call 102; refine (size_any _ _).mono ?_; rintro e w' ⟨rfl, rfl⟩) | (go_at_call 101; refine (put_err bw v _ l sp [] [] E 5 _ hW (SlB.nil _) (by decide)).mono ?_; rintro e w' ⟨rfl, hw⟩))
        refine bodyPost_ret (results_none rfl _ _ _) rfl ?_
        exact ⟨rfl, hw⟩
      · have hr : (fun l => numStep l k s) = fun l => addStep l (beBytes k s) := by
          funext l
          have : ¬ (2 : Int) ^ (8 * s) ≤ k := by exact_mod_cast hk
          have h00 : ¬ (k : Int) < 0 := by omega
          simp [numStep, hs', this, h00]
        rw [hr]
        have hq : (k : Int) / 2 ^ (8 * s) ≤ 0 := by
          have : k / 2 ^ (8 * s) = 0 := Nat.div_eq_of_lt (by omega)
          exact_mod_cast Nat.le_of_eq this
        clear hr hk
        go_enter Tryz.func54, Tryz.ntmps54
        go_wp2_with (first | (go_at_call 102; refine (size_any _ _).mono ?_; rintro e w' ⟨rfl, rfl⟩))

        go_loopw [6, 7] (RNumRel w' k s) (fun _ c _ => (intOf c + 1).toNat)
        case atStart => exact ⟨s, none, 0, 0, [], [], Nat.le_refl _, rfl, by simp, by simp, by simpa using OwnB.nil _ _, by simp, Frm.refl _ _, by simp [Fresh, blk]⟩
        case round =>
          obtain ⟨j, a, len, cap, m, msp, hj, rfl, rfl, hm, o1, he, f1, b1⟩ := hrel
          have HM := Lib.hid hm
          have HE := Lib.hid he
          clear hm he
          by_cases hj0 : j = 0
          · subst hj0
            have hx : bw ∉ blkR (.slice a len cap) := fun hm => by have h5 := b1 _ (blkR_sub hm); have h6 := hW.lt bw (by simp); omega
            have hp := Lib.hid (put_ok bw v _ l sp m msp E wr (hW.keep f1 (by simp) (by simp)) o1.sl hx hl (by rw [HM.out]; omega))
            go_wp2_with (go_at_call 101; refine hp.out.mono ?_; rintro e w2 ⟨rfl, hw⟩)
            go_end0
            have he := HE.out
            simp [beBytes] at he
            subst he
            exact ⟨rfl, hw.behind f1⟩
          · obtain ⟨i, rfl⟩ : ∃ i, j = i + 1 := ⟨j - 1, by omega⟩
            clear hj0
            have hx : ((i + 1 : Nat) : Int) - 1 = (i : Int) := by omega
            rw [hx]
            clear hx
            have hxx : Value.int .u8 ((k : Int) / 2 ^ (8 * i) % 256) = bv (UInt8.ofNat (k / 2 ^ (8 * i))) := by simp [bv]
            have HX := Lib.hid hxx
            clear hxx
            go_wp2_with (at_builtin; refine wpList_append_bytes BT (o1.keep ((Frm.refl [] _).alloc _) (by simp)) (OwnB.one HX.out).sl (by rw [HM.out]; simp <;> omega) rfl (.tmp 30) (.tmp 36) rfl rfl rfl ?_; intro a' cap' w2 sp' o2 f2 b2)
            refine ⟨⟨i, a', _, cap', _, sp', by omega, by go_num, rfl, ?_, o2, ?_, ?_, ?_⟩, by simp [intOf] <;> omega⟩
            · simp [HM.out]; omega
            · rw [← HE.out]; simp [beBytes]
            · exact (f1.alloc _).trans f2 (fun x hx => .inr (b1 x hx))
            · intro x hx
              rcases b2 x hx with h | h
              · exact b1 x h
              · have := f1.size; simp at h; omega

def RTextRel (w : World) (s : List UInt8) (most : Nat) (b : Value) (wr : World) : Prop :=
  ∃ j : Nat, ∃ a len cap sp, j + s.length ≤ most ∧ b = .slice a len cap ∧ len = 1 + s.length + j ∧ OwnB 5 wr (.slice a len cap) ((UInt8.ofNat s.length :: s) ++ List.replicate j 0) sp ∧ Frm [] w wr ∧ Fresh w (.slice a len cap)
theorem RRaw_any (bw : Nat) (v x : Value) (l sp m msp : List UInt8) (E : Int) (w : World) (hW : Rw w bw v l sp E) (hS : SlB w x m msp) (hx : bw ∉ blkR x) (hl : l.length ≤ 65536) (hm : m.length ≤ 1000000) :
    Calls Tryz.prog 53 #[.pointer (some ⟨bw, 0, none⟩), x] w fun r w' => r = .returned (.tuple #[]) ∧ RwTo w bw v (wStep (l, E) (addStep · m)) w' := by
  obtain ⟨a, cap, rfl, _, _⟩ := hS.form
  have hp := Lib.hid (put_ok bw v _ l sp m msp E w hW hS hx hl hm)
  go_enter Tryz.func53, Tryz.ntmps53
  go_wp2_with (go_at_call 101; refine hp.out.mono ?_; rintro e w2 ⟨rfl, hw⟩)
  go_end0
  exact ⟨rfl, hw⟩
set_option maxRecDepth 100000 in
set_option maxHeartbeats 1000000 in
theorem RPad_any (bw : Nat) (v : Value) (l sp : List UInt8) (E to : Int) (w : World) (hW : Rw w bw v l sp E) (hl : l.length ≤ 65536) :
    Calls Tryz.prog 55 #[.pointer (some ⟨bw, 0, none⟩), .int .i64 to] w fun r w' => r = .returned (.tuple #[]) ∧ RwTo w bw v (wStep (l, E) (padStep · to)) w' := by
  have hW' := hW
  obtain ⟨h1, h2, h3⟩ := hW'
  obtain ⟨a, cap, rfl, hc1, hc2⟩ := h2.sl.form
  have c0 : w.cell? ⟨bw, 0, none⟩ = some (.slice a l.length cap) := by rw [cell_of_heap h1]; rfl
  clear h1
  by_cases hs : 65536 < to
  · have hr : wStep (l, E) (padStep · to) = wStep (l, E) fun l => (l, 2) := by simp [wStep, padStep, hs]
    rw [hr]
    clear hr
    go_enter Tryz.func55, Tryz.ntmps55
    go_wp2_with (go_at_call 101; refine (put_err bw _ _ l sp [] [] E 2 _ hW (SlB.nil _) (by decide)).mono ?_; rintro e w' ⟨rfl, hw⟩)
    refine bodyPost_ret (results_none rfl _ _ _) rfl ?_
    exact ⟨rfl, hw⟩
  · by_cases h2' : to < l.length
    · have hr : wStep (l, E) (padStep · to) = wStep (l, E) fun l => (l, 2) := by simp [wStep, padStep, h2']
      rw [hr]
      clear hr
      go_enter Tryz.func55, Tryz.ntmps55
      go_wp2_with (go_at_call 101; refine (put_err bw _ _ l sp [] [] E 2 _ hW (SlB.nil _) (by decide)).mono ?_; rintro e w' ⟨rfl, hw⟩)
      refine bodyPost_ret (results_none rfl _ _ _) rfl ?_
      exact ⟨rfl, hw⟩
    · obtain ⟨k, rfl⟩ := Int.eq_ofNat_of_zero_le (show 0 ≤ to by omega)
      have hr : wStep (l, E) (padStep · k) = wStep (l, E) (addStep · (List.replicate (k - l.length) 0)) := by simp [wStep, padStep, hs, h2']
      rw [hr]
      have hk1 : (k : Int) ≤ 65536 := by omega
      have hle : ¬ (k : Int) < (l.length : Int) := by omega
      clear hr hs h2'
      go_enter Tryz.func55, Tryz.ntmps55
      go_wp2_with (first | (at_make; refine wpList_make_bytes BT (k - l.length) (by omega) rfl (.tmp 24) (.tmp 24) rfl rfl rfl (by omega) (by omega) ?_; intro w1 o1 f1) | (go_at_call 101; refine (put_ok bw _ _ l sp _ [] E _ (hW.keep f1 (by simp) (by simp)) o1.sl (fun hm => by have h5 := hW.lt bw (by simp); have hm := blkR_sub hm; simp [blk] at hm; omega) hl (by simp <;> omega)).mono ?_; rintro e w' ⟨rfl, hw⟩))
      go_end0
      exact ⟨rfl, hw.behind f1⟩
set_option maxHeartbeats 1000000 in
theorem ROut_any (bw : Nat) (v : Value) (l sp : List UInt8) (e : Int) (w : World) (hW : Rw w bw v l sp e) (hl : l.length ≤ 65536) :
    Calls Tryz.prog 56 #[.pointer (some ⟨bw, 0, none⟩)] w fun r w' => Outs w l e r w' := by
  obtain ⟨h1, h2, h3⟩ := hW
  obtain ⟨a, cap, rfl, hc1, hc2⟩ := h2.sl.form
  have c0 : w.cell? ⟨bw, 0, none⟩ = some (.slice a l.length cap) := by rw [cell_of_heap h1]; rfl
  have c1 : w.cell? ⟨bw, 1, none⟩ = some (.int .i64 e) := by rw [cell_of_heap h1]; rfl
  have hlt := lt_heap h1
  have o0 : OwnB 5 (w.alloc (.cells #[] 5)) (.slice (some ⟨w.heap.size, 0, none⟩) 0 0) [] [] := OwnB.of_heap (heap_alloc_new _ _) rfl rfl (by simp)
  have f0 : Frm [] w (w.alloc (.cells #[] 5)) := (Frm.refl _ _).alloc _
  clear h1
  by_cases he : e = 0
  · subst he
    go_enter Tryz.func56, Tryz.ntmps56
    go_wp2_with (at_builtin; refine wpList_append_bytes BT o0 (h2.sl.keep f0 (by simp)) (by simp; omega) rfl (.tmp 13) (.tmp 17) rfl rfl rfl ?_; intro a' cap' w' sp' o1 f1 b1)
    go_ret2
    refine ⟨a', cap', sp', by simp [outB], by simpa [outB] using o1, f0.trans f1 (by simp [blk]), ?_⟩
    intro k hk
    rcases b1 k (by simpa [outB] using hk) with h | h
    · simp [blk] at h; omega
    · simp at h; omega
  · have hq : (e != 0) = true := by simpa using he
    have hE := Lib.hid he
    clear he
    go_enter Tryz.func56, Tryz.ntmps56
    go_wp2
    go_quiet (fail)
    go_wp2
    go_ret2
    exact ⟨none, 0, [], by simp [outB, hE.out], by simpa [outB, hE.out] using OwnB.nil _ _, (Frm.refl _ _).drewN _, by simp [Fresh, blk]⟩
end Go.Proofs.YtjdejhgfkjeeiaaGreatDoor
