/-
  Contract of the law's read: both readers side by side; no conditions but those that each theorem names.
-/
import Derived.Test.YtappmjophnhdaaaCH
import Derived.Test.YtappmjophnhdaaaAE
namespace Go.Proofs.Ytappmjophnhdaaa
open Go.RowKit
set_option linter.unusedVariables false
set_option linter.unusedSimpArgs false

structure Ask0 where
  kind : Int
  size : Int
  low : Int
  high : Int
/-- A reader's place and fault behind something that is read. -/
def Ask0.step (x : Ask0) (l : List UInt8) (s : Nat × Int × Int) : Nat × Int × Int :=
  if x.kind = 0 then (rNum l s x.size x.low x.high).2 else if x.kind = 1 then (rText l s x.size).2 else if x.kind = 2 then (rRaw l s x.size).2 else if x.kind = 3 then rRest l s else s
/-- Both readers, side by side. -/
structure Both (w : World) (br bv : Nat) (vr vv : Value) (l sp1 sp2 : List UInt8) (s : Nat × Int × Int) : Prop where
  a : Rd w br vr l sp1 s.1 s.2.1 s.2.2
  b : Rv w bv vv l sp2 s
  n1 : bv ∉ br :: blk vr
  n2 : br ∉ bv :: blkR vv
  lt : ∀ k ∈ blkR vv, k < w.heap.size
section
variable {w w' w1 w2 : World} {br bv : Nat} {vr vv : Value} {l sp1 sp2 : List UInt8} {s s' : Nat × Int × Int} {L : List Nat}
theorem Both.keep (h : Both w br bv vr vv l sp1 sp2 s) (f : Frm L w w') (hL : ∀ k ∈ L, w.heap.size ≤ k) : Both w' br bv vr vv l sp1 sp2 s := by
  refine ⟨h.a.keep f (fun hm => ?_) (fun k hk hm => ?_), h.b.keep f (fun hm => ?_) (fun k hk hm => ?_), h.n1, h.n2, fun k hk => Nat.lt_of_lt_of_le (h.lt k hk) f.size⟩
  · have := h.a.lt br (by simp); have := hL _ hm; omega
  · have := h.a.lt k (List.mem_cons_of_mem _ hk); have := hL _ hm; omega
  · have := lt_heap h.b.1; have := hL _ hm; omega
  · have := h.lt k hk; have := hL _ hm; omega
theorem Both.to (h : Both w br bv vr vv l sp1 sp2 s) (t : RdTo w br vr l sp1 s' w1) (u : RvTo w1 bv vv l sp2 s' w2) : Both w2 br bv vr vv l sp1 sp2 s' :=
  ⟨t.1.keep u.2 (by have := h.n1; simp at this ⊢; exact fun e => this.1 e.symm) (fun k hk => by have := h.n1; simp at this ⊢; rintro rfl; exact this.2 hk), u.1, h.n1, h.n2, fun k hk => Nat.lt_of_lt_of_le (h.lt k hk) (Nat.le_trans t.2.size u.2.size)⟩
/-- The document's reader, where the other has read. -/
theorem Both.still (h : Both w br bv vr vv l sp1 sp2 s) (f : Frm [br] w w1) : Rv w1 bv vv l sp2 s :=
  h.b.keep f (by have := h.n1; simp at this ⊢; exact this.1) (fun k hk => by have := h.n2; simp at this ⊢; rintro rfl; exact this.2 hk)
end
def BothTo (w : World) (br bv : Nat) (vr vv : Value) (l sp1 sp2 : List UInt8) (s : Nat × Int × Int) (r : Ending) (w' : World) : Prop :=
  r = .returned (.bool true) ∧ Both w' br bv vr vv l sp1 sp2 s ∧ Frm [br, bv] w w'
theorem RNumR_eq {br : Nat} {v : Value} {l sp : List UInt8} {s s' : Nat × Int × Int} {size low high n : Int} {w : World} (ho : rNum l s size low high = (n, s')) (hR : Rd w br v l sp s.1 s.2.1 s.2.2) (hp : s.1 ≤ l.length) (hl : l.length ≤ 1000000000) :
    Calls Try.prog 30 #[.pointer (some ⟨br, 0, none⟩), .int .i64 size, .int .i64 low, .int .i64 high] w fun r w' => r = .returned (.int .i64 n) ∧ RdTo w br v l sp s' w' := by
  have := RNumR_any br v l sp s size low high w hR hp hl
  rw [ho] at this; exact this
theorem VNum_eq {b : Nat} {v : Value} {l sp : List UInt8} {s s' : Nat × Int × Int} {size low high n : Int} {w : World} (ho : rNum l s size low high = (n, s')) (hR : Rv w b v l sp s) (hp : s.1 ≤ l.length) (hl : l.length ≤ 1000000000) :
    Calls Try.prog 50 #[.pointer (some ⟨b, 0, none⟩), .int .i64 size, .int .i64 low, .int .i64 high] w fun r w' => r = .returned (.int .i64 n) ∧ RvTo w b v l sp s' w' := by
  have := VNum_any b v l sp s size low high w hR hp hl
  rw [ho] at this; exact this
theorem RTextR_eq {br : Nat} {v : Value} {l sp : List UInt8} {s s' : Nat × Int × Int} {most : Int} {m : ByteArray} {w : World} (ho : rText l s most = (m.data.toList, s')) (hR : Rd w br v l sp s.1 s.2.1 s.2.2) (hp : s.1 ≤ l.length) (hl : l.length ≤ 1000000000) :
    Calls Try.prog 31 #[.pointer (some ⟨br, 0, none⟩), .int .i64 most] w fun r w' => r = .returned (.string m) ∧ RdTo w br v l sp s' w' := by
  have := RTextR_any br v l sp s most w hR hp hl
  rw [ho] at this; exact this
theorem VText_eq {b : Nat} {v : Value} {l sp : List UInt8} {s s' : Nat × Int × Int} {most : Int} {m : ByteArray} {w : World} (ho : rText l s most = (m.data.toList, s')) (hR : Rv w b v l sp s) (hp : s.1 ≤ l.length) (hl : l.length ≤ 1000000000) :
    Calls Try.prog 51 #[.pointer (some ⟨b, 0, none⟩), .int .i64 most] w fun r w' => r = .returned (.string m) ∧ RvTo w b v l sp s' w' := by
  have := VText_any b v l sp s most w hR hp hl
  rw [ho] at this; exact this
theorem RRawR_eq {br : Nat} {v : Value} {l sp m : List UInt8} {s s' : Nat × Int × Int} {n : Int} {w : World} (ho : rRaw l s n = (m, s')) (hR : Rd w br v l sp s.1 s.2.1 s.2.2) (hp : s.1 ≤ l.length) (hl : l.length ≤ 1000000000) :
    Calls Try.prog 32 #[.pointer (some ⟨br, 0, none⟩), .int .i64 n] w fun r w' => RawR w br v l sp m s' r w' := by
  have := RRawR_any br v l sp s n w hR hp hl
  rw [ho] at this; exact this
theorem VRaw_eq {b : Nat} {v : Value} {l sp m : List UInt8} {s s' : Nat × Int × Int} {n : Int} {w : World} (ho : rRaw l s n = (m, s')) (hR : Rv w b v l sp s) (hp : s.1 ≤ l.length) (hl : l.length ≤ 1000000000) :
    Calls Try.prog 52 #[.pointer (some ⟨b, 0, none⟩), .int .i64 n] w fun r w' => RawV w b v l sp m s' r w' := by
  have := VRaw_any b v l sp s n w hR hp hl
  rw [ho] at this; exact this
set_option maxRecDepth 100000 in
set_option maxHeartbeats 2000000 in
theorem read_num (br bv : Nat) (vr vv : Value) (l sp1 sp2 : List UInt8) (s : Nat × Int × Int) (size low high : Int) (w : World) (hB : Both w br bv vr vv l sp1 sp2 s) (hp : s.1 ≤ l.length) (hl : l.length ≤ 1000000000) :
    Calls Try.prog 22 #[.pointer (some ⟨br, 0, none⟩), .pointer (some ⟨bv, 0, none⟩), .agg #[.int .i64 0, .int .i64 size, .int .i64 low, .int .i64 high]] w fun r w' => BothTo w br bv vr vv l sp1 sp2 (rNum l s size low high).2 r w' := by
  obtain ⟨n, s', ho⟩ : ∃ n s', rNum l s size low high = (n, s') := ⟨_, _, rfl⟩
  rw [ho]
  have f0 : ∀ o, Frm [] w (w.alloc o) := fun o => (Frm.refl _ _).alloc o
  have hlb := hB.a.lt br (by simp)
  have hlv := lt_heap hB.b.1
  have HB := Lib.hid (fun o => hB.keep (f0 o) (by simp))
  have HBB := Lib.hid hB
  have HF := Lib.hid f0
  have HO := Lib.hid ho
  clear hB f0 ho
  have hn1 : w.heap.size ∉ [br] := by simp; omega
  have hn2 : w.heap.size ∉ [bv] := by simp; omega
  have HN1 := Lib.hid hn1
  have HN2 := Lib.hid hn2
  clear hn1 hn2
  go_enter Try.func22, Try.ntmps22
  go_wp2_with fail
  go_region_held3 (fun x => x.cell? ⟨w.heap.size, 1, none⟩ = some (.int .i64 size) ∧ x.cell? ⟨w.heap.size, 2, none⟩ = some (.int .i64 low) ∧ x.cell? ⟨w.heap.size, 3, none⟩ = some (.int .i64 high))
    (first | go_keep | (go_split_ands; exact ⟨f1.2.cell ‹_› HN1.out, f1.2.cell ‹_› HN1.out, f1.2.cell ‹_› HN1.out⟩) | (go_split_ands; exact ⟨f2.2.cell ‹_› HN2.out, f2.2.cell ‹_› HN2.out, f2.2.cell ‹_› HN2.out⟩))
    (first | (go_at_call 30; refine (RNumR_eq HO.out ((HB.out _).keep (Frm.refl [] _).drew (by simp)).a hp hl).mono ?_; rintro r w1 ⟨rfl, f1⟩) | (go_at_call 50; refine (VNum_eq HO.out (((HB.out _).keep (Frm.refl [] _).drew (by simp)).still f1.2) hp hl).mono ?_; rintro r w2 ⟨rfl, f2⟩))
  go_wp2_with fail
  go_ret
  exact ⟨rfl, ((HB.out _).keep (Frm.refl [] _).drew (by simp)).to f1 f2, ((((HF.out _).drew.mono (by simp)).trans f1.2 (by simp)).trans f2.2 (by simp))⟩
set_option maxRecDepth 100000 in
set_option maxHeartbeats 2000000 in
theorem read_text (br bv : Nat) (vr vv : Value) (l sp1 sp2 : List UInt8) (s : Nat × Int × Int) (size low high : Int) (w : World) (hB : Both w br bv vr vv l sp1 sp2 s) (hp : s.1 ≤ l.length) (hl : l.length ≤ 1000000000) :
    Calls Try.prog 22 #[.pointer (some ⟨br, 0, none⟩), .pointer (some ⟨bv, 0, none⟩), .agg #[.int .i64 1, .int .i64 size, .int .i64 low, .int .i64 high]] w fun r w' => BothTo w br bv vr vv l sp1 sp2 (rText l s size).2 r w' := by
  obtain ⟨m, s', ho⟩ : ∃ m : ByteArray, ∃ s', rText l s size = (m.data.toList, s') := ⟨⟨(rText l s size).1.toArray⟩, _, rfl⟩
  rw [ho]
  have f0 : ∀ o, Frm [] w (w.alloc o) := fun o => (Frm.refl _ _).alloc o
  have hlb := hB.a.lt br (by simp)
  have hlv := lt_heap hB.b.1
  have HB := Lib.hid (fun o => hB.keep (f0 o) (by simp))
  have HBB := Lib.hid hB
  have HF := Lib.hid f0
  have HO := Lib.hid ho
  clear hB f0 ho
  have hn1 : w.heap.size ∉ [br] := by simp; omega
  have hn2 : w.heap.size ∉ [bv] := by simp; omega
  have HN1 := Lib.hid hn1
  have HN2 := Lib.hid hn2
  clear hn1 hn2
  go_enter Try.func22, Try.ntmps22
  go_wp2_with fail
  go_region_held3 (fun x => x.cell? ⟨w.heap.size, 1, none⟩ = some (.int .i64 size))
    (first | go_keep | exact f1.2.cell ‹_› HN1.out | exact f2.2.cell ‹_› HN2.out)
    (first | (go_at_call 31; refine (RTextR_eq HO.out ((HB.out _).keep (Frm.refl [] _).drew (by simp)).a hp hl).mono ?_; rintro r w1 ⟨rfl, f1⟩) | (go_at_call 51; refine (VText_eq HO.out (((HB.out _).keep (Frm.refl [] _).drew (by simp)).still f1.2) hp hl).mono ?_; rintro r w2 ⟨rfl, f2⟩))
  go_wp2_with fail
  go_ret
  exact ⟨rfl, ((HB.out _).keep (Frm.refl [] _).drew (by simp)).to f1 f2, ((((HF.out _).drew.mono (by simp)).trans f1.2 (by simp)).trans f2.2 (by simp))⟩
set_option maxRecDepth 100000 in
set_option maxHeartbeats 2000000 in
theorem read_raw (br bv : Nat) (vr vv : Value) (l sp1 sp2 : List UInt8) (s : Nat × Int × Int) (size low high : Int) (w : World) (hB : Both w br bv vr vv l sp1 sp2 s) (hp : s.1 ≤ l.length) (hl : l.length ≤ 1000000000) :
    Calls Try.prog 22 #[.pointer (some ⟨br, 0, none⟩), .pointer (some ⟨bv, 0, none⟩), .agg #[.int .i64 2, .int .i64 size, .int .i64 low, .int .i64 high]] w fun r w' => BothTo w br bv vr vv l sp1 sp2 (rRaw l s size).2 r w' := by
  obtain ⟨m, s', ho⟩ : ∃ m, ∃ s', rRaw l s size = (m, s') := ⟨_, _, rfl⟩
  rw [ho]
  have f0 : ∀ o, Frm [] w (w.alloc o) := fun o => (Frm.refl _ _).alloc o
  have hlb := hB.a.lt br (by simp)
  have hlv := lt_heap hB.b.1
  have HB := Lib.hid (fun o => hB.keep (f0 o) (by simp))
  have HBB := Lib.hid hB
  have HF := Lib.hid f0
  have HO := Lib.hid ho
  clear hB f0 ho
  have hn1 : w.heap.size ∉ [br] := by simp; omega
  have hn2 : w.heap.size ∉ [bv] := by simp; omega
  have HN1 := Lib.hid hn1
  have HN2 := Lib.hid hn2
  clear hn1 hn2
  go_enter Try.func22, Try.ntmps22
  go_wp2_with fail
  refine (RRawR_eq HO.out (HB.out _).a hp hl).mono ?_
  rintro r w1 ⟨a1, cap1, spa, rfl, o1, g1, f1⟩
  have q1 : w1.cell? ⟨w.heap.size, 1, none⟩ = some (.int .i64 size) := f1.2.cell (by simp [go_sem]) HN1.out
  have HO1 := Lib.hid o1
  have HG1 := Lib.hid g1
  have HF1 := Lib.hid f1
  clear o1 g1 f1
  go_wp2_with fail
  refine (VRaw_eq HO.out ((HB.out _).still HF1.out.2) hp hl).mono ?_
  rintro r w2 ⟨a2, cap2, spb, rfl, o2, g2, f2⟩
  have hba : bv ∉ blk (.slice a1 m.length cap1) := fun hm => by have := HG1.out _ hm; simp at this; omega
  have o1' := HO1.out.keep f2.2 (fun k hk => by simp; rintro rfl; exact hba hk)
  have HO1' := Lib.hid o1'
  have HO2 := Lib.hid o2
  have HG2 := Lib.hid g2
  have HF2 := Lib.hid f2
  clear o1' o2 g2 f2 hba
  go_wp2_with fail
  refine (Same_any _ _ m _ m _ _ HO1'.out.sl HO2.out.sl).mono ?_
  rintro r w3 ⟨rfl, hw3⟩
  subst hw3
  go_wp2_with fail
  refine (Over_all _ m _ _ HO1'.out).mono ?_
  rintro r w4 ⟨rfl, f4⟩
  go_wp2_with fail
  go_ret
  have hfr : ∀ k ∈ blk (.slice a1 m.length cap1), w.heap.size + 1 ≤ k := fun k hk => by have := HG1.out _ hk; simpa using this
  have hB2 := ((HB.out _).to HF1.out HF2.out)
  have hs : ∀ k ∈ blk (.slice a1 m.length cap1), k ≠ br ∧ k ≠ bv ∧ k ∉ blk vr ∧ k ∉ blkR vv := fun k hk => by
    have h9 := hfr k hk
    refine ⟨by omega, by omega, fun hm => ?_, fun hm => ?_⟩
    · have := HBB.out.a.lt k (List.mem_cons_of_mem _ hm); omega
    · have := HBB.out.lt k hm; omega
  refine ⟨by simp, ⟨hB2.a.keep f4 (fun hm => (hs _ hm).1 rfl) (fun k hk hm => (hs _ hm).2.2.1 hk), hB2.b.keep f4 (fun hm => (hs _ hm).2.1 rfl) (fun k hk hm => (hs _ hm).2.2.2 hk), hB2.n1, hB2.n2, fun k hk => Nat.lt_of_lt_of_le (hB2.lt k hk) f4.size⟩, ?_⟩
  exact ((((HF.out _).mono (by simp)).trans HF1.out.2 (by simp)).trans HF2.out.2 (by simp)).trans f4 (fun k hk => .inr (by have := hfr k hk; omega))
set_option maxRecDepth 100000 in
set_option maxHeartbeats 2000000 in
theorem read_rest (br bv : Nat) (vr vv : Value) (l sp1 sp2 : List UInt8) (s : Nat × Int × Int) (size low high : Int) (w : World) (hB : Both w br bv vr vv l sp1 sp2 s) (hp : s.1 ≤ l.length) (hl : l.length ≤ 1000000000) :
    Calls Try.prog 22 #[.pointer (some ⟨br, 0, none⟩), .pointer (some ⟨bv, 0, none⟩), .agg #[.int .i64 3, .int .i64 size, .int .i64 low, .int .i64 high]] w fun r w' => BothTo w br bv vr vv l sp1 sp2 (rRest l s) r w' := by
  have ho : True := trivial
  have f0 : ∀ o, Frm [] w (w.alloc o) := fun o => (Frm.refl _ _).alloc o
  have hlb := hB.a.lt br (by simp)
  have hlv := lt_heap hB.b.1
  have HB := Lib.hid (fun o => hB.keep (f0 o) (by simp))
  have HBB := Lib.hid hB
  have HF := Lib.hid f0
  have HO := Lib.hid ho
  clear hB f0 ho
  have hn1 : w.heap.size ∉ [br] := by simp; omega
  have hn2 : w.heap.size ∉ [bv] := by simp; omega
  have HN1 := Lib.hid hn1
  have HN2 := Lib.hid hn2
  clear hn1 hn2
  go_enter Try.func22, Try.ntmps22
  go_wp2_with fail
  refine (RRestR_any br vr l sp1 s _ (HB.out _).a hp hl).mono ?_
  rintro r w1 ⟨rfl, f1⟩
  have HF1 := Lib.hid f1
  clear f1
  go_wp2_with fail
  refine (VRest_any bv vv l sp2 s _ ((HB.out _).still HF1.out.2) hp hl).mono ?_
  rintro r w2 ⟨rfl, f2⟩
  go_wp2_with fail
  go_ret
  exact ⟨rfl, (HB.out _).to HF1.out f2, ((((HF.out _).mono (by simp)).trans HF1.out.2 (by simp)).trans f2.2 (by simp))⟩
set_option maxRecDepth 100000 in
set_option maxHeartbeats 2000000 in
theorem read_any (br bv : Nat) (vr vv : Value) (l sp1 sp2 : List UInt8) (s : Nat × Int × Int) (x : Ask0) (w : World) (hB : Both w br bv vr vv l sp1 sp2 s) (hp : s.1 ≤ l.length) (hl : l.length ≤ 1000000000) :
    Calls Try.prog 22 #[.pointer (some ⟨br, 0, none⟩), .pointer (some ⟨bv, 0, none⟩), .agg #[.int .i64 x.kind, .int .i64 x.size, .int .i64 x.low, .int .i64 x.high]] w fun r w' => BothTo w br bv vr vv l sp1 sp2 (x.step l s) r w' := by
  obtain ⟨kind, size, low, high⟩ := x
  by_cases k0 : kind = 0
  · subst k0
    exact read_num br bv vr vv l sp1 sp2 s size low high w hB hp hl
  by_cases k1 : kind = 1
  · subst k1
    exact read_text br bv vr vv l sp1 sp2 s size low high w hB hp hl
  by_cases k2 : kind = 2
  · subst k2
    exact read_raw br bv vr vv l sp1 sp2 s size low high w hB hp hl
  by_cases k3 : kind = 3
  · subst k3
    exact read_rest br bv vr vv l sp1 sp2 s size low high w hB hp hl
  · have hr : Ask0.step ⟨kind, size, low, high⟩ l s = s := by simp [Ask0.step, k0, k1, k2, k3]
    rw [hr]
    have e0 : (kind == 0) = false := by simpa using k0
    have e1 : (kind == 1) = false := by simpa using k1
    have e2 : (kind == 2) = false := by simpa using k2
    have e3 : (kind == 3) = false := by simpa using k3
    have f0 : ∀ o, Frm [] w (w.alloc o) := fun o => (Frm.refl _ _).alloc o
    have HB := Lib.hid (fun o => hB.keep (f0 o) (by simp))
    have HF := Lib.hid f0
    clear hr k0 k1 k2 k3 hB f0
    go_enter Try.func22, Try.ntmps22
    go_wp2
    go_ret
    exact ⟨rfl, HB.out _, (HF.out _).mono (by simp)⟩
end Go.Proofs.Ytappmjophnhdaaa
