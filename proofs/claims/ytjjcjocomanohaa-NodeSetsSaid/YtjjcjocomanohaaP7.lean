/-
  Contracts of the writing of fields: number, addr, sum. No conditions but those that each theorem names.
-/
import Derived.Test.YtjjcjocomanohaaP5
namespace Go.Proofs.Ytjjcjocomanohaa
open Go.RowKit
set_option linter.unusedVariables false
set_option linter.unusedSimpArgs false
set_option maxRecDepth 100000

/-- What an append does: only the slice's own block is changed, or a new one is made. -/
def Grew (w : World) (v : Value) (w' : World) (v' : Value) : Prop := Frm (blk v) w w' ∧ ∀ i ∈ blk v', i ∈ blk v ∨ w.heap.size ≤ i
theorem Grew.refl (w : World) (v : Value) : Grew w v w v := ⟨Frm.refl _ _, fun i hi => .inl hi⟩
theorem Grew.trans {w w1 w2 : World} {v v1 v2 : Value} (h : Grew w v w1 v1) (k : Grew w1 v1 w2 v2) : Grew w v w2 v2 :=
  ⟨h.1.trans k.1 h.2, fun i hi => by rcases k.2 i hi with h1 | h1; exact h.2 i h1; exact .inr (Nat.le_trans h.1.size h1)⟩
theorem Grew.pre {w w0 w1 : World} {v v1 : Value} (f : Frm [] w w0) (k : Grew w0 v w1 v1) : Grew w v w1 v1 :=
  ⟨(f.mono (L' := blk v) (fun i hi => by simp at hi)).trans k.1 (fun i hi => .inl hi), fun i hi => (k.2 i hi).imp id (Nat.le_trans f.size)⟩
def Ext (w : World) (v : Value) (l : List UInt8) (e : Ending) (w' : World) : Prop := ∃ a cap sp, e = .returned (.slice a l.length cap) ∧ OwnB 5 w' (.slice a l.length cap) l sp ∧ Grew w v w' (.slice a l.length cap)
theorem one_slB {w : World} {b : UInt8} {x : Int} {g : Nat} (hg : w.heap[g]? = some (.cells #[.int .u8 x] 5 (0, 0))) (hx : x = b.toNat) : SlB w (.slice (some ⟨g, 0, none⟩) 1 1) [b] [] := by
  subst hx
  exact (OwnB.of_heap (T := 5) (l := [b]) (sp := []) (by simpa [bvs, bv] using hg) rfl rfl (by simp [maxLen])).sl
def be1 (n : Nat) : List UInt8 := [UInt8.ofNat n]
def be2 (n : Nat) : List UInt8 := [UInt8.ofNat (n / 256), UInt8.ofNat n]
def be4 (n : Nat) : List UInt8 := [UInt8.ofNat (n / 16777216), UInt8.ofNat (n / 65536), UInt8.ofNat (n / 256), UInt8.ofNat n]
set_option maxHeartbeats 2000000 in
theorem number1 (v : Value) (l sp : List UInt8) (n : Nat) (w : World) (hO : OwnB 5 w v l sp) (hl : l.length ≤ 1000000) (hn : n < 1099511627776) :
    Calls Try.prog 70 #[v, .int .i64 n, .int .i64 1] w (Ext w v (l ++ be1 n)) := by
  obtain ⟨a0, cap0, rfl, _, _⟩ := hO.sl.form
  have hl9 : (l.length : Int) ≤ 1000000 := by omega
  have O0 := Lib.hid hO
  have G0 := Lib.hid (Grew.refl w (.slice a0 l.length cap0))
  clear hO hl
  go_enter Try.func70, Try.ntmps70
  go_wp2_with fail
  refine wp_loop_rounds 2 ?_
  rw [rounds_succ]
  go_wp2_with (at_builtin; refine wpList_append_bytes BF (O0.out.keep ((Frm.refl [] _).alloc _) (by simp)) (one_slB (b := UInt8.ofNat n) (heap_alloc_at rfl) (by rw [UInt8.toNat_ofNat']; omega)) (by simp; omega) rfl (.tmp 12) (.tmp 21) rfl rfl rfl ?_; intro a1 cap1 w1 sp1 o1 f1 b1; simp only [List.length_append, List.length_cons, List.length_nil, Nat.zero_add] at o1 b1 ⊢; have O1 := Lib.hid o1; have G1 := Lib.hid (G0.out.trans (Grew.pre ((Frm.refl [] _).alloc _) ⟨f1, b1⟩)); clear o1 f1 b1)
  rw [rounds_succ]
  go_wp2_with fail
  go_ret
  refine ⟨a1, cap1, sp1, ?_, ?_, ?_⟩
  · simp [be1]
  · simpa [be1] using O1.out
  · simpa [be1] using G1.out
set_option maxHeartbeats 2000000 in
theorem number2 (v : Value) (l sp : List UInt8) (n : Nat) (w : World) (hO : OwnB 5 w v l sp) (hl : l.length ≤ 1000000) (hn : n < 1099511627776) :
    Calls Try.prog 70 #[v, .int .i64 n, .int .i64 2] w (Ext w v (l ++ be2 n)) := by
  obtain ⟨a0, cap0, rfl, _, _⟩ := hO.sl.form
  have hl9 : (l.length : Int) ≤ 1000000 := by omega
  have O0 := Lib.hid hO
  have G0 := Lib.hid (Grew.refl w (.slice a0 l.length cap0))
  clear hO hl
  go_enter Try.func70, Try.ntmps70
  go_wp2_with fail
  refine wp_loop_rounds 3 ?_
  rw [rounds_succ]
  go_wp2_with (at_builtin; refine wpList_append_bytes BF (O0.out.keep ((Frm.refl [] _).alloc _) (by simp)) (one_slB (b := UInt8.ofNat (n / 256)) (heap_alloc_at rfl) (by rw [UInt8.toNat_ofNat']; omega)) (by simp; omega) rfl (.tmp 12) (.tmp 21) rfl rfl rfl ?_; intro a1 cap1 w1 sp1 o1 f1 b1; simp only [List.length_append, List.length_cons, List.length_nil, Nat.zero_add] at o1 b1 ⊢; have O1 := Lib.hid o1; have G1 := Lib.hid (G0.out.trans (Grew.pre ((Frm.refl [] _).alloc _) ⟨f1, b1⟩)); clear o1 f1 b1)
  rw [rounds_succ]
  go_wp2_with (at_builtin; refine wpList_append_bytes BF (O1.out.keep ((Frm.refl [] _).alloc _) (by simp)) (one_slB (b := UInt8.ofNat n) (heap_alloc_at rfl) (by rw [UInt8.toNat_ofNat']; omega)) (by simp; omega) rfl (.tmp 12) (.tmp 21) rfl rfl rfl ?_; intro a2 cap2 w2 sp2 o1 f1 b1; simp only [List.length_append, List.length_cons, List.length_nil, Nat.zero_add] at o1 b1 ⊢; have O2 := Lib.hid o1; have G2 := Lib.hid (G1.out.trans (Grew.pre ((Frm.refl [] _).alloc _) ⟨f1, b1⟩)); clear o1 f1 b1)
  rw [rounds_succ]
  go_wp2_with fail
  go_ret
  refine ⟨a2, cap2, sp2, ?_, ?_, ?_⟩
  · simp [be2]
  · simpa [be2] using O2.out
  · simpa [be2] using G2.out
set_option maxHeartbeats 2000000 in
theorem number4 (v : Value) (l sp : List UInt8) (n : Nat) (w : World) (hO : OwnB 5 w v l sp) (hl : l.length ≤ 1000000) (hn : n < 1099511627776) :
    Calls Try.prog 70 #[v, .int .i64 n, .int .i64 4] w (Ext w v (l ++ be4 n)) := by
  obtain ⟨a0, cap0, rfl, _, _⟩ := hO.sl.form
  have hl9 : (l.length : Int) ≤ 1000000 := by omega
  have O0 := Lib.hid hO
  have G0 := Lib.hid (Grew.refl w (.slice a0 l.length cap0))
  clear hO hl
  go_enter Try.func70, Try.ntmps70
  go_wp2_with fail
  refine wp_loop_rounds 5 ?_
  rw [rounds_succ]
  go_wp2_with (at_builtin; refine wpList_append_bytes BF (O0.out.keep ((Frm.refl [] _).alloc _) (by simp)) (one_slB (b := UInt8.ofNat (n / 16777216)) (heap_alloc_at rfl) (by rw [UInt8.toNat_ofNat']; omega)) (by simp; omega) rfl (.tmp 12) (.tmp 21) rfl rfl rfl ?_; intro a1 cap1 w1 sp1 o1 f1 b1; simp only [List.length_append, List.length_cons, List.length_nil, Nat.zero_add] at o1 b1 ⊢; have O1 := Lib.hid o1; have G1 := Lib.hid (G0.out.trans (Grew.pre ((Frm.refl [] _).alloc _) ⟨f1, b1⟩)); clear o1 f1 b1)
  rw [rounds_succ]
  go_wp2_with (at_builtin; refine wpList_append_bytes BF (O1.out.keep ((Frm.refl [] _).alloc _) (by simp)) (one_slB (b := UInt8.ofNat (n / 65536)) (heap_alloc_at rfl) (by rw [UInt8.toNat_ofNat']; omega)) (by simp; omega) rfl (.tmp 12) (.tmp 21) rfl rfl rfl ?_; intro a2 cap2 w2 sp2 o1 f1 b1; simp only [List.length_append, List.length_cons, List.length_nil, Nat.zero_add] at o1 b1 ⊢; have O2 := Lib.hid o1; have G2 := Lib.hid (G1.out.trans (Grew.pre ((Frm.refl [] _).alloc _) ⟨f1, b1⟩)); clear o1 f1 b1)
  rw [rounds_succ]
  go_wp2_with (at_builtin; refine wpList_append_bytes BF (O2.out.keep ((Frm.refl [] _).alloc _) (by simp)) (one_slB (b := UInt8.ofNat (n / 256)) (heap_alloc_at rfl) (by rw [UInt8.toNat_ofNat']; omega)) (by simp; omega) rfl (.tmp 12) (.tmp 21) rfl rfl rfl ?_; intro a3 cap3 w3 sp3 o1 f1 b1; simp only [List.length_append, List.length_cons, List.length_nil, Nat.zero_add] at o1 b1 ⊢; have O3 := Lib.hid o1; have G3 := Lib.hid (G2.out.trans (Grew.pre ((Frm.refl [] _).alloc _) ⟨f1, b1⟩)); clear o1 f1 b1)
  rw [rounds_succ]
  go_wp2_with (at_builtin; refine wpList_append_bytes BF (O3.out.keep ((Frm.refl [] _).alloc _) (by simp)) (one_slB (b := UInt8.ofNat n) (heap_alloc_at rfl) (by rw [UInt8.toNat_ofNat']; omega)) (by simp; omega) rfl (.tmp 12) (.tmp 21) rfl rfl rfl ?_; intro a4 cap4 w4 sp4 o1 f1 b1; simp only [List.length_append, List.length_cons, List.length_nil, Nat.zero_add] at o1 b1 ⊢; have O4 := Lib.hid o1; have G4 := Lib.hid (G3.out.trans (Grew.pre ((Frm.refl [] _).alloc _) ⟨f1, b1⟩)); clear o1 f1 b1)
  rw [rounds_succ]
  go_wp2_with fail
  go_ret
  refine ⟨a4, cap4, sp4, ?_, ?_, ?_⟩
  · simp [be4]
  · simpa [be4] using O4.out
  · simpa [be4] using G4.out
end Go.Proofs.Ytjjcjocomanohaa
