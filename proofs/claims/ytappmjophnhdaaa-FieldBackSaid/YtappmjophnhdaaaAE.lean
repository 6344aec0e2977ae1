/-
  The walk of FieldWrites: for every list of acts that can be read it returns true and changes nothing that was there; no conditions but that the list can be read.
-/
import Derived.Test.YtappmjophnhdaaaAD
namespace Go.Proofs.Ytappmjophnhdaaa
open Go.RowKit
set_option linter.unusedVariables false
set_option linter.unusedSimpArgs false

/-- Both writers, side by side. -/
structure Pair (w : World) (bw bv : Nat) (wr : World) (s : List UInt8 × Int) (v1 v2 : Value) : Prop where
  a : ∃ sp, Wr wr bw v1 s.1 sp s.2
  b : ∃ sp, Rw wr bv v2 s.1 sp s.2
  f : Frm [] w wr
  n1 : w.heap.size ≤ bw
  n2 : w.heap.size ≤ bv
  f1 : Fresh w v1
  f2 : Fresh w v2
  d : ∀ k ∈ bw :: blk v1, k ∉ bv :: blk v2
def PairRel (w : World) (bw bv : Nat) (xs : List Act0) (c : Value) (wr : World) : Prop :=
  ∃ k : Nat, ∃ v1 v2, k ≤ xs.length ∧ c = .int .i64 k ∧ Pair w bw bv wr (steps (xs.take k) ([], 0)) v1 v2
theorem Pair.writes {w wr w2 : World} {bw bv : Nat} {s s' : List UInt8 × Int} {v1 v2 : Value} (h : Pair w bw bv wr s v1 v2) (t : WrTo2 wr bw v1 s' w2) :
    ∃ v1', (∃ sp, Wr w2 bw v1' s'.1 sp s'.2) ∧ (∃ sp, Rw w2 bv v2 s.1 sp s.2) ∧ Frm [] w w2 ∧ Fresh w v1' ∧ ∀ k ∈ bw :: blk v1', k ∉ bv :: blk v2 := by
  obtain ⟨v', sp', h1, h2, h3⟩ := t
  obtain ⟨sp, hb⟩ := h.b
  have hlt := hb.lt
  refine ⟨v', ⟨sp', h1⟩, ⟨sp, hb.keep h2 (fun hm => h.d _ hm (by simp)) (fun k hk hm => h.d _ hm (List.mem_cons_of_mem _ hk))⟩, h.f.trans h2 (fun k hk => ?_), fun k hk => ?_, fun k hk hm => ?_⟩
  · rcases List.mem_cons.1 hk with rfl | hk
    · exact .inr h.n1
    · exact .inr (h.f1 k hk)
  · rcases h3 k hk with h4 | h4
    · exact h.f1 k h4
    · exact Nat.le_trans h.f.size h4
  · rcases List.mem_cons.1 hk with rfl | hk
    · exact h.d _ (by simp) hm
    · rcases h3 k hk with h4 | h4
      · exact h.d _ (List.mem_cons_of_mem _ h4) hm
      · have := hlt k hm; omega
theorem Pair.says {w w2 w3 : World} {bw bv : Nat} {s s' : List UInt8 × Int} {v1 v2 : Value} (ha : ∃ sp, Wr w2 bw v1 s'.1 sp s'.2) (hf : Frm [] w w2) (n1 : w.heap.size ≤ bw) (n2 : w.heap.size ≤ bv) (f1 : Fresh w v1) (f2 : Fresh w v2)
    (d : ∀ k ∈ bw :: blk v1, k ∉ bv :: blk v2) (t : RwTo w2 bv v2 s' w3) : ∃ v2', Pair w bw bv w3 s' v1 v2' := by
  obtain ⟨v', sp', h1, h2, h3⟩ := t
  obtain ⟨sp, hb⟩ := ha
  have hlt := hb.lt
  refine ⟨v', ⟨sp, hb.keep h2 (fun hm => d _ (by simp) hm) (fun k hk hm => d _ (List.mem_cons_of_mem _ hk) hm)⟩, ⟨sp', h1⟩, hf.trans h2 (fun k hk => ?_), n1, n2, f1, fun k hk => ?_, fun k hk hm => ?_⟩
  · rcases List.mem_cons.1 hk with rfl | hk
    · exact .inr n2
    · exact .inr (f2 k hk)
  · rcases h3 k hk with h4 | h4
    · exact f2 k h4
    · exact Nat.le_trans hf.size h4
  · rcases List.mem_cons.1 hm with rfl | hm
    · exact d _ hk (by simp)
    · rcases h3 k hm with h4 | h4
      · exact d _ hk (List.mem_cons_of_mem _ h4)
      · have := hlt k hk; omega
theorem Pair.keep {w wr w' : World} {bw bv : Nat} {s : List UInt8 × Int} {v1 v2 : Value} {L : List Nat} (h : Pair w bw bv wr s v1 v2) (f : Frm L wr w') (hL : ∀ k ∈ L, wr.heap.size ≤ k) : Pair w bw bv w' s v1 v2 := by
  obtain ⟨sp, ha⟩ := h.a
  obtain ⟨sp2, hb⟩ := h.b
  exact ⟨⟨sp, ha.keep f (fun hm => by have := hL _ hm; have := ha.lt bw (by simp); omega) (fun k hk hm => by have := hL _ hm; have := ha.lt k (List.mem_cons_of_mem _ hk); omega)⟩,
    ⟨sp2, hb.keep f (fun hm => by have := hL _ hm; have := hb.lt bv (by simp); omega) (fun k hk hm => by have := hL _ hm; have := hb.lt k (List.mem_cons_of_mem _ hk); omega)⟩,
    h.f.trans f (fun k hk => .inr (Nat.le_trans h.f.size (hL k hk))), h.n1, h.n2, h.f1, h.f2, h.d⟩
set_option maxHeartbeats 1000000 in
theorem Over_all (v : Value) (l sp : List UInt8) (w : World) (hO : OwnB 5 w v l sp) :
    Calls Try.prog 18 #[v] w fun r w' => r = .returned (.tuple #[]) ∧ Frm (blk v) w w' := by
  have hO' := hO
  obtain ⟨h1, ⟨rfl, h2, h3⟩ | ⟨g, cap, rfl, h3, h4, h5, h6⟩⟩ := hO'
  · go_enter Try.func18, Try.ntmps18
    go_wp2
    go_loop [3] (fun c => c = .int .i64 0) (fun _ => 0)
    case atStart => rfl
    case round =>
      subst hrel
      go_wp2
      go_end0
      exact ⟨rfl, Frm.refl _ _⟩
  · obtain ⟨k1, k2, k3⟩ := hO.caps
    have o1 : OwnB 5 w (.slice (some ⟨g, 0, none⟩) cap cap) (l ++ sp) [] := OwnB.of_heap (by simpa using hO.heap) (by simp; omega) (by simp; omega) h4
    have hcap : (cap : Int) ≤ 9223372036854775807 := by simp [maxLen] at h4; omega
    have hlen : (l ++ sp).length = cap := by simp; omega
    have HL := Lib.hid hlen
    clear hO h1 h5 h6 k1 k2 k3 hlen
    go_enter Try.func18, Try.ntmps18
    go_wp2
    go_loopw [3] (OverRel w g cap) (fun c _ => cap - (intOf c).toNat)
    case atStart => exact ⟨0, _, Nat.zero_le _, rfl, HL.out, o1, Frm.refl _ _⟩
    case round =>
      obtain ⟨k, L, hk, rfl, hL, o2, f2⟩ := hrel
      have HL2 := Lib.hid hL
      by_cases hlt : k < cap
      · have hc := o2.cell k (by simp; omega)
        have hf := o2.frozen k
        unfold bv at hc
        generalize (L ++ [])[k]! = x at hc
        clear hL
        have hx := Go.bounds_u8 (Go.wf_bits .xor .u8 x.toNat 90)
        have HX := Lib.hid hx
        clear hx
        go_wp2
        refine ⟨⟨k + 1, _, by omega, by go_num, ?_, o2.store k (by rw [HL2.out]; exact hlt) (UInt8.ofNat (bits .xor .u8 x.toNat 90).toNat) ?_, f2.setCell _ _ (by simp)⟩, by simp [intOf]; omega⟩
        · rw [List.length_set, HL2.out]
        · have := HX.out; simp only [bv, UInt8.toNat_ofNat']; congr 1; omega
      · obtain rfl : k = cap := by omega
        clear hL
        go_wp2
        go_end0
        exact ⟨rfl, f2⟩
theorem Acts.keep {B : Nat} {w w' : World} {val : Value} {xs : List Act0} (h : Acts B w val xs) (f : Frm [] w w') : Acts B w' val xs := by
  refine ⟨h.form, h.big, fun k hk => ?_⟩
  obtain ⟨b, off, a, c, msp, h1, h2, h3, h4, h5, h6, h7, h8, h9, h10⟩ := h.at' k hk
  exact ⟨b, off, a, c, msp, h1, h2, f.cell h3 (by simp), f.cell h4 (by simp), f.cell h5 (by simp), f.cell h6 (by simp), f.cell h7 (by simp), h8.keep f (by simp), h9, h10⟩
set_option maxRecDepth 100000 in
set_option maxHeartbeats 4000000 in
theorem writes_long (val : Value) (xs : List Act0) (w : World) (hA : Acts w.heap.size w val xs) (hlong : longB xs = true) : Calls Try.prog 3 #[val] w fun r w' => YesF w r w' := by
  obtain ⟨a, cap, hval⟩ := hA.form
  subst hval
  have HA := Lib.hid hA
  have HB := Lib.hid hlong
  clear hA hlong
  go_enter Try.func3, Try.ntmps3
  go_wp2_with (first | (go_at_call 10; refine (New_any _).mono ?_; rintro r w1 ⟨rfl, hw1, f1⟩) | (go_at_call 11; refine (long_any w.heap.size _ xs _ (HA.out.keep (f1.alloc _))).mono ?_; rw [HB.out]; rintro r w2 ⟨rfl, rfl⟩) | (go_at_call 12; refine (awake_any _).mono ?_; rintro r w3 ⟨rfl, f3⟩))
  refine bodyPost_ret (results_tmp rfl _ _ _) rfl ?_
  exact ⟨rfl, (f1.alloc _).trans f3 (by simp)⟩
set_option maxRecDepth 100000 in
set_option maxHeartbeats 8000000 in
theorem writes_short (val : Value) (xs : List Act0) (w : World) (hA : Acts w.heap.size w val xs) (hlong : longB xs = false) : Calls Try.prog 3 #[val] w fun r w' => YesF w r w' := by
  obtain ⟨a, cap, hval⟩ := hA.form
  subst hval
  obtain ⟨hat, hx60, hm300⟩ := hA.small hlong
  have hx6 : (xs.length : Int) ≤ 60 := by omega
  have HA := Lib.hid hA
  have HT := Lib.hid hat.at'
  have HB := Lib.hid hlong
  have HM := Lib.hid hm300
  clear hA hlong hat hx60 hm300
  go_enter Try.func3, Try.ntmps3
  go_wp2_with (first | (go_at_call 10; refine (New_any _).mono ?_; rintro r w1 ⟨rfl, hw1, f1⟩) | (go_at_call 11; refine (long_any w.heap.size _ xs _ (HA.out.keep (f1.alloc _))).mono ?_; rw [HB.out]; rintro r w2 ⟨rfl, hw2⟩; subst hw2))
  go_loopw [5] (PairRel w w.heap.size w1.heap.size xs) (fun c _ => xs.length - (intOf c).toNat)
  case atStart =>
    refine ⟨0, .slice none 0 0, .slice none 0 0, Nat.zero_le _, rfl, ⟨⟨[], hw1.keep ((Frm.refl [] _).alloc _) (by simp) (by simp)⟩, ⟨[], heap_alloc_new _ _, OwnB.nil _ _, by simp [blk]⟩, f1.alloc _, Nat.le_refl _, f1.size, by simp [Fresh, blk], by simp [Fresh, blk], ?_⟩⟩
    have := hw1.lt w.heap.size (by simp)
    simp [blk]
    omega
  case round =>
    obtain ⟨k, v1, v2, hk, rfl, hP⟩ := hrel
    by_cases hlt : k < xs.length
    · have hle := steps_le (xs.take k) ([], 0) (by simp)
      have hle2 := steps_le (xs.take (k + 1)) ([], 0) (by simp)
      have hsn := steps_snoc xs k hlt ([], 0)
      rw [hsn] at hle2
      generalize steps (xs.take k) ([], 0) = st0 at hP hle hle2 hsn
      obtain ⟨sl, se⟩ := st0
      dsimp only at hle
      obtain ⟨b, off, a2, c2, msp, ⟨cap2, hval⟩, hbB, q0, q1, q2, q3, q4, hS, hBl, hm, hn⟩ := HT.out k hlt
      cases hval
      have p0 := hP.f.cell q0 (by simp)
      have p1 := hP.f.cell q1 (by simp)
      have p2 := hP.f.cell q2 (by simp)
      have p3 := hP.f.cell q3 (by simp)
      have p4 := hP.f.cell q4 (by simp)
      have hx : ActV wr xs[k] (.agg #[.int .i64 xs[k].kind, .int .i64 xs[k].n, .int .i64 xs[k].size, .string xs[k].s, .slice a2 xs[k].m.length c2]) := ⟨a2, c2, msp, rfl, hS.keep hP.f (by simp), hn⟩
      have hd : ∀ i ∈ blkA (.agg #[.int .i64 xs[k].kind, .int .i64 xs[k].n, .int .i64 xs[k].size, .string xs[k].s, .slice a2 xs[k].m.length c2]), i ∉ w.heap.size :: blk v1 := fun i hi hm => by
        have h5 := hBl i hi
        rcases List.mem_cons.1 hm with h6 | h6
        · omega
        · have := hP.f1 i h6; omega
      obtain ⟨sp1, ha1⟩ := hP.a
      have hp := Lib.hid (write_any w.heap.size v1 _ _ sp1 _ xs[k] wr ha1 hle hx hm hd)
      have HS := Lib.hid hsn
      have HP := Lib.hid hP
      have HBL := Lib.hid hBl
      clear ha1 hx hd hsn hP hBl
      go_wp2_with (go_at_call 13; refine hp.out.mono ?_; rintro r w2 ⟨rfl, t2⟩; obtain ⟨v1', hA1, ⟨sp2, hB1⟩, F2, fr1, d1⟩ := HP.out.writes t2; have p0 := F2.cell q0 (by simp); have p1 := F2.cell q1 (by simp); have p2 := F2.cell q2 (by simp); have p3 := F2.cell q3 (by simp); have p4 := F2.cell q4 (by simp); clear t2)
      have hx2 : ActV w2 xs[k] (.agg #[.int .i64 xs[k].kind, .int .i64 xs[k].n, .int .i64 xs[k].size, .string xs[k].s, .slice a2 xs[k].m.length c2]) := ⟨a2, c2, msp, rfl, hS.keep F2 (by simp), hn⟩
      have hd2 : w1.heap.size ∉ blkA (.agg #[.int .i64 xs[k].kind, .int .i64 xs[k].n, .int .i64 xs[k].size, .string xs[k].s, .slice a2 xs[k].m.length c2]) := fun hmm => by
        have h5 := HBL.out _ hmm
        have := HP.out.n2
        omega
      refine (say_any w1.heap.size v2 _ _ sp2 _ xs[k] w2 hB1 hle hx2 hm hd2).mono ?_
      rintro r w3 ⟨rfl, t3⟩
      obtain ⟨v2', P3⟩ := Pair.says (s := ([], 0)) hA1 F2 HP.out.n1 HP.out.n2 fr1 HP.out.f2 d1 t3
      obtain ⟨sp3, ha3⟩ := P3.a
      obtain ⟨sp4, hb3⟩ := P3.b
      clear hx2 hd2 t3 hA1 hB1 F2 d1 hS p0 p1 p2 p3 p4 q0 q1 q2 q3 q4
      generalize hst : xs[k].step (sl, se) = st2 at P3 ha3 hb3 hle2
      have HST := Lib.hid hst
      clear hst
      go_wp2_with fail
      refine (Out_any w.heap.size v1' _ sp3 _ w3 ha3 hle2).mono ?_
      rintro r w4 ⟨a4, cap4, sq4, rfl, o4, f4, b4⟩
      go_wp2_with fail
      refine (ROut_any w1.heap.size v2' _ sp4 _ w4 (hb3.keep f4 (by simp) (by simp)) hle2).mono ?_
      rintro r w5 ⟨a5, cap5, sq5, rfl, o5, f5, b5⟩
      have O4 := Lib.hid (o4.keep f5 (by simp))
      go_wp2_with fail
      refine (Same_any _ _ _ _ _ _ _ O4.out.sl o5.sl).mono ?_
      rw [beq_self_eq_true]
      rintro r w6 ⟨rfl, rfl⟩
      go_wp2_with fail
      refine (Over_all _ _ _ _ O4.out).mono ?_
      rintro r w7 ⟨rfl, f7⟩
      go_wp2
      refine ⟨⟨k + 1, v1', v2', by omega, by go_num, ?_⟩, by simp [intOf]; omega⟩
      rw [HS.out, HST.out]
      exact P3.keep (((f4.mono (by simp)).trans f5 (by simp)).trans f7 (fun i hi => .inl hi)) b4
    · obtain rfl : k = xs.length := by omega
      rw [List.take_length] at hP
      have hle3 := steps_le xs ([], 0) (by simp)
      generalize steps xs ([], 0) = st at hP hle3
      obtain ⟨sp3, ha3⟩ := hP.a
      obtain ⟨sp4, hb3⟩ := hP.b
      have FP := hP.f
      clear hP
      go_wp2_with fail
      refine (Out_any w.heap.size v1 _ sp3 _ wr ha3 hle3).mono ?_
      rintro r w4 ⟨a4, cap4, sq4, rfl, o4, f4, b4⟩
      go_wp2_with fail
      refine (ROut_any w1.heap.size v2 _ sp4 _ w4 (hb3.keep f4 (by simp) (by simp)) hle3).mono ?_
      rintro r w5 ⟨a5, cap5, sq5, rfl, o5, f5, b5⟩
      have O4 := Lib.hid (o4.keep f5 (by simp))
      go_wp2_with fail
      refine (Same_any _ _ _ _ _ _ _ O4.out.sl o5.sl).mono ?_
      rw [beq_self_eq_true]
      rintro r w6 ⟨rfl, rfl⟩
      go_wp2_with fail
      refine (awake_any _).mono ?_
      rintro r w7 ⟨rfl, f7⟩
      go_wp2
      go_ret
      exact ⟨rfl, ((FP.trans f4 (by simp)).trans f5 (by simp)).trans f7 (by simp)⟩
end Go.Proofs.Ytappmjophnhdaaa
