/-
  The walk of FieldFirst: for all lists of acts that can be read it returns true and changes nothing that was there; no conditions but that the lists can be read.
-/
import Derived.Test.YtappmjophnhdaaaBB
namespace Go.Proofs.Ytappmjophnhdaaa
open Go.RowKit
set_option linter.unusedVariables false
set_option linter.unusedSimpArgs false

def FirstRel (w : World) (bw : Nat) (n : Nat) (st : Nat → List UInt8 × Int) (c : Value) (wr : World) : Prop :=
  ∃ k : Nat, ∃ v sp, k ≤ n ∧ c = .int .i64 k ∧ Wr wr bw v (st k).1 sp (st k).2 ∧ Fresh w v ∧ Frm [] w wr
theorem firstNext {w wr w3 : World} {bw : Nat} {v : Value} {s : List UInt8 × Int} (hb : w.heap.size ≤ bw) (f : Frm [] w wr) (hv : Fresh w v) (t : WrTo2 wr bw v s w3) : ∃ v' sp', Wr w3 bw v' s.1 sp' s.2 ∧ Fresh w v' ∧ Frm [] w w3 := by
  obtain ⟨v', sp', h1, h2, h3⟩ := t
  refine ⟨v', sp', h1, fun k hk => ?_, f.trans h2 (fun k hk => ?_)⟩
  · rcases h3 k hk with h | h
    · exact hv k h
    · exact Nat.le_trans f.size h
  · rcases List.mem_cons.1 hk with rfl | h
    · exact .inr hb
    · exact .inr (hv k h)
structure Bad (w : World) (bw eb q : Nat) (err : Int) (L : List UInt8) (v : Value) (wr : World) : Prop where
  a : ∃ sp, Wr wr bw v L sp err
  b : Fresh w v
  c : Frm [] w wr
  d : wr.cell? ⟨eb, q, none⟩ = some (.int .i64 err)
  e : eb ∉ bw :: blk v
  f : eb < wr.heap.size
def BadRel (w : World) (bw eb q : Nat) (err : Int) (L : List UInt8) (n : Nat) (c : Value) (wr : World) : Prop := ∃ k : Nat, ∃ v, k ≤ n ∧ c = .int .i64 k ∧ Bad w bw eb q err L v wr
theorem badNext {w wr w3 : World} {bw eb q : Nat} {err : Int} {L : List UInt8} {v : Value} (hb : w.heap.size ≤ bw) (hv : Fresh w v) (f : Frm [] w wr) (hd : wr.cell? ⟨eb, q, none⟩ = some (.int .i64 err)) (he : eb ∉ bw :: blk v) (hf : eb < wr.heap.size) (t : WrTo2 wr bw v (L, err) w3) : ∃ v', Bad w bw eb q err L v' w3 := by
  obtain ⟨v', sp', h1, h2, h3⟩ := t
  refine ⟨v', ⟨sp', h1⟩, fun k hk => ?_, f.trans h2 (fun k hk => ?_), h2.cell hd he, fun hm => ?_, Nat.lt_of_lt_of_le hf h2.size⟩
  · rcases h3 k hk with h | h
    · exact hv k h
    · exact Nat.le_trans f.size h
  · rcases List.mem_cons.1 hk with rfl | h
    · exact .inr hb
    · exact .inr (hv k h)
  · rcases List.mem_cons.1 hm with rfl | hm
    · exact he (by simp)
    · rcases h3 _ hm with h | h
      · exact he (List.mem_cons_of_mem _ h)
      · omega
theorem bad_step (l : List UInt8) (hl : l.length ≤ 65536) :
    Act0.step ⟨0, 0, 0, ByteArray.empty, []⟩ (l, 0) = (l, 2) ∧
    Act0.step ⟨0, -1, 1, ByteArray.empty, []⟩ (l, 0) = (l, 5) ∧
    Act0.step ⟨1, 0, 256, ByteArray.empty, []⟩ (l, 0) = (l, 2) ∧
    Act0.step ⟨1, 0, 0, ⟨#[97]⟩, []⟩ (l, 0) = (l, 3) ∧
    Act0.step ⟨3, 0, -1, ByteArray.empty, []⟩ (l, 0) = (l, 2) ∧
    Act0.step ⟨3, 0, 65537, ByteArray.empty, []⟩ (l, 0) = (l, 2) := by
  refine ⟨?_, ?_, ?_, ?_, ?_, ?_⟩
  · simp [Act0.step, wStep, numStep, isSizeB]
  · simp [Act0.step, wStep, numStep, isSizeB]
  · simp [Act0.step, wStep, textStep, isMostB]
  · simp [Act0.step, wStep, textStep, isMostB]
  · simp [Act0.step, wStep, padStep]; omega
  · simp [Act0.step, wStep, padStep]
set_option maxRecDepth 100000 in
set_option maxHeartbeats 8000000 in
theorem first_short (val val2 : Value) (which : Int) (xs ys : List Act0) (w : World) (hA : Acts w.heap.size w val xs) (hB : Acts w.heap.size w val2 ys) (h1 : longB xs = false) (h2 : longB ys = false)
    (hx : -9223372036854775808 ≤ which) (hx2 : which ≤ 9223372036854775807) (hxs : ∀ x ∈ xs, -9223372036854775808 ≤ x.n ∧ -9223372036854775808 ≤ x.size ∧ x.size ≤ 9223372036854775807) :
    Calls Try.prog 9 #[val, .int .i64 which, val2] w fun r w' => YesF w r w' := by
  obtain ⟨a, cap, hval⟩ := hA.form
  subst hval
  obtain ⟨a2, cap2, hval2⟩ := hB.form
  subst hval2
  obtain ⟨hat, hx60, hm300⟩ := hA.small h1
  obtain ⟨hat2, hy60, hm3002⟩ := hB.small h2
  have hx6 : (xs.length : Int) ≤ 60 := by omega
  have hy6 : (ys.length : Int) ≤ 60 := by omega
  have HA := Lib.hid hA
  have HB := Lib.hid hB
  have L1 := Lib.hid h1
  have L2 := Lib.hid h2
  have T1 := Lib.hid hat.at'
  have T2 := Lib.hid hat2.at'
  have M1 := Lib.hid hm300
  have X1 := Lib.hid hxs
  have N60 := Lib.hid hx60
  clear hA hB h1 h2 hat hat2 hm300 hm3002 hxs hx60 hy60
  go_enter Try.func9, Try.ntmps9
  go_wp2_with fail
  refine (awake_any _).mono ?_
  rintro r wa ⟨rfl, fa⟩
  go_wp2_with fail
  refine (long_any w.heap.size _ xs _ (HA.out.keep fa)).mono ?_
  rw [L1.out]
  rintro r w0 ⟨rfl, hw0⟩
  subst hw0
  go_wp2_with fail
  refine (long_any w.heap.size _ ys _ (HB.out.keep fa)).mono ?_
  rw [L2.out]
  rintro r w0' ⟨rfl, hw0'⟩
  subst hw0'
  go_wp2_with fail
  refine (New_any _).mono ?_
  rintro r w1 ⟨rfl, hw1, f1⟩
  go_wp2_with fail
  have hbw := fa.size
  go_loopw [9] (FirstRel w w0'.heap.size xs.length (fun k => steps ((xs.map rightA).take k) ([], 0))) (fun c _ => xs.length - (intOf c).toNat)
  case atStart => exact ⟨0, _, _, Nat.zero_le _, rfl, hw1, by simp [Fresh, blk], fa.trans f1 (by simp)⟩
  case round =>
    obtain ⟨k, v, sp, hk, rfl, hW, hv, f2⟩ := hrel
    by_cases hlt : k < xs.length
    · have hmap : k < (xs.map rightA).length := by simpa using hlt
      have hle := steps_le ((xs.map rightA).take k) ([], 0) (by simp)
      have hsn := steps_snoc (xs.map rightA) k hmap ([], 0)
      rw [List.getElem_map] at hsn
      dsimp only at hW
      generalize steps ((xs.map rightA).take k) ([], 0) = st0 at hW hle hsn
      obtain ⟨sl, se⟩ := st0
      dsimp only at hle
      obtain ⟨b, off, a', c', msp, ⟨cap3, hval⟩, hbB, q0, q1, q2, q3, q4, hS, hBl, hm, hn⟩ := T1.out k hlt
      cases hval
      obtain ⟨y1, y2, y3⟩ := X1.out _ (List.getElem_mem hlt)
      have p0 := f2.cell q0 (by simp)
      have p1 := f2.cell q1 (by simp)
      have p2 := f2.cell q2 (by simp)
      have p3 := f2.cell q3 (by simp)
      have p4 := f2.cell q4 (by simp)
      have HS := Lib.hid hsn
      have HR := Lib.hid (right_any xs[k] a' c' wr y1 hn y2 y3)
      have hd : ∀ i ∈ blkA (actVal (rightA xs[k]) a' c'), i ∉ w0'.heap.size :: blk v := fun i hi hmm => by
        have hi' : i ∈ blkR (.slice a' (rightA xs[k]).m.length c') := hi
        rw [rightA_m] at hi'
        have h5 := hBl i hi'
        rcases List.mem_cons.1 hmm with h6 | h6
        · omega
        · have := hv i h6; omega
      have HD := Lib.hid hd
      have HV : ∀ w', Frm [] wr w' → ActV w' (rightA xs[k]) (actVal (rightA xs[k]) a' c') := fun w' fw => ⟨a', c', msp, rfl, by rw [rightA_m]; exact (hS.keep f2 (by simp)).keep fw (by simp), rightA_n _ hn⟩
      have HV2 := Lib.hid HV
      have HM := Lib.hid (show (rightA xs[k]).m.length ≤ 1000000 by rw [rightA_m]; exact hm)
      clear hsn hd HV q0 q1 q2 q3 q4 hS hBl hm hn y1 y2 y3
      go_wp2_with fail
      refine HR.out.mono ?_
      rintro r w3 ⟨rfl, f3⟩
      go_wp2_with fail
      refine (write_any w0'.heap.size v _ _ sp _ (rightA xs[k]) w3 (hW.keep f3 (by simp) (by simp)) hle (HV2.out w3 f3) HM.out HD.out).mono ?_
      rintro r w4 ⟨rfl, t4⟩
      obtain ⟨v', sp', hW', hv', F4⟩ := firstNext hbw (f2.trans f3 (by simp)) hv t4
      go_wp2
      refine ⟨⟨k + 1, v', sp', by omega, by go_num, ?_, hv', F4⟩, by simp [intOf]; omega⟩
      show Wr _ _ _ (steps ((xs.map rightA).take (k + 1)) ([], 0)).1 _ (steps ((xs.map rightA).take (k + 1)) ([], 0)).2
      rw [HS.out]
      exact hW'
    · obtain rfl : k = xs.length := by omega
      dsimp only at hW
      rw [show (xs.map rightA).take xs.length = xs.map rightA from List.take_of_length_le (by simp)] at hW
      obtain ⟨e0, l0⟩ := right_steps xs (M1.out) [] (by have := N60.out; simp; omega)
      have hle0 : (steps (xs.map rightA) ([], 0)).1.length ≤ 65536 := by have := N60.out; simp at l0; omega
      rw [e0] at hW
      generalize (steps (xs.map rightA) ([], 0)).1 = L at hW hle0
      clear e0 l0
      go_wp2_with fail
      refine (Out_any w0'.heap.size v _ sp _ wr hW hle0).mono ?_
      rintro r w5 ⟨a5, cap5, sq5, rfl, o5, f5, b5⟩
      go_wp2_with fail
      have FW : ∀ x y, Frm [] w ((w5.alloc x).alloc y) := fun x y => (((f2.trans f5 (by simp)).alloc _).alloc _)
      have FK : ∀ x y, Frm [] wr ((w5.alloc x).alloc y) := fun x y => ((f5.alloc _).alloc _)
      have hbl := hW.lt
      have s5 := f5.size
      have HBL := Lib.hid (show ∀ k ∈ w0'.heap.size :: blk v, k < w5.heap.size from fun k hk => Nat.lt_of_lt_of_le (hbl k hk) s5)
      have HFW := Lib.hid FW
      have HFK := Lib.hid FK
      clear FW FK hbl
      have h6 : pickI which 6 = 0 ∨ pickI which 6 = 1 ∨ pickI which 6 = 2 ∨ pickI which 6 = 3 ∨ pickI which 6 = 4 ∨ pickI which 6 = 5 := by have := pickI_range which 6 (by decide); omega
      rcases h6 with h | h | h | h | h | h
      · refine (Pick_any which 6 _ (by decide) (by decide) hx hx2).mono ?_
        rw [h]
        rintro r w6 ⟨rfl, hw6⟩
        subst hw6
        clear h
        go_wp2_with fail
        refine (write_any w0'.heap.size v _ _ sp 0 ⟨0, 0, 0, ByteArray.empty, []⟩ _ (hW.keep (HFK.out _ _) (by simp) (by simp)) hle0 ⟨none, 0, [], rfl, nilAct _, by decide⟩ (by decide) (by simp [blkA, blkR])).mono ?_
        rw [(bad_step L hle0).1]
        rintro r w7 ⟨rfl, t7⟩
        obtain ⟨v7, hB7⟩ := badNext (eb := w5.heap.size + 1) (q := 0) hbw hv (HFW.out _ _) (by simp [go_sem]) (fun hm => by have := HBL.out _ hm; omega) (by simp) t7
        clear t7
        go_wp2_with fail
        go_loopw [15] (BadRel w w0'.heap.size (w5.heap.size + 1) 0 2 L ys.length) (fun c _ => ys.length - (intOf c).toNat)
        case atStart => exact ⟨0, v7, Nat.zero_le _, rfl, hB7⟩
        case round =>
          obtain ⟨k, v8, hk, rfl, hB8⟩ := hrel
          clear hB7
          by_cases hlt2 : k < ys.length
          · obtain ⟨b, off, a', c', msp, ⟨cap3, hval⟩, hbB, q0, q1, q2, q3, q4, hS, hBl, hm, hn⟩ := T2.out k hlt2
            cases hval
            have p0 := hB8.c.cell q0 (by simp)
            have p1 := hB8.c.cell q1 (by simp)
            have p2 := hB8.c.cell q2 (by simp)
            have p3 := hB8.c.cell q3 (by simp)
            have p4 := hB8.c.cell q4 (by simp)
            obtain ⟨sp8, hW8⟩ := hB8.a
            have hp := Lib.hid (write_any w0'.heap.size v8 _ _ sp8 _ ys[k] _ hW8 hle0 ⟨a', c', msp, rfl, hS.keep hB8.c (by simp), hn⟩ hm (fun i hi hmm => by
              have h5 := hBl i hi
              rcases List.mem_cons.1 hmm with h6 | h6
              · omega
              · have := hB8.b i h6; omega))
            rw [err_step _ _ _ (by decide)] at hp
            have HB8 := Lib.hid hB8
            clear hB8 hW8 q0 q1 q2 q3 q4 hS hBl hm hn
            go_wp2_with (go_at_call 13; refine hp.out.mono ?_; rintro r w9 ⟨rfl, t9⟩)
            obtain ⟨v9, hB9⟩ := badNext hbw HB8.out.b HB8.out.c HB8.out.d HB8.out.e HB8.out.f t9
            exact ⟨⟨k + 1, v9, by omega, by go_num, hB9⟩, by simp [intOf]; omega⟩
          · obtain rfl : k = ys.length := by omega
            obtain ⟨sp8, hW8⟩ := hB8.a
            have c8 := hB8.d
            have F8 := hB8.c
            go_wp2_with fail
            refine (Out_any w0'.heap.size v8 _ sp8 _ _ hW8 hle0).mono ?_
            unfold Outs
            simp only [show outB L 2 = [] from rfl]
            rintro r w10 ⟨a10, cap10, sq10, rfl, o10, f10, b10⟩
            have c10 := f10.cell c8 (by simp)
            go_wp2
            go_ret
            exact ⟨rfl, F8.trans f10 (by simp)⟩
      · refine (Pick_any which 6 _ (by decide) (by decide) hx hx2).mono ?_
        rw [h]
        rintro r w6 ⟨rfl, hw6⟩
        subst hw6
        clear h
        go_wp2_with fail
        refine (write_any w0'.heap.size v _ _ sp 0 ⟨0, -1, 1, ByteArray.empty, []⟩ _ (hW.keep (HFK.out _ _) (by simp) (by simp)) hle0 ⟨none, 0, [], rfl, nilAct _, by decide⟩ (by decide) (by simp [blkA, blkR])).mono ?_
        rw [(bad_step L hle0).2.1]
        rintro r w7 ⟨rfl, t7⟩
        obtain ⟨v7, hB7⟩ := badNext (eb := w5.heap.size + 1) (q := 1) hbw hv (HFW.out _ _) (by simp [go_sem]) (fun hm => by have := HBL.out _ hm; omega) (by simp) t7
        clear t7
        go_wp2_with fail
        go_loopw [15] (BadRel w w0'.heap.size (w5.heap.size + 1) 1 5 L ys.length) (fun c _ => ys.length - (intOf c).toNat)
        case atStart => exact ⟨0, v7, Nat.zero_le _, rfl, hB7⟩
        case round =>
          obtain ⟨k, v8, hk, rfl, hB8⟩ := hrel
          clear hB7
          by_cases hlt2 : k < ys.length
          · obtain ⟨b, off, a', c', msp, ⟨cap3, hval⟩, hbB, q0, q1, q2, q3, q4, hS, hBl, hm, hn⟩ := T2.out k hlt2
            cases hval
            have p0 := hB8.c.cell q0 (by simp)
            have p1 := hB8.c.cell q1 (by simp)
            have p2 := hB8.c.cell q2 (by simp)
            have p3 := hB8.c.cell q3 (by simp)
            have p4 := hB8.c.cell q4 (by simp)
            obtain ⟨sp8, hW8⟩ := hB8.a
            have hp := Lib.hid (write_any w0'.heap.size v8 _ _ sp8 _ ys[k] _ hW8 hle0 ⟨a', c', msp, rfl, hS.keep hB8.c (by simp), hn⟩ hm (fun i hi hmm => by
              have h5 := hBl i hi
              rcases List.mem_cons.1 hmm with h6 | h6
              · omega
              · have := hB8.b i h6; omega))
            rw [err_step _ _ _ (by decide)] at hp
            have HB8 := Lib.hid hB8
            clear hB8 hW8 q0 q1 q2 q3 q4 hS hBl hm hn
            go_wp2_with (go_at_call 13; refine hp.out.mono ?_; rintro r w9 ⟨rfl, t9⟩)
            obtain ⟨v9, hB9⟩ := badNext hbw HB8.out.b HB8.out.c HB8.out.d HB8.out.e HB8.out.f t9
            exact ⟨⟨k + 1, v9, by omega, by go_num, hB9⟩, by simp [intOf]; omega⟩
          · obtain rfl : k = ys.length := by omega
            obtain ⟨sp8, hW8⟩ := hB8.a
            have c8 := hB8.d
            have F8 := hB8.c
            go_wp2_with fail
            refine (Out_any w0'.heap.size v8 _ sp8 _ _ hW8 hle0).mono ?_
            unfold Outs
            simp only [show outB L 5 = [] from rfl]
            rintro r w10 ⟨a10, cap10, sq10, rfl, o10, f10, b10⟩
            have c10 := f10.cell c8 (by simp)
            go_wp2
            go_ret
            exact ⟨rfl, F8.trans f10 (by simp)⟩
      · refine (Pick_any which 6 _ (by decide) (by decide) hx hx2).mono ?_
        rw [h]
        rintro r w6 ⟨rfl, hw6⟩
        subst hw6
        clear h
        go_wp2_with fail
        refine (write_any w0'.heap.size v _ _ sp 0 ⟨1, 0, 256, ByteArray.empty, []⟩ _ (hW.keep (HFK.out _ _) (by simp) (by simp)) hle0 ⟨none, 0, [], rfl, nilAct _, by decide⟩ (by decide) (by simp [blkA, blkR])).mono ?_
        rw [(bad_step L hle0).2.2.1]
        rintro r w7 ⟨rfl, t7⟩
        obtain ⟨v7, hB7⟩ := badNext (eb := w5.heap.size + 1) (q := 2) hbw hv (HFW.out _ _) (by simp [go_sem]) (fun hm => by have := HBL.out _ hm; omega) (by simp) t7
        clear t7
        go_wp2_with fail
        go_loopw [15] (BadRel w w0'.heap.size (w5.heap.size + 1) 2 2 L ys.length) (fun c _ => ys.length - (intOf c).toNat)
        case atStart => exact ⟨0, v7, Nat.zero_le _, rfl, hB7⟩
        case round =>
          obtain ⟨k, v8, hk, rfl, hB8⟩ := hrel
          clear hB7
          by_cases hlt2 : k < ys.length
          · obtain ⟨b, off, a', c', msp, ⟨cap3, hval⟩, hbB, q0, q1, q2, q3, q4, hS, hBl, hm, hn⟩ := T2.out k hlt2
            cases hval
            have p0 := hB8.c.cell q0 (by simp)
            have p1 := hB8.c.cell q1 (by simp)
            have p2 := hB8.c.cell q2 (by simp)
            have p3 := hB8.c.cell q3 (by simp)
            have p4 := hB8.c.cell q4 (by simp)
            obtain ⟨sp8, hW8⟩ := hB8.a
            have hp := Lib.hid (write_any w0'.heap.size v8 _ _ sp8 _ ys[k] _ hW8 hle0 ⟨a', c', msp, rfl, hS.keep hB8.c (by simp), hn⟩ hm (fun i hi hmm => by
              have h5 := hBl i hi
              rcases List.mem_cons.1 hmm with h6 | h6
              · omega
              · have := hB8.b i h6; omega))
            rw [err_step _ _ _ (by decide)] at hp
            have HB8 := Lib.hid hB8
            clear hB8 hW8 q0 q1 q2 q3 q4 hS hBl hm hn
            go_wp2_with (go_at_call 13; refine hp.out.mono ?_; rintro r w9 ⟨rfl, t9⟩)
            obtain ⟨v9, hB9⟩ := badNext hbw HB8.out.b HB8.out.c HB8.out.d HB8.out.e HB8.out.f t9
            exact ⟨⟨k + 1, v9, by omega, by go_num, hB9⟩, by simp [intOf]; omega⟩
          · obtain rfl : k = ys.length := by omega
            obtain ⟨sp8, hW8⟩ := hB8.a
            have c8 := hB8.d
            have F8 := hB8.c
            go_wp2_with fail
            refine (Out_any w0'.heap.size v8 _ sp8 _ _ hW8 hle0).mono ?_
            unfold Outs
            simp only [show outB L 2 = [] from rfl]
            rintro r w10 ⟨a10, cap10, sq10, rfl, o10, f10, b10⟩
            have c10 := f10.cell c8 (by simp)
            go_wp2
            go_ret
            exact ⟨rfl, F8.trans f10 (by simp)⟩
      · refine (Pick_any which 6 _ (by decide) (by decide) hx hx2).mono ?_
        rw [h]
        rintro r w6 ⟨rfl, hw6⟩
        subst hw6
        clear h
        go_wp2_with fail
        refine (write_any w0'.heap.size v _ _ sp 0 ⟨1, 0, 0, ⟨#[97]⟩, []⟩ _ (hW.keep (HFK.out _ _) (by simp) (by simp)) hle0 ⟨none, 0, [], rfl, nilAct _, by decide⟩ (by decide) (by simp [blkA, blkR])).mono ?_
        rw [(bad_step L hle0).2.2.2.1]
        rintro r w7 ⟨rfl, t7⟩
        obtain ⟨v7, hB7⟩ := badNext (eb := w5.heap.size + 1) (q := 3) hbw hv (HFW.out _ _) (by simp [go_sem]) (fun hm => by have := HBL.out _ hm; omega) (by simp) t7
        clear t7
        go_wp2_with fail
        go_loopw [15] (BadRel w w0'.heap.size (w5.heap.size + 1) 3 3 L ys.length) (fun c _ => ys.length - (intOf c).toNat)
        case atStart => exact ⟨0, v7, Nat.zero_le _, rfl, hB7⟩
        case round =>
          obtain ⟨k, v8, hk, rfl, hB8⟩ := hrel
          clear hB7
          by_cases hlt2 : k < ys.length
          · obtain ⟨b, off, a', c', msp, ⟨cap3, hval⟩, hbB, q0, q1, q2, q3, q4, hS, hBl, hm, hn⟩ := T2.out k hlt2
            cases hval
            have p0 := hB8.c.cell q0 (by simp)
            have p1 := hB8.c.cell q1 (by simp)
            have p2 := hB8.c.cell q2 (by simp)
            have p3 := hB8.c.cell q3 (by simp)
            have p4 := hB8.c.cell q4 (by simp)
            obtain ⟨sp8, hW8⟩ := hB8.a
            have hp := Lib.hid (write_any w0'.heap.size v8 _ _ sp8 _ ys[k] _ hW8 hle0 ⟨a', c', msp, rfl, hS.keep hB8.c (by simp), hn⟩ hm (fun i hi hmm => by
              have h5 := hBl i hi
              rcases List.mem_cons.1 hmm with h6 | h6
              · omega
              · have := hB8.b i h6; omega))
            rw [err_step _ _ _ (by decide)] at hp
            have HB8 := Lib.hid hB8
            clear hB8 hW8 q0 q1 q2 q3 q4 hS hBl hm hn
            go_wp2_with (go_at_call 13; refine hp.out.mono ?_; rintro r w9 ⟨rfl, t9⟩)
            obtain ⟨v9, hB9⟩ := badNext hbw HB8.out.b HB8.out.c HB8.out.d HB8.out.e HB8.out.f t9
            exact ⟨⟨k + 1, v9, by omega, by go_num, hB9⟩, by simp [intOf]; omega⟩
          · obtain rfl : k = ys.length := by omega
            obtain ⟨sp8, hW8⟩ := hB8.a
            have c8 := hB8.d
            have F8 := hB8.c
            go_wp2_with fail
            refine (Out_any w0'.heap.size v8 _ sp8 _ _ hW8 hle0).mono ?_
            unfold Outs
            simp only [show outB L 3 = [] from rfl]
            rintro r w10 ⟨a10, cap10, sq10, rfl, o10, f10, b10⟩
            have c10 := f10.cell c8 (by simp)
            go_wp2
            go_ret
            exact ⟨rfl, F8.trans f10 (by simp)⟩
      · refine (Pick_any which 6 _ (by decide) (by decide) hx hx2).mono ?_
        rw [h]
        rintro r w6 ⟨rfl, hw6⟩
        subst hw6
        clear h
        go_wp2_with fail
        refine (write_any w0'.heap.size v _ _ sp 0 ⟨3, 0, -1, ByteArray.empty, []⟩ _ (hW.keep (HFK.out _ _) (by simp) (by simp)) hle0 ⟨none, 0, [], rfl, nilAct _, by decide⟩ (by decide) (by simp [blkA, blkR])).mono ?_
        rw [(bad_step L hle0).2.2.2.2.1]
        rintro r w7 ⟨rfl, t7⟩
        obtain ⟨v7, hB7⟩ := badNext (eb := w5.heap.size + 1) (q := 4) hbw hv (HFW.out _ _) (by simp [go_sem]) (fun hm => by have := HBL.out _ hm; omega) (by simp) t7
        clear t7
        go_wp2_with fail
        go_loopw [15] (BadRel w w0'.heap.size (w5.heap.size + 1) 4 2 L ys.length) (fun c _ => ys.length - (intOf c).toNat)
        case atStart => exact ⟨0, v7, Nat.zero_le _, rfl, hB7⟩
        case round =>
          obtain ⟨k, v8, hk, rfl, hB8⟩ := hrel
          clear hB7
          by_cases hlt2 : k < ys.length
          · obtain ⟨b, off, a', c', msp, ⟨cap3, hval⟩, hbB, q0, q1, q2, q3, q4, hS, hBl, hm, hn⟩ := T2.out k hlt2
            cases hval
            have p0 := hB8.c.cell q0 (by simp)
            have p1 := hB8.c.cell q1 (by simp)
            have p2 := hB8.c.cell q2 (by simp)
            have p3 := hB8.c.cell q3 (by simp)
            have p4 := hB8.c.cell q4 (by simp)
            obtain ⟨sp8, hW8⟩ := hB8.a
            have hp := Lib.hid (write_any w0'.heap.size v8 _ _ sp8 _ ys[k] _ hW8 hle0 ⟨a', c', msp, rfl, hS.keep hB8.c (by simp), hn⟩ hm (fun i hi hmm => by
              have h5 := hBl i hi
              rcases List.mem_cons.1 hmm with h6 | h6
              · omega
              · have := hB8.b i h6; omega))
            rw [err_step _ _ _ (by decide)] at hp
            have HB8 := Lib.hid hB8
            clear hB8 hW8 q0 q1 q2 q3 q4 hS hBl hm hn
            go_wp2_with (go_at_call 13; refine hp.out.mono ?_; rintro r w9 ⟨rfl, t9⟩)
            obtain ⟨v9, hB9⟩ := badNext hbw HB8.out.b HB8.out.c HB8.out.d HB8.out.e HB8.out.f t9
            exact ⟨⟨k + 1, v9, by omega, by go_num, hB9⟩, by simp [intOf]; omega⟩
          · obtain rfl : k = ys.length := by omega
            obtain ⟨sp8, hW8⟩ := hB8.a
            have c8 := hB8.d
            have F8 := hB8.c
            go_wp2_with fail
            refine (Out_any w0'.heap.size v8 _ sp8 _ _ hW8 hle0).mono ?_
            unfold Outs
            simp only [show outB L 2 = [] from rfl]
            rintro r w10 ⟨a10, cap10, sq10, rfl, o10, f10, b10⟩
            have c10 := f10.cell c8 (by simp)
            go_wp2
            go_ret
            exact ⟨rfl, F8.trans f10 (by simp)⟩
      · refine (Pick_any which 6 _ (by decide) (by decide) hx hx2).mono ?_
        rw [h]
        rintro r w6 ⟨rfl, hw6⟩
        subst hw6
        clear h
        go_wp2_with fail
        refine (write_any w0'.heap.size v _ _ sp 0 ⟨3, 0, 65537, ByteArray.empty, []⟩ _ (hW.keep (HFK.out _ _) (by simp) (by simp)) hle0 ⟨none, 0, [], rfl, nilAct _, by decide⟩ (by decide) (by simp [blkA, blkR])).mono ?_
        rw [(bad_step L hle0).2.2.2.2.2]
        rintro r w7 ⟨rfl, t7⟩
        obtain ⟨v7, hB7⟩ := badNext (eb := w5.heap.size + 1) (q := 5) hbw hv (HFW.out _ _) (by simp [go_sem]) (fun hm => by have := HBL.out _ hm; omega) (by simp) t7
        clear t7
        go_wp2_with fail
        go_loopw [15] (BadRel w w0'.heap.size (w5.heap.size + 1) 5 2 L ys.length) (fun c _ => ys.length - (intOf c).toNat)
        case atStart => exact ⟨0, v7, Nat.zero_le _, rfl, hB7⟩
        case round =>
          obtain ⟨k, v8, hk, rfl, hB8⟩ := hrel
          clear hB7
          by_cases hlt2 : k < ys.length
          · obtain ⟨b, off, a', c', msp, ⟨cap3, hval⟩, hbB, q0, q1, q2, q3, q4, hS, hBl, hm, hn⟩ := T2.out k hlt2
            cases hval
            have p0 := hB8.c.cell q0 (by simp)
            have p1 := hB8.c.cell q1 (by simp)
            have p2 := hB8.c.cell q2 (by simp)
            have p3 := hB8.c.cell q3 (by simp)
            have p4 := hB8.c.cell q4 (by simp)
            obtain ⟨sp8, hW8⟩ := hB8.a
            have hp := Lib.hid (write_any w0'.heap.size v8 _ _ sp8 _ ys[k] _ hW8 hle0 ⟨a', c', msp, rfl, hS.keep hB8.c (by simp), hn⟩ hm (fun i hi hmm => by
              have h5 := hBl i hi
              rcases List.mem_cons.1 hmm with h6 | h6
              · omega
              · have := hB8.b i h6; omega))
            rw [err_step _ _ _ (by decide)] at hp
            have HB8 := Lib.hid hB8
            clear hB8 hW8 q0 q1 q2 q3 q4 hS hBl hm hn
            go_wp2_with (go_at_call 13; refine hp.out.mono ?_; rintro r w9 ⟨rfl, t9⟩)
            obtain ⟨v9, hB9⟩ := badNext hbw HB8.out.b HB8.out.c HB8.out.d HB8.out.e HB8.out.f t9
            exact ⟨⟨k + 1, v9, by omega, by go_num, hB9⟩, by simp [intOf]; omega⟩
          · obtain rfl : k = ys.length := by omega
            obtain ⟨sp8, hW8⟩ := hB8.a
            have c8 := hB8.d
            have F8 := hB8.c
            go_wp2_with fail
            refine (Out_any w0'.heap.size v8 _ sp8 _ _ hW8 hle0).mono ?_
            unfold Outs
            simp only [show outB L 2 = [] from rfl]
            rintro r w10 ⟨a10, cap10, sq10, rfl, o10, f10, b10⟩
            have c10 := f10.cell c8 (by simp)
            go_wp2
            go_ret
            exact ⟨rfl, F8.trans f10 (by simp)⟩
end Go.Proofs.Ytappmjophnhdaaa
