/-
  Contract of Bytes, of the answer of the document. No conditions but those that each theorem names.
-/
import Derived.Test.YtjdejhgfkjeeiaaGreatDoorPX
namespace Go.Proofs.YtjdejhgfkjeeiaaGreatDoor.Pt
open Go.RowKit
set_option linter.unusedVariables false
set_option linter.unusedSimpArgs false
set_option maxRecDepth 100000

theorem lst_slB {w : World} {cs : Array Value} {l : List UInt8} {g n : Nat} (hg : w.heap[g]? = some (.cells cs 5 (0, 0))) (hc : cs = (bvs l).toArray) (hn : n = l.length) (hl : l.length ≤ 1000) : SlB w (.slice (some ⟨g, 0, none⟩) n n) l [] := by
  subst hc
  subst hn
  exact (OwnB.of_heap (T := 5) (l := l) (sp := []) (by simpa using hg) rfl (by simp) (by simp [maxLen]; omega)).sl
/-- The part of a pointer's block where its sum stands, as a slice. -/
theorem sum_slB {w : World} {g : Nat} {v : Value} {b l : Int} {s : List UInt8} (h : PB w g v b l s) (hs : s.length = 32) : SlB w (.slice (some ⟨g, 3, none⟩) 32 32) s [] := by
  refine ⟨by simp [bvs_length], .inr (.inr ⟨g, 3, 32, by rw [hs], by omega, by simp [maxLen], by simp [bvs, hs], fun i u hu => ?_⟩)⟩
  rw [cell_of_heap h]
  simpa [pc, Nat.add_comm 3 i, bvs] using hu
theorem bv_eq {x : Int} {b : UInt8} (h : x = b.toNat) : Value.int .u8 x = bv b := by rw [h]; rfl
/-- A slice of bytes in memory that is newer than W0, nothing else that was there changed. -/
structure Inv (W0 w : World) (v : Value) (l : List UInt8) (B : Nat) : Prop where
  own : ∃ sp, OwnB 5 w v l sp
  frm : Frm [] W0 w
  new : ∀ i ∈ blk v, W0.heap.size ≤ i
  len : l.length ≤ B
theorem wpList_app {P : Program} {tS : TypeId} (BB : ByteTys P tS 5) {W0 w w2 : World} {ops : Array Oper} {rest : List Oper} {o : Oper} {a : Act} {Q : Exit → Act → World → Prop}
    {v y : Value} {l m msp : List UInt8} {B : Nat} (hI : Inv W0 w v l B) (hf : Frm [] w w2) (hS : SlB w2 y m msp) (hB : B + m.length ≤ 1000)
    (hg : o.guard = none) (s x : Operand) (hop : o.op = Op.call { callee := Callee.builtin Builtin.append, args := #[s, x], argTypes := #[tS, tS] }) (hs : a.eval s = v) (hx : a.eval x = y)
    (k : ∀ a' cap' w', Inv W0 w' (.slice a' (l ++ m).length cap') (l ++ m) (B + m.length) → wpList P ops Q rest (a.put o.dst (.slice a' (l ++ m).length cap')) w') :
    wpList P ops Q (o :: rest) a w2 := by
  obtain ⟨sp, hO⟩ := hI.own
  have hl := hI.len
  refine wpList_append_bytes BB (hO.keep hf (by simp)) hS (by omega) hg s x hop hs hx ?_
  intro a' cap' w' sp' o1 f1 b1
  rw [← List.length_append] at o1 b1 ⊢
  have f2 := hI.frm.trans hf (by simp)
  refine k a' cap' w' ⟨⟨sp', o1⟩, f2.trans f1 (fun i hi => .inr (hI.new i hi)), fun i hi => ?_, by simp; omega⟩
  rcases b1 i hi with h | h
  · exact hI.new i h
  · exact Nat.le_trans f2.size h
set_option maxHeartbeats 8000000 in
theorem refBytes0 (xa : Option Addr) (cap : Nat)  (asp : List Ad) (b lv : Nat) (s : List UInt8) (w : World) (hm : may (ptN [] b lv s)) (hS : SlA w (.slice xa 0 cap) (([] : List (Nat × Nat)).map adI) asp) (hs : s.length = 32)
    (hb : ∀ x ∈ ([] : List (Nat × Nat)), x.1 < 8 ∧ x.2 < 4096) (hb4 : b ≤ 2147483648) (hlv : lv ≤ 3) : Calls Tryz.prog 52 #[pv (.slice xa 0 cap) b lv s] w (BytesP (ptN [] b lv s) w) := by
  have hC := fun W (f : Frm [] w W) => RefCheck_any (pv (.slice xa 0 cap) b lv s) (ptN [] b lv s) W ⟨xa, cap, asp, rfl, hS.keep f (by simp), hs⟩ (by simp [ptN])
  rw [show chk (ptN [] b lv s) = 0 by simp [chk, (mayB_iff _).2 hm]] at hC
  have hen : enc (ptN [] b lv s) = ptB [] b lv s := by simp [enc, ptN, adI]
  have B1 := PB.new w (.slice xa 0 cap) b lv s
  have f : Frm [] w (w.alloc (.cells (pc (.slice xa 0 cap) b lv s).toArray 26)) := (Frm.refl [] w).alloc _
  have hA0 : pv (.slice xa 0 cap) b lv s = .agg (pc (.slice xa 0 cap) b lv s).toArray := rfl
  have HA0 := Lib.hid hA0
  have HM := Lib.hid hm
  have HEN := Lib.hid hen
  have HC := Lib.hid hC
  have HS32 := Lib.hid hs
  have hb4' : (b : Int) ≤ 2147483648 := by omega
  have hlv' : (lv : Int) ≤ 3 := by omega
  have HB4 := Lib.hid hb4
  have HLV := Lib.hid hlv
  clear hb4 hlv
  rw [hA0]
  clear hA0 hC hS hm hen hb
  generalize hA : (pc (.slice xa 0 cap) b lv s).toArray = A at *
  go_enter Tryz.func52, Tryz.ntmps52
  go_upto_region 1 with (fail)
  have hgl : w.heap.size < (w.alloc (.cells A 26)).heap.size := by simp
  generalize w.alloc (.cells A 26) = W at *
  have B1h := Lib.hid B1
  have G0 := Lib.hid (B1.gets hs)
  clear hA B1
  go_upto_region 3 with (first | ((with_reducible (show wpList _ _ _ (Oper.mk _ (Op.load 26 _) _ _ _ _ :: _) _ _)); refine wpList_load_g (by rfl) 26 _ rfl _ rfl G0.out.all ?_) | (go_at_call 58; refine (HC.out _ f).mono ?_; rintro r w0 ⟨rfl, f2⟩))
  have F0 := Lib.hid (f.trans f2 (by simp))
  have B2 := Lib.hid (B1h.out.keep f2 (by simp))
  have HG := Lib.hid (Nat.lt_of_lt_of_le hgl f2.size)
  have c0 := (B2.out.gets hs).c0
  clear f2 f HC G0 B1h hs hgl
  go_upto_region 4 with (fail)
  have i0 : Inv w0 (w0.alloc (.cells #[.int .u8 0] 5)) (.slice (some ⟨w0.heap.size, 0, none⟩) (be1 0).length 1) (be1 0) 1 := ⟨⟨[], OwnB.of_heap (by rw [heap_alloc_new]; rfl) rfl rfl (by simp [maxLen])⟩, (Frm.refl [] w0).alloc _, fun i hi => by simp [blk] at hi; omega, by simp [be1]⟩
  rw [show (Value.slice (some ⟨w0.heap.size, 0, none⟩) 1 1) = Value.slice (some ⟨w0.heap.size, 0, none⟩) (be1 0).length 1 from rfl]
  generalize hl0 : be1 0 = l0 at *
  have HY0 := Lib.hid hl0
  have I0 := Lib.hid i0
  clear hl0 i0 c0
  generalize w0.alloc (.cells #[.int .u8 0] 5) = v0 at *
  go_wp2_with fail
  refine wp_loop_rounds 4 ?_
  have lt0 := Nat.lt_of_lt_of_le HG.out I0.out.frm.size
  have G0 := (B2.out.keep I0.out.frm (by simp)).gets HS32.out
  have c0_0 := G0.c0
  rw [rounds_succ]
  go_wp2_with (at_builtin; refine wpList_app BT I0.out (((Frm.refl [] _).alloc _).alloc _) (lst_slB (l := [(0 : UInt8), 0, 0]) (n := 3) (heap_alloc_at (by simp)) rfl rfl (by simp)) (by simp) rfl (.tmp 31) (.tmp 43) rfl rfl rfl ?_; intro a1 cap1 v1 i1; generalize hy1 : l0 ++ [(0 : UInt8), 0, 0] = l1 at *; have HY1 := Lib.hid hy1; have I1 := Lib.hid i1; clear hy1 i1)
  clear lt0 G0 c0_0
  have lt1 := Nat.lt_of_lt_of_le HG.out I1.out.frm.size
  have G1 := (B2.out.keep I1.out.frm (by simp)).gets HS32.out
  have c0_1 := G1.c0
  rw [rounds_succ]
  go_wp2_with (at_builtin; refine wpList_app BT I1.out (((Frm.refl [] _).alloc _).alloc _) (lst_slB (l := [(0 : UInt8), 0, 0]) (n := 3) (heap_alloc_at (by simp)) rfl rfl (by simp)) (by simp) rfl (.tmp 31) (.tmp 43) rfl rfl rfl ?_; intro a2 cap2 v2 i1; generalize hy1 : l1 ++ [(0 : UInt8), 0, 0] = l2 at *; have HY2 := Lib.hid hy1; have I2 := Lib.hid i1; clear hy1 i1)
  clear lt1 G1 c0_1
  have lt2 := Nat.lt_of_lt_of_le HG.out I2.out.frm.size
  have G2 := (B2.out.keep I2.out.frm (by simp)).gets HS32.out
  have c0_2 := G2.c0
  rw [rounds_succ]
  go_wp2_with (at_builtin; refine wpList_app BT I2.out (((Frm.refl [] _).alloc _).alloc _) (lst_slB (l := [(0 : UInt8), 0, 0]) (n := 3) (heap_alloc_at (by simp)) rfl rfl (by simp)) (by simp) rfl (.tmp 31) (.tmp 43) rfl rfl rfl ?_; intro a3 cap3 v3 i1; generalize hy1 : l2 ++ [(0 : UInt8), 0, 0] = l3 at *; have HY3 := Lib.hid hy1; have I3 := Lib.hid i1; clear hy1 i1)
  clear lt2 G2 c0_2
  rw [rounds_succ]
  go_wp2_with fail
  refine wp_loop_rounds 5 ?_
  have lt3 := Nat.lt_of_lt_of_le HG.out I3.out.frm.size
  have G3 := (B2.out.keep I3.out.frm (by simp)).gets HS32.out
  have c1_3 := G3.c1
  rw [rounds_succ]
  go_wp2_with (at_builtin; refine wpList_app BT I3.out ((Frm.refl [] _).alloc _) (lst_slB (l := [UInt8.ofNat (b / 16777216)]) (n := 1) (heap_alloc_at rfl) (by have := HB4.out; simp only [bvs, List.map_cons, List.map_nil]; rw [bv_eq]; rw [UInt8.toNat_ofNat']; omega) rfl (by simp)) (by simp) rfl (.tmp 49) (.tmp 56) rfl rfl rfl ?_; intro a4 cap4 v4 i1; generalize hy1 : l3 ++ [UInt8.ofNat (b / 16777216)] = l4 at *; have HY4 := Lib.hid hy1; have I4 := Lib.hid i1; clear hy1 i1)
  clear lt3 G3 c1_3
  have lt4 := Nat.lt_of_lt_of_le HG.out I4.out.frm.size
  have G4 := (B2.out.keep I4.out.frm (by simp)).gets HS32.out
  have c1_4 := G4.c1
  rw [rounds_succ]
  go_wp2_with (at_builtin; refine wpList_app BT I4.out ((Frm.refl [] _).alloc _) (lst_slB (l := [UInt8.ofNat (b / 65536)]) (n := 1) (heap_alloc_at rfl) (by have := HB4.out; simp only [bvs, List.map_cons, List.map_nil]; rw [bv_eq]; rw [UInt8.toNat_ofNat']; omega) rfl (by simp)) (by simp) rfl (.tmp 49) (.tmp 56) rfl rfl rfl ?_; intro a5 cap5 v5 i1; generalize hy1 : l4 ++ [UInt8.ofNat (b / 65536)] = l5 at *; have HY5 := Lib.hid hy1; have I5 := Lib.hid i1; clear hy1 i1)
  clear lt4 G4 c1_4
  have lt5 := Nat.lt_of_lt_of_le HG.out I5.out.frm.size
  have G5 := (B2.out.keep I5.out.frm (by simp)).gets HS32.out
  have c1_5 := G5.c1
  rw [rounds_succ]
  go_wp2_with (at_builtin; refine wpList_app BT I5.out ((Frm.refl [] _).alloc _) (lst_slB (l := [UInt8.ofNat (b / 256)]) (n := 1) (heap_alloc_at rfl) (by have := HB4.out; simp only [bvs, List.map_cons, List.map_nil]; rw [bv_eq]; rw [UInt8.toNat_ofNat']; omega) rfl (by simp)) (by simp) rfl (.tmp 49) (.tmp 56) rfl rfl rfl ?_; intro a6 cap6 v6 i1; generalize hy1 : l5 ++ [UInt8.ofNat (b / 256)] = l6 at *; have HY6 := Lib.hid hy1; have I6 := Lib.hid i1; clear hy1 i1)
  clear lt5 G5 c1_5
  have lt6 := Nat.lt_of_lt_of_le HG.out I6.out.frm.size
  have G6 := (B2.out.keep I6.out.frm (by simp)).gets HS32.out
  have c1_6 := G6.c1
  rw [rounds_succ]
  go_wp2_with (at_builtin; refine wpList_app BT I6.out ((Frm.refl [] _).alloc _) (lst_slB (l := [UInt8.ofNat b]) (n := 1) (heap_alloc_at rfl) (by have := HB4.out; simp only [bvs, List.map_cons, List.map_nil]; rw [bv_eq]; rw [UInt8.toNat_ofNat']; omega) rfl (by simp)) (by simp) rfl (.tmp 49) (.tmp 56) rfl rfl rfl ?_; intro a7 cap7 v7 i1; generalize hy1 : l6 ++ [UInt8.ofNat b] = l7 at *; have HY7 := Lib.hid hy1; have I7 := Lib.hid i1; clear hy1 i1)
  clear lt6 G6 c1_6
  rw [rounds_succ]
  go_upto_region 15 with (fail)
  have lt7 := Nat.lt_of_lt_of_le HG.out I7.out.frm.size
  have G7 := (B2.out.keep I7.out.frm (by simp)).gets HS32.out
  have c2_7 := G7.c2
  go_upto_region 16 with (at_builtin; refine wpList_app BT I7.out ((Frm.refl [] _).alloc _) (lst_slB (l := [UInt8.ofNat lv]) (n := 1) (heap_alloc_at rfl) (by have := HLV.out; simp only [bvs, List.map_cons, List.map_nil]; rw [bv_eq]; rw [UInt8.toNat_ofNat']; omega) rfl (by simp)) (by simp) rfl (.tmp 58) (.tmp 62) rfl rfl rfl ?_; intro a8 cap8 v8 i1; generalize hy1 : l7 ++ [UInt8.ofNat lv] = l8 at *; have HY8 := Lib.hid hy1; have I8 := Lib.hid i1; clear hy1 i1)
  clear lt7 G7 c2_7
  go_wp2_with (at_builtin; refine wpList_app BT I8.out (Frm.refl [] _) (sum_slB (B2.out.keep I8.out.frm (by simp)) HS32.out) (by rw [HS32.out]; simp) rfl (.tmp 64) (.tmp 66) rfl rfl rfl ?_; intro a9 cap9 v9 i1; generalize hy1 : l8 ++ s = l9 at *; have HY9 := Lib.hid hy1; have I9 := Lib.hid i1; clear hy1 i1)
  go_ret2
  have e : enc (ptN [] b lv s) = l9 := by
    rw [HEN.out, ← HY9.out, ← HY8.out, ← HY7.out, ← HY6.out, ← HY5.out, ← HY4.out, ← HY3.out, ← HY2.out, ← HY1.out, ← HY0.out]
    simp [ptB, addrsB, pad3, adB, be1, be2, be4]
  obtain ⟨sp9, o9⟩ := I9.out.own
  exact bytesP_yes HM.out e o9 (F0.out.trans I9.out.frm (by simp)) (fun i hi => Nat.le_trans F0.out.size (I9.out.new i hi))
set_option maxHeartbeats 8000000 in
theorem refBytes1 (xa : Option Addr) (cap : Nat) (x0 : Nat × Nat) (asp : List Ad) (b lv : Nat) (s : List UInt8) (w : World) (hm : may (ptN [x0] b lv s)) (hS : SlA w (.slice xa 1 cap) (([x0] : List (Nat × Nat)).map adI) asp) (hs : s.length = 32)
    (hb : ∀ x ∈ ([x0] : List (Nat × Nat)), x.1 < 8 ∧ x.2 < 4096) (hb4 : b ≤ 2147483648) (hlv : lv ≤ 3) : Calls Tryz.prog 52 #[pv (.slice xa 1 cap) b lv s] w (BytesP (ptN [x0] b lv s) w) := by
  have hC := fun W (f : Frm [] w W) => RefCheck_any (pv (.slice xa 1 cap) b lv s) (ptN [x0] b lv s) W ⟨xa, cap, asp, rfl, hS.keep f (by simp), hs⟩ (by simp [ptN])
  rw [show chk (ptN [x0] b lv s) = 0 by simp [chk, (mayB_iff _).2 hm]] at hC
  have hen : enc (ptN [x0] b lv s) = ptB [x0] b lv s := by simp [enc, ptN, adI]
  have B1 := PB.new w (.slice xa 1 cap) b lv s
  have f : Frm [] w (w.alloc (.cells (pc (.slice xa 1 cap) b lv s).toArray 26)) := (Frm.refl [] w).alloc _
  have hA0 : pv (.slice xa 1 cap) b lv s = .agg (pc (.slice xa 1 cap) b lv s).toArray := rfl
  have HA0 := Lib.hid hA0
  have HM := Lib.hid hm
  have HEN := Lib.hid hen
  have HC := Lib.hid hC
  have HS32 := Lib.hid hs
  have hb4' : (b : Int) ≤ 2147483648 := by omega
  have hlv' : (lv : Int) ≤ 3 := by omega
  have HB4 := Lib.hid hb4
  have HLV := Lib.hid hlv
  clear hb4 hlv
  obtain ⟨b0, off, rfl⟩ := hS.at (by simp)
  have HBL := Lib.hid (show b0 < w.heap.size from World.block_lt_of_cell? _ _ (hS.cells 0 (by simp)).1)
  have kb0 := hb x0 (by simp)
  have KB0 := Lib.hid kb0
  have CC0 := Lib.hid (fun (W : World) (f : Frm [] w W) => show W.cell? ⟨b0, off, none⟩ = some (.int .i64 (x0.1 : Int)) ∧ W.cell? ⟨b0, off + 1, none⟩ = some (.int .i64 (x0.2 : Int)) from by have := (hS.keep f (by simp)).cells 0 (by simp); simpa [adI] using this)
  have hw0 : wrap64 ((x0.2 : Int) / 256) = (x0.2 : Int) / 256 := IntWalk.wrap64_in _ (by omega)
  clear kb0
  rw [hA0]
  clear hA0 hC hS hm hen hb
  generalize hA : (pc (.slice (some ⟨b0, off, none⟩) 1 cap) b lv s).toArray = A at *
  go_enter Tryz.func52, Tryz.ntmps52
  go_upto_region 1 with (fail)
  have hgl : w.heap.size < (w.alloc (.cells A 26)).heap.size := by simp
  generalize w.alloc (.cells A 26) = W at *
  have B1h := Lib.hid B1
  have G0 := Lib.hid (B1.gets hs)
  clear hA B1
  go_upto_region 3 with (first | ((with_reducible (show wpList _ _ _ (Oper.mk _ (Op.load 26 _) _ _ _ _ :: _) _ _)); refine wpList_load_g (by rfl) 26 _ rfl _ rfl G0.out.all ?_) | (go_at_call 58; refine (HC.out _ f).mono ?_; rintro r w0 ⟨rfl, f2⟩))
  have F0 := Lib.hid (f.trans f2 (by simp))
  have B2 := Lib.hid (B1h.out.keep f2 (by simp))
  have HG := Lib.hid (Nat.lt_of_lt_of_le hgl f2.size)
  have c0 := (B2.out.gets hs).c0
  clear f2 f HC G0 B1h hs hgl
  go_upto_region 4 with (fail)
  have i0 : Inv w0 (w0.alloc (.cells #[.int .u8 1] 5)) (.slice (some ⟨w0.heap.size, 0, none⟩) (be1 1).length 1) (be1 1) 1 := ⟨⟨[], OwnB.of_heap (by rw [heap_alloc_new]; rfl) rfl rfl (by simp [maxLen])⟩, (Frm.refl [] w0).alloc _, fun i hi => by simp [blk] at hi; omega, by simp [be1]⟩
  rw [show (Value.slice (some ⟨w0.heap.size, 0, none⟩) 1 1) = Value.slice (some ⟨w0.heap.size, 0, none⟩) (be1 1).length 1 from rfl]
  generalize hl0 : be1 1 = l0 at *
  have HY0 := Lib.hid hl0
  have I0 := Lib.hid i0
  clear hl0 i0 c0
  generalize w0.alloc (.cells #[.int .u8 1] 5) = v0 at *
  go_wp2_with fail
  refine wp_loop_rounds 4 ?_
  have lt0 := Nat.lt_of_lt_of_le HG.out I0.out.frm.size
  have G0 := (B2.out.keep I0.out.frm (by simp)).gets HS32.out
  have c0_0 := G0.c0
  obtain ⟨e0, d0⟩ := CC0.out _ (F0.out.trans I0.out.frm (by simp))
  have ltb0 := Nat.lt_of_lt_of_le HBL.out (F0.out.trans I0.out.frm (by simp)).size
  rw [rounds_succ]
  go_wp2_with (at_builtin; refine wpList_app BT I0.out (((Frm.refl [] _).alloc _).alloc _) (lst_slB (l := [UInt8.ofNat x0.1, UInt8.ofNat (x0.2 / 256), UInt8.ofNat x0.2]) (n := 3) (heap_alloc_at (by simp)) (by have := KB0.out; simp only [bvs, List.map_cons, List.map_nil]; rw [bv_eq, bv_eq, bv_eq] <;> (try rw [UInt8.toNat_ofNat']) <;> omega) rfl (by simp)) (by simp) rfl (.tmp 31) (.tmp 43) rfl rfl rfl ?_; intro a1 cap1 v1 i1; generalize hy1 : l0 ++ [UInt8.ofNat x0.1, UInt8.ofNat (x0.2 / 256), UInt8.ofNat x0.2] = l1 at *; have HY1 := Lib.hid hy1; have I1 := Lib.hid i1; clear hy1 i1)
  clear lt0 G0 c0_0 e0 d0 ltb0
  have lt1 := Nat.lt_of_lt_of_le HG.out I1.out.frm.size
  have G1 := (B2.out.keep I1.out.frm (by simp)).gets HS32.out
  have c0_1 := G1.c0
  rw [rounds_succ]
  go_wp2_with (at_builtin; refine wpList_app BT I1.out (((Frm.refl [] _).alloc _).alloc _) (lst_slB (l := [(0 : UInt8), 0, 0]) (n := 3) (heap_alloc_at (by simp)) rfl rfl (by simp)) (by simp) rfl (.tmp 31) (.tmp 43) rfl rfl rfl ?_; intro a2 cap2 v2 i1; generalize hy1 : l1 ++ [(0 : UInt8), 0, 0] = l2 at *; have HY2 := Lib.hid hy1; have I2 := Lib.hid i1; clear hy1 i1)
  clear lt1 G1 c0_1
  have lt2 := Nat.lt_of_lt_of_le HG.out I2.out.frm.size
  have G2 := (B2.out.keep I2.out.frm (by simp)).gets HS32.out
  have c0_2 := G2.c0
  rw [rounds_succ]
  go_wp2_with (at_builtin; refine wpList_app BT I2.out (((Frm.refl [] _).alloc _).alloc _) (lst_slB (l := [(0 : UInt8), 0, 0]) (n := 3) (heap_alloc_at (by simp)) rfl rfl (by simp)) (by simp) rfl (.tmp 31) (.tmp 43) rfl rfl rfl ?_; intro a3 cap3 v3 i1; generalize hy1 : l2 ++ [(0 : UInt8), 0, 0] = l3 at *; have HY3 := Lib.hid hy1; have I3 := Lib.hid i1; clear hy1 i1)
  clear lt2 G2 c0_2
  rw [rounds_succ]
  go_wp2_with fail
  refine wp_loop_rounds 5 ?_
  have lt3 := Nat.lt_of_lt_of_le HG.out I3.out.frm.size
  have G3 := (B2.out.keep I3.out.frm (by simp)).gets HS32.out
  have c1_3 := G3.c1
  rw [rounds_succ]
  go_wp2_with (at_builtin; refine wpList_app BT I3.out ((Frm.refl [] _).alloc _) (lst_slB (l := [UInt8.ofNat (b / 16777216)]) (n := 1) (heap_alloc_at rfl) (by have := HB4.out; simp only [bvs, List.map_cons, List.map_nil]; rw [bv_eq]; rw [UInt8.toNat_ofNat']; omega) rfl (by simp)) (by simp) rfl (.tmp 49) (.tmp 56) rfl rfl rfl ?_; intro a4 cap4 v4 i1; generalize hy1 : l3 ++ [UInt8.ofNat (b / 16777216)] = l4 at *; have HY4 := Lib.hid hy1; have I4 := Lib.hid i1; clear hy1 i1)
  clear lt3 G3 c1_3
  have lt4 := Nat.lt_of_lt_of_le HG.out I4.out.frm.size
  have G4 := (B2.out.keep I4.out.frm (by simp)).gets HS32.out
  have c1_4 := G4.c1
  rw [rounds_succ]
  go_wp2_with (at_builtin; refine wpList_app BT I4.out ((Frm.refl [] _).alloc _) (lst_slB (l := [UInt8.ofNat (b / 65536)]) (n := 1) (heap_alloc_at rfl) (by have := HB4.out; simp only [bvs, List.map_cons, List.map_nil]; rw [bv_eq]; rw [UInt8.toNat_ofNat']; omega) rfl (by simp)) (by simp) rfl (.tmp 49) (.tmp 56) rfl rfl rfl ?_; intro a5 cap5 v5 i1; generalize hy1 : l4 ++ [UInt8.ofNat (b / 65536)] = l5 at *; have HY5 := Lib.hid hy1; have I5 := Lib.hid i1; clear hy1 i1)
  clear lt4 G4 c1_4
  have lt5 := Nat.lt_of_lt_of_le HG.out I5.out.frm.size
  have G5 := (B2.out.keep I5.out.frm (by simp)).gets HS32.out
  have c1_5 := G5.c1
  rw [rounds_succ]
  go_wp2_with (at_builtin; refine wpList_app BT I5.out ((Frm.refl [] _).alloc _) (lst_slB (l := [UInt8.ofNat (b / 256)]) (n := 1) (heap_alloc_at rfl) (by have := HB4.out; simp only [bvs, List.map_cons, List.map_nil]; rw [bv_eq]; rw [UInt8.toNat_ofNat']; omega) rfl (by simp)) (by simp) rfl (.tmp 49) (.tmp 56) rfl rfl rfl ?_; intro a6 cap6 v6 i1; generalize hy1 : l5 ++ [UInt8.ofNat (b / 256)] = l6 at *; have HY6 := Lib.hid hy1; have I6 := Lib.hid i1; clear hy1 i1)
  clear lt5 G5 c1_5
  have lt6 := Nat.lt_of_lt_of_le HG.out I6.out.frm.size
  have G6 := (B2.out.keep I6.out.frm (by simp)).gets HS32.out
  have c1_6 := G6.c1
  rw [rounds_succ]
  go_wp2_with (at_builtin; refine wpList_app BT I6.out ((Frm.refl [] _).alloc _) (lst_slB (l := [UInt8.ofNat b]) (n := 1) (heap_alloc_at rfl) (by have := HB4.out; simp only [bvs, List.map_cons, List.map_nil]; rw [bv_eq]; rw [UInt8.toNat_ofNat']; omega) rfl (by simp)) (by simp) rfl (.tmp 49) (.tmp 56) rfl rfl rfl ?_; intro a7 cap7 v7 i1; generalize hy1 : l6 ++ [UInt8.ofNat b] = l7 at *; have HY7 := Lib.hid hy1; have I7 := Lib.hid i1; clear hy1 i1)
  clear lt6 G6 c1_6
  rw [rounds_succ]
  go_upto_region 15 with (fail)
  have lt7 := Nat.lt_of_lt_of_le HG.out I7.out.frm.size
  have G7 := (B2.out.keep I7.out.frm (by simp)).gets HS32.out
  have c2_7 := G7.c2
  go_upto_region 16 with (at_builtin; refine wpList_app BT I7.out ((Frm.refl [] _).alloc _) (lst_slB (l := [UInt8.ofNat lv]) (n := 1) (heap_alloc_at rfl) (by have := HLV.out; simp only [bvs, List.map_cons, List.map_nil]; rw [bv_eq]; rw [UInt8.toNat_ofNat']; omega) rfl (by simp)) (by simp) rfl (.tmp 58) (.tmp 62) rfl rfl rfl ?_; intro a8 cap8 v8 i1; generalize hy1 : l7 ++ [UInt8.ofNat lv] = l8 at *; have HY8 := Lib.hid hy1; have I8 := Lib.hid i1; clear hy1 i1)
  clear lt7 G7 c2_7
  go_wp2_with (at_builtin; refine wpList_app BT I8.out (Frm.refl [] _) (sum_slB (B2.out.keep I8.out.frm (by simp)) HS32.out) (by rw [HS32.out]; simp) rfl (.tmp 64) (.tmp 66) rfl rfl rfl ?_; intro a9 cap9 v9 i1; generalize hy1 : l8 ++ s = l9 at *; have HY9 := Lib.hid hy1; have I9 := Lib.hid i1; clear hy1 i1)
  go_ret2
  have e : enc (ptN [x0] b lv s) = l9 := by
    rw [HEN.out, ← HY9.out, ← HY8.out, ← HY7.out, ← HY6.out, ← HY5.out, ← HY4.out, ← HY3.out, ← HY2.out, ← HY1.out, ← HY0.out]
    simp [ptB, addrsB, pad3, adB, be1, be2, be4]
  obtain ⟨sp9, o9⟩ := I9.out.own
  exact bytesP_yes HM.out e o9 (F0.out.trans I9.out.frm (by simp)) (fun i hi => Nat.le_trans F0.out.size (I9.out.new i hi))
set_option maxHeartbeats 8000000 in
theorem refBytes2 (xa : Option Addr) (cap : Nat) (x0 : Nat × Nat) (x1 : Nat × Nat) (asp : List Ad) (b lv : Nat) (s : List UInt8) (w : World) (hm : may (ptN [x0, x1] b lv s)) (hS : SlA w (.slice xa 2 cap) (([x0, x1] : List (Nat × Nat)).map adI) asp) (hs : s.length = 32)
    (hb : ∀ x ∈ ([x0, x1] : List (Nat × Nat)), x.1 < 8 ∧ x.2 < 4096) (hb4 : b ≤ 2147483648) (hlv : lv ≤ 3) : Calls Tryz.prog 52 #[pv (.slice xa 2 cap) b lv s] w (BytesP (ptN [x0, x1] b lv s) w) := by
  have hC := fun W (f : Frm [] w W) => RefCheck_any (pv (.slice xa 2 cap) b lv s) (ptN [x0, x1] b lv s) W ⟨xa, cap, asp, rfl, hS.keep f (by simp), hs⟩ (by simp [ptN])
  rw [show chk (ptN [x0, x1] b lv s) = 0 by simp [chk, (mayB_iff _).2 hm]] at hC
  have hen : enc (ptN [x0, x1] b lv s) = ptB [x0, x1] b lv s := by simp [enc, ptN, adI]
  have B1 := PB.new w (.slice xa 2 cap) b lv s
  have f : Frm [] w (w.alloc (.cells (pc (.slice xa 2 cap) b lv s).toArray 26)) := (Frm.refl [] w).alloc _
  have hA0 : pv (.slice xa 2 cap) b lv s = .agg (pc (.slice xa 2 cap) b lv s).toArray := rfl
  have HA0 := Lib.hid hA0
  have HM := Lib.hid hm
  have HEN := Lib.hid hen
  have HC := Lib.hid hC
  have HS32 := Lib.hid hs
  have hb4' : (b : Int) ≤ 2147483648 := by omega
  have hlv' : (lv : Int) ≤ 3 := by omega
  have HB4 := Lib.hid hb4
  have HLV := Lib.hid hlv
  clear hb4 hlv
  obtain ⟨b0, off, rfl⟩ := hS.at (by simp)
  have HBL := Lib.hid (show b0 < w.heap.size from World.block_lt_of_cell? _ _ (hS.cells 0 (by simp)).1)
  have kb0 := hb x0 (by simp)
  have KB0 := Lib.hid kb0
  have CC0 := Lib.hid (fun (W : World) (f : Frm [] w W) => show W.cell? ⟨b0, off, none⟩ = some (.int .i64 (x0.1 : Int)) ∧ W.cell? ⟨b0, off + 1, none⟩ = some (.int .i64 (x0.2 : Int)) from by have := (hS.keep f (by simp)).cells 0 (by simp); simpa [adI] using this)
  have hw0 : wrap64 ((x0.2 : Int) / 256) = (x0.2 : Int) / 256 := IntWalk.wrap64_in _ (by omega)
  clear kb0
  have kb1 := hb x1 (by simp)
  have KB1 := Lib.hid kb1
  have CC1 := Lib.hid (fun (W : World) (f : Frm [] w W) => show W.cell? ⟨b0, off + 2, none⟩ = some (.int .i64 (x1.1 : Int)) ∧ W.cell? ⟨b0, off + 3, none⟩ = some (.int .i64 (x1.2 : Int)) from by have := (hS.keep f (by simp)).cells 1 (by simp); simpa [adI] using this)
  have hw1 : wrap64 ((x1.2 : Int) / 256) = (x1.2 : Int) / 256 := IntWalk.wrap64_in _ (by omega)
  clear kb1
  rw [hA0]
  clear hA0 hC hS hm hen hb
  generalize hA : (pc (.slice (some ⟨b0, off, none⟩) 2 cap) b lv s).toArray = A at *
  go_enter Tryz.func52, Tryz.ntmps52
  go_upto_region 1 with (fail)
  have hgl : w.heap.size < (w.alloc (.cells A 26)).heap.size := by simp
  generalize w.alloc (.cells A 26) = W at *
  have B1h := Lib.hid B1
  have G0 := Lib.hid (B1.gets hs)
  clear hA B1
  go_upto_region 3 with (first | ((with_reducible (show wpList _ _ _ (Oper.mk _ (Op.load 26 _) _ _ _ _ :: _) _ _)); refine wpList_load_g (by rfl) 26 _ rfl _ rfl G0.out.all ?_) | (go_at_call 58; refine (HC.out _ f).mono ?_; rintro r w0 ⟨rfl, f2⟩))
  have F0 := Lib.hid (f.trans f2 (by simp))
  have B2 := Lib.hid (B1h.out.keep f2 (by simp))
  have HG := Lib.hid (Nat.lt_of_lt_of_le hgl f2.size)
  have c0 := (B2.out.gets hs).c0
  clear f2 f HC G0 B1h hs hgl
  go_upto_region 4 with (fail)
  have i0 : Inv w0 (w0.alloc (.cells #[.int .u8 2] 5)) (.slice (some ⟨w0.heap.size, 0, none⟩) (be1 2).length 1) (be1 2) 1 := ⟨⟨[], OwnB.of_heap (by rw [heap_alloc_new]; rfl) rfl rfl (by simp [maxLen])⟩, (Frm.refl [] w0).alloc _, fun i hi => by simp [blk] at hi; omega, by simp [be1]⟩
  rw [show (Value.slice (some ⟨w0.heap.size, 0, none⟩) 1 1) = Value.slice (some ⟨w0.heap.size, 0, none⟩) (be1 2).length 1 from rfl]
  generalize hl0 : be1 2 = l0 at *
  have HY0 := Lib.hid hl0
  have I0 := Lib.hid i0
  clear hl0 i0 c0
  generalize w0.alloc (.cells #[.int .u8 2] 5) = v0 at *
  go_wp2_with fail
  refine wp_loop_rounds 4 ?_
  have lt0 := Nat.lt_of_lt_of_le HG.out I0.out.frm.size
  have G0 := (B2.out.keep I0.out.frm (by simp)).gets HS32.out
  have c0_0 := G0.c0
  obtain ⟨e0, d0⟩ := CC0.out _ (F0.out.trans I0.out.frm (by simp))
  have ltb0 := Nat.lt_of_lt_of_le HBL.out (F0.out.trans I0.out.frm (by simp)).size
  rw [rounds_succ]
  go_wp2_with (at_builtin; refine wpList_app BT I0.out (((Frm.refl [] _).alloc _).alloc _) (lst_slB (l := [UInt8.ofNat x0.1, UInt8.ofNat (x0.2 / 256), UInt8.ofNat x0.2]) (n := 3) (heap_alloc_at (by simp)) (by have := KB0.out; simp only [bvs, List.map_cons, List.map_nil]; rw [bv_eq, bv_eq, bv_eq] <;> (try rw [UInt8.toNat_ofNat']) <;> omega) rfl (by simp)) (by simp) rfl (.tmp 31) (.tmp 43) rfl rfl rfl ?_; intro a1 cap1 v1 i1; generalize hy1 : l0 ++ [UInt8.ofNat x0.1, UInt8.ofNat (x0.2 / 256), UInt8.ofNat x0.2] = l1 at *; have HY1 := Lib.hid hy1; have I1 := Lib.hid i1; clear hy1 i1)
  clear lt0 G0 c0_0 e0 d0 ltb0
  have lt1 := Nat.lt_of_lt_of_le HG.out I1.out.frm.size
  have G1 := (B2.out.keep I1.out.frm (by simp)).gets HS32.out
  have c0_1 := G1.c0
  obtain ⟨e1, d1⟩ := CC1.out _ (F0.out.trans I1.out.frm (by simp))
  have ltb1 := Nat.lt_of_lt_of_le HBL.out (F0.out.trans I1.out.frm (by simp)).size
  rw [rounds_succ]
  go_wp2_with (at_builtin; refine wpList_app BT I1.out (((Frm.refl [] _).alloc _).alloc _) (lst_slB (l := [UInt8.ofNat x1.1, UInt8.ofNat (x1.2 / 256), UInt8.ofNat x1.2]) (n := 3) (heap_alloc_at (by simp)) (by have := KB1.out; simp only [bvs, List.map_cons, List.map_nil]; rw [bv_eq, bv_eq, bv_eq] <;> (try rw [UInt8.toNat_ofNat']) <;> omega) rfl (by simp)) (by simp) rfl (.tmp 31) (.tmp 43) rfl rfl rfl ?_; intro a2 cap2 v2 i1; generalize hy1 : l1 ++ [UInt8.ofNat x1.1, UInt8.ofNat (x1.2 / 256), UInt8.ofNat x1.2] = l2 at *; have HY2 := Lib.hid hy1; have I2 := Lib.hid i1; clear hy1 i1)
  clear lt1 G1 c0_1 e1 d1 ltb1
  have lt2 := Nat.lt_of_lt_of_le HG.out I2.out.frm.size
  have G2 := (B2.out.keep I2.out.frm (by simp)).gets HS32.out
  have c0_2 := G2.c0
  rw [rounds_succ]
  go_wp2_with (at_builtin; refine wpList_app BT I2.out (((Frm.refl [] _).alloc _).alloc _) (lst_slB (l := [(0 : UInt8), 0, 0]) (n := 3) (heap_alloc_at (by simp)) rfl rfl (by simp)) (by simp) rfl (.tmp 31) (.tmp 43) rfl rfl rfl ?_; intro a3 cap3 v3 i1; generalize hy1 : l2 ++ [(0 : UInt8), 0, 0] = l3 at *; have HY3 := Lib.hid hy1; have I3 := Lib.hid i1; clear hy1 i1)
  clear lt2 G2 c0_2
  rw [rounds_succ]
  go_wp2_with fail
  refine wp_loop_rounds 5 ?_
  have lt3 := Nat.lt_of_lt_of_le HG.out I3.out.frm.size
  have G3 := (B2.out.keep I3.out.frm (by simp)).gets HS32.out
  have c1_3 := G3.c1
  rw [rounds_succ]
  go_wp2_with (at_builtin; refine wpList_app BT I3.out ((Frm.refl [] _).alloc _) (lst_slB (l := [UInt8.ofNat (b / 16777216)]) (n := 1) (heap_alloc_at rfl) (by have := HB4.out; simp only [bvs, List.map_cons, List.map_nil]; rw [bv_eq]; rw [UInt8.toNat_ofNat']; omega) rfl (by simp)) (by simp) rfl (.tmp 49) (.tmp 56) rfl rfl rfl ?_; intro a4 cap4 v4 i1; generalize hy1 : l3 ++ [UInt8.ofNat (b / 16777216)] = l4 at *; have HY4 := Lib.hid hy1; have I4 := Lib.hid i1; clear hy1 i1)
  clear lt3 G3 c1_3
  have lt4 := Nat.lt_of_lt_of_le HG.out I4.out.frm.size
  have G4 := (B2.out.keep I4.out.frm (by simp)).gets HS32.out
  have c1_4 := G4.c1
  rw [rounds_succ]
  go_wp2_with (at_builtin; refine wpList_app BT I4.out ((Frm.refl [] _).alloc _) (lst_slB (l := [UInt8.ofNat (b / 65536)]) (n := 1) (heap_alloc_at rfl) (by have := HB4.out; simp only [bvs, List.map_cons, List.map_nil]; rw [bv_eq]; rw [UInt8.toNat_ofNat']; omega) rfl (by simp)) (by simp) rfl (.tmp 49) (.tmp 56) rfl rfl rfl ?_; intro a5 cap5 v5 i1; generalize hy1 : l4 ++ [UInt8.ofNat (b / 65536)] = l5 at *; have HY5 := Lib.hid hy1; have I5 := Lib.hid i1; clear hy1 i1)
  clear lt4 G4 c1_4
  have lt5 := Nat.lt_of_lt_of_le HG.out I5.out.frm.size
  have G5 := (B2.out.keep I5.out.frm (by simp)).gets HS32.out
  have c1_5 := G5.c1
  rw [rounds_succ]
  go_wp2_with (at_builtin; refine wpList_app BT I5.out ((Frm.refl [] _).alloc _) (lst_slB (l := [UInt8.ofNat (b / 256)]) (n := 1) (heap_alloc_at rfl) (by have := HB4.out; simp only [bvs, List.map_cons, List.map_nil]; rw [bv_eq]; rw [UInt8.toNat_ofNat']; omega) rfl (by simp)) (by simp) rfl (.tmp 49) (.tmp 56) rfl rfl rfl ?_; intro a6 cap6 v6 i1; generalize hy1 : l5 ++ [UInt8.ofNat (b / 256)] = l6 at *; have HY6 := Lib.hid hy1; have I6 := Lib.hid i1; clear hy1 i1)
  clear lt5 G5 c1_5
  have lt6 := Nat.lt_of_lt_of_le HG.out I6.out.frm.size
  have G6 := (B2.out.keep I6.out.frm (by simp)).gets HS32.out
  have c1_6 := G6.c1
  rw [rounds_succ]
  go_wp2_with (at_builtin; refine wpList_app BT I6.out ((Frm.refl [] _).alloc _) (lst_slB (l := [UInt8.ofNat b]) (n := 1) (heap_alloc_at rfl) (by have := HB4.out; simp only [bvs, List.map_cons, List.map_nil]; rw [bv_eq]; rw [UInt8.toNat_ofNat']; omega) rfl (by simp)) (by simp) rfl (.tmp 49) (.tmp 56) rfl rfl rfl ?_; intro a7 cap7 v7 i1; generalize hy1 : l6 ++ [UInt8.ofNat b] = l7 at *; have HY7 := Lib.hid hy1; have I7 := Lib.hid i1; clear hy1 i1)
  clear lt6 G6 c1_6
  rw [rounds_succ]
  go_upto_region 15 with (fail)
  have lt7 := Nat.lt_of_lt_of_le HG.out I7.out.frm.size
  have G7 := (B2.out.keep I7.out.frm (by simp)).gets HS32.out
  have c2_7 := G7.c2
  go_upto_region 16 with (at_builtin; refine wpList_app BT I7.out ((Frm.refl [] _).alloc _) (lst_slB (l := [UInt8.ofNat lv]) (n := 1) (heap_alloc_at rfl) (by have := HLV.out; simp only [bvs, List.map_cons, List.map_nil]; rw [bv_eq]; rw [UInt8.toNat_ofNat']; omega) rfl (by simp)) (by simp) rfl (.tmp 58) (.tmp 62) rfl rfl rfl ?_; intro a8 cap8 v8 i1; generalize hy1 : l7 ++ [UInt8.ofNat lv] = l8 at *; have HY8 := Lib.hid hy1; have I8 := Lib.hid i1; clear hy1 i1)
  clear lt7 G7 c2_7
  go_wp2_with (at_builtin; refine wpList_app BT I8.out (Frm.refl [] _) (sum_slB (B2.out.keep I8.out.frm (by simp)) HS32.out) (by rw [HS32.out]; simp) rfl (.tmp 64) (.tmp 66) rfl rfl rfl ?_; intro a9 cap9 v9 i1; generalize hy1 : l8 ++ s = l9 at *; have HY9 := Lib.hid hy1; have I9 := Lib.hid i1; clear hy1 i1)
  go_ret2
  have e : enc (ptN [x0, x1] b lv s) = l9 := by
    rw [HEN.out, ← HY9.out, ← HY8.out, ← HY7.out, ← HY6.out, ← HY5.out, ← HY4.out, ← HY3.out, ← HY2.out, ← HY1.out, ← HY0.out]
    simp [ptB, addrsB, pad3, adB, be1, be2, be4]
  obtain ⟨sp9, o9⟩ := I9.out.own
  exact bytesP_yes HM.out e o9 (F0.out.trans I9.out.frm (by simp)) (fun i hi => Nat.le_trans F0.out.size (I9.out.new i hi))
set_option maxHeartbeats 8000000 in
theorem refBytes3 (xa : Option Addr) (cap : Nat) (x0 : Nat × Nat) (x1 : Nat × Nat) (x2 : Nat × Nat) (asp : List Ad) (b lv : Nat) (s : List UInt8) (w : World) (hm : may (ptN [x0, x1, x2] b lv s)) (hS : SlA w (.slice xa 3 cap) (([x0, x1, x2] : List (Nat × Nat)).map adI) asp) (hs : s.length = 32)
    (hb : ∀ x ∈ ([x0, x1, x2] : List (Nat × Nat)), x.1 < 8 ∧ x.2 < 4096) (hb4 : b ≤ 2147483648) (hlv : lv ≤ 3) : Calls Tryz.prog 52 #[pv (.slice xa 3 cap) b lv s] w (BytesP (ptN [x0, x1, x2] b lv s) w) := by
  have hC := fun W (f : Frm [] w W) => RefCheck_any (pv (.slice xa 3 cap) b lv s) (ptN [x0, x1, x2] b lv s) W ⟨xa, cap, asp, rfl, hS.keep f (by simp), hs⟩ (by simp [ptN])
  rw [show chk (ptN [x0, x1, x2] b lv s) = 0 by simp [chk, (mayB_iff _).2 hm]] at hC
  have hen : enc (ptN [x0, x1, x2] b lv s) = ptB [x0, x1, x2] b lv s := by simp [enc, ptN, adI]
  have B1 := PB.new w (.slice xa 3 cap) b lv s
  have f : Frm [] w (w.alloc (.cells (pc (.slice xa 3 cap) b lv s).toArray 26)) := (Frm.refl [] w).alloc _
  have hA0 : pv (.slice xa 3 cap) b lv s = .agg (pc (.slice xa 3 cap) b lv s).toArray := rfl
  have HA0 := Lib.hid hA0
  have HM := Lib.hid hm
  have HEN := Lib.hid hen
  have HC := Lib.hid hC
  have HS32 := Lib.hid hs
  have hb4' : (b : Int) ≤ 2147483648 := by omega
  have hlv' : (lv : Int) ≤ 3 := by omega
  have HB4 := Lib.hid hb4
  have HLV := Lib.hid hlv
  clear hb4 hlv
  obtain ⟨b0, off, rfl⟩ := hS.at (by simp)
  have HBL := Lib.hid (show b0 < w.heap.size from World.block_lt_of_cell? _ _ (hS.cells 0 (by simp)).1)
  have kb0 := hb x0 (by simp)
  have KB0 := Lib.hid kb0
  have CC0 := Lib.hid (fun (W : World) (f : Frm [] w W) => show W.cell? ⟨b0, off, none⟩ = some (.int .i64 (x0.1 : Int)) ∧ W.cell? ⟨b0, off + 1, none⟩ = some (.int .i64 (x0.2 : Int)) from by have := (hS.keep f (by simp)).cells 0 (by simp); simpa [adI] using this)
  have hw0 : wrap64 ((x0.2 : Int) / 256) = (x0.2 : Int) / 256 := IntWalk.wrap64_in _ (by omega)
  clear kb0
  have kb1 := hb x1 (by simp)
  have KB1 := Lib.hid kb1
  have CC1 := Lib.hid (fun (W : World) (f : Frm [] w W) => show W.cell? ⟨b0, off + 2, none⟩ = some (.int .i64 (x1.1 : Int)) ∧ W.cell? ⟨b0, off + 3, none⟩ = some (.int .i64 (x1.2 : Int)) from by have := (hS.keep f (by simp)).cells 1 (by simp); simpa [adI] using this)
  have hw1 : wrap64 ((x1.2 : Int) / 256) = (x1.2 : Int) / 256 := IntWalk.wrap64_in _ (by omega)
  clear kb1
  have kb2 := hb x2 (by simp)
  have KB2 := Lib.hid kb2
  have CC2 := Lib.hid (fun (W : World) (f : Frm [] w W) => show W.cell? ⟨b0, off + 4, none⟩ = some (.int .i64 (x2.1 : Int)) ∧ W.cell? ⟨b0, off + 5, none⟩ = some (.int .i64 (x2.2 : Int)) from by have := (hS.keep f (by simp)).cells 2 (by simp); simpa [adI] using this)
  have hw2 : wrap64 ((x2.2 : Int) / 256) = (x2.2 : Int) / 256 := IntWalk.wrap64_in _ (by omega)
  clear kb2
  rw [hA0]
  clear hA0 hC hS hm hen hb
  generalize hA : (pc (.slice (some ⟨b0, off, none⟩) 3 cap) b lv s).toArray = A at *
  go_enter Tryz.func52, Tryz.ntmps52
  go_upto_region 1 with (fail)
  have hgl : w.heap.size < (w.alloc (.cells A 26)).heap.size := by simp
  generalize w.alloc (.cells A 26) = W at *
  have B1h := Lib.hid B1
  have G0 := Lib.hid (B1.gets hs)
  clear hA B1
  go_upto_region 3 with (first | ((with_reducible (show wpList _ _ _ (Oper.mk _ (Op.load 26 _) _ _ _ _ :: _) _ _)); refine wpList_load_g (by rfl) 26 _ rfl _ rfl G0.out.all ?_) | (go_at_call 58; refine (HC.out _ f).mono ?_; rintro r w0 ⟨rfl, f2⟩))
  have F0 := Lib.hid (f.trans f2 (by simp))
  have B2 := Lib.hid (B1h.out.keep f2 (by simp))
  have HG := Lib.hid (Nat.lt_of_lt_of_le hgl f2.size)
  have c0 := (B2.out.gets hs).c0
  clear f2 f HC G0 B1h hs hgl
  go_upto_region 4 with (fail)
  have i0 : Inv w0 (w0.alloc (.cells #[.int .u8 3] 5)) (.slice (some ⟨w0.heap.size, 0, none⟩) (be1 3).length 1) (be1 3) 1 := ⟨⟨[], OwnB.of_heap (by rw [heap_alloc_new]; rfl) rfl rfl (by simp [maxLen])⟩, (Frm.refl [] w0).alloc _, fun i hi => by simp [blk] at hi; omega, by simp [be1]⟩
  rw [show (Value.slice (some ⟨w0.heap.size, 0, none⟩) 1 1) = Value.slice (some ⟨w0.heap.size, 0, none⟩) (be1 3).length 1 from rfl]
  generalize hl0 : be1 3 = l0 at *
  have HY0 := Lib.hid hl0
  have I0 := Lib.hid i0
  clear hl0 i0 c0
  generalize w0.alloc (.cells #[.int .u8 3] 5) = v0 at *
  go_wp2_with fail
  refine wp_loop_rounds 4 ?_
  have lt0 := Nat.lt_of_lt_of_le HG.out I0.out.frm.size
  have G0 := (B2.out.keep I0.out.frm (by simp)).gets HS32.out
  have c0_0 := G0.c0
  obtain ⟨e0, d0⟩ := CC0.out _ (F0.out.trans I0.out.frm (by simp))
  have ltb0 := Nat.lt_of_lt_of_le HBL.out (F0.out.trans I0.out.frm (by simp)).size
  rw [rounds_succ]
  go_wp2_with (at_builtin; refine wpList_app BT I0.out (((Frm.refl [] _).alloc _).alloc _) (lst_slB (l := [UInt8.ofNat x0.1, UInt8.ofNat (x0.2 / 256), UInt8.ofNat x0.2]) (n := 3) (heap_alloc_at (by simp)) (by have := KB0.out; simp only [bvs, List.map_cons, List.map_nil]; rw [bv_eq, bv_eq, bv_eq] <;> (try rw [UInt8.toNat_ofNat']) <;> omega) rfl (by simp)) (by simp) rfl (.tmp 31) (.tmp 43) rfl rfl rfl ?_; intro a1 cap1 v1 i1; generalize hy1 : l0 ++ [UInt8.ofNat x0.1, UInt8.ofNat (x0.2 / 256), UInt8.ofNat x0.2] = l1 at *; have HY1 := Lib.hid hy1; have I1 := Lib.hid i1; clear hy1 i1)
  clear lt0 G0 c0_0 e0 d0 ltb0
  have lt1 := Nat.lt_of_lt_of_le HG.out I1.out.frm.size
  have G1 := (B2.out.keep I1.out.frm (by simp)).gets HS32.out
  have c0_1 := G1.c0
  obtain ⟨e1, d1⟩ := CC1.out _ (F0.out.trans I1.out.frm (by simp))
  have ltb1 := Nat.lt_of_lt_of_le HBL.out (F0.out.trans I1.out.frm (by simp)).size
  rw [rounds_succ]
  go_wp2_with (at_builtin; refine wpList_app BT I1.out (((Frm.refl [] _).alloc _).alloc _) (lst_slB (l := [UInt8.ofNat x1.1, UInt8.ofNat (x1.2 / 256), UInt8.ofNat x1.2]) (n := 3) (heap_alloc_at (by simp)) (by have := KB1.out; simp only [bvs, List.map_cons, List.map_nil]; rw [bv_eq, bv_eq, bv_eq] <;> (try rw [UInt8.toNat_ofNat']) <;> omega) rfl (by simp)) (by simp) rfl (.tmp 31) (.tmp 43) rfl rfl rfl ?_; intro a2 cap2 v2 i1; generalize hy1 : l1 ++ [UInt8.ofNat x1.1, UInt8.ofNat (x1.2 / 256), UInt8.ofNat x1.2] = l2 at *; have HY2 := Lib.hid hy1; have I2 := Lib.hid i1; clear hy1 i1)
  clear lt1 G1 c0_1 e1 d1 ltb1
  have lt2 := Nat.lt_of_lt_of_le HG.out I2.out.frm.size
  have G2 := (B2.out.keep I2.out.frm (by simp)).gets HS32.out
  have c0_2 := G2.c0
  obtain ⟨e2, d2⟩ := CC2.out _ (F0.out.trans I2.out.frm (by simp))
  have ltb2 := Nat.lt_of_lt_of_le HBL.out (F0.out.trans I2.out.frm (by simp)).size
  rw [rounds_succ]
  go_wp2_with (at_builtin; refine wpList_app BT I2.out (((Frm.refl [] _).alloc _).alloc _) (lst_slB (l := [UInt8.ofNat x2.1, UInt8.ofNat (x2.2 / 256), UInt8.ofNat x2.2]) (n := 3) (heap_alloc_at (by simp)) (by have := KB2.out; simp only [bvs, List.map_cons, List.map_nil]; rw [bv_eq, bv_eq, bv_eq] <;> (try rw [UInt8.toNat_ofNat']) <;> omega) rfl (by simp)) (by simp) rfl (.tmp 31) (.tmp 43) rfl rfl rfl ?_; intro a3 cap3 v3 i1; generalize hy1 : l2 ++ [UInt8.ofNat x2.1, UInt8.ofNat (x2.2 / 256), UInt8.ofNat x2.2] = l3 at *; have HY3 := Lib.hid hy1; have I3 := Lib.hid i1; clear hy1 i1)
  clear lt2 G2 c0_2 e2 d2 ltb2
  rw [rounds_succ]
  go_wp2_with fail
  refine wp_loop_rounds 5 ?_
  have lt3 := Nat.lt_of_lt_of_le HG.out I3.out.frm.size
  have G3 := (B2.out.keep I3.out.frm (by simp)).gets HS32.out
  have c1_3 := G3.c1
  rw [rounds_succ]
  go_wp2_with (at_builtin; refine wpList_app BT I3.out ((Frm.refl [] _).alloc _) (lst_slB (l := [UInt8.ofNat (b / 16777216)]) (n := 1) (heap_alloc_at rfl) (by have := HB4.out; simp only [bvs, List.map_cons, List.map_nil]; rw [bv_eq]; rw [UInt8.toNat_ofNat']; omega) rfl (by simp)) (by simp) rfl (.tmp 49) (.tmp 56) rfl rfl rfl ?_; intro a4 cap4 v4 i1; generalize hy1 : l3 ++ [UInt8.ofNat (b / 16777216)] = l4 at *; have HY4 := Lib.hid hy1; have I4 := Lib.hid i1; clear hy1 i1)
  clear lt3 G3 c1_3
  have lt4 := Nat.lt_of_lt_of_le HG.out I4.out.frm.size
  have G4 := (B2.out.keep I4.out.frm (by simp)).gets HS32.out
  have c1_4 := G4.c1
  rw [rounds_succ]
  go_wp2_with (at_builtin; refine wpList_app BT I4.out ((Frm.refl [] _).alloc _) (lst_slB (l := [UInt8.ofNat (b / 65536)]) (n := 1) (heap_alloc_at rfl) (by have := HB4.out; simp only [bvs, List.map_cons, List.map_nil]; rw [bv_eq]; rw [UInt8.toNat_ofNat']; omega) rfl (by simp)) (by simp) rfl (.tmp 49) (.tmp 56) rfl rfl rfl ?_; intro a5 cap5 v5 i1; generalize hy1 : l4 ++ [UInt8.ofNat (b / 65536)] = l5 at *; have HY5 := Lib.hid hy1; have I5 := Lib.hid i1; clear hy1 i1)
  clear lt4 G4 c1_4
  have lt5 := Nat.lt_of_lt_of_le HG.out I5.out.frm.size
  have G5 := (B2.out.keep I5.out.frm (by simp)).gets HS32.out
  have c1_5 := G5.c1
  rw [rounds_succ]
  go_wp2_with (at_builtin; refine wpList_app BT I5.out ((Frm.refl [] _).alloc _) (lst_slB (l := [UInt8.ofNat (b / 256)]) (n := 1) (heap_alloc_at rfl) (by have := HB4.out; simp only [bvs, List.map_cons, List.map_nil]; rw [bv_eq]; rw [UInt8.toNat_ofNat']; omega) rfl (by simp)) (by simp) rfl (.tmp 49) (.tmp 56) rfl rfl rfl ?_; intro a6 cap6 v6 i1; generalize hy1 : l5 ++ [UInt8.ofNat (b / 256)] = l6 at *; have HY6 := Lib.hid hy1; have I6 := Lib.hid i1; clear hy1 i1)
  clear lt5 G5 c1_5
  have lt6 := Nat.lt_of_lt_of_le HG.out I6.out.frm.size
  have G6 := (B2.out.keep I6.out.frm (by simp)).gets HS32.out
  have c1_6 := G6.c1
  rw [rounds_succ]
  go_wp2_with (at_builtin; refine wpList_app BT I6.out ((Frm.refl [] _).alloc _) (lst_slB (l := [UInt8.ofNat b]) (n := 1) (heap_alloc_at rfl) (by have := HB4.out; simp only [bvs, List.map_cons, List.map_nil]; rw [bv_eq]; rw [UInt8.toNat_ofNat']; omega) rfl (by simp)) (by simp) rfl (.tmp 49) (.tmp 56) rfl rfl rfl ?_; intro a7 cap7 v7 i1; generalize hy1 : l6 ++ [UInt8.ofNat b] = l7 at *; have HY7 := Lib.hid hy1; have I7 := Lib.hid i1; clear hy1 i1)
  clear lt6 G6 c1_6
  rw [rounds_succ]
  go_upto_region 15 with (fail)
  have lt7 := Nat.lt_of_lt_of_le HG.out I7.out.frm.size
  have G7 := (B2.out.keep I7.out.frm (by simp)).gets HS32.out
  have c2_7 := G7.c2
  go_upto_region 16 with (at_builtin; refine wpList_app BT I7.out ((Frm.refl [] _).alloc _) (lst_slB (l := [UInt8.ofNat lv]) (n := 1) (heap_alloc_at rfl) (by have := HLV.out; simp only [bvs, List.map_cons, List.map_nil]; rw [bv_eq]; rw [UInt8.toNat_ofNat']; omega) rfl (by simp)) (by simp) rfl (.tmp 58) (.tmp 62) rfl rfl rfl ?_; intro a8 cap8 v8 i1; generalize hy1 : l7 ++ [UInt8.ofNat lv] = l8 at *; have HY8 := Lib.hid hy1; have I8 := Lib.hid i1; clear hy1 i1)
  clear lt7 G7 c2_7
  go_wp2_with (at_builtin; refine wpList_app BT I8.out (Frm.refl [] _) (sum_slB (B2.out.keep I8.out.frm (by simp)) HS32.out) (by rw [HS32.out]; simp) rfl (.tmp 64) (.tmp 66) rfl rfl rfl ?_; intro a9 cap9 v9 i1; generalize hy1 : l8 ++ s = l9 at *; have HY9 := Lib.hid hy1; have I9 := Lib.hid i1; clear hy1 i1)
  go_ret2
  have e : enc (ptN [x0, x1, x2] b lv s) = l9 := by
    rw [HEN.out, ← HY9.out, ← HY8.out, ← HY7.out, ← HY6.out, ← HY5.out, ← HY4.out, ← HY3.out, ← HY2.out, ← HY1.out, ← HY0.out]
    simp [ptB, addrsB, pad3, adB, be1, be2, be4]
  obtain ⟨sp9, o9⟩ := I9.out.own
  exact bytesP_yes HM.out e o9 (F0.out.trans I9.out.frm (by simp)) (fun i hi => Nat.le_trans F0.out.size (I9.out.new i hi))
set_option maxHeartbeats 4000000 in
theorem RefBytes_any (x : Value) (p : Pt) (w : World) (hp : PtV w x p) (hl : p.ads.length ≤ 1000000) : Calls Tryz.prog 52 #[x] w (BytesP p w) := by
  by_cases hm : may p
  · obtain ⟨L, b, lv, e1, e2, h3, hb, hb4, hlv⟩ := may_nat hm
    obtain ⟨a, cap, sp, rfl, hS, hs⟩ := hp
    generalize hq : p.s = s at *
    subst e1
    match L, h3, hb, hm, hS with
    | [], _, hb, hm, hS => exact refBytes0 a cap sp b lv s w hm hS hs hb hb4 hlv
    | [x0], _, hb, hm, hS => exact refBytes1 a cap x0 sp b lv s w hm hS hs hb hb4 hlv
    | [x0, x1], _, hb, hm, hS => exact refBytes2 a cap x0 x1 sp b lv s w hm hS hs hb hb4 hlv
    | [x0, x1, x2], _, hb, hm, hS => exact refBytes3 a cap x0 x1 x2 sp b lv s w hm hS hs hb hb4 hlv
    | _ :: _ :: _ :: _ :: _, h, _, _, _ => simp at h
  · have hC := fun W (f : Frm [] w W) => RefCheck_any x p W (hp.keep0 f) hl
    rw [show chk p = 2 by simp [chk, (mayB_not p).2 hm]] at hC
    obtain ⟨a, cap, sp, rfl, hS, hs⟩ := hp
    have B1 := PB.new w (.slice a p.ads.length cap) p.b p.l p.s
    have f : Frm [] w (w.alloc (.cells (pc (.slice a p.ads.length cap) p.b p.l p.s).toArray 26)) := (Frm.refl [] w).alloc _
    have hA0 : pv (.slice a p.ads.length cap) p.b p.l p.s = .agg (pc (.slice a p.ads.length cap) p.b p.l p.s).toArray := rfl
    have HA0 := Lib.hid hA0
    have HC := Lib.hid hC
    have HM := Lib.hid hm
    rw [hA0]
    clear hA0 hC hS hl hm
    generalize hA : (pc (.slice a p.ads.length cap) p.b p.l p.s).toArray = A at *
    generalize p.ads.length = n at *
    go_enter Tryz.func52, Tryz.ntmps52
    go_upto_region 1 with (fail)
    generalize w.alloc (.cells A 26) = W at *
    have G0 := Lib.hid (B1.gets hs)
    clear hA B1
    go_wp2_with (first | ((with_reducible (show wpList _ _ _ (Oper.mk _ (Op.load 26 _) _ _ _ _ :: _) _ _)); refine wpList_load_g (by rfl) 26 _ rfl _ rfl G0.out.all ?_) | (go_at_call 58; refine (HC.out _ f).mono ?_; rintro r w2 ⟨rfl, f2⟩))
    go_ret2
    exact bytesP_no HM.out (f.trans f2 (by simp))
end Go.Proofs.YtjdejhgfkjeeiaaGreatDoor.Pt
