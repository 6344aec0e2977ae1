/-
  Contract of fieldsOf: the bytes of a pointer whose numbers are small enough. No conditions but those that each theorem names.
-/
import Derived.Test.YtjjcjocomanohaaP9
namespace Go.Proofs.Ytjjcjocomanohaa
open Go.RowKit
set_option linter.unusedVariables false
set_option linter.unusedSimpArgs false
set_option maxRecDepth 100000

theorem mk47 (W : World) : (Instr.makeSlice 64 (.int .i64 0) (.int .i64 47)).run Try.prog W = .ok (.slice (some ⟨W.heap.size, 0, none⟩) 0 47) (W.alloc (.cells (bvs (List.replicate 47 0)).toArray 5)) := by kernel_rfl
theorem exec47 {o : Oper} {a : Act} (hop : o.op = Op.makeSlice 64 (.const (.int .i64 0)) (.const (.int .i64 47))) (W : World) : (execOp a.eval o).run Try.prog W = .ok (.value (.slice (some ⟨W.heap.size, 0, none⟩) 0 47)) (W.alloc (.cells (bvs (List.replicate 47 0)).toArray 5)) := by
  have e1 : a.eval (.const (.int .i64 0)) = .int .i64 0 := rfl
  have e2 : a.eval (.const (.int .i64 47)) = .int .i64 47 := rfl
  have h := mk47 W
  generalize W.alloc (.cells (bvs (List.replicate 47 0)).toArray 5) = W2 at *
  simp only [execOp, hop, e1, e2, Sem.run_bind, Sem.run_pure, h, Result.andThen_ok]
/-- Numbers as a pointer, and its bytes. -/
def ptN (L : List (Nat × Nat)) (b lv : Nat) (s : List UInt8) : Pt := ⟨L.map adI, b, lv, s⟩
def ptB (L : List (Nat × Nat)) (b lv : Nat) (s : List UInt8) : List UInt8 := addrsB L ++ be4 b ++ be1 lv ++ s
def Told (w : World) (l : List UInt8) (e : Ending) (w' : World) : Prop := ∃ a cap sp, e = .returned (.slice a l.length cap) ∧ OwnB 5 w' (.slice a l.length cap) l sp ∧ Frm [] w w' ∧ ∀ i ∈ blk (.slice a l.length cap), w.heap.size ≤ i
theorem addrsB_length (L : List (Nat × Nat)) (h : L.length ≤ 3) : (addrsB L).length = 10 := by
  match L, h with
  | [], _ => rfl
  | [a], _ => rfl
  | [a, b], _ => rfl
  | [a, b, c], _ => rfl
  | _ :: _ :: _ :: _ :: _, h => simp at h
set_option maxHeartbeats 4000000 in
theorem fieldsOf_any (x : Value) (L : List (Nat × Nat)) (b lv : Nat) (s : List UInt8) (w : World) (hp : PtV w x (ptN L b lv s)) (h3 : L.length ≤ 3) (hb : ∀ x ∈ L, x.1 < 1099511627776 ∧ x.2 < 1099511627776) (hb4 : b < 1099511627776) (hlv : lv < 1099511627776) :
    Calls Try.prog 50 #[x] w (Told w (ptB L b lv s)) := by
  obtain ⟨xa, xcap, asp, rfl, hS, hs⟩ := hp
  simp only [ptN] at *
  have hten := addrsB_length L h3
  have B1 := PB.new w (.slice xa (L.map adI).length xcap) b lv s
  have f0 : Frm [] w (w.alloc (.cells (pc (.slice xa (L.map adI).length xcap) b lv s).toArray 26)) := (Frm.refl [] w).alloc _
  have hS1 := hS.keep f0 (by simp)
  unfold pv
  generalize hA : (pc (.slice xa (L.map adI).length xcap) b lv s).toArray = A at *
  go_enter Try.func50, Try.ntmps50
  go_upto_region 1 with (fail)
  have hwz : w.heap.size ≤ (w.alloc (.cells A 26)).heap.size := f0.size
  generalize w.alloc (.cells A 26) = W at *
  generalize hn : (L.map adI).length = n at *
  have HS := Lib.hid hS1
  have B1h := Lib.hid B1
  have H3 := Lib.hid h3
  have HBB := Lib.hid hb
  have HB4 := Lib.hid hb4
  have HLV := Lib.hid hlv
  have HTEN := Lib.hid hten
  have HSS := Lib.hid hs
  have F0 := Lib.hid f0
  have HWZ := Lib.hid hwz
  clear hS hS1 B1 h3 hb hb4 hlv hten hA hn hs f0 hwz
  refine wp_region_held_drew (S := fun z => Frm [] W z) (by kernel_rfl) ((Frm.refl [] W).drew) (fun hHeld => ?_)
  refine wpAnyH_take (i := 1) (oi := { dst := some 4, op := Op.fieldAddr 26 (Operand.tmp 1) 0, type := 0, pos := "fields.go:43", after := #[], guard := none }) (v := ?_) rfl (by kernel_rfl) (by kernel_rfl) (by kernel_rfl) (fun _ _ _ h => h) (Or.inl ⟨by rfl, ?_⟩) hHeld ?_
  rotate_left
  focus (intro z hSw; clear hSw; go_simp; try with_reducible rfl)
  try simp only [Act.put, List.setIfInBounds_toArray, List.set_cons_zero, List.set_cons_succ]
  refine wpAnyH_take (i := 2) (oi := { dst := some 5, op := Op.load 22 (Operand.tmp 4), type := 22, pos := "fields.go:43", after := #[{ on := 1, ground := Ground.data }], guard := none }) (v := ?_) rfl (by kernel_rfl) (by kernel_rfl) (by kernel_rfl) (fun _ _ _ h => h) (Or.inl ⟨by rfl, ?_⟩) hHeld ?_
  rotate_left
  focus (intro z hSw; have G := (B1h.out.keep hSw (by simp)).gets HSS.out; have c0 := G.c0; have c1 := G.c1; have c2 := G.c2; clear hSw G; go_simp; try with_reducible rfl)
  try simp only [Act.put, List.setIfInBounds_toArray, List.set_cons_zero, List.set_cons_succ]
  refine wpAnyH_take (i := 4) (oi := { dst := some 7, op := Op.fieldAddr 26 (Operand.tmp 1) 1, type := 0, pos := "fields.go:43", after := #[], guard := none }) (v := ?_) rfl (by kernel_rfl) (by kernel_rfl) (by kernel_rfl) (fun _ _ _ h => h) (Or.inl ⟨by rfl, ?_⟩) hHeld ?_
  rotate_left
  focus (intro z hSw; clear hSw; go_simp; try with_reducible rfl)
  try simp only [Act.put, List.setIfInBounds_toArray, List.set_cons_zero, List.set_cons_succ]
  refine wpAnyH_take (i := 5) (oi := { dst := some 8, op := Op.load 3 (Operand.tmp 7), type := 3, pos := "fields.go:43", after := #[{ on := 4, ground := Ground.data }], guard := none }) (v := ?_) rfl (by kernel_rfl) (by kernel_rfl) (by kernel_rfl) (fun _ _ _ h => h) (Or.inl ⟨by rfl, ?_⟩) hHeld ?_
  rotate_left
  focus (intro z hSw; have G := (B1h.out.keep hSw (by simp)).gets HSS.out; have c0 := G.c0; have c1 := G.c1; have c2 := G.c2; clear hSw G; go_simp; try with_reducible rfl)
  try simp only [Act.put, List.setIfInBounds_toArray, List.set_cons_zero, List.set_cons_succ]
  refine wpAnyH_take (i := 7) (oi := { dst := some 10, op := Op.fieldAddr 26 (Operand.tmp 1) 2, type := 0, pos := "fields.go:43", after := #[], guard := none }) (v := ?_) rfl (by kernel_rfl) (by kernel_rfl) (by kernel_rfl) (fun _ _ _ h => h) (Or.inl ⟨by rfl, ?_⟩) hHeld ?_
  rotate_left
  focus (intro z hSw; clear hSw; go_simp; try with_reducible rfl)
  try simp only [Act.put, List.setIfInBounds_toArray, List.set_cons_zero, List.set_cons_succ]
  refine wpAnyH_take (i := 8) (oi := { dst := some 11, op := Op.load 3 (Operand.tmp 10), type := 3, pos := "fields.go:43", after := #[{ on := 7, ground := Ground.data }], guard := none }) (v := ?_) rfl (by kernel_rfl) (by kernel_rfl) (by kernel_rfl) (fun _ _ _ h => h) (Or.inl ⟨by rfl, ?_⟩) hHeld ?_
  rotate_left
  focus (intro z hSw; have G := (B1h.out.keep hSw (by simp)).gets HSS.out; have c0 := G.c0; have c1 := G.c1; have c2 := G.c2; clear hSw G; go_simp; try with_reducible rfl)
  try simp only [Act.put, List.setIfInBounds_toArray, List.set_cons_zero, List.set_cons_succ]
  refine wpAnyH_take (i := 10) (oi := { dst := some 13, op := Op.fieldAddr 26 (Operand.tmp 1) 3, type := 0, pos := "fields.go:43", after := #[], guard := none }) (v := ?_) rfl (by kernel_rfl) (by kernel_rfl) (by kernel_rfl) (fun _ _ _ h => h) (Or.inl ⟨by rfl, ?_⟩) hHeld ?_
  rotate_left
  focus (intro z hSw; clear hSw; go_simp; try with_reducible rfl)
  try simp only [Act.put, List.setIfInBounds_toArray, List.set_cons_zero, List.set_cons_succ]
  refine wpAnyH_take (i := 11) (oi := { dst := some 14, op := Op.load 24 (Operand.tmp 13), type := 24, pos := "fields.go:43", after := #[{ on := 10, ground := Ground.data }], guard := none }) rfl (by kernel_rfl) (by kernel_rfl) (by kernel_rfl) (fun _ _ _ h => h) (yieldsIf_ld (by rfl) 24 _ rfl _ rfl (fun z hSw => ((B1h.out.keep hSw (by simp)).gets HSS.out).sum)) hHeld ?_
  try simp only [Act.put, List.setIfInBounds_toArray, List.set_cons_zero, List.set_cons_succ]
  refine wpAnyH_ready (rs := [0]) (by kernel_rfl) (by simp) ?_
  refine AllReadyH.cons (o := { dst := some 3, op := Op.makeSlice 64 (Operand.const (Value.int IntKind.i64 0)) (Operand.const (Value.int IntKind.i64 47)), type := 64, pos := "fields.go:43", after := #[], guard := none }) rfl (fun K hK => ?_) AllReadyH.nil
  refine step_val (v := .slice (some ⟨W.heap.size, 0, none⟩) 0 47) (w' := W.drew.alloc (.cells (bvs (List.replicate 47 0)).toArray 5)) rfl (exec47 rfl W.drew) ?_
  refine hK.out _ _ ?_ (fun hNext => ?_)
  · exact ((Frm.refl [] W).drew).alloc _
  clear hK K hHeld
  have hHeld := hNext
  clear hNext
  have o0 : OwnB 5 (W.drew.alloc (.cells (bvs (List.replicate 47 0)).toArray 5)) (.slice (some ⟨W.heap.size, 0, none⟩) 0 47) [] (List.replicate 47 0) := OwnB.of_heap (heap_alloc_new W.drew _) rfl rfl (by simp [maxLen])
  have NB0 := Lib.hid (fun (i : Nat) (hi : i ∈ blk (.slice (some ⟨W.heap.size, 0, none⟩) 0 47)) => show W.heap.size ≤ i from by simp [blk] at hi; omega)
  generalize W.drew.alloc (.cells (bvs (List.replicate 47 0)).toArray 5) = w0 at *
  try simp only [Act.put, List.setIfInBounds_toArray, List.set_cons_zero, List.set_cons_succ]
  refine wpAnyH_ready (rs := [3]) (by kernel_rfl) (by simp) ?_
  refine AllReadyH.cons (o := { dst := some 6, op := Op.call { callee := Callee.value (Operand.func 69), args := #[Operand.tmp 3, Operand.tmp 5], argTypes := #[64, 22] }, type := 64, pos := "fields.go:43", after := #[{ on := 0, ground := Ground.data }, { on := 2, ground := Ground.data }], guard := none }) rfl (fun K hK => ?_) AllReadyH.nil
  go_simp
  refine (addrs_any _ _ [] _ L asp _ o0 (by simp) (HS.out.keep hHeld (by simp)) H3.out HBB.out).mono ?_
  rintro r w1 ⟨a1, cap1, sp1, rfl, o1, g1⟩
  have hl1 : ([] ++ addrsB L).length = 10 := (by have := HSS.out; have := HTEN.out; simp [be1, be4]; try omega)
  generalize hy1 : [] ++ addrsB L = l1 at *
  have HY1 := Lib.hid hy1
  have HL1 := Lib.hid hl1
  have NB1 := Lib.hid (fun (i : Nat) (hi : i ∈ blk (.slice a1 l1.length cap1)) => show W.heap.size ≤ i from by rcases g1.2 i hi with h | h; exact NB0.out i h; exact Nat.le_trans hHeld.size h)
  clear hy1 hl1
  refine hK.out _ _ ?_ (fun hNext => ?_)
  · exact hHeld.trans g1.1 (fun i hi => .inr (NB0.out i hi))
  clear hK K hHeld
  have hHeld := hNext
  clear hNext
  try simp only [Act.put, List.setIfInBounds_toArray, List.set_cons_zero, List.set_cons_succ]
  refine wpAnyH_ready (rs := [6]) (by kernel_rfl) (by simp) ?_
  refine AllReadyH.cons (o := { dst := some 9, op := Op.call { callee := Callee.value (Operand.func 70), args := #[Operand.tmp 6, Operand.tmp 8, Operand.const (Value.int IntKind.i64 4)], argTypes := #[64, 3, 3] }, type := 64, pos := "fields.go:43", after := #[{ on := 3, ground := Ground.data }, { on := 5, ground := Ground.data }, { on := 3, ground := Ground.chain }], guard := none }) rfl (fun K hK => ?_) AllReadyH.nil
  go_simp
  refine (number4 _ _ sp1 b _ o1 (by have := HL1.out; omega) HB4.out).mono ?_
  rintro r w2 ⟨a2, cap2, sp2, rfl, o2, g2⟩
  have hl2 : (l1 ++ be4 b).length = l1.length + 4 := (by have := HSS.out; have := HTEN.out; simp [be1, be4]; try omega)
  generalize hy2 : l1 ++ be4 b = l2 at *
  have HY2 := Lib.hid hy2
  have HL2 := Lib.hid hl2
  have NB2 := Lib.hid (fun (i : Nat) (hi : i ∈ blk (.slice a2 l2.length cap2)) => show W.heap.size ≤ i from by rcases g2.2 i hi with h | h; exact NB1.out i h; exact Nat.le_trans hHeld.size h)
  clear hy2 hl2
  refine hK.out _ _ ?_ (fun hNext => ?_)
  · exact hHeld.trans g2.1 (fun i hi => .inr (NB1.out i hi))
  clear hK K hHeld
  have hHeld := hNext
  clear hNext
  try simp only [Act.put, List.setIfInBounds_toArray, List.set_cons_zero, List.set_cons_succ]
  refine wpAnyH_ready (rs := [9]) (by kernel_rfl) (by simp) ?_
  refine AllReadyH.cons (o := { dst := some 12, op := Op.call { callee := Callee.value (Operand.func 70), args := #[Operand.tmp 9, Operand.tmp 11, Operand.const (Value.int IntKind.i64 1)], argTypes := #[64, 3, 3] }, type := 64, pos := "fields.go:43", after := #[{ on := 6, ground := Ground.data }, { on := 8, ground := Ground.data }, { on := 6, ground := Ground.chain }], guard := none }) rfl (fun K hK => ?_) AllReadyH.nil
  go_simp
  refine (number1 _ _ sp2 lv _ o2 (by have := HL1.out; have := HL2.out; omega) HLV.out).mono ?_
  rintro r w3 ⟨a3, cap3, sp3, rfl, o3, g3⟩
  have hl3 : (l2 ++ be1 lv).length = l2.length + 1 := (by have := HSS.out; have := HTEN.out; simp [be1, be4]; try omega)
  generalize hy3 : l2 ++ be1 lv = l3 at *
  have HY3 := Lib.hid hy3
  have HL3 := Lib.hid hl3
  have NB3 := Lib.hid (fun (i : Nat) (hi : i ∈ blk (.slice a3 l3.length cap3)) => show W.heap.size ≤ i from by rcases g3.2 i hi with h | h; exact NB2.out i h; exact Nat.le_trans hHeld.size h)
  clear hy3 hl3
  refine hK.out _ _ ?_ (fun hNext => ?_)
  · exact hHeld.trans g3.1 (fun i hi => .inr (NB2.out i hi))
  clear hK K hHeld
  have hHeld := hNext
  clear hNext
  try simp only [Act.put, List.setIfInBounds_toArray, List.set_cons_zero, List.set_cons_succ]
  refine wpAnyH_ready (rs := [12]) (by kernel_rfl) (by simp) ?_
  refine AllReadyH.cons (o := { dst := some 15, op := Op.call { callee := Callee.value (Operand.func 71), args := #[Operand.tmp 12, Operand.tmp 14], argTypes := #[64, 24] }, type := 64, pos := "fields.go:43", after := #[{ on := 9, ground := Ground.data }, { on := 11, ground := Ground.data }, { on := 9, ground := Ground.chain }], guard := none }) rfl (fun K hK => ?_) AllReadyH.nil
  go_simp
  refine (sum_any _ _ sp3 s _ o3 (by have := HL1.out; have := HL2.out; have := HL3.out; omega) HSS.out).mono ?_
  rintro r w4 ⟨a4, cap4, sp4, rfl, o4, g4⟩
  have hl4 : (l3 ++ s).length = l3.length + 32 := (by have := HSS.out; have := HTEN.out; simp [be1, be4]; try omega)
  generalize hy4 : l3 ++ s = l4 at *
  have HY4 := Lib.hid hy4
  have HL4 := Lib.hid hl4
  have NB4 := Lib.hid (fun (i : Nat) (hi : i ∈ blk (.slice a4 l4.length cap4)) => show W.heap.size ≤ i from by rcases g4.2 i hi with h | h; exact NB3.out i h; exact Nat.le_trans hHeld.size h)
  clear hy4 hl4
  refine hK.out _ _ ?_ (fun hNext => ?_)
  · exact hHeld.trans g4.1 (fun i hi => .inr (NB3.out i hi))
  clear hK K hHeld
  have hHeld := hNext
  clear hNext
  try simp only [Act.put, List.setIfInBounds_toArray, List.set_cons_zero, List.set_cons_succ]
  refine wpAnyH_take (i := 13) (oi := { dst := some 2, op := Op.assign (Operand.tmp 15), type := 64, pos := "fields.go:43", after := #[{ on := 12, ground := Ground.data }, { on := 12, ground := Ground.chain }, { on := 0, ground := Ground.phase }, { on := 1, ground := Ground.phase }, { on := 2, ground := Ground.phase }, { on := 3, ground := Ground.phase }, { on := 4, ground := Ground.phase }, { on := 5, ground := Ground.phase }, { on := 6, ground := Ground.phase }, { on := 7, ground := Ground.phase }, { on := 8, ground := Ground.phase }, { on := 9, ground := Ground.phase }, { on := 10, ground := Ground.phase }, { on := 11, ground := Ground.phase }, { on := 12, ground := Ground.phase }], guard := none }) (v := ?_) rfl (by kernel_rfl) (by kernel_rfl) (by kernel_rfl) (fun _ _ _ h => h) (Or.inl ⟨by rfl, ?_⟩) hHeld ?_
  rotate_left
  focus (intro z hSw; clear hSw; go_simp; try with_reducible rfl)
  try simp only [Act.put, List.setIfInBounds_toArray, List.set_cons_zero, List.set_cons_succ]
  refine wpAnyH_done (by kernel_rfl) ?_ _
  go_wp2_with fail
  go_ret
  have e : ptB L b lv s = l4 := by rw [← HY4.out, ← HY3.out, ← HY2.out, ← HY1.out]; simp [ptB]
  rw [e]
  exact ⟨a4, cap4, sp4, rfl, o4, F0.out.trans hHeld (by simp), fun i hi => Nat.le_trans HWZ.out (NB4.out i hi)⟩
end Go.Proofs.Ytjjcjocomanohaa
