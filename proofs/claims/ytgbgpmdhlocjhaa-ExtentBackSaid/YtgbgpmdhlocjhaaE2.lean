/-
  Contract of edgesOf. No conditions but those that each theorem names.
-/
import Derived.Test.YtgbgpmdhlocjhaaE1
namespace Go.Proofs.Ytgbgpmdhlocjhaa
open Go.RowKit Go.Sort
set_option linter.unusedVariables false
set_option linter.unusedSimpArgs false
set_option maxRecDepth 100000

theorem step_append_n {α : Type} {enc : α → List Value} {k : Nat} {T : TypeId} {w : World} {l m : List α} {sp msp : List Value} {n nn : Nat} {p : Option Addr} {cap : Nat} (E : Enco enc k) {P : Program} {tS : TypeId} {by' : Nat} (B : RowTys P tS T k by') {ops : Array Oper} {o : Oper} {a : Act} {K : Act → World → Prop} {Q : Exit → Act → World → Prop} {X : Prop}
    {y : Value} (hO : OwnE enc k T w (.slice p n cap) l sp) (hS : SlE enc k w y m msp) (hnn : n + m.length = nn) (hb : nn ≤ 1000000000) (hby : by' ≤ 1000)
    (hg : o.guard = none) (s x : Operand) (hop : o.op = Op.call { callee := Callee.builtin Builtin.append, args := #[s, x], argTypes := #[tS, tS] }) (hs : a.eval s = .slice p n cap) (hx : a.eval x = y)
    (kk : ∀ a' cap' w' sp', OwnE enc k T w' (.slice a' nn cap') (l ++ m) sp' → Frm (blk (.slice p n cap)) w w' → (∀ i ∈ blk (.slice a' nn cap'), i ∈ blk (.slice p n cap) ∨ w.heap.size ≤ i) →
      K (a.put o.dst (.slice a' nn cap')) w') :
    if Region.wanted o (yielded ops a.tmps) = true then Oper.wp P o a w K Q else X := by
  obtain ⟨a3, cap3, h3, _, _⟩ := hO.sl.form
  cases h3
  subst hnn
  exact step_append_e E B hO hS hb hby hg s x hop hs hx kk
def EoRel (l m : List Ex) (w0 : World) (ev cv : Value) (wr : World) : Prop := ∃ (i : Nat) (sp : List Value), i ≤ 2 ∧ cv = .int .i64 i ∧ OwnD wr ev (if i = 0 then [] else if i = 1 then eds 0 l else eds 0 l ++ eds 1 m) sp ∧ (∀ j ∈ blk ev, w0.heap.size ≤ j) ∧ Frm [] w0 wr
def EoRel2 (h : List Ed) (i : Int) (q : List Ex) (w0 : World) (ev cv : Value) (wr : World) : Prop := ∃ (k : Nat) (sp : List Value), k ≤ q.length ∧ cv = .int .i64 k ∧ OwnD wr ev (h ++ eds i (q.take k)) sp ∧ (∀ j ∈ blk ev, w0.heap.size ≤ j) ∧ Frm [] w0 wr
theorem slD2 {W : World} {g : Nat} {x x2 : Ed} (h : W.heap[g]? = some (.cells #[.int .i64 x.1, .int .i64 x.2.1, .bool x.2.2, .int .i64 x2.1, .int .i64 x2.2.1, .bool x2.2.2] 65 (0, 0))) : SlE eD 3 W (.slice (some ⟨g, 0, none⟩) 2 2) [x, x2] [] := SlE.of_block encD h rfl (by omega)
def W9x (W : World) (y : Ex) (i : Nat) (z : Int) : World := ((W.drew).alloc (.cells #[.int .i64 y.1, .int .i64 y.2] 47)).alloc (.cells #[.int .i64 y.1, .int .i64 i, .bool true, .int .i64 z, .int .i64 i, .bool false] 65)
theorem frm9 (W : World) (y : Ex) (i : Nat) (z : Int) : Frm [] W (W9x W y i z) := (((Frm.refl [] W).drew).alloc _).alloc _
set_option maxHeartbeats 8000000 in
theorem edgesOf_any (v x : Value) (l m : List Ex) (sp msp : List Value) (w : World) (hS : SlX w v l sp) (hg : Good l) (hM : SlX w x m msp) (hgm : Good m) :
    Calls Try.prog 52 #[.agg #[v, x]] w fun e w' => ∃ ev es sp', e = .returned ev ∧ es.Perm (eds 0 l ++ eds 1 m) ∧ Up es ∧ OwnD w' ev es sp' ∧ Frm [] w w' ∧ ∀ j ∈ blk ev, w.heap.size ≤ j := by
  obtain ⟨a, cap, rfl, _, _⟩ := hS.form
  obtain ⟨a2, cap2, rfl, _, _⟩ := hM.form
  have f0 : Frm [] w (w.alloc (.cells #[.slice a l.length cap, .slice a2 m.length cap2] 63)) := (Frm.refl _ _).alloc _
  have HS := Lib.hid hS
  have HM := Lib.hid hM
  have HG := Lib.hid hg
  have HGM := Lib.hid hgm
  clear hS hM hg hgm
  go_enter Try.func52, Try.ntmps52
  go_wp2_with fail
  generalize w.alloc (.cells #[.slice a l.length cap, .slice a2 m.length cap2] 63) = W at *
  have F0 := Lib.hid f0
  clear f0
  go_loopw [3, 9] (EoRel l m w) (fun _ cv _ => 2 - (intOf cv).toNat)
  case atStart => exact ⟨0, [], by omega, rfl, OwnE.nil _ _ _ _, by simp [blk], F0.out⟩
  case round =>
    obtain ⟨i, sp2, hi, rfl, o, nb, f⟩ := hrel
    by_cases hlt : i < 2
    · obtain ⟨q, ya, ycap, spq, hq, hidx, hgq, hnext⟩ : ∃ (q : List Ex) (ya : Option Addr) (ycap : Nat) (spq : List Value), SlX w (.slice ya q.length ycap) q spq ∧ (∀ W, (Instr.index 63 (.agg #[.slice a l.length cap, .slice a2 m.length cap2]) (.int .i64 (i : Int))).run Try.prog W = .ok (.slice ya q.length ycap) W) ∧ Good q ∧
          (if i + 1 = 0 then [] else if i + 1 = 1 then eds 0 l else eds 0 l ++ eds 1 m) = (if i = 0 then [] else if i = 1 then eds 0 l else eds 0 l ++ eds 1 m) ++ eds (i : Int) q := by
        have h01 : i = 0 ∨ i = 1 := by omega
        rcases h01 with rfl | rfl
        · exact ⟨l, a, cap, sp, HS.out, fun W => by simp [Instr.index, run_underlying Try.underlying63, asIntOf, go_sem], HG.out, by simp⟩
        · exact ⟨m, a2, cap2, msp, HM.out, fun W => by simp [Instr.index, run_underlying Try.underlying63, asIntOf, go_sem], HGM.out, by simp⟩
      obtain ⟨a3, c3, rfl, _, _⟩ := o.sl.form
      have hlq := hgq.len
      have hle : (if i = 0 then [] else if i = 1 then eds 0 l else eds 0 l ++ eds 1 m).length ≤ 20000 := by
        have h1 := HG.out.len
        have h2 := HGM.out.len
        split
        · simp
        · split
          · rw [eds_length]; omega
          · rw [List.length_append, eds_length, eds_length]; omega
      generalize hh : (if i = 0 then [] else if i = 1 then eds 0 l else eds 0 l ++ eds 1 m) = h at *
      have HQ := Lib.hid hq
      have HGQ := Lib.hid hgq
      have HNX := Lib.hid hnext
      have O := Lib.hid o
      have N := Lib.hid nb
      have F := Lib.hid f
      have hi9 : (i : Int) < 2 := by omega
      have HLE := Lib.hid hle
      clear hq hgq hnext o nb f hh hle
      go_wp2_with fail
      generalize hhl : h.length = hl at *
      have HHL := Lib.hid hhl
      clear hhl
      go_loopw [3, 15] (EoRel2 h (i : Int) q w) (fun _ cv _ => q.length - (intOf cv).toNat)
      case atStart => exact ⟨0, sp2, by omega, rfl, by have := O.out; simpa [eds, HHL.out] using this, by have := N.out; simpa [HHL.out] using this, F.out⟩
      case round =>
        obtain ⟨k, sp3, hk, rfl, o, nb, f⟩ := hrel
        obtain ⟨a4, c4, rfl, _, _⟩ := o.sl.form
        have hlen : (h ++ eds (i : Int) (q.take k)).length = hl + 2 * k := by rw [List.length_append, eds_length, HHL.out, List.length_take]; omega
        by_cases hlt2 : k < q.length
        · obtain ⟨b0, off, rfl⟩ := HQ.out.at (by omega)
          obtain ⟨c0, c1⟩ := cellsX (HQ.out.keep0 f) k hlt2
          have hxg := HGQ.out.1 q[k] (List.getElem_mem _)
          have hts := eds_take (i : Int) q k hlt2
          generalize q[k] = y at *
          generalize (h ++ eds (i : Int) (q.take k)).length = nn at *
          have HLN := Lib.hid hlen
          have HTS := Lib.hid hts
          have O4 := Lib.hid o
          have N4 := Lib.hid nb
          have F4 := Lib.hid f
          have hnb : nn + 2 ≤ 1000000000 := by have := HLE.out; have := HHL.out; omega
          clear hlen hts o nb f
          go_upto_region 8 with (fail)
          have f8 : Frm [] wr (wr.alloc (.cells #[.int .i64 y.1, .int .i64 y.2] 47)) := (Frm.refl _ _).alloc _
          have hb8 := heap_alloc_new wr (.cells #[.int .i64 y.1, .int .i64 y.2] 47)
          generalize wr.alloc (.cells #[.int .i64 y.1, .int .i64 y.2] 47) = W8 at *
          obtain ⟨g8, hg8⟩ : ∃ g8, wr.heap.size = g8 := ⟨_, rfl⟩
          rw [hg8] at hb8 ⊢
          have HG8 : g8 ∉ blk (.slice a4 nn c4) := fun hm => by have := O4.out.lt g8 hm; omega
          have e0 : W8.cell? ⟨g8, 0, none⟩ = some (.int .i64 y.1) := by rw [cell_of_heap hb8]; rfl
          have e1 : W8.cell? ⟨g8, 1, none⟩ = some (.int .i64 y.2) := by rw [cell_of_heap hb8]; rfl
          have F8 := Lib.hid (F4.out.trans f8 (by simp))
          have O8 := Lib.hid (O4.out.keep0 f8)
          have hw' : IntKind.i64.wrap (y.1 + y.2) = y.1 + y.2 := IntWalk.i64_in _ (by omega)
          have HBH := Lib.hid (fun W => behind_any y W (by omega))
          clear f8 hb8 hg8 c0 c1
          generalize hyy : y.1 + y.2 = z at *
          have HYY := Lib.hid hyy
          clear hyy
          have HNG := Lib.hid (show g8 ∉ blk (.slice a4 nn c4) from HG8)
          have HF9 := Lib.hid (fun u (fu : Frm (blk (.slice a4 nn c4)) (W9x W8 y i z) u) => (F8.out.trans (frm9 W8 y i z) (by simp)).trans fu (fun j hj => .inr (N4.out j hj)))
          have HZ8 := Lib.hid (show w.heap.size ≤ (W9x W8 y i z).heap.size from (F8.out.trans (frm9 W8 y i z) (by simp)).size)
          refine wp_region_held_drew (S := fun u => u.cell? ⟨g8, 0, none⟩ = some (.int .i64 y.1) ∧ u.cell? ⟨g8, 1, none⟩ = some (.int .i64 y.2)) (by kernel_rfl) (⟨e0, e1⟩) (fun hHeld => ?_)
          refine wpAnyH_take (i := 0) (oi := { dst := some 19, op := Op.move (Operand.tmp 3), type := 61, pos := "edges.go:22", after := #[], guard := none }) (v := ?_) rfl (by kernel_rfl) (by kernel_rfl) (by kernel_rfl) (fun _ _ _ h => h) (Or.inl ⟨by rfl, ?_⟩) hHeld ?_
          rotate_left
          focus (intro z hSw; clear hSw; go_simp; try with_reducible rfl)
          try simp only [Act.put, List.setIfInBounds_toArray, List.set_cons_zero, List.set_cons_succ]
          refine wpAnyH_take (i := 1) (oi := { dst := some 20, op := Op.fieldAddr 47 (Operand.tmp 7) 0, type := 0, pos := "edges.go:22", after := #[], guard := none }) (v := ?_) rfl (by kernel_rfl) (by kernel_rfl) (by kernel_rfl) (fun _ _ _ h => h) (Or.inl ⟨by rfl, ?_⟩) hHeld ?_
          rotate_left
          focus (intro z hSw; clear hSw; go_simp; try with_reducible rfl)
          try simp only [Act.put, List.setIfInBounds_toArray, List.set_cons_zero, List.set_cons_succ]
          refine wpAnyH_take (i := 2) (oi := { dst := some 21, op := Op.load 3 (Operand.tmp 20), type := 3, pos := "edges.go:22", after := #[{ on := 1, ground := Ground.data }], guard := none }) (v := ?_) rfl (by kernel_rfl) (by kernel_rfl) (by kernel_rfl) (fun _ _ _ h => h) (Or.inl ⟨by rfl, ?_⟩) hHeld ?_
          rotate_left
          focus (intro z hSw; obtain ⟨q0, q1⟩ := hSw; go_simp; try with_reducible rfl)
          try simp only [Act.put, List.setIfInBounds_toArray, List.set_cons_zero, List.set_cons_succ]
          refine wpAnyH_take (i := 3) (oi := { dst := some 22, op := Op.move (Operand.tmp 4), type := 3, pos := "edges.go:22", after := #[], guard := none }) (v := ?_) rfl (by kernel_rfl) (by kernel_rfl) (by kernel_rfl) (fun _ _ _ h => h) (Or.inl ⟨by rfl, ?_⟩) hHeld ?_
          rotate_left
          focus (intro z hSw; clear hSw; go_simp; try with_reducible rfl)
          try simp only [Act.put, List.setIfInBounds_toArray, List.set_cons_zero, List.set_cons_succ]
          refine wpAnyH_take (i := 4) (oi := { dst := some 23, op := Op.build 65 #[(0, Operand.tmp 21), (1, Operand.tmp 22), (2, Operand.const (Value.bool true))], type := 65, pos := "edges.go:22", after := #[{ on := 2, ground := Ground.data }, { on := 3, ground := Ground.data }], guard := none }) (v := ?_) rfl (by kernel_rfl) (by kernel_rfl) (by kernel_rfl) (fun _ _ _ h => h) (Or.inl ⟨by rfl, ?_⟩) hHeld ?_
          rotate_left
          focus (intro z hSw; clear hSw; go_simp; try with_reducible rfl)
          try simp only [Act.put, List.setIfInBounds_toArray, List.set_cons_zero, List.set_cons_succ]
          refine wpAnyH_take (i := 5) (oi := { dst := some 24, op := Op.load 47 (Operand.tmp 7), type := 47, pos := "edges.go:22", after := #[], guard := none }) (v := ?_) rfl (by kernel_rfl) (by kernel_rfl) (by kernel_rfl) (fun _ _ _ h => h) (Or.inl ⟨by rfl, ?_⟩) hHeld ?_
          rotate_left
          focus (intro z hSw; obtain ⟨q0, q1⟩ := hSw; go_simp; try with_reducible rfl)
          try simp only [Act.put, List.setIfInBounds_toArray, List.set_cons_zero, List.set_cons_succ]
          refine wpAnyH_take (i := 7) (oi := { dst := some 26, op := Op.move (Operand.tmp 4), type := 3, pos := "edges.go:22", after := #[], guard := none }) (v := ?_) rfl (by kernel_rfl) (by kernel_rfl) (by kernel_rfl) (fun _ _ _ h => h) (Or.inl ⟨by rfl, ?_⟩) hHeld ?_
          rotate_left
          focus (intro z hSw; clear hSw; go_simp; try with_reducible rfl)
          try simp only [Act.put, List.setIfInBounds_toArray, List.set_cons_zero, List.set_cons_succ]
          refine wpAnyH_ready (rs := [6]) (by kernel_rfl) (by simp) ?_
          refine AllReadyH.cons (o := { dst := some 25, op := Op.call { callee := Callee.value (Operand.func 40), args := #[Operand.tmp 24], argTypes := #[47] }, type := 3, pos := "edges.go:22", after := #[{ on := 5, ground := Ground.data }], guard := none }) rfl (fun K hK => ?_) AllReadyH.nil
          go_simp
          refine Calls.mono (HBH.out _) ?_
          rintro r w9 ⟨rfl, rfl⟩
          refine hK.out _ _ ?_ (fun hNext => ?_)
          · exact ⟨((Frm.refl [] _).alloc _).cell hHeld.1 (by simp), ((Frm.refl [] _).alloc _).cell hHeld.2 (by simp)⟩
          clear hK K hHeld
          have hHeld := hNext
          clear hNext
          have R9 := Lib.hid (((Frm.refl [] W8).drew).alloc (.cells #[.int .i64 y.1, .int .i64 y.2] 47))
          obtain ⟨W9, hW9⟩ : ∃ W9, W9 = W8.drew.alloc (.cells #[.int .i64 y.1, .int .i64 y.2] 47) := ⟨_, rfl⟩
          unfold W9x at HF9 HZ8
          rw [← hW9] at HF9 HZ8 R9 hHeld ⊢
          clear hW9
          try simp only [Act.put, List.setIfInBounds_toArray, List.set_cons_zero, List.set_cons_succ]
          refine wpAnyH_take (i := 8) (oi := { dst := some 27, op := Op.build 65 #[(0, Operand.tmp 25), (1, Operand.tmp 26)], type := 65, pos := "edges.go:22", after := #[{ on := 6, ground := Ground.data }, { on := 7, ground := Ground.data }], guard := none }) (v := ?_) rfl (by kernel_rfl) (by kernel_rfl) (by kernel_rfl) (fun _ _ _ h => h) (Or.inl ⟨by rfl, ?_⟩) hHeld ?_
          rotate_left
          focus (intro z hSw; clear hSw; go_simp; try with_reducible rfl)
          try simp only [Act.put, List.setIfInBounds_toArray, List.set_cons_zero, List.set_cons_succ]
          refine wpAnyH_ready (rs := [9]) (by kernel_rfl) (by simp) ?_
          refine AllReadyH.cons (o := { dst := some 28, op := Op.buildSlice 61 2 #[(0, Operand.tmp 23), (1, Operand.tmp 27)], type := 61, pos := "edges.go:22", after := #[{ on := 4, ground := Ground.data }, { on := 8, ground := Ground.data }], guard := none }) rfl (fun K hK => ?_) AllReadyH.nil
          go_simp
          refine hK.out _ _ ?_ (fun hNext => ?_)
          · exact ⟨((Frm.refl [] _).alloc _).cell hHeld.1 (by simp), ((Frm.refl [] _).alloc _).cell hHeld.2 (by simp)⟩
          clear hK K hHeld
          have hHeld := hNext
          clear hNext
          have HO10 := Lib.hid (O8.out.keep0 (R9.out.alloc (.cells #[.int .i64 y.1, .int .i64 i, .bool true, .int .i64 z, .int .i64 i, .bool false] 65)))
          have HS10 := Lib.hid (slD2 (x := (y.1, (i : Int), true)) (x2 := (z, (i : Int), false)) (heap_alloc_new W9 (.cells #[.int .i64 y.1, .int .i64 i, .bool true, .int .i64 z, .int .i64 i, .bool false] 65)))
          try simp only [Act.put, List.setIfInBounds_toArray, List.set_cons_zero, List.set_cons_succ]
          refine wpAnyH_ready (rs := [10]) (by kernel_rfl) (by simp) ?_
          refine AllReadyH.cons (o := { dst := some 29, op := Op.call { callee := Callee.builtin Builtin.append, args := #[Operand.tmp 19, Operand.tmp 28], argTypes := #[61, 61] }, type := 61, pos := "edges.go:22", after := #[{ on := 0, ground := Ground.data }, { on := 9, ground := Ground.data }, { on := 6, ground := Ground.chain }], guard := none }) rfl (fun K hK => ?_) AllReadyH.nil
          refine step_append_n encD tysD HO10.out HS10.out (nn := nn + 2) rfl hnb (by omega) rfl (.tmp 19) (.tmp 28) rfl rfl rfl ?_
          intro a5 c5 w5 sp5 o5 f5 b5
          refine hK.out _ _ ?_ (fun hNext => ?_)
          · exact ⟨f5.cell hHeld.1 HNG.out, f5.cell hHeld.2 HNG.out⟩
          clear hK K hHeld
          have hHeld := hNext
          clear hNext
          try simp only [Act.put, List.setIfInBounds_toArray, List.set_cons_zero, List.set_cons_succ]
          refine wpAnyH_take (i := 11) (oi := { dst := some 3, op := Op.assign (Operand.tmp 29), type := 61, pos := "edges.go:22", after := #[{ on := 10, ground := Ground.data }, { on := 10, ground := Ground.chain }, { on := 0, ground := Ground.phase }, { on := 1, ground := Ground.phase }, { on := 2, ground := Ground.phase }, { on := 3, ground := Ground.phase }, { on := 4, ground := Ground.phase }, { on := 5, ground := Ground.phase }, { on := 6, ground := Ground.phase }, { on := 7, ground := Ground.phase }, { on := 8, ground := Ground.phase }, { on := 9, ground := Ground.phase }, { on := 10, ground := Ground.phase }], guard := none }) (v := ?_) rfl (by kernel_rfl) (by kernel_rfl) (by kernel_rfl) (fun _ _ _ h => h) (Or.inl ⟨by rfl, ?_⟩) hHeld ?_
          rotate_left
          focus (intro z hSw; clear hSw; go_simp; try with_reducible rfl)
          try simp only [Act.put, List.setIfInBounds_toArray, List.set_cons_zero, List.set_cons_succ]
          refine wpAnyH_done (by kernel_rfl) ?_ _
          have HO5 := Lib.hid (show OwnD w5 (.slice a5 (nn + 2) c5) (h ++ eds (i : Int) (q.take (k + 1))) sp5 by rw [HTS.out, ← List.append_assoc]; exact o5)
          have HF5 := Lib.hid (HF9.out _ f5)
          have HB5 := Lib.hid (show ∀ j ∈ blk (.slice a5 (nn + 2) c5), w.heap.size ≤ j from fun j hj => by
            rcases b5 j hj with h | h
            · exact N4.out j h
            · exact Nat.le_trans HZ8.out h)
          clear o5 f5 b5 hHeld
          go_wp2_with fail
          go_roundw
          case rel => exact ⟨k + 1, sp5, by omega, by go_num, HO5.out, HB5.out, HF5.out⟩
          case measure => simp [intOf]; omega
        · obtain rfl : k = q.length := by omega
          rw [List.take_length] at o nb ⊢
          have HO6 := Lib.hid o
          have HN6 := Lib.hid nb
          have HF6 := Lib.hid f
          clear o nb f hlen
          generalize (h ++ eds (i : Int) q).length = nn at *
          go_wp2_with fail
          go_roundw
          case rel => exact ⟨i + 1, sp3, by omega, by go_num, by rw [HNX.out]; exact HO6.out, HN6.out, HF6.out⟩
          case measure => simp [intOf]; omega
    · obtain rfl : i = 2 := by omega
      simp only [show ¬ (2 : Nat) = 0 by decide, show ¬ (2 : Nat) = 1 by decide, if_false] at o
      have hle : (eds 0 l ++ eds 1 m).length ≤ 1000000 := by
        have h1 := HG.out.len
        have h2 := HGM.out.len
        rw [List.length_append, eds_length, eds_length]; omega
      have HSD := Lib.hid (SortD_any _ _ sp2 wr o hle)
      have N := Lib.hid nb
      have F := Lib.hid f
      clear o nb f
      go_wp2_with (go_at_call 53; refine Calls.mono (HSD.out) ?_; rintro r w2 ⟨rfl, es, hp, hu, o2, f2⟩)
      go_ret
      exact ⟨_, es, sp2, rfl, hp, hu, o2, F.out.trans f2 (fun j hj => .inr (N.out j hj)), N.out⟩
end Go.Proofs.Ytgbgpmdhlocjhaa
