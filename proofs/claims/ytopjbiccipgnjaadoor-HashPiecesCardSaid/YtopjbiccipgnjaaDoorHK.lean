/-
  Contract of Fill: the pieces of bytes, filled up; no conditions but those that each theorem names.
-/
import Derived.Test.YtopjbiccipgnjaaDoorHJ
import Derived.OrdersHeld
namespace Go.Proofs.YtopjbiccipgnjaaDoor
open Go.RowKit
set_option linter.unusedVariables false
set_option linter.unusedSimpArgs false
attribute [local go_sem] Oper.semAt_some

/-- An own row of own rows of bytes, no two of which share a block; all of it from 'lo' on. -/
structure OwnL (lo : Nat) (w : World) (v : Value) (ls : List (List UInt8)) : Prop where
  ex : ∃ vs sp, Own 22 1 w v ls.length vs sp ∧ (∀ (i : Nat) (h : i < ls.length), ∃ u sp', vs[i]? = some u ∧ OwnB 5 w u ls[i] sp' ∧ (∃ a cap, u = .slice a ls[i].length cap) ∧ ∀ k ∈ blk u, lo ≤ k ∧ k ∉ blk v) ∧
    (∀ k ∈ blk v, lo ≤ k) ∧ ∀ (i j : Nat) (u u' : Value), i ≠ j → vs[i]? = some u → vs[j]? = some u' → ∀ k ∈ blk u, k ∉ blk u'
theorem OwnL.keep {lo : Nat} {w w' : World} {v : Value} {ls : List (List UInt8)} {L : List Nat} (h : OwnL lo w v ls) (f : Frm L w w') (hL : ∀ k ∈ L, k < lo ∨ w.heap.size ≤ k) : OwnL lo w' v ls := by
  obtain ⟨vs, sp, h1, h2, h3, h4⟩ := h.ex
  refine ⟨vs, sp, h1.keep f (fun k hk hm => ?_), fun i hi => ?_, h3, h4⟩
  · have := h1.lt k hk
    have := h3 k hk
    rcases hL k hm with h | h <;> omega
  · obtain ⟨u, sp', g1, g2, g3, g4⟩ := h2 i hi
    refine ⟨u, sp', g1, g2.keep f (fun k hk hm => ?_), g3, g4⟩
    have := g2.lt k hk
    have := (g4 k hk).1
    rcases hL k hm with h | h <;> omega
theorem OwnL.nil (lo : Nat) (w : World) : OwnL lo w (.slice none 0 0) [] :=
  ⟨[], [], Own.nil _ _ _, fun i h => by simp at h, by simp [blk], fun i j u u' _ h => by simp at h⟩
theorem OwnL.form {lo : Nat} {w : World} {v : Value} {ls : List (List UInt8)} (h : OwnL lo w v ls) : ∃ a cap, v = .slice a ls.length cap ∧ ls.length ≤ cap ∧ cap ≤ maxLen := by
  obtain ⟨vs, sp, h1, _⟩ := h.ex
  exact h1.sl.form
theorem u25 : Tryd.prog.underlying 25 = some (.slice 22) := Tryd.underlying25
theorem i22 : (Tryd.prog.info? 22).map (fun i => (i.zero, i.size, i.bytes)) = some (some (.slice none 0 0), 1, 24) := by kernel_rfl
/-- One row more. -/
theorem append_list {lo : Nat} {w0 w : World} {v x : Value} {ls : List (List UInt8)} {l sp : List UInt8} {gb : Nat} (ty : TypeId) (h0 : OwnL lo w0 v ls) (f : Frm [] w0 w) (hlo : lo ≤ w0.heap.size) (hx : OwnB 5 w x l sp) (hxf : ∃ a cap, x = .slice a l.length cap)
    (hxk : ∀ k ∈ blk x, w0.heap.size ≤ k) (hb : w.heap[gb]? = some (.cells #[x] 22 (0, 0))) (hn : ls.length ≤ 1000000) :
    ∃ v' w', (Builtin.append_ #[25, 25] ty #[v, .slice (some ⟨gb, 0, none⟩) 1 1]).run Tryd.prog w = .ok v' w' ∧ OwnL lo w' v' (ls ++ [l]) ∧ Frm (blk v) w w' := by
  obtain ⟨vs, spv, h10, h20, h3, h4⟩ := h0.ex
  have h1 : Own 22 1 w v ls.length vs spv := h10.keep f (by simp)
  have h2 : ∀ (i : Nat) (h : i < ls.length), ∃ u sp', vs[i]? = some u ∧ OwnB 5 w u ls[i] sp' ∧ (∃ a cap, u = .slice a ls[i].length cap) ∧ ∀ k ∈ blk u, lo ≤ k ∧ k ∉ blk v := fun i hi => by
    obtain ⟨u, sp', g1, g2, g3, g4⟩ := h20 i hi
    exact ⟨u, sp', g1, g2.keep f (by simp), g3, g4⟩
  have hlen0 : vs.length = ls.length := by have := h10.1; omega
  have key : ∀ (i : Nat) (u : Value), vs[i]? = some u → ∀ k ∈ blk u, k ∉ blk x := fun i u hu k hk hm => by
    have hil : i < ls.length := by
      rcases Nat.lt_or_ge i ls.length with h | h
      · exact h
      · rw [List.getElem?_eq_none (by omega)] at hu; cases hu
    obtain ⟨u2, sp', g1, g2, g3, g4⟩ := h20 i hil
    rw [hu] at g1; cases g1
    have := g2.lt k hk
    have := hxk k hm
    omega
  have hxl : ∀ k ∈ blk x, lo ≤ k ∧ k ∉ blk v := fun k hk => ⟨by have := hxk k hk; omega, fun hm => by have := hxk k hk; have := h10.lt k hm; omega⟩
  have hlo' : lo ≤ w.heap.size := Nat.le_trans hlo f.size
  obtain ⟨i, hi, hz, hs, hby⟩ := info_parts i22
  have hxc : x.oneCell' = true := by obtain ⟨a, cap, rfl⟩ := hxf; rfl
  have hsrc : Src Tryd.prog 1 25 (.slice (some ⟨gb, 0, none⟩) 1 1) 1 [x] w :=
    Src.ofSlice w u25 _ 1 1 [x] rfl (fun j u hu => by rw [add_plain, cell_of_heap hb]; simpa using hu) (fun u hu => by simp at hu; subst hu; exact hxc)
  obtain ⟨v', w', sp', r1, r2, r3, r4, r5⟩ := append_run (ty := ty) u25 hi hz hs hby rfl (by omega) h1 hsrc (by simp [maxLen]; omega) (by omega)
  have hlen : vs.length = ls.length := by have := h1.1; omega
  have hbl : ∀ k ∈ blk v', lo ≤ k := fun k hk => by
    rcases r4 with h | h
    · rw [h] at hk; exact h3 k hk
    · rw [h] at hk; simp at hk; omega
  have hne : ∀ u spu lu, OwnB 5 w u lu spu → (∀ k ∈ blk u, k ∉ blk v) → ∀ k ∈ blk u, k ∉ blk v' := fun u spu lu hu hd k hk => by
    rcases r4 with h | h
    · rw [h]; exact hd k hk
    · rw [h]; have := hu.lt k hk; simp; omega
  refine ⟨v', w', r1, ⟨vs ++ [x], sp', by simpa using r2, fun j hj => ?_, hbl, fun a b u u' hab ha hb => ?_⟩, r3⟩
  · by_cases hjl : j < ls.length
    · obtain ⟨u, spu, g1, g2, g3, g4⟩ := h2 j hjl
      rw [List.getElem_append_left hjl]
      exact ⟨u, spu, by rw [List.getElem?_append_left (by omega)]; exact g1, g2.keep r3 (fun k hk => (g4 k hk).2), g3, fun k hk => ⟨(g4 k hk).1, hne u spu _ g2 (fun k hk => (g4 k hk).2) k hk⟩⟩
    · obtain rfl : j = ls.length := by simp at hj; omega
      refine ⟨x, sp, by rw [List.getElem?_append_right (by omega)]; simp [hlen], ?_, ?_, fun k hk => ⟨(hxl k hk).1, hne x sp l hx (fun k hk => (hxl k hk).2) k hk⟩⟩
      · rw [List.getElem_append_right (by omega)]; simpa using hx.keep r3 (fun k hk => (hxl k hk).2)
      · rw [List.getElem_append_right (by omega)]; simpa using hxf
  · by_cases ha' : a < vs.length
    · rw [List.getElem?_append_left ha'] at ha
      by_cases hb' : b < vs.length
      · rw [List.getElem?_append_left hb'] at hb
        exact h4 a b u u' hab ha hb
      · rw [List.getElem?_append_right (by omega)] at hb
        have : u' = x := by
          rcases Nat.eq_zero_or_pos (b - vs.length) with h | h
          · rw [h] at hb; simpa using hb.symm
          · rw [List.getElem?_eq_none (by simp; omega)] at hb; cases hb
        subst this
        exact key a u ha
    · rw [List.getElem?_append_right (by omega)] at ha
      have hux : u = x := by
        rcases Nat.eq_zero_or_pos (a - vs.length) with h | h
        · rw [h] at ha; simpa using ha.symm
        · rw [List.getElem?_eq_none (by simp; omega)] at ha; cases ha
      have hal : a = vs.length := by
        rcases Nat.eq_zero_or_pos (a - vs.length) with h | h
        · omega
        · rw [List.getElem?_eq_none (by simp; omega)] at ha; cases ha
      subst hux
      by_cases hb' : b < vs.length
      · rw [List.getElem?_append_left hb'] at hb
        intro k hk hm
        exact key b u' hb k hm hk
      · rw [List.getElem?_append_right (by omega)] at hb
        have : b = vs.length := by
          rcases Nat.eq_zero_or_pos (b - vs.length) with h | h
          · omega
          · rw [List.getElem?_eq_none (by simp; omega)] at hb; cases hb
        omega
theorem Own.cellsB {T : TypeId} {s : Nat} {w : World} {v : Value} {n : Nat} {xs sp : List Value} (h : Own T s w v n xs sp) : ∀ k ∈ blk v, ∃ cs T' fr, w.heap[k]? = some (.cells cs T' fr) := by
  obtain ⟨h1, h2 | ⟨g, cap, h2, h3, h4, h5, h6⟩⟩ := h
  · obtain ⟨rfl, _⟩ := h2; simp [blk]
  · subst h2
    intro k hk
    simp [blk] at hk
    subst hk
    exact ⟨_, _, _, h6⟩
theorem OwnL.keepN {lo : Nat} {w w' : World} {v : Value} {ls : List (List UInt8)} {L : List Nat} (h : OwnL lo w v ls) (f : Frm L w w') (hL : ∀ k ∈ L, ∃ o : Obj, w.heap[k]? = some o ∧ o.isCells = false) : OwnL lo w' v ls := by
  obtain ⟨vs, sp, h1, h2, h3, h4⟩ := h.ex
  have key : ∀ k, (∃ cs T' fr, w.heap[k]? = some (.cells cs T' fr)) → k ∉ L := fun k ⟨cs, T', fr, hk⟩ hm => by
    obtain ⟨o, ho, hc⟩ := hL k hm
    rw [hk] at ho; cases ho; cases hc
  refine ⟨vs, sp, h1.keep f (fun k hk => key k (h1.cellsB k hk)), fun i hi => ?_, h3, h4⟩
  obtain ⟨u, sp', g1, g2, g3, g4⟩ := h2 i hi
  exact ⟨u, sp', g1, g2.keep f (fun k hk => key k (Own.cellsB g2 k hk)), g3, g4⟩
def fills (b : List UInt8) : List (List UInt8) := (List.range (pcs b.length)).map (pieceL (filled b))
def Filled (w : World) (b : List UInt8) (r : Ending) (w' : World) : Prop := ∃ v', r = .returned v' ∧ OwnL w.heap.size w' v' (fills b) ∧ Frm [] w w'
def FillI (w1 : World) (Bp : Nat) (L : List UInt8) (M : Nat) (pre : List (Idx M)) (W : World) : Prop :=
  (∃ v, W.heap[Bp]? = some (.cells #[v] 25 (0, 0)) ∧ OwnL w1.heap.size W v (pre.map fun x => pieceL L x.1)) ∧ Frm [Bp] w1 W
theorem fillI_own (w1 : World) (Bp : Nat) (L : List UInt8) (M : Nat) (hB : Bp < w1.heap.size) : OwnFrom w1.heap.size (FillI w1 Bp L M) := by
  intro pre W W' row ⟨⟨v, h1, h3⟩, h2⟩ hg hr
  have hf : Frm row.toList W W' := Frm.of_grown hg (fun k hk => by simp [hk])
  refine ⟨⟨v, hf.heap h1 (fun hm => ?_), h3.keepN hf (fun k hk => (hr k (by simpa using hk)).2)⟩, h2.trans hf (fun i hi => ?_)⟩
  · have := hr Bp (by simpa using hm)
    omega
  · exact .inr (hr i (by simpa using hi)).1
theorem OwnL.mono {lo lo' : Nat} {w : World} {v : Value} {ls : List (List UInt8)} (h : OwnL lo w v ls) (hlo : lo' ≤ lo) : OwnL lo' w v ls := by
  obtain ⟨vs, sp, h1, h2, h3, h4⟩ := h.ex
  refine ⟨vs, sp, h1, fun i hi => ?_, fun k hk => Nat.le_trans hlo (h3 k hk), h4⟩
  obtain ⟨u, sp', g1, g2, g3, g4⟩ := h2 i hi
  exact ⟨u, sp', g1, g2, g3, fun k hk => ⟨Nat.le_trans hlo (g4 k hk).1, (g4 k hk).2⟩⟩
theorem exec_load_cell {P : Program} {o : Oper} {a : Act} {w : World} (ty : TypeId) (x : Operand) (ho : o.op = .load ty x) (p : Addr) (hx : a.eval x = .pointer (some p)) (v : Value) (hc : w.cell? p = some v)
    (hn : (isAgg ty).run P w = .ok false w) : (execOp a.eval o).run P w = .ok (.value v) w := by
  unfold execOp
  simp only [ho, hx, Instr.loadAt, Instr.sureAddr, Sem.run_bind, Sem.run_pure, Result.andThen_ok]
  simp [loadVar, hn, go_sem, hc]
theorem wpAny_step {P : Program} {md : Region.Mode} {ops : Array Oper} {Q : Exit → Act → World → Prop} {fuel : Nat} {listed : Array Bool} {a : Act} {w : World} (rs : List Nat) (hr : Region.ready md ops listed = rs) (hne : rs ≠ [])
    (h : ∀ i ∈ rs, wpOp P ops Q i (wpAny P md ops Q fuel (listed.setIfInBounds i true)) a w) : wpAny P md ops Q (fuel + 1) listed a w := ⟨fun h0 => absurd (hr ▸ h0) hne, hr ▸ h⟩
theorem wpOp_of {P : Program} {ops : Array Oper} {Q : Exit → Act → World → Prop} {i : Nat} {o : Oper} {K : Act → World → Prop} {a : Act} {w : World} (ho : ops[i]? = some o) (hw : Region.wanted o (yielded ops a.tmps) = true) (h : o.wp P a w K Q) : wpOp P ops Q i K a w := by
  unfold wpOp
  rw [ho]
  simp only [hw, if_true]
  exact .inl h
theorem wp_val {P : Program} {Q : Exit → Act → World → Prop} {o : Oper} {K : Act → World → Prop} {a : Act} {w w' : World} {v : Value} (h : (execOp a.eval o).run P w = .ok (.value v) w') (k : K (a.put o.dst v) w') : o.wp P a w K Q := by
  unfold Oper.wp
  rw [h]
  exact k
theorem exec_append_list {P : Program} {o : Oper} {a : Act} {w w' : World} {v x u : Value} (s y : Operand) (hop : o.op = Op.call { callee := Callee.builtin Builtin.append, args := #[s, y], argTypes := #[25, 25] }) (hs : a.eval s = v) (hy : a.eval y = x)
    (h : (Builtin.append_ #[25, 25] o.type #[v, x]).run P w = .ok u w') : (execOp a.eval o).run P w = .ok (.value u) w' := by
  simp [execOp, hop, resolve, invoke, builtin, hs, hy, h, Result.andThen]
set_option maxRecDepth 100000 in
set_option maxHeartbeats 4000000 in
theorem Fill_any (v : Value) (b sp : List UInt8) (w : World) (hS : SlB w v b sp) (hb : b.length ≤ 1000000) :
    Calls Tryd.prog 11 #[v] w fun r w' => Filled w b r w' := by
  obtain ⟨a, cap, rfl, _, _⟩ := hS.form
  have HS := Lib.hid hS
  have hlen := pcs_len b
  have hpc : pcs b.length ≤ 100000 := by unfold pcs; omega
  have hb10 : b.length ≤ 10000000 := by omega
  have HL := Lib.hid hlen
  have HPC := Lib.hid hpc
  clear hS hlen hpc
  refine (callsIn_wide (n := 5)).1 ?_
  refine callsIn_of_wp_marks Tryd.func11 rfl trivial ?_ rfl
  simp only [Tryd.ntmps11, List.size_toArray, List.length_cons, List.length_nil, Nat.reduceAdd, Nat.reduceSub, Array.replicate_succ, Array.replicate_zero, List.push_toArray, List.append_toArray, List.nil_append, List.cons_append]
  refine wpIn_wide.2 ?_
  go_wp2_with fail
  refine (filledUp_any _ b sp _ (HS.out.keep ((Frm.refl [] w).alloc _) (by simp)) hb10).mono ?_
  rintro r w2 ⟨a2, cap2, sp2, rfl, o2, f2, g2⟩
  obtain ⟨g, rfl⟩ : ∃ g, a2 = some ⟨g, 0, none⟩ := by
    obtain ⟨h1, h2 | ⟨g, c, h2, _⟩⟩ := o2
    · have := h2.2.1; rw [HL.out] at this; unfold pcs at this; omega
    · cases h2; exact ⟨g, rfl⟩
  rw [HL.out] at o2 g2 ⊢
  have hcap : 64 * pcs b.length ≤ cap2 := by
    obtain ⟨h1, h2, h3⟩ := o2.caps
    have := HL.out
    omega
  have hgb : ¬ g = w.heap.size := by have := g2 g (by simp [blk]); simp at this; omega
  have HO := Lib.hid o2
  have HST := Lib.hid (f2.heap (heap_alloc_new w (.cells #[.slice none 0 0] 25)) (by simp))
  have HF2 := Lib.hid (((Frm.refl [] w).alloc (.cells #[.slice none 0 0] 25)).trans f2 (by simp))
  have HZ2 := Lib.hid (show w.heap.size < w2.heap.size by have := f2.size; simp at this; omega)
  have HCAP := Lib.hid hcap
  have HGB := Lib.hid hgb
  clear o2 g2 f2 hcap hgb
  go_wp2_with fail
  refine (Chunk_any _ _ _ _).mono ?_
  rintro r w3 ⟨rfl, rfl⟩
  have HST3 := Lib.hid (show ((w2.alloc (.cells #[.slice (some ⟨g, 0, none⟩) (64 * pcs b.length) cap2] 22)).alloc (.cells #[.int .i64 64] 3)).heap[w.heap.size]? = some (.cells #[.slice none 0 0] 25 (0, 0)) from heap_alloc_lt (heap_alloc_lt HST.out))
  have HC1 := Lib.hid (show ((w2.alloc (.cells #[.slice (some ⟨g, 0, none⟩) (64 * pcs b.length) cap2] 22)).alloc (.cells #[.int .i64 64] 3)).heap[w2.heap.size]? = some (.cells #[.slice (some ⟨g, 0, none⟩) (64 * pcs b.length) cap2] 22 (0, 0)) from heap_alloc_lt (heap_alloc_new _ _))
  have HC2 := Lib.hid (show ((w2.alloc (.cells #[.slice (some ⟨g, 0, none⟩) (64 * pcs b.length) cap2] 22)).alloc (.cells #[.int .i64 64] 3)).heap[w2.heap.size + 1]? = some (.cells #[.int .i64 64] 3 (0, 0)) from heap_alloc_at (by simp))
  have HF3 := Lib.hid ((HF2.out.alloc (.cells #[.slice (some ⟨g, 0, none⟩) (64 * pcs b.length) cap2] 22)).alloc (.cells #[.int .i64 64] 3))
  have HO3 := Lib.hid (HO.out.keep (((Frm.refl [] w2).alloc (.cells #[.slice (some ⟨g, 0, none⟩) (64 * pcs b.length) cap2] 22)).alloc (.cells #[.int .i64 64] 3)) (by simp))
  have HZ3 := Lib.hid (show ((w2.alloc (.cells #[.slice (some ⟨g, 0, none⟩) (64 * pcs b.length) cap2] 22)).alloc (.cells #[.int .i64 64] 3)).heap.size = w2.heap.size + 2 by simp)
  generalize ((w2.alloc (.cells #[.slice (some ⟨g, 0, none⟩) (64 * pcs b.length) cap2] 22)).alloc (.cells #[.int .i64 64] 3)) = W at *
  go_wp2_with fail
  have hz2 := HZ2.out
  have hz3 := HZ3.out
  refine (wpIn_wide (n := 5)).1 ?_
  refine wpIn_rangeFunc_ownF rfl (by decide) (gf := 45) (lb := #[.pointer (some ⟨w2.heap.size, 0, none⟩), .pointer (some ⟨w2.heap.size + 1, 0, none⟩)]) rfl trivial (Go.Proofs.enters_of Tryd.func45 (by kernel_rfl) rfl)
    (chunk_stops (5 - 1) (by decide) w2.heap.size (w2.heap.size + 1) g (pcs b.length) cap2 HCAP.out (by have := HPC.out; omega) W (by omega) (by omega) HC1.out HC2.out)
    ?kt ?kb (Below.refl _ _) (fun _ => rfl) (FillI W w.heap.size (filled b) (pcs b.length)) (fun _ _ _ => False) (fillI_own W w.heap.size (filled b) (pcs b.length) (by omega)) (fun _ _ _ _ _ hs _ _ => hs) ⟨⟨_, HST3.out, OwnL.nil _ _⟩, Frm.refl _ _⟩
    (fun x : Idx (pcs b.length) => { tmps := #[.slice a b.length cap, undef, .slice none 0 0, .pointer (some ⟨w.heap.size, 0, none⟩), pieceV g x.1, .slice a b.length cap, .slice (some ⟨g, 0, none⟩) (64 * pcs b.length) cap2, .func (.func 45) #[] #[.pointer (some ⟨w2.heap.size, 0, none⟩), .pointer (some ⟨w2.heap.size + 1, 0, none⟩)], pieceV g x.1, undef, undef, undef, undef, undef, undef], defers := [] }) ?assign ?body ?done ?stop
  case kt => intro A B C h k; exact ⟨k.1.trans h.1, k.2.trans h.2⟩
  case kb => intro W' l o o' hl h ho hw; exact ⟨World.putObj_heap_other (by omega), World.putObj_heap_other (by omega)⟩
  case assign =>
    intro l x W' K hK
    gi_wp2
    exact hK
  case body =>
    rintro l pre x W' ⟨⟨v1, c1, hl1⟩, h2⟩ hlen
    have hpl : (pre.map fun x => pieceL (filled b) x.1).length = pre.length := by simp
    have hpn : pre.length ≤ 1000000 := by have := HPC.out; omega
    have hxl : 64 * x.1 + 64 ≤ (filled b).length := by have := x.2; have := HL.out; omega
    have hOW := HO3.out.keep h2 (by simp [blk]; exact HGB.out)
    have hpc64 : (pieceL (filled b) x.1).length = 64 := by simp [pieceL]; omega
    have hSx : SlB W' (.slice (some ⟨g, 64 * x.1, none⟩) 64 64) (pieceL (filled b) x.1) [] := by
      refine ⟨by simp [bvs_length], .inr (.inr ⟨g, 64 * x.1, 64, by rw [hpc64], by omega, by simp [maxLen], by simp [bvs_length, hpc64, bvs], fun i u hu => ?_⟩)⟩
      have hh := hOW.heap
      rw [cell_of_heap hh, List.getElem?_toArray, bvs_get]
      rw [show bvs ([] : List UInt8) = [] from rfl, List.append_nil, bvs_get] at hu
      rw [← hu]
      have hi : i < 64 := by
        rcases Nat.lt_or_ge i 64 with h | h
        · exact h
        · rw [List.getElem?_eq_none (by omega)] at hu; cases hu
      unfold pieceL
      rw [List.getElem?_take_of_lt hi, List.getElem?_drop, List.getElem?_append_left (by omega)]
    have hc : W'.cell? ⟨w.heap.size, 0, none⟩ = some v1 := by rw [cell_of_heap c1]; rfl
    have hag : ∀ X, (isAgg 25).run Tryd.prog X = .ok false X := fun X => by kernel_rfl
    dsimp only [pieceV]
    refine wpIn_block ?_
    refine wpIn_round_region_any (by kernel_rfl) (inBlock_lets ownPostK_lets) (by kernel_rfl) ?_
    change wpAny _ _ _ _ _ _ _ (World.drew _)
    generalize hQ : Exit.inBlock 1 (ownPostK (KpB w2.heap.size (w2.heap.size + 1)) (FillI W w.heap.size (filled b) (pcs b.length)) (fun _ _ _ => False) (pre ++ [x]) W') = Qb
    generalize hops : List.toArray [_, _, _, _, _, _] = ops
    have tail : ∀ (x4 : Value) (w5 : World) (gb : Nat), w5.heap[gb]? = some (.cells #[x4] 22 (0, 0)) → Frm [] W'.drew w5 → (∃ sp4, OwnB 5 w5 x4 (pieceL (filled b) x.1) sp4) → (∃ a cap, x4 = .slice a (pieceL (filled b) x.1).length cap) → (∀ k ∈ blk x4, W'.drew.heap.size ≤ k) →
        wpAny Tryd.prog .any ops Qb 2 #[true, true, true, true, false, false] { tmps := #[.slice a b.length cap, undef, .slice none 0 0, .pointer (some ⟨w.heap.size, 0, none⟩), .slice (some ⟨g, 64 * x.1, none⟩) 64 64, .slice a b.length cap, .slice (some ⟨g, 0, none⟩) (64 * pcs b.length) cap2, .func (.func 45) #[] #[.pointer (some ⟨w2.heap.size, 0, none⟩), .pointer (some ⟨w2.heap.size + 1, 0, none⟩)], .slice (some ⟨g, 64 * x.1, none⟩) 64 64, v1, .slice (some ⟨g, 64 * x.1, none⟩) 64 64, x4, .slice (some ⟨gb, 0, none⟩) 1 1, undef, undef], defers := [] } w5 := by
      intro x4 w5 gb hg5 hf5 ⟨sp4, ho4⟩ hxf hxk
      subst hops
      have hsz2 := h2.size
      have hl0 : OwnL W.heap.size W'.drew v1 (pre.map fun x => pieceL (filled b) x.1) := hl1.keep ((Frm.refl [] W').drew) (by simp)
      obtain ⟨v6, w6, hrun, hl6, hf6⟩ := append_list (lo := W.heap.size) (gb := gb) 25 hl0 hf5 hsz2 ho4 hxf hxk hg5 (by rw [hpl]; exact hpn)
      obtain ⟨a6, c6, hv6, _, _⟩ := hl6.form
      obtain ⟨n6, hn6⟩ : ∃ n, ((pre.map fun x => pieceL (filled b) x.1) ++ [pieceL (filled b) x.1]).length = n := ⟨_, rfl⟩
      rw [hn6] at hv6
      subst hv6
      have hvb : ∀ k ∈ blk v1, W.heap.size ≤ k := by obtain ⟨_, _, _, _, h3, _⟩ := hl1.ex; exact h3
      have hz2 := HZ2.out
      have hz3 := HZ3.out
      have hBp : w.heap.size ∉ blk v1 := fun hm => by have := hvb _ hm; omega
      have hb5 : w5.heap[w.heap.size]? = some (.cells #[v1] 25 (0, 0)) := hf5.heap c1 (by simp)
      have hb6 := hf6.heap hb5 hBp
      have cb : w6.cell? ⟨w.heap.size, 0, none⟩ = some v1 := by rw [cell_of_heap hb6]; rfl
      have zb : w6.frozen? ⟨w.heap.size, 0, none⟩ = false := frozen_of_heap hb6 0
      have hf7 : Frm (w.heap.size :: blk v1) W' (w6.setCell ⟨w.heap.size, 0, none⟩ (.slice a6 n6 c6)) := ((((Frm.refl [] W').drew.trans hf5 (by simp)).mono (by simp)).trans hf6 (fun i hi => .inl (List.mem_cons_of_mem _ hi))).setCell _ _ (.inl (by simp))
      have hfin : ownPostK (KpB w2.heap.size (w2.heap.size + 1)) (FillI W w.heap.size (filled b) (pcs b.length)) (fun _ _ _ => False) (pre ++ [x]) W' .normal { tmps := #[], defers := [] } (w6.setCell ⟨w.heap.size, 0, none⟩ (.slice a6 n6 c6)) := by
        refine ⟨⟨hf7.size, fun k o hk ho => hf7.heap hk (fun hm => ?_)⟩, ⟨hf7.block _ (by omega) (fun hm => ?_), hf7.block _ (by omega) (fun hm => ?_)⟩, ⟨.slice a6 n6 c6, ?_, ?_⟩, h2.trans hf7 (fun i hi => ?_)⟩
        · rcases List.mem_cons.1 hm with rfl | hm
          · rw [show W'.heap[w.heap.size]? = _ from c1] at hk; cases hk; cases ho
          · obtain ⟨vs, sp, h10, _⟩ := hl1.ex
            obtain ⟨cs, T, fr, hcs⟩ := h10.cellsB k hm
            rw [hcs] at hk; cases hk; cases ho
        · rcases List.mem_cons.1 hm with h | hm
          · omega
          · have := hvb _ hm; omega
        · rcases List.mem_cons.1 hm with h | hm
          · omega
          · have := hvb _ hm; omega
        · rw [heap_setCell_same _ hb6]; rfl
        · rw [List.map_append, List.map_cons, List.map_nil]
          exact hl6.keep ((Frm.refl [w.heap.size] _).setCell _ _ (by simp)) (fun k hk => by simp at hk; subst hk; exact .inl (by omega))
        · rcases List.mem_cons.1 hi with rfl | h
          · exact .inl (by simp)
          · exact .inr (hvb i h)
      have HFIN := Lib.hid hfin
      refine wpAny_step [4] (by kernel_rfl) (by simp) (fun i hi => ?_)
      obtain rfl : i = 4 := by simpa using hi
      refine wpOp_of rfl rfl (wp_val (exec_append_list (.tmp 9) (.tmp 12) rfl rfl rfl hrun) ?_)
      refine wpAny_step [5] (by kernel_rfl) (by simp) (fun i hi => ?_)
      obtain rfl : i = 5 := by simpa using hi
      refine wpOp_of rfl rfl ?_
      clear hfin hrun hl6 hf6 hf7 hb5 hb6 hl0 hvb hBp hn6
      go_simp
      refine ⟨by kernel_rfl, ?_⟩
      rw [← hQ]
      exact HFIN.out
    have hcl : ∀ X, Frm [] W' X → X.cell? ⟨w.heap.size, 0, none⟩ = some v1 := fun X fX => fX.cell hc (by simp)
    have fd : Frm [] W' W'.drew := (Frm.refl [] W').drew
    have TAIL := Lib.hid tail
    have HSX := Lib.hid hSx
    have H64 := Lib.hid hpc64
    have R012 : ∀ (x4 : Value) (w4 : World), Frm [] W'.drew w4 → (∃ sp4, OwnB 5 w4 x4 (pieceL (filled b) x.1) sp4) → (∃ a cap, x4 = .slice a (pieceL (filled b) x.1).length cap) → (∀ k ∈ blk x4, W'.drew.heap.size ≤ k) →
        wpAny Tryd.prog .any ops Qb 3 #[true, true, true, false, false, false] { tmps := #[.slice a b.length cap, undef, .slice none 0 0, .pointer (some ⟨w.heap.size, 0, none⟩), .slice (some ⟨g, 64 * x.1, none⟩) 64 64, .slice a b.length cap, .slice (some ⟨g, 0, none⟩) (64 * pcs b.length) cap2, .func (.func 45) #[] #[.pointer (some ⟨w2.heap.size, 0, none⟩), .pointer (some ⟨w2.heap.size + 1, 0, none⟩)], .slice (some ⟨g, 64 * x.1, none⟩) 64 64, v1, .slice (some ⟨g, 64 * x.1, none⟩) 64 64, x4, undef, undef, undef], defers := [] } w4 := by
      intro x4 w4 f4 ⟨sp4, o4⟩ hxf hxk
      have HT := Lib.hid (TAIL.out x4 (w4.alloc (.cells #[x4] 22)) w4.heap.size (heap_alloc_new _ _) (f4.alloc _) ⟨sp4, o4.keep ((Frm.refl [] w4).alloc _) (by simp)⟩ hxf hxk)
      obtain ⟨a4, cap4, rfl⟩ := hxf
      subst hops
      refine wpAny_step [3] (by kernel_rfl) (by simp) (fun i hi => ?_)
      obtain rfl : i = 3 := by simpa using hi
      refine wpOp_of rfl rfl ?_
      clear hc hag hcl tail TAIL hSx hOW c1 hl1 h2 o4 hxk hpc64
      go_simp
      exact HT.out
    have hclone : Calls Tryd.prog 36 #[.slice (some ⟨g, 64 * x.1, none⟩) 64 64] W'.drew fun r w' => Cloned W'.drew (pieceL (filled b) x.1) r w' := Clone_any _ (pieceL (filled b) x.1) [] _ (hSx.keep fd (by simp)) (by omega)
    have P2 : wpAny Tryd.prog .any ops Qb 4 #[true, true, false, false, false, false] { tmps := #[.slice a b.length cap, undef, .slice none 0 0, .pointer (some ⟨w.heap.size, 0, none⟩), .slice (some ⟨g, 64 * x.1, none⟩) 64 64, .slice a b.length cap, .slice (some ⟨g, 0, none⟩) (64 * pcs b.length) cap2, .func (.func 45) #[] #[.pointer (some ⟨w2.heap.size, 0, none⟩), .pointer (some ⟨w2.heap.size + 1, 0, none⟩)], .slice (some ⟨g, 64 * x.1, none⟩) 64 64, v1, .slice (some ⟨g, 64 * x.1, none⟩) 64 64, undef, undef, undef, undef], defers := [] } W'.drew := by
      subst hops
      refine wpAny_step [2] (by kernel_rfl) (by simp) (fun i hi => ?_)
      obtain rfl : i = 2 := by simpa using hi
      refine wpOp_of rfl rfl ?_
      have HR := Lib.hid R012
      clear hc hag hcl tail hSx hOW c1 hl1 h2 R012
      go_simp
      refine hclone.mono ?_
      rintro r w4 ⟨a4, cap4, sp4, rfl, o4, f4, n4⟩
      exact HR.out _ w4 f4 ⟨sp4, o4⟩ ⟨_, _, rfl⟩ n4
    have HP2 := Lib.hid P2
    have HR := Lib.hid R012
    clear P2 R012 tail
    subst hops
    refine wpAny_step [0, 1] (by kernel_rfl) (by simp) (fun i hi => ?_)
    rcases (by simpa using hi : i = 0 ∨ i = 1) with rfl | rfl
    · refine wpOp_of rfl rfl (wp_val (exec_load_cell 25 (.tmp 3) rfl ⟨w.heap.size, 0, none⟩ rfl v1 (hcl _ fd) (hag _)) ?_)
      refine wpAny_step [1] (by kernel_rfl) (by simp) (fun i hi => ?_)
      obtain rfl : i = 1 := by simpa using hi
      refine wpOp_of rfl rfl (wp_val rfl ?_)
      exact HP2.out
    · refine wpOp_of rfl rfl (wp_val rfl ?_)
      refine wpAny_step [0, 2] (by kernel_rfl) (by simp) (fun i hi => ?_)
      rcases (by simpa using hi : i = 0 ∨ i = 2) with rfl | rfl
      · refine wpOp_of rfl rfl (wp_val (exec_load_cell 25 (.tmp 3) rfl ⟨w.heap.size, 0, none⟩ rfl v1 (hcl _ fd) (hag _)) ?_)
        exact HP2.out
      · refine wpOp_of rfl rfl ?_
        have HCL := Lib.hid hcl
        clear hc hSx hOW c1 hl1 h2 hcl hpc64
        go_simp
        refine hclone.mono ?_
        rintro r w4 ⟨a4, cap4, sp4, rfl, o4, f4, n4⟩
        refine wpAny_step [0, 3] (by kernel_rfl) (by simp) (fun i hi => ?_)
        rcases (by simpa using hi : i = 0 ∨ i = 3) with rfl | rfl
        · refine wpOp_of rfl rfl (wp_val (exec_load_cell 25 (.tmp 3) rfl ⟨w.heap.size, 0, none⟩ rfl v1 (HCL.out _ (fd.trans f4 (by simp))) (hag _)) ?_)
          exact HR.out _ w4 f4 ⟨sp4, o4⟩ ⟨_, _, rfl⟩ n4
        · refine wpOp_of rfl rfl ?_
          have HT := Lib.hid (TAIL.out _ (w4.alloc (.cells #[.slice a4 (pieceL (filled b) x.1).length cap4] 22)) w4.heap.size (heap_alloc_new _ _) (f4.alloc _) ⟨sp4, o4.keep ((Frm.refl [] w4).alloc _) (by simp)⟩ ⟨_, _, rfl⟩ n4)
          go_simp
          refine wpAny_step [0] (by kernel_rfl) (by simp) (fun i hi => ?_)
          obtain rfl : i = 0 := by simpa using hi
          refine wpOp_of rfl rfl (wp_val (exec_load_cell 25 (.tmp 3) rfl ⟨w.heap.size, 0, none⟩ rfl v1 (HCL.out _ ((fd.trans f4 (by simp)).alloc _)) (hag _)) ?_)
          exact HT.out
  case done =>
    rintro D xs W' hD hxs ⟨⟨v1, c1, hl1⟩, h2⟩ hK
    have hfl : (xs.map fun x => pieceL (filled b) x.1) = fills b := by
      unfold fills
      rw [← hxs, List.map_map]
      rfl
    rw [hfl] at hl1
    obtain ⟨a1, cap1, rfl, _, _⟩ := hl1.form
    have hc : W'.cell? ⟨w.heap.size, 0, none⟩ = some (.slice a1 (fills b).length cap1) := by rw [cell_of_heap c1]; rfl
    have hf : Frm [D] W' (W'.putObj D (.deferred none)) := Frm.of_grown (grownBy_putObj' W' D (.deferred none)) (fun k e => by cases e; simp)
    have hres : Filled w b (.returned (.slice a1 (fills b).length cap1)) (W'.putObj D (.deferred none)) :=
      ⟨_, rfl, (hl1.keepN hf (fun k hk => by simp at hk; subst hk; exact ⟨_, hK, rfl⟩)).mono (by omega), (HF3.out.trans h2 (fun i hi => by simp at hi; subst hi; exact .inr (by omega))).trans hf (fun i hi => by simp at hi; subst hi; exact .inr (by omega))⟩
    have HRES := Lib.hid hres
    have HK := Lib.hid hK
    clear hxs h2 hK c1 hl1 hfl hf hres hD
    generalize (fills b).length = nf at *
    simp only [Exit.inBlock, Exit.then]
    go_wp2_with fail
    refine ⟨by simp, .inl ⟨_, _, rfl, run_takeDeferred HK.out, ?_⟩⟩
    refine ⟨_, results_tmp rfl _ _ _, ?_⟩
    exact HRES.out
  case stop =>
    rintro D c pre W' _ _ h _
    exact h.elim
end Go.Proofs.YtopjbiccipgnjaaDoor
