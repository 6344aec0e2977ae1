/-
  Contract of Pool. No conditions but those that each theorem names.
-/
import Derived.Test.YtcnjjcnmjmcoiaaGreatDoorMA
import Derived.Test.YtcnjjcnmjmcoiaaGreatDoorLK
namespace Go.Proofs.YtcnjjcnmjmcoiaaGreatDoor
open Go.RowKit Go.Maps
set_option linter.unusedVariables false
set_option linter.unusedSimpArgs false
set_option maxRecDepth 100000

open Kr (OwnE SlE Enco RowTys)
theorem exec_loadL {o : Oper} {a : Act} {w : World} {x : Operand} (ho : o.op = .load 28 x) {g off : Nat} {l : Lab} (hl : l.pool.length = 32) (hx : a.eval x = .pointer (some ⟨g, off, none⟩)) (hg : ∀ i u, (lc l)[i]? = some u → w.cell? ⟨g, off + i, none⟩ = some u) :
    (execOp a.eval o).run Tryz.prog w = .ok (.value (lv l)) w :=
  Hs.exec_load_row 28 x ho g off hx (lc l) _ hg Tryz.underlying28 rfl (by rw [i28, lc_length hl])
theorem ownsMap_frm {w w' : World} {L : List Nat} {b nn : Nat} {D : DataW Unit} (h : w.ownsMap Tryz.prog 26 (plainElem (H := Unit) Tryz.prog 3) b nn D) (f : Frm L w w') (hb : b ∉ L) : w'.ownsMap Tryz.prog 26 (plainElem (H := Unit) Tryz.prog 3) b nn D := by
  obtain ⟨es, clock, h1, rest⟩ := h
  exact ⟨es, clock, f.heap h1 hb, rest⟩
theorem run_load26 {w : World} {g : Nat} {l : Lab} (hl : l.pool.length = 32) (h : w.heap[g]? = some (.cells (lc l).toArray 28 (0, 0))) : (Instr.loadAt 26 (.pointer (some ⟨g, 0, none⟩))).run Tryz.prog w = .ok (idv l.pool) w := by
  simp only [Instr.loadAt, Instr.sureAddr, Sem.run_bind, Sem.run_pure, Result.andThen_ok]
  refine Hs.run_loadVar_off w g 0 26 (bvs l.pool) _ (fun i u hu => ?_) Tryz.underlying26 rfl (by rw [i26]; simp [bvs_length, hl])
  have hi : i < (bvs l.pool).length := by
    rcases Nat.lt_or_ge i (bvs l.pool).length with h | h
    · exact h
    · rw [List.getElem?_eq_none h] at hu; cases hu
  rw [Nat.zero_add, cell_of_heap h, List.getElem?_toArray]
  unfold lc
  rw [List.getElem?_append_left hi]
  exact hu
theorem exec_ld_run {o : Oper} {a : Act} {w : World} {x : Operand} {p v : Value} (ho : o.op = .load 26 x) (hx : a.eval x = p) (h : (Instr.loadAt 26 p).run Tryz.prog w = .ok v w) : (execOp a.eval o).run Tryz.prog w = .ok (.value v) w := by
  subst hx
  unfold execOp
  simp only [ho, Sem.run_bind, Sem.run_pure, h, Result.andThen_ok]
theorem idsOf_take (ls : List LabT) (i : Nat) (hi : i < ls.length) : idsOf (ls.take (i + 1)) = idsOf (ls.take i) ++ (if mayB ls[i].1 then [⟨ls[i].1.pool, ls[i].2⟩] else []) := by
  rw [← idsOf_snoc, List.take_append_getElem hi]
/-- How far the labels are counted. -/
def Cntd (b : Nat) (ls : List LabT) (W1 : World) (i : Nat) (wr : World) : Prop := i ≤ ls.length ∧ (∃ D nn, wr.ownsMap Tryz.prog 26 (plainElem (H := Unit) Tryz.prog 3) b nn D ∧ nn ≤ i ∧ CntD D (idsOf (ls.take i))) ∧ Frm [b] W1 wr
theorem exists_dedup : ∀ l : List IdT, ∃ S : List IdT, S.Nodup ∧ ∀ x, x ∈ S ↔ x ∈ l
  | [] => ⟨[], List.nodup_nil, fun x => Iff.rfl⟩
  | a :: l => by
    obtain ⟨S, h1, h2⟩ := exists_dedup l
    by_cases h : a ∈ S
    · exact ⟨S, h1, fun x => by rw [h2 x, List.mem_cons]; exact ⟨.inr, fun e => e.elim (fun e => e ▸ (h2 a).1 h) id⟩⟩
    · exact ⟨a :: S, List.nodup_cons.2 ⟨h, h1⟩, fun x => by rw [List.mem_cons, List.mem_cons, h2 x]⟩
theorem step_store26 {w : World} {ops : Array Oper} {o : Oper} {a : Act} {K : Act → World → Prop} {Q : Exit → Act → World → Prop} {E : Prop} {B : Nat} {s t : List UInt8}
    (hg : o.guard = none) (x y : Operand) (ho : o.op = .store 26 x y) (ex : a.eval x = .pointer (some ⟨B, 0, none⟩)) (ey : a.eval y = idv s) (hs : s.length = 32) (ht : t.length = 32) (hB : w.heap[B]? = some (.cells (bvs t).toArray 26 (0, 0)))
    (k : ∀ w', w'.heap[B]? = some (.cells (bvs s).toArray 26 (0, 0)) → Frm [B] w w' → K (a.put o.dst undef) w') : if Region.wanted o (yielded ops a.tmps) = true then Oper.wp Tryz.prog o a w K Q else E := by
  rw [if_pos (by simp [Region.wanted, hg])]
  unfold Oper.wp
  rw [exec_store_row 26 x y ho B (bvs s).toArray ex ey 26 _ hB (by rw [i26]; simp [bvs_length, hs]) (by simp [bvs_length, hs, ht]) (all_oneCell_toArray (bvs_one s))]
  exact k _ (setRow_heap _ _ _ _ _ _ hB) ⟨rfl, rfl, rfl, by simp [World.setRow], fun k hk hn => setRow_other w B k _ (by simpa using hn)⟩
theorem look_cnt {W : World} {b nn : Nat} {D : DataW Unit} {S : List IdT} (h : W.ownsMap Tryz.prog 26 (plainElem (H := Unit) Tryz.prog 3) b nn D) (hC : CntD D S) (x : IdT) : (Instr.lookup 53 (.map (some b)) (vI x) false).run Tryz.prog W = .ok (.int .i64 (S.count x : Nat)) W := by
  obtain ⟨c, g1, g2, g3⟩ := h.lookup_int law26 Tryz.underlying53 Tryz.underlying3 (Tryz.zeroValue3 W) (key_I x)
  have hc : c = ((S.count x : Nat) : Int) := by
    have := g2.symm.trans (hC x).2
    simpa using this
  rw [← hc]; exact g1
theorem exec_loadI {o : Oper} {a : Act} {w : World} {x : Operand} (ho : o.op = .load 26 x) {g off : Nat} {s : List UInt8} (hs : s.length = 32) (hx : a.eval x = .pointer (some ⟨g, off, none⟩)) (hg : ∀ i u, (bvs s)[i]? = some u → w.cell? ⟨g, off + i, none⟩ = some u) :
    (execOp a.eval o).run Tryz.prog w = .ok (.value (idv s)) w :=
  Hs.exec_load_row 26 x ho g off hx (bvs s) _ hg Tryz.underlying26 rfl (by rw [i26]; simp [bvs_length, hs])
theorem loads26 {w : World} {g : Nat} {s : List UInt8} (hs : s.length = 32) (h : w.heap[g]? = some (.cells (bvs s).toArray 26 (0, 0))) : (Instr.loadAt 26 (.pointer (some ⟨g, 0, none⟩))).run Tryz.prog w = .ok (idv s) w :=
  run_loadAt_mid w g 0 26 (bvs s) _ (fun j u hu => by rw [Nat.zero_add, cell_of_heap h]; simpa using hu) d26 rfl (by rw [i26]; simp [bvs_length, hs])
theorem pair_take {K : List IdT} (h : K.Pairwise fun x y => ltI y x = false) (j : Nat) (hj : j < K.length) : ∀ y ∈ K.take j, ltI K[j] y = false := fun y hy => by
  obtain ⟨i, hi, rfl⟩ := List.getElem_of_mem hy
  rw [List.length_take] at hi
  rw [List.getElem_take]
  exact List.pairwise_iff_getElem.1 h i j (by omega) hj (by omega)
theorem exec_lk_run {o : Oper} {a : Act} {w : World} {m k : Operand} {vm vk v : Value} (ho : o.op = .lookup 53 m k false) (hm : a.eval m = vm) (hk : a.eval k = vk) (h : (Instr.lookup 53 vm vk false).run Tryz.prog w = .ok v w) : (execOp a.eval o).run Tryz.prog w = .ok (.value v) w := by
  subst hm
  subst hk
  unfold execOp
  simp only [ho, Sem.run_bind, Sem.run_pure, h, Result.andThen_ok]
/-- How far the IDs are compared. -/
def Cmpd (B : Nat) (S K : List IdT) (w4 : World) (j m : Nat) (t : List UInt8) (wr : World) : Prop := j ≤ K.length ∧ m ≤ 100000000 ∧ t.length = 32 ∧ wr.heap[B]? = some (.cells (bvs t).toArray 26 (0, 0)) ∧ Bst S (K.take j) t m ∧ (m = 0 → t = ids0) ∧ Frm [B] w4 wr
set_option maxHeartbeats 4000000 in
theorem Pool_any (v : Value) (ls : List LabT) (sp : List Value) (w : World) (hS : SlE eL 37 w v ls sp) (hl : ls.length ≤ 1000000) :
    Calls Tryz.prog 13 #[v] w fun r w' => ∃ p, PoolR (idsOf ls) p ∧ r = .returned (.tuple #[idv p.1, .bool p.2]) ∧ Frm [] w w' := by
  have hmm := @run_makeMap Tryz.prog
  obtain ⟨a0, c0, rfl, hc1, hc2⟩ := hS.form
  have f0 : Frm [] w (w.alloc (.cells (bvs ids0).toArray 26)) := (Frm.refl [] w).alloc _
  have h0 := heap_alloc_new w (.cells (bvs ids0).toArray 26)
  have HS := Lib.hid (hS.keep0 f0)
  have hbl : ∀ i ∈ blk (.slice a0 ls.length c0), 0 < ls.length → i < w.heap.size := fun i hi hp => SlE.blk_lt encL hS hp i hi
  have HBL := Lib.hid hbl
  clear hS hbl
  go_enter Tryz.func13, Tryz.ntmps13
  go_upto_region 1 with ((with_reducible (show wpList _ _ _ (Oper.mk _ (Op.alloc 26) _ _ _ _ :: _) _ _)); refine wpList_val rfl (alloc26' rfl _) ?_)
  have F0 := Lib.hid f0
  have H0 := Lib.hid h0
  clear f0 h0
  generalize w.alloc (.cells (bvs ids0).toArray 26) = W0 at *
  obtain ⟨R, hR⟩ : ∃ R, w.heap.size = R := ⟨_, rfl⟩
  rw [hR] at H0 HBL ⊢
  have HR := Lib.hid hR
  have ZR := Lib.hid (lt_heap H0.out)
  clear hR
  have f1 : Frm [] W0 (W0.alloc (.map #[] 0)) := (Frm.refl [] W0).alloc _
  have OW := Lib.hid (World.ownsMap_made W0 Tryz.prog 26 (plainElem (H := Unit) Tryz.prog 3))
  have F1 := Lib.hid (F0.out.trans f1 (by simp))
  have H1 := Lib.hid (f1.heap H0.out (by simp))
  have HS1 := Lib.hid (HS.out.keep0 f1)
  have HZ := Lib.hid (show (W0.alloc (.map #[] 0)).heap.size = W0.heap.size + 1 by simp)
  clear HS
  go_wp2_with fail
  generalize W0.alloc (.map #[] 0) = W1 at *
  obtain ⟨b, hb⟩ : ∃ b, W0.heap.size = b := ⟨_, rfl⟩
  have ZB0 := Lib.hid hb
  rw [hb] at OW HZ ZR ⊢
  clear hb f1 F0 H0
  have hll := Lib.hid hl
  have hc1' := Lib.hid hc1
  have hc2' := Lib.hid hc2
  clear hc1 hc2
  go_loopw [14] (fun c wr => ∃ i : Nat, c = .int .i64 i ∧ Cntd b ls W1 i wr) (fun c _ => ls.length - (intOf c).toNat)
  case atStart => exact ⟨0, rfl, by omega, ⟨_, 0, OW.out, Nat.le_refl _, CntD.empty⟩, Frm.refl _ _⟩
  case round =>
    obtain ⟨i, rfl, hi, ⟨D, nn, hown, hnn, hC⟩, fw⟩ := hrel
    by_cases hlt : i < ls.length
    · have hd : decide ((i : Int) < (ls.length : Int)) = true := by simp; omega
      obtain ⟨bb, off, rfl⟩ := SlE.at (enc := eL) (k := 37) HS1.out (by omega)
      have hbb : bb < R := HBL.out bb (by simp [blk]) (by omega)
      have HSr := Lib.hid (HS1.out.keep fw (fun k hk hm => by simp [blk] at hk hm; have := ZR.out; omega))
      obtain ⟨x, hx⟩ : ∃ x, ls[i] = x := ⟨_, rfl⟩
      have hcell : ∀ j u, (lc x.1)[j]? = some u → wr.cell? ⟨bb, off + i * 37 + j, none⟩ = some u := fun j u hu => by
        have := HSr.out.cell encL i hlt j (u := u) (by rw [hx]; exact hu)
        rw [Nat.add_assoc]; exact this
      have hpl := x.2
      have fA : Frm [] wr (wr.alloc (.cells (lc x.1).toArray 28)) := (Frm.refl [] wr).alloc _
      have hA := heap_alloc_new wr (.cells (lc x.1).toArray 28)
      have HCE := Lib.hid hcell
      clear hcell
      go_upto_region 5 with (first
        | ((with_reducible (show wpList _ _ _ (Oper.mk _ (Op.load 28 _) _ _ _ _ :: _) _ _)); refine wpList_val (v := lv x.1) (w' := wr) rfl (by exact exec_loadL (x := .tmp 16) rfl hpl rfl HCE.out) ?_)
        | ((with_reducible (show wpList _ _ _ (Oper.mk _ (Op.alloc 28) _ _ _ _ :: _) _ _)); refine wpList_lay28 rfl rfl rfl _ _ rfl (l := x.1) hpl rfl rfl ?_))
      have OA := Lib.hid (hown.alloc (.cells (lc x.1).toArray 28))
      have FA := Lib.hid (fw.trans fA (by simp))
      have HWA := Lib.hid (show (wr.alloc (.cells (lc x.1).toArray 28)).heap.size = wr.heap.size + 1 by simp)
      have HA := Lib.hid hA
      have ZW := Lib.hid hown.lt
      clear hA fA hown fw HSr HCE
      generalize wr.alloc (.cells (lc x.1).toArray 28) = WA at *
      obtain ⟨g, hg⟩ : ∃ g, wr.heap.size = g := ⟨_, rfl⟩
      rw [hg] at HA HWA ZW ⊢
      clear hg
      have HX := Lib.hid hx
      have HNN := Lib.hid hnn
      have HC := Lib.hid hC
      clear hx hnn hC
      have hm5 := mayBe_any x.1 hpl WA
      cases hmb : mayB x.1 with
      | false =>
        rw [hmb] at hm5
        have HMB := Lib.hid hmb
        clear hmb
        have HM5 := Lib.hid hm5
        clear hm5
        go_wp2_with (first
          | ((with_reducible (show wpList _ _ _ (Oper.mk _ (Op.load 28 _) _ _ _ _ :: _) _ _)); refine wpList_val (v := lv x.1) (w' := WA) rfl (by exact exec_loadL (x := .tmp 6) (off := 0) rfl hpl rfl (fun j u hu => by rw [Nat.zero_add, cell_of_heap HA.out]; simpa using hu)) ?_)
          | (go_at_call 30; refine HM5.out.mono ?_; rintro r w5 ⟨rfl, f5⟩))
        go_roundw
        case rel =>
          refine ⟨i + 1, by simp, by omega, ⟨D, nn, ownsMap_frm OA.out f5 (by simp), by have := HNN.out; omega, ?_⟩, FA.out.trans f5 (by simp)⟩
          rw [idsOf_take ls i hlt, HX.out, HMB.out]
          simpa using HC.out
        case measure => simp [intOf]; omega
      | true =>
        rw [hmb] at hm5
        have HMB := Lib.hid hmb
        clear hmb
        have HM5 := Lib.hid hm5
        clear hm5
        go_upto_region 6 with (first
          | ((with_reducible (show wpList _ _ _ (Oper.mk _ (Op.load 28 _) _ _ _ _ :: _) _ _)); refine wpList_val (v := lv x.1) (w' := WA) rfl (by exact exec_loadL (x := .tmp 6) (off := 0) rfl hpl rfl (fun j u hu => by rw [Nat.zero_add, cell_of_heap HA.out]; simpa using hu)) ?_)
          | (go_at_call 30; refine HM5.out.mono ?_; rintro r w5 ⟨rfl, f5⟩))
        have hown5 := (ownsMap_frm OA.out f5 (by simp)).drew
        have hidl : (idsOf (ls.take i)).length ≤ 100000000 := by
          have h1 := idsOf_length (ls.take i)
          have h2 := hll.out
          rw [List.length_take] at h1
          omega
        obtain ⟨st, W6, W7, D7, hst⟩ := count_step hown5 HC.out (by have := HNN.out; have := hll.out; simp only [maxLen]; omega) ⟨x.1.pool, hpl⟩ hidl
        have hcl : (idsOf (ls.take i)).count ⟨x.1.pool, hpl⟩ ≤ (idsOf (ls.take i)).length := List.count_le_length
        have hld := run_load26 (w := w5.drew) hpl (f5.heap HA.out (by simp))
        have e1 := hst.look
        have e2 := hst.entry
        have e3 := hst.look2
        have e4 := hst.store
        have hvI : vI ⟨x.1.pool, hpl⟩ = idv x.1.pool := rfl
        rw [hvI] at e1 e2 e3
        generalize hcnt : (idsOf (ls.take i)).count ⟨x.1.pool, hpl⟩ = cn at *
        have HST := Lib.hid hst
        have HF5 := Lib.hid f5
        clear hst f5 hown5 hvI
        generalize hid5 : idv x.1.pool = id5 at *
        have hcn : cn ≤ 100000000 := by omega
        have hw : IntKind.i64.wrap ((cn : Int) + 1) = cn + 1 := IntWalk.i64_in _ (by omega)
        rw [← hw] at e4
        clear hw
        refine wp_region_any (by kernel_rfl) ?_
        refine wpAny_take (i := 0) (oi := { dst := some 20, op := Op.move (Operand.tmp 4), type := 53, pos := "pool.go:16", after := #[], guard := none }) (v := ?_) rfl (by kernel_rfl) (by kernel_rfl) (by kernel_rfl) (fun _ _ _ h => h) (Or.inl ⟨by rfl, ?_⟩) ?_
        rotate_left
        focus (intro z; go_simp; try with_reducible rfl)
        try simp only [Act.put, List.setIfInBounds_toArray, List.set_cons_zero, List.set_cons_succ]
        refine wpAny_take (i := 1) (oi := { dst := some 21, op := Op.fieldAddr 28 (Operand.tmp 6) 0, type := 0, pos := "pool.go:16", after := #[], guard := none }) (v := ?_) rfl (by kernel_rfl) (by kernel_rfl) (by kernel_rfl) (fun _ _ _ h => h) (Or.inl ⟨by rfl, ?_⟩) ?_
        rotate_left
        focus (intro z; go_simp; try with_reducible rfl)
        try simp only [Act.put, List.setIfInBounds_toArray, List.set_cons_zero, List.set_cons_succ]
        refine wpAny_ready (rs := [2]) (by kernel_rfl) (by simp) ?_
        refine AllReady.cons (o := { dst := some 22, op := Op.load 26 (Operand.tmp 21), type := 26, pos := "pool.go:16", after := #[{ on := 1, ground := Ground.data }], guard := none }) rfl (fun K hK => ?_) ?_
        · refine step_val (v := id5) (w' := w5.drew) rfl (exec_ld_run rfl rfl hld) ?_
          refine hK _ _ ?_
          clear hK K
          try rfl
          try simp only [Act.put, List.setIfInBounds_toArray, List.set_cons_zero, List.set_cons_succ]
          refine wpAny_ready (rs := [3, 5]) (by kernel_rfl) (by simp) ?_
          refine AllReady.cons (o := { dst := some 23, op := Op.lookup 53 (Operand.tmp 20) (Operand.tmp 22) false, type := 3, pos := "pool.go:16", after := #[{ on := 0, ground := Ground.data }, { on := 2, ground := Ground.data }], guard := none }) rfl (fun K hK => ?_) ?_
          · go_simp
            refine hK _ _ ?_
            clear hK K
            try simp only [Act.put, List.setIfInBounds_toArray, List.set_cons_zero, List.set_cons_succ]
            refine wpAny_take (i := 4) (oi := { dst := some 24, op := Op.binOp BinOp.add 3 (Operand.tmp 23) (Operand.const (Value.int IntKind.i64 1)) 3, type := 3, pos := "pool.go:16", after := #[{ on := 3, ground := Ground.data }], guard := none }) (v := ?_) rfl (by kernel_rfl) (by kernel_rfl) (by kernel_rfl) (fun _ _ _ h => h) (Or.inl ⟨by rfl, ?_⟩) ?_
            rotate_left
            focus (intro z; go_simp; try with_reducible rfl)
            try simp only [Act.put, List.setIfInBounds_toArray, List.set_cons_zero, List.set_cons_succ]
            refine wpAny_ready (rs := [5]) (by kernel_rfl) (by simp) ?_
            refine AllReady.cons (o := { dst := some 25, op := Op.mapEntry 53 (Operand.tmp 20) (Operand.tmp 22), type := 0, pos := "pool.go:16", after := #[{ on := 0, ground := Ground.data }, { on := 2, ground := Ground.data }, { on := 0, ground := Ground.phase }, { on := 1, ground := Ground.phase }, { on := 2, ground := Ground.phase }, { on := 3, ground := Ground.textOnly Departure.mapOpAssignEntry }, { on := 4, ground := Ground.textOnly Departure.mapOpAssignEntry }], guard := none }) rfl (fun K hK => ?_) ?_
            · go_simp
              refine hK _ _ ?_
              clear hK K
              try simp only [Act.put, List.setIfInBounds_toArray, List.set_cons_zero, List.set_cons_succ]
              refine wpAny_take (i := 6) (oi := { dst := some 26, op := Op.extract (Operand.tmp 25) 1, type := 3, pos := "pool.go:16", after := #[{ on := 5, ground := Ground.data }], guard := none }) (v := ?_) rfl (by kernel_rfl) (by kernel_rfl) (by kernel_rfl) (fun _ _ _ h => h) (Or.inl ⟨by rfl, ?_⟩) ?_
              rotate_left
              focus (intro z; go_simp; try with_reducible rfl)
              try simp only [Act.put, List.setIfInBounds_toArray, List.set_cons_zero, List.set_cons_succ]
              refine wpAny_ready (rs := [7]) (by kernel_rfl) (by simp) ?_
              refine AllReady.cons (o := { dst := none, op := Op.entryStore 53 (Operand.tmp 20) (Operand.tmp 26) (Operand.tmp 24), type := 0, pos := "pool.go:16", after := #[{ on := 0, ground := Ground.data }, { on := 6, ground := Ground.data }, { on := 4, ground := Ground.data }, { on := 5, ground := Ground.chain }, { on := 0, ground := Ground.phase }, { on := 1, ground := Ground.phase }, { on := 2, ground := Ground.phase }, { on := 3, ground := Ground.phase }, { on := 4, ground := Ground.phase }, { on := 5, ground := Ground.phase }, { on := 6, ground := Ground.phase }], guard := none }) rfl (fun K hK => ?_) ?_
              · go_simp
                refine hK _ _ ?_
                clear hK K
                try simp only [Act.put, List.setIfInBounds_toArray, List.set_cons_zero, List.set_cons_succ]
                refine wpAny_done (by kernel_rfl) ?_ _
                clear e1 e2 e3 e4 hld
                go_wp2_with fail
                go_roundw
                case rel =>
                  refine ⟨i + 1, by simp, by omega, ⟨D7, nn + 1, HST.out.own, by have := HNN.out; omega, ?_⟩, ?_⟩
                  · rw [idsOf_take ls i hlt, HX.out, HMB.out]
                    simpa using HST.out.cnt
                  · exact ((FA.out.trans HF5.out (by simp)).drew).trans (Frm.of_grown (L := [b]) HST.out.grown (fun k e => by cases e; simp)) (fun k hk => .inl hk)
                case measure => simp [intOf]; omega
              exact AllReady.nil
            exact AllReady.nil
          refine AllReady.cons (o := { dst := some 25, op := Op.mapEntry 53 (Operand.tmp 20) (Operand.tmp 22), type := 0, pos := "pool.go:16", after := #[{ on := 0, ground := Ground.data }, { on := 2, ground := Ground.data }, { on := 0, ground := Ground.phase }, { on := 1, ground := Ground.phase }, { on := 2, ground := Ground.phase }, { on := 3, ground := Ground.textOnly Departure.mapOpAssignEntry }, { on := 4, ground := Ground.textOnly Departure.mapOpAssignEntry }], guard := none }) rfl (fun K hK => ?_) ?_
          · go_simp
            refine hK _ _ ?_
            clear hK K
            try simp only [Act.put, List.setIfInBounds_toArray, List.set_cons_zero, List.set_cons_succ]
            refine wpAny_take (i := 6) (oi := { dst := some 26, op := Op.extract (Operand.tmp 25) 1, type := 3, pos := "pool.go:16", after := #[{ on := 5, ground := Ground.data }], guard := none }) (v := ?_) rfl (by kernel_rfl) (by kernel_rfl) (by kernel_rfl) (fun _ _ _ h => h) (Or.inl ⟨by rfl, ?_⟩) ?_
            rotate_left
            focus (intro z; go_simp; try with_reducible rfl)
            try simp only [Act.put, List.setIfInBounds_toArray, List.set_cons_zero, List.set_cons_succ]
            refine wpAny_ready (rs := [3]) (by kernel_rfl) (by simp) ?_
            refine AllReady.cons (o := { dst := some 23, op := Op.lookup 53 (Operand.tmp 20) (Operand.tmp 22) false, type := 3, pos := "pool.go:16", after := #[{ on := 0, ground := Ground.data }, { on := 2, ground := Ground.data }], guard := none }) rfl (fun K hK => ?_) ?_
            · go_simp
              refine hK _ _ ?_
              clear hK K
              try simp only [Act.put, List.setIfInBounds_toArray, List.set_cons_zero, List.set_cons_succ]
              refine wpAny_take (i := 4) (oi := { dst := some 24, op := Op.binOp BinOp.add 3 (Operand.tmp 23) (Operand.const (Value.int IntKind.i64 1)) 3, type := 3, pos := "pool.go:16", after := #[{ on := 3, ground := Ground.data }], guard := none }) (v := ?_) rfl (by kernel_rfl) (by kernel_rfl) (by kernel_rfl) (fun _ _ _ h => h) (Or.inl ⟨by rfl, ?_⟩) ?_
              rotate_left
              focus (intro z; go_simp; try with_reducible rfl)
              try simp only [Act.put, List.setIfInBounds_toArray, List.set_cons_zero, List.set_cons_succ]
              refine wpAny_ready (rs := [7]) (by kernel_rfl) (by simp) ?_
              refine AllReady.cons (o := { dst := none, op := Op.entryStore 53 (Operand.tmp 20) (Operand.tmp 26) (Operand.tmp 24), type := 0, pos := "pool.go:16", after := #[{ on := 0, ground := Ground.data }, { on := 6, ground := Ground.data }, { on := 4, ground := Ground.data }, { on := 5, ground := Ground.chain }, { on := 0, ground := Ground.phase }, { on := 1, ground := Ground.phase }, { on := 2, ground := Ground.phase }, { on := 3, ground := Ground.phase }, { on := 4, ground := Ground.phase }, { on := 5, ground := Ground.phase }, { on := 6, ground := Ground.phase }], guard := none }) rfl (fun K hK => ?_) ?_
              · go_simp
                refine hK _ _ ?_
                clear hK K
                try simp only [Act.put, List.setIfInBounds_toArray, List.set_cons_zero, List.set_cons_succ]
                refine wpAny_done (by kernel_rfl) ?_ _
                clear e1 e2 e3 e4 hld
                go_wp2_with fail
                go_roundw
                case rel =>
                  refine ⟨i + 1, by simp, by omega, ⟨D7, nn + 1, HST.out.own, by have := HNN.out; omega, ?_⟩, ?_⟩
                  · rw [idsOf_take ls i hlt, HX.out, HMB.out]
                    simpa using HST.out.cnt
                  · exact ((FA.out.trans HF5.out (by simp)).drew).trans (Frm.of_grown (L := [b]) HST.out.grown (fun k e => by cases e; simp)) (fun k hk => .inl hk)
                case measure => simp [intOf]; omega
              exact AllReady.nil
            exact AllReady.nil
          exact AllReady.nil
        exact AllReady.nil
    · obtain rfl : i = ls.length := by omega
      rw [List.take_length] at hC
      obtain ⟨S, hS1, hS2⟩ := exists_dedup (idsOf ls)
      have hidl := idsOf_length ls
      have hSl : S.length ≤ 1000000 := by
        have := hS1.length_le_of_subset (fun x hx => (hS2 x).1 hx)
        have := hll.out
        omega
      have hKeys : KeysOf D S := ⟨hS1, fun x => (hS2 x).trans (hC x).1.symm⟩
      have hKm : ∀ x, x ∈ srtI S ↔ x ∈ idsOf ls := fun x => by rw [(srtI_perm S).mem_iff, hS2 x]
      have hKs := srtI_sorted S
      have hKl : (srtI S).length ≤ 1000000 := by rw [(srtI_perm S).length_eq]; exact hSl
      have hN : Maps.size D ≤ 100000000 := by have := hown.size_le; have := hll.out; omega
      have hd : decide ((ls.length : Int) < (ls.length : Int)) = false := by simp
      go_upto_region 9 with ((with_reducible (show wpList _ _ _ (Oper.mk _ (Op.alloc 26) _ _ _ _ :: _) _ _)); refine wpList_val rfl (alloc26' rfl _) ?_)
      have h0 := heap_alloc_new wr (.cells (bvs ids0).toArray 26)
      have f2 : Frm [] wr (wr.alloc (.cells (bvs ids0).toArray 26)) := (Frm.refl [] wr).alloc _
      have B0 := Lib.hid h0
      have FW := Lib.hid (fw.trans f2 (by simp))
      have OW2 := Lib.hid (ownsMap_frm hown f2 (by simp))
      have HZ2 := Lib.hid (show (wr.alloc (.cells (bvs ids0).toArray 26)).heap.size = wr.heap.size + 1 by simp)
      have ZBb := Lib.hid hown.lt
      have KM := Lib.hid hKm
      have KS := Lib.hid hKs
      have KL := Lib.hid hKl
      have HC := Lib.hid hC
      clear h0 f2 hown fw hnn hi hKm hKs hKl hS1 hS2 hd hC
      generalize wr.alloc (.cells (bvs ids0).toArray 26) = W2 at *
      obtain ⟨B, hB⟩ : ∃ B, wr.heap.size = B := ⟨_, rfl⟩
      rw [hB] at B0 HZ2 ZBb ⊢
      clear hB
      go_wp2_with fail
      refine (Keys_any _ _).mono ?_
      rintro r w3 ⟨rfl, hw3⟩
      have f3 : Frm [] W2 w3 := by rw [hw3]; exact (Frm.refl [] W2).alloc _
      have k1 : w3.heap[W2.heap.size]? = some (.cells #[.map (some b)] 53 (0, 0)) := by rw [hw3]; exact heap_alloc_new _ _
      have k2 := ownsMap_frm OW2.out f3 (by simp)
      have HS := Lib.hid (SortedFunc_any W2.heap.size b nn D hN S hKeys (by omega) w3 (lt_heap k1) k1 k2)
      have F3 := Lib.hid f3
      have K2 := Lib.hid k2
      clear hw3 f3 k1 k2 hKeys
      generalize hbm : W2.heap.size = bm at HS ⊢
      have HBM := Lib.hid hbm
      clear hbm
      go_wp2_with fail
      refine HS.out.mono ?_
      rintro r w4 ⟨v4, rfl, ⟨a4, cap4, sp4, rfl, o4, hb4⟩, f4⟩
      generalize srtI S = K at *
      have OW4 := Lib.hid (ownsMap_frm K2.out f4 (by simp))
      have F34 := Lib.hid (F3.out.trans f4 (by simp))
      have B4 := Lib.hid (F34.out.heap B0.out (by simp))
      have SL4 := Lib.hid o4.sl
      have HB4 := Lib.hid (show ∀ k ∈ blk (.slice a4 K.length cap4), B < k from fun k hk => by have := hb4 k hk; have := F3.out.size; have := HZ2.out; omega)
      clear f4 o4 hb4 HS K2 OW2 B0 F3
      go_wp2_with fail
      go_loopw [32, 8] (fun c d wr2 => ∃ j m : Nat, ∃ t, c = .int .i64 j ∧ d = .int .i64 m ∧ Cmpd B (idsOf ls) K w4 j m t wr2) (fun c _ _ => K.length - (intOf c).toNat)
      case atStart => exact ⟨0, 0, ids0, rfl, rfl, by omega, by omega, rfl, B4.out, Bst.start _ _, fun _ => rfl, Frm.refl _ _⟩
      case round =>
        obtain ⟨j, m, t, rfl, rfl, hj, hm, ht, hBt, hbst, ht0, fr⟩ := hrel
        have HBT := Lib.hid hBt
        clear hBt
        by_cases hlt : j < K.length
        · have hd : decide ((j : Int) < (K.length : Int)) = true := by simp; omega
          have hkl : K.length ≤ 1000000 := KL.out
          have hjb : (j : Int) + 1 ≤ 1000000 := by omega
          obtain ⟨gg, off, rfl⟩ := SlE.at (enc := eI) (k := 32) SL4.out (by omega)
          obtain ⟨x, hx⟩ : ∃ x, K[j] = x := ⟨_, rfl⟩
          have HSr := Lib.hid (SL4.out.keep fr (fun k hk hm => by have := HB4.out k hk; simp at hm; omega))
          have hcell : ∀ q u, (bvs x.1)[q]? = some u → wr.cell? ⟨gg, off + j * 32 + q, none⟩ = some u := fun q u hu => by
            have := HSr.out.cell encID j hlt q (u := u) (by rw [hx]; exact hu)
            rw [Nat.add_assoc]; exact this
          have hpl := x.2
          have HCE := Lib.hid hcell
          clear hcell
          go_upto_region 13 with (first
            | ((with_reducible (show wpList _ _ _ (Oper.mk _ (Op.load 26 _) _ _ _ _ :: _) _ _)); refine wpList_val (v := idv x.1) (w' := wr) rfl (by exact exec_loadI (x := .tmp 34) rfl hpl rfl HCE.out) ?_)
            | ((with_reducible (show wpList _ _ _ (Oper.mk _ (Op.alloc 26) _ _ _ _ :: _) _ _)); refine wpList_lay26 rfl rfl rfl _ _ rfl (s := x.1) hpl rfl rfl ?_))
          have fA : Frm [] wr (wr.alloc (.cells (bvs x.1).toArray 26)) := (Frm.refl [] wr).alloc _
          have HA := Lib.hid (heap_alloc_new wr (.cells (bvs x.1).toArray 26))
          have FA := Lib.hid (fr.trans fA (by simp))
          have HBA := Lib.hid (fA.heap HBT.out (by simp))
          have OWA := Lib.hid (ownsMap_frm (ownsMap_frm OW4.out fr (by simp; have := ZBb.out; omega)) fA (by simp))
          have ZG := Lib.hid (show B < wr.heap.size from lt_heap HBT.out)
          clear fA fr HSr HCE HBT
          generalize wr.alloc (.cells (bvs x.1).toArray 26) = WA at *
          obtain ⟨g, hg⟩ : ∃ g, wr.heap.size = g := ⟨_, rfl⟩
          rw [hg] at HA ZG ⊢
          clear hg
          have hlk := look_cnt OWA.out HC.out x
          have hcnle : (idsOf ls).count x ≤ (idsOf ls).length := List.count_le_length
          have hcn : (idsOf ls).count x ≤ 1000000 := by have := hll.out; omega
          have hvI : vI x = idv x.1 := rfl
          rw [hvI] at hlk
          generalize hcc : (idsOf ls).count x = cn at *
          have HCC := Lib.hid hcc
          have HX := Lib.hid hx
          have HVI := Lib.hid hvI
          clear hcc hx hvI hcnle
          by_cases hgt : m < cn
          · have hd2 : decide ((m : Int) < (cn : Int)) = true := by simp; omega
            go_upto_region 14 with ((with_reducible (show wpList _ _ _ (Oper.mk _ (Op.load 26 _) _ _ _ _ :: _) _ _)); refine wpList_val (v := idv x.1) (w' := WA) rfl (by exact exec_load26 (x := .tmp 10) rfl rfl hpl HA.out) ?_)
            refine wp_region_held_drew (S := fun z => Frm [B] WA z) (by kernel_rfl) ((Frm.refl [B] WA).drew) (fun hHeld => ?_)
            refine wpAnyH_take (i := 0) (oi := { dst := some 41, op := Op.load 26 (Operand.tmp 10), type := 26, pos := "pool.go:23", after := #[], guard := none }) rfl (by kernel_rfl) (by kernel_rfl) (by kernel_rfl) (fun _ _ _ h => h) (yieldsIf_ld (by rfl) 26 _ rfl _ rfl (fun z hSw => loads26 hpl (hSw.heap HA.out (by have := ZG.out; simp; omega)))) hHeld ?_
            try simp only [Act.put, List.setIfInBounds_toArray, List.set_cons_zero, List.set_cons_succ]
            refine wpAnyH_take (i := 1) (oi := { dst := some 42, op := Op.move (Operand.tmp 4), type := 53, pos := "pool.go:23", after := #[{ on := 4, ground := Ground.gcOnly Departure.lateStores }], guard := none }) (v := ?_) rfl (by kernel_rfl) (by kernel_rfl) (by kernel_rfl) (fun _ _ _ h => h) (Or.inl ⟨by rfl, ?_⟩) hHeld ?_
            rotate_left
            focus (intro z hSw; clear hSw; go_simp; try with_reducible rfl)
            try simp only [Act.put, List.setIfInBounds_toArray, List.set_cons_zero, List.set_cons_succ]
            refine wpAnyH_take (i := 2) (oi := { dst := some 43, op := Op.load 26 (Operand.tmp 10), type := 26, pos := "pool.go:23", after := #[{ on := 4, ground := Ground.gcOnly Departure.lateStores }], guard := none }) rfl (by kernel_rfl) (by kernel_rfl) (by kernel_rfl) (fun _ _ _ h => h) (yieldsIf_ld (by rfl) 26 _ rfl _ rfl (fun z hSw => loads26 hpl (hSw.heap HA.out (by have := ZG.out; simp; omega)))) hHeld ?_
            try simp only [Act.put, List.setIfInBounds_toArray, List.set_cons_zero, List.set_cons_succ]
            refine wpAnyH_take (i := 3) (oi := { dst := some 44, op := Op.lookup 53 (Operand.tmp 42) (Operand.tmp 43) false, type := 3, pos := "pool.go:23", after := #[{ on := 1, ground := Ground.data }, { on := 2, ground := Ground.data }, { on := 4, ground := Ground.gcOnly Departure.lateStores }], guard := none }) rfl (by kernel_rfl) (by kernel_rfl) (by kernel_rfl) (fun _ _ _ h => h) (Or.inl ⟨by rfl, fun z hSw => exec_lk_run rfl rfl rfl (by rw [← HVI.out]; exact look_cnt (ownsMap_frm OWA.out hSw (by have := ZBb.out; simp; omega)) HC.out x)⟩) hHeld ?_
            try simp only [Act.put, List.setIfInBounds_toArray, List.set_cons_zero, List.set_cons_succ]
            refine wpAnyH_ready (rs := [4]) (by kernel_rfl) (by simp) ?_
            refine AllReadyH.cons (o := { dst := none, op := Op.store 26 (Operand.tmp 7) (Operand.tmp 41), type := 0, pos := "pool.go:23", after := #[{ on := 0, ground := Ground.data }, { on := 0, ground := Ground.phase }, { on := 1, ground := Ground.textOnly Departure.lateStores }, { on := 2, ground := Ground.textOnly Departure.lateStores }, { on := 3, ground := Ground.textOnly Departure.lateStores }], guard := none }) rfl (fun K hK => ?_) AllReadyH.nil
            refine step_store26 rfl (.tmp 7) (.tmp 41) rfl rfl (by exact rfl) hpl ht HBA.out ?_
            intro w7 hb7 f7
            refine hK.out _ _ ?_ (fun hNext => ?_)
            · exact ((Frm.refl [B] WA).drew).trans f7 (fun k hk => .inl hk)
            clear hK K hHeld
            have hHeld := hNext
            clear hNext
            try simp only [Act.put, List.setIfInBounds_toArray, List.set_cons_zero, List.set_cons_succ]
            refine wpAnyH_take (i := 5) (oi := { dst := some 8, op := Op.assign (Operand.tmp 44), type := 3, pos := "pool.go:23", after := #[{ on := 3, ground := Ground.data }, { on := 4, ground := Ground.chain }, { on := 0, ground := Ground.phase }, { on := 1, ground := Ground.phase }, { on := 2, ground := Ground.phase }, { on := 3, ground := Ground.phase }, { on := 4, ground := Ground.phase }], guard := none }) (v := ?_) rfl (by kernel_rfl) (by kernel_rfl) (by kernel_rfl) (fun _ _ _ h => h) (Or.inl ⟨by rfl, ?_⟩) hHeld ?_
            rotate_left
            focus (intro z hSw; clear hSw; go_simp; try with_reducible rfl)
            try simp only [Act.put, List.setIfInBounds_toArray, List.set_cons_zero, List.set_cons_succ]
            refine wpAnyH_done (by kernel_rfl) ?_ _
            have F7 := Lib.hid f7
            have HB7 := Lib.hid hb7
            clear hHeld hlk f7 hb7
            go_wp2_with fail
            go_roundw
            case rel =>
              refine ⟨j + 1, (idsOf ls).count x, x.1, by simp, rfl, by omega, by rw [HCC.out]; omega, hpl, HB7.out, ?_, fun e => ?_, (FA.out.drew).trans F7.out (fun k hk => .inl hk)⟩
              · rw [← List.take_append_getElem hlt, HX.out]
                exact hbst.more _ (by rw [HCC.out]; exact hgt)
              · rw [HCC.out] at e; omega
            case measure => simp [intOf]; omega
          · have hd2 : decide ((m : Int) < (cn : Int)) = false := by simp; omega
            go_wp2_with ((with_reducible (show wpList _ _ _ (Oper.mk _ (Op.load 26 _) _ _ _ _ :: _) _ _)); refine wpList_val (v := idv x.1) (w' := WA) rfl (by exact exec_load26 (x := .tmp 10) rfl rfl hpl HA.out) ?_)
            go_roundw
            case rel =>
              refine ⟨j + 1, m, t, by simp, rfl, by omega, hm, ht, HBA.out, ?_, ht0, FA.out⟩
              rw [← List.take_append_getElem hlt]
              exact hbst.less _ (by rw [HX.out, HCC.out]; exact hgt) (pair_take KS.out j hlt)
            case measure => simp [intOf]; omega
        · obtain rfl : j = K.length := by omega
          rw [List.take_length] at hbst
          have hres := Lib.hid (Bst.done KM.out hbst ht0)
          have G4 := Lib.hid (loads26 ht HBT.out)
          have hRB : R ≠ B := by have := ZR.out; have := ZBb.out; omega
          have hRb : R ≠ b := by have := ZR.out; omega
          have H4 := Lib.hid (fr.heap (F34.out.heap (FW.out.heap H1.out (by simp; exact hRb)) (by simp)) (by simp; exact hRB))
          have F5 := Lib.hid ((((F1.out.trans FW.out (fun k hk => .inr (by simp at hk; subst hk; have := ZR.out; have := HR.out; omega))).trans F34.out (by simp))).trans fr (fun k hk => .inr (by simp at hk; subst hk; have := ZR.out; have := ZBb.out; have := HR.out; omega)))
          have hd : decide ((K.length : Int) < (K.length : Int)) = false := by simp
          have HTT := Lib.hid ht
          clear hbst ht0 fr ht hj
          go_wp2_with (first
            | ((with_reducible (show wpList _ _ _ (Oper.mk _ (Op.load 26 _) _ _ _ _ :: _) _ _)); refine wpList_load_g (by rfl) 26 _ rfl _ rfl G4.out ?_)
            | ((with_reducible (show wpList _ _ _ (Oper.mk _ (Op.store 26 _ _) _ _ _ _ :: _) _ _)); refine wpList_store_row rfl 26 (.tmp 2) (.tmp 46) rfl R (bvs t).toArray rfl rfl 26 _ H4.out (by rw [i26]; simp [bvs_length, HTT.out]) (by simp [bvs_length, HTT.out, ids0]) (all_oneCell_toArray (bvs_one t)) ?_))
          have hr := setRow_heap _ R _ (bvs t).toArray 26 (0, 0) H4.out
          have fr6 := F5.out.trans (show Frm [R] wr (wr.setRow R (bvs t).toArray) from ⟨rfl, rfl, rfl, by simp [World.setRow], fun k hk hn => setRow_other wr R k (bvs t).toArray (by simpa using hn)⟩) (fun i hi => .inr (by have := HR.out; simp at hi; omega))
          exact bodyPost_ret (v := .tuple #[idv t, .bool (decide (0 < m))]) (results_cell_slot rfl _ _ rfl rfl (run_loadVar_row _ R 26 26 _ (0, 0) _ hr d26 rfl (by rw [i26]; simp [bvs_length, HTT.out]))) rfl ⟨(t, decide (0 < m)), hres.out, rfl, fr6⟩
end Go.Proofs.YtcnjjcnmjmcoiaaGreatDoor
