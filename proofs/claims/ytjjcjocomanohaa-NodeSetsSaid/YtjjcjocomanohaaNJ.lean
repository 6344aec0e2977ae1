/-
  Contract of Unpack of nodes. No conditions but those that each theorem names.
-/
import Derived.Test.YtjjcjocomanohaaNI
import Derived.Test.YtjjcjocomanohaaQP
namespace Go.Proofs.Ytjjcjocomanohaa
open Go.RowKit
set_option linter.unusedVariables false
set_option linter.unusedSimpArgs false
set_option maxRecDepth 100000

theorem u74 : Try.prog.underlying 74 = some (.array 256 5) := by kernel_rfl
theorem arr74 (a : Addr) (cap : Nat) (W : World) : (Instr.arrayAt 74 (.slice (some a) 256 cap)).run Try.prog W = .ok (.pointer (some a)) W := by
  simp [Instr.arrayAt, Sem.run_bind, run_underlying u74, Result.andThen]
theorem exec_arr74 {o : Oper} {ac : Act} (s : Operand) (hop : o.op = Op.sliceToArrayPointer 74 s) {a : Addr} {cap : Nat} (h1 : ac.eval s = .slice (some a) 256 cap) (W : World) : (execOp ac.eval o).run Try.prog W = .ok (.value (.pointer (some a))) W := by
  have h := arr74 a cap W
  simp only [execOp, hop, h1, Sem.run_bind, Sem.run_pure, h, Result.andThen_ok]
theorem eql74 (l m : List UInt8) (hl : l.length = 256) (hm : m.length = 256) (W : World) : (binOp .eql 74 (.agg (bvs l).toArray) (.agg (bvs m).toArray)).run Try.prog W = .ok (.bool (l == m)) W := by
  obtain ⟨i, hi⟩ := info5
  rw [bvs_ints, bvs_ints, eql_ints (k := .u8) u74 hi (by kernel_rfl) (fun W => by kernel_rfl) (fun W => by kernel_rfl) Try.underlying5 _ _ (by simpa using hl) (by simpa using hm) W, beq_inj (fun b : UInt8 => (b.toNat : Int)) (fun a b h => UInt8.toNat_inj.1 (by omega))]
theorem neq74 (l m : List UInt8) (hl : l.length = 256) (hm : m.length = 256) (W : World) : (binOp .neq 74 (.agg (bvs l).toArray) (.agg (bvs m).toArray)).run Try.prog W = .ok (.bool (!(l == m))) W := by
  have h := eql74 l m hl hm W
  rw [run_eql_struct] at h
  rw [run_neq_struct]
  cases hr : (Op.equalIn 10000 74 (.agg (bvs l).toArray) (.agg (bvs m).toArray)).run Try.prog W with
  | ok x w' => rw [hr] at h; simp [Result.andThen] at h ⊢; exact ⟨by rw [h.1], h.2⟩
  | halt x w' => rw [hr] at h; simp [Result.andThen] at h
theorem SlB.load74 {w : World} {b off cap : Nat} {l sp : List UInt8} (h : SlB w (.slice (some ⟨b, off, none⟩) 256 cap) l sp) (hl : l.length = 256) : (Instr.loadAt 74 (.pointer (some ⟨b, off, none⟩))).run Try.prog w = .ok (.agg (bvs l).toArray) w := by
  refine run_loadAt_mid w b off 74 (bvs l) _ (fun j u hu => ?_) Try.underlying74 rfl (by rw [i74]; simp [bvs_length, hl])
  have hj : j < l.length := by have := (List.getElem?_eq_some_iff.1 hu).1; simpa [bvs_length] using this
  have hc := h.cellAt j hj
  rw [hc]
  rw [← hu]
  simp [bvs, bv, List.getElem?_map, List.getElem?_eq_getElem hj]
/-- Is a sector a node's that may be? -/
def goodN (S : List UInt8) : Bool := (S.length == 256) && (okB S && (nodeB (ndOf S) && (secB (ndOf S) == S)))
def unE (S : List UInt8) : Int := if goodN S = true then 0 else if S.length = 256 then 2 else 4
def unNd (S : List UInt8) : Nd := if goodN S = true then ndOf S else zeroNd
def UnP (S : List UInt8) (w : World) (e : Ending) (w' : World) : Prop := ∃ x, e = .returned (.tuple #[x, .int .i64 (unE S)]) ∧ NdV w' x (unNd S) ∧ Frm [] w w'
theorem unP_len {S : List UInt8} {w w' : World} {x : Value} (h : S.length ≠ 256) (hx : NdV w' x zeroNd) (f : Frm [] w w') : UnP S w (.returned (.tuple #[x, .int .i64 4])) w' :=
  ⟨x, by simp [unE, goodN, h], by simpa [unNd, goodN, h] using hx, f⟩
theorem unP_no {S : List UInt8} {w w' : World} {x : Value} (h : S.length = 256) (hg : goodN S = false) (hx : NdV w' x zeroNd) (f : Frm [] w w') : UnP S w (.returned (.tuple #[x, .int .i64 2])) w' :=
  ⟨x, by simp [unE, hg, h], by simpa [unNd, hg] using hx, f⟩
theorem unP_yes {S : List UInt8} {w w' : World} {x : Value} (hg : goodN S = true) (hx : NdV w' x (ndOf S)) (f : Frm [] w w') : UnP S w (.returned (.tuple #[x, .int .i64 0])) w' :=
  ⟨x, by simp [unE, hg], by simpa [unNd, hg] using hx, f⟩
theorem zeroNd_v (W : World) : NdV W (.agg (nc 0 zAs).toArray) zeroNd := ⟨zAs, rfl, ptsv_zero W⟩
theorem guard74 (op : BinOp) (x y : Operand) (s s2 : List UInt8) (W : World) : (eqGuard op 74 x y (.agg (bvs s).toArray) (.agg (bvs s2).toArray)).run Try.prog W = .ok () W := guard_agg op 74 x y _ _ (by kernel_rfl) W
theorem exec_neq74 {o : Oper} {ac : Act} {l m : List UInt8} (x y : Operand) {t : TypeId} (hop : o.op = Op.binOp BinOp.neq 74 x y t) (h1 : ac.eval x = .agg (bvs l).toArray) (h2 : ac.eval y = .agg (bvs m).toArray) (hl : l.length = 256) (hm : m.length = 256) (W : World) : (execOp ac.eval o).run Try.prog W = .ok (.value (.bool (!(l == m)))) W := by
  simp [execOp, hop, h1, h2, guard74, neq74 l m hl hm W, Sem.run_bind, Result.andThen]
theorem ndOf_ads (S : List UInt8) : ∀ p ∈ (ndOf S).ps, p.ads.length ≤ 1000000 := fun p hp => by
  obtain ⟨j, hj, rfl⟩ := List.mem_map.1 hp
  have := read_len (chunk S j)
  omega
set_option maxHeartbeats 8000000 in
theorem Unpack_any (v : Value) (S sp : List UInt8) (w : World) (hS : SlB w v S sp) (hl : S.length ≤ 1000000) : Calls Try.prog 47 #[v] w (UnP S w) := by
  obtain ⟨a, cap, rfl, _, _⟩ := hS.form
  have HS := Lib.hid hS
  have hl9 : (S.length : Int) ≤ 1000000 := by omega
  have b0 : NB (w.alloc (.cells (nc 0 zAs).toArray 51)) w.heap.size 0 zAs := NB.new w 0 zAs_len zAs_rows
  have f0 : Frm [] w (w.alloc (.cells (nc 0 zAs).toArray 51)) := (Frm.refl [] w).alloc _
  clear hl
  by_cases h256 : S.length = 256
  · have H256 := Lib.hid h256
    have HSL := HS.out
    rw [h256] at HSL ⊢
    rcases HSL.cases with ⟨e, _⟩ | ⟨_, e, _⟩ | ⟨b, off, cap', e, _, _⟩
    · cases e
    · simp at e
    simp only [Value.slice.injEq] at e
    obtain ⟨rfl, -, rfl⟩ := e
    have HLD := Lib.hid (fun W' (f : Frm [] w W') => (HSL.keep f (by simp)).load74 h256)
    have HNO := Lib.hid (fun W' => nodeOf_any S W' h256)
    clear hS h256 HSL hl9
    go_enter Try.func47, Try.ntmps47
    go_upto_region 1 with ((with_reducible (show wpList _ _ _ (Oper.mk _ (Op.alloc 51) _ _ _ _ :: _) _ _)); refine wpList_val rfl (exec_alloc51 rfl _) ?_)
    try simp only [World.size_alloc]
    generalize w.alloc (.cells (nc 0 zAs).toArray 51) = W at *
    have B0 := Lib.hid b0
    have F0 := Lib.hid f0
    clear b0 f0
    go_upto_region 4 with (first
      | ((with_reducible (show wpList _ _ _ (Oper.mk _ (Op.sliceToArrayPointer 74 _) _ _ _ _ :: _) _ _)); refine wpList_val rfl (exec_arr74 (.tmp 11) rfl rfl _) ?_)
      | ((with_reducible (show wpList _ _ _ (Oper.mk _ (Op.load 74 _) _ _ _ _ :: _) _ _)); refine wpList_load_g (by rfl) 74 _ rfl _ rfl (HLD.out _ F0.out) ?_)
      | ((with_reducible (show wpList _ _ _ (Oper.mk _ (Op.alloc 74) _ _ _ _ :: _) _ _)); refine wpList_lay74 rfl rfl rfl (.tmp 4) (.tmp 13) rfl H256.out rfl rfl ?_))
    have hS1 : SB (W.alloc (.cells (bvs S).toArray 74)) W.heap.size S := heap_alloc_new _ _
    have fS1 : Frm [] W (W.alloc (.cells (bvs S).toArray 74)) := (Frm.refl [] W).alloc _
    have hg0 : w.heap.size < W.heap.size := B0.out.lt
    generalize W.alloc (.cells (bvs S).toArray 74) = W1 at *
    generalize W.heap.size = g1 at *
    have S1 := Lib.hid hS1
    have FS := Lib.hid (F0.out.trans fS1 (by simp))
    have B1 := Lib.hid (B0.out.keep0 fS1)
    clear hS1 fS1 B0 F0 HLD
    have LS := Lib.hid (S1.out.load H256.out)
    unfold NodeOfP at HNO
    have HGD := Lib.hid (show goodN S = (okB S && (nodeB (ndOf S) && (secB (ndOf S) == S))) by simp [goodN, H256.out])
    cases hok : okB S with
    | false =>
      have HG := Lib.hid (show goodN S = false by rw [HGD.out, hok]; rfl)
      rw [hok] at HNO
      simp only [Bool.false_eq_true, if_false] at HNO
      clear hok
      go_upto_region 5 with (first
        | ((with_reducible (show wpList _ _ _ (Oper.mk _ (Op.load 74 _) _ _ _ _ :: _) _ _)); refine wpList_load_g (by rfl) 74 _ rfl _ rfl LS.out ?_)
        | (go_at_call 68; refine (HNO.out _).mono ?_; rintro r w2 ⟨x, rfl, ⟨As, rfl, hps, hnw⟩, f2⟩)
        | ((with_reducible (show wpList _ _ _ (Oper.mk _ (Op.alloc 51) _ _ _ _ :: _) _ _)); refine wpList_lay51 rfl rfl rfl (.tmp 5) (.tmp 17) rfl hps.1 hps.rows rfl rfl ?_))
      have f3 : Frm [] W1 (w2.alloc (.cells (nc zeroNd.lv As).toArray 51)) := f2.alloc _
      have B2 := Lib.hid (B1.out.keep0 f3)
      have F2 := Lib.hid (FS.out.trans f3 (by simp))
      generalize w2.alloc (.cells (nc zeroNd.lv As).toArray 51) = V at *
      clear f2 f3 hps
      refine wp_region_held_drew (S := fun z => Frm [] V z) (by kernel_rfl) ((Frm.refl [] V).drew) (fun hHeld => ?_)
      refine wpAnyH_take (i := 0) (oi := { dst := some 19, op := Op.move (Operand.tmp 6), type := 4, pos := "node.go:48", after := #[], guard := none }) (v := ?_) rfl (by kernel_rfl) (by kernel_rfl) (by kernel_rfl) (fun _ _ _ h => h) (Or.inl ⟨by rfl, ?_⟩) hHeld ?_
      rotate_left
      focus (intro z hSw; clear hSw; go_simp; try with_reducible rfl)
      try simp only [Act.put, List.setIfInBounds_toArray, List.set_cons_zero, List.set_cons_succ]
      refine wpAnyH_take (i := 1) (oi := { dst := some 20, op := Op.unOp UnOp.not 4 (Operand.tmp 19), type := 4, pos := "node.go:48", after := #[{ on := 0, ground := Ground.data }], guard := none }) (v := ?_) rfl (by kernel_rfl) (by kernel_rfl) (by kernel_rfl) (fun _ _ _ h => h) (Or.inl ⟨by rfl, ?_⟩) hHeld ?_
      rotate_left
      focus (intro z hSw; clear hSw; go_simp; try with_reducible rfl)
      try simp only [Act.put, List.setIfInBounds_toArray, List.set_cons_zero, List.set_cons_succ]
      refine wpAnyH_take (i := 2) (oi := { dst := some 21, op := Op.move (Operand.tmp 20), type := 4, pos := "node.go:48", after := #[{ on := 1, ground := Ground.data }], guard := none }) (v := ?_) rfl (by kernel_rfl) (by kernel_rfl) (by kernel_rfl) (fun _ _ _ h => h) (Or.inl ⟨by rfl, ?_⟩) hHeld ?_
      rotate_left
      focus (intro z hSw; clear hSw; go_simp; try with_reducible rfl)
      try simp only [Act.put, List.setIfInBounds_toArray, List.set_cons_zero, List.set_cons_succ]
      refine wpAnyH_take (i := 3) (oi := { dst := some 22, op := Op.load 51 (Operand.tmp 5), type := 51, pos := "node.go:48", after := #[{ on := 2, ground := Ground.guard }], guard := some (2, false) }) (v := undef) rfl (by kernel_rfl) (by kernel_rfl) (by kernel_rfl) (fun _ _ _ h => h) (Or.inr ⟨by rfl, rfl⟩) hHeld ?_
      try simp only [Act.put, List.setIfInBounds_toArray, List.set_cons_zero, List.set_cons_succ]
      refine wpAnyH_take (i := 4) (oi := { dst := some 23, op := Op.call { callee := Callee.value (Operand.func 39), args := #[Operand.tmp 22], argTypes := #[51] }, type := 30, pos := "node.go:48", after := #[{ on := 3, ground := Ground.data }, { on := 2, ground := Ground.chain }, { on := 2, ground := Ground.guard }], guard := some (2, false) }) (v := undef) rfl (by kernel_rfl) (by kernel_rfl) (by kernel_rfl) (fun _ _ _ h => h) (Or.inr ⟨by rfl, rfl⟩) hHeld ?_
      try simp only [Act.put, List.setIfInBounds_toArray, List.set_cons_zero, List.set_cons_succ]
      refine wpAnyH_take (i := 5) (oi := { dst := some 24, op := Op.binOp BinOp.neq 30 (Operand.tmp 23) (Operand.const (Value.int IntKind.i64 0)) 30, type := 4, pos := "node.go:48", after := #[{ on := 4, ground := Ground.data }, { on := 2, ground := Ground.guard }], guard := some (2, false) }) (v := undef) rfl (by kernel_rfl) (by kernel_rfl) (by kernel_rfl) (fun _ _ _ h => h) (Or.inr ⟨by rfl, rfl⟩) hHeld ?_
      try simp only [Act.put, List.setIfInBounds_toArray, List.set_cons_zero, List.set_cons_succ]
      refine wpAnyH_take (i := 6) (oi := { dst := some 25, op := Op.pick (Operand.tmp 21) (Operand.const (Value.bool true)) (Operand.tmp 24), type := 4, pos := "node.go:48", after := #[{ on := 2, ground := Ground.data }, { on := 5, ground := Ground.data }], guard := none }) (v := ?_) rfl (by kernel_rfl) (by kernel_rfl) (by kernel_rfl) (fun _ _ _ h => h) (Or.inl ⟨by rfl, ?_⟩) hHeld ?_
      rotate_left
      focus (intro z hSw; clear hSw; go_simp; try with_reducible rfl)
      try simp only [Act.put, List.setIfInBounds_toArray, List.set_cons_zero, List.set_cons_succ]
      refine wpAnyH_take (i := 7) (oi := { dst := some 26, op := Op.move (Operand.tmp 25), type := 4, pos := "node.go:48", after := #[{ on := 6, ground := Ground.data }, { on := 4, ground := Ground.chain }], guard := none }) (v := ?_) rfl (by kernel_rfl) (by kernel_rfl) (by kernel_rfl) (fun _ _ _ h => h) (Or.inl ⟨by rfl, ?_⟩) hHeld ?_
      rotate_left
      focus (intro z hSw; clear hSw; go_simp; try with_reducible rfl)
      try simp only [Act.put, List.setIfInBounds_toArray, List.set_cons_zero, List.set_cons_succ]
      refine wpAnyH_take (i := 8) (oi := { dst := some 27, op := Op.load 51 (Operand.tmp 5), type := 51, pos := "node.go:48", after := #[{ on := 7, ground := Ground.guard }], guard := some (7, false) }) (v := undef) rfl (by kernel_rfl) (by kernel_rfl) (by kernel_rfl) (fun _ _ _ h => h) (Or.inr ⟨by rfl, rfl⟩) hHeld ?_
      try simp only [Act.put, List.setIfInBounds_toArray, List.set_cons_zero, List.set_cons_succ]
      refine wpAnyH_take (i := 9) (oi := { dst := some 28, op := Op.call { callee := Callee.value (Operand.func 63), args := #[Operand.tmp 27], argTypes := #[51] }, type := 74, pos := "node.go:48", after := #[{ on := 8, ground := Ground.data }, { on := 7, ground := Ground.chain }, { on := 7, ground := Ground.guard }], guard := some (7, false) }) (v := undef) rfl (by kernel_rfl) (by kernel_rfl) (by kernel_rfl) (fun _ _ _ h => h) (Or.inr ⟨by rfl, rfl⟩) hHeld ?_
      try simp only [Act.put, List.setIfInBounds_toArray, List.set_cons_zero, List.set_cons_succ]
      refine wpAnyH_take (i := 10) (oi := { dst := some 29, op := Op.load 74 (Operand.tmp 4), type := 74, pos := "node.go:48", after := #[{ on := 7, ground := Ground.guard }], guard := some (7, false) }) (v := undef) rfl (by kernel_rfl) (by kernel_rfl) (by kernel_rfl) (fun _ _ _ h => h) (Or.inr ⟨by rfl, rfl⟩) hHeld ?_
      try simp only [Act.put, List.setIfInBounds_toArray, List.set_cons_zero, List.set_cons_succ]
      refine wpAnyH_take (i := 11) (oi := { dst := some 30, op := Op.binOp BinOp.neq 74 (Operand.tmp 28) (Operand.tmp 29) 74, type := 4, pos := "node.go:48", after := #[{ on := 9, ground := Ground.data }, { on := 10, ground := Ground.data }, { on := 7, ground := Ground.guard }], guard := some (7, false) }) (v := undef) rfl (by kernel_rfl) (by kernel_rfl) (by kernel_rfl) (fun _ _ _ h => h) (Or.inr ⟨by rfl, rfl⟩) hHeld ?_
      try simp only [Act.put, List.setIfInBounds_toArray, List.set_cons_zero, List.set_cons_succ]
      refine wpAnyH_take (i := 12) (oi := { dst := some 31, op := Op.pick (Operand.tmp 26) (Operand.const (Value.bool true)) (Operand.tmp 30), type := 4, pos := "node.go:48", after := #[{ on := 7, ground := Ground.data }, { on := 11, ground := Ground.data }], guard := none }) (v := ?_) rfl (by kernel_rfl) (by kernel_rfl) (by kernel_rfl) (fun _ _ _ h => h) (Or.inl ⟨by rfl, ?_⟩) hHeld ?_
      rotate_left
      focus (intro z hSw; clear hSw; go_simp; try with_reducible rfl)
      try simp only [Act.put, List.setIfInBounds_toArray, List.set_cons_zero, List.set_cons_succ]
      refine wpAnyH_done (by kernel_rfl) ?_ _
      go_wp2_with (first
        | ((with_reducible (show wpList _ _ _ (Oper.mk _ (Op.build 51 _) _ _ _ _ :: _) _ _)); refine wpList_val rfl (exec_bld51z rfl _) ?_)
        | ((with_reducible (show wpList _ _ _ (Oper.mk _ (Op.store 51 _ _) _ _ _ _ :: _) _ _)); refine wpList_store51 rfl (.tmp 2) (.tmp 32) rfl (B2.out.keep0 hHeld) zAs_len zAs_rows rfl rfl ?_; intro V9 b9 f9))
      refine bodyPost_ret (results_cell_slot (p := 2) (q := 3) rfl _ _ rfl rfl b9.var) rfl ?_
      exact unP_no H256.out HG.out (zeroNd_v _) ((F2.out.trans hHeld (by simp)).trans f9 (fun i hi => .inr (by simp at hi; omega)))
    | true =>
      rw [hok] at HNO
      simp only [if_true] at HNO
      have HGD2 := Lib.hid (show goodN S = (nodeB (ndOf S) && (secB (ndOf S) == S)) by rw [HGD.out, hok]; rfl)
      clear hok
      go_upto_region 5 with (first
        | ((with_reducible (show wpList _ _ _ (Oper.mk _ (Op.load 74 _) _ _ _ _ :: _) _ _)); refine wpList_load_g (by rfl) 74 _ rfl _ rfl LS.out ?_)
        | (go_at_call 68; refine (HNO.out _).mono ?_; rintro r w2 ⟨x, rfl, ⟨As, rfl, hps, hnw⟩, f2⟩)
        | ((with_reducible (show wpList _ _ _ (Oper.mk _ (Op.alloc 51) _ _ _ _ :: _) _ _)); refine wpList_lay51 rfl rfl rfl (.tmp 5) (.tmp 17) rfl hps.1 hps.rows rfl rfl ?_))
      have f3 : Frm [] W1 (w2.alloc (.cells (nc (ndOf S).lv As).toArray 51)) := f2.alloc _
      have B2 := Lib.hid (B1.out.keep0 f3)
      have S2 := Lib.hid (S1.out.keep0 f3)
      have F2 := Lib.hid (FS.out.trans f3 (by simp))
      have hN5 : BoxN (w2.alloc (.cells (nc (ndOf S).lv As).toArray 51)) w2.heap.size (.agg (nc (ndOf S).lv As).toArray) (ndOf S).lv As := ⟨rfl, NB.new _ _ hps.1 hps.rows⟩
      have hpsv : PtsV (w2.alloc (.cells (nc (ndOf S).lv As).toArray 51)) As (ndOf S).ps := hps.keep0 ((Frm.refl [] _).alloc _)
      have hv5 : NdV (w2.alloc (.cells (nc (ndOf S).lv As).toArray 51)) (.agg (nc (ndOf S).lv As).toArray) (ndOf S) := ⟨As, rfl, hps.keep0 ((Frm.refl [] _).alloc _)⟩
      generalize w2.alloc (.cells (nc (ndOf S).lv As).toArray 51) = V at *
      generalize hxx : Value.agg (nc (ndOf S).lv As).toArray = x5 at *
      have HXX := Lib.hid hxx
      have N5 := Lib.hid hN5
      have HV5 := Lib.hid hv5
      have hlt1 : w.heap.size < W1.heap.size := B1.out.lt
      have PS := Lib.hid (show PtsV V As (ndOf S).ps from hpsv)
      have NWS := Lib.hid (show ∀ A ∈ As, ∀ i ∈ ptBlk (.agg A), w.heap.size < i from fun A hA i hi => Nat.lt_of_lt_of_le hlt1 (hnw A hA i hi))
      clear hnw hlt1 hpsv
      have HC := Lib.hid (fun W (f : Frm [] V W) => nodeCheck_any x5 (ndOf S) W (HV5.out.keep0 f) (ndOf_ads S))
      clear f2 f3 hps hN5 hv5 hxx
      generalize w2.heap.size = g5 at *
      rcases nchk_cases (ndOf S) with ⟨hb, hc⟩ | ⟨hb, hc⟩
      · have HSC := Lib.hid (fun W (f : Frm [] V W) => sectorOf_any x5 (ndOf S) W (HV5.out.keep0 f) hb)
        have hln : (secB (ndOf S)).length = 256 := by
          obtain ⟨n1, n3, hst⟩ := nodeB_parts hb
          obtain ⟨As', _, hps⟩ := HV5.out
          rw [← secK_four hps.2.1]
          exact secK_length (fun p hp => enc_len (stand_may (hst p hp)) (hps.lens p hp)) hps.2.1 4 (by omega)
        have HLN := Lib.hid hln
        have HGD3 := Lib.hid (show goodN S = (secB (ndOf S) == S) by rw [HGD2.out, hb]; rfl)
        rw [hc] at HC
        clear hb hc hln
        refine wp_region_held_drew (S := fun z => Frm [] V z) (by kernel_rfl) ((Frm.refl [] V).drew) (fun hHeld => ?_)
        refine wpAnyH_take (i := 0) (oi := { dst := some 19, op := Op.move (Operand.tmp 6), type := 4, pos := "node.go:48", after := #[], guard := none }) (v := ?_) rfl (by kernel_rfl) (by kernel_rfl) (by kernel_rfl) (fun _ _ _ h => h) (Or.inl ⟨by rfl, ?_⟩) hHeld ?_
        rotate_left
        focus (intro z hSw; clear hSw; go_simp; try with_reducible rfl)
        try simp only [Act.put, List.setIfInBounds_toArray, List.set_cons_zero, List.set_cons_succ]
        refine wpAnyH_take (i := 1) (oi := { dst := some 20, op := Op.unOp UnOp.not 4 (Operand.tmp 19), type := 4, pos := "node.go:48", after := #[{ on := 0, ground := Ground.data }], guard := none }) (v := ?_) rfl (by kernel_rfl) (by kernel_rfl) (by kernel_rfl) (fun _ _ _ h => h) (Or.inl ⟨by rfl, ?_⟩) hHeld ?_
        rotate_left
        focus (intro z hSw; clear hSw; go_simp; try with_reducible rfl)
        try simp only [Act.put, List.setIfInBounds_toArray, List.set_cons_zero, List.set_cons_succ]
        refine wpAnyH_take (i := 2) (oi := { dst := some 21, op := Op.move (Operand.tmp 20), type := 4, pos := "node.go:48", after := #[{ on := 1, ground := Ground.data }], guard := none }) (v := ?_) rfl (by kernel_rfl) (by kernel_rfl) (by kernel_rfl) (fun _ _ _ h => h) (Or.inl ⟨by rfl, ?_⟩) hHeld ?_
        rotate_left
        focus (intro z hSw; clear hSw; go_simp; try with_reducible rfl)
        try simp only [Act.put, List.setIfInBounds_toArray, List.set_cons_zero, List.set_cons_succ]
        refine wpAnyH_take (i := 3) (oi := { dst := some 22, op := Op.load 51 (Operand.tmp 5), type := 51, pos := "node.go:48", after := #[{ on := 2, ground := Ground.guard }], guard := some (2, false) }) rfl (by kernel_rfl) (by kernel_rfl) (by kernel_rfl) (fun _ _ _ h => h) (yieldsIf_ld (by rfl) 51 _ rfl _ rfl (fun z hSw => (N5.out.keep0 hSw).load)) hHeld ?_
        try simp only [Act.put, List.setIfInBounds_toArray, List.set_cons_zero, List.set_cons_succ]
        refine wpAnyH_ready (rs := [4]) (by kernel_rfl) (by simp) ?_
        refine AllReadyH.cons (o := { dst := some 23, op := Op.call { callee := Callee.value (Operand.func 39), args := #[Operand.tmp 22], argTypes := #[51] }, type := 30, pos := "node.go:48", after := #[{ on := 3, ground := Ground.data }, { on := 2, ground := Ground.chain }, { on := 2, ground := Ground.guard }], guard := some (2, false) }) rfl (fun K hK => ?_) AllReadyH.nil
        go_simp
        refine (HC.out _ hHeld).mono ?_
        rintro r wn ⟨rfl, fn⟩
        refine hK.out _ _ ?_ (fun hNext => ?_)
        · exact hHeld.trans fn (by simp)
        clear hK K hHeld
        have hHeld := hNext
        clear hNext
        try simp only [Act.put, List.setIfInBounds_toArray, List.set_cons_zero, List.set_cons_succ]
        refine wpAnyH_take (i := 5) (oi := { dst := some 24, op := Op.binOp BinOp.neq 30 (Operand.tmp 23) (Operand.const (Value.int IntKind.i64 0)) 30, type := 4, pos := "node.go:48", after := #[{ on := 4, ground := Ground.data }, { on := 2, ground := Ground.guard }], guard := some (2, false) }) (v := ?_) rfl (by kernel_rfl) (by kernel_rfl) (by kernel_rfl) (fun _ _ _ h => h) (Or.inl ⟨by rfl, ?_⟩) hHeld ?_
        rotate_left
        focus (intro z hSw; clear hSw; go_simp; try with_reducible rfl)
        try simp only [Act.put, List.setIfInBounds_toArray, List.set_cons_zero, List.set_cons_succ]
        refine wpAnyH_take (i := 6) (oi := { dst := some 25, op := Op.pick (Operand.tmp 21) (Operand.const (Value.bool true)) (Operand.tmp 24), type := 4, pos := "node.go:48", after := #[{ on := 2, ground := Ground.data }, { on := 5, ground := Ground.data }], guard := none }) (v := ?_) rfl (by kernel_rfl) (by kernel_rfl) (by kernel_rfl) (fun _ _ _ h => h) (Or.inl ⟨by rfl, ?_⟩) hHeld ?_
        rotate_left
        focus (intro z hSw; clear hSw; go_simp; try with_reducible rfl)
        try simp only [Act.put, List.setIfInBounds_toArray, List.set_cons_zero, List.set_cons_succ]
        refine wpAnyH_take (i := 7) (oi := { dst := some 26, op := Op.move (Operand.tmp 25), type := 4, pos := "node.go:48", after := #[{ on := 6, ground := Ground.data }, { on := 4, ground := Ground.chain }], guard := none }) (v := ?_) rfl (by kernel_rfl) (by kernel_rfl) (by kernel_rfl) (fun _ _ _ h => h) (Or.inl ⟨by rfl, ?_⟩) hHeld ?_
        rotate_left
        focus (intro z hSw; clear hSw; go_simp; try with_reducible rfl)
        try simp only [Act.put, List.setIfInBounds_toArray, List.set_cons_zero, List.set_cons_succ]
        refine wpAnyH_take (i := 8) (oi := { dst := some 27, op := Op.load 51 (Operand.tmp 5), type := 51, pos := "node.go:48", after := #[{ on := 7, ground := Ground.guard }], guard := some (7, false) }) rfl (by kernel_rfl) (by kernel_rfl) (by kernel_rfl) (fun _ _ _ h => h) (yieldsIf_ld (by rfl) 51 _ rfl _ rfl (fun z hSw => (N5.out.keep0 hSw).load)) hHeld ?_
        try simp only [Act.put, List.setIfInBounds_toArray, List.set_cons_zero, List.set_cons_succ]
        refine wpAnyH_take (i := 10) (oi := { dst := some 29, op := Op.load 74 (Operand.tmp 4), type := 74, pos := "node.go:48", after := #[{ on := 7, ground := Ground.guard }], guard := some (7, false) }) rfl (by kernel_rfl) (by kernel_rfl) (by kernel_rfl) (fun _ _ _ h => h) (yieldsIf_ld (by rfl) 74 _ rfl _ rfl (fun z hSw => (S2.out.keep0 hSw).load H256.out)) hHeld ?_
        try simp only [Act.put, List.setIfInBounds_toArray, List.set_cons_zero, List.set_cons_succ]
        refine wpAnyH_ready (rs := [9]) (by kernel_rfl) (by simp) ?_
        refine AllReadyH.cons (o := { dst := some 28, op := Op.call { callee := Callee.value (Operand.func 63), args := #[Operand.tmp 27], argTypes := #[51] }, type := 74, pos := "node.go:48", after := #[{ on := 8, ground := Ground.data }, { on := 7, ground := Ground.chain }, { on := 7, ground := Ground.guard }], guard := some (7, false) }) rfl (fun K hK => ?_) AllReadyH.nil
        go_simp
        refine (HSC.out _ hHeld).mono ?_
        rintro r wn ⟨rfl, fn⟩
        refine hK.out _ _ ?_ (fun hNext => ?_)
        · exact hHeld.trans fn (by simp)
        clear hK K hHeld
        have hHeld := hNext
        clear hNext
        try simp only [Act.put, List.setIfInBounds_toArray, List.set_cons_zero, List.set_cons_succ]
        refine wpAnyH_take (i := 11) (oi := { dst := some 30, op := Op.binOp BinOp.neq 74 (Operand.tmp 28) (Operand.tmp 29) 74, type := 4, pos := "node.go:48", after := #[{ on := 9, ground := Ground.data }, { on := 10, ground := Ground.data }, { on := 7, ground := Ground.guard }], guard := some (7, false) }) rfl (by kernel_rfl) (by kernel_rfl) (by kernel_rfl) (fun _ _ _ h => h) (Or.inl ⟨by rfl, fun z hSw => exec_neq74 (.tmp 28) (.tmp 29) rfl rfl rfl HLN.out H256.out z⟩) hHeld ?_
        try simp only [Act.put, List.setIfInBounds_toArray, List.set_cons_zero, List.set_cons_succ]
        refine wpAnyH_take (i := 12) (oi := { dst := some 31, op := Op.pick (Operand.tmp 26) (Operand.const (Value.bool true)) (Operand.tmp 30), type := 4, pos := "node.go:48", after := #[{ on := 7, ground := Ground.data }, { on := 11, ground := Ground.data }], guard := none }) (v := ?_) rfl (by kernel_rfl) (by kernel_rfl) (by kernel_rfl) (fun _ _ _ h => h) (Or.inl ⟨by rfl, ?_⟩) hHeld ?_
        rotate_left
        focus (intro z hSw; clear hSw; go_simp; try with_reducible rfl)
        try simp only [Act.put, List.setIfInBounds_toArray, List.set_cons_zero, List.set_cons_succ]
        refine wpAnyH_done (by kernel_rfl) ?_ _
        rw [← HGD3.out]
        cases hgd : goodN S with
        | true =>
          have HG := Lib.hid hgd
          clear hgd
          go_wp2_with (first
            | ((with_reducible (show wpList _ _ _ (Oper.mk _ (Op.load 51 _) _ _ _ _ :: _) _ _)); refine wpList_load_g (by rfl) 51 _ rfl _ rfl (N5.out.keep0 hHeld).load ?_)
            | ((with_reducible (show wpList _ _ _ (Oper.mk _ (Op.store 51 _ _) _ _ _ _ :: _) _ _)); refine wpList_store51 rfl (.tmp 2) (.tmp 33) rfl (B2.out.keep0 hHeld) N5.out.2.2.1 N5.out.2.2.2 rfl HXX.out.symm ?_; intro V9 b9 f9))
          refine bodyPost_ret (results_cell_slot (p := 2) (q := 3) rfl _ _ rfl rfl b9.var) rfl ?_
          refine unP_yes HG.out ?_ ((F2.out.trans hHeld (by simp)).trans f9 (fun i hi => .inr (by simp at hi; omega)))
          exact ⟨As, rfl, (PS.out.keep0 hHeld).keep f9 (fun A hA i hi h => by have := NWS.out A hA i hi; simp at h; omega)⟩
        | false =>
          have HG := Lib.hid hgd
          clear hgd
          go_wp2_with (first
            | ((with_reducible (show wpList _ _ _ (Oper.mk _ (Op.build 51 _) _ _ _ _ :: _) _ _)); refine wpList_val rfl (exec_bld51z rfl _) ?_)
            | ((with_reducible (show wpList _ _ _ (Oper.mk _ (Op.store 51 _ _) _ _ _ _ :: _) _ _)); refine wpList_store51 rfl (.tmp 2) (.tmp 32) rfl (B2.out.keep0 hHeld) zAs_len zAs_rows rfl rfl ?_; intro V9 b9 f9))
          refine bodyPost_ret (results_cell_slot (p := 2) (q := 3) rfl _ _ rfl rfl b9.var) rfl ?_
          exact unP_no H256.out HG.out (zeroNd_v _) ((F2.out.trans hHeld (by simp)).trans f9 (fun i hi => .inr (by simp at hi; omega)))
      · have HG := Lib.hid (show goodN S = false by rw [HGD2.out, hb]; rfl)
        rw [hc] at HC
        clear hb hc
        refine wp_region_held_drew (S := fun z => Frm [] V z) (by kernel_rfl) ((Frm.refl [] V).drew) (fun hHeld => ?_)
        refine wpAnyH_take (i := 0) (oi := { dst := some 19, op := Op.move (Operand.tmp 6), type := 4, pos := "node.go:48", after := #[], guard := none }) (v := ?_) rfl (by kernel_rfl) (by kernel_rfl) (by kernel_rfl) (fun _ _ _ h => h) (Or.inl ⟨by rfl, ?_⟩) hHeld ?_
        rotate_left
        focus (intro z hSw; clear hSw; go_simp; try with_reducible rfl)
        try simp only [Act.put, List.setIfInBounds_toArray, List.set_cons_zero, List.set_cons_succ]
        refine wpAnyH_take (i := 1) (oi := { dst := some 20, op := Op.unOp UnOp.not 4 (Operand.tmp 19), type := 4, pos := "node.go:48", after := #[{ on := 0, ground := Ground.data }], guard := none }) (v := ?_) rfl (by kernel_rfl) (by kernel_rfl) (by kernel_rfl) (fun _ _ _ h => h) (Or.inl ⟨by rfl, ?_⟩) hHeld ?_
        rotate_left
        focus (intro z hSw; clear hSw; go_simp; try with_reducible rfl)
        try simp only [Act.put, List.setIfInBounds_toArray, List.set_cons_zero, List.set_cons_succ]
        refine wpAnyH_take (i := 2) (oi := { dst := some 21, op := Op.move (Operand.tmp 20), type := 4, pos := "node.go:48", after := #[{ on := 1, ground := Ground.data }], guard := none }) (v := ?_) rfl (by kernel_rfl) (by kernel_rfl) (by kernel_rfl) (fun _ _ _ h => h) (Or.inl ⟨by rfl, ?_⟩) hHeld ?_
        rotate_left
        focus (intro z hSw; clear hSw; go_simp; try with_reducible rfl)
        try simp only [Act.put, List.setIfInBounds_toArray, List.set_cons_zero, List.set_cons_succ]
        refine wpAnyH_take (i := 3) (oi := { dst := some 22, op := Op.load 51 (Operand.tmp 5), type := 51, pos := "node.go:48", after := #[{ on := 2, ground := Ground.guard }], guard := some (2, false) }) rfl (by kernel_rfl) (by kernel_rfl) (by kernel_rfl) (fun _ _ _ h => h) (yieldsIf_ld (by rfl) 51 _ rfl _ rfl (fun z hSw => (N5.out.keep0 hSw).load)) hHeld ?_
        try simp only [Act.put, List.setIfInBounds_toArray, List.set_cons_zero, List.set_cons_succ]
        refine wpAnyH_ready (rs := [4]) (by kernel_rfl) (by simp) ?_
        refine AllReadyH.cons (o := { dst := some 23, op := Op.call { callee := Callee.value (Operand.func 39), args := #[Operand.tmp 22], argTypes := #[51] }, type := 30, pos := "node.go:48", after := #[{ on := 3, ground := Ground.data }, { on := 2, ground := Ground.chain }, { on := 2, ground := Ground.guard }], guard := some (2, false) }) rfl (fun K hK => ?_) AllReadyH.nil
        go_simp
        refine (HC.out _ hHeld).mono ?_
        rintro r wn ⟨rfl, fn⟩
        refine hK.out _ _ ?_ (fun hNext => ?_)
        · exact hHeld.trans fn (by simp)
        clear hK K hHeld
        have hHeld := hNext
        clear hNext
        try simp only [Act.put, List.setIfInBounds_toArray, List.set_cons_zero, List.set_cons_succ]
        refine wpAnyH_take (i := 5) (oi := { dst := some 24, op := Op.binOp BinOp.neq 30 (Operand.tmp 23) (Operand.const (Value.int IntKind.i64 0)) 30, type := 4, pos := "node.go:48", after := #[{ on := 4, ground := Ground.data }, { on := 2, ground := Ground.guard }], guard := some (2, false) }) (v := ?_) rfl (by kernel_rfl) (by kernel_rfl) (by kernel_rfl) (fun _ _ _ h => h) (Or.inl ⟨by rfl, ?_⟩) hHeld ?_
        rotate_left
        focus (intro z hSw; clear hSw; go_simp; try with_reducible rfl)
        try simp only [Act.put, List.setIfInBounds_toArray, List.set_cons_zero, List.set_cons_succ]
        refine wpAnyH_take (i := 6) (oi := { dst := some 25, op := Op.pick (Operand.tmp 21) (Operand.const (Value.bool true)) (Operand.tmp 24), type := 4, pos := "node.go:48", after := #[{ on := 2, ground := Ground.data }, { on := 5, ground := Ground.data }], guard := none }) (v := ?_) rfl (by kernel_rfl) (by kernel_rfl) (by kernel_rfl) (fun _ _ _ h => h) (Or.inl ⟨by rfl, ?_⟩) hHeld ?_
        rotate_left
        focus (intro z hSw; clear hSw; go_simp; try with_reducible rfl)
        try simp only [Act.put, List.setIfInBounds_toArray, List.set_cons_zero, List.set_cons_succ]
        refine wpAnyH_take (i := 7) (oi := { dst := some 26, op := Op.move (Operand.tmp 25), type := 4, pos := "node.go:48", after := #[{ on := 6, ground := Ground.data }, { on := 4, ground := Ground.chain }], guard := none }) (v := ?_) rfl (by kernel_rfl) (by kernel_rfl) (by kernel_rfl) (fun _ _ _ h => h) (Or.inl ⟨by rfl, ?_⟩) hHeld ?_
        rotate_left
        focus (intro z hSw; clear hSw; go_simp; try with_reducible rfl)
        try simp only [Act.put, List.setIfInBounds_toArray, List.set_cons_zero, List.set_cons_succ]
        refine wpAnyH_take (i := 8) (oi := { dst := some 27, op := Op.load 51 (Operand.tmp 5), type := 51, pos := "node.go:48", after := #[{ on := 7, ground := Ground.guard }], guard := some (7, false) }) (v := undef) rfl (by kernel_rfl) (by kernel_rfl) (by kernel_rfl) (fun _ _ _ h => h) (Or.inr ⟨by rfl, rfl⟩) hHeld ?_
        try simp only [Act.put, List.setIfInBounds_toArray, List.set_cons_zero, List.set_cons_succ]
        refine wpAnyH_take (i := 9) (oi := { dst := some 28, op := Op.call { callee := Callee.value (Operand.func 63), args := #[Operand.tmp 27], argTypes := #[51] }, type := 74, pos := "node.go:48", after := #[{ on := 8, ground := Ground.data }, { on := 7, ground := Ground.chain }, { on := 7, ground := Ground.guard }], guard := some (7, false) }) (v := undef) rfl (by kernel_rfl) (by kernel_rfl) (by kernel_rfl) (fun _ _ _ h => h) (Or.inr ⟨by rfl, rfl⟩) hHeld ?_
        try simp only [Act.put, List.setIfInBounds_toArray, List.set_cons_zero, List.set_cons_succ]
        refine wpAnyH_take (i := 10) (oi := { dst := some 29, op := Op.load 74 (Operand.tmp 4), type := 74, pos := "node.go:48", after := #[{ on := 7, ground := Ground.guard }], guard := some (7, false) }) (v := undef) rfl (by kernel_rfl) (by kernel_rfl) (by kernel_rfl) (fun _ _ _ h => h) (Or.inr ⟨by rfl, rfl⟩) hHeld ?_
        try simp only [Act.put, List.setIfInBounds_toArray, List.set_cons_zero, List.set_cons_succ]
        refine wpAnyH_take (i := 11) (oi := { dst := some 30, op := Op.binOp BinOp.neq 74 (Operand.tmp 28) (Operand.tmp 29) 74, type := 4, pos := "node.go:48", after := #[{ on := 9, ground := Ground.data }, { on := 10, ground := Ground.data }, { on := 7, ground := Ground.guard }], guard := some (7, false) }) (v := undef) rfl (by kernel_rfl) (by kernel_rfl) (by kernel_rfl) (fun _ _ _ h => h) (Or.inr ⟨by rfl, rfl⟩) hHeld ?_
        try simp only [Act.put, List.setIfInBounds_toArray, List.set_cons_zero, List.set_cons_succ]
        refine wpAnyH_take (i := 12) (oi := { dst := some 31, op := Op.pick (Operand.tmp 26) (Operand.const (Value.bool true)) (Operand.tmp 30), type := 4, pos := "node.go:48", after := #[{ on := 7, ground := Ground.data }, { on := 11, ground := Ground.data }], guard := none }) (v := ?_) rfl (by kernel_rfl) (by kernel_rfl) (by kernel_rfl) (fun _ _ _ h => h) (Or.inl ⟨by rfl, ?_⟩) hHeld ?_
        rotate_left
        focus (intro z hSw; clear hSw; go_simp; try with_reducible rfl)
        try simp only [Act.put, List.setIfInBounds_toArray, List.set_cons_zero, List.set_cons_succ]
        refine wpAnyH_done (by kernel_rfl) ?_ _
        go_wp2_with (first
          | ((with_reducible (show wpList _ _ _ (Oper.mk _ (Op.build 51 _) _ _ _ _ :: _) _ _)); refine wpList_val rfl (exec_bld51z rfl _) ?_)
          | ((with_reducible (show wpList _ _ _ (Oper.mk _ (Op.store 51 _ _) _ _ _ _ :: _) _ _)); refine wpList_store51 rfl (.tmp 2) (.tmp 32) rfl (B2.out.keep0 hHeld) zAs_len zAs_rows rfl rfl ?_; intro V9 b9 f9))
        refine bodyPost_ret (results_cell_slot (p := 2) (q := 3) rfl _ _ rfl rfl b9.var) rfl ?_
        exact unP_no H256.out HG.out (zeroNd_v _) ((F2.out.trans hHeld (by simp)).trans f9 (fun i hi => .inr (by simp at hi; omega)))
  · go_enter Try.func47, Try.ntmps47
    go_upto_region 1 with ((with_reducible (show wpList _ _ _ (Oper.mk _ (Op.alloc 51) _ _ _ _ :: _) _ _)); refine wpList_val rfl (exec_alloc51 rfl _) ?_)
    try simp only [World.size_alloc]
    generalize w.alloc (.cells (nc 0 zAs).toArray 51) = W at *
    have H256 := Lib.hid h256
    have hne : ((S.length : Int) == 256) = false := by simp; omega
    have hne2 : decide ((S.length : Int) = 256) = false := by simp; omega
    clear h256 hS
    go_wp2_with (first
      | ((with_reducible (show wpList _ _ _ (Oper.mk _ (Op.build 51 _) _ _ _ _ :: _) _ _)); refine wpList_val rfl (exec_bld51z rfl _) ?_)
      | ((with_reducible (show wpList _ _ _ (Oper.mk _ (Op.store 51 _ _) _ _ _ _ :: _) _ _)); refine wpList_store51 rfl (.tmp 2) (.tmp 10) rfl b0 zAs_len zAs_rows rfl rfl ?_; intro V9 b9 f9))
    refine bodyPost_ret (results_cell_slot (p := 2) (q := 3) rfl _ _ rfl rfl b9.var) rfl ?_
    exact unP_len H256.out (zeroNd_v _) (f0.trans f9 (fun i hi => .inr (by simp at hi; omega)))
end Go.Proofs.Ytjjcjocomanohaa
