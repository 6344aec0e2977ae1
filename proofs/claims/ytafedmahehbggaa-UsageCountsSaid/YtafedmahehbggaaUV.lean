/-
  Contract of count.  No conditions but those that each theorem names.
-/
import Derived.Test.YtafedmahehbggaaUT
import Derived.Deep.MidRow
namespace Go.Proofs.Ytafedmahehbggaa
open Go.RowKit Go.Sort Go.Maps
set_option linter.unusedVariables false
set_option linter.unusedSimpArgs false
set_option maxRecDepth 100000

open Kr (OwnE SlE Enco RowTys)
open Go.MapKept Go.ChangeMaps Go.WideElems
theorem i25 : (Try.prog.info? 25).map (·.size) = some 2 := by kernel_rfl
theorem load25 {w : World} {g : Nat} {x : Ad} (h : w.heap[g]? = some (.cells #[.int .i64 x.1, .int .i64 x.2] 25 (0, 0))) : (Instr.loadAt 25 (.pointer (some ⟨g, 0, none⟩))).run Try.prog w = .ok (av x) w :=
  run_loadAt_mid w g 0 25 (ea x) _ (fun j u hu => by rw [Nat.zero_add, cell_of_heap h]; simpa [ea] using hu) Try.underlying25 rfl (by rw [i25]; rfl)
theorem exec_ld_run {o : Oper} {a : Act} {w : World} {x : Operand} {p v : Value} (ho : o.op = .load 25 x) (hx : a.eval x = p) (h : (Instr.loadAt 25 p).run Try.prog w = .ok v w) : (execOp a.eval o).run Try.prog w = .ok (.value v) w := by
  subst hx
  unfold execOp
  simp only [ho, Sem.run_bind, Sem.run_pure, h, Result.andThen_ok]
/-- Bits when the first k addresses of the i-th holder are counted too. -/
def fI (L : List (List Ad)) (l : List Ad) (i k : Nat) (x : Ad) : Nat := hb L x i ||| (if x ∈ l.take k then 2 ^ i else 0)
theorem fI_zero (L : List (List Ad)) (l : List Ad) (i : Nat) (x : Ad) : hb L x i = fI L l i 0 x := by simp [fI]
theorem fI_all {L : List (List Ad)} {l : List Ad} {i : Nat} (h : L.getD i [] = l) (x : Ad) : fI L l i l.length x = hb L x (i + 1) := by
  rw [fI, hb, List.take_length, h]
theorem fI_lt {L : List (List Ad)} {l : List Ad} {i k : Nat} (hi : i < 64) (x : Ad) : fI L l i k x < 18446744073709551616 := by
  have h1 : hb L x i < 2 ^ 64 := Nat.lt_of_lt_of_le (hb_lt L x i) (Nat.pow_le_pow_right (by omega) (by omega))
  refine Nat.or_lt_two_pow (n := 64) h1 ?_
  split
  · exact pow_lt64 hi
  · decide
theorem fI_step {L : List (List Ad)} {l : List Ad} {i k : Nat} (hk : k < l.length) (y : Ad) : (if y = l[k] then fI L l i k l[k] ||| 2 ^ i else fI L l i k y) = fI L l i (k + 1) y := by
  have e : l.take (k + 1) = l.take k ++ [l[k]] := setOf_step l k hk
  unfold fI
  rw [e]
  by_cases h : y = l[k]
  · subst h
    have hm : l[k] ∈ l.take k ++ [l[k]] := List.mem_append_right _ (List.mem_singleton.2 rfl)
    rw [if_pos rfl, Nat.or_assoc]
    simp only [hm, if_true]
    congr 1
    split <;> simp
  · rw [if_neg h]
    have : (y ∈ l.take k ++ [l[k]]) ↔ y ∈ l.take k := by rw [List.mem_append, List.mem_singleton]; exact ⟨fun h1 => h1.elim id fun h2 => absurd h2 h, .inl⟩
    simp only [this]
theorem or_ne (a i : Nat) : a ||| 2 ^ i ≠ 0 := fun e => by
  have : (a ||| 2 ^ i).testBit i = true := by rw [Nat.testBit_or, Nat.testBit_two_pow]; simp
  rw [e, Nat.zero_testBit] at this
  cases this
def CRel (L : List (List Ad)) (b : Nat) (w : World) (c : Value) (wr : World) : Prop := ∃ i : Nat, i ≤ L.length ∧ c = .int .i64 i ∧ (∃ n, n ≤ i * 1000 ∧ BitW wr b n fun x => hb L x i) ∧ Frm [] w wr
def DRel (L : List (List Ad)) (l : List Ad) (i b : Nat) (w : World) (c : Value) (wr : World) : Prop := ∃ k : Nat, k ≤ l.length ∧ c = .int .i64 k ∧ (∃ n, n ≤ i * 1000 + k ∧ BitW wr b n (fI L l i k)) ∧ Frm [] w wr
def Counted (L : List (List Ad)) (w : World) (e : Ending) (w' : World) : Prop := ∃ b n, e = .returned (.map (some b)) ∧ BitW w' b n (fun x => hb L x L.length) ∧ n ≤ 64000 ∧ Frm [] w w' ∧ w.heap.size ≤ b
set_option maxHeartbeats 4000000 in
theorem count_any (L : List (List Ad)) (v : Value) (first nm : Int) (w : World) (hS : LsA w v L) (hn : L.length ≤ 64) (hl : ∀ l ∈ L, l.length ≤ 1000) (hw : ∀ l ∈ L, ∀ x ∈ l, WfA x) :
    Calls Try.prog 37 #[.agg #[.int .i64 first, v, .int .u64 nm]] w (Counted L w) := by
  obtain ⟨a, cap, rfl, hcap⟩ := hS.form
  have hmm := @run_makeMap Try.prog
  have HS := Lib.hid hS
  have HL := Lib.hid hl
  have HW := Lib.hid hw
  have HN := Lib.hid hn
  have hn9 : (L.length : Int) ≤ 64 := by omega
  clear hS hl hw hn hcap
  go_enter Try.func37, Try.ntmps37
  go_upto_region 1 with (fail)
  have f0 : Frm [] w (w.alloc (.cells #[.int .i64 first, .slice a L.length cap, .int .u64 nm] 53)) := (Frm.refl [] w).alloc _
  have h0 := heap_alloc_new w (.cells #[.int .i64 first, .slice a L.length cap, .int .u64 nm] 53)
  generalize w.alloc (.cells #[.int .i64 first, .slice a L.length cap, .int .u64 nm] 53) = w0 at *
  obtain ⟨g0, hg0⟩ : ∃ g0, w.heap.size = g0 := ⟨_, rfl⟩
  rw [hg0] at h0 ⊢
  have q1 : w0.cell? ⟨g0, 1, none⟩ = some (.slice a L.length cap) := by rw [cell_of_heap h0]; rfl
  have G0 := Lib.hid (show w.heap.size ≤ w0.heap.size from f0.size)
  have F0 := Lib.hid f0
  have HQ := Lib.hid q1
  clear hg0 f0 h0 q1
  go_upto_region 2 with (fail)
  have h2 : BitW (w0.alloc (.map #[] 0)) w0.heap.size 0 (fun x => hb L x 0) := ⟨.map [], World.ownsMap_made w0 Try.prog 25 _, BitD.empty⟩
  have f2 : Frm [] w0 (w0.alloc (.map #[] 0)) := (Frm.refl [] w0).alloc _
  have hq2 := f2.cell HQ.out (by simp)
  generalize w0.alloc (.map #[] 0) = w2 at *
  obtain ⟨b, hb⟩ : ∃ b, w0.heap.size = b := ⟨_, rfl⟩
  rw [hb] at h2 ⊢
  have GB := Lib.hid (show w.heap.size ≤ b by have := G0.out; omega)
  have H2 := Lib.hid h2
  have F2 := Lib.hid (F0.out.trans f2 (by simp))
  clear hb h2 f2 hmm HQ
  go_wp2_with fail
  go_loopw [12] (CRel L b w) (fun c _ => L.length - (intOf c).toNat)
  case atStart => exact ⟨0, by omega, rfl, ⟨0, by omega, H2.out⟩, F2.out⟩
  case round =>
    obtain ⟨i, hi, rfl, ⟨n, hni, hB⟩, f⟩ := hrel
    by_cases hlt : i < L.length
    · obtain ⟨b0, off, rfl⟩ := HS.out.at (by omega)
      obtain ⟨c, s, hc0, hsl⟩ := HS.out.cell i hlt
      have hc := f.cell hc0 (by simp)
      clear hc0
      have hmem := List.getElem_mem hlt
      have hgd := getD_at hlt
      have hll := HL.out _ hmem
      have hwl := HW.out _ hmem
      generalize L[i] = l at *
      obtain ⟨la, lcap, rfl, _, _⟩ := hsl.form
      have hll9 : (l.length : Int) ≤ 1000 := by omega
      have SL := Lib.hid hsl
      have GD := Lib.hid hgd
      have LL := Lib.hid hll
      have WL := Lib.hid hwl
      have BB := Lib.hid hB
      have F := Lib.hid f
      have NI := Lib.hid hni
      have IT := Lib.hid (show i < 64 by have := HN.out; omega)
      clear hmem hgd hll hwl hB f hsl hni
      go_wp2_with fail
      go_loopw [19] (DRel L l i b w) (fun c _ => l.length - (intOf c).toNat)
      case atStart => exact ⟨0, by omega, rfl, ⟨n, by have := NI.out; omega, BB.out.congr (fI_zero L l i)⟩, F.out⟩
      case round =>
        obtain ⟨k, hk, rfl, ⟨m, hmi, hB⟩, f⟩ := hrel
        by_cases hlt2 : k < l.length
        · obtain ⟨b1, off1, rfl⟩ := SL.out.at (by omega)
          obtain ⟨c0, c1⟩ := (SL.out.keep f (by simp)).cells k hlt2
          have hwx := WL.out l[k] (List.getElem_mem _)
          have hst := fI_step (L := L) (i := i) hlt2
          have hne := or_ne (fI L l i k l[k]) i
          generalize hx : l[k] = x at *
          have WX := Lib.hid hwx
          have ST := Lib.hid hst
          have NE := Lib.hid hne
          have BB2 := Lib.hid hB
          have F2 := Lib.hid f
          have MI := Lib.hid hmi
          clear hx hwx hst hne hB f hmi
          go_upto_region 8 with (fail)
          have f3 : Frm [] wr (wr.alloc (.cells #[.int .i64 x.1, .int .i64 x.2] 25)) := (Frm.refl [] wr).alloc _
          have h3 := heap_alloc_new wr (.cells #[.int .i64 x.1, .int .i64 x.2] 25)
          have B3 := BB2.out.keep f3 (by simp)
          generalize wr.alloc (.cells #[.int .i64 x.1, .int .i64 x.2] 25) = W at *
          obtain ⟨gx, hgx⟩ : ∃ gx, wr.heap.size = gx := ⟨_, rfl⟩
          rw [hgx] at h3 ⊢
          have hld : (Instr.loadAt 25 (.pointer (some ⟨gx, 0, none⟩))).run Try.prog W.drew = .ok (av x) W.drew := load25 (x := x) (w := W.drew) h3
          obtain ⟨st, W2, W3, hstp⟩ := bit_step (W := W.drew) (f := fI L l i k) B3 (by simp only [maxLen]; have := MI.out; have := LL.out; have := IT.out; omega) x WX.out (2 ^ i) NE.out (fI_lt IT.out x) (pow_lt64 IT.out)
          have hor : bits BinOp.or IntKind.u64 ((fI L l i k x : Nat) : Int) ((2 ^ i : Nat) : Int) = ((fI L l i k x ||| 2 ^ i : Nat) : Int) := u64_or_nat _ _ (fI_lt IT.out x) (pow_lt64 IT.out)
          have HBIT := Lib.hid (fun W => bit_any i IT.out W)
          have e1 := hstp.look
          have e2 := hstp.entry
          have e3 := hstp.look2
          have e4 := hstp.store
          have HSTP := Lib.hid hstp
          have FF := Lib.hid (show Frm [] w W3 from (F2.out.trans (f3.drew) (by simp)).trans (Frm.of_grown hstp.grown (L := [b]) (by simp)) (by have := GB.out; simp; omega))
          clear hstp f3 h3 B3 hgx
          generalize ((fI L l i k x ||| 2 ^ i : Nat) : Int) = qq at *
          generalize ((fI L l i k x : Nat) : Int) = pp at *
          generalize ((2 ^ i : Nat) : Int) = dd at *
          generalize av x = ax at *
          refine wp_region_any (by kernel_rfl) ?_
          refine wpAny_take (i := 0) (oi := { dst := some 23, op := Op.move (Operand.tmp 3), type := 55, pos := "row.go:43", after := #[], guard := none }) (v := ?_) rfl (by kernel_rfl) (by kernel_rfl) (by kernel_rfl) (fun _ _ _ h => h) (Or.inl ⟨by rfl, ?_⟩) ?_
          rotate_left
          focus (intro z; go_simp; try with_reducible rfl)
          try simp only [Act.put, List.setIfInBounds_toArray, List.set_cons_zero, List.set_cons_succ]
          refine wpAny_take (i := 3) (oi := { dst := some 26, op := Op.move (Operand.tmp 4), type := 3, pos := "row.go:43", after := #[], guard := none }) (v := ?_) rfl (by kernel_rfl) (by kernel_rfl) (by kernel_rfl) (fun _ _ _ h => h) (Or.inl ⟨by rfl, ?_⟩) ?_
          rotate_left
          focus (intro z; go_simp; try with_reducible rfl)
          try simp only [Act.put, List.setIfInBounds_toArray, List.set_cons_zero, List.set_cons_succ]
          refine wpAny_ready (rs := [1, 4]) (by kernel_rfl) (by simp) ?_
          refine AllReady.cons (o := { dst := some 24, op := Op.load 25 (Operand.tmp 7), type := 25, pos := "row.go:43", after := #[], guard := none }) rfl (fun K hK => ?_) ?_
          · refine step_val (v := ax) (w' := W.drew) rfl (exec_ld_run rfl rfl hld) ?_
            refine hK _ _ ?_
            clear hK K
            try rfl
            try simp only [Act.put, List.setIfInBounds_toArray, List.set_cons_zero, List.set_cons_succ]
            refine wpAny_ready (rs := [2, 4]) (by kernel_rfl) (by simp) ?_
            refine AllReady.cons (o := { dst := some 25, op := Op.lookup 55 (Operand.tmp 23) (Operand.tmp 24) false, type := 51, pos := "row.go:43", after := #[{ on := 0, ground := Ground.data }, { on := 1, ground := Ground.data }], guard := none }) rfl (fun K hK => ?_) ?_
            · go_simp
              refine hK _ _ ?_
              clear hK K
              try simp only [Act.put, List.setIfInBounds_toArray, List.set_cons_zero, List.set_cons_succ]
              refine wpAny_ready (rs := [4]) (by kernel_rfl) (by simp) ?_
              refine AllReady.cons (o := { dst := some 27, op := Op.call { callee := Callee.value (Operand.func 56), args := #[Operand.tmp 26], argTypes := #[3] }, type := 51, pos := "row.go:43", after := #[{ on := 3, ground := Ground.data }], guard := none }) rfl (fun K hK => ?_) ?_
              · go_simp
                refine (HBIT.out _).mono ?_
                rintro e w9 ⟨rfl, hw9⟩
                obtain rfl := hw9.symm
                refine hK _ _ ?_
                clear hK K
                try simp only [Act.put, List.setIfInBounds_toArray, List.set_cons_zero, List.set_cons_succ]
                refine wpAny_take (i := 5) (oi := { dst := some 28, op := Op.binOp BinOp.or 51 (Operand.tmp 25) (Operand.tmp 27) 51, type := 51, pos := "row.go:43", after := #[{ on := 2, ground := Ground.data }, { on := 4, ground := Ground.data }], guard := none }) (v := ?_) rfl (by kernel_rfl) (by kernel_rfl) (by kernel_rfl) (fun _ _ _ h => h) (Or.inl ⟨by rfl, ?_⟩) ?_
                rotate_left
                focus (intro z; go_simp; try with_reducible rfl)
                try simp only [Act.put, List.setIfInBounds_toArray, List.set_cons_zero, List.set_cons_succ]
                refine wpAny_ready (rs := [6]) (by kernel_rfl) (by simp) ?_
                refine AllReady.cons (o := { dst := some 29, op := Op.mapEntry 55 (Operand.tmp 23) (Operand.tmp 24), type := 0, pos := "row.go:43", after := #[{ on := 0, ground := Ground.data }, { on := 1, ground := Ground.data }, { on := 4, ground := Ground.chain }, { on := 0, ground := Ground.phase }, { on := 1, ground := Ground.phase }, { on := 2, ground := Ground.textOnly Departure.mapOpAssignEntry }, { on := 3, ground := Ground.phase }, { on := 4, ground := Ground.phase }, { on := 5, ground := Ground.textOnly Departure.mapOpAssignEntry }], guard := none }) rfl (fun K hK => ?_) ?_
                · go_simp
                  refine hK _ _ ?_
                  clear hK K
                  try simp only [Act.put, List.setIfInBounds_toArray, List.set_cons_zero, List.set_cons_succ]
                  refine wpAny_take (i := 7) (oi := { dst := some 30, op := Op.extract (Operand.tmp 29) 1, type := 3, pos := "row.go:43", after := #[{ on := 6, ground := Ground.data }], guard := none }) (v := ?_) rfl (by kernel_rfl) (by kernel_rfl) (by kernel_rfl) (fun _ _ _ h => h) (Or.inl ⟨by rfl, ?_⟩) ?_
                  rotate_left
                  focus (intro z; go_simp; try with_reducible rfl)
                  try simp only [Act.put, List.setIfInBounds_toArray, List.set_cons_zero, List.set_cons_succ]
                  refine wpAny_ready (rs := [8]) (by kernel_rfl) (by simp) ?_
                  refine AllReady.cons (o := { dst := none, op := Op.entryStore 55 (Operand.tmp 23) (Operand.tmp 30) (Operand.tmp 28), type := 0, pos := "row.go:43", after := #[{ on := 0, ground := Ground.data }, { on := 7, ground := Ground.data }, { on := 5, ground := Ground.data }, { on := 6, ground := Ground.chain }, { on := 0, ground := Ground.phase }, { on := 1, ground := Ground.phase }, { on := 2, ground := Ground.phase }, { on := 3, ground := Ground.phase }, { on := 4, ground := Ground.phase }, { on := 5, ground := Ground.phase }, { on := 6, ground := Ground.phase }, { on := 7, ground := Ground.phase }], guard := none }) rfl (fun K hK => ?_) ?_
                  · go_simp
                    refine hK _ _ ?_
                    clear hK K
                    try simp only [Act.put, List.setIfInBounds_toArray, List.set_cons_zero, List.set_cons_succ]
                    refine wpAny_done (by kernel_rfl) ?_ _
                    clear e1 e2 e3 e4 hld
                    go_wp2_with fail
                    go_roundw
                    case rel => exact ⟨k + 1, by omega, by go_num, ⟨m + 1, by have := MI.out; omega, HSTP.out.own.congr ST.out⟩, FF.out⟩
                    case measure => simp [intOf]; omega
                  exact AllReady.nil
                exact AllReady.nil
              exact AllReady.nil
            refine AllReady.cons (o := { dst := some 27, op := Op.call { callee := Callee.value (Operand.func 56), args := #[Operand.tmp 26], argTypes := #[3] }, type := 51, pos := "row.go:43", after := #[{ on := 3, ground := Ground.data }], guard := none }) rfl (fun K hK => ?_) ?_
            · go_simp
              refine (HBIT.out _).mono ?_
              rintro e w9 ⟨rfl, hw9⟩
              obtain rfl := hw9.symm
              refine hK _ _ ?_
              clear hK K
              try simp only [Act.put, List.setIfInBounds_toArray, List.set_cons_zero, List.set_cons_succ]
              refine wpAny_ready (rs := [2, 6]) (by kernel_rfl) (by simp) ?_
              refine AllReady.cons (o := { dst := some 25, op := Op.lookup 55 (Operand.tmp 23) (Operand.tmp 24) false, type := 51, pos := "row.go:43", after := #[{ on := 0, ground := Ground.data }, { on := 1, ground := Ground.data }], guard := none }) rfl (fun K hK => ?_) ?_
              · go_simp
                refine hK _ _ ?_
                clear hK K
                try simp only [Act.put, List.setIfInBounds_toArray, List.set_cons_zero, List.set_cons_succ]
                refine wpAny_take (i := 5) (oi := { dst := some 28, op := Op.binOp BinOp.or 51 (Operand.tmp 25) (Operand.tmp 27) 51, type := 51, pos := "row.go:43", after := #[{ on := 2, ground := Ground.data }, { on := 4, ground := Ground.data }], guard := none }) (v := ?_) rfl (by kernel_rfl) (by kernel_rfl) (by kernel_rfl) (fun _ _ _ h => h) (Or.inl ⟨by rfl, ?_⟩) ?_
                rotate_left
                focus (intro z; go_simp; try with_reducible rfl)
                try simp only [Act.put, List.setIfInBounds_toArray, List.set_cons_zero, List.set_cons_succ]
                refine wpAny_ready (rs := [6]) (by kernel_rfl) (by simp) ?_
                refine AllReady.cons (o := { dst := some 29, op := Op.mapEntry 55 (Operand.tmp 23) (Operand.tmp 24), type := 0, pos := "row.go:43", after := #[{ on := 0, ground := Ground.data }, { on := 1, ground := Ground.data }, { on := 4, ground := Ground.chain }, { on := 0, ground := Ground.phase }, { on := 1, ground := Ground.phase }, { on := 2, ground := Ground.textOnly Departure.mapOpAssignEntry }, { on := 3, ground := Ground.phase }, { on := 4, ground := Ground.phase }, { on := 5, ground := Ground.textOnly Departure.mapOpAssignEntry }], guard := none }) rfl (fun K hK => ?_) ?_
                · go_simp
                  refine hK _ _ ?_
                  clear hK K
                  try simp only [Act.put, List.setIfInBounds_toArray, List.set_cons_zero, List.set_cons_succ]
                  refine wpAny_take (i := 7) (oi := { dst := some 30, op := Op.extract (Operand.tmp 29) 1, type := 3, pos := "row.go:43", after := #[{ on := 6, ground := Ground.data }], guard := none }) (v := ?_) rfl (by kernel_rfl) (by kernel_rfl) (by kernel_rfl) (fun _ _ _ h => h) (Or.inl ⟨by rfl, ?_⟩) ?_
                  rotate_left
                  focus (intro z; go_simp; try with_reducible rfl)
                  try simp only [Act.put, List.setIfInBounds_toArray, List.set_cons_zero, List.set_cons_succ]
                  refine wpAny_ready (rs := [8]) (by kernel_rfl) (by simp) ?_
                  refine AllReady.cons (o := { dst := none, op := Op.entryStore 55 (Operand.tmp 23) (Operand.tmp 30) (Operand.tmp 28), type := 0, pos := "row.go:43", after := #[{ on := 0, ground := Ground.data }, { on := 7, ground := Ground.data }, { on := 5, ground := Ground.data }, { on := 6, ground := Ground.chain }, { on := 0, ground := Ground.phase }, { on := 1, ground := Ground.phase }, { on := 2, ground := Ground.phase }, { on := 3, ground := Ground.phase }, { on := 4, ground := Ground.phase }, { on := 5, ground := Ground.phase }, { on := 6, ground := Ground.phase }, { on := 7, ground := Ground.phase }], guard := none }) rfl (fun K hK => ?_) ?_
                  · go_simp
                    refine hK _ _ ?_
                    clear hK K
                    try simp only [Act.put, List.setIfInBounds_toArray, List.set_cons_zero, List.set_cons_succ]
                    refine wpAny_done (by kernel_rfl) ?_ _
                    clear e1 e2 e3 e4 hld
                    go_wp2_with fail
                    go_roundw
                    case rel => exact ⟨k + 1, by omega, by go_num, ⟨m + 1, by have := MI.out; omega, HSTP.out.own.congr ST.out⟩, FF.out⟩
                    case measure => simp [intOf]; omega
                  exact AllReady.nil
                exact AllReady.nil
              refine AllReady.cons (o := { dst := some 29, op := Op.mapEntry 55 (Operand.tmp 23) (Operand.tmp 24), type := 0, pos := "row.go:43", after := #[{ on := 0, ground := Ground.data }, { on := 1, ground := Ground.data }, { on := 4, ground := Ground.chain }, { on := 0, ground := Ground.phase }, { on := 1, ground := Ground.phase }, { on := 2, ground := Ground.textOnly Departure.mapOpAssignEntry }, { on := 3, ground := Ground.phase }, { on := 4, ground := Ground.phase }, { on := 5, ground := Ground.textOnly Departure.mapOpAssignEntry }], guard := none }) rfl (fun K hK => ?_) ?_
              · go_simp
                refine hK _ _ ?_
                clear hK K
                try simp only [Act.put, List.setIfInBounds_toArray, List.set_cons_zero, List.set_cons_succ]
                refine wpAny_take (i := 7) (oi := { dst := some 30, op := Op.extract (Operand.tmp 29) 1, type := 3, pos := "row.go:43", after := #[{ on := 6, ground := Ground.data }], guard := none }) (v := ?_) rfl (by kernel_rfl) (by kernel_rfl) (by kernel_rfl) (fun _ _ _ h => h) (Or.inl ⟨by rfl, ?_⟩) ?_
                rotate_left
                focus (intro z; go_simp; try with_reducible rfl)
                try simp only [Act.put, List.setIfInBounds_toArray, List.set_cons_zero, List.set_cons_succ]
                refine wpAny_ready (rs := [2]) (by kernel_rfl) (by simp) ?_
                refine AllReady.cons (o := { dst := some 25, op := Op.lookup 55 (Operand.tmp 23) (Operand.tmp 24) false, type := 51, pos := "row.go:43", after := #[{ on := 0, ground := Ground.data }, { on := 1, ground := Ground.data }], guard := none }) rfl (fun K hK => ?_) ?_
                · go_simp
                  refine hK _ _ ?_
                  clear hK K
                  try simp only [Act.put, List.setIfInBounds_toArray, List.set_cons_zero, List.set_cons_succ]
                  refine wpAny_take (i := 5) (oi := { dst := some 28, op := Op.binOp BinOp.or 51 (Operand.tmp 25) (Operand.tmp 27) 51, type := 51, pos := "row.go:43", after := #[{ on := 2, ground := Ground.data }, { on := 4, ground := Ground.data }], guard := none }) (v := ?_) rfl (by kernel_rfl) (by kernel_rfl) (by kernel_rfl) (fun _ _ _ h => h) (Or.inl ⟨by rfl, ?_⟩) ?_
                  rotate_left
                  focus (intro z; go_simp; try with_reducible rfl)
                  try simp only [Act.put, List.setIfInBounds_toArray, List.set_cons_zero, List.set_cons_succ]
                  refine wpAny_ready (rs := [8]) (by kernel_rfl) (by simp) ?_
                  refine AllReady.cons (o := { dst := none, op := Op.entryStore 55 (Operand.tmp 23) (Operand.tmp 30) (Operand.tmp 28), type := 0, pos := "row.go:43", after := #[{ on := 0, ground := Ground.data }, { on := 7, ground := Ground.data }, { on := 5, ground := Ground.data }, { on := 6, ground := Ground.chain }, { on := 0, ground := Ground.phase }, { on := 1, ground := Ground.phase }, { on := 2, ground := Ground.phase }, { on := 3, ground := Ground.phase }, { on := 4, ground := Ground.phase }, { on := 5, ground := Ground.phase }, { on := 6, ground := Ground.phase }, { on := 7, ground := Ground.phase }], guard := none }) rfl (fun K hK => ?_) ?_
                  · go_simp
                    refine hK _ _ ?_
                    clear hK K
                    try simp only [Act.put, List.setIfInBounds_toArray, List.set_cons_zero, List.set_cons_succ]
                    refine wpAny_done (by kernel_rfl) ?_ _
                    clear e1 e2 e3 e4 hld
                    go_wp2_with fail
                    go_roundw
                    case rel => exact ⟨k + 1, by omega, by go_num, ⟨m + 1, by have := MI.out; omega, HSTP.out.own.congr ST.out⟩, FF.out⟩
                    case measure => simp [intOf]; omega
                  exact AllReady.nil
                exact AllReady.nil
              exact AllReady.nil
            exact AllReady.nil
          refine AllReady.cons (o := { dst := some 27, op := Op.call { callee := Callee.value (Operand.func 56), args := #[Operand.tmp 26], argTypes := #[3] }, type := 51, pos := "row.go:43", after := #[{ on := 3, ground := Ground.data }], guard := none }) rfl (fun K hK => ?_) ?_
          · go_simp
            refine (HBIT.out _).mono ?_
            rintro e w9 ⟨rfl, hw9⟩
            obtain rfl := hw9.symm
            refine hK _ _ ?_
            clear hK K
            try simp only [Act.put, List.setIfInBounds_toArray, List.set_cons_zero, List.set_cons_succ]
            refine wpAny_ready (rs := [1]) (by kernel_rfl) (by simp) ?_
            refine AllReady.cons (o := { dst := some 24, op := Op.load 25 (Operand.tmp 7), type := 25, pos := "row.go:43", after := #[], guard := none }) rfl (fun K hK => ?_) ?_
            · refine step_val (v := ax) (w' := W.drew) rfl (exec_ld_run rfl rfl hld) ?_
              refine hK _ _ ?_
              clear hK K
              try rfl
              try simp only [Act.put, List.setIfInBounds_toArray, List.set_cons_zero, List.set_cons_succ]
              refine wpAny_ready (rs := [2, 6]) (by kernel_rfl) (by simp) ?_
              refine AllReady.cons (o := { dst := some 25, op := Op.lookup 55 (Operand.tmp 23) (Operand.tmp 24) false, type := 51, pos := "row.go:43", after := #[{ on := 0, ground := Ground.data }, { on := 1, ground := Ground.data }], guard := none }) rfl (fun K hK => ?_) ?_
              · go_simp
                refine hK _ _ ?_
                clear hK K
                try simp only [Act.put, List.setIfInBounds_toArray, List.set_cons_zero, List.set_cons_succ]
                refine wpAny_take (i := 5) (oi := { dst := some 28, op := Op.binOp BinOp.or 51 (Operand.tmp 25) (Operand.tmp 27) 51, type := 51, pos := "row.go:43", after := #[{ on := 2, ground := Ground.data }, { on := 4, ground := Ground.data }], guard := none }) (v := ?_) rfl (by kernel_rfl) (by kernel_rfl) (by kernel_rfl) (fun _ _ _ h => h) (Or.inl ⟨by rfl, ?_⟩) ?_
                rotate_left
                focus (intro z; go_simp; try with_reducible rfl)
                try simp only [Act.put, List.setIfInBounds_toArray, List.set_cons_zero, List.set_cons_succ]
                refine wpAny_ready (rs := [6]) (by kernel_rfl) (by simp) ?_
                refine AllReady.cons (o := { dst := some 29, op := Op.mapEntry 55 (Operand.tmp 23) (Operand.tmp 24), type := 0, pos := "row.go:43", after := #[{ on := 0, ground := Ground.data }, { on := 1, ground := Ground.data }, { on := 4, ground := Ground.chain }, { on := 0, ground := Ground.phase }, { on := 1, ground := Ground.phase }, { on := 2, ground := Ground.textOnly Departure.mapOpAssignEntry }, { on := 3, ground := Ground.phase }, { on := 4, ground := Ground.phase }, { on := 5, ground := Ground.textOnly Departure.mapOpAssignEntry }], guard := none }) rfl (fun K hK => ?_) ?_
                · go_simp
                  refine hK _ _ ?_
                  clear hK K
                  try simp only [Act.put, List.setIfInBounds_toArray, List.set_cons_zero, List.set_cons_succ]
                  refine wpAny_take (i := 7) (oi := { dst := some 30, op := Op.extract (Operand.tmp 29) 1, type := 3, pos := "row.go:43", after := #[{ on := 6, ground := Ground.data }], guard := none }) (v := ?_) rfl (by kernel_rfl) (by kernel_rfl) (by kernel_rfl) (fun _ _ _ h => h) (Or.inl ⟨by rfl, ?_⟩) ?_
                  rotate_left
                  focus (intro z; go_simp; try with_reducible rfl)
                  try simp only [Act.put, List.setIfInBounds_toArray, List.set_cons_zero, List.set_cons_succ]
                  refine wpAny_ready (rs := [8]) (by kernel_rfl) (by simp) ?_
                  refine AllReady.cons (o := { dst := none, op := Op.entryStore 55 (Operand.tmp 23) (Operand.tmp 30) (Operand.tmp 28), type := 0, pos := "row.go:43", after := #[{ on := 0, ground := Ground.data }, { on := 7, ground := Ground.data }, { on := 5, ground := Ground.data }, { on := 6, ground := Ground.chain }, { on := 0, ground := Ground.phase }, { on := 1, ground := Ground.phase }, { on := 2, ground := Ground.phase }, { on := 3, ground := Ground.phase }, { on := 4, ground := Ground.phase }, { on := 5, ground := Ground.phase }, { on := 6, ground := Ground.phase }, { on := 7, ground := Ground.phase }], guard := none }) rfl (fun K hK => ?_) ?_
                  · go_simp
                    refine hK _ _ ?_
                    clear hK K
                    try simp only [Act.put, List.setIfInBounds_toArray, List.set_cons_zero, List.set_cons_succ]
                    refine wpAny_done (by kernel_rfl) ?_ _
                    clear e1 e2 e3 e4 hld
                    go_wp2_with fail
                    go_roundw
                    case rel => exact ⟨k + 1, by omega, by go_num, ⟨m + 1, by have := MI.out; omega, HSTP.out.own.congr ST.out⟩, FF.out⟩
                    case measure => simp [intOf]; omega
                  exact AllReady.nil
                exact AllReady.nil
              refine AllReady.cons (o := { dst := some 29, op := Op.mapEntry 55 (Operand.tmp 23) (Operand.tmp 24), type := 0, pos := "row.go:43", after := #[{ on := 0, ground := Ground.data }, { on := 1, ground := Ground.data }, { on := 4, ground := Ground.chain }, { on := 0, ground := Ground.phase }, { on := 1, ground := Ground.phase }, { on := 2, ground := Ground.textOnly Departure.mapOpAssignEntry }, { on := 3, ground := Ground.phase }, { on := 4, ground := Ground.phase }, { on := 5, ground := Ground.textOnly Departure.mapOpAssignEntry }], guard := none }) rfl (fun K hK => ?_) ?_
              · go_simp
                refine hK _ _ ?_
                clear hK K
                try simp only [Act.put, List.setIfInBounds_toArray, List.set_cons_zero, List.set_cons_succ]
                refine wpAny_take (i := 7) (oi := { dst := some 30, op := Op.extract (Operand.tmp 29) 1, type := 3, pos := "row.go:43", after := #[{ on := 6, ground := Ground.data }], guard := none }) (v := ?_) rfl (by kernel_rfl) (by kernel_rfl) (by kernel_rfl) (fun _ _ _ h => h) (Or.inl ⟨by rfl, ?_⟩) ?_
                rotate_left
                focus (intro z; go_simp; try with_reducible rfl)
                try simp only [Act.put, List.setIfInBounds_toArray, List.set_cons_zero, List.set_cons_succ]
                refine wpAny_ready (rs := [2]) (by kernel_rfl) (by simp) ?_
                refine AllReady.cons (o := { dst := some 25, op := Op.lookup 55 (Operand.tmp 23) (Operand.tmp 24) false, type := 51, pos := "row.go:43", after := #[{ on := 0, ground := Ground.data }, { on := 1, ground := Ground.data }], guard := none }) rfl (fun K hK => ?_) ?_
                · go_simp
                  refine hK _ _ ?_
                  clear hK K
                  try simp only [Act.put, List.setIfInBounds_toArray, List.set_cons_zero, List.set_cons_succ]
                  refine wpAny_take (i := 5) (oi := { dst := some 28, op := Op.binOp BinOp.or 51 (Operand.tmp 25) (Operand.tmp 27) 51, type := 51, pos := "row.go:43", after := #[{ on := 2, ground := Ground.data }, { on := 4, ground := Ground.data }], guard := none }) (v := ?_) rfl (by kernel_rfl) (by kernel_rfl) (by kernel_rfl) (fun _ _ _ h => h) (Or.inl ⟨by rfl, ?_⟩) ?_
                  rotate_left
                  focus (intro z; go_simp; try with_reducible rfl)
                  try simp only [Act.put, List.setIfInBounds_toArray, List.set_cons_zero, List.set_cons_succ]
                  refine wpAny_ready (rs := [8]) (by kernel_rfl) (by simp) ?_
                  refine AllReady.cons (o := { dst := none, op := Op.entryStore 55 (Operand.tmp 23) (Operand.tmp 30) (Operand.tmp 28), type := 0, pos := "row.go:43", after := #[{ on := 0, ground := Ground.data }, { on := 7, ground := Ground.data }, { on := 5, ground := Ground.data }, { on := 6, ground := Ground.chain }, { on := 0, ground := Ground.phase }, { on := 1, ground := Ground.phase }, { on := 2, ground := Ground.phase }, { on := 3, ground := Ground.phase }, { on := 4, ground := Ground.phase }, { on := 5, ground := Ground.phase }, { on := 6, ground := Ground.phase }, { on := 7, ground := Ground.phase }], guard := none }) rfl (fun K hK => ?_) ?_
                  · go_simp
                    refine hK _ _ ?_
                    clear hK K
                    try simp only [Act.put, List.setIfInBounds_toArray, List.set_cons_zero, List.set_cons_succ]
                    refine wpAny_done (by kernel_rfl) ?_ _
                    clear e1 e2 e3 e4 hld
                    go_wp2_with fail
                    go_roundw
                    case rel => exact ⟨k + 1, by omega, by go_num, ⟨m + 1, by have := MI.out; omega, HSTP.out.own.congr ST.out⟩, FF.out⟩
                    case measure => simp [intOf]; omega
                  exact AllReady.nil
                exact AllReady.nil
              exact AllReady.nil
            exact AllReady.nil
          exact AllReady.nil
        · obtain rfl : k = l.length := by omega
          have B2 := Lib.hid (hB.congr (fI_all GD.out))
          have F3 := Lib.hid f
          have MI := Lib.hid hmi
          clear hB f hmi
          go_wp2_with fail
          go_roundw
          case rel => exact ⟨i + 1, by omega, by go_num, ⟨m, by have := MI.out; have := LL.out; omega, B2.out⟩, F3.out⟩
          case measure => simp [intOf]; omega
    · obtain rfl : i = L.length := by omega
      have H := Lib.hid hB
      have F := Lib.hid f
      have NI := Lib.hid hni
      clear hB f hni
      go_wp2_with fail
      go_ret
      exact ⟨b, n, rfl, H.out, by have := NI.out; have := HN.out; omega, F.out, GB.out⟩
end Go.Proofs.Ytafedmahehbggaa
