/-
  Contracts of the steps: written, mark, pool, txg, length, root, rest, digest, may. No conditions but those that each theorem names.
-/
import Derived.Test.YtjdejhgfkjeeiaaGreatDoorUS
import Derived.Test.YtjdejhgfkjeeiaaGreatDoorUD
namespace Go.Proofs.YtjdejhgfkjeeiaaGreatDoor
open Go.RowKit
set_option linter.unusedVariables false
set_option linter.unusedSimpArgs false
set_option maxRecDepth 100000

open Pt (Pt may enc readPt readE zeroPt pc pv PtV SlA OwnA)
theorem yieldsIf_ld {P : Program} {ops : Array Oper} {S : World → Prop} {op : Oper} {a : Act} (hw : Region.wanted op (yielded ops a.tmps) = true) (ty : TypeId) (x : Operand) (ho : op.op = .load ty x)
    (p : Addr) (hx : a.eval x = .pointer (some p)) {v : Value} (hl : ∀ w, S w → (Instr.loadAt ty (.pointer (some p))).run P w = .ok v w) : YieldsIf P ops S op v a :=
  .inl ⟨hw, fun w hS => by simp [execOp, ho, hx, hl w hS, Result.andThen]⟩
theorem raw_at {b : List UInt8} {p n : Nat} (h : p + n ≤ b.length) (fa : Int) : rRaw b (p, 0, fa) n = (seg b p n, (p + n, 0, fa)) := by
  have hr : rawRead b p n = .inr ((b.drop p).take n) := by
    unfold rawRead
    rw [if_neg (by omega), if_neg (by simp; omega)]
    simp
  unfold rRaw stepR
  simp only [if_true, hr, Int.toNat_natCast]
  rfl
theorem num_at {b : List UInt8} {p n : Nat} (h : p + n ≤ b.length) (h1 : 1 ≤ n) (h5 : n ≤ 5) (fa : Int) {hi : Int} (hh : 256 ^ n ≤ hi + 1) : rNum b (p, 0, fa) n 0 hi = ((beNat (seg b p n) : Int), (p + n, 0, fa)) := by
  have hl : (seg b p n).length = n := seg_length h
  have hb := beNat_lt (seg b p n)
  rw [hl] at hb
  have hb' : (beNat (seg b p n) : Int) < 256 ^ n := by
    have := Int.ofNat_lt.2 hb
    rw [Int.natCast_pow] at this
    exact this
  have hr : numRead b p n 0 hi = .inr (beNat (seg b p n)) := by
    unfold numRead
    rw [if_neg (by simp [isSizeB]; omega), if_neg (by simp; omega)]
    simp only [Int.toNat_natCast]
    rw [if_neg (by unfold seg at *; omega)]
    rfl
  unfold rNum stepR
  simp only [if_true, hr, Int.toNat_natCast]
  rfl
theorem seg224 {S : List UInt8} (h : S.length = 256) {p n : Nat} (hn : p + n ≤ 224) : seg (S.take 224) p n = seg S p n := by
  unfold seg
  rw [List.drop_take, List.take_take, Nat.min_eq_left (by omega)]
theorem d69 : Tryz.prog.underlying 90 = some (.array 256 5) := by kernel_rfl
def zeros256 : List UInt8 := List.replicate 256 0
theorem eql69 (l m : List UInt8) (hl : l.length = 256) (hm : m.length = 256) (W : World) : (binOp .eql 90 (idv l) (idv m)).run Tryz.prog W = .ok (.bool (l == m)) W := by
  obtain ⟨i, hi, _⟩ := info_parts BT.info
  have h := Hs.eql_ints (P := Tryz.prog) (k := .u8) d69 hi (by kernel_rfl) (fun W => by kernel_rfl) (fun W => by kernel_rfl) Tryz.underlying5 (l.map fun b => (b.toNat : Int)) (m.map fun b => (b.toNat : Int)) (by simpa using hl) (by simpa using hm) W
  rw [Hs.beq_inj (fun b : UInt8 => (b.toNat : Int)) (fun a b h => UInt8.toNat_inj.1 (by omega))] at h
  rw [show idv l = .agg (bvs l).toArray from rfl, show idv m = .agg (bvs m).toArray from rfl, Hs.bvs_ints, Hs.bvs_ints]
  exact h
theorem neq69 (l m : List UInt8) (hl : l.length = 256) (hm : m.length = 256) (W : World) : (binOp .neq 90 (idv l) (idv m)).run Tryz.prog W = .ok (.bool (!(l == m))) W := by
  have h := eql69 l m hl hm W
  unfold idv at *
  rw [run_eql_struct] at h
  rw [run_neq_struct]
  cases hr : (Op.equalIn 10000 90 (.agg (bvs l).toArray) (.agg (bvs m).toArray)).run Tryz.prog W with
  | ok x w' => rw [hr] at h; simp [Result.andThen] at h ⊢; exact ⟨by rw [h.1], h.2⟩
  | halt x w' => rw [hr] at h; simp [Result.andThen] at h
theorem bld69 (W : World) : (Instr.build 90 #[]).run Tryz.prog W = .ok (idv zeros256) W := by kernel_rfl
theorem exec_bld69 {o : Oper} {a : Act} (hop : o.op = Op.build 90 #[]) (W : World) : (execOp a.eval o).run Tryz.prog W = .ok (.value (idv zeros256)) W := by
  have hb := bld69 W
  simp only [execOp, hop, List.map_toArray, List.map_nil, Sem.run_bind, Sem.run_pure, hb, Result.andThen_ok]
theorem exec_neq69 {o : Oper} {a : Act} {w : World} {x y : Operand} {s t : List UInt8} {q : Bool} (ho : o.op = .binOp .neq 90 x y 90) (hx : a.eval x = idv s) (hy : a.eval y = idv t) (hs : s.length = 256) (ht : t.length = 256) (hb : (s == t) = q) :
    (execOp a.eval o).run Tryz.prog w = .ok (.value (.bool (!q))) w := by
  have hg : (eqGuard .neq 90 x y (idv s) (idv t)).run Tryz.prog w = .ok () w := Hs.guard_agg .neq 90 x y _ _ (by kernel_rfl) w
  have h := neq69 s t hs ht w
  rw [hb] at h
  simp [execOp, ho, hx, hy, h, hg, Result.andThen]
theorem exec_eq24 {o : Oper} {a : Act} {w : World} {x y : Operand} {s t : List UInt8} {q : Bool} (ho : o.op = .binOp .eql 24 x y 24) (hx : a.eval x = idv s) (hy : a.eval y = idv t) (hs : s.length = 32) (ht : t.length = 32) (hb : (s == t) = q) :
    (execOp a.eval o).run Tryz.prog w = .ok (.value (.bool q)) w := by
  have hg : (eqGuard .eql 24 x y (idv s) (idv t)).run Tryz.prog w = .ok () w := Pt.agg_guard .eql x y s t w
  have h := eq24_g s t hs ht w
  rw [hb] at h
  simp [execOp, ho, hx, hy, h, hg, Result.andThen]
theorem slice69a (b : Nat) (W : World) : (Instr.sliceAt 90 (.pointer (some ⟨b, 1, none⟩)) none (some (.int .i64 224)) none).run Tryz.prog W = .ok (.slice (some ⟨b, 1, none⟩) 224 256) W := by
  have hu : Tryz.prog.underlying 90 = some (.array (Tryz.prog.arrayLen 90) (Tryz.prog.elem 90)) := by kernel_rfl
  have hl : Tryz.prog.arrayLen 90 = 256 := by kernel_rfl
  have he : Tryz.prog.elem 90 = 5 := by kernel_rfl
  have hs : (sizeOf 5).run Tryz.prog W = .ok 1 W := by kernel_rfl
  rw [run_sliceAt_array_h (P := Tryz.prog) W 90 _ hu .i64 224 (by decide) (by rw [hl]; decide), he, hs, hl]
  rfl
theorem slice69b (b : Nat) (W : World) : (Instr.sliceAt 90 (.pointer (some ⟨b, 1, none⟩)) (some (.int .i64 224)) none none).run Tryz.prog W = .ok (.slice (some ⟨b, 225, none⟩) 32 32) W := by
  have hu : Tryz.prog.underlying 90 = some (.array (Tryz.prog.arrayLen 90) (Tryz.prog.elem 90)) := by kernel_rfl
  have hl : Tryz.prog.arrayLen 90 = 256 := by kernel_rfl
  have he : Tryz.prog.elem 90 = 5 := by kernel_rfl
  have hs : (sizeOf 5).run Tryz.prog W = .ok 1 W := by kernel_rfl
  rw [run_sliceAt_array_l (P := Tryz.prog) W 90 _ hu .i64 224 (by decide) (by rw [hl]; decide), he, hs, hl]
  rfl
theorem arrayAt24 (a : Addr) (c : Nat) (W : World) : (Instr.arrayAt 24 (.slice (some a) 32 c)).run Tryz.prog W = .ok (.pointer (some a)) W := by
  have hl : Tryz.prog.arrayLen 24 = 32 := by kernel_rfl
  simp [Instr.arrayAt, run_underlying d24, go_sem]
theorem OwnB.at {T : TypeId} {w : World} {a : Option Addr} {n c : Nat} {l sp : List UInt8} (h : OwnB T w (.slice a n c) l sp) (hne : 0 < l.length) : ∃ g, a = some ⟨g, 0, none⟩ := by
  obtain ⟨_, ⟨_, h2, _⟩ | ⟨g, cap, h2, _⟩⟩ := h
  · omega
  · simp only [Value.slice.injEq] at h2
    exact ⟨g, h2.1⟩
theorem OwnB.load24 {w : World} {g n c : Nat} {l sp : List UInt8} (h : OwnB 5 w (.slice (some ⟨g, 0, none⟩) n c) l sp) (hl : l.length = 32) : (Instr.loadAt 24 (.pointer (some ⟨g, 0, none⟩))).run Tryz.prog w = .ok (idv l) w := by
  refine run_loadAt_mid w g 0 24 (bvs l) _ (fun j u hu => ?_) d24 rfl (by rw [i24, bvs_length, hl])
  have hj : j < (bvs l).length := (List.getElem?_eq_some_iff.1 hu).1
  rw [cell_of_heap h.heap, Nat.zero_add, List.getElem?_toArray, bvs_append, List.getElem?_append_left hj]
  exact hu
theorem exec_conv {o : Oper} {a : Act} {w : World} {x : Operand} {v : Value} {l sp : List UInt8} (ho : o.op = .convert 32 9 x) (hx : a.eval x = v) (hS : SlB w v l sp) : (execOp a.eval o).run Tryz.prog w = .ok (.value (.string ⟨l.toArray⟩)) w := by
  have h := convert_bytes BT hS Tryz.underlying9
  simp [execOp, ho, hx, h, Result.andThen]
theorem field80 (fe fa : Int) (z : World) : (Instr.field 101 (.agg #[.int .i64 fe, .int .i64 fa]) 0).run Tryz.prog z = .ok (.int .i64 fe) z := by kernel_rfl
theorem exec_field80 {o : Oper} {a : Act} {z : World} {x : Operand} {fe fa : Int} (ho : o.op = .field 101 x 0) (hx : a.eval x = .agg #[.int .i64 fe, .int .i64 fa]) : (execOp a.eval o).run Tryz.prog z = .ok (.value (.int .i64 fe)) z := by
  simp [execOp, ho, hx, field80, Result.andThen]
def markY : ByteArray := { data := #[67, 65, 85, 76, 75, 69, 82, 50] }
section
variable {w0 w w' : World} {g : Nat} {n : Int} {S : List UInt8} {br : Nat} {rv : Value} {rsp : List UInt8} {st : Nat × Int × Int} {v : Value} {u : Ub} {E : Value} {L : List Addr}
set_option maxHeartbeats 2000000 in
theorem written_any {s0 s1 s2 : Addr} (hs : Sens w0 s0 s1 s2) (h : RG w0 w g n S br rv rsp st v u E L) : Calls Tryz.prog 65 #[.pointer (some ⟨g, 0, none⟩)] w (Hands w0 g n S br rv rsp st v u (addL (!(S == zeros256)) L s1)) := by
  have HSE := Lib.hid hs
  have H := Lib.hid h
  have fd : Frm [] w w.drew := (Frm.refl [] w).drew
  obtain ⟨q, hq⟩ : ∃ q, (S == zeros256) = q := ⟨_, rfl⟩
  rw [hq]
  have HD := Lib.hid (want_any (h.keep0 fd) (!q) s1 hs.h1)
  have HL := Lib.hid h.len
  have HQ := Lib.hid hq
  clear h hs fd hq
  go_enter Tryz.func65, Tryz.ntmps65
  go_wp2_with fail
  refine wp_region_held_drew (S := fun z => ∃ E' L', RG w0 z g n S br rv rsp st v u E' L') (by kernel_rfl) (⟨E, L, H.out.keep0 (Frm.refl [] w).drew⟩) (fun hHeld => ?_)
  refine wpAnyH_take (i := 0) (oi := { dst := some 3, op := Op.move (Operand.tmp 0), type := 86, pos := "reading.go:68", after := #[], guard := none }) (v := ?_) rfl (by kernel_rfl) (by kernel_rfl) (by kernel_rfl) (fun _ _ _ h => h) (Or.inl ⟨by rfl, ?_⟩) hHeld ?_
  rotate_left
  focus (intro z hSw; clear hSw; go_simp; try with_reducible rfl)
  try simp only [Act.put, List.setIfInBounds_toArray, List.set_cons_zero, List.set_cons_succ]
  refine wpAnyH_take (i := 1) (oi := { dst := some 4, op := Op.move (Operand.tmp 0), type := 86, pos := "reading.go:68", after := #[], guard := none }) (v := ?_) rfl (by kernel_rfl) (by kernel_rfl) (by kernel_rfl) (fun _ _ _ h => h) (Or.inl ⟨by rfl, ?_⟩) hHeld ?_
  rotate_left
  focus (intro z hSw; clear hSw; go_simp; try with_reducible rfl)
  try simp only [Act.put, List.setIfInBounds_toArray, List.set_cons_zero, List.set_cons_succ]
  refine wpAnyH_take (i := 2) (oi := { dst := some 5, op := Op.nilCheck (Operand.tmp 4), type := 0, pos := "reading.go:68", after := #[{ on := 1, ground := Ground.data }], guard := none }) (v := ?_) rfl (by kernel_rfl) (by kernel_rfl) (by kernel_rfl) (fun _ _ _ h => h) (Or.inl ⟨by rfl, ?_⟩) hHeld ?_
  rotate_left
  focus (intro z hSw; clear hSw; go_simp; try with_reducible rfl)
  try simp only [Act.put, List.setIfInBounds_toArray, List.set_cons_zero, List.set_cons_succ]
  refine wpAnyH_take (i := 3) (oi := { dst := some 6, op := Op.fieldAddr 95 (Operand.tmp 5) 1, type := 0, pos := "reading.go:68", after := #[{ on := 2, ground := Ground.data }], guard := none }) (v := ?_) rfl (by kernel_rfl) (by kernel_rfl) (by kernel_rfl) (fun _ _ _ h => h) (Or.inl ⟨by rfl, ?_⟩) hHeld ?_
  rotate_left
  focus (intro z hSw; clear hSw; go_simp; try with_reducible rfl)
  try simp only [Act.put, List.setIfInBounds_toArray, List.set_cons_zero, List.set_cons_succ]
  refine wpAnyH_take (i := 4) (oi := { dst := some 7, op := Op.load 90 (Operand.tmp 6), type := 90, pos := "reading.go:68", after := #[{ on := 3, ground := Ground.data }], guard := none }) rfl (by kernel_rfl) (by kernel_rfl) (by kernel_rfl) (fun _ _ _ h => h) (yieldsIf_ld (by rfl) 90 _ rfl _ rfl (fun z hSw => (by obtain ⟨_, _, hz⟩ := hSw; exact hz.sector))) hHeld ?_
  try simp only [Act.put, List.setIfInBounds_toArray, List.set_cons_zero, List.set_cons_succ]
  refine wpAnyH_take (i := 5) (oi := { dst := some 8, op := Op.build 90 #[], type := 90, pos := "reading.go:68", after := #[], guard := none }) rfl (by kernel_rfl) (by kernel_rfl) (by kernel_rfl) (fun _ _ _ h => h) (Or.inl ⟨by rfl, fun z hSw => exec_bld69 rfl z⟩) hHeld ?_
  try simp only [Act.put, List.setIfInBounds_toArray, List.set_cons_zero, List.set_cons_succ]
  refine wpAnyH_take (i := 6) (oi := { dst := some 9, op := Op.binOp BinOp.neq 90 (Operand.tmp 7) (Operand.tmp 8) 90, type := 4, pos := "reading.go:68", after := #[{ on := 4, ground := Ground.data }, { on := 5, ground := Ground.data }], guard := none }) rfl (by kernel_rfl) (by kernel_rfl) (by kernel_rfl) (fun _ _ _ h => h) (Or.inl ⟨by rfl, fun z hSw => exec_neq69 rfl rfl rfl HL.out rfl HQ.out⟩) hHeld ?_
  try simp only [Act.put, List.setIfInBounds_toArray, List.set_cons_zero, List.set_cons_succ]
  refine wpAnyH_take (i := 7) (oi := { dst := some 10, op := Op.load 93 (Operand.global 1), type := 93, pos := "reading.go:68", after := #[], guard := none }) (v := ?_) rfl (by kernel_rfl) (by kernel_rfl) (by kernel_rfl) (fun _ _ _ h => h) (Or.inl ⟨by rfl, ?_⟩) hHeld ?_
  rotate_left
  focus (intro z hSw; obtain ⟨_, _, hz⟩ := hSw; have cz := hz.size; have cf := hz.fld; have cw := hz.wrong; obtain ⟨g0, g1, g2⟩ := heap_of_sen HSE.out hz.frm; clear hz; go_simp; try with_reducible rfl)
  try simp only [Act.put, List.setIfInBounds_toArray, List.set_cons_zero, List.set_cons_succ]
  refine wpAnyH_ready (rs := [8]) (by kernel_rfl) (by simp) ?_
  refine AllReadyH.cons (o := { dst := some 11, op := Op.call { callee := Callee.value (Operand.func 111), args := #[Operand.tmp 3, Operand.tmp 9, Operand.tmp 10], argTypes := #[86, 4, 93] }, type := 86, pos := "reading.go:68", after := #[{ on := 0, ground := Ground.data }, { on := 6, ground := Ground.data }, { on := 7, ground := Ground.data }], guard := none }) rfl (fun K hK => ?_) AllReadyH.nil
  go_simp
  refine HD.out.mono ?_
  rintro r w2 ⟨rfl, h2⟩
  have H2 := Lib.hid h2
  clear h2
  refine hK.out _ _ ?_ (fun hNext => ?_)
  · exact ⟨_, _, H2.out.choose_spec⟩
  clear hK K hHeld
  have hHeld := hNext
  clear hNext
  try simp only [Act.put, List.setIfInBounds_toArray, List.set_cons_zero, List.set_cons_succ]
  refine wpAnyH_take (i := 9) (oi := { dst := some 2, op := Op.assign (Operand.tmp 11), type := 86, pos := "reading.go:68", after := #[{ on := 8, ground := Ground.data }, { on := 8, ground := Ground.chain }, { on := 0, ground := Ground.phase }, { on := 1, ground := Ground.phase }, { on := 2, ground := Ground.phase }, { on := 3, ground := Ground.phase }, { on := 4, ground := Ground.phase }, { on := 5, ground := Ground.phase }, { on := 6, ground := Ground.phase }, { on := 7, ground := Ground.phase }, { on := 8, ground := Ground.phase }], guard := none }) (v := ?_) rfl (by kernel_rfl) (by kernel_rfl) (by kernel_rfl) (fun _ _ _ h => h) (Or.inl ⟨by rfl, ?_⟩) hHeld ?_
  rotate_left
  focus (intro z hSw; clear hSw; go_simp; try with_reducible rfl)
  try simp only [Act.put, List.setIfInBounds_toArray, List.set_cons_zero, List.set_cons_succ]
  refine wpAnyH_done (by kernel_rfl) ?_ _
  clear hHeld
  go_wp2_with fail
  go_ret
  exact ⟨rfl, H2.out⟩
set_option maxHeartbeats 2000000 in
theorem may_any {s0 s1 s2 : Addr} (hs : Sens w0 s0 s1 s2) (h : RG w0 w g n S br rv rsp st v u E L) (hl : u.root.ads.length ≤ 1000000) : Calls Tryz.prog 73 #[.pointer (some ⟨g, 0, none⟩)] w (Hands w0 g n S br rv rsp st v u (addL (mayUB u) L s2)) := by
  have HSE := Lib.hid hs
  have H := Lib.hid h
  have fd : Frm [] w w.drew := (Frm.refl [] w).drew
  have HM := Lib.hid (mayBe_any _ u w.drew (h.keep0 fd).ubv hl)
  have HD := Lib.hid (fun W (f : Frm [] w.drew W) => want_any ((h.keep0 fd).keep0 f) (mayUB u) s2 hs.h2)
  clear h hs fd
  generalize mayUB u = q at *
  go_enter Tryz.func73, Tryz.ntmps73
  go_wp2_with fail
  refine wp_region_held_drew (S := fun z => ∃ E' L', RG w0 z g n S br rv rsp st v u E' L') (by kernel_rfl) (⟨E, L, H.out.keep0 (Frm.refl [] w).drew⟩) (fun hHeld => ?_)
  refine wpAnyH_take (i := 0) (oi := { dst := some 3, op := Op.move (Operand.tmp 0), type := 86, pos := "reading.go:107", after := #[], guard := none }) (v := ?_) rfl (by kernel_rfl) (by kernel_rfl) (by kernel_rfl) (fun _ _ _ h => h) (Or.inl ⟨by rfl, ?_⟩) hHeld ?_
  rotate_left
  focus (intro z hSw; clear hSw; go_simp; try with_reducible rfl)
  try simp only [Act.put, List.setIfInBounds_toArray, List.set_cons_zero, List.set_cons_succ]
  refine wpAnyH_take (i := 1) (oi := { dst := some 4, op := Op.move (Operand.tmp 0), type := 86, pos := "reading.go:107", after := #[], guard := none }) (v := ?_) rfl (by kernel_rfl) (by kernel_rfl) (by kernel_rfl) (fun _ _ _ h => h) (Or.inl ⟨by rfl, ?_⟩) hHeld ?_
  rotate_left
  focus (intro z hSw; clear hSw; go_simp; try with_reducible rfl)
  try simp only [Act.put, List.setIfInBounds_toArray, List.set_cons_zero, List.set_cons_succ]
  refine wpAnyH_take (i := 2) (oi := { dst := some 5, op := Op.nilCheck (Operand.tmp 4), type := 0, pos := "reading.go:107", after := #[{ on := 1, ground := Ground.data }], guard := none }) (v := ?_) rfl (by kernel_rfl) (by kernel_rfl) (by kernel_rfl) (fun _ _ _ h => h) (Or.inl ⟨by rfl, ?_⟩) hHeld ?_
  rotate_left
  focus (intro z hSw; clear hSw; go_simp; try with_reducible rfl)
  try simp only [Act.put, List.setIfInBounds_toArray, List.set_cons_zero, List.set_cons_succ]
  refine wpAnyH_take (i := 3) (oi := { dst := some 6, op := Op.fieldAddr 95 (Operand.tmp 5) 3, type := 0, pos := "reading.go:107", after := #[{ on := 2, ground := Ground.data }], guard := none }) (v := ?_) rfl (by kernel_rfl) (by kernel_rfl) (by kernel_rfl) (fun _ _ _ h => h) (Or.inl ⟨by rfl, ?_⟩) hHeld ?_
  rotate_left
  focus (intro z hSw; clear hSw; go_simp; try with_reducible rfl)
  try simp only [Act.put, List.setIfInBounds_toArray, List.set_cons_zero, List.set_cons_succ]
  refine wpAnyH_take (i := 4) (oi := { dst := some 7, op := Op.load 28 (Operand.tmp 6), type := 28, pos := "reading.go:107", after := #[{ on := 3, ground := Ground.data }], guard := none }) rfl (by kernel_rfl) (by kernel_rfl) (by kernel_rfl) (fun _ _ _ h => h) (yieldsIf_ld (by rfl) 28 _ rfl _ rfl (fun z hSw => (by obtain ⟨_, _, hz⟩ := hSw; exact hz.uber))) hHeld ?_
  try simp only [Act.put, List.setIfInBounds_toArray, List.set_cons_zero, List.set_cons_succ]
  refine wpAnyH_take (i := 6) (oi := { dst := some 9, op := Op.load 93 (Operand.global 2), type := 93, pos := "reading.go:107", after := #[], guard := none }) (v := ?_) rfl (by kernel_rfl) (by kernel_rfl) (by kernel_rfl) (fun _ _ _ h => h) (Or.inl ⟨by rfl, ?_⟩) hHeld ?_
  rotate_left
  focus (intro z hSw; obtain ⟨_, _, hz⟩ := hSw; have cz := hz.size; have cf := hz.fld; have cw := hz.wrong; obtain ⟨g0, g1, g2⟩ := heap_of_sen HSE.out hz.frm; clear hz; go_simp; try with_reducible rfl)
  try simp only [Act.put, List.setIfInBounds_toArray, List.set_cons_zero, List.set_cons_succ]
  refine wpAnyH_ready (rs := [5]) (by kernel_rfl) (by simp) ?_
  refine AllReadyH.cons (o := { dst := some 8, op := Op.call { callee := Callee.value (Operand.func 57), args := #[Operand.tmp 7], argTypes := #[28] }, type := 4, pos := "reading.go:107", after := #[{ on := 4, ground := Ground.data }], guard := none }) rfl (fun K hK => ?_) AllReadyH.nil
  go_simp
  refine HM.out.mono ?_
  rintro r w1 ⟨rfl, f1⟩
  have F1 := Lib.hid f1
  clear f1
  refine hK.out _ _ ?_ (fun hNext => ?_)
  · exact ⟨E, L, (H.out.keep0 (Frm.refl [] w).drew).keep0 F1.out⟩
  clear hK K hHeld
  have hHeld := hNext
  clear hNext
  try simp only [Act.put, List.setIfInBounds_toArray, List.set_cons_zero, List.set_cons_succ]
  refine wpAnyH_ready (rs := [7]) (by kernel_rfl) (by simp) ?_
  refine AllReadyH.cons (o := { dst := some 10, op := Op.call { callee := Callee.value (Operand.func 111), args := #[Operand.tmp 3, Operand.tmp 8, Operand.tmp 9], argTypes := #[86, 4, 93] }, type := 86, pos := "reading.go:107", after := #[{ on := 0, ground := Ground.data }, { on := 5, ground := Ground.data }, { on := 6, ground := Ground.data }, { on := 5, ground := Ground.chain }], guard := none }) rfl (fun K hK => ?_) AllReadyH.nil
  go_simp
  refine (HD.out _ F1.out).mono ?_
  rintro r w2 ⟨rfl, h2⟩
  have H2 := Lib.hid h2
  clear h2
  refine hK.out _ _ ?_ (fun hNext => ?_)
  · exact ⟨_, _, H2.out.choose_spec⟩
  clear hK K hHeld
  have hHeld := hNext
  clear hNext
  try simp only [Act.put, List.setIfInBounds_toArray, List.set_cons_zero, List.set_cons_succ]
  refine wpAnyH_take (i := 8) (oi := { dst := some 2, op := Op.assign (Operand.tmp 10), type := 86, pos := "reading.go:107", after := #[{ on := 7, ground := Ground.data }, { on := 7, ground := Ground.chain }, { on := 0, ground := Ground.phase }, { on := 1, ground := Ground.phase }, { on := 2, ground := Ground.phase }, { on := 3, ground := Ground.phase }, { on := 4, ground := Ground.phase }, { on := 5, ground := Ground.phase }, { on := 6, ground := Ground.phase }, { on := 7, ground := Ground.phase }], guard := none }) (v := ?_) rfl (by kernel_rfl) (by kernel_rfl) (by kernel_rfl) (fun _ _ _ h => h) (Or.inl ⟨by rfl, ?_⟩) hHeld ?_
  rotate_left
  focus (intro z hSw; clear hSw; go_simp; try with_reducible rfl)
  try simp only [Act.put, List.setIfInBounds_toArray, List.set_cons_zero, List.set_cons_succ]
  refine wpAnyH_done (by kernel_rfl) ?_ _
  clear hHeld
  go_wp2_with fail
  go_ret
  exact ⟨rfl, H2.out⟩
theorem RG.tail (h : RG w0 w g n S br rv rsp st v u E L) : (Instr.loadAt 24 (.pointer (some ⟨g, 225, none⟩))).run Tryz.prog w = .ok (idv (S.drop 224)) w := by
  have hb := h.blk
  have hl := h.len
  rw [show rcs n S br v u E = (.int .i64 n :: bvs (S.take 224)) ++ (bvs (S.drop 224) ++ (.pointer (some ⟨br, 0, none⟩) :: (uc v u ++ [E]))) by unfold rcs; rw [← List.append_assoc, List.cons_append, ← bvs_append, List.take_append_drop, List.cons_append]] at hb
  exact hb.load (by simp [bvs_length, hl]) (by kernel_rfl) (by rw [i24, bvs_length]; simp [hl])
set_option maxHeartbeats 2000000 in
theorem digest_any {s0 s1 s2 : Addr} (hs : Sens w0 s0 s1 s2) (h : RG w0 w g n S br rv rsp st v u E L) (hG : Hs.Glob w) : Calls Tryz.prog 72 #[.pointer (some ⟨g, 0, none⟩)] w (Hands w0 g n S br rv rsp st v u (addL (Hs.sha (S.take 224) == S.drop 224) L s2)) := by
  have HSE := Lib.hid hs
  have H := Lib.hid h
  have hl := h.len
  have fd : Frm [] w w.drew := (Frm.refl [] w).drew
  have hb := (h.keep0 fd).bytes 0 224 (by omega) (by omega)
  simp only [List.drop_zero, Nat.sub_zero, Nat.add_zero] at hb
  have HM := Lib.hid (Hs.Sum_any _ (S.take 224) _ w.drew hb (by simp; omega) (hG.keep fd (by simp)))
  obtain ⟨q, hq⟩ : ∃ q, (Hs.sha (S.take 224) == S.drop 224) = q := ⟨_, rfl⟩
  rw [hq]
  have HD := Lib.hid (fun W (f : Frm [] w.drew W) => want_any ((h.keep0 fd).keep0 f) q s2 hs.h2)
  have HQ := Lib.hid hq
  have H1 := Lib.hid (sha_length (S.take 224))
  have H2' := Lib.hid (show (S.drop 224).length = 32 by simp [hl])
  have hsa := slice69a
  have hsb := slice69b
  have hat := arrayAt24
  clear h hs fd hb hG hq hl
  rw [show (Value.agg (bvs (Hs.sha (S.take 224))).toArray) = idv (Hs.sha (S.take 224)) from rfl] at HM
  generalize Hs.sha (S.take 224) = X at *
  go_enter Tryz.func72, Tryz.ntmps72
  go_wp2_with fail
  refine wp_region_held_drew (S := fun z => ∃ E' L', RG w0 z g n S br rv rsp st v u E' L') (by kernel_rfl) (⟨E, L, H.out.keep0 (Frm.refl [] w).drew⟩) (fun hHeld => ?_)
  refine wpAnyH_take (i := 0) (oi := { dst := some 3, op := Op.move (Operand.tmp 0), type := 86, pos := "reading.go:103", after := #[], guard := none }) (v := ?_) rfl (by kernel_rfl) (by kernel_rfl) (by kernel_rfl) (fun _ _ _ h => h) (Or.inl ⟨by rfl, ?_⟩) hHeld ?_
  rotate_left
  focus (intro z hSw; clear hSw; go_simp; try with_reducible rfl)
  try simp only [Act.put, List.setIfInBounds_toArray, List.set_cons_zero, List.set_cons_succ]
  refine wpAnyH_take (i := 1) (oi := { dst := some 4, op := Op.move (Operand.tmp 0), type := 86, pos := "reading.go:103", after := #[], guard := none }) (v := ?_) rfl (by kernel_rfl) (by kernel_rfl) (by kernel_rfl) (fun _ _ _ h => h) (Or.inl ⟨by rfl, ?_⟩) hHeld ?_
  rotate_left
  focus (intro z hSw; clear hSw; go_simp; try with_reducible rfl)
  try simp only [Act.put, List.setIfInBounds_toArray, List.set_cons_zero, List.set_cons_succ]
  refine wpAnyH_take (i := 2) (oi := { dst := some 5, op := Op.nilCheck (Operand.tmp 4), type := 0, pos := "reading.go:103", after := #[{ on := 1, ground := Ground.data }], guard := none }) (v := ?_) rfl (by kernel_rfl) (by kernel_rfl) (by kernel_rfl) (fun _ _ _ h => h) (Or.inl ⟨by rfl, ?_⟩) hHeld ?_
  rotate_left
  focus (intro z hSw; clear hSw; go_simp; try with_reducible rfl)
  try simp only [Act.put, List.setIfInBounds_toArray, List.set_cons_zero, List.set_cons_succ]
  refine wpAnyH_take (i := 3) (oi := { dst := some 6, op := Op.fieldAddr 95 (Operand.tmp 5) 1, type := 0, pos := "reading.go:103", after := #[{ on := 2, ground := Ground.data }], guard := none }) (v := ?_) rfl (by kernel_rfl) (by kernel_rfl) (by kernel_rfl) (fun _ _ _ h => h) (Or.inl ⟨by rfl, ?_⟩) hHeld ?_
  rotate_left
  focus (intro z hSw; clear hSw; go_simp; try with_reducible rfl)
  try simp only [Act.put, List.setIfInBounds_toArray, List.set_cons_zero, List.set_cons_succ]
  refine wpAnyH_take (i := 4) (oi := { dst := some 7, op := Op.slice 90 (Operand.tmp 6) none (some (Operand.const (Value.int IntKind.i64 224))) none, type := 32, pos := "reading.go:103", after := #[{ on := 3, ground := Ground.data }], guard := none }) (v := ?_) rfl (by kernel_rfl) (by kernel_rfl) (by kernel_rfl) (fun _ _ _ h => h) (Or.inl ⟨by rfl, ?_⟩) hHeld ?_
  rotate_left
  focus (intro z hSw; clear hSw; go_simp; try with_reducible rfl)
  try simp only [Act.put, List.setIfInBounds_toArray, List.set_cons_zero, List.set_cons_succ]
  refine wpAnyH_take (i := 6) (oi := { dst := some 9, op := Op.move (Operand.tmp 0), type := 86, pos := "reading.go:103", after := #[], guard := none }) (v := ?_) rfl (by kernel_rfl) (by kernel_rfl) (by kernel_rfl) (fun _ _ _ h => h) (Or.inl ⟨by rfl, ?_⟩) hHeld ?_
  rotate_left
  focus (intro z hSw; clear hSw; go_simp; try with_reducible rfl)
  try simp only [Act.put, List.setIfInBounds_toArray, List.set_cons_zero, List.set_cons_succ]
  refine wpAnyH_take (i := 7) (oi := { dst := some 10, op := Op.nilCheck (Operand.tmp 9), type := 0, pos := "reading.go:103", after := #[{ on := 6, ground := Ground.data }], guard := none }) (v := ?_) rfl (by kernel_rfl) (by kernel_rfl) (by kernel_rfl) (fun _ _ _ h => h) (Or.inl ⟨by rfl, ?_⟩) hHeld ?_
  rotate_left
  focus (intro z hSw; clear hSw; go_simp; try with_reducible rfl)
  try simp only [Act.put, List.setIfInBounds_toArray, List.set_cons_zero, List.set_cons_succ]
  refine wpAnyH_take (i := 8) (oi := { dst := some 11, op := Op.fieldAddr 95 (Operand.tmp 10) 1, type := 0, pos := "reading.go:103", after := #[{ on := 7, ground := Ground.data }], guard := none }) (v := ?_) rfl (by kernel_rfl) (by kernel_rfl) (by kernel_rfl) (fun _ _ _ h => h) (Or.inl ⟨by rfl, ?_⟩) hHeld ?_
  rotate_left
  focus (intro z hSw; clear hSw; go_simp; try with_reducible rfl)
  try simp only [Act.put, List.setIfInBounds_toArray, List.set_cons_zero, List.set_cons_succ]
  refine wpAnyH_take (i := 9) (oi := { dst := some 12, op := Op.slice 90 (Operand.tmp 11) (some (Operand.const (Value.int IntKind.i64 224))) none none, type := 32, pos := "reading.go:103", after := #[{ on := 8, ground := Ground.data }], guard := none }) (v := ?_) rfl (by kernel_rfl) (by kernel_rfl) (by kernel_rfl) (fun _ _ _ h => h) (Or.inl ⟨by rfl, ?_⟩) hHeld ?_
  rotate_left
  focus (intro z hSw; clear hSw; go_simp; try with_reducible rfl)
  try simp only [Act.put, List.setIfInBounds_toArray, List.set_cons_zero, List.set_cons_succ]
  refine wpAnyH_take (i := 10) (oi := { dst := some 13, op := Op.sliceToArrayPointer 24 (Operand.tmp 12), type := 0, pos := "reading.go:103", after := #[{ on := 9, ground := Ground.data }], guard := none }) (v := ?_) rfl (by kernel_rfl) (by kernel_rfl) (by kernel_rfl) (fun _ _ _ h => h) (Or.inl ⟨by rfl, ?_⟩) hHeld ?_
  rotate_left
  focus (intro z hSw; clear hSw; go_simp; try with_reducible rfl)
  try simp only [Act.put, List.setIfInBounds_toArray, List.set_cons_zero, List.set_cons_succ]
  refine wpAnyH_take (i := 11) (oi := { dst := some 14, op := Op.load 24 (Operand.tmp 13), type := 24, pos := "reading.go:103", after := #[{ on := 10, ground := Ground.data }], guard := none }) rfl (by kernel_rfl) (by kernel_rfl) (by kernel_rfl) (fun _ _ _ h => h) (yieldsIf_ld (by rfl) 24 _ rfl _ rfl (fun z hSw => (by obtain ⟨_, _, hz⟩ := hSw; exact hz.tail))) hHeld ?_
  try simp only [Act.put, List.setIfInBounds_toArray, List.set_cons_zero, List.set_cons_succ]
  refine wpAnyH_take (i := 13) (oi := { dst := some 16, op := Op.load 93 (Operand.global 2), type := 93, pos := "reading.go:103", after := #[], guard := none }) (v := ?_) rfl (by kernel_rfl) (by kernel_rfl) (by kernel_rfl) (fun _ _ _ h => h) (Or.inl ⟨by rfl, ?_⟩) hHeld ?_
  rotate_left
  focus (intro z hSw; obtain ⟨_, _, hz⟩ := hSw; have cz := hz.size; have cf := hz.fld; have cw := hz.wrong; obtain ⟨g0, g1, g2⟩ := heap_of_sen HSE.out hz.frm; clear hz; go_simp; try with_reducible rfl)
  try simp only [Act.put, List.setIfInBounds_toArray, List.set_cons_zero, List.set_cons_succ]
  refine wpAnyH_ready (rs := [5]) (by kernel_rfl) (by simp) ?_
  refine AllReadyH.cons (o := { dst := some 8, op := Op.call { callee := Callee.value (Operand.func 51), args := #[Operand.tmp 7], argTypes := #[32] }, type := 24, pos := "reading.go:103", after := #[{ on := 4, ground := Ground.data }], guard := none }) rfl (fun K hK => ?_) AllReadyH.nil
  go_simp
  refine HM.out.mono ?_
  rintro r w1 ⟨rfl, f1⟩
  have F1 := Lib.hid f1
  clear f1
  refine hK.out _ _ ?_ (fun hNext => ?_)
  · exact ⟨E, L, (H.out.keep0 (Frm.refl [] w).drew).keep0 F1.out⟩
  clear hK K hHeld
  have hHeld := hNext
  clear hNext
  try simp only [Act.put, List.setIfInBounds_toArray, List.set_cons_zero, List.set_cons_succ]
  refine wpAnyH_take (i := 12) (oi := { dst := some 15, op := Op.binOp BinOp.eql 24 (Operand.tmp 8) (Operand.tmp 14) 24, type := 4, pos := "reading.go:103", after := #[{ on := 5, ground := Ground.data }, { on := 11, ground := Ground.data }], guard := none }) rfl (by kernel_rfl) (by kernel_rfl) (by kernel_rfl) (fun _ _ _ h => h) (Or.inl ⟨by rfl, fun z hSw => exec_eq24 rfl rfl rfl H1.out H2'.out HQ.out⟩) hHeld ?_
  try simp only [Act.put, List.setIfInBounds_toArray, List.set_cons_zero, List.set_cons_succ]
  refine wpAnyH_ready (rs := [14]) (by kernel_rfl) (by simp) ?_
  refine AllReadyH.cons (o := { dst := some 17, op := Op.call { callee := Callee.value (Operand.func 111), args := #[Operand.tmp 3, Operand.tmp 15, Operand.tmp 16], argTypes := #[86, 4, 93] }, type := 86, pos := "reading.go:103", after := #[{ on := 0, ground := Ground.data }, { on := 12, ground := Ground.data }, { on := 13, ground := Ground.data }, { on := 5, ground := Ground.chain }], guard := none }) rfl (fun K hK => ?_) AllReadyH.nil
  go_simp
  refine (HD.out _ F1.out).mono ?_
  rintro r w2 ⟨rfl, h2⟩
  have H2 := Lib.hid h2
  clear h2
  refine hK.out _ _ ?_ (fun hNext => ?_)
  · exact ⟨_, _, H2.out.choose_spec⟩
  clear hK K hHeld
  have hHeld := hNext
  clear hNext
  try simp only [Act.put, List.setIfInBounds_toArray, List.set_cons_zero, List.set_cons_succ]
  refine wpAnyH_take (i := 15) (oi := { dst := some 2, op := Op.assign (Operand.tmp 17), type := 86, pos := "reading.go:103", after := #[{ on := 14, ground := Ground.data }, { on := 14, ground := Ground.chain }, { on := 0, ground := Ground.phase }, { on := 1, ground := Ground.phase }, { on := 2, ground := Ground.phase }, { on := 3, ground := Ground.phase }, { on := 4, ground := Ground.phase }, { on := 5, ground := Ground.phase }, { on := 6, ground := Ground.phase }, { on := 7, ground := Ground.phase }, { on := 8, ground := Ground.phase }, { on := 9, ground := Ground.phase }, { on := 10, ground := Ground.phase }, { on := 11, ground := Ground.phase }, { on := 12, ground := Ground.phase }, { on := 13, ground := Ground.phase }, { on := 14, ground := Ground.phase }], guard := none }) (v := ?_) rfl (by kernel_rfl) (by kernel_rfl) (by kernel_rfl) (fun _ _ _ h => h) (Or.inl ⟨by rfl, ?_⟩) hHeld ?_
  rotate_left
  focus (intro z hSw; clear hSw; go_simp; try with_reducible rfl)
  try simp only [Act.put, List.setIfInBounds_toArray, List.set_cons_zero, List.set_cons_succ]
  refine wpAnyH_done (by kernel_rfl) ?_ _
  clear hHeld
  go_wp2_with fail
  go_ret
  exact ⟨rfl, H2.out⟩
set_option maxHeartbeats 2000000 in
theorem rest_any {s0 s1 s2 : Addr} {p : Nat} (hs : Sens w0 s0 s1 s2) (h : RG w0 w g n S br rv rsp (p, 0, 0) v u E L) (hp : p ≤ 224) : Calls Tryz.prog 71 #[.pointer (some ⟨g, 0, none⟩)] w (Hands w0 g n S br rv rsp (rRest (S.take 224) (p, 0, 0)) v u (addL ((rRest (S.take 224) (p, 0, 0)).2.1 == 0) L s2)) := by
  have HSE := Lib.hid hs
  have hl := h.len
  have cf := h.fld
  have HR := Lib.hid (RRestR_any br rv (S.take 224) rsp (p, 0, 0) w h.rd (by simp [hl]; omega) (by simp; omega))
  generalize rRest (S.take 224) (p, 0, 0) = t at *
  obtain ⟨q, hq⟩ : ∃ q, (t.2.1 == 0) = q := ⟨_, rfl⟩
  rw [hq]
  have H0 := Lib.hid h
  clear h
  go_enter Tryz.func71, Tryz.ntmps71
  go_wp2_with (go_at_call 115; refine HR.out.mono ?_; rintro r w1 ⟨rfl, f1⟩)
  have H := Lib.hid (H0.out.read f1)
  have fd : Frm [] w1 w1.drew := (Frm.refl [] w1).drew
  have HM := Lib.hid (RFault_any br rv (S.take 224) rsp t.1 t.2.1 t.2.2 w1.drew (H.out.keep0 fd).rd)
  have HD := Lib.hid (fun W (f : Frm [] w1.drew W) => want_any ((H.out.keep0 fd).keep0 f) q s2 hs.h2)
  unfold flt at HM
  clear hs fd f1 HR H0 hl cf
  obtain ⟨t1, fe, fa⟩ := t
  dsimp only at *
  refine wp_region_held_drew (S := fun z => ∃ E' L', RG w0 z g n S br rv rsp (t1, fe, fa) v u E' L') (by kernel_rfl) (⟨E, L, H.out.keep0 (Frm.refl [] w1).drew⟩) (fun hHeld => ?_)
  refine wpAnyH_take (i := 0) (oi := { dst := some 8, op := Op.move (Operand.tmp 0), type := 86, pos := "reading.go:99", after := #[], guard := none }) (v := ?_) rfl (by kernel_rfl) (by kernel_rfl) (by kernel_rfl) (fun _ _ _ h => h) (Or.inl ⟨by rfl, ?_⟩) hHeld ?_
  rotate_left
  focus (intro z hSw; clear hSw; go_simp; try with_reducible rfl)
  try simp only [Act.put, List.setIfInBounds_toArray, List.set_cons_zero, List.set_cons_succ]
  refine wpAnyH_take (i := 1) (oi := { dst := some 9, op := Op.move (Operand.tmp 0), type := 86, pos := "reading.go:99", after := #[], guard := none }) (v := ?_) rfl (by kernel_rfl) (by kernel_rfl) (by kernel_rfl) (fun _ _ _ h => h) (Or.inl ⟨by rfl, ?_⟩) hHeld ?_
  rotate_left
  focus (intro z hSw; clear hSw; go_simp; try with_reducible rfl)
  try simp only [Act.put, List.setIfInBounds_toArray, List.set_cons_zero, List.set_cons_succ]
  refine wpAnyH_take (i := 2) (oi := { dst := some 10, op := Op.nilCheck (Operand.tmp 9), type := 0, pos := "reading.go:99", after := #[{ on := 1, ground := Ground.data }], guard := none }) (v := ?_) rfl (by kernel_rfl) (by kernel_rfl) (by kernel_rfl) (fun _ _ _ h => h) (Or.inl ⟨by rfl, ?_⟩) hHeld ?_
  rotate_left
  focus (intro z hSw; clear hSw; go_simp; try with_reducible rfl)
  try simp only [Act.put, List.setIfInBounds_toArray, List.set_cons_zero, List.set_cons_succ]
  refine wpAnyH_take (i := 3) (oi := { dst := some 11, op := Op.fieldAddr 95 (Operand.tmp 10) 2, type := 0, pos := "reading.go:99", after := #[{ on := 2, ground := Ground.data }], guard := none }) (v := ?_) rfl (by kernel_rfl) (by kernel_rfl) (by kernel_rfl) (fun _ _ _ h => h) (Or.inl ⟨by rfl, ?_⟩) hHeld ?_
  rotate_left
  focus (intro z hSw; clear hSw; go_simp; try with_reducible rfl)
  try simp only [Act.put, List.setIfInBounds_toArray, List.set_cons_zero, List.set_cons_succ]
  refine wpAnyH_take (i := 4) (oi := { dst := some 12, op := Op.load 91 (Operand.tmp 11), type := 91, pos := "reading.go:99", after := #[{ on := 3, ground := Ground.data }], guard := none }) (v := ?_) rfl (by kernel_rfl) (by kernel_rfl) (by kernel_rfl) (fun _ _ _ h => h) (Or.inl ⟨by rfl, ?_⟩) hHeld ?_
  rotate_left
  focus (intro z hSw; obtain ⟨_, _, hz⟩ := hSw; have cz := hz.size; have cf := hz.fld; have cw := hz.wrong; obtain ⟨g0, g1, g2⟩ := heap_of_sen HSE.out hz.frm; clear hz; go_simp; try with_reducible rfl)
  try simp only [Act.put, List.setIfInBounds_toArray, List.set_cons_zero, List.set_cons_succ]
  refine wpAnyH_take (i := 8) (oi := { dst := some 16, op := Op.load 93 (Operand.global 2), type := 93, pos := "reading.go:99", after := #[], guard := none }) (v := ?_) rfl (by kernel_rfl) (by kernel_rfl) (by kernel_rfl) (fun _ _ _ h => h) (Or.inl ⟨by rfl, ?_⟩) hHeld ?_
  rotate_left
  focus (intro z hSw; obtain ⟨_, _, hz⟩ := hSw; have cz := hz.size; have cf := hz.fld; have cw := hz.wrong; obtain ⟨g0, g1, g2⟩ := heap_of_sen HSE.out hz.frm; clear hz; go_simp; try with_reducible rfl)
  try simp only [Act.put, List.setIfInBounds_toArray, List.set_cons_zero, List.set_cons_succ]
  refine wpAnyH_ready (rs := [5]) (by kernel_rfl) (by simp) ?_
  refine AllReadyH.cons (o := { dst := some 13, op := Op.call { callee := Callee.value (Operand.func 116), args := #[Operand.tmp 12], argTypes := #[91] }, type := 101, pos := "reading.go:99", after := #[{ on := 4, ground := Ground.data }], guard := none }) rfl (fun K hK => ?_) AllReadyH.nil
  go_simp
  refine HM.out.mono ?_
  rintro r w2 ⟨rfl, f1⟩
  have F1 := Lib.hid f1
  clear f1
  refine hK.out _ _ ?_ (fun hNext => ?_)
  · exact ⟨E, L, (H.out.keep0 (Frm.refl [] w1).drew).keep0 F1.out⟩
  clear hK K hHeld
  have hHeld := hNext
  clear hNext
  try simp only [Act.put, List.setIfInBounds_toArray, List.set_cons_zero, List.set_cons_succ]
  refine wpAnyH_take (i := 6) (oi := { dst := some 14, op := Op.field 101 (Operand.tmp 13) 0, type := 33, pos := "reading.go:99", after := #[{ on := 5, ground := Ground.data }], guard := none }) rfl (by kernel_rfl) (by kernel_rfl) (by kernel_rfl) (fun _ _ _ h => h) (Or.inl ⟨by rfl, fun z hSw => exec_field80 rfl rfl⟩) hHeld ?_
  try simp only [Act.put, List.setIfInBounds_toArray, List.set_cons_zero, List.set_cons_succ]
  refine wpAnyH_take (i := 7) (oi := { dst := some 15, op := Op.binOp BinOp.eql 33 (Operand.tmp 14) (Operand.const (Value.int IntKind.i64 0)) 33, type := 4, pos := "reading.go:99", after := #[{ on := 6, ground := Ground.data }], guard := none }) (v := ?_) rfl (by kernel_rfl) (by kernel_rfl) (by kernel_rfl) (fun _ _ _ h => h) (Or.inl ⟨by rfl, ?_⟩) hHeld ?_
  rotate_left
  focus (intro z hSw; clear hSw; go_simp; try with_reducible rfl)
  try simp only [Act.put, List.setIfInBounds_toArray, List.set_cons_zero, List.set_cons_succ]
  refine wpAnyH_ready (rs := [9]) (by kernel_rfl) (by simp) ?_
  refine AllReadyH.cons (o := { dst := some 17, op := Op.call { callee := Callee.value (Operand.func 111), args := #[Operand.tmp 8, Operand.tmp 15, Operand.tmp 16], argTypes := #[86, 4, 93] }, type := 86, pos := "reading.go:99", after := #[{ on := 0, ground := Ground.data }, { on := 7, ground := Ground.data }, { on := 8, ground := Ground.data }, { on := 5, ground := Ground.chain }], guard := none }) rfl (fun K hK => ?_) AllReadyH.nil
  go_simp
  refine (HD.out _ F1.out).mono ?_
  rintro r w3 ⟨rfl, h2⟩
  have H2 := Lib.hid h2
  clear h2
  refine hK.out _ _ ?_ (fun hNext => ?_)
  · exact ⟨_, _, H2.out.choose_spec⟩
  clear hK K hHeld
  have hHeld := hNext
  clear hNext
  try simp only [Act.put, List.setIfInBounds_toArray, List.set_cons_zero, List.set_cons_succ]
  refine wpAnyH_take (i := 10) (oi := { dst := some 2, op := Op.assign (Operand.tmp 17), type := 86, pos := "reading.go:99", after := #[{ on := 9, ground := Ground.data }, { on := 9, ground := Ground.chain }, { on := 0, ground := Ground.phase }, { on := 1, ground := Ground.phase }, { on := 2, ground := Ground.phase }, { on := 3, ground := Ground.phase }, { on := 4, ground := Ground.phase }, { on := 5, ground := Ground.phase }, { on := 6, ground := Ground.phase }, { on := 7, ground := Ground.phase }, { on := 8, ground := Ground.phase }, { on := 9, ground := Ground.phase }], guard := none }) (v := ?_) rfl (by kernel_rfl) (by kernel_rfl) (by kernel_rfl) (fun _ _ _ h => h) (Or.inl ⟨by rfl, ?_⟩) hHeld ?_
  rotate_left
  focus (intro z hSw; clear hSw; go_simp; try with_reducible rfl)
  try simp only [Act.put, List.setIfInBounds_toArray, List.set_cons_zero, List.set_cons_succ]
  refine wpAnyH_done (by kernel_rfl) ?_ _
  clear hHeld
  go_wp2_with fail
  go_ret
  exact ⟨rfl, H2.out⟩
set_option maxHeartbeats 2000000 in
theorem mark_any {s0 s1 s2 : Addr} (hs : Sens w0 s0 s1 s2) (h : RG w0 w g n S br rv rsp (0, 0, 0) v u E L) : Calls Tryz.prog 66 #[.pointer (some ⟨g, 0, none⟩)] w (Hands w0 g n S br rv rsp (8, 0, 0) v u (addL (seg S 0 8 == mark) L s2)) := by
  have HSE := Lib.hid hs
  have H := Lib.hid h
  have hl := h.len
  have fd : Frm [] w w.drew := (Frm.refl [] w).drew
  have hr := RRawR_any br rv (S.take 224) rsp (0, 0, 0) ((8 : Nat) : Int) w.drew (h.keep0 fd).rd (by simp) (by simp; omega)
  rw [raw_at (by simp [hl]), seg224 hl (by omega)] at hr
  have HR := Lib.hid hr
  obtain ⟨q, hq⟩ : ∃ q, (seg S 0 8 == mark) = q := ⟨_, rfl⟩
  rw [hq]
  have HD := Lib.hid (fun W (f : RdTo w.drew br rv (S.take 224) rsp (8, 0, 0) W) => want_any ((h.keep0 fd).read f) q s2 hs.h2)
  have HK := Lib.hid (fun W (f : RdTo w.drew br rv (S.take 224) rsp (8, 0, 0) W) => (h.keep0 fd).read f)
  obtain ⟨X, hX⟩ : ∃ X : ByteArray, (⟨(seg S 0 8).toArray⟩ : ByteArray) = X := ⟨_, rfl⟩
  have hXY : (X.toList == markY.toList) = q := by rw [← hX, ByteArray.toList_eq, ByteArray.toList_eq, ← hq]; rfl
  have HX := Lib.hid hX
  clear h hs fd hq hl hr hX
  go_enter Tryz.func66, Tryz.ntmps66
  rw [show ({ data := #[67, 65, 85, 76, 75, 69, 82, 50] } : ByteArray) = markY from rfl]
  generalize markY = Y at *
  go_wp2_with fail
  refine wp_region_held_drew (S := fun z => ∃ st' E' L', RG w0 z g n S br rv rsp st' v u E' L') (by kernel_rfl) (⟨_, E, L, H.out.keep0 (Frm.refl [] w).drew⟩) (fun hHeld => ?_)
  refine wpAnyH_take (i := 0) (oi := { dst := some 3, op := Op.move (Operand.tmp 0), type := 86, pos := "reading.go:72", after := #[], guard := none }) (v := ?_) rfl (by kernel_rfl) (by kernel_rfl) (by kernel_rfl) (fun _ _ _ h => h) (Or.inl ⟨by rfl, ?_⟩) hHeld ?_
  rotate_left
  focus (intro z hSw; clear hSw; go_simp; try with_reducible rfl)
  try simp only [Act.put, List.setIfInBounds_toArray, List.set_cons_zero, List.set_cons_succ]
  refine wpAnyH_take (i := 1) (oi := { dst := some 4, op := Op.move (Operand.tmp 0), type := 86, pos := "reading.go:72", after := #[], guard := none }) (v := ?_) rfl (by kernel_rfl) (by kernel_rfl) (by kernel_rfl) (fun _ _ _ h => h) (Or.inl ⟨by rfl, ?_⟩) hHeld ?_
  rotate_left
  focus (intro z hSw; clear hSw; go_simp; try with_reducible rfl)
  try simp only [Act.put, List.setIfInBounds_toArray, List.set_cons_zero, List.set_cons_succ]
  refine wpAnyH_take (i := 2) (oi := { dst := some 5, op := Op.nilCheck (Operand.tmp 4), type := 0, pos := "reading.go:72", after := #[{ on := 1, ground := Ground.data }], guard := none }) (v := ?_) rfl (by kernel_rfl) (by kernel_rfl) (by kernel_rfl) (fun _ _ _ h => h) (Or.inl ⟨by rfl, ?_⟩) hHeld ?_
  rotate_left
  focus (intro z hSw; clear hSw; go_simp; try with_reducible rfl)
  try simp only [Act.put, List.setIfInBounds_toArray, List.set_cons_zero, List.set_cons_succ]
  refine wpAnyH_take (i := 3) (oi := { dst := some 6, op := Op.fieldAddr 95 (Operand.tmp 5) 2, type := 0, pos := "reading.go:72", after := #[{ on := 2, ground := Ground.data }], guard := none }) (v := ?_) rfl (by kernel_rfl) (by kernel_rfl) (by kernel_rfl) (fun _ _ _ h => h) (Or.inl ⟨by rfl, ?_⟩) hHeld ?_
  rotate_left
  focus (intro z hSw; clear hSw; go_simp; try with_reducible rfl)
  try simp only [Act.put, List.setIfInBounds_toArray, List.set_cons_zero, List.set_cons_succ]
  refine wpAnyH_take (i := 4) (oi := { dst := some 7, op := Op.load 91 (Operand.tmp 6), type := 91, pos := "reading.go:72", after := #[{ on := 3, ground := Ground.data }], guard := none }) (v := ?_) rfl (by kernel_rfl) (by kernel_rfl) (by kernel_rfl) (fun _ _ _ h => h) (Or.inl ⟨by rfl, ?_⟩) hHeld ?_
  rotate_left
  focus (intro z hSw; obtain ⟨_, _, _, hz⟩ := hSw; have cz := hz.size; have cf := hz.fld; have cw := hz.wrong; obtain ⟨g0, g1, g2⟩ := heap_of_sen HSE.out hz.frm; clear hz; go_simp; try with_reducible rfl)
  try simp only [Act.put, List.setIfInBounds_toArray, List.set_cons_zero, List.set_cons_succ]
  refine wpAnyH_take (i := 8) (oi := { dst := some 11, op := Op.load 93 (Operand.global 2), type := 93, pos := "reading.go:72", after := #[], guard := none }) (v := ?_) rfl (by kernel_rfl) (by kernel_rfl) (by kernel_rfl) (fun _ _ _ h => h) (Or.inl ⟨by rfl, ?_⟩) hHeld ?_
  rotate_left
  focus (intro z hSw; obtain ⟨_, _, _, hz⟩ := hSw; have cz := hz.size; have cf := hz.fld; have cw := hz.wrong; obtain ⟨g0, g1, g2⟩ := heap_of_sen HSE.out hz.frm; clear hz; go_simp; try with_reducible rfl)
  try simp only [Act.put, List.setIfInBounds_toArray, List.set_cons_zero, List.set_cons_succ]
  refine wpAnyH_ready (rs := [5]) (by kernel_rfl) (by simp) ?_
  refine AllReadyH.cons (o := { dst := some 8, op := Op.call { callee := Callee.value (Operand.func 112), args := #[Operand.tmp 7, Operand.const (Value.int IntKind.i64 8)], argTypes := #[91, 3] }, type := 32, pos := "reading.go:72", after := #[{ on := 4, ground := Ground.data }], guard := none }) rfl (fun K hK => ?_) AllReadyH.nil
  go_simp
  refine HR.out.mono ?_
  rintro r w1 ⟨a1, c1, s1, rfl, o1, n1, f1⟩
  have F1 := Lib.hid f1
  have O1 := Lib.hid o1.sl
  clear f1 o1 n1
  refine hK.out _ _ ?_ (fun hNext => ?_)
  · exact ⟨_, E, L, HK.out _ F1.out⟩
  clear hK K hHeld
  have hHeld := hNext
  clear hNext
  try simp only [Act.put, List.setIfInBounds_toArray, List.set_cons_zero, List.set_cons_succ]
  refine wpAnyH_ready (rs := [6]) (by kernel_rfl) (by simp) ?_
  refine AllReadyH.cons (o := { dst := some 9, op := Op.convert 32 9 (Operand.tmp 8), type := 9, pos := "reading.go:72", after := #[{ on := 5, ground := Ground.data }], guard := none }) rfl (fun K hK => ?_) AllReadyH.nil
  refine step_val (v := .string X) (w' := w1) rfl (by rw [← HX.out]; exact exec_conv rfl rfl O1.out) ?_
  refine hK.out _ _ ?_ (fun hNext => ?_)
  · exact hHeld
  clear hK K hHeld
  have hHeld := hNext
  clear hNext
  try simp only [Act.put, List.setIfInBounds_toArray, List.set_cons_zero, List.set_cons_succ]
  refine wpAnyH_take (i := 7) (oi := { dst := some 10, op := Op.binOp BinOp.eql 9 (Operand.tmp 9) (Operand.const (Value.string Y)) 9, type := 4, pos := "reading.go:72", after := #[{ on := 6, ground := Ground.data }], guard := none }) (v := ?_) rfl (by kernel_rfl) (by kernel_rfl) (by kernel_rfl) (fun _ _ _ h => h) (Or.inl ⟨by rfl, ?_⟩) hHeld ?_
  rotate_left
  focus (intro z hSw; clear hSw; go_simp; try with_reducible rfl)
  try simp only [Act.put, List.setIfInBounds_toArray, List.set_cons_zero, List.set_cons_succ]
  refine wpAnyH_ready (rs := [9]) (by kernel_rfl) (by simp) ?_
  refine AllReadyH.cons (o := { dst := some 12, op := Op.call { callee := Callee.value (Operand.func 111), args := #[Operand.tmp 3, Operand.tmp 10, Operand.tmp 11], argTypes := #[86, 4, 93] }, type := 86, pos := "reading.go:72", after := #[{ on := 0, ground := Ground.data }, { on := 7, ground := Ground.data }, { on := 8, ground := Ground.data }, { on := 5, ground := Ground.chain }], guard := none }) rfl (fun K hK => ?_) AllReadyH.nil
  go_simp
  refine (HD.out _ F1.out).mono ?_
  rintro r w2 ⟨rfl, h2⟩
  have H2 := Lib.hid h2
  clear h2
  refine hK.out _ _ ?_ (fun hNext => ?_)
  · exact ⟨_, _, _, H2.out.choose_spec⟩
  clear hK K hHeld
  have hHeld := hNext
  clear hNext
  try simp only [Act.put, List.setIfInBounds_toArray, List.set_cons_zero, List.set_cons_succ]
  refine wpAnyH_take (i := 10) (oi := { dst := some 2, op := Op.assign (Operand.tmp 12), type := 86, pos := "reading.go:72", after := #[{ on := 9, ground := Ground.data }, { on := 9, ground := Ground.chain }, { on := 0, ground := Ground.phase }, { on := 1, ground := Ground.phase }, { on := 2, ground := Ground.phase }, { on := 3, ground := Ground.phase }, { on := 4, ground := Ground.phase }, { on := 5, ground := Ground.phase }, { on := 6, ground := Ground.phase }, { on := 7, ground := Ground.phase }, { on := 8, ground := Ground.phase }, { on := 9, ground := Ground.phase }], guard := none }) (v := ?_) rfl (by kernel_rfl) (by kernel_rfl) (by kernel_rfl) (fun _ _ _ h => h) (Or.inl ⟨by rfl, ?_⟩) hHeld ?_
  rotate_left
  focus (intro z hSw; clear hSw; go_simp; try with_reducible rfl)
  try simp only [Act.put, List.setIfInBounds_toArray, List.set_cons_zero, List.set_cons_succ]
  refine wpAnyH_done (by kernel_rfl) ?_ _
  clear hHeld
  go_wp2_with fail
  go_ret
  exact ⟨rfl, H2.out⟩
end
end Go.Proofs.YtjdejhgfkjeeiaaGreatDoor
