/-
  Contract of Read, of the answer of the document. No conditions but those that each theorem names.
-/
import Derived.Test.YtjdejhgfkjeeiaaGreatDoorPV
namespace Go.Proofs.YtjdejhgfkjeeiaaGreatDoor.Pt
open Go.RowKit
set_option linter.unusedVariables false
set_option linter.unusedSimpArgs false
set_option maxRecDepth 100000

/-- Bytes that are not 47 of them. -/
theorem readP_len {l : List UInt8} {w w' : World} {x : Value} {n : Int} (h : l.length ≠ 47) (hn : n = if l.length < 47 then (l.length : Int) else 47) (hx : PtV w' x zeroPt) (f : Frm [] w w') (hnw : ∀ i ∈ ptBlk x, w.heap.size ≤ i) : ReadN l w (.returned (.tuple #[x, .agg #[.int .i64 4, .int .i64 n]])) w' := by
  have hg : goodB l = false := by
    cases hb : goodB l with
    | false => rfl
    | true => exact absurd ((goodB_iff l).1 hb).1 h
  exact ⟨x, by simp [readE, readAt, hg, h, hn], by simpa [readPt, hg] using hx, f, hnw⟩
theorem readP_no {l : List UInt8} {w w' : World} {x : Value} (h : l.length = 47) (hg : goodB l = false) (hx : PtV w' x zeroPt) (f : Frm [] w w') (hnw : ∀ i ∈ ptBlk x, w.heap.size ≤ i) : ReadN l w (.returned (.tuple #[x, .agg #[.int .i64 2, .int .i64 0]])) w' :=
  ⟨x, by simp [readE, readAt, hg, h], by simpa [readPt, hg] using hx, f, hnw⟩
theorem readP_yes {l : List UInt8} {w w' : World} {x : Value} (hg : goodB l = true) (hx : PtV w' x (rawPt3 l)) (f : Frm [] w w') (hnw : ∀ i ∈ ptBlk x, w.heap.size ≤ i) : ReadN l w (.returned (.tuple #[x, .agg #[.int .i64 0, .int .i64 0]])) w' :=
  ⟨x, by simp [readE, readAt, hg], by rw [rawPt3_eq ((goodB_iff l).1 hg).2.1] at hx; simpa [readPt, hg] using hx, f, hnw⟩
def SumRel (l : List UInt8) (n g nb nl : Nat) (xa : Option Addr) (xc : Nat) (w0 : World) (cv : Value) (wr : World) : Prop := ∃ k : Nat, k ≤ 32 ∧ cv = .int .i64 k ∧ PB wr g (.slice xa n xc) nb nl ((l.drop 15).take k ++ List.replicate (32 - k) 0) ∧ Frm [g] w0 wr
set_option maxHeartbeats 8000000 in
theorem RefReadN_any (v : Value) (l sp : List UInt8) (w : World) (hS : SlB w v l sp) (hl : l.length ≤ 1000000) : Calls Tryz.prog 79 #[v] w (ReadN l w) := by
  obtain ⟨a, cap, rfl, _, _⟩ := hS.form
  have HS := Lib.hid hS
  have HL := Lib.hid hl
  have hl9 : (l.length : Int) ≤ 1000000 := by omega
  clear hl hS
  go_enter Tryz.func79, Tryz.ntmps79
  go_upto_region 1 with ((with_reducible (show wpList _ _ _ (Oper.mk _ (Op.alloc 26) _ _ _ _ :: _) _ _)); refine wpList_val rfl (exec_alloc26z rfl _) ?_)
  try simp only [World.size_alloc]
  have hb1 : PB ((w.alloc (.cells (pc (.slice none 0 0) 0 0 zs).toArray 26)).alloc (.cells #[.int .i64 0, .int .i64 0] 101)) w.heap.size (.slice none 0 0) 0 0 zs := (PB.new _ _ _ _ _).alloc _
  have hb2 : ((w.alloc (.cells (pc (.slice none 0 0) 0 0 zs).toArray 26)).alloc (.cells #[.int .i64 0, .int .i64 0] 101)).heap[w.heap.size + 1]? = some (.cells #[.int .i64 0, .int .i64 0] 101 (0, 0)) := heap_alloc_at (by simp)
  have hf : Frm [] w ((w.alloc (.cells (pc (.slice none 0 0) 0 0 zs).toArray 26)).alloc (.cells #[.int .i64 0, .int .i64 0] 101)) := ((Frm.refl [] w).alloc _).alloc _
  have hsz : ((w.alloc (.cells (pc (.slice none 0 0) 0 0 zs).toArray 26)).alloc (.cells #[.int .i64 0, .int .i64 0] 101)).heap.size = w.heap.size + 2 := by simp
  generalize (w.alloc (.cells (pc (.slice none 0 0) 0 0 zs).toArray 26)).alloc (.cells #[.int .i64 0, .int .i64 0] 101) = W at *
  have HB1 := Lib.hid hb1
  have HB2 := Lib.hid hb2
  have HF := Lib.hid hf
  have HSZ := Lib.hid hsz
  clear hb1 hb2 hf hsz
  by_cases h47 : l.length = 47
  · have H47 := Lib.hid h47
    have HS47 := HS.out
    rw [h47] at HS47 ⊢
    clear hl9
    rcases HS47.cases with ⟨_, e⟩ | ⟨_, _, e⟩ | ⟨b, off, cap', e, _, _⟩
    · rw [e] at h47; simp at h47
    · rw [e] at h47; simp at h47
    simp only [Value.slice.injEq] at e
    obtain ⟨rfl, -, rfl⟩ := e
    have hcell := fun (i : Nat) (hi : i < 47) W' (f : Frm [] w W') => (HS47.keep f (by simp)).cellAt i (by rw [H47.out]; exact hi)
    have HCELL := Lib.hid hcell
    clear h47 HS47
    obtain ⟨x0, h0⟩ : ∃ x0 : UInt8, x0 = l[10]'(by have := H47.out; omega) := ⟨_, rfl⟩
    obtain ⟨x1, h1⟩ : ∃ x1 : UInt8, x1 = l[11]'(by have := H47.out; omega) := ⟨_, rfl⟩
    obtain ⟨x2, h2⟩ : ∃ x2 : UInt8, x2 = l[12]'(by have := H47.out; omega) := ⟨_, rfl⟩
    obtain ⟨x3, h3⟩ : ∃ x3 : UInt8, x3 = l[13]'(by have := H47.out; omega) := ⟨_, rfl⟩
    obtain ⟨x4, h4⟩ : ∃ x4 : UInt8, x4 = l[14]'(by have := H47.out; omega) := ⟨_, rfl⟩
    have hnb : beNat ((l.drop 10).take 4) = x0.toNat * 16777216 + x1.toNat * 65536 + x2.toNat * 256 + x3.toNat := by rw [be4_get _ _ (by have := H47.out; omega), h0, h1, h2, h3]
    have hnl : beNat ((l.drop 14).take 1) = x4.toNat := by rw [be1_get _ _ (by have := H47.out; omega), h4]
    have q0 := fun W' (f : Frm [] w W') => HCELL.out 10 (by omega) W' f
    have q1 := fun W' (f : Frm [] w W') => HCELL.out 11 (by omega) W' f
    have q2 := fun W' (f : Frm [] w W') => HCELL.out 12 (by omega) W' f
    have q3 := fun W' (f : Frm [] w W') => HCELL.out 13 (by omega) W' f
    have q4 := fun W' (f : Frm [] w W') => HCELL.out 14 (by omega) W' f
    rw [← h0] at q0
    rw [← h1] at q1
    rw [← h2] at q2
    rw [← h3] at q3
    rw [← h4] at q4
    have Q0 := Lib.hid q0
    have Q1 := Lib.hid q1
    have Q2 := Lib.hid q2
    have Q3 := Lib.hid q3
    have Q4 := Lib.hid q4
    have HP3 := Lib.hid (show rawPt3 l = ⟨(List.range (min (rawN l) 3)).map (rawAd l), beNat ((l.drop 10).take 4), beNat ((l.drop 14).take 1), l.drop 15⟩ from rfl)
    generalize beNat ((l.drop 10).take 4) = nb at *
    generalize beNat ((l.drop 14).take 1) = nl at *
    have HNB := Lib.hid hnb
    have HNL := Lib.hid hnl
    have hnb8 : (nb : Int) < 4294967296 := by have := x0.toNat_lt; have := x1.toNat_lt; have := x2.toNat_lt; have := x3.toNat_lt; omega
    clear h0 h1 h2 h3 h4 q0 q1 q2 q3 q4 hcell hnb hnl
    go_upto_region 5 with (fail)
    refine wp_region_held_drew (S := fun z => Frm [] w z) (by kernel_rfl) (HF.out.drew) (fun hHeld => ?_)
    refine wpAnyH_take (i := 0) (oi := { dst := some 21, op := Op.move (Operand.tmp 0), type := 32, pos := "ref.go:65", after := #[], guard := none }) (v := ?_) rfl (by kernel_rfl) (by kernel_rfl) (by kernel_rfl) (fun _ _ _ h => h) (Or.inl ⟨by rfl, ?_⟩) hHeld ?_
    rotate_left
    focus (intro z hSw; clear hSw; go_simp; try with_reducible rfl)
    try simp only [Act.put, List.setIfInBounds_toArray, List.set_cons_zero, List.set_cons_succ]
    refine wpAnyH_take (i := 1) (oi := { dst := some 22, op := Op.indexAddr 32 (Operand.tmp 21) (Operand.const (Value.int IntKind.i64 10)), type := 0, pos := "ref.go:65", after := #[{ on := 0, ground := Ground.data }], guard := none }) (v := ?_) rfl (by kernel_rfl) (by kernel_rfl) (by kernel_rfl) (fun _ _ _ h => h) (Or.inl ⟨by rfl, ?_⟩) hHeld ?_
    rotate_left
    focus (intro z hSw; clear hSw; go_simp; try with_reducible rfl)
    try simp only [Act.put, List.setIfInBounds_toArray, List.set_cons_zero, List.set_cons_succ]
    refine wpAnyH_take (i := 2) (oi := { dst := some 23, op := Op.load 5 (Operand.tmp 22), type := 5, pos := "ref.go:65", after := #[{ on := 1, ground := Ground.data }], guard := none }) (v := ?_) rfl (by kernel_rfl) (by kernel_rfl) (by kernel_rfl) (fun _ _ _ h => h) (Or.inl ⟨by rfl, ?_⟩) hHeld ?_
    rotate_left
    focus (intro z hSw; have c0 := Q0.out z hSw; have c1 := Q1.out z hSw; have c2 := Q2.out z hSw; have c3 := Q3.out z hSw; have c4 := Q4.out z hSw; clear hSw; go_simp; try with_reducible rfl)
    try simp only [Act.put, List.setIfInBounds_toArray, List.set_cons_zero, List.set_cons_succ]
    refine wpAnyH_take (i := 3) (oi := { dst := some 24, op := Op.convert 5 3 (Operand.tmp 23), type := 3, pos := "ref.go:65", after := #[{ on := 2, ground := Ground.data }], guard := none }) (v := ?_) rfl (by kernel_rfl) (by kernel_rfl) (by kernel_rfl) (fun _ _ _ h => h) (Or.inl ⟨by rfl, ?_⟩) hHeld ?_
    rotate_left
    focus (intro z hSw; clear hSw; go_simp; try with_reducible rfl)
    try simp only [Act.put, List.setIfInBounds_toArray, List.set_cons_zero, List.set_cons_succ]
    refine wpAnyH_take (i := 4) (oi := { dst := some 25, op := Op.binOp BinOp.shl 3 (Operand.tmp 24) (Operand.const (Value.int IntKind.u64 24)) 141, type := 3, pos := "ref.go:65", after := #[{ on := 3, ground := Ground.data }], guard := none }) (v := ?_) rfl (by kernel_rfl) (by kernel_rfl) (by kernel_rfl) (fun _ _ _ h => h) (Or.inl ⟨by rfl, ?_⟩) hHeld ?_
    rotate_left
    focus (intro z hSw; clear hSw; go_simp; try with_reducible rfl)
    try simp only [Act.put, List.setIfInBounds_toArray, List.set_cons_zero, List.set_cons_succ]
    refine wpAnyH_take (i := 5) (oi := { dst := some 26, op := Op.move (Operand.tmp 0), type := 32, pos := "ref.go:65", after := #[], guard := none }) (v := ?_) rfl (by kernel_rfl) (by kernel_rfl) (by kernel_rfl) (fun _ _ _ h => h) (Or.inl ⟨by rfl, ?_⟩) hHeld ?_
    rotate_left
    focus (intro z hSw; clear hSw; go_simp; try with_reducible rfl)
    try simp only [Act.put, List.setIfInBounds_toArray, List.set_cons_zero, List.set_cons_succ]
    refine wpAnyH_take (i := 6) (oi := { dst := some 27, op := Op.indexAddr 32 (Operand.tmp 26) (Operand.const (Value.int IntKind.i64 11)), type := 0, pos := "ref.go:65", after := #[{ on := 5, ground := Ground.data }], guard := none }) (v := ?_) rfl (by kernel_rfl) (by kernel_rfl) (by kernel_rfl) (fun _ _ _ h => h) (Or.inl ⟨by rfl, ?_⟩) hHeld ?_
    rotate_left
    focus (intro z hSw; clear hSw; go_simp; try with_reducible rfl)
    try simp only [Act.put, List.setIfInBounds_toArray, List.set_cons_zero, List.set_cons_succ]
    refine wpAnyH_take (i := 7) (oi := { dst := some 28, op := Op.load 5 (Operand.tmp 27), type := 5, pos := "ref.go:65", after := #[{ on := 6, ground := Ground.data }], guard := none }) (v := ?_) rfl (by kernel_rfl) (by kernel_rfl) (by kernel_rfl) (fun _ _ _ h => h) (Or.inl ⟨by rfl, ?_⟩) hHeld ?_
    rotate_left
    focus (intro z hSw; have c0 := Q0.out z hSw; have c1 := Q1.out z hSw; have c2 := Q2.out z hSw; have c3 := Q3.out z hSw; have c4 := Q4.out z hSw; clear hSw; go_simp; try with_reducible rfl)
    try simp only [Act.put, List.setIfInBounds_toArray, List.set_cons_zero, List.set_cons_succ]
    refine wpAnyH_take (i := 8) (oi := { dst := some 29, op := Op.convert 5 3 (Operand.tmp 28), type := 3, pos := "ref.go:65", after := #[{ on := 7, ground := Ground.data }], guard := none }) (v := ?_) rfl (by kernel_rfl) (by kernel_rfl) (by kernel_rfl) (fun _ _ _ h => h) (Or.inl ⟨by rfl, ?_⟩) hHeld ?_
    rotate_left
    focus (intro z hSw; clear hSw; go_simp; try with_reducible rfl)
    try simp only [Act.put, List.setIfInBounds_toArray, List.set_cons_zero, List.set_cons_succ]
    refine wpAnyH_take (i := 9) (oi := { dst := some 30, op := Op.binOp BinOp.shl 3 (Operand.tmp 29) (Operand.const (Value.int IntKind.u64 16)) 141, type := 3, pos := "ref.go:65", after := #[{ on := 8, ground := Ground.data }], guard := none }) (v := ?_) rfl (by kernel_rfl) (by kernel_rfl) (by kernel_rfl) (fun _ _ _ h => h) (Or.inl ⟨by rfl, ?_⟩) hHeld ?_
    rotate_left
    focus (intro z hSw; clear hSw; go_simp; try with_reducible rfl)
    try simp only [Act.put, List.setIfInBounds_toArray, List.set_cons_zero, List.set_cons_succ]
    refine wpAnyH_take (i := 10) (oi := { dst := some 31, op := Op.binOp BinOp.add 3 (Operand.tmp 25) (Operand.tmp 30) 3, type := 3, pos := "ref.go:65", after := #[{ on := 4, ground := Ground.data }, { on := 9, ground := Ground.data }], guard := none }) (v := ?_) rfl (by kernel_rfl) (by kernel_rfl) (by kernel_rfl) (fun _ _ _ h => h) (Or.inl ⟨by rfl, ?_⟩) hHeld ?_
    rotate_left
    focus (intro z hSw; clear hSw; go_simp; try with_reducible rfl)
    try simp only [Act.put, List.setIfInBounds_toArray, List.set_cons_zero, List.set_cons_succ]
    refine wpAnyH_take (i := 11) (oi := { dst := some 32, op := Op.move (Operand.tmp 0), type := 32, pos := "ref.go:65", after := #[], guard := none }) (v := ?_) rfl (by kernel_rfl) (by kernel_rfl) (by kernel_rfl) (fun _ _ _ h => h) (Or.inl ⟨by rfl, ?_⟩) hHeld ?_
    rotate_left
    focus (intro z hSw; clear hSw; go_simp; try with_reducible rfl)
    try simp only [Act.put, List.setIfInBounds_toArray, List.set_cons_zero, List.set_cons_succ]
    refine wpAnyH_take (i := 12) (oi := { dst := some 33, op := Op.indexAddr 32 (Operand.tmp 32) (Operand.const (Value.int IntKind.i64 12)), type := 0, pos := "ref.go:65", after := #[{ on := 11, ground := Ground.data }], guard := none }) (v := ?_) rfl (by kernel_rfl) (by kernel_rfl) (by kernel_rfl) (fun _ _ _ h => h) (Or.inl ⟨by rfl, ?_⟩) hHeld ?_
    rotate_left
    focus (intro z hSw; clear hSw; go_simp; try with_reducible rfl)
    try simp only [Act.put, List.setIfInBounds_toArray, List.set_cons_zero, List.set_cons_succ]
    refine wpAnyH_take (i := 13) (oi := { dst := some 34, op := Op.load 5 (Operand.tmp 33), type := 5, pos := "ref.go:65", after := #[{ on := 12, ground := Ground.data }], guard := none }) (v := ?_) rfl (by kernel_rfl) (by kernel_rfl) (by kernel_rfl) (fun _ _ _ h => h) (Or.inl ⟨by rfl, ?_⟩) hHeld ?_
    rotate_left
    focus (intro z hSw; have c0 := Q0.out z hSw; have c1 := Q1.out z hSw; have c2 := Q2.out z hSw; have c3 := Q3.out z hSw; have c4 := Q4.out z hSw; clear hSw; go_simp; try with_reducible rfl)
    try simp only [Act.put, List.setIfInBounds_toArray, List.set_cons_zero, List.set_cons_succ]
    refine wpAnyH_take (i := 14) (oi := { dst := some 35, op := Op.convert 5 3 (Operand.tmp 34), type := 3, pos := "ref.go:65", after := #[{ on := 13, ground := Ground.data }], guard := none }) (v := ?_) rfl (by kernel_rfl) (by kernel_rfl) (by kernel_rfl) (fun _ _ _ h => h) (Or.inl ⟨by rfl, ?_⟩) hHeld ?_
    rotate_left
    focus (intro z hSw; clear hSw; go_simp; try with_reducible rfl)
    try simp only [Act.put, List.setIfInBounds_toArray, List.set_cons_zero, List.set_cons_succ]
    refine wpAnyH_take (i := 15) (oi := { dst := some 36, op := Op.binOp BinOp.shl 3 (Operand.tmp 35) (Operand.const (Value.int IntKind.u64 8)) 141, type := 3, pos := "ref.go:65", after := #[{ on := 14, ground := Ground.data }], guard := none }) (v := ?_) rfl (by kernel_rfl) (by kernel_rfl) (by kernel_rfl) (fun _ _ _ h => h) (Or.inl ⟨by rfl, ?_⟩) hHeld ?_
    rotate_left
    focus (intro z hSw; clear hSw; go_simp; try with_reducible rfl)
    try simp only [Act.put, List.setIfInBounds_toArray, List.set_cons_zero, List.set_cons_succ]
    refine wpAnyH_take (i := 16) (oi := { dst := some 37, op := Op.binOp BinOp.add 3 (Operand.tmp 31) (Operand.tmp 36) 3, type := 3, pos := "ref.go:65", after := #[{ on := 10, ground := Ground.data }, { on := 15, ground := Ground.data }], guard := none }) (v := ?_) rfl (by kernel_rfl) (by kernel_rfl) (by kernel_rfl) (fun _ _ _ h => h) (Or.inl ⟨by rfl, ?_⟩) hHeld ?_
    rotate_left
    focus (intro z hSw; clear hSw; go_simp; try with_reducible rfl)
    try simp only [Act.put, List.setIfInBounds_toArray, List.set_cons_zero, List.set_cons_succ]
    refine wpAnyH_take (i := 17) (oi := { dst := some 38, op := Op.move (Operand.tmp 0), type := 32, pos := "ref.go:65", after := #[], guard := none }) (v := ?_) rfl (by kernel_rfl) (by kernel_rfl) (by kernel_rfl) (fun _ _ _ h => h) (Or.inl ⟨by rfl, ?_⟩) hHeld ?_
    rotate_left
    focus (intro z hSw; clear hSw; go_simp; try with_reducible rfl)
    try simp only [Act.put, List.setIfInBounds_toArray, List.set_cons_zero, List.set_cons_succ]
    refine wpAnyH_take (i := 18) (oi := { dst := some 39, op := Op.indexAddr 32 (Operand.tmp 38) (Operand.const (Value.int IntKind.i64 13)), type := 0, pos := "ref.go:65", after := #[{ on := 17, ground := Ground.data }], guard := none }) (v := ?_) rfl (by kernel_rfl) (by kernel_rfl) (by kernel_rfl) (fun _ _ _ h => h) (Or.inl ⟨by rfl, ?_⟩) hHeld ?_
    rotate_left
    focus (intro z hSw; clear hSw; go_simp; try with_reducible rfl)
    try simp only [Act.put, List.setIfInBounds_toArray, List.set_cons_zero, List.set_cons_succ]
    refine wpAnyH_take (i := 19) (oi := { dst := some 40, op := Op.load 5 (Operand.tmp 39), type := 5, pos := "ref.go:65", after := #[{ on := 18, ground := Ground.data }], guard := none }) (v := ?_) rfl (by kernel_rfl) (by kernel_rfl) (by kernel_rfl) (fun _ _ _ h => h) (Or.inl ⟨by rfl, ?_⟩) hHeld ?_
    rotate_left
    focus (intro z hSw; have c0 := Q0.out z hSw; have c1 := Q1.out z hSw; have c2 := Q2.out z hSw; have c3 := Q3.out z hSw; have c4 := Q4.out z hSw; clear hSw; go_simp; try with_reducible rfl)
    try simp only [Act.put, List.setIfInBounds_toArray, List.set_cons_zero, List.set_cons_succ]
    refine wpAnyH_take (i := 20) (oi := { dst := some 41, op := Op.convert 5 3 (Operand.tmp 40), type := 3, pos := "ref.go:65", after := #[{ on := 19, ground := Ground.data }], guard := none }) (v := ?_) rfl (by kernel_rfl) (by kernel_rfl) (by kernel_rfl) (fun _ _ _ h => h) (Or.inl ⟨by rfl, ?_⟩) hHeld ?_
    rotate_left
    focus (intro z hSw; clear hSw; go_simp; try with_reducible rfl)
    try simp only [Act.put, List.setIfInBounds_toArray, List.set_cons_zero, List.set_cons_succ]
    refine wpAnyH_take (i := 21) (oi := { dst := some 42, op := Op.binOp BinOp.add 3 (Operand.tmp 37) (Operand.tmp 41) 3, type := 3, pos := "ref.go:65", after := #[{ on := 16, ground := Ground.data }, { on := 20, ground := Ground.data }], guard := none }) (v := ?_) rfl (by kernel_rfl) (by kernel_rfl) (by kernel_rfl) (fun _ _ _ h => h) (Or.inl ⟨by rfl, ?_⟩) hHeld ?_
    rotate_left
    focus (intro z hSw; clear hSw; go_simp; try with_reducible rfl)
    try simp only [Act.put, List.setIfInBounds_toArray, List.set_cons_zero, List.set_cons_succ]
    refine wpAnyH_take (i := 22) (oi := { dst := some 43, op := Op.move (Operand.tmp 0), type := 32, pos := "ref.go:65", after := #[], guard := none }) (v := ?_) rfl (by kernel_rfl) (by kernel_rfl) (by kernel_rfl) (fun _ _ _ h => h) (Or.inl ⟨by rfl, ?_⟩) hHeld ?_
    rotate_left
    focus (intro z hSw; clear hSw; go_simp; try with_reducible rfl)
    try simp only [Act.put, List.setIfInBounds_toArray, List.set_cons_zero, List.set_cons_succ]
    refine wpAnyH_take (i := 23) (oi := { dst := some 44, op := Op.indexAddr 32 (Operand.tmp 43) (Operand.const (Value.int IntKind.i64 14)), type := 0, pos := "ref.go:65", after := #[{ on := 22, ground := Ground.data }], guard := none }) (v := ?_) rfl (by kernel_rfl) (by kernel_rfl) (by kernel_rfl) (fun _ _ _ h => h) (Or.inl ⟨by rfl, ?_⟩) hHeld ?_
    rotate_left
    focus (intro z hSw; clear hSw; go_simp; try with_reducible rfl)
    try simp only [Act.put, List.setIfInBounds_toArray, List.set_cons_zero, List.set_cons_succ]
    refine wpAnyH_take (i := 24) (oi := { dst := some 45, op := Op.load 5 (Operand.tmp 44), type := 5, pos := "ref.go:65", after := #[{ on := 23, ground := Ground.data }], guard := none }) (v := ?_) rfl (by kernel_rfl) (by kernel_rfl) (by kernel_rfl) (fun _ _ _ h => h) (Or.inl ⟨by rfl, ?_⟩) hHeld ?_
    rotate_left
    focus (intro z hSw; have c0 := Q0.out z hSw; have c1 := Q1.out z hSw; have c2 := Q2.out z hSw; have c3 := Q3.out z hSw; have c4 := Q4.out z hSw; clear hSw; go_simp; try with_reducible rfl)
    try simp only [Act.put, List.setIfInBounds_toArray, List.set_cons_zero, List.set_cons_succ]
    refine wpAnyH_take (i := 25) (oi := { dst := some 46, op := Op.convert 5 3 (Operand.tmp 45), type := 3, pos := "ref.go:65", after := #[{ on := 24, ground := Ground.data }], guard := none }) (v := ?_) rfl (by kernel_rfl) (by kernel_rfl) (by kernel_rfl) (fun _ _ _ h => h) (Or.inl ⟨by rfl, ?_⟩) hHeld ?_
    rotate_left
    focus (intro z hSw; clear hSw; go_simp; try with_reducible rfl)
    try simp only [Act.put, List.setIfInBounds_toArray, List.set_cons_zero, List.set_cons_succ]
    refine wpAnyH_take (i := 26) (oi := { dst := some 47, op := Op.build 26 #[(1, Operand.tmp 42), (2, Operand.tmp 46)], type := 26, pos := "ref.go:65", after := #[{ on := 21, ground := Ground.data }, { on := 25, ground := Ground.data }], guard := none }) rfl (by kernel_rfl) (by kernel_rfl) (by kernel_rfl) (fun _ _ _ h => h) (Or.inl ⟨by rfl, fun z hSw => exec_bld12 (.tmp 42) (.tmp 46) rfl rfl rfl z⟩) hHeld ?_
    try simp only [Act.put, List.setIfInBounds_toArray, List.set_cons_zero, List.set_cons_succ]
    refine wpAnyH_ready (rs := [27]) (by kernel_rfl) (by simp) ?_
    refine AllReadyH.cons (o := { dst := some 4, op := Op.alloc 26, type := 0, pos := "ref.go:65", after := #[], guard := none }) rfl (fun K hK => ?_) AllReadyH.nil
    refine step_val (v := .pointer (some ⟨W.heap.size, 0, none⟩)) (w' := W.drew.alloc (.cells (pc (.slice none 0 0) 0 0 zs).toArray 26)) rfl (exec_alloc26z rfl W.drew) ?_
    refine hK.out _ _ ?_ (fun hNext => ?_)
    · exact hHeld.alloc _
    clear hK K hHeld
    have hHeld := hNext
    clear hNext
    try simp only [Act.put, List.setIfInBounds_toArray, List.set_cons_zero, List.set_cons_succ]
    refine wpAnyH_ready (rs := [28]) (by kernel_rfl) (by simp) ?_
    refine AllReadyH.cons (o := { dst := none, op := Op.store 26 (Operand.tmp 4) (Operand.tmp 47), type := 0, pos := "ref.go:65", after := #[{ on := 27, ground := Ground.data }, { on := 26, ground := Ground.data }, { on := 0, ground := Ground.phase }, { on := 1, ground := Ground.phase }, { on := 2, ground := Ground.phase }, { on := 3, ground := Ground.phase }, { on := 4, ground := Ground.phase }, { on := 5, ground := Ground.phase }, { on := 6, ground := Ground.phase }, { on := 7, ground := Ground.phase }, { on := 8, ground := Ground.phase }, { on := 9, ground := Ground.phase }, { on := 10, ground := Ground.phase }, { on := 11, ground := Ground.phase }, { on := 12, ground := Ground.phase }, { on := 13, ground := Ground.phase }, { on := 14, ground := Ground.phase }, { on := 15, ground := Ground.phase }, { on := 16, ground := Ground.phase }, { on := 17, ground := Ground.phase }, { on := 18, ground := Ground.phase }, { on := 19, ground := Ground.phase }, { on := 20, ground := Ground.phase }, { on := 21, ground := Ground.phase }, { on := 22, ground := Ground.phase }, { on := 23, ground := Ground.phase }, { on := 24, ground := Ground.phase }, { on := 25, ground := Ground.phase }, { on := 26, ground := Ground.phase }, { on := 27, ground := Ground.phase }], guard := none }) rfl (fun K hK => ?_) AllReadyH.nil
    rw [if_pos (by rfl)]
    refine wp_store_row 26 (.tmp 4) (.tmp 47) rfl W.heap.size _ rfl rfl 26 _ (heap_alloc_new W.drew _) (by rw [i26, pc_size]; rfl) (by simp only [pc_size]; rfl) (pc_one _ _ _) ?_
    refine hK.out _ _ ?_ (fun hNext => ?_)
    · exact hHeld.trans (L' := [W.heap.size]) ⟨rfl, rfl, rfl, by simp [World.setRow], fun k hk hn => setRow_other _ _ k _ (by simpa using hn)⟩ (fun i hi => .inr (by simp at hi; subst hi; exact HF.out.size))
    clear hK K hHeld
    have hHeld := hNext
    clear hNext
    try simp only [Act.put, List.setIfInBounds_toArray, List.set_cons_zero, List.set_cons_succ]
    refine wpAnyH_done (by kernel_rfl) ?_ _
    have e0 : IntKind.i64.wrap (IntKind.i64.wrap ↑x0.toNat * 16777216) = x0.toNat * 16777216 := by have := x0.toNat_lt; rw [IntWalk.i64_in (x0.toNat : Int) (by omega)]; exact IntWalk.i64_in _ (by omega)
    have e1 : IntKind.i64.wrap (IntKind.i64.wrap ↑x1.toNat * 65536) = x1.toNat * 65536 := by have := x1.toNat_lt; rw [IntWalk.i64_in (x1.toNat : Int) (by omega)]; exact IntWalk.i64_in _ (by omega)
    have e2 : IntKind.i64.wrap (IntKind.i64.wrap ↑x2.toNat * 256) = x2.toNat * 256 := by have := x2.toNat_lt; rw [IntWalk.i64_in (x2.toNat : Int) (by omega)]; exact IntWalk.i64_in _ (by omega)
    have e3 : IntKind.i64.wrap ↑x3.toNat = x3.toNat := by have := x3.toNat_lt; exact IntWalk.i64_in _ (by omega)
    have e4 : IntKind.i64.wrap ↑x4.toNat = nl := by have := x4.toNat_lt; rw [HNL.out]; exact IntWalk.i64_in _ (by omega)
    have e5 : IntKind.i64.wrap (IntKind.i64.wrap (IntKind.i64.wrap (x0.toNat * 16777216 + x1.toNat * 65536) + x2.toNat * 256) + x3.toNat) = nb := by
      have := HNB.out
      rw [IntWalk.i64_in (x0.toNat * 16777216 + x1.toNat * 65536 : Int) (by omega), IntWalk.i64_in (x0.toNat * 16777216 + x1.toNat * 65536 + x2.toNat * 256 : Int) (by omega)]
      rw [IntWalk.i64_in _ (by omega)]
      omega
    rw [e0, e1, e2, e3, e4, e5]
    have hPB : PB ((W.drew.alloc (.cells (pc (.slice none 0 0) 0 0 zs).toArray 26)).setRow W.heap.size (pc (.slice none 0 0) nb nl (List.replicate 32 0)).toArray) W.heap.size (.slice none 0 0) nb nl (List.replicate 32 0) := setRow_heap _ W.heap.size _ _ 26 (0, 0) (heap_alloc_new W.drew _)
    have fV : Frm [] W ((W.drew.alloc (.cells (pc (.slice none 0 0) 0 0 zs).toArray 26)).setRow W.heap.size (pc (.slice none 0 0) nb nl (List.replicate 32 0)).toArray) := ((Frm.refl [] W).drew.alloc _).trans (L' := [W.heap.size]) ⟨rfl, rfl, rfl, by simp [World.setRow], fun k hk hn => setRow_other _ _ k _ (by simpa using hn)⟩ (by simp)
    clear e0 e1 e2 e3 e4 e5 hHeld Q0 Q1 Q2 Q3 Q4 HNB HNL
    generalize (W.drew.alloc (.cells (pc (.slice none 0 0) 0 0 zs).toArray 26)).setRow W.heap.size (pc (.slice none 0 0) nb nl (List.replicate 32 0)).toArray = V at *
    have HPB := Lib.hid hPB
    have FV := Lib.hid fV
    clear hPB fV
    obtain ⟨xb, hxb⟩ : ∃ xb : UInt8, xb = l[0]'(by have := H47.out; omega) := ⟨_, rfl⟩
    have hnx : rawN l = xb.toNat := by have h := be1_get l 0 (by have := H47.out; omega); rw [List.drop_zero] at h; rw [hxb]; exact h
    have qb := fun W' (f : Frm [] w W') => HCELL.out 0 (by omega) W' f
    rw [← hxb] at qb
    have QB := Lib.hid qb
    have hwb : IntKind.i64.wrap (xb.toNat : Int) = xb.toNat := by have := xb.toNat_lt; exact IntWalk.i64_in _ (by omega)
    obtain ⟨n3, hn3⟩ : ∃ n3, n3 = min (rawN l) 3 := ⟨_, rfl⟩
    rw [← hn3] at HP3
    rw [hnx] at hn3
    have HN3 := Lib.hid hn3
    have h39 : n3 ≤ 3 := by omega
    clear hxb hnx qb hn3
    generalize pv (.slice none 0 0) nb nl (List.replicate 32 0) = x47
    go_wp2_with fail
    go_loopw [5] (RawRel l n3 W.heap.size nb nl W) (fun cv _ => n3 - (intOf cv).toNat)
    case atStart => exact ⟨0, none, 0, [], by omega, rfl, HPB.out, OwnA.nil _ _, by simp [blk], FV.out⟩
    case round =>
      obtain ⟨k, xa, xc, xsp, hk, rfl, pb, o, nb4, f⟩ := hrel
      have PBk := Lib.hid pb
      have Ok := Lib.hid o
      have NB := Lib.hid nb4
      have Fk := Lib.hid f
      have Fw := Lib.hid (HF.out.trans f (by simp))
      clear pb o nb4 f HPB FV
      have cb : wr.cell? ⟨b, off, none⟩ = some (.int .u8 xb.toNat) := by simpa using QB.out wr Fw.out
      by_cases hlt : k < n3
      · have hk1 : (k : Int) < (xb.toNat : Int) := by have := HN3.out; omega
        have hk2 : (k : Int) < 3 := by omega
        obtain ⟨q, hq⟩ : ∃ q, q = 1 + 3 * k := ⟨_, rfl⟩
        obtain ⟨q1, hq1⟩ : ∃ q1, q1 = q + 1 := ⟨_, rfl⟩
        obtain ⟨q2, hq2⟩ : ∃ q2, q2 = q + 2 := ⟨_, rfl⟩
        have hl47 := H47.out
        obtain ⟨x0, hx0⟩ : ∃ x0 : UInt8, x0 = l[q]'(by omega) := ⟨_, rfl⟩
        obtain ⟨x1, hx1⟩ : ∃ x1 : UInt8, x1 = l[q1]'(by omega) := ⟨_, rfl⟩
        obtain ⟨x2, hx2⟩ : ∃ x2 : UInt8, x2 = l[q2]'(by omega) := ⟨_, rfl⟩
        have p0 := fun W' (f : Frm [] w W') => HCELL.out q (by omega) W' f
        have p1 := fun W' (f : Frm [] w W') => HCELL.out q1 (by omega) W' f
        have p2 := fun W' (f : Frm [] w W') => HCELL.out q2 (by omega) W' f
        rw [← hx0] at p0
        rw [← hx1] at p1
        rw [← hx2] at p2
        have P0 := Lib.hid p0
        have P1 := Lib.hid p1
        have P2 := Lib.hid p2
        obtain ⟨y1, hy1⟩ : ∃ y1 : Nat, y1 = x0.toNat := ⟨_, rfl⟩
        obtain ⟨y2, hy2⟩ : ∃ y2 : Nat, y2 = x1.toNat * 256 + x2.toNat := ⟨_, rfl⟩
        have hx : rawAd l k = ((y1 : Int), (y2 : Int)) := by
          unfold rawAd
          have e3 : q2 = q1 + 1 := by omega
          subst hy1 hy2 hx0 hx1 hx2
          rw [show 2 + 3 * k = q1 by omega, show 1 + 3 * k = q by omega, be1_get _ _ (by omega), be2_get _ _ (by omega)]
          subst e3
          rfl
        have HX := Lib.hid hx
        have b0 := x0.toNat_lt
        have b1 := x1.toNat_lt
        have b2 := x2.toNat_lt
        have v1 : IntKind.i64.wrap (x0.toNat : Int) = (y1 : Int) := by rw [hy1]; exact IntWalk.i64_in _ (by omega)
        have v2 : IntKind.i64.wrap (x1.toNat : Int) = (x1.toNat : Int) := IntWalk.i64_in _ (by omega)
        have v3 : IntKind.i64.wrap (256 * (x1.toNat : Int)) = 256 * (x1.toNat : Int) := IntWalk.i64_in _ (by omega)
        have v4 : IntKind.i64.wrap (x2.toNat : Int) = (x2.toNat : Int) := IntWalk.i64_in _ (by omega)
        have v5 : IntKind.i64.wrap (256 * (x1.toNat : Int) + (x2.toNat : Int)) = (y2 : Int) := by rw [IntWalk.i64_in _ (by omega)]; omega
        have u0 : IntKind.i64.wrap (3 * (k : Int)) = 3 * (k : Int) := IntWalk.i64_in _ (by omega)
        have u1 : IntKind.i64.wrap (1 + 3 * (k : Int)) = (q : Int) := by rw [IntWalk.i64_in _ (by omega)]; omega
        have u2 : IntKind.i64.wrap (2 + 3 * (k : Int)) = (q1 : Int) := by rw [IntWalk.i64_in _ (by omega)]; omega
        have u3 : IntKind.i64.wrap (3 + 3 * (k : Int)) = (q2 : Int) := by rw [IntWalk.i64_in _ (by omega)]; omega
        have l0 : (q : Int) < 47 := by omega
        have l1 : (q1 : Int) < 47 := by omega
        have l2 : (q2 : Int) < 47 := by omega
        have c0 := (PBk.out.gets (by simp)).c0
        have hlenr : ((List.range k).map (rawAd l)).length = k := by simp
        have HLR := Lib.hid hlenr
        clear hq hq1 hq2 hl47 hx0 hx1 hx2 p0 p1 p2 hy1 hy2 hx hlenr b0 b1 b2
        generalize (x1.toNat : Int) = e1 at *
        generalize (x2.toNat : Int) = e2 at *
        generalize (x0.toNat : Int) = e0 at *
        go_upto_region 9 with (fail)
        refine wp_region_held_drew (S := fun z => Frm [] w z) (by kernel_rfl) (Fw.out.drew) (fun hHeld => ?_)
        refine wpAnyH_take (i := 0) (oi := { dst := some 60, op := Op.fieldAddr 26 (Operand.tmp 4) 0, type := 0, pos := "ref.go:67", after := #[], guard := none }) (v := ?_) rfl (by kernel_rfl) (by kernel_rfl) (by kernel_rfl) (fun _ _ _ h => h) (Or.inl ⟨by rfl, ?_⟩) hHeld ?_
        rotate_left
        focus (intro z hSw; clear hSw; go_simp; try with_reducible rfl)
        try simp only [Act.put, List.setIfInBounds_toArray, List.set_cons_zero, List.set_cons_succ]
        refine wpAnyH_take (i := 2) (oi := { dst := some 62, op := Op.move (Operand.tmp 0), type := 32, pos := "ref.go:67", after := #[], guard := none }) (v := ?_) rfl (by kernel_rfl) (by kernel_rfl) (by kernel_rfl) (fun _ _ _ h => h) (Or.inl ⟨by rfl, ?_⟩) hHeld ?_
        rotate_left
        focus (intro z hSw; clear hSw; go_simp; try with_reducible rfl)
        try simp only [Act.put, List.setIfInBounds_toArray, List.set_cons_zero, List.set_cons_succ]
        refine wpAnyH_take (i := 3) (oi := { dst := some 63, op := Op.move (Operand.tmp 5), type := 3, pos := "ref.go:67", after := #[], guard := none }) (v := ?_) rfl (by kernel_rfl) (by kernel_rfl) (by kernel_rfl) (fun _ _ _ h => h) (Or.inl ⟨by rfl, ?_⟩) hHeld ?_
        rotate_left
        focus (intro z hSw; clear hSw; go_simp; try with_reducible rfl)
        try simp only [Act.put, List.setIfInBounds_toArray, List.set_cons_zero, List.set_cons_succ]
        refine wpAnyH_take (i := 4) (oi := { dst := some 64, op := Op.binOp BinOp.mul 3 (Operand.const (Value.int IntKind.i64 3)) (Operand.tmp 63) 3, type := 3, pos := "ref.go:67", after := #[{ on := 3, ground := Ground.data }], guard := none }) (v := ?_) rfl (by kernel_rfl) (by kernel_rfl) (by kernel_rfl) (fun _ _ _ h => h) (Or.inl ⟨by rfl, ?_⟩) hHeld ?_
        rotate_left
        focus (intro z hSw; clear hSw; go_simp; try with_reducible rfl)
        try simp only [Act.put, List.setIfInBounds_toArray, List.set_cons_zero, List.set_cons_succ]
        refine wpAnyH_take (i := 5) (oi := { dst := some 65, op := Op.binOp BinOp.add 3 (Operand.const (Value.int IntKind.i64 1)) (Operand.tmp 64) 3, type := 3, pos := "ref.go:67", after := #[{ on := 4, ground := Ground.data }], guard := none }) (v := ?_) rfl (by kernel_rfl) (by kernel_rfl) (by kernel_rfl) (fun _ _ _ h => h) (Or.inl ⟨by rfl, ?_⟩) hHeld ?_
        rotate_left
        focus (intro z hSw; clear hSw; go_simp; try with_reducible rfl)
        try simp only [Act.put, List.setIfInBounds_toArray, List.set_cons_zero, List.set_cons_succ]
        refine wpAnyH_take (i := 6) (oi := { dst := some 66, op := Op.indexAddr 32 (Operand.tmp 62) (Operand.tmp 65), type := 0, pos := "ref.go:67", after := #[{ on := 2, ground := Ground.data }, { on := 5, ground := Ground.data }], guard := none }) (v := ?_) rfl (by kernel_rfl) (by kernel_rfl) (by kernel_rfl) (fun _ _ _ h => h) (Or.inl ⟨by rfl, ?_⟩) hHeld ?_
        rotate_left
        focus (intro z hSw; clear hSw; go_simp; try with_reducible rfl)
        try simp only [Act.put, List.setIfInBounds_toArray, List.set_cons_zero, List.set_cons_succ]
        refine wpAnyH_take (i := 7) (oi := { dst := some 67, op := Op.load 5 (Operand.tmp 66), type := 5, pos := "ref.go:67", after := #[{ on := 6, ground := Ground.data }], guard := none }) (v := ?_) rfl (by kernel_rfl) (by kernel_rfl) (by kernel_rfl) (fun _ _ _ h => h) (Or.inl ⟨by rfl, ?_⟩) hHeld ?_
        rotate_left
        focus (intro z hSw; have d0 := P0.out z hSw; have d1 := P1.out z hSw; have d2 := P2.out z hSw; clear hSw; go_simp; try with_reducible rfl)
        try simp only [Act.put, List.setIfInBounds_toArray, List.set_cons_zero, List.set_cons_succ]
        refine wpAnyH_take (i := 8) (oi := { dst := some 68, op := Op.convert 5 3 (Operand.tmp 67), type := 3, pos := "ref.go:67", after := #[{ on := 7, ground := Ground.data }], guard := none }) (v := ?_) rfl (by kernel_rfl) (by kernel_rfl) (by kernel_rfl) (fun _ _ _ h => h) (Or.inl ⟨by rfl, ?_⟩) hHeld ?_
        rotate_left
        focus (intro z hSw; clear hSw; go_simp; try with_reducible rfl)
        try simp only [Act.put, List.setIfInBounds_toArray, List.set_cons_zero, List.set_cons_succ]
        refine wpAnyH_take (i := 9) (oi := { dst := some 69, op := Op.move (Operand.tmp 0), type := 32, pos := "ref.go:67", after := #[], guard := none }) (v := ?_) rfl (by kernel_rfl) (by kernel_rfl) (by kernel_rfl) (fun _ _ _ h => h) (Or.inl ⟨by rfl, ?_⟩) hHeld ?_
        rotate_left
        focus (intro z hSw; clear hSw; go_simp; try with_reducible rfl)
        try simp only [Act.put, List.setIfInBounds_toArray, List.set_cons_zero, List.set_cons_succ]
        refine wpAnyH_take (i := 10) (oi := { dst := some 70, op := Op.move (Operand.tmp 5), type := 3, pos := "ref.go:67", after := #[], guard := none }) (v := ?_) rfl (by kernel_rfl) (by kernel_rfl) (by kernel_rfl) (fun _ _ _ h => h) (Or.inl ⟨by rfl, ?_⟩) hHeld ?_
        rotate_left
        focus (intro z hSw; clear hSw; go_simp; try with_reducible rfl)
        try simp only [Act.put, List.setIfInBounds_toArray, List.set_cons_zero, List.set_cons_succ]
        refine wpAnyH_take (i := 11) (oi := { dst := some 71, op := Op.binOp BinOp.mul 3 (Operand.const (Value.int IntKind.i64 3)) (Operand.tmp 70) 3, type := 3, pos := "ref.go:67", after := #[{ on := 10, ground := Ground.data }], guard := none }) (v := ?_) rfl (by kernel_rfl) (by kernel_rfl) (by kernel_rfl) (fun _ _ _ h => h) (Or.inl ⟨by rfl, ?_⟩) hHeld ?_
        rotate_left
        focus (intro z hSw; clear hSw; go_simp; try with_reducible rfl)
        try simp only [Act.put, List.setIfInBounds_toArray, List.set_cons_zero, List.set_cons_succ]
        refine wpAnyH_take (i := 12) (oi := { dst := some 72, op := Op.binOp BinOp.add 3 (Operand.const (Value.int IntKind.i64 2)) (Operand.tmp 71) 3, type := 3, pos := "ref.go:67", after := #[{ on := 11, ground := Ground.data }], guard := none }) (v := ?_) rfl (by kernel_rfl) (by kernel_rfl) (by kernel_rfl) (fun _ _ _ h => h) (Or.inl ⟨by rfl, ?_⟩) hHeld ?_
        rotate_left
        focus (intro z hSw; clear hSw; go_simp; try with_reducible rfl)
        try simp only [Act.put, List.setIfInBounds_toArray, List.set_cons_zero, List.set_cons_succ]
        refine wpAnyH_take (i := 13) (oi := { dst := some 73, op := Op.indexAddr 32 (Operand.tmp 69) (Operand.tmp 72), type := 0, pos := "ref.go:67", after := #[{ on := 9, ground := Ground.data }, { on := 12, ground := Ground.data }], guard := none }) (v := ?_) rfl (by kernel_rfl) (by kernel_rfl) (by kernel_rfl) (fun _ _ _ h => h) (Or.inl ⟨by rfl, ?_⟩) hHeld ?_
        rotate_left
        focus (intro z hSw; clear hSw; go_simp; try with_reducible rfl)
        try simp only [Act.put, List.setIfInBounds_toArray, List.set_cons_zero, List.set_cons_succ]
        refine wpAnyH_take (i := 14) (oi := { dst := some 74, op := Op.load 5 (Operand.tmp 73), type := 5, pos := "ref.go:67", after := #[{ on := 13, ground := Ground.data }], guard := none }) (v := ?_) rfl (by kernel_rfl) (by kernel_rfl) (by kernel_rfl) (fun _ _ _ h => h) (Or.inl ⟨by rfl, ?_⟩) hHeld ?_
        rotate_left
        focus (intro z hSw; have d0 := P0.out z hSw; have d1 := P1.out z hSw; have d2 := P2.out z hSw; clear hSw; go_simp; try with_reducible rfl)
        try simp only [Act.put, List.setIfInBounds_toArray, List.set_cons_zero, List.set_cons_succ]
        refine wpAnyH_take (i := 15) (oi := { dst := some 75, op := Op.convert 5 3 (Operand.tmp 74), type := 3, pos := "ref.go:67", after := #[{ on := 14, ground := Ground.data }], guard := none }) (v := ?_) rfl (by kernel_rfl) (by kernel_rfl) (by kernel_rfl) (fun _ _ _ h => h) (Or.inl ⟨by rfl, ?_⟩) hHeld ?_
        rotate_left
        focus (intro z hSw; clear hSw; go_simp; try with_reducible rfl)
        try simp only [Act.put, List.setIfInBounds_toArray, List.set_cons_zero, List.set_cons_succ]
        refine wpAnyH_take (i := 16) (oi := { dst := some 76, op := Op.binOp BinOp.mul 3 (Operand.const (Value.int IntKind.i64 256)) (Operand.tmp 75) 3, type := 3, pos := "ref.go:67", after := #[{ on := 15, ground := Ground.data }], guard := none }) (v := ?_) rfl (by kernel_rfl) (by kernel_rfl) (by kernel_rfl) (fun _ _ _ h => h) (Or.inl ⟨by rfl, ?_⟩) hHeld ?_
        rotate_left
        focus (intro z hSw; clear hSw; go_simp; try with_reducible rfl)
        try simp only [Act.put, List.setIfInBounds_toArray, List.set_cons_zero, List.set_cons_succ]
        refine wpAnyH_take (i := 17) (oi := { dst := some 77, op := Op.move (Operand.tmp 0), type := 32, pos := "ref.go:67", after := #[], guard := none }) (v := ?_) rfl (by kernel_rfl) (by kernel_rfl) (by kernel_rfl) (fun _ _ _ h => h) (Or.inl ⟨by rfl, ?_⟩) hHeld ?_
        rotate_left
        focus (intro z hSw; clear hSw; go_simp; try with_reducible rfl)
        try simp only [Act.put, List.setIfInBounds_toArray, List.set_cons_zero, List.set_cons_succ]
        refine wpAnyH_take (i := 18) (oi := { dst := some 78, op := Op.move (Operand.tmp 5), type := 3, pos := "ref.go:67", after := #[], guard := none }) (v := ?_) rfl (by kernel_rfl) (by kernel_rfl) (by kernel_rfl) (fun _ _ _ h => h) (Or.inl ⟨by rfl, ?_⟩) hHeld ?_
        rotate_left
        focus (intro z hSw; clear hSw; go_simp; try with_reducible rfl)
        try simp only [Act.put, List.setIfInBounds_toArray, List.set_cons_zero, List.set_cons_succ]
        refine wpAnyH_take (i := 19) (oi := { dst := some 79, op := Op.binOp BinOp.mul 3 (Operand.const (Value.int IntKind.i64 3)) (Operand.tmp 78) 3, type := 3, pos := "ref.go:67", after := #[{ on := 18, ground := Ground.data }], guard := none }) (v := ?_) rfl (by kernel_rfl) (by kernel_rfl) (by kernel_rfl) (fun _ _ _ h => h) (Or.inl ⟨by rfl, ?_⟩) hHeld ?_
        rotate_left
        focus (intro z hSw; clear hSw; go_simp; try with_reducible rfl)
        try simp only [Act.put, List.setIfInBounds_toArray, List.set_cons_zero, List.set_cons_succ]
        refine wpAnyH_take (i := 20) (oi := { dst := some 80, op := Op.binOp BinOp.add 3 (Operand.const (Value.int IntKind.i64 3)) (Operand.tmp 79) 3, type := 3, pos := "ref.go:67", after := #[{ on := 19, ground := Ground.data }], guard := none }) (v := ?_) rfl (by kernel_rfl) (by kernel_rfl) (by kernel_rfl) (fun _ _ _ h => h) (Or.inl ⟨by rfl, ?_⟩) hHeld ?_
        rotate_left
        focus (intro z hSw; clear hSw; go_simp; try with_reducible rfl)
        try simp only [Act.put, List.setIfInBounds_toArray, List.set_cons_zero, List.set_cons_succ]
        refine wpAnyH_take (i := 21) (oi := { dst := some 81, op := Op.indexAddr 32 (Operand.tmp 77) (Operand.tmp 80), type := 0, pos := "ref.go:67", after := #[{ on := 17, ground := Ground.data }, { on := 20, ground := Ground.data }], guard := none }) (v := ?_) rfl (by kernel_rfl) (by kernel_rfl) (by kernel_rfl) (fun _ _ _ h => h) (Or.inl ⟨by rfl, ?_⟩) hHeld ?_
        rotate_left
        focus (intro z hSw; clear hSw; go_simp; try with_reducible rfl)
        try simp only [Act.put, List.setIfInBounds_toArray, List.set_cons_zero, List.set_cons_succ]
        refine wpAnyH_take (i := 22) (oi := { dst := some 82, op := Op.load 5 (Operand.tmp 81), type := 5, pos := "ref.go:67", after := #[{ on := 21, ground := Ground.data }], guard := none }) (v := ?_) rfl (by kernel_rfl) (by kernel_rfl) (by kernel_rfl) (fun _ _ _ h => h) (Or.inl ⟨by rfl, ?_⟩) hHeld ?_
        rotate_left
        focus (intro z hSw; have d0 := P0.out z hSw; have d1 := P1.out z hSw; have d2 := P2.out z hSw; clear hSw; go_simp; try with_reducible rfl)
        try simp only [Act.put, List.setIfInBounds_toArray, List.set_cons_zero, List.set_cons_succ]
        refine wpAnyH_take (i := 23) (oi := { dst := some 83, op := Op.convert 5 3 (Operand.tmp 82), type := 3, pos := "ref.go:67", after := #[{ on := 22, ground := Ground.data }], guard := none }) (v := ?_) rfl (by kernel_rfl) (by kernel_rfl) (by kernel_rfl) (fun _ _ _ h => h) (Or.inl ⟨by rfl, ?_⟩) hHeld ?_
        rotate_left
        focus (intro z hSw; clear hSw; go_simp; try with_reducible rfl)
        try simp only [Act.put, List.setIfInBounds_toArray, List.set_cons_zero, List.set_cons_succ]
        refine wpAnyH_take (i := 24) (oi := { dst := some 84, op := Op.binOp BinOp.add 3 (Operand.tmp 76) (Operand.tmp 83) 3, type := 3, pos := "ref.go:67", after := #[{ on := 16, ground := Ground.data }, { on := 23, ground := Ground.data }], guard := none }) (v := ?_) rfl (by kernel_rfl) (by kernel_rfl) (by kernel_rfl) (fun _ _ _ h => h) (Or.inl ⟨by rfl, ?_⟩) hHeld ?_
        rotate_left
        focus (intro z hSw; clear hSw; go_simp; try with_reducible rfl)
        try simp only [Act.put, List.setIfInBounds_toArray, List.set_cons_zero, List.set_cons_succ]
        refine wpAnyH_take (i := 25) (oi := { dst := some 85, op := Op.build 47 #[(0, Operand.tmp 68), (1, Operand.tmp 84)], type := 47, pos := "ref.go:67", after := #[{ on := 8, ground := Ground.data }, { on := 24, ground := Ground.data }], guard := none }) (v := ?_) rfl (by kernel_rfl) (by kernel_rfl) (by kernel_rfl) (fun _ _ _ h => h) (Or.inl ⟨by rfl, ?_⟩) hHeld ?_
        rotate_left
        focus (intro z hSw; clear hSw; go_simp; try with_reducible rfl)
        try simp only [Act.put, List.setIfInBounds_toArray, List.set_cons_zero, List.set_cons_succ]
        refine wpAnyH_ready (rs := [1, 26]) (by kernel_rfl) (by simp) ?_
        refine AllReadyH.cons (o := { dst := some 61, op := Op.load 22 (Operand.tmp 60), type := 22, pos := "ref.go:67", after := #[{ on := 0, ground := Ground.data }], guard := none }) rfl (fun K hK => ?_) ?_
        · have c9 : wr.drew.cell? ⟨W.heap.size, 0, none⟩ = _ := c0
          go_simp
          refine hK.out _ _ ?_ (fun hNext => ?_)
          · exact hHeld
          clear hK K hHeld
          have hHeld := hNext
          clear hNext
          try simp only [Act.put, List.setIfInBounds_toArray, List.set_cons_zero, List.set_cons_succ]
          refine wpAnyH_ready (rs := [26]) (by kernel_rfl) (by simp) ?_
          refine AllReadyH.cons (o := { dst := some 86, op := Op.buildSlice 22 1 #[(0, Operand.tmp 85)], type := 22, pos := "ref.go:67", after := #[{ on := 25, ground := Ground.data }], guard := none }) rfl (fun K hK => ?_) ?_
          · go_simp
            refine hK.out _ _ ?_ (fun hNext => ?_)
            · exact hHeld.alloc _
            clear hK K hHeld
            have hHeld := hNext
            clear hNext
            try simp only [Act.put, List.setIfInBounds_toArray, List.set_cons_zero, List.set_cons_succ]
            refine wpAnyH_ready (rs := [27]) (by kernel_rfl) (by simp) ?_
            refine AllReadyH.cons (o := { dst := some 87, op := Op.call { callee := Callee.builtin Builtin.append, args := #[Operand.tmp 61, Operand.tmp 86], argTypes := #[22, 22] }, type := 22, pos := "ref.go:67", after := #[{ on := 1, ground := Ground.data }, { on := 26, ground := Ground.data }], guard := none }) rfl (fun K hK => ?_) ?_
            · refine step_append_ads AT (Ok.out.keep ((Frm.refl [] wr).drew.alloc _) (by simp)) (one_slA (x := ((y1 : Int), (y2 : Int))) (heap_alloc_at rfl)) (by rw [HLR.out]; simp; omega) rfl (.tmp 61) (.tmp 86) rfl rfl rfl ?_
              intro xa2 xc2 w10 xsp2 o10 f10 n10
              refine hK.out _ _ ?_ (fun hNext => ?_)
              · exact hHeld.trans f10 (fun i hi => .inr (Nat.le_trans HF.out.size (Nat.le_of_lt (NB.out i hi))))
              clear hK K hHeld
              have hHeld := hNext
              clear hNext
              try simp only [Act.put, List.setIfInBounds_toArray, List.set_cons_zero, List.set_cons_succ]
              refine wpAnyH_take (i := 28) (oi := { dst := some 88, op := Op.fieldAddr 26 (Operand.tmp 4) 0, type := 0, pos := "ref.go:67", after := #[{ on := 0, ground := Ground.phase }, { on := 1, ground := Ground.phase }, { on := 2, ground := Ground.phase }, { on := 3, ground := Ground.phase }, { on := 4, ground := Ground.phase }, { on := 5, ground := Ground.phase }, { on := 6, ground := Ground.phase }, { on := 7, ground := Ground.phase }, { on := 8, ground := Ground.phase }, { on := 9, ground := Ground.phase }, { on := 10, ground := Ground.phase }, { on := 11, ground := Ground.phase }, { on := 12, ground := Ground.phase }, { on := 13, ground := Ground.phase }, { on := 14, ground := Ground.phase }, { on := 15, ground := Ground.phase }, { on := 16, ground := Ground.phase }, { on := 17, ground := Ground.phase }, { on := 18, ground := Ground.phase }, { on := 19, ground := Ground.phase }, { on := 20, ground := Ground.phase }, { on := 21, ground := Ground.phase }, { on := 22, ground := Ground.phase }, { on := 23, ground := Ground.phase }, { on := 24, ground := Ground.phase }, { on := 25, ground := Ground.phase }, { on := 26, ground := Ground.phase }, { on := 27, ground := Ground.phase }], guard := none }) (v := ?_) rfl (by kernel_rfl) (by kernel_rfl) (by kernel_rfl) (fun _ _ _ h => h) (Or.inl ⟨by rfl, ?_⟩) hHeld ?_
              rotate_left
              focus (intro z hSw; clear hSw; go_simp; try with_reducible rfl)
              try simp only [Act.put, List.setIfInBounds_toArray, List.set_cons_zero, List.set_cons_succ]
              refine wpAnyH_ready (rs := [29]) (by kernel_rfl) (by simp) ?_
              refine AllReadyH.cons (o := { dst := none, op := Op.store 22 (Operand.tmp 88) (Operand.tmp 87), type := 0, pos := "ref.go:67", after := #[{ on := 28, ground := Ground.data }, { on := 27, ground := Ground.data }, { on := 27, ground := Ground.chain }, { on := 0, ground := Ground.phase }, { on := 1, ground := Ground.phase }, { on := 2, ground := Ground.phase }, { on := 3, ground := Ground.phase }, { on := 4, ground := Ground.phase }, { on := 5, ground := Ground.phase }, { on := 6, ground := Ground.phase }, { on := 7, ground := Ground.phase }, { on := 8, ground := Ground.phase }, { on := 9, ground := Ground.phase }, { on := 10, ground := Ground.phase }, { on := 11, ground := Ground.phase }, { on := 12, ground := Ground.phase }, { on := 13, ground := Ground.phase }, { on := 14, ground := Ground.phase }, { on := 15, ground := Ground.phase }, { on := 16, ground := Ground.phase }, { on := 17, ground := Ground.phase }, { on := 18, ground := Ground.phase }, { on := 19, ground := Ground.phase }, { on := 20, ground := Ground.phase }, { on := 21, ground := Ground.phase }, { on := 22, ground := Ground.phase }, { on := 23, ground := Ground.phase }, { on := 24, ground := Ground.phase }, { on := 25, ground := Ground.phase }, { on := 26, ground := Ground.phase }, { on := 27, ground := Ground.phase }], guard := none }) rfl (fun K hK => ?_) ?_
              · have pb10 : PB w10 W.heap.size (.slice xa k xc) nb nl (List.replicate 32 0) := (PBk.out.keep ((Frm.refl [] wr).drew.alloc _) (by simp)).keep f10 (fun h => Nat.lt_irrefl _ (NB.out _ h))
                have c10 := (pb10.gets (by simp)).c0
                have z10 : w10.frozen? ⟨W.heap.size, 0, none⟩ = false := frozen_of_heap pb10 0
                go_simp
                refine hK.out _ _ ?_ (fun hNext => ?_)
                · exact hHeld.setCell _ _ (.inr HF.out.size)
                clear hK K hHeld
                have hHeld := hNext
                clear hNext
                try simp only [Act.put, List.setIfInBounds_toArray, List.set_cons_zero, List.set_cons_succ]
                refine wpAnyH_done (by kernel_rfl) ?_ _
                have fwr : Frm [] W w10 := (Fk.out.trans ((Frm.refl [] wr).drew.alloc _) (by simp)).trans f10 (fun i hi => .inr (Nat.le_of_lt (NB.out i hi)))
                have nb10 : ∀ i ∈ blk (.slice xa2 (((List.range k).map (rawAd l)).length + [((y1 : Int), (y2 : Int))].length) xc2), W.heap.size < i := fun i hi => by
                  rcases n10 i hi with h | h
                  · exact NB.out i h
                  · have := Fk.out.size; have := PBk.out.lt; simp at h; omega
                have hsn : (List.range k).map (rawAd l) ++ [((y1 : Int), (y2 : Int))] = (List.range (k + 1)).map (rawAd l) := by rw [List.range_succ, List.map_append, List.map_cons, List.map_nil, HX.out]
                rw [hsn] at o10
                have PB11 := Lib.hid (pb_store (v' := .slice xa2 (k + 1) xc2) pb10)
                have hl1 : ((List.range k).map (rawAd l)).length + [((y1 : Int), (y2 : Int))].length = k + 1 := by simp
                rw [hl1] at o10 nb10
                have O11 := Lib.hid (o10.keep ((Frm.refl [W.heap.size] w10).setCell ⟨W.heap.size, 0, none⟩ (.slice xa2 (k + 1) xc2) (by simp)) (fun i hi => by have := nb10 i hi; simp; omega))
                have FR11 := Lib.hid (fwr.setCell ⟨W.heap.size, 0, none⟩ (.slice xa2 (k + 1) xc2) (.inr (Nat.le_refl _)))
                have NB11 := Lib.hid nb10
                generalize w10.setCell ⟨W.heap.size, 0, none⟩ (.slice xa2 (k + 1) xc2) = w11 at *
                clear hsn hl1 nb10 fwr o10 f10 n10 pb10 c10 z10 c0 u0 u1 u2 u3 v1 v2 v3 v4 v5 hHeld cb
                go_wp2_with fail
                go_roundw
                case rel => exact ⟨k + 1, xa2, xc2, xsp2, by omega, by go_num, PB11.out, O11.out, NB11.out, FR11.out⟩
                case measure => simp [intOf]; omega
              exact AllReadyH.nil
            exact AllReadyH.nil
          exact AllReadyH.nil
        refine AllReadyH.cons (o := { dst := some 86, op := Op.buildSlice 22 1 #[(0, Operand.tmp 85)], type := 22, pos := "ref.go:67", after := #[{ on := 25, ground := Ground.data }], guard := none }) rfl (fun K hK => ?_) ?_
        · go_simp
          refine hK.out _ _ ?_ (fun hNext => ?_)
          · exact hHeld.alloc _
          clear hK K hHeld
          have hHeld := hNext
          clear hNext
          try simp only [Act.put, List.setIfInBounds_toArray, List.set_cons_zero, List.set_cons_succ]
          refine wpAnyH_ready (rs := [1]) (by kernel_rfl) (by simp) ?_
          refine AllReadyH.cons (o := { dst := some 61, op := Op.load 22 (Operand.tmp 60), type := 22, pos := "ref.go:67", after := #[{ on := 0, ground := Ground.data }], guard := none }) rfl (fun K hK => ?_) ?_
          · have c9 : ((wr.alloc (.cells #[.int .i64 y1, .int .i64 y2] 47)).drew).cell? ⟨W.heap.size, 0, none⟩ = _ := (((Frm.refl [] wr).alloc _).drew).cell c0 (by simp)
            go_simp
            refine hK.out _ _ ?_ (fun hNext => ?_)
            · exact hHeld
            clear hK K hHeld
            have hHeld := hNext
            clear hNext
            try simp only [Act.put, List.setIfInBounds_toArray, List.set_cons_zero, List.set_cons_succ]
            refine wpAnyH_ready (rs := [27]) (by kernel_rfl) (by simp) ?_
            refine AllReadyH.cons (o := { dst := some 87, op := Op.call { callee := Callee.builtin Builtin.append, args := #[Operand.tmp 61, Operand.tmp 86], argTypes := #[22, 22] }, type := 22, pos := "ref.go:67", after := #[{ on := 1, ground := Ground.data }, { on := 26, ground := Ground.data }], guard := none }) rfl (fun K hK => ?_) ?_
            · refine step_append_ads AT (Ok.out.keep ((Frm.refl [] wr).drew.alloc _) (by simp)) (one_slA (x := ((y1 : Int), (y2 : Int))) (heap_alloc_at rfl)) (by rw [HLR.out]; simp; omega) rfl (.tmp 61) (.tmp 86) rfl rfl rfl ?_
              intro xa2 xc2 w10 xsp2 o10 f10 n10
              refine hK.out _ _ ?_ (fun hNext => ?_)
              · exact hHeld.trans f10 (fun i hi => .inr (Nat.le_trans HF.out.size (Nat.le_of_lt (NB.out i hi))))
              clear hK K hHeld
              have hHeld := hNext
              clear hNext
              try simp only [Act.put, List.setIfInBounds_toArray, List.set_cons_zero, List.set_cons_succ]
              refine wpAnyH_take (i := 28) (oi := { dst := some 88, op := Op.fieldAddr 26 (Operand.tmp 4) 0, type := 0, pos := "ref.go:67", after := #[{ on := 0, ground := Ground.phase }, { on := 1, ground := Ground.phase }, { on := 2, ground := Ground.phase }, { on := 3, ground := Ground.phase }, { on := 4, ground := Ground.phase }, { on := 5, ground := Ground.phase }, { on := 6, ground := Ground.phase }, { on := 7, ground := Ground.phase }, { on := 8, ground := Ground.phase }, { on := 9, ground := Ground.phase }, { on := 10, ground := Ground.phase }, { on := 11, ground := Ground.phase }, { on := 12, ground := Ground.phase }, { on := 13, ground := Ground.phase }, { on := 14, ground := Ground.phase }, { on := 15, ground := Ground.phase }, { on := 16, ground := Ground.phase }, { on := 17, ground := Ground.phase }, { on := 18, ground := Ground.phase }, { on := 19, ground := Ground.phase }, { on := 20, ground := Ground.phase }, { on := 21, ground := Ground.phase }, { on := 22, ground := Ground.phase }, { on := 23, ground := Ground.phase }, { on := 24, ground := Ground.phase }, { on := 25, ground := Ground.phase }, { on := 26, ground := Ground.phase }, { on := 27, ground := Ground.phase }], guard := none }) (v := ?_) rfl (by kernel_rfl) (by kernel_rfl) (by kernel_rfl) (fun _ _ _ h => h) (Or.inl ⟨by rfl, ?_⟩) hHeld ?_
              rotate_left
              focus (intro z hSw; clear hSw; go_simp; try with_reducible rfl)
              try simp only [Act.put, List.setIfInBounds_toArray, List.set_cons_zero, List.set_cons_succ]
              refine wpAnyH_ready (rs := [29]) (by kernel_rfl) (by simp) ?_
              refine AllReadyH.cons (o := { dst := none, op := Op.store 22 (Operand.tmp 88) (Operand.tmp 87), type := 0, pos := "ref.go:67", after := #[{ on := 28, ground := Ground.data }, { on := 27, ground := Ground.data }, { on := 27, ground := Ground.chain }, { on := 0, ground := Ground.phase }, { on := 1, ground := Ground.phase }, { on := 2, ground := Ground.phase }, { on := 3, ground := Ground.phase }, { on := 4, ground := Ground.phase }, { on := 5, ground := Ground.phase }, { on := 6, ground := Ground.phase }, { on := 7, ground := Ground.phase }, { on := 8, ground := Ground.phase }, { on := 9, ground := Ground.phase }, { on := 10, ground := Ground.phase }, { on := 11, ground := Ground.phase }, { on := 12, ground := Ground.phase }, { on := 13, ground := Ground.phase }, { on := 14, ground := Ground.phase }, { on := 15, ground := Ground.phase }, { on := 16, ground := Ground.phase }, { on := 17, ground := Ground.phase }, { on := 18, ground := Ground.phase }, { on := 19, ground := Ground.phase }, { on := 20, ground := Ground.phase }, { on := 21, ground := Ground.phase }, { on := 22, ground := Ground.phase }, { on := 23, ground := Ground.phase }, { on := 24, ground := Ground.phase }, { on := 25, ground := Ground.phase }, { on := 26, ground := Ground.phase }, { on := 27, ground := Ground.phase }], guard := none }) rfl (fun K hK => ?_) ?_
              · have pb10 : PB w10 W.heap.size (.slice xa k xc) nb nl (List.replicate 32 0) := (PBk.out.keep ((Frm.refl [] wr).drew.alloc _) (by simp)).keep f10 (fun h => Nat.lt_irrefl _ (NB.out _ h))
                have c10 := (pb10.gets (by simp)).c0
                have z10 : w10.frozen? ⟨W.heap.size, 0, none⟩ = false := frozen_of_heap pb10 0
                go_simp
                refine hK.out _ _ ?_ (fun hNext => ?_)
                · exact hHeld.setCell _ _ (.inr HF.out.size)
                clear hK K hHeld
                have hHeld := hNext
                clear hNext
                try simp only [Act.put, List.setIfInBounds_toArray, List.set_cons_zero, List.set_cons_succ]
                refine wpAnyH_done (by kernel_rfl) ?_ _
                have fwr : Frm [] W w10 := (Fk.out.trans ((Frm.refl [] wr).drew.alloc _) (by simp)).trans f10 (fun i hi => .inr (Nat.le_of_lt (NB.out i hi)))
                have nb10 : ∀ i ∈ blk (.slice xa2 (((List.range k).map (rawAd l)).length + [((y1 : Int), (y2 : Int))].length) xc2), W.heap.size < i := fun i hi => by
                  rcases n10 i hi with h | h
                  · exact NB.out i h
                  · have := Fk.out.size; have := PBk.out.lt; simp at h; omega
                have hsn : (List.range k).map (rawAd l) ++ [((y1 : Int), (y2 : Int))] = (List.range (k + 1)).map (rawAd l) := by rw [List.range_succ, List.map_append, List.map_cons, List.map_nil, HX.out]
                rw [hsn] at o10
                have PB11 := Lib.hid (pb_store (v' := .slice xa2 (k + 1) xc2) pb10)
                have hl1 : ((List.range k).map (rawAd l)).length + [((y1 : Int), (y2 : Int))].length = k + 1 := by simp
                rw [hl1] at o10 nb10
                have O11 := Lib.hid (o10.keep ((Frm.refl [W.heap.size] w10).setCell ⟨W.heap.size, 0, none⟩ (.slice xa2 (k + 1) xc2) (by simp)) (fun i hi => by have := nb10 i hi; simp; omega))
                have FR11 := Lib.hid (fwr.setCell ⟨W.heap.size, 0, none⟩ (.slice xa2 (k + 1) xc2) (.inr (Nat.le_refl _)))
                have NB11 := Lib.hid nb10
                generalize w10.setCell ⟨W.heap.size, 0, none⟩ (.slice xa2 (k + 1) xc2) = w11 at *
                clear hsn hl1 nb10 fwr o10 f10 n10 pb10 c10 z10 c0 u0 u1 u2 u3 v1 v2 v3 v4 v5 hHeld cb
                go_wp2_with fail
                go_roundw
                case rel => exact ⟨k + 1, xa2, xc2, xsp2, by omega, by go_num, PB11.out, O11.out, NB11.out, FR11.out⟩
                case measure => simp [intOf]; omega
              exact AllReadyH.nil
            exact AllReadyH.nil
          exact AllReadyH.nil
        exact AllReadyH.nil
      · obtain rfl : k = n3 := by omega
        have hd : decide ((k : Int) < (xb.toNat : Int)) = false ∨ (decide ((k : Int) < (xb.toNat : Int)) = true ∧ decide ((k : Int) < 3) = false) := by
          have := HN3.out
          rcases Nat.lt_or_ge k xb.toNat with h | h
          · exact .inr ⟨by simp; omega, by simp; omega⟩
          · exact .inl (by simp; omega)
        have HK3 := Lib.hid h39
        clear hlt hk h39
        clear HN3 QB
        generalize (xb.toNat : Int) = zb at *
        generalize (k : Int) = kz at *
        rcases hd with d1 | ⟨d1, d2⟩
        all_goals
          go_upto_region 10 with (fail)
          clear d1
          try clear d2
          generalize (Value.int .i64 kz) = vk
          have FW2 := Lib.hid Fk.out
          go_wp2_with fail
          go_loopw [6] (SumRel l k W.heap.size nb nl xa xc wr) (fun cv _ => 32 - (intOf cv).toNat)
          case atStart => exact ⟨0, by omega, rfl, by simpa using PBk.out, Frm.refl _ _⟩
          case round =>
            obtain ⟨j, hj, rfl, pj, fj⟩ := hrel
            have PJ := Lib.hid pj
            have FJ := Lib.hid fj
            have FJw := Lib.hid (Fw.out.trans fj (fun i hi => .inr (by simp at hi; subst hi; exact HF.out.size)))
            clear pj fj
            by_cases hlt : j < 32
            · obtain ⟨q, hq⟩ : ∃ q, q = 15 + j := ⟨_, rfl⟩
              have hl47 := H47.out
              obtain ⟨x, hx⟩ : ∃ x : UInt8, x = l[q]'(by omega) := ⟨_, rfl⟩
              have cq := HCELL.out q (by omega) wr FJw.out
              rw [← hx] at cq
              have u1 : IntKind.i64.wrap (15 + (j : Int)) = (q : Int) := by rw [IntWalk.i64_in _ (by omega)]; omega
              have l1 : (q : Int) < 47 := by omega
              have l2 : (j : Int) < 32 := by omega
              have l3 : decide ((j : Int) < 32) = true := by simp; omega
              obtain ⟨vv, cg⟩ : ∃ vv, wr.cell? ⟨W.heap.size, 3 + j, none⟩ = some vv := by
                rw [cell_of_heap PJ.out]
                have hsz : 3 + j < (pc (.slice xa k xc) nb nl ((l.drop 15).take j ++ List.replicate (32 - j) 0)).toArray.size := by simp only [pc_size]; simp; omega
                exact ⟨_, Array.getElem?_eq_getElem hsz⟩
              have fg : wr.frozen? ⟨W.heap.size, 3 + j, none⟩ = false := frozen_of_heap PJ.out (3 + j)
              have PN := Lib.hid (pb_sum PJ.out j x)
              have hset : ((l.drop 15).take j ++ List.replicate (32 - j) 0).set j x = (l.drop 15).take (j + 1) ++ List.replicate (32 - (j + 1)) 0 := by
                have hlt' : j < (l.drop 15).length := by rw [List.length_drop]; omega
                have hg : (l.drop 15)[j] = x := by rw [hx, List.getElem_drop]; simp only [hq]
                have htk : ((l.drop 15).take j).length = j := by rw [List.length_take]; omega
                rw [show 32 - j = (32 - (j + 1)) + 1 by omega, List.replicate_succ, List.set_append_right _ _ (by omega), htk, Nat.sub_self, List.set_cons_zero, List.take_succ_eq_append_getElem hlt', hg, List.append_assoc]
                rfl
              have HSET := Lib.hid hset
              clear hq hl47 hx hset
              go_wp2_with fail
              go_roundw
              case rel => exact ⟨j + 1, by omega, by go_num, by rw [← HSET.out]; exact PN.out, FJ.out.setCell _ _ (by simp)⟩
              case measure => simp [intOf]; omega
            · obtain rfl : j = 32 := by omega
              have hs32 : (l.drop 15).length = 32 := by have := H47.out; rw [List.length_drop]; omega
              have hPB : PB wr W.heap.size (.slice xa k xc) nb nl (l.drop 15) := by
                have h := PJ.out
                rw [List.take_of_length_le (by omega), Nat.sub_self, List.replicate_zero, List.append_nil] at h
                exact h
              have hl3 : ((List.range k).map (rawAd l)).length = k := by simp
              have hP : PtV wr (pv (.slice xa k xc) nb nl (l.drop 15)) (rawPt3 l) := by
                rw [HP3.out]
                exact ⟨xa, xc, xsp, by rw [hl3], by rw [hl3]; exact (Ok.out.keep FJ.out (fun i hi => by have := NB.out i hi; simp; omega)).sl, hs32⟩
              have hle : (rawPt3 l).ads.length ≤ 1000000 := by rw [HP3.out]; simp only [hl3]; have := HK3.out; omega
              have HR := Lib.hid (RefBytes_any _ (rawPt3 l) wr hP hle)
              have HPV := Lib.hid hP
              have HG := Lib.hid (good_raw3 H47.out)
              unfold BytesP at HR
              have GG := Lib.hid (hPB.gets hs32)
              have HPB2 := Lib.hid hPB
              have HS32 := Lib.hid hs32
              have F5 := Lib.hid (HF.out.trans (FW2.out.trans FJ.out (fun i hi => .inr (by simp at hi; omega))) (by simp))
              have B1 := Lib.hid ((FW2.out.trans FJ.out (fun i hi => .inr (by simp at hi; omega))).heap HB1.out (by simp))
              have B2 := Lib.hid ((FW2.out.trans FJ.out (fun i hi => .inr (by simp at hi; omega))).heap HB2.out (by simp))
              clear hs32 hPB hl3 hP hle PJ PBk Ok Fk Fw FJ FW2 HCELL HP3
              have hcc : chk (rawPt3 l) = 0 ∨ chk (rawPt3 l) = 2 := by rcases chk_cases (rawPt3 l) with ⟨_, e, _⟩ | ⟨_, e, _⟩; exact .inl e; exact .inr e
              generalize outB (rawPt3 l) = ob at *
              generalize chk (rawPt3 l) = ck at *
              generalize l.drop 15 = s15 at *
              go_upto_region 15 with (first
                | ((with_reducible (show wpList _ _ _ (Oper.mk _ (Op.load 26 _) _ _ _ _ :: _) _ _)); refine wpList_load_g (by rfl) 26 _ rfl _ rfl GG.out.all ?_)
                | (go_at_call 52; refine HR.out.mono ?_; rintro r w5 ⟨oa, oc, osp, rfl, o5, f5, n5⟩))
              have X5 := Lib.hid (HPV.out.keep0 f5)
              have B15 := Lib.hid (f5.heap B1.out (by simp))
              have B25 := Lib.hid (f5.heap B2.out (by simp))
              have P5 := Lib.hid (PB.gets (HPB2.out.keep f5 (by simp)) HS32.out)
              have F6 := Lib.hid (F5.out.trans f5 (by simp))
              have e1 := convert_bytes BT o5.sl Tryz.underlying9
              have e2 := convert_bytes BT (HS.out.keep F6.out (by simp)) Tryz.underlying9
              rw [H47.out] at e2
              clear o5 f5 n5 B1 B2 GG HPB2 F5 HPV
              rcases hcc with hck | hck
              · by_cases hob : ob = l
                · have hg : goodB l = true := by rw [HG.out, hck, hob]; simp
                  subst hck
                  subst hob
                  go_wp2_with (first
                    | ((with_reducible (show wpList _ _ _ (Oper.mk _ (Op.load 26 _) _ _ _ _ :: _) _ _)); refine wpList_load_g (by rfl) 26 _ rfl _ rfl P5.out.all ?_)
                    | (refine wpList_fin rfl rfl (.tmp 2) (.tmp 3) _ _ rfl rfl B15.out zs_len B25.out (by omega) HS32.out rfl rfl rfl rfl ?_; intro V b3 b4 f3))
                  refine bodyPost_ret (results_two (p := 2) (q := 3) rfl _ _ rfl rfl (run_loadVar_row V w.heap.size 26 26 _ (0, 0) _ b3 Tryz.underlying26 rfl (by rw [i26]; simp only [pc_size, HS32.out])) (run_loadVar_row V (w.heap.size + 1) 101 101 _ (0, 0) _ b4 Tryz.underlying101 rfl (by rw [d40]; rfl))) rfl ?_
                  exact readP_yes hg (X5.out.keep f3 (fun i hi => by rw [ptBlk_pv] at hi; have := NB.out i hi; have := HSZ.out; simp; omega)) (F6.out.trans f3 (fun i hi => .inr (by simp at hi; omega))) (fun i hi => by rw [show ptBlk (.agg (pc (.slice xa k xc) nb nl s15).toArray) = blk (.slice xa k xc) from ptBlk_pv _ _ _ _] at hi; have := NB.out i hi; have := HSZ.out; omega)
                · have hg : goodB l = false := by rw [HG.out]; simp [hob]
                  have hne : (ob == l) = false := by simpa using hob
                  subst hck
                  clear hob
                  go_wp2_with (refine wpList_fin rfl rfl (.tmp 2) (.tmp 3) _ _ rfl rfl B15.out zs_len B25.out (by omega) zs_len rfl rfl rfl rfl ?_; intro V b3 b4 f3)
                  refine bodyPost_ret (results_two (p := 2) (q := 3) rfl _ _ rfl rfl (run_loadVar_row V w.heap.size 26 26 _ (0, 0) _ b3 Tryz.underlying26 rfl (by rw [i26]; simp only [pc_size, zs_len])) (run_loadVar_row V (w.heap.size + 1) 101 101 _ (0, 0) _ b4 Tryz.underlying101 rfl (by rw [d40]; rfl))) rfl ?_
                  exact readP_no H47.out hg (ptv_zero _) (F6.out.trans f3 (fun i hi => .inr (by simp at hi; omega))) (fun i hi => by simp [ptBlk, pc, blk] at hi)
              · have hg : goodB l = false := by rw [HG.out]; simp [hck]
                subst hck
                go_wp2_with (refine wpList_fin rfl rfl (.tmp 2) (.tmp 3) _ _ rfl rfl B15.out zs_len B25.out (by omega) zs_len rfl rfl rfl rfl ?_; intro V b3 b4 f3)
                refine bodyPost_ret (results_two (p := 2) (q := 3) rfl _ _ rfl rfl (run_loadVar_row V w.heap.size 26 26 _ (0, 0) _ b3 Tryz.underlying26 rfl (by rw [i26]; simp only [pc_size, zs_len])) (run_loadVar_row V (w.heap.size + 1) 101 101 _ (0, 0) _ b4 Tryz.underlying101 rfl (by rw [d40]; rfl))) rfl ?_
                exact readP_no H47.out hg (ptv_zero _) (F6.out.trans f3 (fun i hi => .inr (by simp at hi; omega))) (fun i hi => by simp [ptBlk, pc, blk] at hi)
  · by_cases hlt : l.length < 47
    all_goals
      go_wp2_with (refine wpList_fin rfl rfl (.tmp 2) (.tmp 3) _ _ rfl rfl HB1.out zs_len HB2.out (by omega) zs_len rfl rfl rfl rfl ?_; intro V b3 b4 f3)
      refine bodyPost_ret (results_two (p := 2) (q := 3) rfl _ _ rfl rfl (run_loadVar_row V w.heap.size 26 26 _ (0, 0) _ b3 Tryz.underlying26 rfl (by rw [i26]; simp only [pc_size, zs_len])) (run_loadVar_row V (w.heap.size + 1) 101 101 _ (0, 0) _ b4 Tryz.underlying101 rfl (by rw [d40]; rfl))) rfl ?_
      first
        | exact readP_len h47 (by rw [if_pos (by omega)]) (ptv_zero _) (HF.out.trans f3 (fun i hi => .inr (by simp at hi; omega))) (fun i hi => by simp [ptBlk, pc, blk] at hi)
        | exact readP_len h47 (by rw [if_neg (by omega)]) (ptv_zero _) (HF.out.trans f3 (fun i hi => .inr (by simp at hi; omega))) (fun i hi => by simp [ptBlk, pc, blk] at hi)
end Go.Proofs.YtjdejhgfkjeeiaaGreatDoor.Pt
