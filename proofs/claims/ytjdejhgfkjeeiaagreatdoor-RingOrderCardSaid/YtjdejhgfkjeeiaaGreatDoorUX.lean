/-
  Contracts of begin and of errno. No conditions but those that each theorem names.
-/
import Derived.Test.YtjdejhgfkjeeiaaGreatDoorUW
import Derived.Test.YtjdejhgfkjeeiaaGreatDoorPX
namespace Go.Proofs.YtjdejhgfkjeeiaaGreatDoor
open Go.RowKit
set_option linter.unusedVariables false
set_option linter.unusedSimpArgs false
set_option maxRecDepth 100000

open Pt (Pt may enc readPt readE readAt zeroPt pc pv PtV SlA OwnA)
/-- Bytes cut, or with noughts behind, to a sector. -/
def cutS (b : List UInt8) : List UInt8 := b.take 256 ++ List.replicate (256 - b.length) 0
theorem cutS_length (b : List UInt8) : (cutS b).length = 256 := by simp [cutS, -List.reduceReplicate]; omega
theorem cutS_full {b : List UInt8} (h : b.length = 256) : cutS b = b := by
  unfold cutS
  rw [List.take_of_length_le (by omega), h]
  simp
/-- The cells of the reading at its beginning. -/
def rc0 (n : Int) : List Value := .int .i64 n :: (bvs zeros256 ++ (.pointer none :: (uc nilS zeroU ++ [.nilIface])))
theorem bld74 (n : Int) (W : World) : (Instr.build 95 #[(0, .int .i64 n)]).run Tryz.prog W = .ok (.agg (rc0 n).toArray) W := by kernel_rfl
theorem rc0_eq (n : Int) : Tryz.zeroCells95.setIfInBounds 0 (Value.int IntKind.i64 n) = (rc0 n).toArray := by kernel_rfl
theorem rc0_length (n : Int) : (rc0 n).length = 328 := by simp [rc0, bvs_length, zeros256, uc_length zeroU_wf, -List.reduceReplicate]
theorem copy256 {w : World} {g : Nat} {cs : List Value} {b sp : List UInt8} {v : Value} (ty : TypeId) (hS : SlB w v b sp) (hg : Blk w g 95 cs) (hl : cs.length = 328) :
    (Builtin.copy_ #[32, 32] ty #[.slice (some ⟨g, 1, none⟩) 256 256, v]).run Tryz.prog w = .ok (goInt (min b.length 256)) (w.setRow g (cs.take 1 ++ bvs (b.take 256) ++ cs.drop (1 + (bvs (b.take 256)).length)).toArray) := by
  obtain ⟨i, hi, hz, hs, hby⟩ := info_parts BT.info
  obtain ⟨a, cap, rfl, _, _⟩ := hS.form
  have hk : (b.take 256).length = min b.length 256 := by simp; omega
  have hfc : (Builtin.firstCells 1 (min b.length 256) (.slice a b.length cap)).run Tryz.prog w = .ok (bvs (b.take 256)).toArray w := by
    obtain ⟨h1, ⟨h2, h3, h4⟩ | ⟨x, h2, h3, h4⟩ | ⟨bb, off, cap', h2, h3, h4, h5, h6⟩⟩ := hS
    · have hb : b = [] := List.eq_nil_of_length_eq_zero h3
      subst hb
      cases h2
      simp [Builtin.firstCells, bvs]
    · have hb : b = [] := List.eq_nil_of_length_eq_zero h3
      subst hb
      cases h2
      exact run_firstCells_some w 1 0 x 0 0 [] (by simp) (fun j u hu => by simp at hu)
    · cases h2
      refine run_firstCells_some w 1 _ _ _ _ (bvs (b.take 256)) (by rw [bvs_length, hk, Nat.mul_one]) (fun j u hu => ?_)
      rw [add_plain]
      have hj := (List.getElem?_eq_some_iff.1 hu).1
      rw [bvs_length, hk] at hj
      refine h6 j u ?_
      rw [List.getElem?_append_left (by rw [bvs_length]; omega)]
      unfold bvs at hu ⊢
      rw [List.getElem?_map, List.getElem?_take_of_lt (by omega)] at hu
      rw [List.getElem?_map]
      exact hu
  have hst := run_storeCells_at Tryz.prog g 1 95 (bvs (b.take 256)) 0 cs.toArray w hg (by rw [bvs_length, hk, List.size_toArray, hl]; omega) (bvs_one _)
  simp only [Nat.add_zero] at hst
  simp [Builtin.copy_, run_underlying BT.sl, sizeOf, typeInfo, hi, hs, Builtin.lenOf, hfc, goInt, hst]
  show ((min b.length 256 : Nat) : Int) = _
  omega
theorem slice69c (b : Nat) (W : World) : (Instr.sliceAt 90 (.pointer (some ⟨b, 1, none⟩)) none none none).run Tryz.prog W = .ok (.slice (some ⟨b, 1, none⟩) 256 256) W := by
  have hu : Tryz.prog.underlying 90 = some (.array (Tryz.prog.arrayLen 90) (Tryz.prog.elem 90)) := by kernel_rfl
  have hl : Tryz.prog.arrayLen 90 = 256 := by kernel_rfl
  have he : Tryz.prog.elem 90 = 5 := by kernel_rfl
  have hs : (sizeOf 5).run Tryz.prog W = .ok 1 W := by kernel_rfl
  rw [run_sliceAt_array_all (P := Tryz.prog) W 90 _ hu, he, hs, hl]
  rfl
theorem rc0_copy (n : Int) (b : List UInt8) : (rc0 n).take 1 ++ bvs (b.take 256) ++ (rc0 n).drop (1 + (bvs (b.take 256)).length) = .int .i64 n :: (bvs (cutS b) ++ (.pointer none :: (uc nilS zeroU ++ [.nilIface]))) := by
  have hk : (b.take 256).length = min b.length 256 := by simp; omega
  rw [bvs_length, hk]
  have e1 : (rc0 n).take 1 = [.int .i64 n] := rfl
  have e2 : (rc0 n).drop (1 + min b.length 256) = bvs (List.replicate (256 - b.length) 0) ++ (.pointer none :: (uc nilS zeroU ++ [.nilIface])) := by
    rw [← List.drop_drop]
    show List.drop (min b.length 256) (bvs zeros256 ++ _) = _
    rw [List.drop_append_of_le_length (by rw [bvs_length]; simp [zeros256, -List.reduceReplicate]; omega)]
    congr 1
    unfold bvs zeros256
    rw [← List.map_drop, List.drop_replicate, show 256 - min b.length 256 = 256 - b.length by omega]
  rw [e1, e2, cutS, bvs_append, List.append_assoc]
  simp only [List.append_assoc, List.cons_append, List.nil_append]
/-- How the reading begins. -/
def BeginP (w : World) (b : List UInt8) (r : Ending) (w' : World) : Prop := ∃ g br rv rsp, r = .returned (.pointer (some ⟨g, 0, none⟩)) ∧ RG w w' g b.length (cutS b) br rv rsp (0, 0, 0) nilS zeroU .nilIface []
set_option maxHeartbeats 2000000 in
theorem begin_any (v : Value) (b sp : List UInt8) (w : World) (hS : SlB w v b sp) (hb : b.length ≤ 1000000) : Calls Tryz.prog 63 #[v] w (BeginP w b) := by
  obtain ⟨a, cap, rfl, _, _⟩ := hS.form
  have f0 : Frm [] w (w.alloc (.cells (rc0 b.length).toArray 95)) := (Frm.refl [] w).alloc _
  have B0 := Lib.hid (Blk.new w 95 (rc0 b.length))
  have HS := Lib.hid (hS.keep f0 (by simp))
  have F0 := Lib.hid f0
  have HB := Lib.hid hb
  have hbd := bld74 b.length
  have hsc := slice69c
  have hsa := slice69a
  clear hS f0
  go_enter Tryz.func63, Tryz.ntmps63
  go_upto_region 2 with fail
  rw [rc0_eq]
  generalize w.alloc (.cells (rc0 b.length).toArray 95) = W0 at *
  obtain ⟨g, hg⟩ : ∃ g, w.heap.size = g := ⟨_, rfl⟩
  rw [hg] at B0 ⊢
  have HG := Lib.hid hg
  clear hg
  have hc := copy256 3 HS.out B0.out (rc0_length _)
  rw [rc0_copy] at hc
  go_upto_region 3 with fail
  clear hc
  have b1 : Blk (W0.setRow g (.int .i64 b.length :: (bvs (cutS b) ++ (.pointer none :: (uc nilS zeroU ++ [.nilIface])))).toArray) g 95 (.int .i64 b.length :: (bvs (cutS b) ++ (.pointer none :: (uc nilS zeroU ++ [.nilIface])))) := setRow_heap _ _ _ _ _ _ B0.out
  have f1 : Frm [g] W0 (W0.setRow g (.int .i64 b.length :: (bvs (cutS b) ++ (.pointer none :: (uc nilS zeroU ++ [.nilIface])))).toArray) := ⟨rfl, rfl, rfl, by simp [World.setRow], fun k hk hn => setRow_other W0 g k _ (by simpa using hn)⟩
  generalize W0.setRow g (.int .i64 b.length :: (bvs (cutS b) ++ (.pointer none :: (uc nilS zeroU ++ [.nilIface])))).toArray = W1 at *
  have hcl := cutS_length b
  have HCL := Lib.hid hcl
  have F1 := Lib.hid (F0.out.trans f1 (fun i hi => .inr (by have := HG.out; simp at hi; omega)))
  have hSl : SlB W1 (.slice (some ⟨g, 1, none⟩) 224 256) ((cutS b).take 224) ((cutS b).drop 224) := by
    have hlen : ((cutS b).take 224).length = 224 := by simp [hcl]
    refine ⟨by rw [bvs_length, hlen], .inr (.inr ⟨g, 1, 256, by rw [hlen], by omega, by simp only [maxLen]; omega, ?_, fun i x hx => ?_⟩)⟩
    · rw [← bvs_append, List.take_append_drop, bvs_length, hcl]
    · rw [← bvs_append, List.take_append_drop] at hx
      refine b1.cell _ ?_
      rw [Nat.add_comm 1 i, List.getElem?_cons_succ, List.getElem?_append_left (List.getElem?_eq_some_iff.1 hx).1]
      exact hx
  have HO := Lib.hid (Open_any _ _ _ W1 hSl (by simp; omega))
  have B1 := Lib.hid b1
  generalize hSe : cutS b = S at *
  have HSe := Lib.hid hSe
  clear hSe
  clear B0 HS f1 b1 hcl hSl F0
  go_wp2_with (go_at_call 110; refine HO.out.mono ?_; rintro r w2 ⟨br, a2, c2, sp2, rfl, hd, f2, hbr, hfr⟩; have hd1 := hd.lt; have b2 := B1.out.keep0 f2; have k2 : w2.cell? ⟨g, 257, none⟩ = some (.pointer none) := (by refine b2.cell 257 ?_; rw [← List.cons_append, List.getElem?_append_right (by simp [bvs_length, HCL.out])]; simp [bvs_length, HCL.out]); have z2 := b2.frozen 257; have B2 := Lib.hid b2; have HD := Lib.hid hd; have F2 := Lib.hid f2; have HBR := Lib.hid hbr; have HFR := Lib.hid hfr; clear hd f2 hbr hfr b2 hd1)
  have b3 := B2.out
  rw [← List.cons_append] at b3
  have b4 := b3.put1 (o := 257) (u' := .pointer (some ⟨br, 0, none⟩)) (by simp [bvs_length, HCL.out])
  have f4 : Frm [g] w2 (w2.setCell ⟨g, 257, none⟩ (.pointer (some ⟨br, 0, none⟩))) := (Frm.refl _ _).setCell _ _ (by simp)
  have hg1 := B1.out.lt
  have hg2 := HG.out
  have hs1 := F1.out.size
  have hlt := HD.out.lt
  go_ret
  have e := HSe.out
  subst e
  refine ⟨g, br, _, sp2, rfl, (by rw [rcs_f]; exact b4), HCL.out, zeroU_wf, HD.out.keep f4 (by have := HBR.out; simp; omega) (fun k hk => by have := HFR.out k hk; simp; omega), by have := HBR.out; omega, fun h => by have := HFR.out g h; omega, ⟨none, 0, [], rfl, Pt.OwnA.nil _ _⟩, by simp [nilS, blk], .inl ⟨rfl, rfl⟩, (F1.out.trans F2.out (by simp)).trans f4 (fun i hi => .inr (by simp at hi; omega)), by omega, by have := HBR.out; omega, fun i hi => by have := HFR.out i hi; omega⟩
section
variable {w0 w w' : World} {g : Nat} {n : Int} {S : List UInt8} {br : Nat} {rv : Value} {rsp : List UInt8} {st : Nat × Int × Int} {v : Value} {u : Ub} {E : Value} {L : List Addr} {p : Nat}
theorem isin_any (h : RG w0 w g n S br rv rsp st v u E L) (s : Addr) (hs : ∃ c t, w0.heap[s.block]? = some (.cells c t (0, 0))) {q : Bool} (hq : decide (s ∈ L) = q) : Calls Tryz.prog 117 #[E, .iface 212 (.pointer (some s))] w fun r w' => r = .returned (.bool q) ∧ Frm [] w w' := by
  subst hq
  obtain ⟨c, t, hc⟩ := hs
  rcases h.err with ⟨rfl, rfl⟩ | he
  · have := Is_nil s w
    simpa using this
  · exact Is_any s c t he (h.frm.heap hc (by simp))
def errnoOf (a b c : Bool) : Int := if a = true then 4 else if b = true then 6 else if c = true then 11 else 0
set_option maxHeartbeats 4000000 in
theorem errno_any {s0 s1 s2 : Addr} (hs : Sens w0 s0 s1 s2) (h : RG w0 w g n S br rv rsp st v u E L) {q0 q1 q2 : Bool} (h0 : decide (s0 ∈ L) = q0) (h1 : decide (s1 ∈ L) = q1) (h2 : decide (s2 ∈ L) = q2) :
    Calls Tryz.prog 74 #[.pointer (some ⟨g, 0, none⟩)] w fun r w' => r = .returned (.int .i64 (errnoOf q0 q1 q2)) ∧ Frm [] w w' := by
  have HSE := Lib.hid hs
  have H := Lib.hid h
  have A0 := Lib.hid (fun W (f : Frm [] w W) => isin_any (h.keep0 f) s0 hs.h0 h0)
  have A1 := Lib.hid (fun W (f : Frm [] w W) => isin_any (h.keep0 f) s1 hs.h1 h1)
  have A2 := Lib.hid (fun W (f : Frm [] w W) => isin_any (h.keep0 f) s2 hs.h2 h2)
  have HE := Lib.hid (show errnoOf q0 q1 q2 = if q0 = true then 4 else if q1 = true then 6 else if q2 = true then 11 else 0 from rfl)
  clear hs h h0 h1 h2
  generalize errnoOf q0 q1 q2 = e at *
  go_enter Tryz.func74, Tryz.ntmps74
  go_wp2_with fail
  cases q0 with
  | true =>
    refine wp_region_held_drew (S := fun z => Frm [] w z) (by kernel_rfl) ((Frm.refl [] w).drew) (fun hHeld => ?_)
    refine wpAnyH_take (i := 0) (oi := { dst := some 4, op := Op.move (Operand.tmp 0), type := 86, pos := "reading.go:48", after := #[], guard := none }) (v := ?_) rfl (by kernel_rfl) (by kernel_rfl) (by kernel_rfl) (fun _ _ _ h => h) (Or.inl ⟨by rfl, ?_⟩) hHeld ?_
    rotate_left
    focus (intro z hSw; clear hSw; go_simp; try with_reducible rfl)
    try simp only [Act.put, List.setIfInBounds_toArray, List.set_cons_zero, List.set_cons_succ]
    refine wpAnyH_take (i := 1) (oi := { dst := some 5, op := Op.nilCheck (Operand.tmp 4), type := 0, pos := "reading.go:48", after := #[{ on := 0, ground := Ground.data }], guard := none }) (v := ?_) rfl (by kernel_rfl) (by kernel_rfl) (by kernel_rfl) (fun _ _ _ h => h) (Or.inl ⟨by rfl, ?_⟩) hHeld ?_
    rotate_left
    focus (intro z hSw; clear hSw; go_simp; try with_reducible rfl)
    try simp only [Act.put, List.setIfInBounds_toArray, List.set_cons_zero, List.set_cons_succ]
    refine wpAnyH_take (i := 2) (oi := { dst := some 6, op := Op.fieldAddr 95 (Operand.tmp 5) 4, type := 0, pos := "reading.go:48", after := #[{ on := 1, ground := Ground.data }], guard := none }) (v := ?_) rfl (by kernel_rfl) (by kernel_rfl) (by kernel_rfl) (fun _ _ _ h => h) (Or.inl ⟨by rfl, ?_⟩) hHeld ?_
    rotate_left
    focus (intro z hSw; clear hSw; go_simp; try with_reducible rfl)
    try simp only [Act.put, List.setIfInBounds_toArray, List.set_cons_zero, List.set_cons_succ]
    refine wpAnyH_take (i := 3) (oi := { dst := some 7, op := Op.load 93 (Operand.tmp 6), type := 93, pos := "reading.go:48", after := #[{ on := 2, ground := Ground.data }], guard := none }) (v := ?_) rfl (by kernel_rfl) (by kernel_rfl) (by kernel_rfl) (fun _ _ _ h => h) (Or.inl ⟨by rfl, ?_⟩) hHeld ?_
    rotate_left
    focus (intro z hSw; have hz := H.out.keep0 hSw; have cw := hz.wrong; obtain ⟨g0, g1, g2⟩ := heap_of_sen HSE.out hz.frm; clear hz hSw; go_simp; try with_reducible rfl)
    try simp only [Act.put, List.setIfInBounds_toArray, List.set_cons_zero, List.set_cons_succ]
    refine wpAnyH_take (i := 4) (oi := { dst := some 8, op := Op.load 93 (Operand.global 0), type := 93, pos := "reading.go:48", after := #[], guard := none }) (v := ?_) rfl (by kernel_rfl) (by kernel_rfl) (by kernel_rfl) (fun _ _ _ h => h) (Or.inl ⟨by rfl, ?_⟩) hHeld ?_
    rotate_left
    focus (intro z hSw; have hz := H.out.keep0 hSw; have cw := hz.wrong; obtain ⟨g0, g1, g2⟩ := heap_of_sen HSE.out hz.frm; clear hz hSw; go_simp; try with_reducible rfl)
    try simp only [Act.put, List.setIfInBounds_toArray, List.set_cons_zero, List.set_cons_succ]
    refine wpAnyH_ready (rs := [5]) (by kernel_rfl) (by simp) ?_
    refine AllReadyH.cons (o := { dst := some 9, op := Op.call { callee := Callee.value (Operand.func 117), args := #[Operand.tmp 7, Operand.tmp 8], argTypes := #[93, 93] }, type := 4, pos := "reading.go:48", after := #[{ on := 3, ground := Ground.data }, { on := 4, ground := Ground.data }], guard := none }) rfl (fun K hK => ?_) AllReadyH.nil
    go_simp
    refine (A0.out _ hHeld).mono ?_
    rintro r w2 ⟨rfl, f2⟩
    refine hK.out _ _ ?_ (fun hNext => ?_)
    · exact hHeld.trans f2 (by simp)
    clear hK K hHeld
    have hHeld := hNext
    clear hNext
    try simp only [Act.put, List.setIfInBounds_toArray, List.set_cons_zero, List.set_cons_succ]
    refine wpAnyH_take (i := 6) (oi := { dst := some 3, op := Op.assign (Operand.tmp 9), type := 4, pos := "reading.go:48", after := #[{ on := 5, ground := Ground.data }, { on := 5, ground := Ground.chain }], guard := none }) (v := ?_) rfl (by kernel_rfl) (by kernel_rfl) (by kernel_rfl) (fun _ _ _ h => h) (Or.inl ⟨by rfl, ?_⟩) hHeld ?_
    rotate_left
    focus (intro z hSw; clear hSw; go_simp; try with_reducible rfl)
    try simp only [Act.put, List.setIfInBounds_toArray, List.set_cons_zero, List.set_cons_succ]
    refine wpAnyH_done (by kernel_rfl) ?_ _
    have HH := Lib.hid hHeld
    clear hHeld
    go_wp2_with fail
    go_ret
    exact ⟨by rw [HE.out]; rfl, HH.out⟩
  | false =>
    refine wp_region_held_drew (S := fun z => Frm [] w z) (by kernel_rfl) ((Frm.refl [] w).drew) (fun hHeld => ?_)
    refine wpAnyH_take (i := 0) (oi := { dst := some 4, op := Op.move (Operand.tmp 0), type := 86, pos := "reading.go:48", after := #[], guard := none }) (v := ?_) rfl (by kernel_rfl) (by kernel_rfl) (by kernel_rfl) (fun _ _ _ h => h) (Or.inl ⟨by rfl, ?_⟩) hHeld ?_
    rotate_left
    focus (intro z hSw; clear hSw; go_simp; try with_reducible rfl)
    try simp only [Act.put, List.setIfInBounds_toArray, List.set_cons_zero, List.set_cons_succ]
    refine wpAnyH_take (i := 1) (oi := { dst := some 5, op := Op.nilCheck (Operand.tmp 4), type := 0, pos := "reading.go:48", after := #[{ on := 0, ground := Ground.data }], guard := none }) (v := ?_) rfl (by kernel_rfl) (by kernel_rfl) (by kernel_rfl) (fun _ _ _ h => h) (Or.inl ⟨by rfl, ?_⟩) hHeld ?_
    rotate_left
    focus (intro z hSw; clear hSw; go_simp; try with_reducible rfl)
    try simp only [Act.put, List.setIfInBounds_toArray, List.set_cons_zero, List.set_cons_succ]
    refine wpAnyH_take (i := 2) (oi := { dst := some 6, op := Op.fieldAddr 95 (Operand.tmp 5) 4, type := 0, pos := "reading.go:48", after := #[{ on := 1, ground := Ground.data }], guard := none }) (v := ?_) rfl (by kernel_rfl) (by kernel_rfl) (by kernel_rfl) (fun _ _ _ h => h) (Or.inl ⟨by rfl, ?_⟩) hHeld ?_
    rotate_left
    focus (intro z hSw; clear hSw; go_simp; try with_reducible rfl)
    try simp only [Act.put, List.setIfInBounds_toArray, List.set_cons_zero, List.set_cons_succ]
    refine wpAnyH_take (i := 3) (oi := { dst := some 7, op := Op.load 93 (Operand.tmp 6), type := 93, pos := "reading.go:48", after := #[{ on := 2, ground := Ground.data }], guard := none }) (v := ?_) rfl (by kernel_rfl) (by kernel_rfl) (by kernel_rfl) (fun _ _ _ h => h) (Or.inl ⟨by rfl, ?_⟩) hHeld ?_
    rotate_left
    focus (intro z hSw; have hz := H.out.keep0 hSw; have cw := hz.wrong; obtain ⟨g0, g1, g2⟩ := heap_of_sen HSE.out hz.frm; clear hz hSw; go_simp; try with_reducible rfl)
    try simp only [Act.put, List.setIfInBounds_toArray, List.set_cons_zero, List.set_cons_succ]
    refine wpAnyH_take (i := 4) (oi := { dst := some 8, op := Op.load 93 (Operand.global 0), type := 93, pos := "reading.go:48", after := #[], guard := none }) (v := ?_) rfl (by kernel_rfl) (by kernel_rfl) (by kernel_rfl) (fun _ _ _ h => h) (Or.inl ⟨by rfl, ?_⟩) hHeld ?_
    rotate_left
    focus (intro z hSw; have hz := H.out.keep0 hSw; have cw := hz.wrong; obtain ⟨g0, g1, g2⟩ := heap_of_sen HSE.out hz.frm; clear hz hSw; go_simp; try with_reducible rfl)
    try simp only [Act.put, List.setIfInBounds_toArray, List.set_cons_zero, List.set_cons_succ]
    refine wpAnyH_ready (rs := [5]) (by kernel_rfl) (by simp) ?_
    refine AllReadyH.cons (o := { dst := some 9, op := Op.call { callee := Callee.value (Operand.func 117), args := #[Operand.tmp 7, Operand.tmp 8], argTypes := #[93, 93] }, type := 4, pos := "reading.go:48", after := #[{ on := 3, ground := Ground.data }, { on := 4, ground := Ground.data }], guard := none }) rfl (fun K hK => ?_) AllReadyH.nil
    go_simp
    refine (A0.out _ hHeld).mono ?_
    rintro r w2 ⟨rfl, f2⟩
    refine hK.out _ _ ?_ (fun hNext => ?_)
    · exact hHeld.trans f2 (by simp)
    clear hK K hHeld
    have hHeld := hNext
    clear hNext
    try simp only [Act.put, List.setIfInBounds_toArray, List.set_cons_zero, List.set_cons_succ]
    refine wpAnyH_take (i := 6) (oi := { dst := some 3, op := Op.assign (Operand.tmp 9), type := 4, pos := "reading.go:48", after := #[{ on := 5, ground := Ground.data }, { on := 5, ground := Ground.chain }], guard := none }) (v := ?_) rfl (by kernel_rfl) (by kernel_rfl) (by kernel_rfl) (fun _ _ _ h => h) (Or.inl ⟨by rfl, ?_⟩) hHeld ?_
    rotate_left
    focus (intro z hSw; clear hSw; go_simp; try with_reducible rfl)
    try simp only [Act.put, List.setIfInBounds_toArray, List.set_cons_zero, List.set_cons_succ]
    refine wpAnyH_done (by kernel_rfl) ?_ _
    have HH := Lib.hid hHeld
    clear hHeld
    go_wp2_with fail
    cases q1 with
    | true =>
      refine wp_region_held_drew (S := fun z => Frm [] w z) (by kernel_rfl) (HH.out.drew) (fun hHeld => ?_)
      refine wpAnyH_take (i := 0) (oi := { dst := some 11, op := Op.move (Operand.tmp 0), type := 86, pos := "reading.go:50", after := #[], guard := none }) (v := ?_) rfl (by kernel_rfl) (by kernel_rfl) (by kernel_rfl) (fun _ _ _ h => h) (Or.inl ⟨by rfl, ?_⟩) hHeld ?_
      rotate_left
      focus (intro z hSw; clear hSw; go_simp; try with_reducible rfl)
      try simp only [Act.put, List.setIfInBounds_toArray, List.set_cons_zero, List.set_cons_succ]
      refine wpAnyH_take (i := 1) (oi := { dst := some 12, op := Op.nilCheck (Operand.tmp 11), type := 0, pos := "reading.go:50", after := #[{ on := 0, ground := Ground.data }], guard := none }) (v := ?_) rfl (by kernel_rfl) (by kernel_rfl) (by kernel_rfl) (fun _ _ _ h => h) (Or.inl ⟨by rfl, ?_⟩) hHeld ?_
      rotate_left
      focus (intro z hSw; clear hSw; go_simp; try with_reducible rfl)
      try simp only [Act.put, List.setIfInBounds_toArray, List.set_cons_zero, List.set_cons_succ]
      refine wpAnyH_take (i := 2) (oi := { dst := some 13, op := Op.fieldAddr 95 (Operand.tmp 12) 4, type := 0, pos := "reading.go:50", after := #[{ on := 1, ground := Ground.data }], guard := none }) (v := ?_) rfl (by kernel_rfl) (by kernel_rfl) (by kernel_rfl) (fun _ _ _ h => h) (Or.inl ⟨by rfl, ?_⟩) hHeld ?_
      rotate_left
      focus (intro z hSw; clear hSw; go_simp; try with_reducible rfl)
      try simp only [Act.put, List.setIfInBounds_toArray, List.set_cons_zero, List.set_cons_succ]
      refine wpAnyH_take (i := 3) (oi := { dst := some 14, op := Op.load 93 (Operand.tmp 13), type := 93, pos := "reading.go:50", after := #[{ on := 2, ground := Ground.data }], guard := none }) (v := ?_) rfl (by kernel_rfl) (by kernel_rfl) (by kernel_rfl) (fun _ _ _ h => h) (Or.inl ⟨by rfl, ?_⟩) hHeld ?_
      rotate_left
      focus (intro z hSw; have hz := H.out.keep0 hSw; have cw := hz.wrong; obtain ⟨g0, g1, g2⟩ := heap_of_sen HSE.out hz.frm; clear hz hSw; go_simp; try with_reducible rfl)
      try simp only [Act.put, List.setIfInBounds_toArray, List.set_cons_zero, List.set_cons_succ]
      refine wpAnyH_take (i := 4) (oi := { dst := some 15, op := Op.load 93 (Operand.global 1), type := 93, pos := "reading.go:50", after := #[], guard := none }) (v := ?_) rfl (by kernel_rfl) (by kernel_rfl) (by kernel_rfl) (fun _ _ _ h => h) (Or.inl ⟨by rfl, ?_⟩) hHeld ?_
      rotate_left
      focus (intro z hSw; have hz := H.out.keep0 hSw; have cw := hz.wrong; obtain ⟨g0, g1, g2⟩ := heap_of_sen HSE.out hz.frm; clear hz hSw; go_simp; try with_reducible rfl)
      try simp only [Act.put, List.setIfInBounds_toArray, List.set_cons_zero, List.set_cons_succ]
      refine wpAnyH_ready (rs := [5]) (by kernel_rfl) (by simp) ?_
      refine AllReadyH.cons (o := { dst := some 16, op := Op.call { callee := Callee.value (Operand.func 117), args := #[Operand.tmp 14, Operand.tmp 15], argTypes := #[93, 93] }, type := 4, pos := "reading.go:50", after := #[{ on := 3, ground := Ground.data }, { on := 4, ground := Ground.data }], guard := none }) rfl (fun K hK => ?_) AllReadyH.nil
      go_simp
      refine (A1.out _ hHeld).mono ?_
      rintro r w2 ⟨rfl, f2⟩
      refine hK.out _ _ ?_ (fun hNext => ?_)
      · exact hHeld.trans f2 (by simp)
      clear hK K hHeld
      have hHeld := hNext
      clear hNext
      try simp only [Act.put, List.setIfInBounds_toArray, List.set_cons_zero, List.set_cons_succ]
      refine wpAnyH_take (i := 6) (oi := { dst := some 10, op := Op.assign (Operand.tmp 16), type := 4, pos := "reading.go:50", after := #[{ on := 5, ground := Ground.data }, { on := 5, ground := Ground.chain }], guard := none }) (v := ?_) rfl (by kernel_rfl) (by kernel_rfl) (by kernel_rfl) (fun _ _ _ h => h) (Or.inl ⟨by rfl, ?_⟩) hHeld ?_
      rotate_left
      focus (intro z hSw; clear hSw; go_simp; try with_reducible rfl)
      try simp only [Act.put, List.setIfInBounds_toArray, List.set_cons_zero, List.set_cons_succ]
      refine wpAnyH_done (by kernel_rfl) ?_ _
      have HH := Lib.hid hHeld
      clear hHeld
      go_wp2_with fail
      go_ret
      exact ⟨by rw [HE.out]; rfl, HH.out⟩
    | false =>
      refine wp_region_held_drew (S := fun z => Frm [] w z) (by kernel_rfl) (HH.out.drew) (fun hHeld => ?_)
      refine wpAnyH_take (i := 0) (oi := { dst := some 11, op := Op.move (Operand.tmp 0), type := 86, pos := "reading.go:50", after := #[], guard := none }) (v := ?_) rfl (by kernel_rfl) (by kernel_rfl) (by kernel_rfl) (fun _ _ _ h => h) (Or.inl ⟨by rfl, ?_⟩) hHeld ?_
      rotate_left
      focus (intro z hSw; clear hSw; go_simp; try with_reducible rfl)
      try simp only [Act.put, List.setIfInBounds_toArray, List.set_cons_zero, List.set_cons_succ]
      refine wpAnyH_take (i := 1) (oi := { dst := some 12, op := Op.nilCheck (Operand.tmp 11), type := 0, pos := "reading.go:50", after := #[{ on := 0, ground := Ground.data }], guard := none }) (v := ?_) rfl (by kernel_rfl) (by kernel_rfl) (by kernel_rfl) (fun _ _ _ h => h) (Or.inl ⟨by rfl, ?_⟩) hHeld ?_
      rotate_left
      focus (intro z hSw; clear hSw; go_simp; try with_reducible rfl)
      try simp only [Act.put, List.setIfInBounds_toArray, List.set_cons_zero, List.set_cons_succ]
      refine wpAnyH_take (i := 2) (oi := { dst := some 13, op := Op.fieldAddr 95 (Operand.tmp 12) 4, type := 0, pos := "reading.go:50", after := #[{ on := 1, ground := Ground.data }], guard := none }) (v := ?_) rfl (by kernel_rfl) (by kernel_rfl) (by kernel_rfl) (fun _ _ _ h => h) (Or.inl ⟨by rfl, ?_⟩) hHeld ?_
      rotate_left
      focus (intro z hSw; clear hSw; go_simp; try with_reducible rfl)
      try simp only [Act.put, List.setIfInBounds_toArray, List.set_cons_zero, List.set_cons_succ]
      refine wpAnyH_take (i := 3) (oi := { dst := some 14, op := Op.load 93 (Operand.tmp 13), type := 93, pos := "reading.go:50", after := #[{ on := 2, ground := Ground.data }], guard := none }) (v := ?_) rfl (by kernel_rfl) (by kernel_rfl) (by kernel_rfl) (fun _ _ _ h => h) (Or.inl ⟨by rfl, ?_⟩) hHeld ?_
      rotate_left
      focus (intro z hSw; have hz := H.out.keep0 hSw; have cw := hz.wrong; obtain ⟨g0, g1, g2⟩ := heap_of_sen HSE.out hz.frm; clear hz hSw; go_simp; try with_reducible rfl)
      try simp only [Act.put, List.setIfInBounds_toArray, List.set_cons_zero, List.set_cons_succ]
      refine wpAnyH_take (i := 4) (oi := { dst := some 15, op := Op.load 93 (Operand.global 1), type := 93, pos := "reading.go:50", after := #[], guard := none }) (v := ?_) rfl (by kernel_rfl) (by kernel_rfl) (by kernel_rfl) (fun _ _ _ h => h) (Or.inl ⟨by rfl, ?_⟩) hHeld ?_
      rotate_left
      focus (intro z hSw; have hz := H.out.keep0 hSw; have cw := hz.wrong; obtain ⟨g0, g1, g2⟩ := heap_of_sen HSE.out hz.frm; clear hz hSw; go_simp; try with_reducible rfl)
      try simp only [Act.put, List.setIfInBounds_toArray, List.set_cons_zero, List.set_cons_succ]
      refine wpAnyH_ready (rs := [5]) (by kernel_rfl) (by simp) ?_
      refine AllReadyH.cons (o := { dst := some 16, op := Op.call { callee := Callee.value (Operand.func 117), args := #[Operand.tmp 14, Operand.tmp 15], argTypes := #[93, 93] }, type := 4, pos := "reading.go:50", after := #[{ on := 3, ground := Ground.data }, { on := 4, ground := Ground.data }], guard := none }) rfl (fun K hK => ?_) AllReadyH.nil
      go_simp
      refine (A1.out _ hHeld).mono ?_
      rintro r w2 ⟨rfl, f2⟩
      refine hK.out _ _ ?_ (fun hNext => ?_)
      · exact hHeld.trans f2 (by simp)
      clear hK K hHeld
      have hHeld := hNext
      clear hNext
      try simp only [Act.put, List.setIfInBounds_toArray, List.set_cons_zero, List.set_cons_succ]
      refine wpAnyH_take (i := 6) (oi := { dst := some 10, op := Op.assign (Operand.tmp 16), type := 4, pos := "reading.go:50", after := #[{ on := 5, ground := Ground.data }, { on := 5, ground := Ground.chain }], guard := none }) (v := ?_) rfl (by kernel_rfl) (by kernel_rfl) (by kernel_rfl) (fun _ _ _ h => h) (Or.inl ⟨by rfl, ?_⟩) hHeld ?_
      rotate_left
      focus (intro z hSw; clear hSw; go_simp; try with_reducible rfl)
      try simp only [Act.put, List.setIfInBounds_toArray, List.set_cons_zero, List.set_cons_succ]
      refine wpAnyH_done (by kernel_rfl) ?_ _
      have HH := Lib.hid hHeld
      clear hHeld
      go_wp2_with fail
      cases q2 with
      | true =>
        refine wp_region_held_drew (S := fun z => Frm [] w z) (by kernel_rfl) (HH.out.drew) (fun hHeld => ?_)
        refine wpAnyH_take (i := 0) (oi := { dst := some 18, op := Op.move (Operand.tmp 0), type := 86, pos := "reading.go:52", after := #[], guard := none }) (v := ?_) rfl (by kernel_rfl) (by kernel_rfl) (by kernel_rfl) (fun _ _ _ h => h) (Or.inl ⟨by rfl, ?_⟩) hHeld ?_
        rotate_left
        focus (intro z hSw; clear hSw; go_simp; try with_reducible rfl)
        try simp only [Act.put, List.setIfInBounds_toArray, List.set_cons_zero, List.set_cons_succ]
        refine wpAnyH_take (i := 1) (oi := { dst := some 19, op := Op.nilCheck (Operand.tmp 18), type := 0, pos := "reading.go:52", after := #[{ on := 0, ground := Ground.data }], guard := none }) (v := ?_) rfl (by kernel_rfl) (by kernel_rfl) (by kernel_rfl) (fun _ _ _ h => h) (Or.inl ⟨by rfl, ?_⟩) hHeld ?_
        rotate_left
        focus (intro z hSw; clear hSw; go_simp; try with_reducible rfl)
        try simp only [Act.put, List.setIfInBounds_toArray, List.set_cons_zero, List.set_cons_succ]
        refine wpAnyH_take (i := 2) (oi := { dst := some 20, op := Op.fieldAddr 95 (Operand.tmp 19) 4, type := 0, pos := "reading.go:52", after := #[{ on := 1, ground := Ground.data }], guard := none }) (v := ?_) rfl (by kernel_rfl) (by kernel_rfl) (by kernel_rfl) (fun _ _ _ h => h) (Or.inl ⟨by rfl, ?_⟩) hHeld ?_
        rotate_left
        focus (intro z hSw; clear hSw; go_simp; try with_reducible rfl)
        try simp only [Act.put, List.setIfInBounds_toArray, List.set_cons_zero, List.set_cons_succ]
        refine wpAnyH_take (i := 3) (oi := { dst := some 21, op := Op.load 93 (Operand.tmp 20), type := 93, pos := "reading.go:52", after := #[{ on := 2, ground := Ground.data }], guard := none }) (v := ?_) rfl (by kernel_rfl) (by kernel_rfl) (by kernel_rfl) (fun _ _ _ h => h) (Or.inl ⟨by rfl, ?_⟩) hHeld ?_
        rotate_left
        focus (intro z hSw; have hz := H.out.keep0 hSw; have cw := hz.wrong; obtain ⟨g0, g1, g2⟩ := heap_of_sen HSE.out hz.frm; clear hz hSw; go_simp; try with_reducible rfl)
        try simp only [Act.put, List.setIfInBounds_toArray, List.set_cons_zero, List.set_cons_succ]
        refine wpAnyH_take (i := 4) (oi := { dst := some 22, op := Op.load 93 (Operand.global 2), type := 93, pos := "reading.go:52", after := #[], guard := none }) (v := ?_) rfl (by kernel_rfl) (by kernel_rfl) (by kernel_rfl) (fun _ _ _ h => h) (Or.inl ⟨by rfl, ?_⟩) hHeld ?_
        rotate_left
        focus (intro z hSw; have hz := H.out.keep0 hSw; have cw := hz.wrong; obtain ⟨g0, g1, g2⟩ := heap_of_sen HSE.out hz.frm; clear hz hSw; go_simp; try with_reducible rfl)
        try simp only [Act.put, List.setIfInBounds_toArray, List.set_cons_zero, List.set_cons_succ]
        refine wpAnyH_ready (rs := [5]) (by kernel_rfl) (by simp) ?_
        refine AllReadyH.cons (o := { dst := some 23, op := Op.call { callee := Callee.value (Operand.func 117), args := #[Operand.tmp 21, Operand.tmp 22], argTypes := #[93, 93] }, type := 4, pos := "reading.go:52", after := #[{ on := 3, ground := Ground.data }, { on := 4, ground := Ground.data }], guard := none }) rfl (fun K hK => ?_) AllReadyH.nil
        go_simp
        refine (A2.out _ hHeld).mono ?_
        rintro r w2 ⟨rfl, f2⟩
        refine hK.out _ _ ?_ (fun hNext => ?_)
        · exact hHeld.trans f2 (by simp)
        clear hK K hHeld
        have hHeld := hNext
        clear hNext
        try simp only [Act.put, List.setIfInBounds_toArray, List.set_cons_zero, List.set_cons_succ]
        refine wpAnyH_take (i := 6) (oi := { dst := some 17, op := Op.assign (Operand.tmp 23), type := 4, pos := "reading.go:52", after := #[{ on := 5, ground := Ground.data }, { on := 5, ground := Ground.chain }], guard := none }) (v := ?_) rfl (by kernel_rfl) (by kernel_rfl) (by kernel_rfl) (fun _ _ _ h => h) (Or.inl ⟨by rfl, ?_⟩) hHeld ?_
        rotate_left
        focus (intro z hSw; clear hSw; go_simp; try with_reducible rfl)
        try simp only [Act.put, List.setIfInBounds_toArray, List.set_cons_zero, List.set_cons_succ]
        refine wpAnyH_done (by kernel_rfl) ?_ _
        have HH := Lib.hid hHeld
        clear hHeld
        go_wp2_with fail
        go_ret
        exact ⟨by rw [HE.out]; rfl, HH.out⟩
      | false =>
        refine wp_region_held_drew (S := fun z => Frm [] w z) (by kernel_rfl) (HH.out.drew) (fun hHeld => ?_)
        refine wpAnyH_take (i := 0) (oi := { dst := some 18, op := Op.move (Operand.tmp 0), type := 86, pos := "reading.go:52", after := #[], guard := none }) (v := ?_) rfl (by kernel_rfl) (by kernel_rfl) (by kernel_rfl) (fun _ _ _ h => h) (Or.inl ⟨by rfl, ?_⟩) hHeld ?_
        rotate_left
        focus (intro z hSw; clear hSw; go_simp; try with_reducible rfl)
        try simp only [Act.put, List.setIfInBounds_toArray, List.set_cons_zero, List.set_cons_succ]
        refine wpAnyH_take (i := 1) (oi := { dst := some 19, op := Op.nilCheck (Operand.tmp 18), type := 0, pos := "reading.go:52", after := #[{ on := 0, ground := Ground.data }], guard := none }) (v := ?_) rfl (by kernel_rfl) (by kernel_rfl) (by kernel_rfl) (fun _ _ _ h => h) (Or.inl ⟨by rfl, ?_⟩) hHeld ?_
        rotate_left
        focus (intro z hSw; clear hSw; go_simp; try with_reducible rfl)
        try simp only [Act.put, List.setIfInBounds_toArray, List.set_cons_zero, List.set_cons_succ]
        refine wpAnyH_take (i := 2) (oi := { dst := some 20, op := Op.fieldAddr 95 (Operand.tmp 19) 4, type := 0, pos := "reading.go:52", after := #[{ on := 1, ground := Ground.data }], guard := none }) (v := ?_) rfl (by kernel_rfl) (by kernel_rfl) (by kernel_rfl) (fun _ _ _ h => h) (Or.inl ⟨by rfl, ?_⟩) hHeld ?_
        rotate_left
        focus (intro z hSw; clear hSw; go_simp; try with_reducible rfl)
        try simp only [Act.put, List.setIfInBounds_toArray, List.set_cons_zero, List.set_cons_succ]
        refine wpAnyH_take (i := 3) (oi := { dst := some 21, op := Op.load 93 (Operand.tmp 20), type := 93, pos := "reading.go:52", after := #[{ on := 2, ground := Ground.data }], guard := none }) (v := ?_) rfl (by kernel_rfl) (by kernel_rfl) (by kernel_rfl) (fun _ _ _ h => h) (Or.inl ⟨by rfl, ?_⟩) hHeld ?_
        rotate_left
        focus (intro z hSw; have hz := H.out.keep0 hSw; have cw := hz.wrong; obtain ⟨g0, g1, g2⟩ := heap_of_sen HSE.out hz.frm; clear hz hSw; go_simp; try with_reducible rfl)
        try simp only [Act.put, List.setIfInBounds_toArray, List.set_cons_zero, List.set_cons_succ]
        refine wpAnyH_take (i := 4) (oi := { dst := some 22, op := Op.load 93 (Operand.global 2), type := 93, pos := "reading.go:52", after := #[], guard := none }) (v := ?_) rfl (by kernel_rfl) (by kernel_rfl) (by kernel_rfl) (fun _ _ _ h => h) (Or.inl ⟨by rfl, ?_⟩) hHeld ?_
        rotate_left
        focus (intro z hSw; have hz := H.out.keep0 hSw; have cw := hz.wrong; obtain ⟨g0, g1, g2⟩ := heap_of_sen HSE.out hz.frm; clear hz hSw; go_simp; try with_reducible rfl)
        try simp only [Act.put, List.setIfInBounds_toArray, List.set_cons_zero, List.set_cons_succ]
        refine wpAnyH_ready (rs := [5]) (by kernel_rfl) (by simp) ?_
        refine AllReadyH.cons (o := { dst := some 23, op := Op.call { callee := Callee.value (Operand.func 117), args := #[Operand.tmp 21, Operand.tmp 22], argTypes := #[93, 93] }, type := 4, pos := "reading.go:52", after := #[{ on := 3, ground := Ground.data }, { on := 4, ground := Ground.data }], guard := none }) rfl (fun K hK => ?_) AllReadyH.nil
        go_simp
        refine (A2.out _ hHeld).mono ?_
        rintro r w2 ⟨rfl, f2⟩
        refine hK.out _ _ ?_ (fun hNext => ?_)
        · exact hHeld.trans f2 (by simp)
        clear hK K hHeld
        have hHeld := hNext
        clear hNext
        try simp only [Act.put, List.setIfInBounds_toArray, List.set_cons_zero, List.set_cons_succ]
        refine wpAnyH_take (i := 6) (oi := { dst := some 17, op := Op.assign (Operand.tmp 23), type := 4, pos := "reading.go:52", after := #[{ on := 5, ground := Ground.data }, { on := 5, ground := Ground.chain }], guard := none }) (v := ?_) rfl (by kernel_rfl) (by kernel_rfl) (by kernel_rfl) (fun _ _ _ h => h) (Or.inl ⟨by rfl, ?_⟩) hHeld ?_
        rotate_left
        focus (intro z hSw; clear hSw; go_simp; try with_reducible rfl)
        try simp only [Act.put, List.setIfInBounds_toArray, List.set_cons_zero, List.set_cons_succ]
        refine wpAnyH_done (by kernel_rfl) ?_ _
        have HH := Lib.hid hHeld
        clear hHeld
        go_wp2_with fail
        go_ret
        exact ⟨by rw [HE.out]; rfl, HH.out⟩
end
end Go.Proofs.YtjdejhgfkjeeiaaGreatDoor
