/-
  Contract of sectorOf: the bytes of a node that may be. No conditions but those that each theorem names.
-/
import Derived.Test.YtjjcjocomanohaaNE
import Derived.Test.YtjjcjocomanohaaNF
namespace Go.Proofs.Ytjjcjocomanohaa
open Go.RowKit
set_option linter.unusedVariables false
set_option linter.unusedSimpArgs false
set_option maxRecDepth 100000

/-- A sector's block. -/
def SB (w : World) (g : Nat) (l : List UInt8) : Prop := w.heap[g]? = some (.cells (bvs l).toArray 74 (0, 0))
theorem SB.keep0 {w w' : World} {g : Nat} {l : List UInt8} (h : SB w g l) (f : Frm [] w w') : SB w' g l := f.heap h (by simp)
theorem i74 : (Try.prog.info? 74).map (·.size) = some 256 := by kernel_rfl
theorem alloc74 (W : World) : (Instr.alloc 74 true (.tuple #[])).run Try.prog W = .ok (.pointer (some ⟨W.heap.size, 0, none⟩)) (W.alloc (.cells (bvs (List.replicate 256 0)).toArray 74)) := by kernel_rfl
theorem exec_alloc74 {o : Oper} {a : Act} (hop : o.op = Op.alloc 74) (W : World) : (execOp a.eval o).run Try.prog W = .ok (.value (.pointer (some ⟨W.heap.size, 0, none⟩))) (W.alloc (.cells (bvs (List.replicate 256 0)).toArray 74)) := by
  have h := alloc74 W
  generalize W.alloc (.cells (bvs (List.replicate 256 0)).toArray 74) = W2 at *
  simp only [execOp, hop, Sem.run_bind, Sem.run_pure, h, Result.andThen_ok]
theorem bld74 (x : Int) (W : World) : (Instr.build 74 #[(0, .int .u8 x)]).run Try.prog W = .ok (.agg (.int .u8 x :: bvs (List.replicate 255 0)).toArray) W := by kernel_rfl
theorem exec_bld74 {o : Oper} {a : Act} (s : Operand) (b : UInt8) (hop : o.op = Op.build 74 #[(0, s)]) (h1 : a.eval s = .int .u8 b.toNat) (W : World) : (execOp a.eval o).run Try.prog W = .ok (.value (.agg (bvs (b :: List.replicate 255 0)).toArray)) W := by
  have hb := bld74 b.toNat W
  have hm : (#[(0, s)].map fun ((i, x) : Nat × Operand) => (i, a.eval x)) = #[(0, .int .u8 b.toNat)] := by simp [h1]
  simp only [execOp, hop, hm, Sem.run_bind, Sem.run_pure, hb, Result.andThen_ok]
  rfl
theorem bvs_one_all (l : List UInt8) : (bvs l).toArray.all (·.oneCell') = true := all_oneCell_toArray (bvs_one l)
/-- A sector is laid into a new variable. -/
theorem wpList_lay74 {ops : Array Oper} {rest : List Oper} {o1 o3 : Oper} {a : Act} {W : World} {Q : Exit → Act → World → Prop} (g1 : o1.guard = none) (g3 : o3.guard = none)
    (h1 : o1.op = .alloc 74) (p x : Operand) (h3 : o3.op = .store 74 p x) {l : List UInt8} (hl : l.length = 256)
    (e1 : (a.put o1.dst (.pointer (some ⟨W.heap.size, 0, none⟩))).eval p = .pointer (some ⟨W.heap.size, 0, none⟩))
    (e2 : (a.put o1.dst (.pointer (some ⟨W.heap.size, 0, none⟩))).eval x = .agg (bvs l).toArray)
    (k : wpList Try.prog ops Q rest ((a.put o1.dst (.pointer (some ⟨W.heap.size, 0, none⟩))).put o3.dst undef) (W.alloc (.cells (bvs l).toArray 74))) :
    wpList Try.prog ops Q (o1 :: o3 :: rest) a W := by
  refine wpList_val g1 (exec_alloc74 h1 _) ?_
  refine wpList_store_row g3 74 p x h3 W.heap.size (bvs l).toArray e1 e2 74 _ (heap_alloc_new _ _) (by rw [i74]; simp [bvs_length, hl]) (by simp [bvs_length, hl]) (bvs_one_all l) ?_
  rw [World.setRow_alloc_new]
  exact k
theorem SB.load {w : World} {g : Nat} {l : List UInt8} (h : SB w g l) (hl : l.length = 256) : (Instr.loadAt 74 (.pointer (some ⟨g, 0, none⟩))).run Try.prog w = .ok (.agg (bvs l).toArray) w := by
  refine run_loadAt_mid w g 0 74 (bvs l) _ (fun j u hu => ?_) Try.underlying74 rfl (by rw [i74]; simp [bvs_length, hl])
  rw [cell_of_heap h]
  simpa using hu
/-- The first k pointers of a node, as a sector. -/
def secK (lv : Int) (ps : List Pt) (k : Nat) : List UInt8 := UInt8.ofNat lv.toNat :: ((ps.take k).flatMap enc ++ List.replicate (255 - 47 * k) 0)
def secB (n : Nd) : List UInt8 := UInt8.ofNat n.lv.toNat :: (n.ps.flatMap enc ++ List.replicate 67 0)
theorem flat_enc : ∀ {ps : List Pt}, (∀ p ∈ ps, (enc p).length = 47) → (ps.flatMap enc).length = 47 * ps.length
  | [], _ => rfl
  | p :: r, h => by
    have h2 := flat_enc (ps := r) (fun q hq => h q (by simp [hq]))
    simp only [List.flatMap_cons, List.length_append, h p (by simp), h2, List.length_cons]
    omega
theorem secK_length {lv : Int} {ps : List Pt} (h : ∀ p ∈ ps, (enc p).length = 47) (h4 : ps.length = 4) (k : Nat) (hk : k ≤ 4) : (secK lv ps k).length = 256 := by
  have := flat_enc (ps := ps.take k) (fun p hp => h p (List.mem_of_mem_take hp))
  simp only [secK, List.length_cons, List.length_append, this, List.length_replicate, List.length_take]
  omega
theorem secK_step {lv : Int} {ps : List Pt} (h : ∀ p ∈ ps, (enc p).length = 47) (h4 : ps.length = 4) {k : Nat} (hk : k < 4) {p : Pt} (hp : ps[k]? = some p) :
    (bvs (secK lv ps k)).take (1 + k * 47) ++ bvs (enc p) ++ (bvs (secK lv ps k)).drop (1 + k * 47 + (bvs (enc p)).length) = bvs (secK lv ps (k + 1)) := by
  have hl := flat_enc (ps := ps.take k) (fun p hp => h p (List.mem_of_mem_take hp))
  have hlk : (ps.take k).length = k := by rw [List.length_take]; omega
  rw [hlk] at hl
  have he := h p (List.mem_of_getElem? hp)
  obtain ⟨hlt, hpe⟩ := List.getElem?_eq_some_iff.1 hp
  have e1 : (bvs (secK lv ps k)).take (1 + k * 47) = bvs (UInt8.ofNat lv.toNat :: (ps.take k).flatMap enc) := by
    unfold bvs secK
    rw [← List.map_take, ← List.cons_append, List.take_left' (by simp only [List.length_cons, hl]; omega)]
  have e2 : (bvs (secK lv ps k)).drop (1 + k * 47 + (bvs (enc p)).length) = bvs (List.replicate (255 - 47 * (k + 1)) 0) := by
    rw [bvs_length, he]
    unfold bvs secK
    rw [← List.map_drop, ← List.cons_append, List.drop_append, List.drop_of_length_le (by simp only [List.length_cons, hl]; omega), List.nil_append]
    simp only [List.length_cons, hl, List.drop_replicate]
    rw [show 255 - 47 * k - (1 + k * 47 + 47 - (47 * k + 1)) = 255 - 47 * (k + 1) by omega]
  rw [e1, e2, ← bvs_append, ← bvs_append]
  unfold secK
  rw [List.take_succ_eq_append_getElem hlt, List.flatMap_append, hpe]
  simp
theorem secK_four {n : Nd} (h4 : n.ps.length = 4) : secK n.lv n.ps 4 = secB n := by
  unfold secK secB
  rw [List.take_of_length_le (by omega)]
theorem stand_may {p : Pt} {lv : Int} (h : standB p lv = true) : may p := by
  simp only [standB, Bool.or_eq_true, Bool.and_eq_true, decide_eq_true_eq, beq_iff_eq] at h
  rcases h with h | ⟨h, _⟩
  · exact .inl h
  · rcases chk_cases p with ⟨m, _, _⟩ | ⟨_, e, _⟩
    · exact m
    · rw [e] at h; cases h
theorem nodeB_parts {n : Nd} (h : nodeB n = true) : 1 ≤ n.lv ∧ n.lv ≤ 3 ∧ ∀ p ∈ n.ps, standB p n.lv = true := by
  simp only [nodeB, Bool.and_eq_true, decide_eq_true_eq, List.all_eq_true] at h
  exact ⟨h.1.1, h.1.2, h.2⟩
theorem PtsV.lens {w : World} {As : List (Array Value)} {ps : List Pt} (h : PtsV w As ps) : ∀ p ∈ ps, p.s.length = 32 := fun p hp => by
  obtain ⟨i, hi, rfl⟩ := List.getElem_of_mem hp
  have h1 := h.1
  have h2 := h.2.1
  exact (h.2.2 i As[i] _ (List.getElem?_eq_getElem (by omega)) (List.getElem?_eq_getElem hi)).len
def SecRel (lv : Int) (ps : List Pt) (g : Nat) (w0 : World) (cv : Value) (wr : World) : Prop := ∃ k : Nat, k ≤ 4 ∧ cv = .int .i64 k ∧ SB wr g (secK lv ps k) ∧ Frm [] w0 wr
set_option maxHeartbeats 8000000 in
theorem sectorOf_any (x : Value) (n : Nd) (w : World) (hn : NdV w x n) (hb : nodeB n = true) :
    Calls Try.prog 63 #[x] w fun e w' => e = .returned (.agg (bvs (secB n)).toArray) ∧ Frm [] w w' := by
  obtain ⟨n1, n3, hst⟩ := nodeB_parts hb
  obtain ⟨N, rfl, hN, As, hps, hbx⟩ := hn.box
  have henc : ∀ p ∈ n.ps, (enc p).length = 47 := fun p hp => enc_len (stand_may (hst p hp)) (hps.lens p hp)
  have b0 : BoxN ((w.alloc (.cells N 51)).alloc (.cells (bvs (List.replicate 256 0)).toArray 74)) w.heap.size (.agg N) n.lv As := (hbx w).keep0 ((Frm.refl [] _).alloc _)
  have f0 : Frm [] w ((w.alloc (.cells N 51)).alloc (.cells (bvs (List.replicate 256 0)).toArray 74)) := ((Frm.refl [] w).alloc _).alloc _
  have s0 : SB ((w.alloc (.cells N 51)).alloc (.cells (bvs (List.replicate 256 0)).toArray 74)) (w.heap.size + 1) (List.replicate 256 0) := heap_alloc_at (by simp)
  have HPS := Lib.hid hps
  have HST := Lib.hid hst
  have HENC := Lib.hid henc
  have hw8 : IntKind.u8.wrap n.lv = ((UInt8.ofNat n.lv.toNat).toNat : Int) := by
    have : n.lv = 1 ∨ n.lv = 2 ∨ n.lv = 3 := by omega
    rcases this with e | e | e <;> rw [e] <;> rfl
  have HFOUR := Lib.hid (secK_four (n := n) hps.2.1)
  have HZ := Lib.hid (show secK n.lv n.ps 0 = UInt8.ofNat n.lv.toNat :: List.replicate 255 0 by simp [secK])
  have hads : ∀ p ∈ n.ps, p.ads.length ≤ 1000000 := fun p hp => by
    rcases stand_may (hst p hp) with h | h
    · rw [hole_iff.1 h]; simp [zeroPt]
    · have := h.1; omega
  have HADS := Lib.hid hads
  clear hbx hn hps hst henc hads hb
  go_enter Try.func63, Try.ntmps63
  go_upto_region 1 with ((with_reducible (show wpList _ _ _ (Oper.mk _ (Op.alloc 74) _ _ _ _ :: _) _ _)); refine wpList_val rfl (exec_alloc74 rfl _) ?_)
  try simp only [World.size_alloc]
  generalize (w.alloc (.cells N 51)).alloc (.cells (bvs (List.replicate 256 0)).toArray 74) = W at *
  have B0 := Lib.hid b0
  have F0 := Lib.hid f0
  have S0 := Lib.hid s0
  have c0 := b0.2.lev
  clear b0 f0 s0
  obtain ⟨lv, hlv⟩ : ∃ lv, lv = n.lv := ⟨_, rfl⟩
  obtain ⟨ps, hpn⟩ : ∃ ps, ps = n.ps := ⟨_, rfl⟩
  rw [← hlv] at c0 hw8 HZ n1 n3 HFOUR HST
  rw [← hpn] at HZ HFOUR HST HENC HADS HPS
  clear hlv hpn
  generalize UInt8.ofNat lv.toNat = b8 at *
  go_upto_region 2 with (first
    | ((with_reducible (show wpList _ _ _ (Oper.mk _ (Op.build 74 _) _ _ _ _ :: _) _ _)); refine wpList_val rfl (exec_bld74 (.tmp 10) b8 rfl rfl _) ?_)
    | ((with_reducible (show wpList _ _ _ (Oper.mk _ (Op.alloc 74) _ _ _ _ :: _) _ _)); refine wpList_lay74 rfl rfl rfl (.tmp 3) (.tmp 11) rfl (l := b8 :: List.replicate 255 0) (by simp) rfl rfl ?_))
  rw [← HZ.out]
  have hS : SB (W.alloc (.cells (bvs (secK lv ps 0)).toArray 74)) W.heap.size (secK lv ps 0) := heap_alloc_new _ _
  have fS : Frm [] W (W.alloc (.cells (bvs (secK lv ps 0)).toArray 74)) := (Frm.refl [] W).alloc _
  have hWlt : W.heap.size < (W.alloc (.cells (bvs (secK lv ps 0)).toArray 74)).heap.size := by simp
  generalize W.alloc (.cells (bvs (secK lv ps 0)).toArray 74) = W1 at *
  generalize (Value.agg (bvs (secK lv ps 0)).toArray) = x11
  have FW := Lib.hid fS
  have HS := Lib.hid hS
  have HSZ := Lib.hid (show w.heap.size + 1 < W.heap.size ∧ W.heap.size < W1.heap.size from ⟨lt_heap S0.out, hWlt⟩)
  clear fS hS hWlt c0
  generalize hgg : W.heap.size = g at *
  have HGG := Lib.hid hgg
  clear hgg
  go_wp2_with fail
  go_loopw [14] (SecRel lv ps g W) (fun cv _ => 4 - (intOf cv).toNat)
  case atStart => exact ⟨0, by omega, rfl, HS.out, FW.out⟩
  case round =>
    obtain ⟨k, hk, rfl, hs, f⟩ := hrel
    have SK := Lib.hid hs
    have Fk := Lib.hid f
    clear hs f HS
    by_cases hlt : k < 4
    · obtain ⟨A, p, hA, hp, hv⟩ := HPS.out.get hlt
      have hpm := List.mem_of_getElem? hp
      have HA2 := Lib.hid (ptv_size hv)
      have LD := Lib.hid ((B0.out.keep0 Fk.out).2.load hA)
      have FF := Lib.hid (F0.out.trans Fk.out (by simp))
      have hm : may p := stand_may (HST.out p hpm)
      have hB := fun W (f : Frm [] w W) => Bytes_any (.agg A) p W (hv.keep0 f) (HADS.out p hpm)
      have hck : chk p = 0 := by simp [chk, (mayB_iff p).2 hm]
      have hob : outB p = enc p := by simp [outB, (mayB_iff p).2 hm]
      have hle := HENC.out p hpm
      unfold BytesP at hB
      rw [hck, hob, hle] at hB
      have HB := Lib.hid hB
      have BX := Lib.hid (show Boxed (wr.drew.alloc (.cells A 26)) wr.heap.size (.agg A) p from ptv_boxed hv wr.drew)
      have HSTEP := Lib.hid (secK_step (lv := lv) HENC.out HPS.out.2.1 hlt hp)
      have HLEN := Lib.hid (secK_length (lv := lv) HENC.out HPS.out.2.1 k hk)
      have HLE := Lib.hid hle
      have hset : (wr.drew.alloc (.cells (pc (.slice none 0 0) 0 0 zs).toArray 26)).setRow wr.heap.size A = wr.drew.alloc (.cells A 26) := World.setRow_alloc_new _ _ _ _
      have HSET := Lib.hid hset
      have fa : Frm [] wr (wr.drew.alloc (.cells A 26)) := (Frm.refl [] wr).drew.alloc _
      have FA := Lib.hid fa
      have HA := Lib.hid hA
      clear hA hp hv hpm hm hB hck hob hle hset fa
      go_upto_region 4 with (fail)
      refine wp_region_held_drew (S := fun z => Frm [] wr z) (by kernel_rfl) ((Frm.refl [] wr).drew) (fun hHeld => ?_)
      refine wpAnyH_take (i := 0) (oi := { dst := some 16, op := Op.move (Operand.tmp 14), type := 3, pos := "sector.go:25", after := #[], guard := none }) (v := ?_) rfl (by kernel_rfl) (by kernel_rfl) (by kernel_rfl) (fun _ _ _ h => h) (Or.inl ⟨by rfl, ?_⟩) hHeld ?_
      rotate_left
      focus (intro z hSw; clear hSw; go_simp; try with_reducible rfl)
      try simp only [Act.put, List.setIfInBounds_toArray, List.set_cons_zero, List.set_cons_succ]
      refine wpAnyH_take (i := 1) (oi := { dst := some 17, op := Op.nilCheck (Operand.tmp 12), type := 0, pos := "sector.go:25", after := #[{ on := 5, ground := Ground.gcOnly Departure.lateStores }], guard := none }) (v := ?_) rfl (by kernel_rfl) (by kernel_rfl) (by kernel_rfl) (fun _ _ _ h => h) (Or.inl ⟨by rfl, ?_⟩) hHeld ?_
      rotate_left
      focus (intro z hSw; clear hSw; go_simp; try with_reducible rfl)
      try simp only [Act.put, List.setIfInBounds_toArray, List.set_cons_zero, List.set_cons_succ]
      refine wpAnyH_take (i := 2) (oi := { dst := some 18, op := Op.indexAddr 49 (Operand.tmp 17) (Operand.tmp 14), type := 0, pos := "sector.go:25", after := #[{ on := 1, ground := Ground.data }, { on := 5, ground := Ground.gcOnly Departure.lateStores }], guard := none }) (v := ?_) rfl (by kernel_rfl) (by kernel_rfl) (by kernel_rfl) (fun _ _ _ h => h) (Or.inl ⟨by rfl, ?_⟩) hHeld ?_
      rotate_left
      focus (intro z hSw; clear hSw; go_simp; try with_reducible rfl)
      try simp only [Act.put, List.setIfInBounds_toArray, List.set_cons_zero, List.set_cons_succ]
      refine wpAnyH_take (i := 3) (oi := { dst := some 19, op := Op.load 26 (Operand.tmp 18), type := 26, pos := "sector.go:25", after := #[{ on := 2, ground := Ground.data }, { on := 5, ground := Ground.gcOnly Departure.lateStores }], guard := none }) rfl (by kernel_rfl) (by kernel_rfl) (by kernel_rfl) (fun _ _ _ h => h) (yieldsIf_ld (by rfl) 26 _ rfl _ rfl (fun z hSw => ((B0.out.keep0 Fk.out).keep0 hSw).2.load HA.out)) hHeld ?_
      try simp only [Act.put, List.setIfInBounds_toArray, List.set_cons_zero, List.set_cons_succ]
      refine wpAnyH_ready (rs := [4]) (by kernel_rfl) (by simp) ?_
      refine AllReadyH.cons (o := { dst := some 5, op := Op.alloc 26, type := 0, pos := "sector.go:25", after := #[], guard := none }) rfl (fun K hK => ?_) AllReadyH.nil
      refine step_val (v := .pointer (some ⟨wr.heap.size, 0, none⟩)) (w' := wr.drew.alloc (.cells (pc (.slice none 0 0) 0 0 zs).toArray 26)) rfl (exec_alloc26z rfl wr.drew) ?_
      refine hK.out _ _ ?_ (fun hNext => ?_)
      · exact hHeld.alloc _
      clear hK K hHeld
      have hHeld := hNext
      clear hNext
      try simp only [Act.put, List.setIfInBounds_toArray, List.set_cons_zero, List.set_cons_succ]
      refine wpAnyH_take (i := 5) (oi := { dst := some 4, op := Op.assign (Operand.tmp 16), type := 3, pos := "sector.go:25", after := #[{ on := 0, ground := Ground.data }, { on := 0, ground := Ground.phase }, { on := 1, ground := Ground.textOnly Departure.lateStores }, { on := 2, ground := Ground.textOnly Departure.lateStores }, { on := 3, ground := Ground.textOnly Departure.lateStores }, { on := 4, ground := Ground.phase }], guard := none }) (v := ?_) rfl (by kernel_rfl) (by kernel_rfl) (by kernel_rfl) (fun _ _ _ h => h) (Or.inl ⟨by rfl, ?_⟩) hHeld ?_
      rotate_left
      focus (intro z hSw; clear hSw; go_simp; try with_reducible rfl)
      try simp only [Act.put, List.setIfInBounds_toArray, List.set_cons_zero, List.set_cons_succ]
      refine wpAnyH_ready (rs := [6]) (by kernel_rfl) (by simp) ?_
      refine AllReadyH.cons (o := { dst := none, op := Op.store 26 (Operand.tmp 5) (Operand.tmp 19), type := 0, pos := "sector.go:25", after := #[{ on := 4, ground := Ground.data }, { on := 3, ground := Ground.data }, { on := 5, ground := Ground.chain }, { on := 0, ground := Ground.phase }, { on := 1, ground := Ground.phase }, { on := 2, ground := Ground.phase }, { on := 3, ground := Ground.phase }, { on := 4, ground := Ground.phase }, { on := 5, ground := Ground.phase }], guard := none }) rfl (fun K hK => ?_) AllReadyH.nil
      rw [if_pos (by rfl)]
      refine wp_store_row 26 (.tmp 5) (.tmp 19) rfl wr.heap.size A rfl rfl 26 _ (heap_alloc_new wr.drew _) (by rw [i26, HA2.out.1]) (by rw [pc_size, HA2.out.1]; rfl) HA2.out.2 ?_
      refine hK.out _ _ ?_ (fun hNext => ?_)
      · exact hHeld.trans (L' := [wr.heap.size]) ⟨rfl, rfl, rfl, by simp [World.setRow], fun k hk hn => setRow_other _ _ k _ (by simpa using hn)⟩ (by simp)
      clear hK K hHeld
      have hHeld := hNext
      clear hNext
      try simp only [Act.put, List.setIfInBounds_toArray, List.set_cons_zero, List.set_cons_succ]
      refine wpAnyH_done (by kernel_rfl) ?_ _
      rw [HSET.out]
      clear hHeld HSET
      generalize wr.drew.alloc (.cells A 26) = V at *
      go_upto_region 6 with (first
        | ((with_reducible (show wpList _ _ _ (Oper.mk _ (Op.load 26 _) _ _ _ _ :: _) _ _)); refine wpList_load_g (by rfl) 26 _ rfl _ rfl BX.out.load ?_)
        | (go_at_call 15; refine (HB.out _ (FF.out.trans FA.out (by simp))).mono ?_; rintro r w5 ⟨a5, c5, s5, rfl, o5, f5, n5⟩))
      have hsb : SB w5 g (secK lv ps k) := SK.out.keep0 (FA.out.trans f5 (by simp))
      obtain ⟨i5, hi5, hz5, hsz5, hby5⟩ := info_parts BT.info
      have hrun := copy_raw (P := Try.prog) (tS := 29) (tx := 29) 3 BT.sl hi5 hsz5 hsb (1 + k * 47) (dLen := 47) (dCap := 255 - k * 47) (Sl.src BT.sl o5.sl (bvs_one (enc p))) (by rw [HLE.out]; omega) (by rw [bvs_length, bvs_length, HLE.out, HLEN.out]; omega)
      rw [HSTEP.out, HLE.out] at hrun
      have HR := Lib.hid hrun
      have hS6 : SB (w5.setRow g (bvs (secK lv ps (k + 1))).toArray) g (secK lv ps (k + 1)) := setRow_heap _ g _ _ 74 (0, 0) hsb
      have f6 : Frm [g] w5 (w5.setRow g (bvs (secK lv ps (k + 1))).toArray) := ⟨rfl, rfl, rfl, by simp [World.setRow], fun k hk hn => setRow_other _ _ k _ (by simpa using hn)⟩
      have S6 := Lib.hid hS6
      have F6 := Lib.hid ((Fk.out.trans (FA.out.trans f5 (by simp)) (by simp)).trans f6 (fun i hi => .inr (by simp at hi; rw [hi, HGG.out]; omega)))
      clear hsb hi5 hz5 hsz5 hby5 hrun hS6 f6 o5 f5 n5 HSTEP HLE HLEN BX HB FF FA SK Fk
      generalize (w5.setRow g (bvs (secK lv ps (k + 1))).toArray) = w6 at *
      go_wp2_with (first
        | (go_at_call 76; refine (room_any g k _ hlt).mono ?_; rintro r wn ⟨rfl, rfl⟩)
        | ((with_reducible (show wpList _ _ _ (Oper.mk _ (Op.call (Call.mk (Callee.builtin Builtin.copy) _ _)) _ _ _ _ :: _) _ _)); refine wpList_copy_run rfl (.tmp 26) (.tmp 27) rfl rfl rfl HR.out ?_))
      go_roundw
      case rel => exact ⟨k + 1, by omega, by go_num, S6.out, F6.out⟩
      case measure => simp [intOf]; omega
    · obtain rfl : k = 4 := by omega
      rw [HFOUR.out] at SK
      have hlen : (secB n).length = 256 := by rw [← HFOUR.out]; exact secK_length HENC.out HPS.out.2.1 4 (by omega)
      have HLN := Lib.hid hlen
      have SL := Lib.hid (SK.out.load hlen)
      have S2 := Lib.hid (show wr.heap[w.heap.size + 1]? = _ from S0.out.keep0 Fk.out)
      have hsv := setRow_heap wr (w.heap.size + 1) _ (bvs (secB n)).toArray 74 (0, 0) S2.out
      have fsv : Frm [w.heap.size + 1] wr (wr.setRow (w.heap.size + 1) (bvs (secB n)).toArray) := ⟨rfl, rfl, rfl, by simp [World.setRow], fun k hk hn => setRow_other _ _ k _ (by simpa using hn)⟩
      have HSV := Lib.hid hsv
      have FSV := Lib.hid ((F0.out.trans Fk.out (by simp)).trans fsv (fun i hi => .inr (by simp at hi; omega)))
      clear hlen hsv fsv
      go_wp2_with (first
        | ((with_reducible (show wpList _ _ _ (Oper.mk _ (Op.load 74 _) _ _ _ _ :: _) _ _)); refine wpList_load_g (by rfl) 74 _ rfl _ rfl SL.out ?_)
        | ((with_reducible (show wpList _ _ _ (Oper.mk _ (Op.store 74 _ _) _ _ _ _ :: _) _ _)); refine wpList_store_row rfl 74 (.tmp 2) (.tmp 30) rfl (w.heap.size + 1) (bvs (secB n)).toArray rfl rfl 74 _ S2.out (by rw [i74]; simp [bvs_length, HLN.out]) (by simp [bvs_length, HLN.out]) (bvs_one_all _) ?_))
      refine bodyPost_ret (v := .agg (bvs (secB n)).toArray) (results_cell_row (p := 2) rfl _ _ (w.heap.size + 1) 74 _ (0, 0) _ rfl HSV.out Try.underlying74 rfl (by rw [i74]; simp [bvs_length, HLN.out])) rfl ⟨rfl, FSV.out⟩
end Go.Proofs.Ytjjcjocomanohaa
