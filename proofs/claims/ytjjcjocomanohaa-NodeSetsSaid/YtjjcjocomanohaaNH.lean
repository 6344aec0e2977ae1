/-
  Contract of nodeOf: the node whose level and pointers a sector has. No conditions but those that each theorem names.
-/
import Derived.Test.YtjjcjocomanohaaNG
namespace Go.Proofs.Ytjjcjocomanohaa
open Go.RowKit
set_option linter.unusedVariables false
set_option linter.unusedSimpArgs false
set_option maxRecDepth 100000

def zA : Array Value := (pc (.slice none 0 0) 0 0 zs).toArray
def zAs : List (Array Value) := List.replicate 4 zA
theorem zA_size : zA.size = 35 := by rw [zA, pc_size]; rfl
theorem zAs_rows : Rows35 zAs := fun A hA => by
  rw [List.eq_of_mem_replicate hA]
  exact ⟨zA_size, pc_one _ _ _⟩
theorem zAs_len : zAs.length = 4 := rfl
theorem alloc51 (W : World) : (Instr.alloc 51 true (.tuple #[])).run Try.prog W = .ok (.pointer (some ⟨W.heap.size, 0, none⟩)) (W.alloc (.cells (nc 0 zAs).toArray 51)) := by kernel_rfl
theorem exec_alloc51 {o : Oper} {a : Act} (hop : o.op = Op.alloc 51) (W : World) : (execOp a.eval o).run Try.prog W = .ok (.value (.pointer (some ⟨W.heap.size, 0, none⟩))) (W.alloc (.cells (nc 0 zAs).toArray 51)) := by
  have h := alloc51 W
  generalize W.alloc (.cells (nc 0 zAs).toArray 51) = W2 at *
  simp only [execOp, hop, Sem.run_bind, Sem.run_pure, h, Result.andThen_ok]
theorem bld51 (x : Int) (W : World) : (Instr.build 51 #[(0, .int .i64 x)]).run Try.prog W = .ok (.agg (nc x zAs).toArray) W := by kernel_rfl
theorem exec_bld51 {o : Oper} {a : Act} {x : Int} (s : Operand) (hop : o.op = Op.build 51 #[(0, s)]) (h1 : a.eval s = .int .i64 x) (W : World) : (execOp a.eval o).run Try.prog W = .ok (.value (.agg (nc x zAs).toArray)) W := by
  have hb := bld51 x W
  have hm : (#[(0, s)].map fun ((i, x) : Nat × Operand) => (i, a.eval x)) = #[(0, .int .i64 x)] := by simp [h1]
  simp only [execOp, hop, hm, Sem.run_bind, Sem.run_pure, hb, Result.andThen_ok]
theorem bld51z (W : World) : (Instr.build 51 #[]).run Try.prog W = .ok (.agg (nc 0 zAs).toArray) W := by kernel_rfl
theorem exec_bld51z {o : Oper} {a : Act} (hop : o.op = Op.build 51 #[]) (W : World) : (execOp a.eval o).run Try.prog W = .ok (.value (.agg (nc 0 zAs).toArray)) W := by
  have hb := bld51z W
  simp only [execOp, hop, List.map_toArray, List.map_nil, Sem.run_bind, Sem.run_pure, hb, Result.andThen_ok]
theorem nc_one {lv : Int} {As : List (Array Value)} (h : Rows35 As) : (nc lv As).toArray.all (·.oneCell') = true := all_oneCell_toArray (fun u hu => by
  rcases List.mem_cons.1 hu with rfl | hu
  · rfl
  · obtain ⟨l, hl, hu⟩ := List.mem_flatten.1 hu
    obtain ⟨A, hA, rfl⟩ := List.mem_map.1 hl
    exact (Array.all_eq_true_iff_forall_mem.1 (h A hA).2) u (by simpa using hu))
/-- A node is laid into a new variable. -/
theorem wpList_lay51 {ops : Array Oper} {rest : List Oper} {o1 o3 : Oper} {a : Act} {W : World} {Q : Exit → Act → World → Prop} (g1 : o1.guard = none) (g3 : o3.guard = none)
    (h1 : o1.op = .alloc 51) (p x : Operand) (h3 : o3.op = .store 51 p x) {lv : Int} {As : List (Array Value)} (h4 : As.length = 4) (hR : Rows35 As)
    (e1 : (a.put o1.dst (.pointer (some ⟨W.heap.size, 0, none⟩))).eval p = .pointer (some ⟨W.heap.size, 0, none⟩))
    (e2 : (a.put o1.dst (.pointer (some ⟨W.heap.size, 0, none⟩))).eval x = .agg (nc lv As).toArray)
    (k : wpList Try.prog ops Q rest ((a.put o1.dst (.pointer (some ⟨W.heap.size, 0, none⟩))).put o3.dst undef) (W.alloc (.cells (nc lv As).toArray 51))) :
    wpList Try.prog ops Q (o1 :: o3 :: rest) a W := by
  refine wpList_val g1 (exec_alloc51 h1 _) ?_
  refine wpList_store_row g3 51 p x h3 W.heap.size (nc lv As).toArray e1 e2 51 _ (heap_alloc_new _ _) (by rw [i51]; simp [nc_length hR h4]) (by simp [nc_length hR h4, nc_length zAs_rows zAs_len]) (nc_one hR) ?_
  rw [World.setRow_alloc_new]
  exact k
/-- A node is stored over another one. -/
theorem wpList_store51 {ops : Array Oper} {rest : List Oper} {o3 : Oper} {a : Act} {W : World} {Q : Exit → Act → World → Prop} (g3 : o3.guard = none)
    (p x : Operand) (h3 : o3.op = .store 51 p x) {lv lv0 : Int} {As As0 : List (Array Value)} {g : Nat} (h0 : NB W g lv0 As0) (h4 : As.length = 4) (hR : Rows35 As)
    (e1 : a.eval p = .pointer (some ⟨g, 0, none⟩)) (e2 : a.eval x = .agg (nc lv As).toArray)
    (k : ∀ V, NB V g lv As → Frm [g] W V → wpList Try.prog ops Q rest (a.put o3.dst undef) V) :
    wpList Try.prog ops Q (o3 :: rest) a W := by
  refine wpList_store_row g3 51 p x h3 g (nc lv As).toArray e1 e2 51 _ h0.1 (by rw [i51]; simp [nc_length hR h4]) (by simp [nc_length hR h4, nc_length h0.2.2 h0.2.1]) (nc_one hR) ?_
  exact k _ ⟨setRow_heap W g _ _ 51 (0, 0) h0.1, h4, hR⟩ ⟨rfl, rfl, rfl, by simp [World.setRow], fun k hk hn => setRow_other _ _ k _ (by simpa using hn)⟩
theorem NB.var {w : World} {g : Nat} {lv : Int} {As : List (Array Value)} (h : NB w g lv As) : (loadVar 51 ⟨g, 0, none⟩).run Try.prog w = .ok (.agg (nc lv As).toArray) w :=
  run_loadVar_row w g 51 51 _ (0, 0) _ h.1 Try.underlying51 rfl (by rw [i51]; simp [nc_length h.2.2 h.2.1])
/-- Results that lie in a cell and in a slot. -/
theorem results_cell_slot {P : Program} {fn : Func} {p q : Tmp} {t1 : TypeId} (h : fn.results = #[.cell p t1, .tmp q]) (tmps : Array Value) (w : World) {a1 : Addr} {v1 v2 : Value} (h1 : tmps.getD p undef = .pointer (some a1)) (h2 : tmps.getD q undef = v2)
    (k1 : (loadVar t1 a1).run P w = .ok v1 w) : (results fn tmps).run P w = .ok (.tuple #[v1, v2]) w := by
  have h1' : tmps[p]?.getD undef = .pointer (some a1) := by simpa using h1
  have h2' : tmps[q]?.getD undef = v2 := by simpa using h2
  simp [results, h, h1', h2', asAddr, k1, Result.andThen]
theorem ptsv_zero (W : World) : PtsV W zAs (List.replicate 4 zeroPt) := ⟨rfl, rfl, fun i A p hA hp => by
  rw [List.eq_of_mem_replicate (List.mem_of_getElem? hA), List.eq_of_mem_replicate (List.mem_of_getElem? hp)]
  exact ptv_zero W⟩
theorem PtsV.set {w : World} {As : List (Array Value)} {ps : List Pt} (h : PtsV w As ps) {i : Nat} {B : Array Value} {p : Pt} (hB : PtV w (.agg B) p) : PtsV w (As.set i B) (ps.set i p) := by
  refine ⟨by simpa using h.1, by simpa using h.2.1, fun j A q hA hq => ?_⟩
  have h1 := h.1
  have h2 := h.2.1
  by_cases hij : i = j
  · subst hij
    have hlt : i < As.length := by have := (List.getElem?_eq_some_iff.1 hA).1; simpa using this
    rw [List.getElem?_set_self hlt] at hA
    rw [List.getElem?_set_self (by omega)] at hq
    cases hA
    cases hq
    exact hB
  · rw [List.getElem?_set_ne hij] at hA hq
    exact h.2.2 j A q hA hq
theorem PtsV.keep {w w' : World} {L : List Nat} {As : List (Array Value)} {ps : List Pt} (h : PtsV w As ps) (f : Frm L w w') (hn : ∀ A ∈ As, ∀ i ∈ ptBlk (.agg A), i ∉ L) : PtsV w' As ps := ⟨h.1, h.2.1, fun i A p h1 h2 => (h.2.2 i A p h1 h2).keep f (hn A (List.mem_of_getElem? h1))⟩
theorem layN_new (w : World) (a : Option Addr) (c : Nat) (e f : Int) {p : Pt} (hs : p.s.length = 32) : Boxed ((w.alloc (.cells (pc (.slice a p.ads.length c) p.b p.l p.s).toArray 26)).alloc (.cells #[.int .i64 e, .int .i64 f] 40)) w.heap.size (pv (.slice a p.ads.length c) p.b p.l p.s) p ∧ ((w.alloc (.cells (pc (.slice a p.ads.length c) p.b p.l p.s).toArray 26)).alloc (.cells #[.int .i64 e, .int .i64 f] 40)).cell? ⟨w.heap.size + 1, 0, none⟩ = some (.int .i64 e) := by
  have h : ((w.alloc (.cells (pc (.slice a p.ads.length c) p.b p.l p.s).toArray 26)).alloc (.cells #[.int .i64 e, .int .i64 f] 40)).heap[w.heap.size + 1]? = some (.cells #[.int .i64 e, .int .i64 f] 40 (0, 0)) := heap_alloc_at (by simp)
  exact ⟨⟨a, c, rfl, (PB.new _ _ _ _ _).alloc _, hs⟩, by rw [cell_of_heap h]; rfl⟩
theorem ptv_layN {w : World} {a : Option Addr} {c : Nat} {e f : Int} {p : Pt} {sp : List Ad} (h : SlA w (.slice a p.ads.length c) p.ads sp) (hs : p.s.length = 32) : PtV ((w.alloc (.cells (pc (.slice a p.ads.length c) p.b p.l p.s).toArray 26)).alloc (.cells #[.int .i64 e, .int .i64 f] 40)) (pv (.slice a p.ads.length c) p.b p.l p.s) p :=
  ⟨a, c, sp, rfl, h.keep (((Frm.refl [] w).alloc _).alloc _) (by simp), hs⟩
/-- The bytes of one of the pointers of a sector. -/
def chunk (S : List UInt8) (k : Nat) : List UInt8 := (S.drop (1 + k * 47)).take 47
theorem SB.chunk {w : World} {g : Nat} {S : List UInt8} (h : SB w g S) (hl : S.length = 256) {k : Nat} (hk : k < 4) : SlB w (.slice (some ⟨g, 1 + k * 47, none⟩) 47 (255 - k * 47)) (chunk S k) (S.drop (1 + k * 47 + 47)) := by
  have hlen : (Proofs.Ytjjcjocomanohaa.chunk S k).length = 47 := by simp [Proofs.Ytjjcjocomanohaa.chunk]; omega
  refine ⟨by simp [bvs_length], .inr (.inr ⟨g, 1 + k * 47, 255 - k * 47, by rw [hlen], by omega, by simp [maxLen]; omega, by simp [bvs_length, hlen, hl]; omega, fun i u hu => ?_⟩)⟩
  rw [cell_of_heap h]
  rw [← bvs_append] at hu
  have e : Proofs.Ytjjcjocomanohaa.chunk S k ++ S.drop (1 + k * 47 + 47) = S.drop (1 + k * 47) := by
    have h := List.take_append_drop 47 (S.drop (1 + k * 47))
    rw [List.drop_drop] at h
    exact h
  rw [e] at hu
  have : bvs (S.drop (1 + k * 47)) = (bvs S).drop (1 + k * 47) := by simp [bvs]
  rw [this, List.getElem?_drop] at hu
  simpa using hu
def okB (S : List UInt8) : Bool := (List.range 4).all (fun j => readE (chunk S j) == 0)
def nodePs (S : List UInt8) (k : Nat) : List Pt := (List.range 4).map (fun j => if j < k then readPt (chunk S j) else zeroPt)
def zeroNd : Nd := ⟨0, List.replicate 4 zeroPt⟩
def ndOf (S : List UInt8) : Nd := ⟨((S.headD 0).toNat : Int), (List.range 4).map fun j => readPt (chunk S j)⟩
theorem nodePs_zero (S : List UInt8) : nodePs S 0 = List.replicate 4 zeroPt := by simp [nodePs, List.map_const']
theorem nodePs_four (S : List UInt8) : nodePs S 4 = (ndOf S).ps := by
  unfold nodePs
  simp only [ndOf]
  refine List.map_congr_left fun j hj => ?_
  rw [if_pos (by simpa using hj)]
theorem nodePs_step (S : List UInt8) {k : Nat} (hk : k < 4) : (nodePs S k).set k (readPt (chunk S k)) = nodePs S (k + 1) := by
  refine List.ext_getElem (by simp [nodePs]) fun j h1 h2 => ?_
  have hj : j < 4 := by simpa [nodePs] using h2
  rw [List.getElem_set]
  simp only [nodePs, List.getElem_map, List.getElem_range]
  by_cases e : k = j
  · subst e
    rw [if_pos rfl, if_pos (by omega)]
  · rw [if_neg e]
    by_cases h : j < k
    · rw [if_pos h, if_pos (by omega)]
    · rw [if_neg h, if_neg (by omega)]
theorem okB_no {S : List UInt8} {k : Nat} (hk : k < 4) (h : readE (chunk S k) ≠ 0) : okB S = false := by
  unfold okB
  rw [List.all_eq_false]
  exact ⟨k, by simpa using hk, by simpa using h⟩
theorem okB_yes {S : List UInt8} (h : ∀ j, j < 4 → readE (chunk S j) = 0) : okB S = true := by
  unfold okB
  rw [List.all_eq_true]
  intro j hj
  simpa using h j (by simpa using hj)
/-- A node whose lists are new. -/
def NdN (b : Nat) (w : World) (x : Value) (n : Nd) : Prop := ∃ As, x = .agg (nc n.lv As).toArray ∧ PtsV w As n.ps ∧ ∀ A ∈ As, ∀ i ∈ ptBlk (.agg A), b ≤ i
def NodeOfP (S : List UInt8) (w : World) (e : Ending) (w' : World) : Prop := ∃ x, e = .returned (.tuple #[x, .bool (okB S)]) ∧ NdN w.heap.size w' x (if okB S = true then ndOf S else zeroNd) ∧ Frm [] w w'
def NodeRel (S : List UInt8) (lv : Int) (g : Nat) (w0 : World) (cv : Value) (wr : World) : Prop := ∃ (k : Nat) (As : List (Array Value)), k ≤ 4 ∧ cv = .int .i64 k ∧ (∀ j, j < k → readE (chunk S j) = 0) ∧ NB wr g lv As ∧ PtsV wr As (nodePs S k) ∧ (∀ A ∈ As, ∀ i ∈ ptBlk (.agg A), g < i) ∧ Frm [] w0 wr
set_option maxHeartbeats 8000000 in
theorem nodeOf_any (S : List UInt8) (w : World) (hS : S.length = 256) : Calls Try.prog 68 #[.agg (bvs S).toArray] w (NodeOfP S w) := by
  have s0 : SB ((w.alloc (.cells (bvs S).toArray 74)).alloc (.cells (nc 0 zAs).toArray 51)) w.heap.size S := heap_alloc_lt (heap_alloc_new _ _)
  have b0 : NB ((w.alloc (.cells (bvs S).toArray 74)).alloc (.cells (nc 0 zAs).toArray 51)) (w.heap.size + 1) 0 zAs := ⟨heap_alloc_at (by simp), zAs_len, zAs_rows⟩
  have f0 : Frm [] w ((w.alloc (.cells (bvs S).toArray 74)).alloc (.cells (nc 0 zAs).toArray 51)) := ((Frm.refl [] w).alloc _).alloc _
  have hsz : ((w.alloc (.cells (bvs S).toArray 74)).alloc (.cells (nc 0 zAs).toArray 51)).heap.size = w.heap.size + 2 := by simp
  have HL := Lib.hid hS
  obtain ⟨b8, hb8⟩ : ∃ b8, b8 = S.headD 0 := ⟨_, rfl⟩
  have hc0 : ∀ W, SB W w.heap.size S → W.cell? ⟨w.heap.size, 0, none⟩ = some (.int .u8 b8.toNat) := fun W h => by
    rw [cell_of_heap h, hb8]
    cases S with
    | nil => simp at hS
    | cons x r => simp [bvs, bv]
  have hw8 : IntKind.i64.wrap (b8.toNat : Int) = (b8.toNat : Int) := by have := b8.toNat_lt; exact IntWalk.i64_in _ (by omega)
  have HND := Lib.hid (show (b8.toNat : Int) = (ndOf S).lv by rw [hb8]; rfl)
  generalize hcs : (bvs S).toArray = cs at *
  go_enter Try.func68, Try.ntmps68
  go_upto_region 1 with ((with_reducible (show wpList _ _ _ (Oper.mk _ (Op.alloc 51) _ _ _ _ :: _) _ _)); refine wpList_val rfl (exec_alloc51 rfl _) ?_)
  try simp only [World.size_alloc]
  generalize (w.alloc (.cells cs 74)).alloc (.cells (nc 0 zAs).toArray 51) = W at *
  have c0 := hc0 W s0
  have S0 := Lib.hid s0
  have B0 := Lib.hid b0
  have F0 := Lib.hid f0
  have HSZ := Lib.hid hsz
  clear s0 b0 f0 hsz hc0 hb8 hcs hS
  generalize (b8.toNat : Int) = z8 at *
  go_upto_region 2 with (first
    | ((with_reducible (show wpList _ _ _ (Oper.mk _ (Op.build 51 _) _ _ _ _ :: _) _ _)); refine wpList_val rfl (exec_bld51 (.tmp 10) rfl rfl _) ?_)
    | ((with_reducible (show wpList _ _ _ (Oper.mk _ (Op.alloc 51) _ _ _ _ :: _) _ _)); refine wpList_lay51 rfl rfl rfl (.tmp 4) (.tmp 11) rfl zAs_len zAs_rows rfl rfl ?_))
  have hB : NB (W.alloc (.cells (nc z8 zAs).toArray 51)) W.heap.size z8 zAs := NB.new W z8 zAs_len zAs_rows
  have fB : Frm [] W (W.alloc (.cells (nc z8 zAs).toArray 51)) := (Frm.refl [] W).alloc _
  have hP := ptsv_zero (W.alloc (.cells (nc z8 zAs).toArray 51))
  rw [← nodePs_zero S] at hP
  have hWlt : W.heap.size < (W.alloc (.cells (nc z8 zAs).toArray 51)).heap.size := by simp
  have hnb : ∀ A ∈ zAs, ∀ i ∈ ptBlk (.agg A), W.heap.size < i := fun A hA i hi => by rw [List.eq_of_mem_replicate hA] at hi; simp [zA, ptBlk, pc, blk] at hi
  generalize W.alloc (.cells (nc z8 zAs).toArray 51) = W1 at *
  generalize Value.agg (nc z8 zAs).toArray = x11
  have HB := Lib.hid hB
  have FB := Lib.hid fB
  have HP := Lib.hid hP
  have HNB := Lib.hid hnb
  have HLT := Lib.hid hWlt
  clear hB fB hP hnb hWlt c0
  generalize hgg : W.heap.size = g at *
  have HGG := Lib.hid hgg
  clear hgg
  go_wp2_with fail
  go_loopw [12] (NodeRel S z8 g W) (fun cv _ => 4 - (intOf cv).toNat)
  case atStart => exact ⟨0, zAs, by omega, rfl, fun j hj => by omega, HB.out, HP.out, HNB.out, FB.out⟩
  case round =>
    obtain ⟨k, As, hk, rfl, hok, hb, hps, hnb, f⟩ := hrel
    have HOK := Lib.hid hok
    have BK := Lib.hid hb
    have PK := Lib.hid hps
    have NK := Lib.hid hnb
    have Fk := Lib.hid f
    clear hok hb hps hnb f HB FB HP HNB HLT
    by_cases hlt : k < 4
    · have hrd := fun W' (f : Frm [] W W') => ReadN_any _ (chunk S k) _ W' ((S0.out.keep0 f).chunk HL.out hlt) (by simp [chunk]; omega)
      unfold ReadN at hrd
      have HRD := Lib.hid hrd
      have HOKN := Lib.hid (@okB_no S k hlt)
      have HSTEP := Lib.hid (nodePs_step S hlt)
      have HOK1 := Lib.hid (show readE (chunk S k) = 0 → ∀ j, j < k + 1 → readE (chunk S j) = 0 from fun h j hj => by
        rcases Nat.lt_or_ge j k with h' | h'
        · exact HOK.out j h'
        · obtain rfl : j = k := by omega
          exact h)
      clear hrd
      generalize readE (chunk S k) = re at *
      generalize readAt (chunk S k) = ra at *
      generalize readPt (chunk S k) = rp at *
      go_upto_region 6 with (first
        | (go_at_call 76; refine (room_any _ k _ hlt).mono ?_; rintro r wn ⟨rfl, rfl⟩)
        | (go_at_call 29; refine (HRD.out _ Fk.out).mono ?_; rintro r w3 ⟨x3, rfl, hx3, f3, n3⟩; obtain ⟨a3, c3, s3, rfl, sx3, zx3⟩ := hx3)
        | (refine wpList_lay2 rfl rfl rfl rfl rfl rfl (.tmp 6) (.tmp 7) (.tmp 19) (.tmp 20) rfl rfl zx3 rfl rfl rfl rfl ?_))
      have l4 := layN_new w3 a3 c3 re ra (p := rp) zx3
      have hv := ptv_layN (e := re) (f := ra) sx3 zx3
      have fL : Frm [] w3 ((w3.alloc (.cells (pc (.slice a3 rp.ads.length c3) rp.b rp.l rp.s).toArray 26)).alloc (.cells #[.int .i64 re, .int .i64 ra] 40)) := ((Frm.refl [] w3).alloc _).alloc _
      have FV := Lib.hid (f3.trans fL (by simp))
      generalize (w3.alloc (.cells (pc (.slice a3 rp.ads.length c3) rp.b rp.l rp.s).toArray 26)).alloc (.cells #[.int .i64 re, .int .i64 ra] 40) = V at *
      generalize pv (.slice a3 rp.ads.length c3) rp.b rp.l rp.s = x3 at *
      obtain ⟨A3, rfl, hA3, -⟩ := hv.box
      have HA3 := Lib.hid (ptv_size hv)
      have L4 := Lib.hid l4.1
      have c4 := l4.2
      have HV := Lib.hid hv
      have N3 := Lib.hid n3
      clear l4 hv fL f3 n3 sx3 hA3
      have BV := Lib.hid (BK.out.keep0 FV.out)
      have FW := Lib.hid (Fk.out.trans FV.out (by simp))
      by_cases hre : re = 0
      · subst hre
        have TH := Lib.hid (BV.out.there hlt)
        go_upto_region 9 with (first
          | ((with_reducible (show wpList _ _ _ (Oper.mk _ (Op.load 26 _) _ _ _ _ :: _) _ _)); refine wpList_load_g (by rfl) 26 _ rfl _ rfl L4.out.load ?_)
          | ((with_reducible (show wpList _ _ _ (Oper.mk _ (Op.store 26 _ _) _ _ _ _ :: _) _ _)); refine wpList_store_mid rfl 26 (.tmp 28) (.tmp 26) rfl g (1 + k * 35) A3 rfl rfl (by rw [HA3.out.1]; exact TH.out) (by rw [i26, HA3.out.1]) HA3.out.2 ?_))
        have hNB := BV.out.set hlt A3 HA3.out.1 HA3.out.2
        have fset : Frm [g] V (V.setCells g (1 + k * 35) A3.toList) := Frm.setCells _ _ _ (Frm.refl [g] V) (.inl (by simp))
        have hlt9 := BK.out.lt
        have hnw : ∀ A ∈ As.set k A3, ∀ i ∈ ptBlk (.agg A), g < i := fun A hA i hi => by
          rcases List.mem_or_eq_of_mem_set hA with h | h
          · exact NK.out A h i hi
          · subst h; have := N3.out i hi; omega
        have hP9 := ((PK.out.keep0 FV.out).set (i := k) HV.out).keep fset (fun A hA i hi h => by have := hnw A hA i hi; simp at h; omega)
        rw [HSTEP.out] at hP9
        have NB9 := Lib.hid hNB
        have P9 := Lib.hid hP9
        have NW9 := Lib.hid hnw
        have F9 := Lib.hid (FW.out.trans fset (fun i hi => .inr (by simp at hi; rw [hi, HGG.out]; omega)))
        have HOK9 := Lib.hid (HOK1.out (by first | rfl | trivial))
        clear hNB fset hlt9 hnw hP9
        generalize V.setCells g (1 + k * 35) A3.toList = V9 at *
        go_wp2_with fail
        go_roundw
        case rel => exact ⟨k + 1, As.set k A3, by omega, by go_num, HOK9.out, NB9.out, P9.out, NW9.out, F9.out⟩
        case measure => simp [intOf]; omega
      · have HNO := Lib.hid (HOKN.out hre)
        have hne : (re == 0) = false := by simpa using hre
        have BR := Lib.hid ((B0.out.keep0 FW.out))
        clear hre
        go_wp2_with (first
          | ((with_reducible (show wpList _ _ _ (Oper.mk _ (Op.build 51 _) _ _ _ _ :: _) _ _)); refine wpList_val rfl (exec_bld51z rfl _) ?_)
          | ((with_reducible (show wpList _ _ _ (Oper.mk _ (Op.store 51 _ _) _ _ _ _ :: _) _ _)); refine wpList_store51 rfl (.tmp 2) (.tmp 24) rfl BR.out zAs_len zAs_rows rfl rfl ?_; intro V9 b9 f9))
        refine bodyPost_ret (results_cell_slot (p := 2) (q := 3) rfl _ _ rfl rfl b9.var) rfl ⟨_, by rw [HNO.out]; rfl, by rw [HNO.out]; exact ⟨zAs, rfl, ptsv_zero _, fun A hA i hi => by rw [List.eq_of_mem_replicate hA] at hi; simp [zA, ptBlk, pc, blk] at hi⟩, (F0.out.trans FW.out (by simp)).trans f9 (fun i hi => .inr (by simp at hi; omega))⟩
    · obtain rfl : k = 4 := by omega
      have HYES := Lib.hid (okB_yes HOK.out)
      have BR := Lib.hid ((B0.out.keep0 Fk.out))
      have hP4 := PK.out
      rw [nodePs_four] at hP4
      have P4 := Lib.hid hP4
      clear hP4
      go_wp2_with (first
        | ((with_reducible (show wpList _ _ _ (Oper.mk _ (Op.load 51 _) _ _ _ _ :: _) _ _)); refine wpList_load_g (by rfl) 51 _ rfl _ rfl BK.out.all ?_)
        | ((with_reducible (show wpList _ _ _ (Oper.mk _ (Op.store 51 _ _) _ _ _ _ :: _) _ _)); refine wpList_store51 rfl (.tmp 2) (.tmp 30) rfl BR.out BK.out.2.1 BK.out.2.2 rfl rfl ?_; intro V9 b9 f9))
      have hg9 : w.heap.size + 1 < g := by rw [← HGG.out]; exact B0.out.lt
      refine bodyPost_ret (results_cell_slot (p := 2) (q := 3) rfl _ _ rfl rfl b9.var) rfl ⟨_, by rw [HYES.out]; rfl, by rw [if_pos HYES.out]; exact ⟨As, by rw [← HND.out], P4.out.keep f9 (fun A hA i hi h => by have := NK.out A hA i hi; simp at h; omega), fun A hA i hi => by have := NK.out A hA i hi; omega⟩, (F0.out.trans Fk.out (by simp)).trans f9 (fun i hi => .inr (by simp at hi; omega))⟩
end Go.Proofs.Ytjjcjocomanohaa
