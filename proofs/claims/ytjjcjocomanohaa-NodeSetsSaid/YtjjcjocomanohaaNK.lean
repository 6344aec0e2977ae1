/-
  Contract of apart: a node's copy, whose lists are its own. No conditions but those that each theorem names.
-/
import Derived.Test.YtjjcjocomanohaaNH
namespace Go.Proofs.Ytjjcjocomanohaa
open Go.RowKit
set_option linter.unusedVariables false
set_option linter.unusedSimpArgs false
set_option maxRecDepth 100000

theorem nc_set0 {lv : Int} {As : List (Array Value)} (h : Rows35 As) {k : Nat} {A : Array Value} (hA : As[k]? = some A) (v : Value) : (nc lv As).set (1 + k * 35) v = nc lv (As.set k (A.setIfInBounds 0 v)) := by
  obtain ⟨hlt, he⟩ := List.getElem?_eq_some_iff.1 hA
  have hs := (h A (List.mem_of_getElem? hA)).1
  have ht := take35 h k (by omega)
  have e1 := nc_split (lv := lv) k A hA
  have e2 := nc_split (lv := lv) (As := As.set k (A.setIfInBounds 0 v)) k (A.setIfInBounds 0 v) (by rw [List.getElem?_set_self hlt])
  rw [List.take_set_of_le (Nat.le_refl _), List.drop_set_of_lt (by omega)] at e2
  rw [e2, e1]
  have hp : (Value.int .i64 lv :: ((As.take k).map Array.toList).flatten).length = 1 + k * 35 := by simp only [List.length_cons, ht]; omega
  generalize (Value.int .i64 lv :: ((As.take k).map Array.toList).flatten) = a at *
  generalize ((As.drop (k + 1)).map Array.toList).flatten = c at *
  rw [List.set_append_right _ _ (by omega), hp, Nat.sub_self, List.set_append_left _ _ (by simp; omega)]
  simp
theorem NB.set0 {w : World} {g : Nat} {lv : Int} {As : List (Array Value)} (h : NB w g lv As) {k : Nat} {A : Array Value} (hA : As[k]? = some A) (v : Value) (hv : v.oneCell' = true) : NB (w.setCell ⟨g, 1 + k * 35, none⟩ v) g lv (As.set k (A.setIfInBounds 0 v)) := by
  have hm := h.2.2 A (List.mem_of_getElem? hA)
  refine ⟨?_, by simpa using h.2.1, fun B hB => ?_⟩
  · rw [heap_setCell_same _ h.1]
    congr 2
    apply Array.ext'
    rw [Array.toList_setIfInBounds, nc_set0 h.2.2 hA v]
  · rcases List.mem_or_eq_of_mem_set hB with h' | h'
    · exact h.2.2 B h'
    · subst h'
      refine ⟨by simpa using hm.1, ?_⟩
      rw [Array.all_eq_true_iff_forall_mem]
      intro u hu
      rcases Array.mem_or_eq_of_mem_setIfInBounds hu with h2 | h2
      · exact (Array.all_eq_true_iff_forall_mem.1 hm.2) u h2
      · subst h2; exact hv
/-- The pointer with another list. -/
theorem ptv_set0 {w : World} {A : Array Value} {p : Pt} {w0 : World} (h0 : PtV w0 (.agg A) p) {a : Option Addr} {cap : Nat} {sp : List Ad} (h : SlA w (.slice a p.ads.length cap) p.ads sp) : PtV w (.agg (A.setIfInBounds 0 (.slice a p.ads.length cap))) p ∧ ptBlk (.agg (A.setIfInBounds 0 (.slice a p.ads.length cap))) = blk (.slice a p.ads.length cap) := by
  obtain ⟨a0, cap0, sp0, e, h2, h3⟩ := h0
  have e' : A = (pc (.slice a0 p.ads.length cap0) p.b p.l p.s).toArray := by simpa [pv] using e
  subst e'
  have e2 : (pc (.slice a0 p.ads.length cap0) p.b p.l p.s).toArray.setIfInBounds 0 (.slice a p.ads.length cap) = (pc (.slice a p.ads.length cap) p.b p.l p.s).toArray := by simp [pc]
  rw [e2]
  exact ⟨⟨a, cap, sp, rfl, h, h3⟩, ptBlk_pv _ _ _ _⟩
theorem ptv_list {w : World} {A : Array Value} {p : Pt} (h0 : PtV w (.agg A) p) : ∃ a cap sp, A[0]? = some (.slice a p.ads.length cap) ∧ SlA w (.slice a p.ads.length cap) p.ads sp := by
  obtain ⟨a0, cap0, sp0, e, h2, h3⟩ := h0
  have e' : A = (pc (.slice a0 p.ads.length cap0) p.b p.l p.s).toArray := by simpa [pv] using e
  subst e'
  exact ⟨a0, cap0, sp0, rfl, h2⟩
/-- A pointer's cells whose list is its own, in a block that is not older than b. -/
def OwnE (w : World) (A : Array Value) (p : Pt) (b : Nat) : Prop := ∃ a cap sp, A = (pc (.slice a p.ads.length cap) p.b p.l p.s).toArray ∧ OwnA 46 w (.slice a p.ads.length cap) p.ads sp ∧ p.s.length = 32 ∧ ∀ i ∈ blk (.slice a p.ads.length cap), b ≤ i
theorem OwnE.ptv {w : World} {A : Array Value} {p : Pt} {b : Nat} (h : OwnE w A p b) : PtV w (.agg A) p := by
  obtain ⟨a, cap, sp, rfl, h2, h3, h4⟩ := h
  exact ⟨a, cap, sp, rfl, h2.sl, h3⟩
theorem OwnE.new {w : World} {A : Array Value} {p : Pt} {b : Nat} (h : OwnE w A p b) : ∀ i ∈ ptBlk (.agg A), b ≤ i := by
  obtain ⟨a, cap, sp, rfl, h2, h3, h4⟩ := h
  intro i hi
  rw [show ptBlk (.agg (pc (.slice a p.ads.length cap) p.b p.l p.s).toArray) = blk (.slice a p.ads.length cap) from ptBlk_pv _ _ _ _] at hi
  exact h4 i hi
theorem OwnE.keep {w w' : World} {L : List Nat} {A : Array Value} {p : Pt} {b : Nat} (h : OwnE w A p b) (f : Frm L w w') (hL : ∀ i ∈ L, i < b) : OwnE w' A p b := by
  obtain ⟨a, cap, sp, e, h2, h3, h4⟩ := h
  exact ⟨a, cap, sp, e, h2.keep f (fun i hi hm => by have := h4 i hi; have := hL i hm; omega), h3, h4⟩
theorem OwnE.old {w : World} {A : Array Value} {p : Pt} {b c : Nat} (h : OwnE w A p b) (hc : c ≤ b) : OwnE w A p c := by
  obtain ⟨a, cap, sp, e, h2, h3, h4⟩ := h
  exact ⟨a, cap, sp, e, h2, h3, fun i hi => Nat.le_trans hc (h4 i hi)⟩
theorem own_set0 {w w0 : World} {A : Array Value} {p : Pt} (h0 : PtV w0 (.agg A) p) {a : Option Addr} {cap b : Nat} {sp : List Ad} (h : OwnA 46 w (.slice a p.ads.length cap) p.ads sp) (hb : ∀ i ∈ blk (.slice a p.ads.length cap), b ≤ i) : OwnE w (A.setIfInBounds 0 (.slice a p.ads.length cap)) p b := by
  obtain ⟨a0, cap0, sp0, e, h2, h3⟩ := h0
  have e' : A = (pc (.slice a0 p.ads.length cap0) p.b p.l p.s).toArray := by simpa [pv] using e
  subst e'
  exact ⟨a, cap, sp, by simp [pc], h, h3, hb⟩
/-- A node whose lists are its own, and new. -/
def NdO (b : Nat) (w : World) (x : Value) (n : Nd) : Prop := ∃ As, x = .agg (nc n.lv As).toArray ∧ PtsV w As n.ps ∧ ∀ (i : Nat) (A : Array Value) (p : Pt), As[i]? = some A → n.ps[i]? = some p → OwnE w A p b
theorem NdO.all {w : World} {As : List (Array Value)} {ps : List Pt} {b : Nat} (hp : PtsV w As ps) (h : ∀ (i : Nat) (A : Array Value) (p : Pt), As[i]? = some A → ps[i]? = some p → OwnE w A p b) : ∀ A ∈ As, ∀ i ∈ ptBlk (.agg A), b ≤ i := fun A hA => by
  obtain ⟨j, hj, rfl⟩ := List.getElem_of_mem hA
  have h4 := hp.1
  have h5 := hp.2.1
  exact (h j As[j] ps[j] (List.getElem?_eq_getElem hj) (List.getElem?_eq_getElem (by omega))).new
def ApRel (lv : Int) (As : List (Array Value)) (ps : List Pt) (g : Nat) (w0 : World) (cv : Value) (wr : World) : Prop := ∃ (k : Nat) (Bs : List (Array Value)), k ≤ 4 ∧ cv = .int .i64 k ∧ NB wr g lv Bs ∧ NB wr (g + 1) 0 zAs ∧
  (∀ (j : Nat) (A : Array Value) (p : Pt), j < k → Bs[j]? = some A → ps[j]? = some p → OwnE wr A p (g + 2)) ∧ (∀ j, k ≤ j → Bs[j]? = As[j]?) ∧ Frm [] w0 wr
set_option maxHeartbeats 8000000 in
theorem apart_any (x : Value) (n : Nd) (w : World) (hn : NdV w x n) (hl : ∀ p ∈ n.ps, p.ads.length ≤ 1000000) :
    Calls Try.prog 65 #[x] w fun e w' => ∃ y, e = .returned y ∧ NdO w.heap.size w' y n ∧ Frm [] w w' := by
  obtain ⟨N, rfl, hN, As, hps, hbx⟩ := hn.box
  have b0 : NB ((w.alloc (.cells N 51)).alloc (.cells (nc 0 zAs).toArray 51)) w.heap.size n.lv As := ((hbx w).2.keep0 ((Frm.refl [] _).alloc _))
  have f0 : Frm [] w ((w.alloc (.cells N 51)).alloc (.cells (nc 0 zAs).toArray 51)) := ((Frm.refl [] w).alloc _).alloc _
  have z0 : NB ((w.alloc (.cells N 51)).alloc (.cells (nc 0 zAs).toArray 51)) (w.heap.size + 1) 0 zAs := ⟨heap_alloc_at (by simp), zAs_len, zAs_rows⟩
  have HPS := Lib.hid hps
  have HL := Lib.hid hl
  clear hbx hn hps hl
  obtain ⟨lv, ps⟩ := n
  dsimp only at *
  go_enter Try.func65, Try.ntmps65
  go_upto_region 1 with ((with_reducible (show wpList _ _ _ (Oper.mk _ (Op.alloc 51) _ _ _ _ :: _) _ _)); refine wpList_val rfl (exec_alloc51 rfl _) ?_)
  try simp only [World.size_alloc]
  generalize (w.alloc (.cells N 51)).alloc (.cells (nc 0 zAs).toArray 51) = W at *
  have B0 := Lib.hid b0
  have F0 := Lib.hid f0
  have Z0 := Lib.hid z0
  clear b0 f0 z0
  go_wp2_with fail
  go_loopw [7] (ApRel lv As ps w.heap.size w) (fun cv _ => 4 - (intOf cv).toNat)
  case atStart => exact ⟨0, As, by omega, rfl, B0.out, Z0.out, fun j A p hj => by omega, fun j _ => rfl, F0.out⟩
  case round =>
    obtain ⟨k, Bs, hk, rfl, hb, hz, hd, hr, f⟩ := hrel
    have ZK := Lib.hid hz
    have BK := Lib.hid hb
    have DK := Lib.hid hd
    have RK := Lib.hid hr
    have Fk := Lib.hid f
    have FF := Lib.hid f
    clear hb hd hr f hz B0 Z0
    by_cases hlt : k < 4
    · obtain ⟨A, p, hA, hp, hv⟩ := HPS.out.get hlt
      have hBA : Bs[k]? = some A := by rw [RK.out k (Nat.le_refl _)]; exact hA
      have hpl := HL.out p (List.mem_of_getElem? hp)
      have HA2 := Lib.hid (ptv_size hv)
      have HV := Lib.hid hv
      have HBA := Lib.hid hBA
      have HPL := Lib.hid hpl
      have HP := Lib.hid hp
      have BX := Lib.hid (show Boxed (wr.drew.alloc (.cells A 26)) wr.heap.size (.agg A) p from ptv_boxed hv wr.drew)
      have hset : (wr.drew.alloc (.cells (pc (.slice none 0 0) 0 0 zs).toArray 26)).setRow wr.heap.size A = wr.drew.alloc (.cells A 26) := World.setRow_alloc_new _ _ _ _
      have HSET := Lib.hid hset
      obtain ⟨a, cap, sp, h0, hS⟩ := ptv_list hv
      have c15 : (wr.drew.alloc (.cells A 26)).cell? ⟨wr.heap.size, 0, none⟩ = some (.slice a p.ads.length cap) := by
        have h := cell_of_heap (heap_alloc_new wr.drew (.cells A 26)) 0
        rw [h0] at h
        exact h
      have H0 := Lib.hid h0
      have HSA := Lib.hid hS
      have FA := Lib.hid (show Frm [] wr (wr.drew.alloc (.cells A 26)) from (Frm.refl [] wr).drew.alloc _)
      clear hA hBA hpl hv hp hset h0 hS
      go_upto_region 3 with (fail)
      refine wp_region_held_drew (S := fun z => Frm [] wr z) (by kernel_rfl) ((Frm.refl [] wr).drew) (fun hHeld => ?_)
      refine wpAnyH_take (i := 0) (oi := { dst := some 9, op := Op.move (Operand.tmp 7), type := 3, pos := "node.go:73", after := #[], guard := none }) (v := ?_) rfl (by kernel_rfl) (by kernel_rfl) (by kernel_rfl) (fun _ _ _ h => h) (Or.inl ⟨by rfl, ?_⟩) hHeld ?_
      rotate_left
      focus (intro z hSw; clear hSw; go_simp; try with_reducible rfl)
      try simp only [Act.put, List.setIfInBounds_toArray, List.set_cons_zero, List.set_cons_succ]
      refine wpAnyH_take (i := 1) (oi := { dst := some 10, op := Op.nilCheck (Operand.tmp 5), type := 0, pos := "node.go:73", after := #[{ on := 5, ground := Ground.gcOnly Departure.lateStores }], guard := none }) (v := ?_) rfl (by kernel_rfl) (by kernel_rfl) (by kernel_rfl) (fun _ _ _ h => h) (Or.inl ⟨by rfl, ?_⟩) hHeld ?_
      rotate_left
      focus (intro z hSw; clear hSw; go_simp; try with_reducible rfl)
      try simp only [Act.put, List.setIfInBounds_toArray, List.set_cons_zero, List.set_cons_succ]
      refine wpAnyH_take (i := 2) (oi := { dst := some 11, op := Op.indexAddr 49 (Operand.tmp 10) (Operand.tmp 7), type := 0, pos := "node.go:73", after := #[{ on := 1, ground := Ground.data }, { on := 5, ground := Ground.gcOnly Departure.lateStores }], guard := none }) (v := ?_) rfl (by kernel_rfl) (by kernel_rfl) (by kernel_rfl) (fun _ _ _ h => h) (Or.inl ⟨by rfl, ?_⟩) hHeld ?_
      rotate_left
      focus (intro z hSw; clear hSw; go_simp; try with_reducible rfl)
      try simp only [Act.put, List.setIfInBounds_toArray, List.set_cons_zero, List.set_cons_succ]
      refine wpAnyH_take (i := 3) (oi := { dst := some 12, op := Op.load 26 (Operand.tmp 11), type := 26, pos := "node.go:73", after := #[{ on := 2, ground := Ground.data }, { on := 5, ground := Ground.gcOnly Departure.lateStores }], guard := none }) rfl (by kernel_rfl) (by kernel_rfl) (by kernel_rfl) (fun _ _ _ h => h) (yieldsIf_ld (by rfl) 26 _ rfl _ rfl (fun z hSw => (BK.out.keep0 hSw).load HBA.out)) hHeld ?_
      try simp only [Act.put, List.setIfInBounds_toArray, List.set_cons_zero, List.set_cons_succ]
      refine wpAnyH_ready (rs := [4]) (by kernel_rfl) (by simp) ?_
      refine AllReadyH.cons (o := { dst := some 4, op := Op.alloc 26, type := 0, pos := "node.go:73", after := #[], guard := none }) rfl (fun K hK => ?_) AllReadyH.nil
      refine step_val (v := .pointer (some ⟨wr.heap.size, 0, none⟩)) (w' := wr.drew.alloc (.cells (pc (.slice none 0 0) 0 0 zs).toArray 26)) rfl (exec_alloc26z rfl wr.drew) ?_
      refine hK.out _ _ ?_ (fun hNext => ?_)
      · exact hHeld.alloc _
      clear hK K hHeld
      have hHeld := hNext
      clear hNext
      try simp only [Act.put, List.setIfInBounds_toArray, List.set_cons_zero, List.set_cons_succ]
      refine wpAnyH_take (i := 5) (oi := { dst := some 3, op := Op.assign (Operand.tmp 9), type := 3, pos := "node.go:73", after := #[{ on := 0, ground := Ground.data }, { on := 0, ground := Ground.phase }, { on := 1, ground := Ground.textOnly Departure.lateStores }, { on := 2, ground := Ground.textOnly Departure.lateStores }, { on := 3, ground := Ground.textOnly Departure.lateStores }, { on := 4, ground := Ground.phase }], guard := none }) (v := ?_) rfl (by kernel_rfl) (by kernel_rfl) (by kernel_rfl) (fun _ _ _ h => h) (Or.inl ⟨by rfl, ?_⟩) hHeld ?_
      rotate_left
      focus (intro z hSw; clear hSw; go_simp; try with_reducible rfl)
      try simp only [Act.put, List.setIfInBounds_toArray, List.set_cons_zero, List.set_cons_succ]
      refine wpAnyH_ready (rs := [6]) (by kernel_rfl) (by simp) ?_
      refine AllReadyH.cons (o := { dst := none, op := Op.store 26 (Operand.tmp 4) (Operand.tmp 12), type := 0, pos := "node.go:73", after := #[{ on := 4, ground := Ground.data }, { on := 3, ground := Ground.data }, { on := 5, ground := Ground.chain }, { on := 0, ground := Ground.phase }, { on := 1, ground := Ground.phase }, { on := 2, ground := Ground.phase }, { on := 3, ground := Ground.phase }, { on := 4, ground := Ground.phase }, { on := 5, ground := Ground.phase }], guard := none }) rfl (fun K hK => ?_) AllReadyH.nil
      rw [if_pos (by rfl)]
      refine wp_store_row 26 (.tmp 4) (.tmp 12) rfl wr.heap.size A rfl rfl 26 _ (heap_alloc_new wr.drew _) (by rw [i26, HA2.out.1]) (by rw [pc_size, HA2.out.1]; rfl) HA2.out.2 ?_
      refine hK.out _ _ ?_ (fun hNext => ?_)
      · exact hHeld.trans (L' := [wr.heap.size]) ⟨rfl, rfl, rfl, by simp [World.setRow], fun k hk hn => setRow_other _ _ k _ (by simpa using hn)⟩ (by simp)
      clear hK K hHeld
      have hHeld := hNext
      clear hNext
      try simp only [Act.put, List.setIfInBounds_toArray, List.set_cons_zero, List.set_cons_succ]
      refine wpAnyH_done (by kernel_rfl) ?_ _
      rw [HSET.out]
      clear hHeld HSET
      have HVL := Lib.hid (show w.heap.size + 1 < (wr.drew.alloc (.cells A 26)).heap.size from Nat.lt_of_lt_of_le ZK.out.lt FA.out.size)
      generalize wr.drew.alloc (.cells A 26) = V at *
      go_upto_region 5 with (at_builtin; refine wpList_append_ads AT (OwnA.nil 46 V) (HSA.out.keep (FF.out.trans FA.out (by simp)) (by simp)) (by have := HPL.out; simp; omega) rfl (.const (.slice none 0 0)) (.tmp 15) rfl rfl rfl ?_; intro a' cap' w' sp' o1 f1 n1; have bw := BK.out.keep0 (FA.out.trans f1 (by simp [blk])); have c20 : w'.cell? ⟨w.heap.size, 1 + k * 35, none⟩ = some (.slice a p.ads.length cap) := (by have h := bw.range HBA.out 0 _ (by simpa using H0.out); simpa using h); have z20 : w'.frozen? ⟨w.heap.size, 1 + k * 35, none⟩ = false := frozen_of_heap bw.1 _)
      have o2 : OwnA 46 w' (.slice a' p.ads.length cap') p.ads sp' := by simpa using o1
      have n2 : ∀ i ∈ blk (.slice a' p.ads.length cap'), V.heap.size ≤ i := fun i hi => by
        have h := n1 i (by simpa using hi)
        rcases h with h | h
        · simp [blk] at h
        · exact h
      have f2 : Frm [] V w' := by simpa [blk] using f1
      obtain ⟨q1, q2⟩ := ptv_set0 HV.out o2.sl
      have NB2 := bw.set0 HBA.out (.slice a' p.ads.length cap') rfl
      have fs : Frm [w.heap.size] w' (w'.setCell ⟨w.heap.size, 1 + k * 35, none⟩ (.slice a' p.ads.length cap')) := (Frm.refl _ w').setCell _ _ (by simp)
      have hgi : ∀ i ∈ ptBlk (.agg (A.setIfInBounds 0 (.slice a' p.ads.length cap'))), w.heap.size + 1 < i := fun i hi => by rw [q2] at hi; have := n2 i hi; have := HVL.out; omega
      have q3 := q1.keep fs (fun i hi h => by have := hgi i hi; simp at h; omega)
      have fW : Frm [] W (w'.setCell ⟨w.heap.size, 1 + k * 35, none⟩ (.slice a' p.ads.length cap')) ∨ True := .inr trivial
      have F0k : Frm [] wr w' := FA.out.trans f2 (by simp)
      have hblt : k < Bs.length := by have := BK.out.2.1; omega
      have own3 := (own_set0 (b := w.heap.size + 2) HV.out o2 (fun i hi => by have := n2 i hi; have := HVL.out; omega)).keep fs (by simp)
      have D2 : ∀ (j : Nat) (A' : Array Value) (p' : Pt), j < k + 1 → (Bs.set k (A.setIfInBounds 0 (.slice a' p.ads.length cap')))[j]? = some A' → ps[j]? = some p' → OwnE (w'.setCell ⟨w.heap.size, 1 + k * 35, none⟩ (.slice a' p.ads.length cap')) A' p' (w.heap.size + 2) := fun j A' p' hj h1 h2 => by
        by_cases e : k = j
        · subst e
          rw [List.getElem?_set_self hblt] at h1
          rw [HP.out] at h2
          cases h1
          cases h2
          exact own3
        · rw [List.getElem?_set_ne e] at h1
          exact ((DK.out j A' p' (by omega) h1 h2).keep F0k (by simp)).keep fs (by simp)
      have R2 : ∀ j, k + 1 ≤ j → (Bs.set k (A.setIfInBounds 0 (.slice a' p.ads.length cap')))[j]? = As[j]? := fun j hj => by
        rw [List.getElem?_set_ne (by omega)]
        exact RK.out j (by omega)
      have DD := Lib.hid D2
      have RR := Lib.hid R2
      have NN := Lib.hid NB2
      have ZN := Lib.hid ((ZK.out.keep0 F0k).keep fs (by simp))
      have F9 := Lib.hid ((FF.out.trans F0k (by simp)).setCell ⟨w.heap.size, 1 + k * 35, none⟩ (.slice a' p.ads.length cap') (.inr (Nat.le_refl _)))
      clear own3 D2 R2 NB2 fs q1 q2 q3 fW o1 o2 n1 n2 f1 f2 hgi F0k c15 c20 z20 bw
      generalize w'.setCell ⟨w.heap.size, 1 + k * 35, none⟩ (.slice a' p.ads.length cap') = V9 at *
      go_wp2_with fail
      go_roundw
      case rel => exact ⟨k + 1, _, by omega, by go_num, NN.out, ZN.out, DD.out, RR.out, F9.out⟩
      case measure => simp [intOf]; omega
    · obtain rfl : k = 4 := by omega
      have hO : ∀ (i : Nat) (A : Array Value) (p : Pt), Bs[i]? = some A → ps[i]? = some p → OwnE wr A p (w.heap.size + 2) := fun i A p h1 h2 => DK.out i A p (by have := (List.getElem?_eq_some_iff.1 h1).1; have := BK.out.2.1; omega) h1 h2
      have hP : PtsV wr Bs ps := ⟨BK.out.2.1, HPS.out.2.1, fun i A p h1 h2 => (hO i A p h1 h2).ptv⟩
      have HO := Lib.hid hO
      have HPP := Lib.hid hP
      have ZL := Lib.hid ZK.out.lt
      clear hP hO
      go_wp2_with (first
        | ((with_reducible (show wpList _ _ _ (Oper.mk _ (Op.load 51 _) _ _ _ _ :: _) _ _)); refine wpList_load_g (by rfl) 51 _ rfl _ rfl BK.out.all ?_)
        | ((with_reducible (show wpList _ _ _ (Oper.mk _ (Op.store 51 _ _) _ _ _ _ :: _) _ _)); refine wpList_store51 rfl (.tmp 2) (.tmp 21) rfl ZK.out BK.out.2.1 BK.out.2.2 rfl rfl ?_; intro V9 b9 f9))
      refine bodyPost_ret (v := .agg (nc lv Bs).toArray) (results_cell_row (p := 2) rfl _ _ (w.heap.size + 1) 51 _ (0, 0) _ rfl b9.1 Try.underlying51 rfl (by rw [i51]; simp [nc_length b9.2.2 b9.2.1])) rfl ⟨_, rfl, ⟨Bs, rfl, ?_, fun i A p h1 h2 => ((HO.out i A p h1 h2).keep f9 (by simp)).old (by omega)⟩, FF.out.trans f9 (fun i hi => .inr (by simp at hi; omega))⟩
      exact HPP.out.keep f9 (fun A hA i hi h => by have := NdO.all HPP.out HO.out A hA i hi; simp at h; omega)
end Go.Proofs.Ytjjcjocomanohaa
