/-
  Contracts of the document's writer: size and put; no conditions but those that each theorem names.
-/
import Derived.Test.YtappmjophnhdaaaI
namespace Go.Proofs.Ytappmjophnhdaaa
open Go.RowKit
set_option linter.unusedVariables false
set_option linter.unusedSimpArgs false

/-- The blocks that a slice can be read from: none, if it has no room. -/
def blkR : Value → List Nat
  | .slice (some a) _ cap => if cap = 0 then [] else [a.block]
  | _ => []
theorem blkR_sub {v : Value} {k : Nat} (h : k ∈ blkR v) : k ∈ blk v := by
  cases v with
  | slice a n cap => cases a with
    | none => simp [blkR] at h
    | some a => simp only [blkR] at h; split at h <;> simp_all [blk]
  | _ => simp [blkR] at h
theorem SlB.keepR {w w' : World} {v : Value} {l sp : List UInt8} {L : List Nat} (h : SlB w v l sp) (f : Frm L w w') (hn : ∀ k ∈ blkR v, k ∉ L) : SlB w' v l sp := by
  obtain ⟨h1, h2 | h2 | ⟨b, off, cap, h2, h3, h4, h5, h6⟩⟩ := h
  · exact ⟨h1, .inl h2⟩
  · exact ⟨h1, .inr (.inl h2)⟩
  · subst h2
    by_cases hc : cap = 0
    · refine ⟨h1, .inr (.inr ⟨b, off, cap, rfl, h3, h4, h5, fun i u hu => ?_⟩)⟩
      have : (bvs l ++ bvs sp) = [] := List.eq_nil_of_length_eq_zero (by simpa [hc] using h5)
      rw [this] at hu
      simp at hu
    · exact ⟨h1, .inr (.inr ⟨b, off, cap, rfl, h3, h4, h5, fun i u hu => f.cell (h6 i u hu) (hn b (by simp [blkR, hc]))⟩)⟩
/-- The document's writer: its bytes, its error. -/
def Rw (w : World) (b : Nat) (v : Value) (l sp : List UInt8) (e : Int) : Prop :=
  w.heap[b]? = some (.cells #[v, .int .i64 e] 29 (0, 0)) ∧ OwnB 5 w v l sp ∧ b ∉ blk v
theorem Rw.keep {w w' : World} {bw : Nat} {v : Value} {l sp : List UInt8} {e : Int} {L : List Nat} (h : Rw w bw v l sp e) (f : Frm L w w') (h1 : bw ∉ L) (h2 : ∀ k ∈ blk v, k ∉ L) : Rw w' bw v l sp e :=
  ⟨f.heap h.1 h1, h.2.1.keep f h2, h.2.2⟩
theorem Rw.lt {w : World} {bw : Nat} {v : Value} {l sp : List UInt8} {e : Int} (h : Rw w bw v l sp e) : ∀ k ∈ bw :: blk v, k < w.heap.size := by
  intro k hk
  rcases List.mem_cons.1 hk with rfl | hk
  · exact lt_heap h.1
  · exact h.2.1.lt k hk
def RwTo (w : World) (bw : Nat) (v : Value) (s : List UInt8 × Int) (w' : World) : Prop :=
  ∃ v' sp', Rw w' bw v' s.1 sp' s.2 ∧ Frm (bw :: blk v) w w' ∧ ∀ i ∈ blk v', i ∈ blk v ∨ w.heap.size ≤ i
theorem RwTo.same {w : World} {bw : Nat} {v : Value} {l sp : List UInt8} {e : Int} (h : Rw w bw v l sp e) : RwTo w bw v (l, e) w := ⟨v, sp, h, Frm.refl _ _, fun _ hi => .inl hi⟩
theorem RwTo.drewN {w w' : World} {bw : Nat} {v : Value} {s : List UInt8 × Int} (h : RwTo w bw v s w') (n : Nat) : RwTo w bw v s (w'.drewN n) := by
  obtain ⟨v', sp', h1, h2, h3⟩ := h
  exact ⟨v', sp', h1.keep ((Frm.refl [] _).drewN n) (by simp) (by simp), h2.drewN n, h3⟩
theorem RwTo.behind {w w1 w' : World} {bw : Nat} {v : Value} {s : List UInt8 × Int} (f : Frm [] w w1) (h : RwTo w1 bw v s w') : RwTo w bw v s w' := by
  obtain ⟨v', sp', h1, h2, h3⟩ := h
  exact ⟨v', sp', h1, (f.mono (by simp)).trans h2 (fun i hi => .inl hi), fun i hi => (h3 i hi).imp id (fun h => Nat.le_trans f.size h)⟩
theorem size_any (n : Int) (w : World) :
    Calls Try.prog 74 #[.int .i64 n] w fun e w' => e = .returned (.bool (isSizeB n)) ∧ w' = w := by
  by_cases h1 : 1 ≤ n
  · have hb : isSizeB n = decide (n ≤ 7) := by simp [isSizeB, h1]
    rw [hb]; clear hb
    go_enter Try.func74, Try.ntmps74
    go_wp2
    go_ret
    exact ⟨rfl, rfl⟩
  · have hb : isSizeB n = false := by simp [isSizeB, h1]
    rw [hb]; clear hb
    go_enter Try.func74, Try.ntmps74
    go_wp2
    go_ret
    exact ⟨rfl, rfl⟩
set_option maxHeartbeats 1000000 in
theorem put_err (bw : Nat) (v x : Value) (l sp m msp : List UInt8) (E e : Int) (w : World) (hW : Rw w bw v l sp E) (hS : SlB w x m msp) (he : e ≠ 0) :
    Calls Try.prog 75 #[.pointer (some ⟨bw, 0, none⟩), x, .int .i64 e] w fun r w' => r = .returned (.tuple #[]) ∧ RwTo w bw v (wStep (l, E) fun l => (l, e)) w' := by
  obtain ⟨a, cap, rfl, _, _⟩ := hS.form
  have hW' := hW
  obtain ⟨h1, h2, h3⟩ := hW'
  have c1 : w.cell? ⟨bw, 1, none⟩ = some (.int .i64 E) := by rw [cell_of_heap h1]; rfl
  have z1 : w.frozen? ⟨bw, 1, none⟩ = false := frozen_of_heap h1 1
  have H1 := Lib.hid h1
  clear h1
  by_cases hE : E = 0
  · subst hE
    have hq : (e == 0) = false := by simpa using he
    clear he
    go_enter Try.func75, Try.ntmps75
    go_wp2
    go_end0
    refine ⟨rfl, v, sp, ⟨?_, ?_, h3⟩, (Frm.refl _ _).setCell _ _ (by simp), fun i hi => .inl hi⟩
    · rw [heap_setCell_same _ H1.out]; rfl
    · exact h2.keep ((Frm.refl [bw] _).setCell _ _ (by simp)) (fun k hk => by simp; rintro rfl; exact h3 hk)
  · have hq : (E != 0) = true := by simpa using hE
    have hr : (wStep (l, E) fun l => (l, e)) = (l, E) := by simp [wStep, hE]
    rw [hr]
    have hw := RwTo.same hW
    clear hE hr he
    go_enter Try.func75, Try.ntmps75
    go_wp2
    refine bodyPost_ret (results_none rfl _ _ _) rfl ?_
    exact ⟨rfl, hw⟩
set_option maxHeartbeats 1000000 in
theorem put_ok (bw : Nat) (v x : Value) (l sp m msp : List UInt8) (E : Int) (w : World) (hW : Rw w bw v l sp E) (hS : SlB w x m msp) (hx : bw ∉ blkR x) (hl : l.length ≤ 65536) (hm : m.length ≤ 1000000) :
    Calls Try.prog 75 #[.pointer (some ⟨bw, 0, none⟩), x, .int .i64 0] w fun r w' => r = .returned (.tuple #[]) ∧ RwTo w bw v (wStep (l, E) (addStep · m)) w' := by
  obtain ⟨a, cap, rfl, _, _⟩ := hS.form
  have hW' := hW
  obtain ⟨h1, h2, h3⟩ := hW'
  obtain ⟨a2, cap2, rfl, hc1, hc2⟩ := h2.sl.form
  have c0 : w.cell? ⟨bw, 0, none⟩ = some (.slice a2 l.length cap2) := by rw [cell_of_heap h1]; rfl
  have c1 : w.cell? ⟨bw, 1, none⟩ = some (.int .i64 E) := by rw [cell_of_heap h1]; rfl
  have z1 : w.frozen? ⟨bw, 1, none⟩ = false := frozen_of_heap h1 1
  have H1 := Lib.hid h1
  have hw := RwTo.same hW
  clear h1 hW
  by_cases hE : E = 0
  · subst hE
    by_cases hfit : l.length + m.length ≤ 65536
    · have hr : wStep (l, 0) (addStep · m) = (l ++ m, 0) := by simp [wStep, addStep, hfit]
      rw [hr]
      have hq : ¬ 65536 < (l.length : Int) + m.length := by omega
      have hcell0 : (w.setCell ⟨bw, 1, none⟩ (.int .i64 0)).cell? ⟨bw, 0, none⟩ = some (.slice a2 l.length cap2) := by rw [World.cell?_setCell_other _ _ _ _ (by simp)]; exact c0
      have f0 : Frm [bw] w (w.setCell ⟨bw, 1, none⟩ (.int .i64 0)) := (Frm.refl [bw] _).setCell _ _ (by simp)
      have o0 := h2.keep f0 (fun k hk => by simp; rintro rfl; exact h3 hk)
      have g0 := Lib.hid (heap_setCell_same (i := 1) (.int .i64 0) H1.out)
      clear hr hw hfit
      have s0 := hS.keepR f0 (fun k hk => by simp; rintro rfl; exact hx hk)
      have hlt := lt_heap H1.out
      go_enter Try.func75, Try.ntmps75
      go_wp2_with (at_builtin; refine wpList_append_bytes BT o0 s0 (by omega) rfl (.tmp 34) (.tmp 35) rfl rfl rfl ?_; intro a' cap' w' sp' o1 f1 b1; have d0 := f1.heap g0.out h3; have d1 : w'.cell? ⟨bw, 0, none⟩ = some (.slice a2 l.length cap2) := (by rw [cell_of_heap d0]; rfl); have d2 : w'.frozen? ⟨bw, 0, none⟩ = false := frozen_of_heap d0 0; have D0 := Lib.hid d0; clear d0)
      go_end0
      have hne : bw ∉ blk (.slice a' (l.length + m.length) cap') := by
        intro hm
        rcases b1 _ hm with h | h
        · exact h3 h
        · simp at h; omega
      refine ⟨rfl, _, sp', ⟨?_, ?_, hne⟩, ?_, by simpa using b1⟩
      · rw [heap_setCell_same _ D0.out]; rfl
      · exact o1.keep ((Frm.refl [bw] _).setCell _ _ (by simp)) (fun k hk => by simp; rintro rfl; exact hne hk)
      · exact ((f0.mono (by simp)).trans f1 (fun i hi => .inl (List.mem_cons_of_mem _ hi))).setCell _ _ (by simp)
    · have hr : wStep (l, 0) (addStep · m) = (l, 3) := by simp [wStep, addStep, hfit]
      rw [hr]
      have hq : 65536 < (l.length : Int) + m.length := by omega
      clear hr hw hfit
      go_enter Try.func75, Try.ntmps75
      go_wp2
      go_end0
      refine ⟨rfl, _, sp, ⟨?_, ?_, h3⟩, (Frm.refl _ _).setCell _ _ (by simp), fun i hi => .inl hi⟩
      · rw [heap_setCell_same _ H1.out]; rfl
      · exact h2.keep ((Frm.refl [bw] _).setCell _ _ (by simp)) (fun k hk => by simp; rintro rfl; exact h3 hk)
  · have hq : (E != 0) = true := by simpa using hE
    have hr : (wStep (l, E) (addStep · m)) = (l, E) := by simp [wStep, hE]
    rw [hr]
    clear hE hr
    go_enter Try.func75, Try.ntmps75
    go_wp2
    refine bodyPost_ret (results_none rfl _ _ _) rfl ?_
    exact ⟨rfl, hw⟩
end Go.Proofs.Ytappmjophnhdaaa
