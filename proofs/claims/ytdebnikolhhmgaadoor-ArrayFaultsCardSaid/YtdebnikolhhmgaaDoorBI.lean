/-
  New. No conditions but those that each theorem names.
-/
import Derived.Test.YtdebnikolhhmgaaDoorBH
import Derived.Test.YtdebnikolhhmgaaDoorKL
import Derived.OrdersHeld
import Derived.Deep.RegionLaw
namespace Go.Proofs.YtdebnikolhhmgaaDoor
open Go.RowKit
set_option linter.unusedVariables false
set_option linter.unusedSimpArgs false
set_option maxRecDepth 100000

open Kr (OwnE SlE Enco RowTys)
theorem tysD : RowTys Tryd.prog 30 86 4 48 := ⟨Tryd.underlying30, .agg #[.int .u8 0, .int .i64 0, .int .i64 0, .slice none 0 0], by kernel_rfl, by kernel_rfl⟩
/-- A device more. -/
theorem ArrL.addDev {lo : Nat} {w w' : World} {g : Nat} {s : St} {dv rv : Value} {drs : List Dr} {dsp : List Value} {rcs : List CelT} {rsp : List Value} (h : ArrL lo w g s dv rv drs dsp rcs rsp) (q : Dr) (d : Dv) (dv' : Value) (dsp' : List Value)
    (f : Frm (g :: blk dv) w w') (hr : w'.heap[g]? = some (.cells (arc g s dv' rv).toArray 35 (0, 0))) (ho : OwnE eD 4 86 w' dv' (drs ++ [q]) dsp') (hb : ∀ k ∈ blk dv', k ∈ blk dv ∨ w.heap.size ≤ k)
    (e1 : q.1 = d.f) (e2 : q.2.1 = d.str) (e3 : q.2.2.1 = d.fl) (hS : SecP lo w' q.2.2.2.1 d.secs) (hfr : ∀ k ∈ blk q.2.2.2.1, w.heap.size ≤ k) (hfb : d.f < 256 ∧ 0 ≤ d.fl ∧ d.fl ≤ 9223372036854775807 ∧ ((d.f &&& 8) ≠ 0 → 0 < d.fl)) :
    ArrL lo w' g { s with devs := s.devs ++ [d] } dv' rv (drs ++ [q]) dsp' rcs rsp ∧ Fa lo w w' := by
  have hob := own_blk h.own
  have hall : ∀ k ∈ g :: blk dv, ∃ cs T, w.heap[k]? = some (.cells cs T (0, 0)) ∧ (T = 35 ∨ T = 86) := fun k hk => by
    rcases List.mem_cons.1 hk with rfl | hk
    · exact ⟨_, _, h.rcd, .inl rfl⟩
    · obtain ⟨cs, hc⟩ := hob k hk; exact ⟨cs, 86, hc, .inr rfl⟩
  have hfa : Fa lo w w' := Fa.of_frm f fun k hk => by
    obtain ⟨cs, T, hc, ht⟩ := hall k hk
    refine ⟨?_, cs, T, _, hc, by rcases ht with rfl | rfl <;> decide⟩
    rcases List.mem_cons.1 hk with rfl | hk
    · exact h.glo
    · exact h.dlo k hk
  have hno : ∀ {T k : Nat} {n : Nat} {v : Value} {xs sp : List Value}, Own T k w v n xs sp → T ≠ 35 → T ≠ 86 → ∀ j ∈ blk v, j ∉ g :: blk dv := fun ho h1 h2 j hj hm => by
    obtain ⟨cs, T', hc, ht⟩ := hall j hm
    obtain ⟨cs', hc'⟩ := own_blk ho j hj
    rw [hc] at hc'; cases hc'
    rcases ht with rfl | rfl
    · exact h1 rfl
    · exact h2 rfl
  have hold : ∀ (i : Nat) (p : Dr), drs[i]? = some p → ∀ k ∈ blk p.2.2.2.1, k < w.heap.size := fun i p hp k hk => by
    have hi : i < s.devs.length := by rw [← h.dlen]; exact (List.getElem?_eq_some_iff.1 hp).1
    obtain ⟨_, _, _, scs, csp, o1, _⟩ := h.dat i p _ hp (List.getElem?_eq_getElem hi)
    exact o1.lt k hk
  refine ⟨⟨hr, h.glo, ho, fun k hk => ?_, by simp [h.dlen], fun i p d' hp hd => ?_, fun d' hd => ?_, fun i j p p' hij hp hp' => ?_, h.row.keep f (hno h.row (by decide) (by decide)), h.rlo, h.rlen, fun j c x hc hx => by obtain ⟨gw, e1, e2⟩ := h.rat j c x hc hx; exact ⟨gw, e1, hfa.typ _ _ _ _ e2 (by decide)⟩⟩, hfa⟩
  · rcases hb k hk with hk | hk
    · exact h.dlo k hk
    · have := h.lo_le; omega
  · simp only at hd
    by_cases hi : i < drs.length
    · rw [List.getElem?_append_left hi] at hp
      rw [List.getElem?_append_left (by rw [← h.dlen]; exact hi)] at hd
      obtain ⟨k1, k2, k3, k4⟩ := h.dat i p d' hp hd
      refine ⟨k1, k2, k3, ?_⟩
      obtain ⟨scs, csp, o1, o2, o3, o4⟩ := id k4
      exact k4.apart f hfa (hno o1 (by decide) (by decide))
    · have hi3 : i = drs.length := by
        have := (List.getElem?_eq_some_iff.1 hp).1
        simp at this
        omega
      subst hi3
      rw [List.getElem?_append_right (Nat.le_refl _), Nat.sub_self] at hp
      rw [h.dlen, List.getElem?_append_right (Nat.le_refl _), Nat.sub_self] at hd
      cases hp; cases hd
      exact ⟨e1, e2, e3, hS⟩
  · rcases List.mem_append.1 hd with hd | hd
    · exact h.fb d' hd
    · rw [List.mem_singleton.1 hd]; exact hfb
  · have key : ∀ (i : Nat) (p : Dr), (drs ++ [q])[i]? = some p → (i < drs.length ∧ drs[i]? = some p) ∨ (i = drs.length ∧ p = q) := fun i p hp => by
      by_cases hi : i < drs.length
      · rw [List.getElem?_append_left hi] at hp; exact .inl ⟨hi, hp⟩
      · have hi3 : i = drs.length := by
          have := (List.getElem?_eq_some_iff.1 hp).1
          simp at this
          omega
        subst hi3
        rw [List.getElem?_append_right (Nat.le_refl _), Nat.sub_self] at hp
        cases hp
        exact .inr ⟨rfl, rfl⟩
    rcases key i p hp with ⟨a1, a2⟩ | ⟨a1, rfl⟩
    · rcases key j p' hp' with ⟨b1, b2⟩ | ⟨b1, rfl⟩
      · exact h.dis i j p p' hij a2 b2
      · intro k hk hm
        have := hold i p a2 k hk
        have := hfr k hm
        omega
    · rcases key j p' hp' with ⟨b1, b2⟩ | ⟨b1, rfl⟩
      · intro k hk hm
        have := hold j p' b2 k hm
        have := hfr k hk
        omega
      · omega
def zDv (n : Nat) : Dv := ⟨0, 0, 0, List.replicate n zSc⟩
def newS (n k : Nat) : St := ⟨n, List.replicate k (zDv n), [], false, 0, false, 0⟩
theorem SecP.blank {lo : Nat} {w : World} {gs n : Nat} (h : OwnE eS 257 96 w (.slice (some ⟨gs, 0, none⟩) n n) (List.replicate n zS) []) (hl : lo ≤ gs) : SecP lo w (.slice (some ⟨gs, 0, none⟩) n n) (List.replicate n zSc) :=
  ⟨_, _, h, by simpa [blk] using hl, by simp, fun i q c hq hc => by
    obtain ⟨_, rfl⟩ := List.getElem?_eq_some_iff.1 hq
    obtain ⟨_, rfl⟩ := List.getElem?_eq_some_iff.1 hc
    rw [List.getElem_replicate, List.getElem_replicate]
    exact ⟨rfl, .inl ⟨rfl, rfl⟩⟩⟩
def bDr (gs n : Nat) : Dr := (0, 0, 0, ⟨.slice (some ⟨gs, 0, none⟩) n n, rfl⟩)
theorem flt_bDr (gs n : Nat) : Kr.flt eD [bDr gs n] = [.int .u8 0, .int .i64 0, .int .i64 0, .slice (some ⟨gs, 0, none⟩) n n] := rfl
def NwRel (lo g n k0 : Nat) (w0 : World) (cv : Value) (wr : World) : Prop :=
  ∃ (k : Nat) (dv : Value) (drs : List Dr) (dsp : List Value), k ≤ k0 ∧ cv = .int .i64 k ∧ ArrL lo wr g (newS n k) dv (.slice none 0 0) drs dsp [] [] ∧ Fa lo w0 wr
section
variable {lo : Nat} {w : World} {sn : Nat → Addr}
def NewP (lo : Nat) (d n : Int) (w : World) (e : Ending) (w' : World) : Prop :=
  (if (2 ≤ d ∧ d ≤ 8) ∧ (8 ≤ n ∧ n ≤ 4096) then ∃ g, e = .returned (.tuple #[.pointer (some ⟨g, 0, none⟩), .int .i64 0]) ∧ Arr lo w' g (newS n.toNat d.toNat) else e = .returned (.tuple #[.pointer none, .int .i64 (code 0)])) ∧ Fa lo w w'
set_option maxHeartbeats 8000000 in
theorem New_yes (d n : Nat) (hs : Sn w lo sn) (hlo : lo ≤ w.heap.size) (hd : 2 ≤ d ∧ d ≤ 8) (hn : 8 ≤ n ∧ n ≤ 4096) :
    Calls Tryd.prog 31 #[.int .i64 d, .int .i64 n] w fun e w' => ∃ g, e = .returned (.tuple #[.pointer (some ⟨g, 0, none⟩), .int .i64 0]) ∧ Arr lo w' g (newS n d) ∧ Fa lo w w' := by
  have cg := hs.v 0 (by omega)
  have hu := unless_true txA (.iface 126 (.pointer (some (sn 0)))) w
  unfold txA at hu
  have HN := Lib.hid hn
  have HD := Lib.hid hd
  have hwi : ∀ W, Calls Tryd.prog 53 #[.int .i64 d, .int .i64 2, .int .i64 8] W fun e w' => e = .returned (.bool true) ∧ w' = W := fun W => (within_any d 2 8 W).mono (by
    rintro e w' ⟨rfl, rfl⟩
    exact ⟨by rw [decide_eq_true (by omega)], rfl⟩)
  have hwj : ∀ W, Calls Tryd.prog 53 #[.int .i64 n, .int .i64 8, .int .i64 4096] W fun e w' => e = .returned (.bool true) ∧ w' = W := fun W => (within_any n 8 4096 W).mono (by
    rintro e w' ⟨rfl, rfl⟩
    exact ⟨by rw [decide_eq_true (by omega)], rfl⟩)
  have HWI := Lib.hid hwi
  have HWJ := Lib.hid hwj
  have HLO := Lib.hid hlo
  have HS := Lib.hid hs
  clear hwi hwj hd hn hs hlo
  go_enter Tryd.func31, Tryd.ntmps31
  go_upto_region 7 with (first
    | (go_at_call 53; refine (HWI.out _).mono ?_; rintro e w1 ⟨rfl, hw1⟩; obtain rfl := hw1.symm; clear HWI)
    | (go_at_call 53; refine (HWJ.out _).mono ?_; rintro e w1 ⟨rfl, hw1⟩; obtain rfl := hw1.symm; clear HWJ)
    | (go_at_call 60; refine hu.mono ?_; rintro e w1 ⟨rfl, hw1⟩; obtain rfl := hw1.symm))
  have a0 : ArrL lo (w.alloc (.cells #[.pointer (some ⟨w.heap.size, 0, none⟩), .int .i64 n, .slice none 0 0, .slice none 0 0, .bool false, .int .i64 0, .bool false, .int .i64 0] 35)) w.heap.size (newS n 0) (.slice none 0 0) (.slice none 0 0) [] [] [] [] :=
    ⟨heap_alloc_new _ _, HLO.out, OwnE.nil _ _ _ _, by simp [blk], rfl, fun i q d hq => by simp at hq, fun d hd => by simp [newS] at hd, fun i j p q _ hp => by simp at hp, OwnE.nil _ _ _ _, by simp [blk], rfl, fun i c x hc => by simp at hc⟩
  have fa0 : Fa lo w (w.alloc (.cells #[.pointer (some ⟨w.heap.size, 0, none⟩), .int .i64 n, .slice none 0 0, .slice none 0 0, .bool false, .int .i64 0, .bool false, .int .i64 0] 35)) := Fa.of0 ((Frm.refl [] w).alloc _) lo
  generalize w.alloc (.cells #[.pointer (some ⟨w.heap.size, 0, none⟩), .int .i64 n, .slice none 0 0, .slice none 0 0, .bool false, .int .i64 0, .bool false, .int .i64 0] 35) = W at *
  generalize w.heap.size = g at *
  have A0 := Lib.hid a0
  have F0 := Lib.hid fa0
  clear a0 fa0 hu cg
  go_upto_region 8 with (fail)
  go_loopw [30] (NwRel lo g n d W) (fun c _ => d - (intOf c).toNat)
  case atStart => exact ⟨0, _, _, _, Nat.zero_le _, rfl, A0.out, Fa.refl lo W⟩
  case round =>
    obtain ⟨k, dv, drs, dsp, hk, rfl, hA, hF⟩ := hrel
    have HF := Lib.hid hF
    have HA := Lib.hid hA
    by_cases hlt : k < d
    · obtain ⟨-, -, c2, -⟩ := hA.cells
      obtain ⟨ad, cap, hdv, -, -⟩ := hA.own.sl.form
      have hdl : drs.length = k := by have := hA.dlen; simpa [newS] using this
      have hg : g ∉ blk dv := fun hm => by obtain ⟨cs, hc⟩ := own_blk hA.own g hm; rw [hA.rcd] at hc; cases hc
      rw [hdv, hdl] at c2
      have HDV := Lib.hid (show dv = .slice ad k cap by rw [hdv, hdl])
      have HDL := Lib.hid hdl
      have HG := Lib.hid hg
      have HLT := Lib.hid hlt
      have hlt9 : (k : Int) < (d : Int) := by omega
      have hk8 : (k : Int) < 8 := by have := HD.out; omega
      clear hA hF hdv hdl hg
      go_upto_region 9 with (fail)
      refine wp_region_late 8 (S := fun z => z.cell? ⟨g, 2, none⟩ = some (.slice ad k cap)) (by kernel_rfl) (c2) (fun hHeld => ?_)
      refine wpAnyL_takeP (i := 0) (oi := { dst := some 32, op := Op.move (Operand.tmp 8), type := 29, pos := "array.go:30", after := #[], guard := none }) (v := ?_) rfl (by kernel_rfl) (by kernel_rfl) (by kernel_rfl) (fun _ _ _ h => h) (Or.inl ⟨by rfl, ?_⟩) hHeld ?_
      rotate_left
      focus (intro z hSw; clear hSw; go_simp; try with_reducible rfl)
      try simp only [Act.put, List.setIfInBounds_toArray, List.set_cons_zero, List.set_cons_succ]
      refine wpAnyL_takeP (i := 1) (oi := { dst := some 33, op := Op.move (Operand.tmp 8), type := 29, pos := "array.go:30", after := #[], guard := none }) (v := ?_) rfl (by kernel_rfl) (by kernel_rfl) (by kernel_rfl) (fun _ _ _ h => h) (Or.inl ⟨by rfl, ?_⟩) hHeld ?_
      rotate_left
      focus (intro z hSw; clear hSw; go_simp; try with_reducible rfl)
      try simp only [Act.put, List.setIfInBounds_toArray, List.set_cons_zero, List.set_cons_succ]
      refine wpAnyL_takeP (i := 2) (oi := { dst := some 34, op := Op.nilCheck (Operand.tmp 33), type := 0, pos := "array.go:30", after := #[{ on := 1, ground := Ground.data }], guard := none }) (v := ?_) rfl (by kernel_rfl) (by kernel_rfl) (by kernel_rfl) (fun _ _ _ h => h) (Or.inl ⟨by rfl, ?_⟩) hHeld ?_
      rotate_left
      focus (intro z hSw; clear hSw; go_simp; try with_reducible rfl)
      try simp only [Act.put, List.setIfInBounds_toArray, List.set_cons_zero, List.set_cons_succ]
      refine wpAnyL_takeP (i := 3) (oi := { dst := some 35, op := Op.fieldAddr 35 (Operand.tmp 34) 2, type := 0, pos := "array.go:30", after := #[{ on := 2, ground := Ground.data }], guard := none }) (v := ?_) rfl (by kernel_rfl) (by kernel_rfl) (by kernel_rfl) (fun _ _ _ h => h) (Or.inl ⟨by rfl, ?_⟩) hHeld ?_
      rotate_left
      focus (intro z hSw; clear hSw; go_simp; try with_reducible rfl)
      try simp only [Act.put, List.setIfInBounds_toArray, List.set_cons_zero, List.set_cons_succ]
      refine wpAnyL_take (i := 4) (oi := { dst := some 36, op := Op.load 30 (Operand.tmp 35), type := 30, pos := "array.go:30", after := #[{ on := 3, ground := Ground.data }], guard := none }) (v := ?_) rfl (by kernel_rfl) (by kernel_rfl) (by kernel_rfl) (fun _ _ _ h => h) (Or.inl ⟨by rfl, ?_⟩) hHeld ?_
      rotate_left
      focus (intro z hSw; have q := hSw; clear hSw; go_simp; try with_reducible rfl)
      try simp only [Act.put, List.setIfInBounds_toArray, List.set_cons_zero, List.set_cons_succ]
      refine wpAnyL_takeP (i := 5) (oi := { dst := some 37, op := Op.move (Operand.tmp 1), type := 3, pos := "array.go:30", after := #[], guard := none }) (v := ?_) rfl (by kernel_rfl) (by kernel_rfl) (by kernel_rfl) (fun _ _ _ h => h) (Or.inl ⟨by rfl, ?_⟩) hHeld ?_
      rotate_left
      focus (intro z hSw; clear hSw; go_simp; try with_reducible rfl)
      try simp only [Act.put, List.setIfInBounds_toArray, List.set_cons_zero, List.set_cons_succ]
      refine wpAnyL_one (i := 6) (o := { dst := some 38, op := Op.call { callee := Callee.value (Operand.func 58), args := #[Operand.tmp 37], argTypes := #[3] }, type := 86, pos := "array.go:30", after := #[{ on := 5, ground := Ground.data }], guard := none }) (by kernel_rfl) rfl (fun K hK => ?_)
      go_simp
      refine (blank_any n (by have := HN.out; omega) _).mono ?_
      rintro e w2 ⟨gs, rfl, hos, hgs, fb⟩
      unfold bv0
      refine hK.out _ _ ?_ (fun hNext => ?_)
      · exact fb.cell hHeld (by simp)
      clear hK K hHeld
      have hHeld := hNext
      clear hNext
      try simp only [Act.put, List.setIfInBounds_toArray, List.set_cons_zero, List.set_cons_succ]
      refine wpAnyL_one (i := 7) (o := { dst := some 39, op := Op.buildSlice 30 1 #[(0, Operand.tmp 38)], type := 30, pos := "array.go:30", after := #[{ on := 6, ground := Ground.data }], guard := none }) (by kernel_rfl) rfl (fun K hK => ?_)
      go_simp
      refine hK.out _ _ ?_ (fun hNext => ?_)
      · exact ((Frm.refl [] w2).alloc _).cell hHeld (by simp)
      clear hK K hHeld
      have hHeld := hNext
      clear hNext
      try simp only [Act.put, List.setIfInBounds_toArray, List.set_cons_zero, List.set_cons_succ]
      refine wpAnyL_last (o := { dst := some 40, op := Op.call { callee := Callee.builtin Builtin.append, args := #[Operand.tmp 36, Operand.tmp 39], argTypes := #[30, 30] }, type := 30, pos := "array.go:30", after := #[{ on := 4, ground := Ground.data }, { on := 7, ground := Ground.data }, { on := 6, ground := Ground.chain }], guard := none }) (by kernel_rfl) rfl (by simp) (fun K hK => ?_)
      have f7 : Frm [] wr (w2.alloc (.cells #[.int .u8 0, .int .i64 0, .int .i64 0, .slice (some ⟨gs, 0, none⟩) n n] 86)) := (((Frm.refl [] wr).drew).trans fb (by simp)).alloc _
      have hl6 : drs.length + [bDr gs n].length = k + 1 := by rw [HDL.out]; rfl
      refine Kr.step_append_e encD tysD (HA.out.own.keep0 f7) (Kr.SlE.of_block (T := 86) (n := 1) (l := [bDr gs n]) encD (by rw [flt_bDr]; exact heap_alloc_new _ _) rfl (by decide)) (by rw [hl6]; have := HD.out; omega) (by decide) rfl (.tmp 36) (.tmp 39) rfl HDV.out.symm rfl ?_
      intro a6 c6 w6 sp6 o6 f6 n6
      rw [hl6] at o6 n6 ⊢
      have r6 := f6.heap (f7.heap HA.out.rcd (by simp)) HG.out
      have z6 := frozen_of_heap r6 2
      have e6 : w6.cell? ⟨g, 2, none⟩ = some dv := (by rw [cell_of_heap r6]; rfl)
      refine hK.out _ _ ?_
      clear hK K hHeld
      try simp only [Act.put, List.setIfInBounds_toArray, List.set_cons_zero, List.set_cons_succ]
      refine wpAny_take (i := 9) (oi := { dst := some 41, op := Op.nilCheck (Operand.tmp 32), type := 0, pos := "array.go:30", after := #[{ on := 0, ground := Ground.data }, { on := 0, ground := Ground.phase }, { on := 1, ground := Ground.phase }, { on := 2, ground := Ground.phase }, { on := 3, ground := Ground.phase }, { on := 4, ground := Ground.phase }, { on := 5, ground := Ground.phase }, { on := 6, ground := Ground.phase }, { on := 7, ground := Ground.phase }, { on := 8, ground := Ground.phase }], guard := none }) (v := ?_) rfl (by kernel_rfl) (by kernel_rfl) (by kernel_rfl) (fun _ _ _ h => h) (Or.inl ⟨by rfl, ?_⟩) ?_
      rotate_left
      focus (intro z; go_simp; try with_reducible rfl)
      try simp only [Act.put, List.setIfInBounds_toArray, List.set_cons_zero, List.set_cons_succ]
      refine wpAny_take (i := 10) (oi := { dst := some 42, op := Op.fieldAddr 35 (Operand.tmp 41) 2, type := 0, pos := "array.go:30", after := #[{ on := 9, ground := Ground.data }, { on := 0, ground := Ground.phase }, { on := 1, ground := Ground.phase }, { on := 2, ground := Ground.phase }, { on := 3, ground := Ground.phase }, { on := 4, ground := Ground.phase }, { on := 5, ground := Ground.phase }, { on := 6, ground := Ground.phase }, { on := 7, ground := Ground.phase }, { on := 8, ground := Ground.phase }], guard := none }) (v := ?_) rfl (by kernel_rfl) (by kernel_rfl) (by kernel_rfl) (fun _ _ _ h => h) (Or.inl ⟨by rfl, ?_⟩) ?_
      rotate_left
      focus (intro z; go_simp; try with_reducible rfl)
      try simp only [Act.put, List.setIfInBounds_toArray, List.set_cons_zero, List.set_cons_succ]
      refine wpAny_ready (rs := [11]) (by kernel_rfl) (by simp) ?_
      refine AllReady.cons (o := { dst := none, op := Op.store 30 (Operand.tmp 42) (Operand.tmp 40), type := 0, pos := "array.go:30", after := #[{ on := 10, ground := Ground.data }, { on := 8, ground := Ground.data }, { on := 8, ground := Ground.chain }, { on := 0, ground := Ground.phase }, { on := 1, ground := Ground.phase }, { on := 2, ground := Ground.phase }, { on := 3, ground := Ground.phase }, { on := 4, ground := Ground.phase }, { on := 5, ground := Ground.phase }, { on := 6, ground := Ground.phase }, { on := 7, ground := Ground.phase }, { on := 8, ground := Ground.phase }], guard := none }) rfl (fun K hK => ?_) AllReady.nil
      go_simp
      refine hK _ _ ?_
      clear hK K
      try simp only [Act.put, List.setIfInBounds_toArray, List.set_cons_zero, List.set_cons_succ]
      refine wpAny_done (by kernel_rfl) ?_ _
      have HF7 := Lib.hid f7
      have HF6 := Lib.hid f6
      have HO6 := Lib.hid o6
      have HN6 := Lib.hid n6
      have HR6 := Lib.hid r6
      have HOS := Lib.hid hos
      have HGS := Lib.hid hgs
      have HFB := Lib.hid fb
      clear f7 f6 o6 n6 r6 hos hgs fb e6 z6 c2
      go_wp2_with fail
      go_roundw
      case rel =>
        have hlt := HLT.out
        have hgl : g < wr.heap.size := lt_heap HA.out.rcd
        have hgs : wr.heap.size ≤ gs := HGS.out
        have hlt2 : ∀ k ∈ blk dv, k < wr.heap.size := HA.out.own.lt
        have fa : Frm [] w2 (w2.alloc (.cells #[.int .u8 0, .int .i64 0, .int .i64 0, .slice (some ⟨gs, 0, none⟩) n n] 86)) := (Frm.refl [] w2).alloc _
        have fs : Frm [g] w6 (w6.setCell ⟨g, 2, none⟩ (.slice a6 (k + 1) c6)) := (Frm.refl [g] w6).setCell _ _ (.inl (by simp))
        have fall : Frm (g :: blk dv) wr (w6.setCell ⟨g, 2, none⟩ (.slice a6 (k + 1) c6)) := ((HF7.out.mono (L' := g :: blk dv) (by simp)).trans HF6.out (fun i hi => .inl (List.mem_cons_of_mem _ hi))).trans fs (fun i hi => .inl (by simp at hi; simp [hi]))
        have own' := HO6.out.keep fs (fun j hj hm => by
          simp at hm
          subst hm
          rcases HN6.out j hj with h | h
          · exact HG.out h
          · have := HF7.out.size; omega)
        have sec' : SecP lo (w6.setCell ⟨g, 2, none⟩ (.slice a6 (k + 1) c6)) (.slice (some ⟨gs, 0, none⟩) n n) (List.replicate n zSc) := SecP.blank (((HOS.out.keep0 fa).keep HF6.out (fun j hj hm => by
          simp [blk] at hj
          subst hj
          have := hlt2 _ hm
          omega)).keep fs (fun j hj hm => by simp [blk] at hj; simp at hm; omega)) (by have := HA.out.lo_le; omega)
        obtain ⟨h1, h2⟩ := HA.out.addDev (bDr gs n) (zDv n) (.slice a6 (k + 1) c6) sp6 fall (by rw [heap_setCell_same _ HR6.out]; rfl) own' (fun j hj => (HN6.out j hj).imp id (fun h => by have := HF7.out.size; omega)) rfl rfl rfl sec' (by simp [bDr, blk]; exact hgs) ⟨by simp [zDv], by simp [zDv], by simp [zDv], fun h => absurd (by simp [zDv]) h⟩
        refine ⟨k + 1, .slice a6 (k + 1) c6, drs ++ [bDr gs n], sp6, by omega, by go_num, ?_, HF.out.trans h2⟩
        have e : newS n (k + 1) = { newS n k with devs := (newS n k).devs ++ [zDv n] } := by simp [newS, List.replicate_succ']
        rw [e]
        exact h1
      case measure => have hlt := HLT.out; simp [intOf]; omega
    · obtain rfl : k = d := by omega
      clear hA hF
      go_wp2_with fail
      go_ret2
      exact ⟨g, rfl, ⟨_, _, _, _, _, _, HA.out⟩, F0.out.trans HF.out⟩
end
end Go.Proofs.YtdebnikolhhmgaaDoor

