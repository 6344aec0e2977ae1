/-
  New. No conditions but those that each theorem names. The loose writes of a device are taken. No conditions but those that each theorem names. A write settles. No conditions but those that each theorem names. The loose writes of a device are taken: the call; Flush. No conditions but those that each theorem names. Flush. No conditions but those that each theorem names. Crash. No conditions but those that each theorem names. The law's helpers. No conditions but those that each theorem names. The law's reads. No conditions but those that each theorem names. What is kept by each call. No conditions but those that each theorem names. What is kept by a write. No conditions but those that each theorem names. The law's examples: awake. No conditions but those that each theorem names. What a row's own condition gives the walks: the six sentinels; an act. No conditions but those that each theorem names. An act as it is handed in. No conditions but those that each theorem names. What is kept by the other calls; as a law calls them. No conditions but those that each theorem names.
-/
import Derived.Test.YtdebnikolhhmgaaDoorMAa1
import Derived.Test.YtdebnikolhhmgaaDoorMAa2
import Derived.OrdersHeld
import Derived.Deep.RegionLaw
import Derived.Test.YtdebnikolhhmgaaDoorTie
import Derived.Test.YtdebnikolhhmgaaDoorCards
import Derived.ProofKit
import Derived.OpenShut
import Derived.ShutString
import Derived.ChangeOld
import Derived.LaidMore
import Derived.Stop.Joined
import Derived.SevenTiedAt
import Derived.Stop.LaidTwo
import Derived.Deep.Slices
import Derived.ChangeSame
import Derived.WalkKit
import Derived.WalkSpells
import Derived.WalkLawsBesides
import Derived.Deep.AppendSrc
import Derived.Laws.CopyOwn
import Derived.Laws.BytesArg
import Derived.Carry
import Derived.Laws.BytesString
import Derived.Lib.Hide
import Derived.Test.YtdebnikolhhmgaaDoorChecked
import Derived.Stop.Asserts
import Derived.LaidEql
import Derived.RowKitTokens
import Derived.WalkHide
import Derived.StillTailTactics
import Derived.BigQuiet
import Derived.Deep.QuietTactic
import Derived.Deep.MidRow
import Derived.Deep.RegionHeld3
import Derived.Deep.RegionWith
import Derived.LaidEqlPtr
import Derived.Deep.CutBlock
import Derived.Deep.DeepCutAuto
import Derived.Shelf.Abstract
import Derived.Laws.Tables
import Derived.Deep.RegionHeld
import Derived.OwnWalk
namespace Go.Proofs.YtdebnikolhhmgaaDoor
open Go.RowKit
set_option linter.unusedVariables false
set_option linter.unusedSimpArgs false
set_option maxRecDepth 100000

open Kr (OwnE SlE Enco RowTys)
theorem tysD : RowTys Tryd.prog 30 86 4 48 := ⟨Tryd.underlying30, .agg #[.int .u8 0, .int .i64 0, .int .i64 0, .slice none 0 0], by kernel_rfl, by kernel_rfl⟩
/-- A device more. -/
theorem ArrL.addDev {lo : Nat} {w w' : World} {g : Nat} {s : St} {dv rv : Value} {drs : List Dr} {dsp : List Value} {rcs : List CelT} {rsp : List Value} (h : ArrL lo w g s dv rv drs dsp rcs rsp) (q : Dr) (d : Dv) (dv' : Value) (dsp' : List Value)
    (f : Frm (g :: blk dv) w w') (hr : w'.heap[g]? = some (.cells (arc g s dv' rv).toArray 35 (0, 0))) (ho : OwnE eD 4 86 w' dv' (drs ++ [q]) dsp') (hb : ∀ k ∈ blk dv', k ∈ blk dv ∨ w.heap.size ≤ k)
    (e1 : q.1 = d.f) (e2 : q.2.1 = d.str) (e3 : q.2.2.1 = d.fl) (hS : SecP lo w' q.2.2.2.1 d.secs) (hfr : ∀ k ∈ blk q.2.2.2.1, w.heap.size ≤ k) (hfb : d.f < 256 ∧ 0 ≤ d.fl ∧ d.fl ≤ 9223372036854775807 ∧ ((d.f &&& 8) ≠ 0 → 0 < d.fl)) :
    ArrL lo w' g { s with devs := s.devs ++ [d] } dv' rv (drs ++ [q]) dsp' rcs rsp ∧ Fa lo w w' := by
  have hob := own_blk h.own
  have hall : ∀ k ∈ g :: blk dv, ∃ cs T, w.heap[k]? = some (.cells cs T (0, 0)) ∧ (T = 35 ∨ T = 86) := fun k hk => by
    rcases List.mem_cons.1 hk with rfl | hk
    · exact ⟨_, _, h.rcd, .inl rfl⟩
    · obtain ⟨cs, hc⟩ := hob k hk; exact ⟨cs, 86, hc, .inr rfl⟩
  have hfa : Fa lo w w' := Fa.of_frm f fun k hk => by
    obtain ⟨cs, T, hc, ht⟩ := hall k hk
    refine ⟨?_, cs, T, _, hc, by rcases ht with rfl | rfl <;> decide⟩
    rcases List.mem_cons.1 hk with rfl | hk
    · exact h.glo
    · exact h.dlo k hk
  have hno : ∀ {T k : Nat} {n : Nat} {v : Value} {xs sp : List Value}, Own T k w v n xs sp → T ≠ 35 → T ≠ 86 → ∀ j ∈ blk v, j ∉ g :: blk dv := fun ho h1 h2 j hj hm => by
    obtain ⟨cs, T', hc, ht⟩ := hall j hm
    obtain ⟨cs', hc'⟩ := own_blk ho j hj
    rw [hc] at hc'; cases hc'
    rcases ht with rfl | rfl
    · exact h1 rfl
    · exact h2 rfl
  have hold : ∀ (i : Nat) (p : Dr), drs[i]? = some p → ∀ k ∈ blk p.2.2.2.1, k < w.heap.size := fun i p hp k hk => by
    have hi : i < s.devs.length := by rw [← h.dlen]; exact (List.getElem?_eq_some_iff.1 hp).1
    obtain ⟨_, _, _, scs, csp, o1, _⟩ := h.dat i p _ hp (List.getElem?_eq_getElem hi)
    exact o1.lt k hk
  refine ⟨⟨hr, h.glo, ho, fun k hk => ?_, by simp [h.dlen], fun i p d' hp hd => ?_, fun d' hd => ?_, fun i j p p' hij hp hp' => ?_, h.row.keep f (hno h.row (by decide) (by decide)), h.rlo, h.rlen, fun j c x hc hx => by obtain ⟨gw, e1, e2⟩ := h.rat j c x hc hx; exact ⟨gw, e1, hfa.typ _ _ _ _ e2 (by decide)⟩⟩, hfa⟩
  · rcases hb k hk with hk | hk
    · exact h.dlo k hk
    · have := h.lo_le; omega
  · simp only at hd
    by_cases hi : i < drs.length
    · rw [List.getElem?_append_left hi] at hp
      rw [List.getElem?_append_left (by rw [← h.dlen]; exact hi)] at hd
      obtain ⟨k1, k2, k3, k4⟩ := h.dat i p d' hp hd
      refine ⟨k1, k2, k3, ?_⟩
      obtain ⟨scs, csp, o1, o2, o3, o4⟩ := id k4
      exact k4.apart f hfa (hno o1 (by decide) (by decide))
    · have hi3 : i = drs.length := by
        have := (List.getElem?_eq_some_iff.1 hp).1
        simp at this
        omega
      subst hi3
      rw [List.getElem?_append_right (Nat.le_refl _), Nat.sub_self] at hp
      rw [h.dlen, List.getElem?_append_right (Nat.le_refl _), Nat.sub_self] at hd
      cases hp; cases hd
      exact ⟨e1, e2, e3, hS⟩
  · rcases List.mem_append.1 hd with hd | hd
    · exact h.fb d' hd
    · rw [List.mem_singleton.1 hd]; exact hfb
  · have key : ∀ (i : Nat) (p : Dr), (drs ++ [q])[i]? = some p → (i < drs.length ∧ drs[i]? = some p) ∨ (i = drs.length ∧ p = q) := fun i p hp => by
      by_cases hi : i < drs.length
      · rw [List.getElem?_append_left hi] at hp; exact .inl ⟨hi, hp⟩
      · have hi3 : i = drs.length := by
          have := (List.getElem?_eq_some_iff.1 hp).1
          simp at this
          omega
        subst hi3
        rw [List.getElem?_append_right (Nat.le_refl _), Nat.sub_self] at hp
        cases hp
        exact .inr ⟨rfl, rfl⟩
    rcases key i p hp with ⟨a1, a2⟩ | ⟨a1, rfl⟩
    · rcases key j p' hp' with ⟨b1, b2⟩ | ⟨b1, rfl⟩
      · exact h.dis i j p p' hij a2 b2
      · intro k hk hm
        have := hold i p a2 k hk
        have := hfr k hm
        omega
    · rcases key j p' hp' with ⟨b1, b2⟩ | ⟨b1, rfl⟩
      · intro k hk hm
        have := hold j p' b2 k hm
        have := hfr k hk
        omega
      · omega
def zDv (n : Nat) : Dv := ⟨0, 0, 0, List.replicate n zSc⟩
def newS (n k : Nat) : St := ⟨n, List.replicate k (zDv n), [], false, 0, false, 0⟩
theorem SecP.blank {lo : Nat} {w : World} {gs n : Nat} (h : OwnE eS 257 96 w (.slice (some ⟨gs, 0, none⟩) n n) (List.replicate n zS) []) (hl : lo ≤ gs) : SecP lo w (.slice (some ⟨gs, 0, none⟩) n n) (List.replicate n zSc) :=
  ⟨_, _, h, by simpa [blk] using hl, by simp, fun i q c hq hc => by
    obtain ⟨_, rfl⟩ := List.getElem?_eq_some_iff.1 hq
    obtain ⟨_, rfl⟩ := List.getElem?_eq_some_iff.1 hc
    rw [List.getElem_replicate, List.getElem_replicate]
    exact ⟨rfl, .inl ⟨rfl, rfl⟩⟩⟩
def bDr (gs n : Nat) : Dr := (0, 0, 0, ⟨.slice (some ⟨gs, 0, none⟩) n n, rfl⟩)
theorem flt_bDr (gs n : Nat) : Kr.flt eD [bDr gs n] = [.int .u8 0, .int .i64 0, .int .i64 0, .slice (some ⟨gs, 0, none⟩) n n] := rfl
def NwRel (lo g n k0 : Nat) (w0 : World) (cv : Value) (wr : World) : Prop :=
  ∃ (k : Nat) (dv : Value) (drs : List Dr) (dsp : List Value), k ≤ k0 ∧ cv = .int .i64 k ∧ ArrL lo wr g (newS n k) dv (.slice none 0 0) drs dsp [] [] ∧ Fa lo w0 wr
section
variable {lo : Nat} {w : World} {sn : Nat → Addr}
set_option maxHeartbeats 8000000 in
theorem New_yes (d n : Nat) (hs : Sn w lo sn) (hlo : lo ≤ w.heap.size) (hd : 2 ≤ d ∧ d ≤ 8) (hn : 8 ≤ n ∧ n ≤ 4096) :
    Calls Tryd.prog 31 #[.int .i64 d, .int .i64 n] w fun e w' => ∃ g, e = .returned (.tuple #[.pointer (some ⟨g, 0, none⟩), .int .i64 0]) ∧ Arr lo w' g (newS n d) ∧ Fa lo w w' := by
  have cg := hs.v 0 (by omega)
  have hu := unless_true txA (.iface 126 (.pointer (some (sn 0)))) w
  unfold txA at hu
  have HN := Lib.hid hn
  have HD := Lib.hid hd
  have hwi : ∀ W, Calls Tryd.prog 53 #[.int .i64 d, .int .i64 2, .int .i64 8] W fun e w' => e = .returned (.bool true) ∧ w' = W := fun W => (within_any d 2 8 W).mono (by
    rintro e w' ⟨rfl, rfl⟩
    exact ⟨by rw [decide_eq_true (by omega)], rfl⟩)
  have hwj : ∀ W, Calls Tryd.prog 53 #[.int .i64 n, .int .i64 8, .int .i64 4096] W fun e w' => e = .returned (.bool true) ∧ w' = W := fun W => (within_any n 8 4096 W).mono (by
    rintro e w' ⟨rfl, rfl⟩
    exact ⟨by rw [decide_eq_true (by omega)], rfl⟩)
  have HWI := Lib.hid hwi
  have HWJ := Lib.hid hwj
  have HLO := Lib.hid hlo
  have HS := Lib.hid hs
  clear hwi hwj hd hn hs hlo
  go_enter Tryd.func31, Tryd.ntmps31
  go_upto_region 7 with (first
    | (go_at_call 53; refine (HWI.out _).mono ?_; rintro e w1 ⟨rfl, hw1⟩; obtain rfl := hw1.symm; clear HWI)
    | (go_at_call 53; refine (HWJ.out _).mono ?_; rintro e w1 ⟨rfl, hw1⟩; obtain rfl := hw1.symm; clear HWJ)
    | (go_at_call 60; refine hu.mono ?_; rintro e w1 ⟨rfl, hw1⟩; obtain rfl := hw1.symm))
  have a0 : ArrL lo (w.alloc (.cells #[.pointer (some ⟨w.heap.size, 0, none⟩), .int .i64 n, .slice none 0 0, .slice none 0 0, .bool false, .int .i64 0, .bool false, .int .i64 0] 35)) w.heap.size (newS n 0) (.slice none 0 0) (.slice none 0 0) [] [] [] [] :=
    ⟨heap_alloc_new _ _, HLO.out, OwnE.nil _ _ _ _, by simp [blk], rfl, fun i q d hq => by simp at hq, fun d hd => by simp [newS] at hd, fun i j p q _ hp => by simp at hp, OwnE.nil _ _ _ _, by simp [blk], rfl, fun i c x hc => by simp at hc⟩
  have fa0 : Fa lo w (w.alloc (.cells #[.pointer (some ⟨w.heap.size, 0, none⟩), .int .i64 n, .slice none 0 0, .slice none 0 0, .bool false, .int .i64 0, .bool false, .int .i64 0] 35)) := Fa.of0 ((Frm.refl [] w).alloc _) lo
  generalize w.alloc (.cells #[.pointer (some ⟨w.heap.size, 0, none⟩), .int .i64 n, .slice none 0 0, .slice none 0 0, .bool false, .int .i64 0, .bool false, .int .i64 0] 35) = W at *
  generalize w.heap.size = g at *
  have A0 := Lib.hid a0
  have F0 := Lib.hid fa0
  clear a0 fa0 hu cg
  go_upto_region 8 with (fail)
  go_loopw [30] (NwRel lo g n d W) (fun c _ => d - (intOf c).toNat)
  case atStart => exact ⟨0, _, _, _, Nat.zero_le _, rfl, A0.out, Fa.refl lo W⟩
  case round =>
    obtain ⟨k, dv, drs, dsp, hk, rfl, hA, hF⟩ := hrel
    have HF := Lib.hid hF
    have HA := Lib.hid hA
    by_cases hlt : k < d
    · obtain ⟨-, -, c2, -⟩ := hA.cells
      obtain ⟨ad, cap, hdv, -, -⟩ := hA.own.sl.form
      have hdl : drs.length = k := by have := hA.dlen; simpa [newS] using this
      have hg : g ∉ blk dv := fun hm => by obtain ⟨cs, hc⟩ := own_blk hA.own g hm; rw [hA.rcd] at hc; cases hc
      rw [hdv, hdl] at c2
      have HDV := Lib.hid (show dv = .slice ad k cap by rw [hdv, hdl])
      have HDL := Lib.hid hdl
      have HG := Lib.hid hg
      have HLT := Lib.hid hlt
      have hlt9 : (k : Int) < (d : Int) := by omega
      have hk8 : (k : Int) < 8 := by have := HD.out; omega
      clear hA hF hdv hdl hg
      go_upto_region 9 with (fail)
      refine wp_region_late 8 (S := fun z => z.cell? ⟨g, 2, none⟩ = some (.slice ad k cap)) (by kernel_rfl) (c2) (fun hHeld => ?_)
      refine wpAnyL_takeP (i := 0) (oi := ⟨some 32, .move (.tmp 8), _, _, _, none⟩) (v := ?_) rfl (by kernel_rfl) (by kernel_rfl) (by kernel_rfl) (fun _ _ _ h => h) (Or.inl ⟨by rfl, ?_⟩) hHeld ?_
      rotate_left
      focus (intro z hSw; clear hSw; go_simp; try with_reducible rfl)
      try simp only [Act.put, List.setIfInBounds_toArray, List.set_cons_zero, List.set_cons_succ]
      refine wpAnyL_takeP (i := 1) (oi := ⟨some 33, .move (.tmp 8), _, _, _, none⟩) (v := ?_) rfl (by kernel_rfl) (by kernel_rfl) (by kernel_rfl) (fun _ _ _ h => h) (Or.inl ⟨by rfl, ?_⟩) hHeld ?_
      rotate_left
      focus (intro z hSw; clear hSw; go_simp; try with_reducible rfl)
      try simp only [Act.put, List.setIfInBounds_toArray, List.set_cons_zero, List.set_cons_succ]
      refine wpAnyL_takeP (i := 2) (oi := ⟨some 34, .nilCheck (.tmp 33), _, _, _, none⟩) (v := ?_) rfl (by kernel_rfl) (by kernel_rfl) (by kernel_rfl) (fun _ _ _ h => h) (Or.inl ⟨by rfl, ?_⟩) hHeld ?_
      rotate_left
      focus (intro z hSw; clear hSw; go_simp; try with_reducible rfl)
      try simp only [Act.put, List.setIfInBounds_toArray, List.set_cons_zero, List.set_cons_succ]
      refine wpAnyL_takeP (i := 3) (oi := ⟨some 35, .fieldAddr 35 (.tmp 34) 2, _, _, _, none⟩) (v := ?_) rfl (by kernel_rfl) (by kernel_rfl) (by kernel_rfl) (fun _ _ _ h => h) (Or.inl ⟨by rfl, ?_⟩) hHeld ?_
      rotate_left
      focus (intro z hSw; clear hSw; go_simp; try with_reducible rfl)
      try simp only [Act.put, List.setIfInBounds_toArray, List.set_cons_zero, List.set_cons_succ]
      refine wpAnyL_take (i := 4) (oi := ⟨some 36, .load 30 (.tmp 35), _, _, _, none⟩) (v := ?_) rfl (by kernel_rfl) (by kernel_rfl) (by kernel_rfl) (fun _ _ _ h => h) (Or.inl ⟨by rfl, ?_⟩) hHeld ?_
      rotate_left
      focus (intro z hSw; have q := hSw; clear hSw; go_simp; try with_reducible rfl)
      try simp only [Act.put, List.setIfInBounds_toArray, List.set_cons_zero, List.set_cons_succ]
      refine wpAnyL_takeP (i := 5) (oi := ⟨some 37, .move (.tmp 1), _, _, _, none⟩) (v := ?_) rfl (by kernel_rfl) (by kernel_rfl) (by kernel_rfl) (fun _ _ _ h => h) (Or.inl ⟨by rfl, ?_⟩) hHeld ?_
      rotate_left
      focus (intro z hSw; clear hSw; go_simp; try with_reducible rfl)
      try simp only [Act.put, List.setIfInBounds_toArray, List.set_cons_zero, List.set_cons_succ]
      refine wpAnyL_one (i := 6) (o := ⟨some 38, .call { callee := .value (.func 58), args := #[.tmp 37], argTypes := #[3] }, _, _, _, none⟩) (by kernel_rfl) rfl (fun K hK => ?_)
      go_simp
      refine (blank_any n (by have := HN.out; omega) _).mono ?_
      rintro e w2 ⟨gs, rfl, hos, hgs, fb⟩
      unfold bv0
      refine hK.out _ _ ?_ (fun hNext => ?_)
      · exact fb.cell hHeld (by simp)
      clear hK K hHeld
      have hHeld := hNext
      clear hNext
      try simp only [Act.put, List.setIfInBounds_toArray, List.set_cons_zero, List.set_cons_succ]
      refine wpAnyL_one (i := 7) (o := ⟨some 39, .buildSlice 30 1 #[(0, .tmp 38)], _, _, _, none⟩) (by kernel_rfl) rfl (fun K hK => ?_)
      go_simp
      refine hK.out _ _ ?_ (fun hNext => ?_)
      · exact ((Frm.refl [] w2).alloc _).cell hHeld (by simp)
      clear hK K hHeld
      have hHeld := hNext
      clear hNext
      try simp only [Act.put, List.setIfInBounds_toArray, List.set_cons_zero, List.set_cons_succ]
      refine wpAnyL_last (o := ⟨some 40, .call { callee := .builtin .append, args := #[.tmp 36, .tmp 39], argTypes := #[30, 30] }, _, _, _, none⟩) (by kernel_rfl) rfl (by simp) (fun K hK => ?_)
      have f7 : Frm [] wr (w2.alloc (.cells #[.int .u8 0, .int .i64 0, .int .i64 0, .slice (some ⟨gs, 0, none⟩) n n] 86)) := (((Frm.refl [] wr).drew).trans fb (by simp)).alloc _
      have hl6 : drs.length + [bDr gs n].length = k + 1 := by rw [HDL.out]; rfl
      refine Kr.step_append_e encD tysD (HA.out.own.keep0 f7) (Kr.SlE.of_block (T := 86) (n := 1) (l := [bDr gs n]) encD (by rw [flt_bDr]; exact heap_alloc_new _ _) rfl (by decide)) (by rw [hl6]; have := HD.out; omega) (by decide) rfl (.tmp 36) (.tmp 39) rfl HDV.out.symm rfl ?_
      intro a6 c6 w6 sp6 o6 f6 n6
      rw [hl6] at o6 n6 ⊢
      have r6 := f6.heap (f7.heap HA.out.rcd (by simp)) HG.out
      have z6 := frozen_of_heap r6 2
      have e6 : w6.cell? ⟨g, 2, none⟩ = some dv := (by rw [cell_of_heap r6]; rfl)
      refine hK.out _ _ ?_
      clear hK K hHeld
      try simp only [Act.put, List.setIfInBounds_toArray, List.set_cons_zero, List.set_cons_succ]
      refine wpAny_take (i := 9) (oi := ⟨some 41, .nilCheck (.tmp 32), _, _, _, none⟩) (v := ?_) rfl (by kernel_rfl) (by kernel_rfl) (by kernel_rfl) (fun _ _ _ h => h) (Or.inl ⟨by rfl, ?_⟩) ?_
      rotate_left
      focus (intro z; go_simp; try with_reducible rfl)
      try simp only [Act.put, List.setIfInBounds_toArray, List.set_cons_zero, List.set_cons_succ]
      refine wpAny_take (i := 10) (oi := ⟨some 42, .fieldAddr 35 (.tmp 41) 2, _, _, _, none⟩) (v := ?_) rfl (by kernel_rfl) (by kernel_rfl) (by kernel_rfl) (fun _ _ _ h => h) (Or.inl ⟨by rfl, ?_⟩) ?_
      rotate_left
      focus (intro z; go_simp; try with_reducible rfl)
      try simp only [Act.put, List.setIfInBounds_toArray, List.set_cons_zero, List.set_cons_succ]
      refine wpAny_ready (rs := [11]) (by kernel_rfl) (by simp) ?_
      refine AllReady.cons (o := ⟨none, .store 30 (.tmp 42) (.tmp 40), _, _, _, none⟩) rfl (fun K hK => ?_) AllReady.nil
      go_simp
      refine hK _ _ ?_
      clear hK K
      try simp only [Act.put, List.setIfInBounds_toArray, List.set_cons_zero, List.set_cons_succ]
      refine wpAny_done (by kernel_rfl) ?_ _
      have HF7 := Lib.hid f7
      have HF6 := Lib.hid f6
      have HO6 := Lib.hid o6
      have HN6 := Lib.hid n6
      have HR6 := Lib.hid r6
      have HOS := Lib.hid hos
      have HGS := Lib.hid hgs
      have HFB := Lib.hid fb
      clear f7 f6 o6 n6 r6 hos hgs fb e6 z6 c2
      go_wp2_with fail
      go_roundw
      case rel =>
        have hlt := HLT.out
        have hgl : g < wr.heap.size := lt_heap HA.out.rcd
        have hgs : wr.heap.size ≤ gs := HGS.out
        have hlt2 : ∀ k ∈ blk dv, k < wr.heap.size := HA.out.own.lt
        have fa : Frm [] w2 (w2.alloc (.cells #[.int .u8 0, .int .i64 0, .int .i64 0, .slice (some ⟨gs, 0, none⟩) n n] 86)) := (Frm.refl [] w2).alloc _
        have fs : Frm [g] w6 (w6.setCell ⟨g, 2, none⟩ (.slice a6 (k + 1) c6)) := (Frm.refl [g] w6).setCell _ _ (.inl (by simp))
        have fall : Frm (g :: blk dv) wr (w6.setCell ⟨g, 2, none⟩ (.slice a6 (k + 1) c6)) := ((HF7.out.mono (L' := g :: blk dv) (by simp)).trans HF6.out (fun i hi => .inl (List.mem_cons_of_mem _ hi))).trans fs (fun i hi => .inl (by simp at hi; simp [hi]))
        have own' := HO6.out.keep fs (fun j hj hm => by
          simp at hm
          subst hm
          rcases HN6.out j hj with h | h
          · exact HG.out h
          · have := HF7.out.size; omega)
        have sec' : SecP lo (w6.setCell ⟨g, 2, none⟩ (.slice a6 (k + 1) c6)) (.slice (some ⟨gs, 0, none⟩) n n) (List.replicate n zSc) := SecP.blank (((HOS.out.keep0 fa).keep HF6.out (fun j hj hm => by
          simp [blk] at hj
          subst hj
          have := hlt2 _ hm
          omega)).keep fs (fun j hj hm => by simp [blk] at hj; simp at hm; omega)) (by have := HA.out.lo_le; omega)
        obtain ⟨h1, h2⟩ := HA.out.addDev (bDr gs n) (zDv n) (.slice a6 (k + 1) c6) sp6 fall (by rw [heap_setCell_same _ HR6.out]; rfl) own' (fun j hj => (HN6.out j hj).imp id (fun h => by have := HF7.out.size; omega)) rfl rfl rfl sec' (by simp [bDr, blk]; exact hgs) ⟨by simp [zDv], by simp [zDv], by simp [zDv], fun h => absurd (by simp [zDv]) h⟩
        refine ⟨k + 1, .slice a6 (k + 1) c6, drs ++ [bDr gs n], sp6, by omega, by go_num, ?_, HF.out.trans h2⟩
        have e : newS n (k + 1) = { newS n k with devs := (newS n k).devs ++ [zDv n] } := by simp [newS, List.replicate_succ']
        rw [e]
        exact h1
      case measure => have hlt := HLT.out; simp [intOf]; omega
    · obtain rfl : k = d := by omega
      clear hA hF
      go_wp2_with fail
      go_ret2
      exact ⟨g, rfl, ⟨_, _, _, _, _, _, HA.out⟩, F0.out.trans HF.out⟩
end
end Go.Proofs.YtdebnikolhhmgaaDoor

namespace Go.Proofs.YtdebnikolhhmgaaDoor
open Go.RowKit
set_option linter.unusedVariables false
set_option linter.unusedSimpArgs false
set_option maxRecDepth 100000

open Kr (OwnE SlE Enco RowTys)
def RowL (w : World) (v : Value) (l : List Wt) : Prop := ∃ rcs sp, OwnE eC 1 90 w v rcs sp ∧ rcs.length = l.length ∧ ∀ (i : Nat) (c : CelT) (x : Wt), rcs[i]? = some c → l[i]? = some x → ∃ gw, c.1 = .pointer (some ⟨gw, 0, none⟩) ∧ WtB w gw x
theorem RowL.nil (w : World) : RowL w (.slice none 0 0) [] := ⟨[], [], OwnE.nil _ _ _ _, rfl, fun i c x h => by simp at h⟩
theorem RowL.keepF {w w' : World} {v : Value} {l : List Wt} {L : List Nat} (h : RowL w v l) (f : Frm L w w') (hn : ∀ k ∈ blk v, k ∉ L) (hL : ∀ k ∈ L, ∃ cs T fr, w.heap[k]? = some (.cells cs T fr) ∧ T ≠ 105) : RowL w' v l := by
  obtain ⟨rcs, sp, h1, h2, h3⟩ := h
  exact ⟨rcs, sp, h1.keep f hn, h2, fun i c x hc hx => by obtain ⟨gw, e1, e2⟩ := h3 i c x hc hx; exact ⟨gw, e1, e2.keepF f hL⟩⟩
theorem RowL.keep0 {w w' : World} {v : Value} {l : List Wt} (h : RowL w v l) (f : Frm [] w w') : RowL w' v l := h.keepF f (by simp) (by simp)
theorem RowL.at {w : World} {v : Value} {l : List Wt} (h : RowL w v l) (k : Nat) (hk : k < l.length) : ∃ b cap gw, v = .slice (some ⟨b, 0, none⟩) l.length cap ∧ w.cell? ⟨b, k, none⟩ = some (.pointer (some ⟨gw, 0, none⟩)) ∧ WtB w gw l[k] := by
  obtain ⟨rcs, sp, h1, h2, h3⟩ := h
  have hk2 : k < rcs.length := by omega
  obtain ⟨gw, e1, e2⟩ := h3 k rcs[k] l[k] (List.getElem?_eq_getElem hk2) (List.getElem?_eq_getElem hk)
  obtain ⟨q1, ⟨_, q2, _⟩ | ⟨b, cap, q2, q3, q4, q5, q6⟩⟩ := id h1
  · omega
  · have hs := h1.sl
    rw [q2] at hs
    have := SlE.cell encC hs k hk2 0 (u := rcs[k].1) rfl
    rw [Nat.zero_add, Nat.mul_one, Nat.add_zero, e1] at this
    exact ⟨b, cap, gw, by rw [q2, h2], this, e2⟩
theorem RowL.form {w : World} {v : Value} {l : List Wt} (h : RowL w v l) : ∃ ad cap, v = .slice ad l.length cap := by
  obtain ⟨rcs, sp, h1, h2, h3⟩ := h
  obtain ⟨ad, cap, e, _⟩ := h1.sl.form
  exact ⟨ad, cap, by rw [e, h2]⟩
theorem RowL.lt {w : World} {v : Value} {l : List Wt} (h : RowL w v l) : ∀ k ∈ blk v, k < w.heap.size := by
  obtain ⟨rcs, sp, h1, h2, h3⟩ := h
  exact h1.lt
theorem RowL.typ {w : World} {v : Value} {l : List Wt} (h : RowL w v l) : ∀ k ∈ blk v, ∃ cs T fr, w.heap[k]? = some (.cells cs T fr) ∧ T ≠ 105 := by
  obtain ⟨rcs, sp, h1, h2, h3⟩ := h
  intro k hk
  obtain ⟨cs, hc⟩ := own_blk h1 k hk
  exact ⟨cs, 90, _, hc, by decide⟩
/-- A write more. -/
theorem wpList_append_w {w : World} {ops : Array Oper} {rest : List Oper} {o : Oper} {a : Act} {Q : Exit → Act → World → Prop} {v : Value} {l : List Wt} {x : Wt} {gw : Nat} {W0 : World} (h : RowL W0 v l) (hw : WtB W0 gw x) (hw0 : w = W0.alloc (.cells #[.pointer (some ⟨gw, 0, none⟩)] 90)) (hl : l.length ≤ 100000000)
    (hg : o.guard = none) (s y : Operand) (hop : o.op = Op.call { callee := Callee.builtin Builtin.append, args := #[s, y], argTypes := #[31, 31] }) (hs : a.eval s = v) (hx : a.eval y = .slice (some ⟨W0.heap.size, 0, none⟩) 1 1)
    (kk : ∀ v' w', RowL w' v' (l ++ [x]) → Frm (blk v) W0 w' → (∀ i ∈ blk v', i ∈ blk v ∨ W0.heap.size ≤ i) → wpList Tryd.prog ops Q rest (a.put o.dst v') w') :
    wpList Tryd.prog ops Q (o :: rest) a w := by
  subst hw0
  have hty := h.typ
  obtain ⟨rcs, sp, h1, h2, h3⟩ := h
  have f2 : Frm [] W0 (W0.alloc (.cells #[.pointer (some ⟨gw, 0, none⟩)] 90)) := (Frm.refl [] W0).alloc _
  have hsl : SlE eC 1 (W0.alloc (.cells #[.pointer (some ⟨gw, 0, none⟩)] 90)) (.slice (some ⟨W0.heap.size, 0, none⟩) 1 1) [⟨.pointer (some ⟨gw, 0, none⟩), rfl⟩] [] := SlE.of_block encC (T := 90) (heap_alloc_new _ _) rfl (by omega)
  refine Kr.wpList_append_e encC tysW (h1.keep0 f2) hsl (by simp; omega) (by omega) hg s y hop hs hx fun a' cap' w' sp' o3 f3 b3 => kk _ _ ⟨_, _, o3, by simp [h2], fun i c x' hc hx' => ?_⟩ ?_ ?_
  · have f : Frm (blk v) W0 w' := (f2.mono (L' := blk v) (by simp)).trans f3 (fun i hi => .inl hi)
    by_cases hi : i < rcs.length
    · rw [List.getElem?_append_left hi] at hc
      rw [List.getElem?_append_left (by omega)] at hx'
      obtain ⟨gw', e1, e2⟩ := h3 i c x' hc hx'
      exact ⟨gw', e1, e2.keepF f hty⟩
    · have hi3 : i = rcs.length := by
        have := (List.getElem?_eq_some_iff.1 hc).1
        simp at this
        omega
      subst hi3
      rw [List.getElem?_append_right (Nat.le_refl _), Nat.sub_self] at hc
      rw [h2, List.getElem?_append_right (Nat.le_refl _), Nat.sub_self] at hx'
      cases hc; cases hx'
      exact ⟨gw, rfl, hw.keepF f hty⟩
  · exact (f2.mono (L' := blk v) (by simp)).trans f3 (fun i hi => .inl hi)
  · exact fun i hi => (b3 i hi).imp id (fun h => by have := f2.size; omega)
theorem is71_any (gw b : Nat) (x : Wt) (d : Int) (w : World) (hb : w.cell? ⟨b, 0, none⟩ = some (.int .i64 d)) (hw : WtB w gw x) :
    Calls Tryd.prog 71 #[.pointer (some ⟨gw, 0, none⟩), .pointer (some ⟨b, 0, none⟩)] w fun e w' => e = .returned (.bool (x.dev == d)) ∧ Frm [] w w' := by
  have c0 : w.cell? ⟨gw, 0, none⟩ = some (.int .i64 x.dev) := by rw [cell_of_heap hw]; rfl
  clear hw
  have DN := Lib.hid (fun m => (Frm.refl [] w).drewN m)
  go_enter Tryd.func71, Tryd.ntmps71
  go_upto_region 1 with (fail)
  go_quiet (fail)
  go_wp2_with fail
  go_ret
  exact ⟨rfl, DN.out _⟩
def PtRel (l : List Wt) (d : Int) (w0 : World) (vt vo cv : Value) (wr : World) : Prop :=
  ∃ k, k ≤ l.length ∧ cv = .int .i64 k ∧ RowL wr vt ((l.take k).filter (·.dev == d)) ∧ RowL wr vo ((l.take k).filter fun x => !(x.dev == d)) ∧ (∀ j ∈ blk vt, w0.heap.size ≤ j ∧ j ∉ blk vo) ∧ (∀ j ∈ blk vo, w0.heap.size ≤ j) ∧ Frm [] w0 wr
def PartP (l : List Wt) (d : Int) (w : World) (e : Ending) (w' : World) : Prop := ∃ vt vo, e = .returned (.tuple #[vt, vo]) ∧ RowL w' vt (l.filter (·.dev == d)) ∧ RowL w' vo (l.filter fun x => !(x.dev == d)) ∧ (∀ j ∈ blk vt, w.heap.size ≤ j ∧ j ∉ blk vo) ∧ (∀ j ∈ blk vo, w.heap.size ≤ j) ∧ Frm [] w w'
set_option maxHeartbeats 8000000 in
theorem part_any (v : Value) (l : List Wt) (b : Nat) (d : Int) (w : World) (h : RowL w v l) (hl : l.length ≤ 100000000) (hb : w.cell? ⟨b, 0, none⟩ = some (.int .i64 d)) :
    Calls Tryd.prog 70 #[v, .func (.func 71) #[] #[.pointer (some ⟨b, 0, none⟩)]] w (PartP l d w) := by
  obtain ⟨ad, cap, rfl⟩ := h.form
  have H := Lib.hid h
  have HL := Lib.hid hl
  have HB := Lib.hid hb
  clear h hl hb
  go_enter Tryd.func70, Tryd.ntmps70
  go_upto_region 2 with (fail)
  go_loopw [4, 5, 10] (PtRel l d w) (fun _ _ c _ => l.length - (intOf c).toNat)
  case atStart => exact ⟨0, Nat.zero_le _, rfl, RowL.nil _, RowL.nil _, by simp [blk], by simp [blk], Frm.refl [] w⟩
  case round =>
    obtain ⟨k, hk, rfl, h1, h2, h3, h4, hF⟩ := hrel
    have H1 := Lib.hid h1
    have H2 := Lib.hid h2
    have H3 := Lib.hid h3
    have H4 := Lib.hid h4
    have HF := Lib.hid hF
    by_cases hlt : k < l.length
    · obtain ⟨b0, cap0, gw, e1, e2, e3⟩ := (H.out.keep0 hF).at k hlt
      have hlt9 : (k : Int) < (l.length : Int) := by omega
      have hk8 : (k : Int) < 100000000 := by have := HL.out; omega
      have HW := Lib.hid e3
      have is : ∀ q, (l[k].dev == d) = q → Calls Tryd.prog 71 #[.pointer (some ⟨gw, 0, none⟩), .pointer (some ⟨b, 0, none⟩)] wr fun e w' => e = .returned (.bool q) ∧ Frm [] wr w' := by
        rintro q rfl
        exact is71_any gw b l[k] d wr (hF.cell HB.out (by simp)) e3
      simp only [Value.slice.injEq] at e1
      obtain ⟨rfl, -, rfl⟩ := e1
      have HLT := Lib.hid hlt
      obtain ⟨q, hq⟩ : ∃ q, (l[k].dev == d) = q := ⟨_, rfl⟩
      have HQ := Lib.hid hq
      have IS := Lib.hid (is q hq)
      have TK := Lib.hid (show l.take (k + 1) = l.take k ++ [l[k]] from List.take_succ_eq_append_getElem hlt)
      clear h1 h2 h3 h4 hF e3 is hq
      cases q
      · go_wp2_with fail
        refine IS.out.mono ?_
        rintro e w2 ⟨rfl, f2⟩
        have R2 := Lib.hid (H2.out.keep0 f2)
        have W2 := Lib.hid (HW.out.keepF f2 (by simp))
        have F2 := Lib.hid f2
        have HLE := Lib.hid (show ∀ p : Wt → Bool, ((l.take k).filter p).length ≤ 100000000 from fun p => Nat.le_trans (List.length_filter_le _ _) (Nat.le_trans (by simp; omega) HL.out))
        clear f2
        obtain ⟨rad, rcap, hr⟩ := R2.out.form
        subst hr
        go_wp2_with (at_builtin; refine wpList_append_w R2.out W2.out rfl (HLE.out _) rfl (.tmp 21) (.tmp 23) rfl rfl rfl ?_; intro v3 w3 r3 f3 b3; have R3 := Lib.hid r3; have F3 := Lib.hid f3; have B3 := Lib.hid b3; clear r3 f3 b3)
        go_roundw
        case rel =>
          have f23 : Frm (blk (.slice rad ((l.take k).filter fun x => !(x.dev == d)).length rcap)) wr w3 := (F2.out.mono (by simp)).trans F3.out (fun i hi => .inl hi)
          have hty := R2.out.typ
          have hH1 := (H1.out.keep0 F2.out).keepF F3.out (fun j hj hm => (H3.out j hj).2 hm) hty
          refine ⟨k + 1, by omega, rfl, ?_, ?_, fun j hj => ⟨(H3.out j hj).1, fun hm => ?_⟩, fun j hj => ?_, HF.out.trans f23 (fun i hi => .inr (H4.out i hi))⟩
          · rw [TK.out, List.filter_append, List.filter_cons, HQ.out, if_neg (by simp), List.filter_nil, List.append_nil]
            exact hH1
          · rw [TK.out, List.filter_append, List.filter_cons, HQ.out, if_pos (by simp), List.filter_nil]
            exact R3.out
          · rcases B3.out j hm with h | h
            · exact (H3.out j hj).2 h
            · have := H1.out.lt j hj
              have := F2.out.size
              omega
          · rcases B3.out j hj with h | h
            · exact H4.out j h
            · have := F2.out.size
              have := HF.out.size
              omega
        case measure => simp [intOf]; omega
      · go_wp2_with fail
        refine IS.out.mono ?_
        rintro e w2 ⟨rfl, f2⟩
        have R2 := Lib.hid (H1.out.keep0 f2)
        have W2 := Lib.hid (HW.out.keepF f2 (by simp))
        have F2 := Lib.hid f2
        have HLE := Lib.hid (show ∀ p : Wt → Bool, ((l.take k).filter p).length ≤ 100000000 from fun p => Nat.le_trans (List.length_filter_le _ _) (Nat.le_trans (by simp; omega) HL.out))
        clear f2
        obtain ⟨rad, rcap, hr⟩ := R2.out.form
        subst hr
        go_wp2_with (at_builtin; refine wpList_append_w R2.out W2.out rfl (HLE.out _) rfl (.tmp 17) (.tmp 19) rfl rfl rfl ?_; intro v3 w3 r3 f3 b3; have R3 := Lib.hid r3; have F3 := Lib.hid f3; have B3 := Lib.hid b3; clear r3 f3 b3)
        go_roundw
        case rel =>
          have f23 : Frm (blk (.slice rad ((l.take k).filter (·.dev == d)).length rcap)) wr w3 := (F2.out.mono (by simp)).trans F3.out (fun i hi => .inl hi)
          have hty := R2.out.typ
          have hH2 := (H2.out.keep0 F2.out).keepF F3.out (fun j hj hm => (H3.out j hm).2 hj) hty
          refine ⟨k + 1, by omega, rfl, ?_, ?_, fun j hj => ?_, fun j hj => H4.out j hj, HF.out.trans f23 (fun i hi => .inr (H3.out i hi).1)⟩
          · rw [TK.out, List.filter_append, List.filter_cons, HQ.out, if_pos rfl, List.filter_nil]
            exact R3.out
          · rw [TK.out, List.filter_append, List.filter_cons, HQ.out, if_neg (by simp), List.filter_nil, List.append_nil]
            exact hH2
          · rcases B3.out j hj with h | h
            · exact H3.out j h
            · have h1 := F2.out.size
              have h2 := HF.out.size
              exact ⟨by omega, fun hm => by have := H2.out.lt j hm; omega⟩
        case measure => simp [intOf]; omega
    · obtain rfl : k = l.length := by omega
      clear h1 h2 h3 h4 hF
      go_wp2_with fail
      go_ret2
      have h1 := H1.out
      have h2 := H2.out
      rw [List.take_length] at h1 h2
      exact ⟨_, _, rfl, h1, h2, H3.out, H4.out, HF.out⟩
end Go.Proofs.YtdebnikolhhmgaaDoor

namespace Go.Proofs.YtdebnikolhhmgaaDoor
open Go.RowKit
set_option linter.unusedVariables false
set_option linter.unusedSimpArgs false
set_option maxRecDepth 100000

open Kr (OwnE SlE Enco RowTys)
def mixB (f b : FB) (n : Nat) : FB := ⟨b.1.take n ++ f.1.drop n, by simp [f.2, b.2]; omega⟩
def settleS (s : St) (x : Wt) (n : Nat) : St := setSec s x.dev x.at' fun c => ⟨mixB c.firm x.b n, none⟩
theorem slB_part {w : World} {b o n : Nat} {l : FB} (hn : n ≤ 256) (h : ∀ j u, (bvs l.1)[j]? = some u → w.cell? ⟨b, o + j, none⟩ = some u) : SlB w (.slice (some ⟨b, o, none⟩) n 256) (l.1.take n) (l.1.drop n) := by
  have hl := l.2
  have e : bvs (l.1.take n) ++ bvs (l.1.drop n) = bvs l.1 := by rw [← bvs_append, List.take_append_drop]
  refine ⟨by rw [bvs_length]; omega, .inr (.inr ⟨b, o, 256, by rw [List.length_take, hl, Nat.min_eq_left hn], by rw [List.length_take, hl]; omega, by simp only [maxLen]; omega, by rw [e, bvs_length, hl], fun j u hu => h j u (by rwa [e] at hu)⟩)⟩
theorem flt_split (scs : List Sr) (j : Nat) (hj : j < scs.length) (y : Sr) : Kr.flt eS (scs.set j y) = Kr.flt eS (scs.take j) ++ (eS y ++ Kr.flt eS (scs.drop (j + 1))) := by
  rw [List.set_eq_take_append_cons_drop, if_pos hj, Kr.flt_append, Kr.flt_cons]
theorem copy_sec (ty : TypeId) {w : World} {gs N cap : Nat} {scs : List Sr} {csp : List Value} (ho : OwnE eS 257 96 w (.slice (some ⟨gs, 0, none⟩) N cap) scs csp) (j : Nat) (hj : j < scs.length) (m : List UInt8) (hm : m.length ≤ 256) {x : Value} (hS : Src Tryd.prog 1 22 x m.length (bvs m) w) (f' : FB) (hf : f'.1 = m ++ scs[j].1.1.drop m.length) :
    ∃ w', (Builtin.copy_ #[22, 22] ty #[.slice (some ⟨gs, j * 257, none⟩) m.length 256, x]).run Tryd.prog w = .ok (goInt m.length) w' ∧ OwnE eS 257 96 w' (.slice (some ⟨gs, 0, none⟩) N cap) (scs.set j (f', scs[j].2)) csp ∧ Frm [gs] w w' := by
  obtain ⟨i, hi, hz, hs, hby⟩ := info_parts BT.info
  obtain ⟨c1, c2, c3, c4⟩ := OwnE.caps encS ho
  have hcells := hS.cells
  have hmin : Nat.min m.length m.length = m.length := Nat.min_self _
  have e0 : Kr.flt eS scs = Kr.flt eS (scs.take j) ++ (eS scs[j] ++ Kr.flt eS (scs.drop (j + 1))) := by
    have := flt_split scs j hj scs[j]
    rwa [List.set_getElem_self] at this
  have hlt : (Kr.flt eS (scs.take j)).length = j * 257 := by rw [Kr.flt_length encS]; simp [List.length_take, Nat.min_eq_left (Nat.le_of_lt hj)]
  have hle : (eS scs[j]).length = 257 := encS.len _
  have hst := run_storeCells_at Tryd.prog gs (j * 257) 96 (bvs m) 0 (Kr.flt eS scs ++ csp).toArray w ho.heap (by rw [e0]; simp [bvs_length, hlt, hle]; omega) (bvs_one m)
  simp only [Nat.add_zero] at hst
  refine ⟨w.setRow gs (Kr.flt eS (scs.set j (f', scs[j].2)) ++ csp).toArray, ?_, OwnE.of_heap encS (setRow_heap w gs _ _ _ _ ho.heap) (by simpa using c1) (by rw [c1]; exact c2) (by simpa using c3) c4, ?_⟩
  · have hb : (bvs scs[j].1.1).drop m.length = bvs (scs[j].1.1.drop m.length) := by simp [bvs, List.map_drop]
    have hcur : (Kr.flt eS scs ++ csp).take (j * 257) ++ bvs m ++ (Kr.flt eS scs ++ csp).drop (j * 257 + (bvs m).length) = Kr.flt eS (scs.set j (f', scs[j].2)) ++ csp := by
      rw [flt_split scs j hj, e0]
      simp only [List.append_assoc]
      rw [List.take_left' hlt, ← List.drop_drop, List.drop_left' hlt, bvs_length]
      unfold eS
      simp only [List.append_assoc]
      rw [List.drop_append_of_le_length (by rw [bvs_length, scs[j].1.2]; exact hm), hb]
      simp only [hf, bvs_append, List.append_assoc]
    rw [← hcur]
    simp [Builtin.copy_, run_underlying BT.sl, sizeOf, typeInfo, hi, hs, hS.len, hmin, hcells, goInt, hst, bvs_length]
  · exact ⟨rfl, rfl, rfl, by simp [World.setRow], fun k hk hn => setRow_other w gs k _ (by simpa using hn)⟩
section
variable {lo : Nat} {w : World} {sn : Nat → Addr} {g : Nat} {s : St}
set_option maxHeartbeats 8000000 in
theorem settle_any (x : Wt) (gw n : Nat) (hn : n ≤ 256) (h : Arr lo w g s) (hw : WtB w gw x) (hd : 0 ≤ x.dev ∧ x.dev < s.devs.length) (hi : x.dev.toNat < s.devs.length) (ha : 0 ≤ x.at' ∧ x.at' < s.devs[x.dev.toNat].secs.length) :
    Calls Tryd.prog 52 #[ptr g, .pointer (some ⟨gw, 0, none⟩), .int .i64 n] w fun e w' => e = .returned (.tuple #[]) ∧ Arr lo w' g (settleS s x n) ∧ Fa lo w w' ∧ ∃ L, Frm L w w' ∧ ∀ k ∈ L, ∃ cs, w.heap[k]? = some (.cells cs 96 (0, 0)) := by
  have hln : s.devs.length ≤ 9223372036854775807 := h.len
  obtain ⟨dv, rv, drs, dsp, rcs, rsp, h⟩ := h
  have hj : x.at'.toNat < s.devs[x.dev.toNat].secs.length := by omega
  have hi2 : x.dev.toNat < drs.length := by rw [h.dlen]; exact hi
  obtain ⟨gd, dcap, gs, cap2, lv, c2, c3, hsv, cl, hmx, hz⟩ := h.sec2 hi hi2 hj
  obtain ⟨e1, e2, e3, scs, csp, o1, o2, o3, o4⟩ := h.dat x.dev.toNat drs[x.dev.toNat] s.devs[x.dev.toNat] (List.getElem?_eq_getElem hi2) (List.getElem?_eq_getElem hi)
  rw [hsv] at o1
  have hj2 : x.at'.toNat < scs.length := by omega
  have q0 : w.cell? ⟨gw, 0, none⟩ = some (.int .i64 x.dev) := by rw [cell_of_heap hw]; rfl
  have q1 : w.cell? ⟨gw, 1, none⟩ = some (.int .i64 x.at') := by rw [cell_of_heap hw]; rfl
  have SA := sector_any g gd gs _ dcap _ cap2 x.dev x.at' hd ha hln hmx w.drew c2 c3
  have HNL := Lib.hid (show (x.b.1.take n).length = n by rw [List.length_take, x.b.2]; omega)
  have SR := Lib.hid (fun W (f : Frm [] w W) => show Src Tryd.prog 1 22 (.slice (some ⟨gw, 2, none⟩) n 256) (x.b.1.take n).length (bvs (x.b.1.take n)) W from by
    have hb := hw.keepF f (by simp)
    have := slB_part (w := W) (b := gw) (o := 2) (n := n) (l := x.b) hn (fun j u hu => by
      rw [cell_of_heap hb, List.getElem?_toArray, show 2 + j = j + 1 + 1 by omega, List.getElem?_cons_succ, List.getElem?_cons_succ]
      exact hu)
    have h2 := Sl.src Tryd.underlying22 this (bvs_one _)
    rw [List.length_take, x.b.2, Nat.min_eq_left hn] at h2 ⊢
    exact h2)
  have O := Lib.hid o1
  have H := Lib.hid h
  have HSV := Lib.hid hsv
  have O2 := Lib.hid o2
  have O3 := Lib.hid o3
  have O4 := Lib.hid o4
  have hn9 : (n : Int) ≤ 256 := by omega
  unfold ptr at SA ⊢
  clear h hw c2 c3 hsv cl hmx hz e1 e2 e3 o1 o2 o3 o4 hln
  go_enter Tryd.func52, Tryd.ntmps52
  go_upto_region 0 with (fail)
  refine wp_region_still_lit (by kernel_rfl) (by kernel_rfl) ?_
  change wpStill _ _ (World.drew _) _ _ _
  repeat still_step
  still_call SA
  repeat still_step
  refine wpStill_nil ?_
  change Exit.then _ _ _ _ (World.drew _)
  have OD := Lib.hid (O.out.keep0 (Frm.refl [] w).drew)
  have FD := Lib.hid ((Frm.refl [] w).drew)
  clear SA q0 q1
  generalize w.drew = D at *
  go_upto_region 1 with (fail)
  refine wp_region_held_drew (S := fun _ => True) (by kernel_rfl) (trivial) (fun hHeld => ?_)
  refine wpAnyH_take (i := 0) (oi := ⟨some 17, .move (.tmp 6), _, _, _, none⟩) (v := ?_) rfl (by kernel_rfl) (by kernel_rfl) (by kernel_rfl) (fun _ _ _ h => h) (Or.inl ⟨by rfl, ?_⟩) hHeld ?_
  rotate_left
  focus (intro z hSw; clear hSw; go_simp; try with_reducible rfl)
  try simp only [Act.put, List.setIfInBounds_toArray, List.set_cons_zero, List.set_cons_succ]
  refine wpAnyH_take (i := 1) (oi := ⟨some 18, .nilCheck (.tmp 17), _, _, _, none⟩) (v := ?_) rfl (by kernel_rfl) (by kernel_rfl) (by kernel_rfl) (fun _ _ _ h => h) (Or.inl ⟨by rfl, ?_⟩) hHeld ?_
  rotate_left
  focus (intro z hSw; clear hSw; go_simp; try with_reducible rfl)
  try simp only [Act.put, List.setIfInBounds_toArray, List.set_cons_zero, List.set_cons_succ]
  refine wpAnyH_take (i := 2) (oi := ⟨some 19, .fieldAddr 96 (.tmp 18) 0, _, _, _, none⟩) (v := ?_) rfl (by kernel_rfl) (by kernel_rfl) (by kernel_rfl) (fun _ _ _ h => h) (Or.inl ⟨by rfl, ?_⟩) hHeld ?_
  rotate_left
  focus (intro z hSw; clear hSw; go_simp; try with_reducible rfl)
  try simp only [Act.put, List.setIfInBounds_toArray, List.set_cons_zero, List.set_cons_succ]
  refine wpAnyH_take (i := 3) (oi := ⟨some 20, .move (.tmp 2), _, _, _, none⟩) (v := ?_) rfl (by kernel_rfl) (by kernel_rfl) (by kernel_rfl) (fun _ _ _ h => h) (Or.inl ⟨by rfl, ?_⟩) hHeld ?_
  rotate_left
  focus (intro z hSw; clear hSw; go_simp; try with_reducible rfl)
  try simp only [Act.put, List.setIfInBounds_toArray, List.set_cons_zero, List.set_cons_succ]
  refine wpAnyH_take (i := 4) (oi := ⟨some 21, .slice 94 (.tmp 19) none (some (.tmp 20)) none, _, _, _, none⟩) (v := ?_) rfl (by kernel_rfl) (by kernel_rfl) (by kernel_rfl) (fun _ _ _ h => h) (Or.inl ⟨by rfl, ?_⟩) hHeld ?_
  rotate_left
  focus (intro z hSw; clear hSw; go_simp; try with_reducible rfl)
  try simp only [Act.put, List.setIfInBounds_toArray, List.set_cons_zero, List.set_cons_succ]
  refine wpAnyH_take (i := 5) (oi := ⟨some 22, .move (.tmp 1), _, _, _, none⟩) (v := ?_) rfl (by kernel_rfl) (by kernel_rfl) (by kernel_rfl) (fun _ _ _ h => h) (Or.inl ⟨by rfl, ?_⟩) hHeld ?_
  rotate_left
  focus (intro z hSw; clear hSw; go_simp; try with_reducible rfl)
  try simp only [Act.put, List.setIfInBounds_toArray, List.set_cons_zero, List.set_cons_succ]
  refine wpAnyH_take (i := 6) (oi := ⟨some 23, .nilCheck (.tmp 22), _, _, _, none⟩) (v := ?_) rfl (by kernel_rfl) (by kernel_rfl) (by kernel_rfl) (fun _ _ _ h => h) (Or.inl ⟨by rfl, ?_⟩) hHeld ?_
  rotate_left
  focus (intro z hSw; clear hSw; go_simp; try with_reducible rfl)
  try simp only [Act.put, List.setIfInBounds_toArray, List.set_cons_zero, List.set_cons_succ]
  refine wpAnyH_take (i := 7) (oi := ⟨some 24, .fieldAddr 105 (.tmp 23) 2, _, _, _, none⟩) (v := ?_) rfl (by kernel_rfl) (by kernel_rfl) (by kernel_rfl) (fun _ _ _ h => h) (Or.inl ⟨by rfl, ?_⟩) hHeld ?_
  rotate_left
  focus (intro z hSw; clear hSw; go_simp; try with_reducible rfl)
  try simp only [Act.put, List.setIfInBounds_toArray, List.set_cons_zero, List.set_cons_succ]
  refine wpAnyH_take (i := 8) (oi := ⟨some 25, .move (.tmp 2), _, _, _, none⟩) (v := ?_) rfl (by kernel_rfl) (by kernel_rfl) (by kernel_rfl) (fun _ _ _ h => h) (Or.inl ⟨by rfl, ?_⟩) hHeld ?_
  rotate_left
  focus (intro z hSw; clear hSw; go_simp; try with_reducible rfl)
  try simp only [Act.put, List.setIfInBounds_toArray, List.set_cons_zero, List.set_cons_succ]
  refine wpAnyH_take (i := 9) (oi := ⟨some 26, .slice 94 (.tmp 24) none (some (.tmp 25)) none, _, _, _, none⟩) (v := ?_) rfl (by kernel_rfl) (by kernel_rfl) (by kernel_rfl) (fun _ _ _ h => h) (Or.inl ⟨by rfl, ?_⟩) hHeld ?_
  rotate_left
  focus (intro z hSw; clear hSw; go_simp; try with_reducible rfl)
  try simp only [Act.put, List.setIfInBounds_toArray, List.set_cons_zero, List.set_cons_succ]
  refine wpAnyH_ready (rs := [10]) (by kernel_rfl) (by simp) ?_
  refine AllReadyH.cons (o := ⟨some 27, .call { callee := .builtin .copy, args := #[.tmp 21, .tmp 26], argTypes := #[22, 22] }, _, _, _, none⟩) rfl (fun K hK => ?_) AllReadyH.nil
  obtain ⟨w3, r3, o3, f3⟩ := copy_sec 3 (OD.out.keep0 ((Frm.refl [] _).drew)) x.at'.toNat hj2 (x.b.1.take n) (by have := HNL.out; omega) (SR.out _ (FD.out.trans ((Frm.refl [] _).drew) (by simp))) (mixB scs[x.at'.toNat].1 x.b n) (by have := HNL.out; unfold mixB; simp only [this])
  rw [HNL.out] at r3
  refine step_val (v := goInt n) (w' := w3) rfl (by simp [execOp, resolve, invoke, builtin, r3, Result.andThen, go_sem]) ?_
  refine hK.out _ _ ?_ (fun hNext => ?_)
  · trivial
  clear hK K hHeld
  have hHeld := hNext
  clear hNext
  try simp only [Act.put, List.setIfInBounds_toArray, List.set_cons_zero, List.set_cons_succ]
  refine wpAnyH_done (by kernel_rfl) ?_ _
  have b3 := o3.heap
  have z3 := frozen_of_heap b3 (x.at'.toNat * 257 + 256)
  have hl6 : (Kr.flt eS (scs.set x.at'.toNat (mixB scs[x.at'.toNat].1 x.b n, scs[x.at'.toNat].2)) ++ csp).length > x.at'.toNat * 257 + 256 := by
    rw [List.length_append, Kr.flt_length encS, List.length_set]
    omega
  have c6 : w3.cell? ⟨gs, x.at'.toNat * 257 + 256, none⟩ = some ((Kr.flt eS (scs.set x.at'.toNat (mixB scs[x.at'.toNat].1 x.b n, scs[x.at'.toNat].2)) ++ csp)[x.at'.toNat * 257 + 256]'hl6) := by
    rw [cell_of_heap b3, List.getElem?_toArray, List.getElem?_eq_getElem hl6]
  have O33 := Lib.hid o3
  have F33 := Lib.hid f3
  clear o3 f3 b3 r3
  go_wp2_with fail
  go_end0
  have h := H.out
  have fs : Frm [gs] w3 (w3.setCell ⟨gs, x.at'.toNat * 257 + 256, none⟩ (.pointer none)) := (Frm.refl [gs] w3).setCell _ _ (.inl (by simp))
  have f : Frm (blk drs[x.dev.toNat].2.2.2.1) w (w3.setCell ⟨gs, x.at'.toNat * 257 + 256, none⟩ (.pointer none)) := by
    rw [HSV.out]
    exact ((((FD.out.trans ((Frm.refl [] D).drew) (by simp)).mono (by simp)).trans F33.out (fun i hi => .inl (by simpa [blk] using hi))).trans fs (fun i hi => .inl (by simpa [blk] using hi)))
  have hbk : ∀ k ∈ blk drs[x.dev.toNat].2.2.2.1, ∃ cs, w.heap[k]? = some (.cells cs 96 (0, 0)) := fun k hk => by
    rw [HSV.out] at hk
    exact own_blk O.out k hk
  have hfa := Fa.of_frm f (fun k hk => ⟨O2.out k hk, by obtain ⟨cs, hc⟩ := hbk k hk; exact ⟨cs, 96, _, hc, by decide⟩⟩ : ∀ k ∈ blk drs[x.dev.toNat].2.2.2.1, lo ≤ k ∧ ∃ (cs : Array Value) (T : TypeId) (fr : Nat × Nat), w.heap[k]? = some (.cells cs T fr) ∧ okT T = false)
  have hfl : (mixB scs[x.at'.toNat].1 x.b n).1.length = 256 := (mixB scs[x.at'.toNat].1 x.b n).2
  have o5 := OwnE.store encS O33.out x.at'.toNat 256 (by simpa using hj2) (by omega) (mixB scs[x.at'.toNat].1 x.b n, ⟨.pointer none, rfl⟩) (.pointer none) (by
    rw [List.getElem_set_self]
    unfold eS
    simp only
    rw [List.set_append_right _ _ (by rw [bvs_length]; omega), bvs_length, hfl]
    rfl)
  rw [List.set_set] at o5
  have hsec : SecP lo (w3.setCell ⟨gs, x.at'.toNat * 257 + 256, none⟩ (.pointer none)) drs[x.dev.toNat].2.2.2.1 (s.devs[x.dev.toNat].secs.set x.at'.toNat ⟨mixB s.devs[x.dev.toNat].secs[x.at'.toNat].firm x.b n, none⟩) := by
    refine ⟨_, csp, by rw [HSV.out]; exact o5, O2.out, by simp [O3.out], fun i q c hq hc => ?_⟩
    obtain ⟨e1, _⟩ := O4.out x.at'.toNat scs[x.at'.toNat] s.devs[x.dev.toNat].secs[x.at'.toNat] (List.getElem?_eq_getElem hj2) (List.getElem?_eq_getElem hj)
    by_cases e : i = x.at'.toNat
    · subst e
      rw [List.getElem?_set_self hj2] at hq
      rw [List.getElem?_set_self hj] at hc
      cases hq; cases hc
      exact ⟨by rw [e1], .inl ⟨rfl, rfl⟩⟩
    · rw [List.getElem?_set_ne (fun h => e h.symm)] at hq hc
      obtain ⟨e1, e2⟩ := O4.out i q c hq hc
      exact ⟨e1, e2.fa hfa⟩
  obtain ⟨h6, fa6⟩ := h.sect x.dev.toNat hi hi2 _ f hsec
  refine ⟨rfl, ?_, hfa, _, f, hbk⟩
  unfold settleS
  rw [setSec_nat hi hj]
  exact ⟨_, _, _, _, _, _, h6⟩
end
end Go.Proofs.YtdebnikolhhmgaaDoor

namespace Go.Proofs.YtdebnikolhhmgaaDoor
open Go.RowKit
set_option linter.unusedVariables false
set_option linter.unusedSimpArgs false
set_option maxRecDepth 100000

open Kr (OwnE SlE Enco RowTys)
def rowOf (s : St) (d : Int) : List Wt := s.row.filter (·.dev == d)
def takenS (s : St) (d : Int) : St := { s with row := s.row.filter fun x => !(x.dev == d) }
def TkP (lo g : Nat) (s : St) (d : Int) (w : World) (e : Ending) (w' : World) : Prop := ∃ vt, e = .returned vt ∧ RowL w' vt (rowOf s d) ∧ (∀ j ∈ blk vt, w.heap.size ≤ j) ∧ Arr lo w' g (takenS s d) ∧ Fa lo w w'
section
variable {lo : Nat} {w : World} {sn : Nat → Addr} {g : Nat} {s : St}
set_option maxHeartbeats 8000000 in
theorem takeLoose_any (d : Int) (h : Arr lo w g s) (hrow : s.row.length ≤ 100000000) : Calls Tryd.prog 51 #[ptr g, .int .i64 d] w (TkP lo g s d w) := by
  obtain ⟨dv, rv, drs, dsp, rcs, rsp, h⟩ := h
  have f1 : Frm [] w (w.alloc (.cells #[.int .i64 d] 3)) := (Frm.refl [] w).alloc _
  have hb : (w.alloc (.cells #[.int .i64 d] 3)).cell? ⟨w.heap.size, 0, none⟩ = some (.int .i64 d) := by rw [cell_of_heap (heap_alloc_new _ _)]; rfl
  have hR : RowL w rv s.row := ⟨rcs, rsp, h.row, h.rlen, h.rat⟩
  have PA := part_any rv s.row w.heap.size d _ (hR.keep0 f1) hrow hb
  obtain ⟨-, -, -, c3, -⟩ := (h.keep f1 (Other.nil w)).cells
  obtain ⟨ad, cap, hv⟩ := hR.form
  have R1 := Lib.hid (f1.heap h.rcd (by simp))
  have H := Lib.hid h
  have F1 := Lib.hid f1
  have HV := Lib.hid hv
  rw [hv] at PA c3
  unfold ptr
  clear h hb hR hv hrow f1
  go_enter Tryd.func51, Tryd.ntmps51
  go_upto_region 1 with (fail)
  generalize w.alloc (.cells #[.int .i64 d] 3) = W1 at *
  have HPA := Lib.hid PA
  clear PA
  generalize w.heap.size = gb at *
  go_wp2_with (go_at_call 70; refine HPA.out.mono ?_; rintro e w2 ⟨vt, vo, rfl, r1, r2, n1, n2, f2⟩; obtain ⟨oa, oc, rfl⟩ := r2.form; have r3 := f2.heap R1.out (by simp); have z3 := frozen_of_heap r3 3; have c33 : w2.cell? ⟨g, 3, none⟩ = some rv := (by rw [cell_of_heap r3]; rfl); have T1 := Lib.hid r1; have T2 := Lib.hid r2; have N1 := Lib.hid n1; have N2 := Lib.hid n2; have F2 := Lib.hid f2; have R3 := Lib.hid r3; clear r1 r2 n1 n2 f2 r3 HPA)
  go_ret
  have h := H.out
  have fs : Frm [g] w2 (w2.setCell ⟨g, 3, none⟩ (.slice oa (s.row.filter fun x => !(x.dev == d)).length oc)) := (Frm.refl [g] w2).setCell _ _ (.inl (by simp))
  have f : Frm (g :: blk rv) w (w2.setCell ⟨g, 3, none⟩ (.slice oa (s.row.filter fun x => !(x.dev == d)).length oc)) := ((F1.out.trans F2.out (by simp)).mono (by simp)).trans fs (fun i hi => .inl (by simp at hi; simp [hi]))
  have hgl : g < w.heap.size := lt_heap h.rcd
  have hsz := F1.out.size
  have hty : ∀ k ∈ [g], ∃ cs T fr, w2.heap[k]? = some (.cells cs T fr) ∧ T ≠ 105 := fun k hk => by simp at hk; subst hk; exact ⟨_, _, _, R3.out, by decide⟩
  have t2 := T2.out.keepF fs (fun k hk hm => by simp at hm; subst hm; have := N2.out k hk; omega) hty
  have t1 := T1.out.keepF fs (fun k hk hm => by simp at hm; subst hm; have := (N1.out k hk).1; omega) hty
  obtain ⟨rcs', rsp', k1, k2, k3⟩ := t2
  obtain ⟨h4, fa4⟩ := h.setRow (takenS s d) _ rcs' rsp' rfl f (by rw [heap_setCell_same _ R3.out]; rfl) k1 (fun k hk => .inr (by have := N2.out k hk; omega)) k2 k3
  exact ⟨_, rfl, t1, fun j hj => by have := (N1.out j hj).1; omega, ⟨_, _, _, _, _, _, h4⟩, fa4⟩
end
end Go.Proofs.YtdebnikolhhmgaaDoor

namespace Go.Proofs.YtdebnikolhhmgaaDoor
open Go.RowKit
set_option linter.unusedVariables false
set_option linter.unusedSimpArgs false
set_option maxRecDepth 100000

open Kr (OwnE SlE Enco RowTys)
def szs (s : St) : List Nat := s.devs.map fun q => q.secs.length
def inR (sz : List Nat) (x : Wt) : Prop := 0 ≤ x.dev ∧ 0 ≤ x.at' ∧ ∃ m, sz[x.dev.toNat]? = some m ∧ x.at' < m
def WfR (s : St) : Prop := ∀ x ∈ s.row, inR (szs s) x
theorem setD_szs {s : St} {d : Int} {u : Dv → Dv} (h : ∀ q, (u q).secs.length = q.secs.length) : szs (setD s d u) = szs s := by
  unfold setD
  cases e : s.devs[d.toNat]? with
  | none => rfl
  | some q =>
    obtain ⟨hi, rfl⟩ := List.getElem?_eq_some_iff.1 e
    unfold szs
    simp only
    rw [List.map_set, h]
    have e : s.devs[d.toNat].secs.length = (s.devs.map fun q => q.secs.length)[d.toNat]'(by simpa using hi) := by simp
    rw [e, List.set_getElem_self]
theorem settle_szs (s : St) (x : Wt) (n : Nat) : szs (settleS s x n) = szs s := by
  unfold settleS setSec
  refine setD_szs fun q => ?_
  simp only
  split
  · simp
  · rfl
theorem inR.use {s : St} {x : Wt} (h : inR (szs s) x) : ∃ hi : x.dev.toNat < s.devs.length, (0 ≤ x.dev ∧ x.dev < s.devs.length) ∧ (0 ≤ x.at' ∧ x.at' < s.devs[x.dev.toNat].secs.length) := by
  obtain ⟨h1, h2, m, h3, h4⟩ := h
  unfold szs at h3
  rw [List.getElem?_map] at h3
  cases e : s.devs[x.dev.toNat]? with
  | none => rw [e] at h3; cases h3
  | some q =>
    obtain ⟨hi, rfl⟩ := List.getElem?_eq_some_iff.1 e
    rw [e] at h3
    cases h3
    exact ⟨hi, ⟨h1, by omega⟩, h2, h4⟩
def settles (l : List Wt) (s : St) : St := l.foldl (fun s x => settleS s x 256) s
theorem settles_szs : ∀ (l : List Wt) (s : St), szs (settles l s) = szs s
  | [], s => rfl
  | x :: l, s => by
    have := settles_szs l (settleS s x 256)
    rw [settle_szs] at this
    exact this
def flushS (s : St) (d : Int) : St := settles (rowOf s d) (takenS s d)
theorem RowL.keep96 {w w' : World} {v : Value} {l : List Wt} {L : List Nat} (h : RowL w v l) (f : Frm L w w') (hL : ∀ k ∈ L, ∃ cs, w.heap[k]? = some (.cells cs 96 (0, 0))) : RowL w' v l := by
  refine h.keepF f (fun k hk hm => ?_) fun k hk => by obtain ⟨cs, hc⟩ := hL k hk; exact ⟨cs, 96, _, hc, by decide⟩
  obtain ⟨rcs, sp, h1, h2, h3⟩ := h
  obtain ⟨cs, hc⟩ := own_blk h1 k hk
  obtain ⟨cs', hc'⟩ := hL k hm
  rw [hc] at hc'
  cases hc'
def FlRel (lo g : Nat) (l : List Wt) (vt : Value) (s2 : St) (w0 : World) (cv : Value) (wr : World) : Prop :=
  ∃ k, k ≤ l.length ∧ cv = .int .i64 k ∧ RowL wr vt l ∧ Arr lo wr g (settles (l.take k) s2) ∧ Fa lo w0 wr
section
variable {lo : Nat} {w : World} {sn : Nat → Addr} {g : Nat} {s : St}
set_option maxHeartbeats 8000000 in
theorem Flush_any (d : Int) (hs : Sn w lo sn) (h : Arr lo w g s) (WF : WfS s) (WR : WfR s) (hrow : s.row.length ≤ 100000000) :
    Calls Tryd.prog 14 #[ptr g, .int .i64 d] w (MP lo g (mRes (dCons (nR s, s) (dCons (nD s d, s) (dCons (nT s d, s) (nStep s)))) fun s => flushS s d) w) := by
  have HS := Lib.hid hs
  have AR := Lib.hid h
  have F := Lib.hid (Frm.refl [] w)
  unfold ptr
  clear h hs
  go_enter Tryd.func14, Tryd.ntmps14
  go_wp2_with (first
    | (go_at_call 50; refine (deviceOf_any _ _).mono ?_; rintro e w5 ⟨bd, rfl, hd1, f1⟩; have F := Lib.hid (F.out.trans f1 (by simp)); have LD := Lib.hid hd1;  clear hd1 f1)
    | (go_at_call 40; refine (there_any _ _).mono ?_; rintro e w2 ⟨bt, rfl, ht1, f1⟩; have F := Lib.hid (F.out.trans f1 (by simp)); have LT := Lib.hid ht1; have LD := Lib.hid (f1.heap LD.out (by simp)); clear ht1 f1))
  refine (demand_any (r := (dCons (nR s, s) (dCons (nD s d, s) (dCons (nT s d, s) (nStep s))))) _ [_, _, _, _] _ 4 (HS.out.keep0 (F.out.alloc _)) (AR.out.keep0 (F.out.alloc _)) (Fa.refl lo _) (heap_alloc_new _ _) rfl (by simp) (Dem.cons (needR (HS.out.keep0 (F.out.alloc _))) fun hq0 => Dem.cons (needD (HS.out.keep0 (F.out.alloc _)) ((Frm.refl [] _).alloc _ |>.heap LD.out (by simp))) fun hq1 => Dem.cons (needT (HS.out.keep0 (F.out.alloc _)) ((Frm.refl [] _).alloc _ |>.heap LT.out (by simp)) (nD_ok hq1)) fun hq2 => Dem.last (needStep (HS.out.keep0 (F.out.alloc _)) WF))).mono ?_
  rintro e w9 ⟨h1, h2, h3⟩
  have HS9 := Lib.hid ((HS.out.keep0 (F.out.alloc _)).fa h3)
  have F9 := Lib.hid ((Fa.of0 (F.out.alloc _) lo).trans h3)
  have A9 := Lib.hid h2
  clear h2 h3
  rcases h1 with ⟨hq, rfl⟩ | ⟨k2, tx, hq, hk6, rfl⟩
  rotate_left
  · unfold rfu
    have HQ := Lib.hid hq
    have NU := Lib.hid (number_any HS9.out tx k2 hk6)
    clear hq
    go_wp2_with (go_at_call 42; refine NU.out.mono ?_; rintro e w10 ⟨rfl, f10⟩; have F10 := Lib.hid f10; clear f10)
    go_ret
    have hq := HQ.out
    rw [mRes_some hq]
    exact ⟨rfl, A9.out.keep0 F10.out, F9.out.trans (Fa.of0 F10.out lo)⟩
  · obtain ⟨q0, q1⟩ := dCons_of hq
    obtain ⟨q1, q2⟩ := dCons_of q1
    obtain ⟨q2, q3⟩ := dCons_of q2
    have e2 : dCons (nR s, s) (dCons (nD s d, s) (dCons (nT s d, s) (nStep s))) = (none, (nStep s).2) := by
      rw [dCons_none q0, dCons_none q1, dCons_none q2]
      exact Prod.ext q3 rfl
    rw [e2] at A9
    obtain ⟨t1, t2, t3⟩ := nStep_none q3
    have E2 := Lib.hid e2
    have A9 := Lib.hid (show Arr lo w9 g (nStep s).2 from A9.out)
    generalize (nStep s).2 = s1 at *
    have WR1 : WfR s1 := fun x hx => by
      have := WR x (by rw [← t2]; exact hx)
      unfold szs at this ⊢
      rw [t1]
      exact this
    have TK := Lib.hid (takeLoose_any d A9.out (by rw [t2]; exact hrow))
    have HIN := Lib.hid (fun (y : St) (e : szs y = szs s1) (i : Nat) (hi : i < (rowOf s1 d).length) => show inR (szs y) (rowOf s1 d)[i] from by rw [e]; exact WR1 _ (List.mem_filter.1 (List.getElem_mem hi)).1)
    have hl9 : ((rowOf s1 d).length : Int) ≤ 100000000 := by
      have : (rowOf s1 d).length ≤ s1.row.length := List.length_filter_le _ _
      rw [t2] at this
      omega
    clear hq q0 q1 q2 q3 e2 t1 t2 t3 WR WR1 WF hrow
    go_upto_region 5 with (go_at_call 51; refine TK.out.mono ?_; rintro e w10 ⟨vt, rfl, r1, n1, a1, f1⟩; obtain ⟨ta, tc, rfl⟩ := r1.form; have T1 := Lib.hid r1; have A10 := Lib.hid a1; have F10 := Lib.hid (F9.out.trans f1); clear r1 n1 a1 f1 TK)
    go_loopw [23] (FlRel lo g (rowOf s1 d) (.slice ta (rowOf s1 d).length tc) (takenS s1 d) w10) (fun c _ => (rowOf s1 d).length - (intOf c).toNat)
    case atStart => exact ⟨0, Nat.zero_le _, rfl, T1.out, A10.out, Fa.refl lo _⟩
    case round =>
      obtain ⟨k, hk, rfl, h1, h2, hF⟩ := hrel
      have H1 := Lib.hid h1
      have HF := Lib.hid hF
      by_cases hlt : k < (rowOf s1 d).length
      · obtain ⟨b0, cap0, gw, e1, e2, e3⟩ := h1.at k hlt
        have hlt9 : (k : Int) < ((rowOf s1 d).length : Int) := by omega
        simp only [Value.slice.injEq] at e1
        obtain ⟨rfl, -, rfl⟩ := e1
        obtain ⟨hi, hd, ha⟩ := (HIN.out (settles ((rowOf s1 d).take k) (takenS s1 d)) (by rw [settles_szs]; rfl) k hlt).use
        have ST : Calls Tryd.prog 52 #[ptr g, .pointer (some ⟨gw, 0, none⟩), .int .i64 256] wr _ := settle_any (rowOf s1 d)[k] gw 256 (by omega) h2 e3 hd hi ha
        have HST := Lib.hid ST
        have TK := Lib.hid (show settles ((rowOf s1 d).take (k + 1)) (takenS s1 d) = settleS (settles ((rowOf s1 d).take k) (takenS s1 d)) (rowOf s1 d)[k] 256 from by
          unfold settles
          rw [List.take_succ_eq_append_getElem hlt, List.foldl_append]
          rfl)
        clear h1 h2 hF e3 ST hi hd ha
        go_wp2_with (go_at_call 52; refine HST.out.mono ?_; rintro e w11 ⟨rfl, a2, f2, L, g2, hL⟩; have A2 := Lib.hid a2; have F2 := Lib.hid f2; have R2 := Lib.hid (H1.out.keep96 g2 hL); clear a2 f2 g2 hL HST)
        go_roundw
        case rel => exact ⟨k + 1, by omega, rfl, R2.out, by rw [TK.out]; exact A2.out, HF.out.trans F2.out⟩
        case measure => simp [intOf]; omega
      · obtain rfl : k = (rowOf s1 d).length := by omega
        have H2 := Lib.hid h2
        clear h1 h2 hF
        go_wp2_with fail
        go_ret
        have h2 := H2.out
        rw [List.take_length] at h2
        rw [E2.out]
        exact ⟨rfl, h2, F10.out.trans HF.out⟩
end
end Go.Proofs.YtdebnikolhhmgaaDoor

namespace Go.Proofs.YtdebnikolhhmgaaDoor
open Go.RowKit
set_option linter.unusedVariables false
set_option linter.unusedSimpArgs false
set_option maxRecDepth 100000

open Kr (OwnE SlE Enco RowTys)
def eB (b : Bool) : List Value := [.bool b]
theorem encB : Enco eB 1 := ⟨fun _ => rfl, fun x u hu => by simp [eB] at hu; subst hu; rfl, by omega, fun x y h => by simpa [eB] using h⟩
/-- What k of the loose writes leave, and how much of the next one that does not stay. -/
def crK (l : List Wt) (keep : List Bool) (torn : Nat) (s : St) : Nat → St × Nat
  | 0 => (s, torn)
  | k + 1 => match l[k]? with
    | none => crK l keep torn s k
    | some x => if keep[k]? = some true then (settleS (crK l keep torn s k).1 x 256, (crK l keep torn s k).2) else (settleS (crK l keep torn s k).1 x (crK l keep torn s k).2, 0)
theorem crK_le (l : List Wt) (keep : List Bool) (torn : Nat) (s : St) : ∀ k, (crK l keep torn s k).2 ≤ torn
  | 0 => Nat.le_refl _
  | k + 1 => by
    have ih := crK_le l keep torn s k
    unfold crK
    split
    · exact ih
    · split
      · exact ih
      · exact Nat.zero_le _
theorem crK_szs (l : List Wt) (keep : List Bool) (torn : Nat) (s : St) : ∀ k, szs (crK l keep torn s k).1 = szs s
  | 0 => rfl
  | k + 1 => by
    have ih := crK_szs l keep torn s k
    unfold crK
    split
    · exact ih
    · split
      · rw [settle_szs]; exact ih
      · rw [settle_szs]; exact ih
theorem setD_row (s : St) (d : Int) (u : Dv → Dv) : (setD s d u).row = s.row ∧ (setD s d u).n = s.n ∧ (setD s d u).steps = s.steps := by unfold setD; split <;> exact ⟨rfl, rfl, rfl⟩
def endQ (q : Dv) : Dv := { q with f := q.f &&& 241 }
def crashS (s : St) (keep : List Bool) (torn : Nat) : St := { (crK s.row keep torn s s.row.length).1 with devs := (crK s.row keep torn s s.row.length).1.devs.map endQ, row := [], set := false, left := 0, out := false }
theorem end_step (devs : List Dv) (k : Nat) (hk : k < devs.length) : ((devs.take k).map endQ ++ devs.drop k).set k (endQ devs[k]) = (devs.take (k + 1)).map endQ ++ devs.drop (k + 1) := by
  have hm : ((devs.take k).map endQ).length = k := by rw [List.length_map, List.length_take]; omega
  rw [List.drop_eq_getElem_cons hk, List.set_append_right _ _ (by omega), hm, Nat.sub_self, List.set_cons_zero, List.take_succ_eq_append_getElem hk, List.map_append, List.append_assoc]
  rfl
def CrRel (lo g : Nat) (l : List Wt) (keep : List Bool) (rv : Value) (torn : Nat) (s : St) (w0 : World) (tv cv : Value) (wr : World) : Prop :=
  ∃ k, k ≤ l.length ∧ cv = .int .i64 k ∧ tv = .int .i64 (crK l keep torn s k).2 ∧ RowL wr rv l ∧ Arr lo wr g (crK l keep torn s k).1 ∧ Fa lo w0 wr
def EnRel (lo g : Nat) (s : St) (dv : Value) (dsp : List Value) (w0 : World) (cv : Value) (wr : World) : Prop :=
  ∃ k drs, k ≤ s.devs.length ∧ cv = .int .i64 k ∧ ArrL lo wr g { s with devs := (s.devs.take k).map endQ ++ s.devs.drop k } dv (.slice none 0 0) drs dsp [] [] ∧ Fa lo w0 wr
section
variable {lo : Nat} {w : World} {sn : Nat → Addr} {g : Nat} {s : St}
set_option maxHeartbeats 16000000 in
theorem Crash_any (v : Value) (keep : List Bool) (ksp : List Value) (torn : Int) (hs : Sn w lo sn) (h : Arr lo w g s) (WR : WfR s) (hrow : s.row.length ≤ 100000000) (hK : ∀ w', Fa lo w w' → SlE eB 1 w' v keep ksp) :
    Calls Tryd.prog 16 #[ptr g, v, .int .i64 torn] w (MP lo g (mRes (nA (decide (0 ≤ torn) && decide (torn ≤ 255)), s) fun s => crashS s keep torn.toNat) w) := by
  obtain ⟨ka, kcap, rfl, -, -⟩ := (hK w (Fa.refl lo w)).form
  have HK := Lib.hid hK
  clear hK
  have HS := Lib.hid hs
  have AR := Lib.hid h
  have F := Lib.hid (Frm.refl [] w)
  unfold ptr
  clear h hs
  go_enter Tryd.func16, Tryd.ntmps16
  go_wp2_with (first
    | (go_at_call 46; refine (argument_any _ _).mono ?_; rintro e w4 ⟨ba, rfl, ha1, f1⟩; have F := Lib.hid (F.out.trans f1 (by simp)); have LA := Lib.hid ha1;  clear ha1 f1)
    | (go_at_call 53; refine (within_any _ _ _ _).mono ?_; rintro e w7 ⟨rfl, hw7⟩; obtain rfl := hw7.symm))
  refine (demand_any (r := (nA (decide (0 ≤ torn) && decide (torn ≤ 255)), s)) _ [_] _ 1 (HS.out.keep0 (F.out.alloc _)) (AR.out.keep0 (F.out.alloc _)) (Fa.refl lo _) (heap_alloc_new _ _) rfl (by simp) (Dem.last (needA (HS.out.keep0 (F.out.alloc _)) ((Frm.refl [] _).alloc _ |>.heap LA.out (by simp))))).mono ?_
  rintro e w9 ⟨h1, h2, h3⟩
  have HS9 := Lib.hid ((HS.out.keep0 (F.out.alloc _)).fa h3)
  have F9 := Lib.hid ((Fa.of0 (F.out.alloc _) lo).trans h3)
  have A9 := Lib.hid h2
  clear h2 h3
  rcases h1 with ⟨hq, rfl⟩ | ⟨k2, tx, hq, hk6, rfl⟩
  rotate_left
  · unfold rfu
    have HQ := Lib.hid hq
    have NU := Lib.hid (number_any HS9.out tx k2 hk6)
    clear hq
    go_wp2_with (go_at_call 42; refine NU.out.mono ?_; rintro e w10 ⟨rfl, f10⟩; have F10 := Lib.hid f10; clear f10)
    go_ret
    have hq := HQ.out
    rw [mRes_some hq]
    exact ⟨rfl, A9.out.keep0 F10.out, F9.out.trans (Fa.of0 F10.out lo)⟩
  · have hd : 0 ≤ torn ∧ torn ≤ 255 := by
      simp only [nA] at hq
      by_cases e : 0 ≤ torn ∧ torn ≤ 255
      · exact e
      · rw [if_neg (by simp; omega)] at hq; cases hq
    have e2 : (nA (decide (0 ≤ torn) && decide (torn ≤ 255)), s) = ((none, s) : Option Nat × St) := Prod.ext hq rfl
    rw [e2] at A9
    have E2 := Lib.hid e2
    have A9 := Lib.hid (show Arr lo w9 g s from A9.out)
    obtain ⟨n, rfl⟩ : ∃ n : Nat, torn = n := ⟨torn.toNat, by omega⟩
    have hn : n ≤ 255 := by omega
    obtain ⟨dv, rv, drs, dsp, rcs, rsp, h⟩ := A9.out
    have hR : RowL w9 rv s.row := ⟨rcs, rsp, h.row, h.rlen, h.rat⟩
    obtain ⟨-, -, -, c3, -⟩ := h.cells
    obtain ⟨ad, cap, hv⟩ := hR.form
    rw [hv] at c3
    have HIN := Lib.hid (fun (y : St) (e : szs y = szs s) (i : Nat) (hi : i < s.row.length) => show inR (szs y) s.row[i] from by rw [e]; exact WR _ (List.getElem_mem hi))
    have HRW := Lib.hid hrow
    have hr9 : (s.row.length : Int) ≤ 100000000 := by omega
    have T1 := Lib.hid (show RowL w9 (.slice ad s.row.length cap) s.row from hv ▸ hR)
    have HKR := Lib.hid (fun w' (f : Fa lo w9 w') => HK.out w' (F9.out.trans f))
    clear h hR hv hq e2 hrow WR hd
    go_upto_region 5 with (fail)
    go_loopw [2, 26] (CrRel lo g s.row keep (.slice ad s.row.length cap) n s w9) (fun _ c _ => s.row.length - (intOf c).toNat)
    case atStart => exact ⟨0, Nat.zero_le _, rfl, rfl, T1.out, A9.out, Fa.refl lo _⟩
    case round =>
      obtain ⟨k, hk, rfl, rfl, h1, h2, hF⟩ := hrel
      have H1 := Lib.hid h1
      have HF := Lib.hid hF
      by_cases hlt : k < s.row.length
      · obtain ⟨b0, cap0, gw, e1, e2, e3⟩ := h1.at k hlt
        have hlt9 : (k : Int) < (s.row.length : Int) := by omega
        simp only [Value.slice.injEq] at e1
        obtain ⟨rfl, -, rfl⟩ := e1
        obtain ⟨hi, hd, ha⟩ := (HIN.out _ (crK_szs s.row keep n s k) k hlt).use
        have hle := crK_le s.row keep n s k
        have ST : Calls Tryd.prog 52 #[ptr g, .pointer (some ⟨gw, 0, none⟩), .int .i64 256] wr _ := settle_any s.row[k] gw 256 (by omega) h2 e3 hd hi ha
        have SU := settle_any s.row[k] gw (crK s.row keep n s k).2 (by omega) h2 e3 hd hi ha
        have HST := Lib.hid ST
        have HSU := Lib.hid SU
        have TK := Lib.hid (show crK s.row keep n s (k + 1) = if keep[k]? = some true then (settleS (crK s.row keep n s k).1 s.row[k] 256, (crK s.row keep n s k).2) else (settleS (crK s.row keep n s k).1 s.row[k] (crK s.row keep n s k).2, 0) from by
          conv => lhs; unfold crK
          rw [List.getElem?_eq_getElem hlt])
        by_cases hkk : keep[k]? = some true
        · have hkl : k < keep.length := (List.getElem?_eq_some_iff.1 hkk).1
          obtain ⟨kb, koff, hka⟩ := (HKR.out wr hF).at (by omega)
          have ck := SlE.cell encB (hka ▸ HKR.out wr hF) k hkl 0 (u := .bool true) (by rw [(List.getElem?_eq_some_iff.1 hkk).2]; rfl)
          rw [Nat.mul_one, Nat.add_zero] at ck
          subst hka
          have hkl9 : (k : Int) < (keep.length : Int) := by omega
          rw [if_pos hkk] at TK
          clear h1 h2 hF e3 ST SU hi hd ha hle HSU hkk hkl
          go_wp2_with (go_at_call 52; refine HST.out.mono ?_; rintro e w11 ⟨rfl, a2, f2, L, g2, hL⟩; have A2 := Lib.hid a2; have F2 := Lib.hid f2; have R2 := Lib.hid (H1.out.keep96 g2 hL); clear a2 f2 g2 hL HST)
          go_roundw
          case rel => exact ⟨k + 1, by omega, rfl, by rw [TK.out], R2.out, by rw [TK.out]; exact A2.out, HF.out.trans F2.out⟩
          case measure => simp [intOf]; omega
        · rw [if_neg hkk] at TK
          by_cases hkl : k < keep.length
          · have hkf : keep[k] = false := by
              cases e : keep[k]
              · rfl
              · exact absurd (by rw [List.getElem?_eq_getElem hkl, e]) hkk
            obtain ⟨kb, koff, hka⟩ := (HKR.out wr hF).at (by omega)
            have ck := SlE.cell encB (hka ▸ HKR.out wr hF) k hkl 0 (u := .bool false) (by rw [hkf]; rfl)
            rw [Nat.mul_one, Nat.add_zero] at ck
            subst hka
            have hkl9 : (k : Int) < (keep.length : Int) := by omega
            clear h1 h2 hF e3 ST SU hi hd ha hle HST hkk hkl hkf
            go_wp2_with (go_at_call 52; refine HSU.out.mono ?_; rintro e w11 ⟨rfl, a2, f2, L, g2, hL⟩; have A2 := Lib.hid a2; have F2 := Lib.hid f2; have R2 := Lib.hid (H1.out.keep96 g2 hL); clear a2 f2 g2 hL HSU)
            go_roundw
            case rel => exact ⟨k + 1, by omega, rfl, by rw [TK.out]; rfl, R2.out, by rw [TK.out]; exact A2.out, HF.out.trans F2.out⟩
            case measure => simp [intOf]; omega
          · have hkl9 : ¬ (k : Int) < (keep.length : Int) := by omega
            clear h1 h2 hF e3 ST SU hi hd ha hle HST hkk hkl
            go_wp2_with (go_at_call 52; refine HSU.out.mono ?_; rintro e w11 ⟨rfl, a2, f2, L, g2, hL⟩; have A2 := Lib.hid a2; have F2 := Lib.hid f2; have R2 := Lib.hid (H1.out.keep96 g2 hL); clear a2 f2 g2 hL HSU)
            go_roundw
            case rel => exact ⟨k + 1, by omega, rfl, by rw [TK.out]; rfl, R2.out, by rw [TK.out]; exact A2.out, HF.out.trans F2.out⟩
            case measure => simp [intOf]; omega
      · obtain rfl : k = s.row.length := by omega
        obtain ⟨s9, hs9⟩ : ∃ x, (crK s.row keep n s s.row.length).1 = x := ⟨_, rfl⟩
        have CE := Lib.hid (show crashS s keep n = { s9 with devs := s9.devs.map endQ, row := [], set := false, left := 0, out := false } from by unfold crashS; rw [hs9])
        rw [hs9] at h2
        clear hs9
        obtain ⟨dv, rv, drs, dsp, rcs, rsp, h⟩ := h2
        obtain ⟨c0, c1, c2, c3, c4, c5, c6, c7, cz⟩ := h.cells
        have z3 := cz 3
        have z4 := cz 4
        have z5 := cz 5
        have z6 := cz 6
        obtain ⟨gd, dcap, hdv, -, -⟩ := h.own.sl.form
        have hdl := h.dlen
        have H := Lib.hid h
        clear h1 hF h c0 c1 c7 cz
        go_upto_region 13 with (fail)
        have f12 : Frm (g :: blk rv) wr ((((wr.setCell ⟨g, 3, none⟩ (.slice none 0 0)).setCell ⟨g, 4, none⟩ (.bool false)).setCell ⟨g, 5, none⟩ (.int .i64 0)).setCell ⟨g, 6, none⟩ (.bool false)) :=
          ((((Frm.refl _ wr).setCell _ _ (.inl (by simp))).setCell _ _ (.inl (by simp))).setCell _ _ (.inl (by simp))).setCell _ _ (.inl (by simp))
        obtain ⟨h12, fa12⟩ := H.out.setRow { s9 with row := [], set := false, left := 0, out := false } (.slice none 0 0) [] [] rfl f12 (by rw [heap_setCell_same _ (heap_setCell_same _ (heap_setCell_same _ (heap_setCell_same _ H.out.rcd)))]; rfl) (OwnE.nil _ _ _ _) (by simp [blk]) rfl (fun i c x hc => by simp at hc)
        clear c2 c3 c4 c5 c6 z3 z4 z5 z6
        generalize (((wr.setCell ⟨g, 3, none⟩ (.slice none 0 0)).setCell ⟨g, 4, none⟩ (.bool false)).setCell ⟨g, 5, none⟩ (.int .i64 0)).setCell ⟨g, 6, none⟩ (.bool false) = W12 at *
        obtain ⟨-, -, c2, -⟩ := h12.cells
        rw [hdv, hdl] at c2
        have H12 := Lib.hid h12
        have FA := Lib.hid (F9.out.trans (HF.out.trans fa12))
        have HDV := Lib.hid (show dv = .slice gd s9.devs.length dcap from by rw [hdv, hdl])
        have hs9l : (s9.devs.length : Int) ≤ 9223372036854775807 := by have := Arr.len (lo := lo) (w := W12) (g := g) ⟨_, _, _, _, _, _, h12⟩; simp only at this; omega
        clear h12 fa12 f12 hdv hdl
        go_upto_region 14 with (fail)
        go_loopw [64] (EnRel lo g { s9 with row := [], set := false, left := 0, out := false } dv dsp W12) (fun c _ => s9.devs.length - (intOf c).toNat)
        case atStart => exact ⟨0, drs, Nat.zero_le _, rfl, H12.out, Fa.refl lo _⟩
        case round =>
          obtain ⟨k, drs', hk, rfl, hA, hF2⟩ := hrel
          have hk : k ≤ s9.devs.length := hk
          have HF2 := Lib.hid hF2
          have HA := Lib.hid hA
          by_cases hlt : k < s9.devs.length
          · have hE : ((s9.devs.take k).map endQ ++ s9.devs.drop k).length = s9.devs.length := by rw [List.length_append, List.length_map, List.length_take, List.length_drop]; omega
            have hEk : ((s9.devs.take k).map endQ ++ s9.devs.drop k)[k]'(by rw [hE]; exact hlt) = s9.devs[k] := by
              have hm : ((s9.devs.take k).map endQ).length = k := by rw [List.length_map, List.length_take]; omega
              rw [List.getElem_append_right (by omega)]
              simp only [List.getElem_drop, hm, Nat.sub_self, Nat.add_zero]
            obtain ⟨gd', dcap', -, hdv', d0, -, -, -, -, dz⟩ := hA.dev k (by simpa only [hE] using hlt)
            have hgd := HDV.out.symm.trans hdv'
            simp only [Value.slice.injEq] at hgd
            obtain ⟨rfl, -, rfl⟩ := hgd
            simp only [hEk] at d0
            have hfb := hA.fb _ (List.getElem_mem (by simpa only [hE] using hlt))
            simp only [hEk] at hfb
            obtain ⟨-, -, c2, -⟩ := hA.cells
            rw [HDV.out] at c2
            have EF := endF_any gd' (k * 4) s9.devs[k].f 14 hfb.1 (by omega) wr d0 (dz _)
            rw [show (255 - 14 : Nat) = 241 from rfl] at EF
            have HEF := Lib.hid EF
            obtain ⟨⟨drs3, k1⟩, k2⟩ := hA.flag' k (by simpa only [hE] using hlt) (s9.devs[k].f &&& 241) gd' dcap (by rw [HDV.out]; simp only [hE]) (and_lt _ _ hfb.1) (fun e => by simp only [hEk]; exact hfb.2.2.2 (and8 _ _ e))
            have K1 := Lib.hid k1
            have K2 := Lib.hid k2
            have ES := Lib.hid (show ((s9.devs.take k).map endQ ++ s9.devs.drop k).set k { ((s9.devs.take k).map endQ ++ s9.devs.drop k)[k]'(by rw [hE]; exact hlt) with f := s9.devs[k].f &&& 241 } = (s9.devs.take (k + 1)).map endQ ++ s9.devs.drop (k + 1) from by
              rw [hEk]
              exact end_step s9.devs k hlt)
            have hlt9 : (k : Int) < (s9.devs.length : Int) := by omega
            clear hA hF2 d0 dz hfb EF k1 k2 hdv'
            go_wp2_with (go_at_call 54; refine HEF.out.mono ?_; rintro e w11 ⟨rfl, rfl⟩)
            go_roundw
            case rel =>
              refine ⟨k + 1, drs3, by show k + 1 ≤ s9.devs.length; omega, rfl, ?_, HF2.out.trans K2.out⟩
              have h := K1.out
              rw [ES.out] at h
              exact h
            case measure => simp [intOf]; omega
          · obtain rfl : k = s9.devs.length := by omega
            clear hA hF2
            go_wp2_with fail
            go_ret
            have hA := HA.out
            simp only [List.take_length, List.drop_length, List.append_nil] at hA
            have e5 : (nA (decide ((n : Int) ≤ 255)), s) = ((none, s) : Option Nat × St) := Prod.ext (by unfold nA; rw [decide_eq_true (by omega)]; rfl) rfl
            rw [e5]
            refine ⟨rfl, show Arr lo _ g (crashS s keep n) from ?_, FA.out.trans HF2.out⟩
            rw [CE.out]
            exact ⟨_, _, _, _, _, _, hA⟩
end
end Go.Proofs.YtdebnikolhhmgaaDoor

namespace Go.Proofs.YtdebnikolhhmgaaDoor
open Go.RowKit
set_option linter.unusedVariables false
set_option linter.unusedSimpArgs false
set_option maxRecDepth 100000

open Kr (OwnE SlE Enco RowTys)
theorem code_ne (k : Nat) : code k ≠ 0 := by unfold code; split <;> decide
theorem Same_any (v x : Value) (l sp m msp : List UInt8) (w : World) (h1 : SlB w v l sp) (h2 : SlB w x m msp) :
    Calls Tryd.prog 36 #[v, x] w fun r w' => r = .returned (.bool (l == m)) ∧ w' = w := by
  obtain ⟨a, cap, rfl, _, _⟩ := h1.form
  obtain ⟨a2, cap2, rfl, _, _⟩ := h2.form
  have e1 := convert_bytes BT h1 Tryd.underlying9
  have e2 := convert_bytes BT h2 Tryd.underlying9
  go_enter Tryd.func36, Tryd.ntmps36
  go_wp2
  go_ret
  exact ⟨rfl, rfl⟩
def ofL (b : UInt8) : List UInt8 := List.replicate 256 b
def OfRel (b : UInt8) (g : Nat) (w : World) (cv : Value) (wr : World) : Prop :=
  ∃ k : Nat, k ≤ 256 ∧ cv = .int .i64 k ∧ OwnB 5 wr (.slice (some ⟨g, 0, none⟩) 256 256) (List.replicate k b ++ List.replicate (256 - k) 0) [] ∧ Frm [] w wr
def OfP (b : UInt8) (w : World) (e : Ending) (w' : World) : Prop := ∃ g, e = .returned (.slice (some ⟨g, 0, none⟩) 256 256) ∧ OwnB 5 w' (.slice (some ⟨g, 0, none⟩) 256 256) (ofL b) [] ∧ w.heap.size ≤ g ∧ Frm [] w w'
set_option maxHeartbeats 4000000 in
theorem of_any (b : UInt8) (w : World) : Calls Tryd.prog 29 #[.int .u8 (b.toNat : Int)] w (OfP b w) := by
  have HB := Lib.hid (show bv b = .int .u8 (b.toNat : Int) from rfl)
  generalize (b.toNat : Int) = x at *
  go_enter Tryd.func29, Tryd.ntmps29
  go_upto_region 3 with (at_make; refine wpList_make_bytes BT 256 (by omega) rfl (.const (.int .i64 256)) (.const (.int .i64 256)) rfl rfl rfl rfl rfl ?_; intro w1 o1 f1)
  have O1 := Lib.hid o1
  have F1 := Lib.hid f1
  clear o1 f1
  go_loopw [4] (OfRel b w.heap.size w) (fun c _ => 256 - (intOf c).toNat)
  case atStart => exact ⟨0, by omega, rfl, by simpa using O1.out, F1.out⟩
  case round =>
    obtain ⟨k, hk, rfl, hO, hF⟩ := hrel
    have HO := Lib.hid hO
    have HF := Lib.hid hF
    by_cases hlt : k < 256
    · have hlt9 : (k : Int) < 256 := by omega
      have ck := hO.cell k (by simp; omega)
      have zk := hO.frozen k
      clear hO hF
      go_wp2_with fail
      go_roundw
      case rel =>
        have hs : (List.replicate k b ++ List.replicate (256 - k) (0 : UInt8)).set k b = List.replicate (k + 1) b ++ List.replicate (256 - (k + 1)) 0 := by
          rw [List.set_append_right _ _ (by simp), List.length_replicate, Nat.sub_self, show 256 - k = (256 - (k + 1)) + 1 by omega, List.replicate_succ (n := 256 - (k + 1)), List.set_cons_zero, List.replicate_succ', List.append_assoc]
          rfl
        have o := HO.out.store k (by simp; omega) b HB.out.symm
        rw [hs] at o
        exact ⟨k + 1, by omega, by go_num, o, HF.out.trans ((Frm.refl [w.heap.size] wr).setCell _ _ (.inl (by simp))) (fun i hi => .inr (by simp at hi; omega))⟩
      case measure => simp [intOf]; omega
    · obtain rfl : k = 256 := by omega
      clear hO hF
      go_wp2_with fail
      go_ret
      exact ⟨_, rfl, by simpa [ofL] using HO.out, Nat.le_refl _, HF.out⟩
end Go.Proofs.YtdebnikolhhmgaaDoor

namespace Go.Proofs.YtdebnikolhhmgaaDoor
open Go.RowKit
set_option linter.unusedVariables false
set_option linter.unusedSimpArgs false
set_option maxRecDepth 100000

open Kr (OwnE SlE Enco RowTys)
theorem own_st {lo : Nat} {w w' : World} {v : Value} {l sp : List UInt8} (h : OwnB 5 w v l sp) (f : Fa lo w w') : SlB w' v l sp := Own.sl (own_fa h f (by decide))
def rdR (s : St) (d a : Int) : Option Nat × St := dCons (nR s, s) (dCons (nS s d a, s) (dCons (nT s d, s) (nFail s d)))
def pkR (s : St) (d a : Int) : Option Nat := (dCons (nR s, s) (dCons (nS s d a, s) (nT s d, s))).1
section
variable {lo : Nat} {w : World} {sn : Nat → Addr} {g : Nat} {s : St}
theorem made_any (hs : Sn w lo sn) (hlo : lo ≤ w.heap.size) : Calls Tryd.prog 28 #[] w fun e w' => ∃ g, e = .returned (.pointer (some ⟨g, 0, none⟩)) ∧ Arr lo w' g (newS 8 2) ∧ Fa lo w w' := by
  have N := New_yes (lo := lo) (w := w) (sn := sn) 2 8 hs hlo (by omega) (by omega)
  have HN := Lib.hid N
  clear N hs hlo
  go_enter Tryd.func28, Tryd.ntmps28
  go_wp2_with (go_at_call 31; refine HN.out.mono ?_; rintro e w1 ⟨g, rfl, a1, f1⟩; have A1 := Lib.hid a1; have F1 := Lib.hid f1; clear a1 f1)
  go_ret
  exact ⟨g, rfl, A1.out, F1.out⟩
set_option maxHeartbeats 4000000 in
theorem reads_any (d a : Int) (v : Value) (l sp : List UInt8) (hs : Sn w lo sn) (h : Arr lo w g s) (WF : WfS s) (WD : WfD s) (hS : ∀ w', Fa lo w w' → SlB w' v l sp) :
    Calls Tryd.prog 30 #[ptr g, .int .i64 d, .int .i64 a, v] w fun e w' => e = .returned (.bool (decide ((rdR s d a).1 = none) && (tellAt s d a == l))) ∧ Arr lo w' g (rdR s d a).2 ∧ Fa lo w w' := by
  have R := Read_any d a hs h WF WD
  rw [show dCons (nR s, s) (dCons (nS s d a, s) (dCons (nT s d, s) (nFail s d))) = rdR s d a from rfl] at R
  obtain ⟨va, vc, rfl, -, -⟩ := (hS w (Fa.refl lo w)).form
  have HS := Lib.hid hS
  have HR := Lib.hid R
  unfold ptr at HR ⊢
  clear R hS hs h WF WD
  go_enter Tryd.func30, Tryd.ntmps30
  go_upto_region 1 with (fail)
  go_wp2_with fail
  refine HR.out.mono ?_
  rintro e w1 ⟨⟨hn, ra, rc, rsp, rfl, ho⟩ | ⟨k, hk, rfl⟩, a1, f1⟩
  · have SM := Lib.hid (Same_any _ _ _ _ _ _ w1 ho.sl (HS.out w1 f1))
    have A1 := Lib.hid a1
    have F1 := Lib.hid f1
    have HN := Lib.hid hn
    clear hn ho a1 f1
    go_wp2_with (go_at_call 36; refine SM.out.mono ?_; rintro e w2 ⟨rfl, hw2⟩; obtain rfl := hw2.symm)
    go_ret
    exact ⟨by rw [HN.out]; simp, A1.out, F1.out⟩
  · have hc := code_ne k
    have A1 := Lib.hid a1
    have F1 := Lib.hid f1
    have HK := Lib.hid hk
    have hc2 : (code k == 0) = false := by simpa using hc
    clear hk a1 f1 hc
    go_wp2_with fail
    go_ret
    exact ⟨by rw [HK.out]; simp, A1.out, F1.out⟩
end
end Go.Proofs.YtdebnikolhhmgaaDoor

namespace Go.Proofs.YtdebnikolhhmgaaDoor
open Go.RowKit
set_option linter.unusedVariables false
set_option linter.unusedSimpArgs false
set_option maxRecDepth 100000

open Kr (OwnE SlE Enco RowTys)
structure Wf (K : Nat) (s : St) : Prop where
  l0 : 0 ≤ s.left
  l1 : s.left ≤ 9223372036854775807
  s0 : 0 ≤ s.steps
  s1 : s.steps ≤ K
  n1 : s.n ≤ 1000000
  rw : s.row.length ≤ K
  fd : WfD s
  fx : WfX s
  fr : WfR s
theorem Wf.wfs {K : Nat} {s : St} (h : Wf K s) (hK : K ≤ 100000000) : WfS s := ⟨h.l0, h.l1, h.s0, by have := h.s1; omega, h.n1⟩
theorem Wf.row {K : Nat} {s : St} (h : Wf K s) (hK : K ≤ 100000000) : s.row.length ≤ 100000000 := Nat.le_trans h.rw hK
theorem Wf.mono {K K' : Nat} {s : St} (h : Wf K s) (hK : K ≤ K') : Wf K' s := ⟨h.l0, h.l1, h.s0, by have := h.s1; omega, h.n1, Nat.le_trans h.rw hK, h.fd, h.fx, h.fr⟩
/-- Devices changed, their sectors' number kept. -/
theorem Wf.devs {K : Nat} {s : St} (h : Wf K s) (ds : List Dv) (h0 : ds.map (fun q => q.secs.length) = szs s) (h1 : ∀ q ∈ ds, (q.f &&& 1) = 0 → q.secs.length = s.n) (h2 : ∀ q ∈ ds, (q.f &&& 4) ≠ 0 → 0 ≤ q.str ∧ q.str < s.n) : Wf K { s with devs := ds } :=
  ⟨h.l0, h.l1, h.s0, h.s1, h.n1, h.rw, h1, h2, fun x hx => by have := h.fr x hx; rw [show szs { s with devs := ds } = szs s from h0]; exact this⟩
theorem Wf.setD {K : Nat} {s : St} (h : Wf K s) (d : Int) (u : Dv → Dv) (h1 : ∀ q ∈ s.devs, (u q).secs.length = q.secs.length) (h2 : ∀ q ∈ s.devs, ((u q).f &&& 1) = 0 → (q.f &&& 1) = 0) (h3 : ∀ q ∈ s.devs, ((u q).f &&& 4) ≠ 0 → 0 ≤ (u q).str ∧ (u q).str < s.n) : Wf K (setD s d u) := by
  unfold YtdebnikolhhmgaaDoor.setD
  cases e : s.devs[d.toNat]? with
  | none => exact h
  | some q =>
    obtain ⟨hi, rfl⟩ := List.getElem?_eq_some_iff.1 e
    have hm := List.getElem_mem hi
    refine h.devs _ ?_ (fun q hq hf => ?_) (fun q hq hf => ?_)
    · unfold szs
      rw [List.map_set, h1 _ hm]
      have e : s.devs[d.toNat].secs.length = (s.devs.map fun q => q.secs.length)[d.toNat]'(by simpa using hi) := by simp
      rw [e, List.set_getElem_self]
    · rcases List.mem_or_eq_of_mem_set hq with hq | rfl
      · exact h.fd q hq hf
      · rw [h1 _ hm]; exact h.fd _ hm (h2 _ hm hf)
    · rcases List.mem_or_eq_of_mem_set hq with hq | rfl
      · exact h.fx q hq hf
      · exact h3 _ hm hf
theorem Wf.flags {K : Nat} {s : St} (h : Wf K s) (d : Int) (u : Nat → Nat) (h2 : ∀ f, ((u f) &&& 1) = 0 → (f &&& 1) = 0) (h3 : ∀ f, ((u f) &&& 4) ≠ 0 → (f &&& 4) ≠ 0) : Wf K (YtdebnikolhhmgaaDoor.setD s d fun q => { q with f := u q.f }) :=
  h.setD d _ (fun q hq => rfl) (fun q hq e => h2 _ e) (fun q hq e => h.fx q hq (h3 _ e))
theorem Wf.setSec {K : Nat} {s : St} (h : Wf K s) (d a : Int) (u : Sc → Sc) : Wf K (YtdebnikolhhmgaaDoor.setSec s d a u) :=
  h.setD d _ (fun q hq => by simp only; split <;> simp) (fun q hq e => e) (fun q hq e => h.fx q hq e)
theorem Wf.rows {K K' : Nat} {s : St} (h : Wf K s) (r : List Wt) (hK : K ≤ K') (hr : r.length ≤ K') (hx : ∀ x ∈ r, inR (szs s) x) : Wf K' { s with row := r } :=
  ⟨h.l0, h.l1, h.s0, by have := h.s1; simp only; omega, h.n1, hr, h.fd, h.fx, hx⟩
theorem Wf.settle {K : Nat} {s : St} (h : Wf K s) (x : Wt) (n : Nat) : Wf K (settleS s x n) := h.setSec _ _ _
theorem Wf.settles {K : Nat} : ∀ (l : List Wt) (s : St), Wf K s → Wf K (settles l s)
  | [], s, h => h
  | x :: l, s, h => Wf.settles l _ (h.settle x 256)
theorem Wf.flush {K : Nat} {s : St} (h : Wf K s) (d : Int) : Wf K (flushS s d) :=
  Wf.settles _ _ (h.rows _ (Nat.le_refl _) (Nat.le_trans (List.length_filter_le _ _) h.rw) fun x hx => h.fr x (List.mem_filter.1 hx).1)
theorem Wf.crK {K : Nat} {s : St} (h : Wf K s) (l : List Wt) (keep : List Bool) (torn : Nat) : ∀ k, Wf K (crK l keep torn s k).1
  | 0 => h
  | k + 1 => by
    have ih := h.crK l keep torn k
    unfold YtdebnikolhhmgaaDoor.crK
    split
    · exact ih
    · split
      · exact ih.settle _ _
      · exact ih.settle _ _
theorem Wf.crash {K : Nat} {s : St} (h : Wf K s) (keep : List Bool) (torn : Nat) : Wf K (crashS s keep torn) := by
  have h1 := (h.crK s.row keep torn s.row.length)
  have h2 := h1.devs ((YtdebnikolhhmgaaDoor.crK s.row keep torn s s.row.length).1.devs.map endQ) (by unfold szs endQ; simp [Function.comp_def]) (fun q hq hf => by
      obtain ⟨p, hp, rfl⟩ := List.mem_map.1 hq
      refine h1.fd p hp ?_
      have : ((p.f &&& 241) &&& 1) = 0 := hf
      rwa [Nat.and_assoc, show (241 &&& 1 : Nat) = 1 from by decide] at this) (fun q hq hf => by
      obtain ⟨p, hp, rfl⟩ := List.mem_map.1 hq
      have : ((p.f &&& 241) &&& 4) ≠ 0 := hf
      rw [Nat.and_assoc, show (241 &&& 4 : Nat) = 0 from by decide, Nat.and_zero] at this
      exact absurd rfl this)
  exact ⟨Int.le_refl _, by show (0 : Int) ≤ _; omega, h2.s0, h2.s1, h2.n1, Nat.zero_le _, h2.fd, h2.fx, fun x hx => by cases hx⟩
theorem Wf.step {K : Nat} {s : St} (h : Wf K s) : Wf (K + 1) (nStep s).2 := by
  unfold nStep
  split
  · exact ⟨h.l0, h.l1, h.s0, by have := h.s1; simp only; omega, h.n1, by have := h.rw; simp only; omega, h.fd, h.fx, h.fr⟩
  · rename_i hq
    refine ⟨?_, ?_, by have := h.s0; simp only; omega, by have := h.s1; simp only; omega, h.n1, by have := h.rw; simp only; omega, h.fd, h.fx, h.fr⟩
    · simp only
      split
      · rename_i hs
        have : s.left ≠ 0 := fun e => hq ⟨hs, e⟩
        have := h.l0
        omega
      · exact h.l0
    · simp only
      have := h.l1
      split <;> omega
theorem dCons_ind {P : St → Prop} {r1 r : Option Nat × St} (h1 : P r1.2) (h2 : P r.2) : P (dCons r1 r).2 := by unfold dCons; split; exact h2; exact h1
theorem mRes_ind {P : St → Prop} {r : Option Nat × St} {k : St → St} (h1 : P r.2) (h2 : r.1 = none → P (k r.2)) : P (mRes r k).2 := by
  unfold mRes
  split
  · rename_i e; exact h2 e
  · exact h1
def wrR (s : St) (d a : Int) (l : List UInt8) : Int × St := mRes (dCons (nR s, s) (dCons (nS s d a, s) (dCons (nA ((l.length : Int) == 256), s) (dCons (nT s d, s) (nStep s))))) fun s => wrK s d a l
def flR (s : St) (d : Int) : Int × St := mRes (dCons (nR s, s) (dCons (nD s d, s) (dCons (nT s d, s) (nStep s)))) fun s => flushS s d
def crR (s : St) (keep : List Bool) (torn : Int) : Int × St := mRes (nA (decide (0 ≤ torn) && decide (torn ≤ 255)), s) fun s => crashS s keep torn.toNat
def loR (s : St) (d : Int) : Int × St := mRes (dCons (nD s d, s) (nT s d, s)) fun s => devF s d 2
theorem Wf.lose {K : Nat} {s : St} (h : Wf K s) (d : Int) : Wf K (loR s d).2 :=
  mRes_ind (dCons_ind h h) fun e => by
    rw [show (dCons (nD s d, s) (nT s d, s)).2 = s from dCons_ind (P := fun x => x = s) rfl rfl]
    exact h.flags d (fun f => f ||| 2) (fun f e => by rw [Nat.and_or_distrib_right, show (2 &&& 1 : Nat) = 0 from by decide, Nat.or_zero] at e; exact e) (fun f e => by rw [Nat.and_or_distrib_right, show (2 &&& 4 : Nat) = 0 from by decide, Nat.or_zero] at e; exact e)
theorem Wf.crR {K : Nat} {s : St} (h : Wf K s) (keep : List Bool) (torn : Int) : Wf K (crR s keep torn).2 := mRes_ind h fun _ => h.crash _ _
theorem Wf.flR {K : Nat} {s : St} (h : Wf K s) (d : Int) : Wf (K + 1) (flR s d).2 :=
  have hh := h.mono (Nat.le_succ K)
  have h2 : Wf (K + 1) (dCons (nR s, s) (dCons (nD s d, s) (dCons (nT s d, s) (nStep s)))).2 := dCons_ind hh (dCons_ind hh (dCons_ind hh h.step))
  mRes_ind h2 fun _ => h2.flush d
theorem Wf.rdR {K : Nat} {s : St} (h : Wf K s) (d a : Int) : Wf K (rdR s d a).2 := by
  refine dCons_ind h (dCons_ind h (dCons_ind h ?_))
  unfold nFail
  split
  · refine h.setD d _ (fun q hq => rfl) (fun q hq e => ?_) (fun q hq e => ?_)
    · unfold failD failF at e
      simp only at e
      split at e
      · rw [Nat.and_or_distrib_right, show (8 &&& 1 : Nat) = 0 from by decide, Nat.or_zero] at e; exact e
      · rw [Nat.and_assoc, show (255 - 8 &&& 1 : Nat) = 1 from by decide] at e; exact e
    · refine h.fx q hq ?_
      unfold failD failF at e
      simp only at e
      split at e
      · rw [Nat.and_or_distrib_right, show (8 &&& 4 : Nat) = 0 from by decide, Nat.or_zero] at e; exact e
      · rw [Nat.and_assoc, show (255 - 8 &&& 4 : Nat) = 4 from by decide] at e; exact e
  · exact h
end Go.Proofs.YtdebnikolhhmgaaDoor

namespace Go.Proofs.YtdebnikolhhmgaaDoor
open Go.RowKit
set_option linter.unusedVariables false
set_option linter.unusedSimpArgs false
set_option maxRecDepth 100000

open Kr (OwnE SlE Enco RowTys)
theorem strayAt_in {K : Nat} {s : St} (h : Wf K s) {d a : Int} (ha : 0 ≤ a ∧ a < s.n) : 0 ≤ strayAt s d a ∧ strayAt s d a < s.n := by
  unfold strayAt
  cases e : s.devs[d.toNat]? with
  | none => exact ha
  | some q =>
    simp only
    split
    · rename_i hf
      refine h.fx q (List.mem_of_getElem? e) ?_
      rw [Nat.and_assoc, show (253 &&& 4 : Nat) = 4 from by decide] at hf
      simpa using hf
    · exact ha
theorem usedS_szs (s : St) (d : Int) : szs (usedS s d) = szs s := setD_szs fun q => rfl
theorem Wf.used {K : Nat} {s : St} (h : Wf K s) (d : Int) : Wf K (usedS s d) :=
  h.flags d (fun f => (f &&& 253) &&& 251) (fun f e => by rw [Nat.and_assoc, Nat.and_assoc, show (253 &&& (251 &&& 1) : Nat) = 1 from by decide] at e; exact e) (fun f e => by
    rw [Nat.and_assoc, Nat.and_assoc, show (253 &&& (251 &&& 4) : Nat) = 0 from by decide, Nat.and_zero] at e
    exact absurd rfl e)
theorem Wf.lay {K : Nat} {s : St} (h : Wf (K + 1) s) (hr : s.row.length ≤ K) (d a : Int) (b : FB) (hx : inR (szs s) ⟨d, a, b⟩) : Wf (K + 1) (layS s d a b) := by
  unfold layS
  exact (h.rows (s.row ++ [(⟨d, a, b⟩ : Wt)]) (Nat.le_refl _) (by simp; omega) fun x hm => by
    rcases List.mem_append.1 hm with hm | hm
    · exact h.fr x hm
    · rw [List.mem_singleton.1 hm]; exact hx).setSec d a _
theorem Wf.wrR {K : Nat} {s : St} (h : Wf K s) (d a : Int) (l : List UInt8) : Wf (K + 1) (wrR s d a l).2 := by
  have hh := h.mono (Nat.le_succ K)
  have h2 : Wf (K + 1) (dCons (nR s, s) (dCons (nS s d a, s) (dCons (nA ((l.length : Int) == 256), s) (dCons (nT s d, s) (nStep s))))).2 := dCons_ind hh (dCons_ind hh (dCons_ind hh (dCons_ind hh h.step)))
  refine mRes_ind h2 fun hq => ?_
  obtain ⟨q0, q1⟩ := dCons_of hq
  obtain ⟨q1, q2⟩ := dCons_of q1
  obtain ⟨q2, q3⟩ := dCons_of q2
  obtain ⟨q3, q4⟩ := dCons_of q3
  rw [dCons_none q0, dCons_none q1, dCons_none q2, dCons_none q3]
  obtain ⟨t1, t2, t3⟩ := nStep_none q4
  have h1 := h.step
  have hr1 : (nStep s).2.row.length ≤ K := by rw [t2]; exact h.rw
  obtain ⟨hi, hd0, hd9⟩ := okD_at (nS_ok q1).1
  obtain ⟨hj, ha0, ha9⟩ := okA_at (nS_ok q1).2
  have hlen := nT_len h.fd hi q3
  have hz : szs (nStep s).2 = szs s := by unfold szs; rw [t1]
  generalize (nStep s).2 = s1 at *
  unfold wrK
  split
  · rename_i hl
    unfold wrS
    split
    · exact h1.flags d (fun f => f &&& 253) (fun f e => by rw [Nat.and_assoc, show (253 &&& 1 : Nat) = 1 from by decide] at e; exact e) (fun f e => by rw [Nat.and_assoc, show (253 &&& 4 : Nat) = 4 from by decide] at e; exact e)
    · have hst := strayAt_in h1 (d := d) (a := a) (by rw [t3]; exact ⟨ha0, ha9⟩)
      refine (h1.used d).lay (by unfold usedS; rw [(setD_row _ _ _).1]; exact hr1) d _ _ ⟨hd0, hst.1, s.n, ?_, by rw [← t3]; exact hst.2⟩
      rw [usedS_szs, hz]
      unfold szs
      rw [List.getElem?_map, List.getElem?_eq_getElem hi, ← hlen]
      rfl
  · exact h1
end Go.Proofs.YtdebnikolhhmgaaDoor

namespace Go.Proofs.YtdebnikolhhmgaaDoor
open Go.RowKit
set_option linter.unusedVariables false
set_option linter.unusedSimpArgs false
set_option maxRecDepth 100000

open Kr (OwnE SlE Enco RowTys)

section
variable {lo : Nat} {w : World} {sn : Nat → Addr} {g K : Nat} {s : St}
theorem wr_at (hs : Sn w lo sn) (h : Arr lo w g s) (wf : Wf K s) (hK : K ≤ 100000000) (d a : Int) (v : Value) (l sp : List UInt8) (hS : ∀ w', Fa lo w w' → SlB w' v l sp) :
    Calls Tryd.prog 13 #[.pointer (some ⟨g, 0, none⟩), .int .i64 d, .int .i64 a, v] w fun e w' => e = .returned (.int .i64 (wrR s d a l).1) ∧ Arr lo w' g (wrR s d a l).2 ∧ Fa lo w w' := Write_any d a v l sp hs h (wf.wfs hK) wf.fd wf.fx (wf.row hK) hS
theorem fl_at (hs : Sn w lo sn) (h : Arr lo w g s) (wf : Wf K s) (hK : K ≤ 100000000) (d : Int) :
    Calls Tryd.prog 14 #[.pointer (some ⟨g, 0, none⟩), .int .i64 d] w fun e w' => e = .returned (.int .i64 (flR s d).1) ∧ Arr lo w' g (flR s d).2 ∧ Fa lo w w' := Flush_any d hs h (wf.wfs hK) wf.fr (wf.row hK)
theorem cr_at (hs : Sn w lo sn) (h : Arr lo w g s) (wf : Wf K s) (hK : K ≤ 100000000) (v : Value) (keep : List Bool) (ksp : List Value) (torn : Int) (hV : ∀ w', Fa lo w w' → SlE eB 1 w' v keep ksp) :
    Calls Tryd.prog 16 #[.pointer (some ⟨g, 0, none⟩), v, .int .i64 torn] w fun e w' => e = .returned (.int .i64 (crR s keep torn).1) ∧ Arr lo w' g (crR s keep torn).2 ∧ Fa lo w w' := Crash_any v keep ksp torn hs h wf.fr (wf.row hK) hV
theorem lo_at (hs : Sn w lo sn) (h : Arr lo w g s) (d : Int) :
    Calls Tryd.prog 18 #[.pointer (some ⟨g, 0, none⟩), .int .i64 d] w fun e w' => e = .returned (.int .i64 (loR s d).1) ∧ Arr lo w' g (loR s d).2 ∧ Fa lo w w' := Lose_any d hs h
theorem rd_at (hs : Sn w lo sn) (h : Arr lo w g s) (wf : Wf K s) (hK : K ≤ 100000000) (d a : Int) (v : Value) (l sp : List UInt8) (hS : ∀ w', Fa lo w w' → SlB w' v l sp) :
    Calls Tryd.prog 30 #[.pointer (some ⟨g, 0, none⟩), .int .i64 d, .int .i64 a, v] w fun e w' => e = .returned (.bool (decide ((rdR s d a).1 = none) && (tellAt s d a == l))) ∧ Arr lo w' g (rdR s d a).2 ∧ Fa lo w w' := reads_any d a v l sp hs h (wf.wfs hK) wf.fd hS
theorem of_at (b : UInt8) (x : Int) (hx : x = (b.toNat : Int)) : Calls Tryd.prog 29 #[.int .u8 x] w fun e w' => ∃ v, e = .returned v ∧ (∀ w2, Fa lo w' w2 → SlB w2 v (ofL b) []) ∧ Frm [] w w' := by
  subst hx
  refine (of_any b w).mono ?_
  rintro e w' ⟨g, rfl, ho, hg, f⟩
  exact ⟨_, rfl, fun w2 f2 => own_st ho f2, f⟩
end
theorem new_wf (n k : Nat) (hn : n ≤ 1000000) : Wf 0 (newS n k) :=
  ⟨Int.le_refl _, by show (0 : Int) ≤ _; omega, Int.le_refl _, Int.le_refl _, hn, Nat.le_refl _, fun q hq _ => by
    obtain ⟨_, rfl⟩ := List.mem_replicate.1 hq
    show (List.replicate n zSc).length = n
    rw [List.length_replicate], fun q hq hf => by
    obtain ⟨_, rfl⟩ := List.mem_replicate.1 hq
    exact absurd (by show (0 &&& 4 : Nat) = 0; decide) hf, fun x hx => by cases hx⟩
def aw0 : St := newS 8 2
theorem awf0 : Wf 0 aw0 := new_wf 8 2 (by omega)
def aw1 : St := (wrR aw0 0 5 (ofL 1)).2
theorem awe1 : (wrR aw0 0 5 (ofL 1)).1 = 0 := by kernel_rfl
theorem awf1 : Wf 1 aw1 := awf0.wrR _ _ _
def aw2 : St := (rdR aw1 0 5).2
theorem awe2 : (decide ((rdR aw1 0 5).1 = none) && (tellAt aw1 0 5 == ofL 1)) = true := by kernel_rfl
theorem awf2 : Wf 1 aw2 := awf1.rdR _ _
theorem awl2 : (aw2.row.length : Int) = 1 := by kernel_rfl
def aw3 : St := (crR aw2 [] 0).2
theorem awe3 : (crR aw2 [] 0).1 = 0 := by kernel_rfl
theorem awf3 : Wf 1 aw3 := awf2.crR _ _
def aw4 : St := (rdR aw3 0 5).2
theorem awe4 : (decide ((rdR aw3 0 5).1 = none) && (tellAt aw3 0 5 == ofL 0)) = true := by kernel_rfl
theorem awf4 : Wf 1 aw4 := awf3.rdR _ _
def aw5 : St := (wrR aw4 0 5 (ofL 1)).2
theorem awe5 : (wrR aw4 0 5 (ofL 1)).1 = 0 := by kernel_rfl
theorem awf5 : Wf 2 aw5 := awf4.wrR _ _ _
def aw6 : St := (flR aw5 0).2
theorem awe6 : (flR aw5 0).1 = 0 := by kernel_rfl
theorem awf6 : Wf 3 aw6 := awf5.flR _
def aw7 : St := (loR aw6 0).2
theorem awe7 : (loR aw6 0).1 = 0 := by kernel_rfl
theorem awf7 : Wf 3 aw7 := awf6.lose _
def aw8 : St := (wrR aw7 0 5 (ofL 2)).2
theorem awe8 : (wrR aw7 0 5 (ofL 2)).1 = 0 := by kernel_rfl
theorem awf8 : Wf 4 aw8 := awf7.wrR _ _ _
def aw9 : St := (rdR aw8 0 5).2
theorem awe9 : (decide ((rdR aw8 0 5).1 = none) && (tellAt aw8 0 5 == ofL 1)) = true := by kernel_rfl
theorem aws9 : aw9.steps = 4 := by kernel_rfl
set_option maxHeartbeats 16000000 in
theorem awake_any {lo : Nat} {w : World} {sn : Nat → Addr} (hs : Sn w lo sn) (hlo : lo ≤ w.heap.size) : Calls Tryd.prog 10 #[] w fun e w' => e = .returned (.bool true) ∧ Fa lo w w' := by
  have HS := Lib.hid hs
  have HLO := Lib.hid hlo
  clear hs hlo
  go_enter Tryd.func10, Tryd.ntmps10
  go_wp2_with (first
    | (go_at_call 28; refine (made_any HS.out HLO.out).mono ?_; rintro e w1 ⟨g, rfl, a1, f1⟩; have A := Lib.hid (show Arr lo w1 g aw0 from a1); have F := Lib.hid f1; have S := Lib.hid (HS.out.fa f1); have P0 := Lib.hid True.intro; clear a1 f1 HS)
    | (go_at_call 29; have hp := P0; refine (of_at (lo := lo) 1 _ rfl).mono ?_; rintro e w1 ⟨v, rfl, hv, f0⟩; have f1 := Fa.of0 f0 lo; have F := Lib.hid (F.out.trans f1); have S := Lib.hid (S.out.fa f1); have A := Lib.hid (A.out.keep0 f0); have V := Lib.hid hv; have P1 := Lib.hid True.intro; clear P0 hp; clear hv f1 f0)
    | (go_at_call 13; have hp := P1; refine (wr_at S.out A.out awf0 (by omega) 0 5 _ _ _ V.out).mono ?_; rintro e w1 ⟨rfl, a1, f1⟩; rw [awe1]; have F := Lib.hid (F.out.trans f1); have S := Lib.hid (S.out.fa f1); have A := Lib.hid (show Arr lo w1 g aw1 from a1); have P2 := Lib.hid True.intro; clear P1 hp V; clear a1 f1)
    | (go_at_call 29; have hp := P2; refine (of_at (lo := lo) 1 _ rfl).mono ?_; rintro e w1 ⟨v, rfl, hv, f0⟩; have f1 := Fa.of0 f0 lo; have F := Lib.hid (F.out.trans f1); have S := Lib.hid (S.out.fa f1); have A := Lib.hid (A.out.keep0 f0); have V := Lib.hid hv; have P3 := Lib.hid True.intro; clear P2 hp; clear hv f1 f0)
    | (go_at_call 30; have hp := P3; refine (rd_at S.out A.out awf1 (by omega) 0 5 _ _ _ V.out).mono ?_; rintro e w1 ⟨rfl, a1, f1⟩; rw [awe2]; have F := Lib.hid (F.out.trans f1); have S := Lib.hid (S.out.fa f1); have A := Lib.hid (show Arr lo w1 g aw2 from a1); have P4 := Lib.hid True.intro; clear P3 hp V; clear a1 f1)
    | (go_at_call 25; have hp := P4; refine (Loose_any A.out).mono ?_; rintro e w1 ⟨rfl, hw1⟩; obtain rfl := hw1.symm; rw [awl2]; have P5 := Lib.hid True.intro; clear P4 hp)
    | (go_at_call 16; have hp := P5; refine (cr_at S.out A.out awf2 (by omega) _ [] [] 0 (fun w2 f2 => SlE.nil _ _ _)).mono ?_; rintro e w1 ⟨rfl, a1, f1⟩; rw [awe3]; have F := Lib.hid (F.out.trans f1); have S := Lib.hid (S.out.fa f1); have A := Lib.hid (show Arr lo w1 g aw3 from a1); have P6 := Lib.hid True.intro; clear P5 hp; clear a1 f1)
    | (go_at_call 29; have hp := P6; refine (of_at (lo := lo) 0 _ rfl).mono ?_; rintro e w1 ⟨v, rfl, hv, f0⟩; have f1 := Fa.of0 f0 lo; have F := Lib.hid (F.out.trans f1); have S := Lib.hid (S.out.fa f1); have A := Lib.hid (A.out.keep0 f0); have V := Lib.hid hv; have P7 := Lib.hid True.intro; clear P6 hp; clear hv f1 f0)
    | (go_at_call 30; have hp := P7; refine (rd_at S.out A.out awf3 (by omega) 0 5 _ _ _ V.out).mono ?_; rintro e w1 ⟨rfl, a1, f1⟩; rw [awe4]; have F := Lib.hid (F.out.trans f1); have S := Lib.hid (S.out.fa f1); have A := Lib.hid (show Arr lo w1 g aw4 from a1); have P8 := Lib.hid True.intro; clear P7 hp V; clear a1 f1)
    | (go_at_call 29; have hp := P8; refine (of_at (lo := lo) 1 _ rfl).mono ?_; rintro e w1 ⟨v, rfl, hv, f0⟩; have f1 := Fa.of0 f0 lo; have F := Lib.hid (F.out.trans f1); have S := Lib.hid (S.out.fa f1); have A := Lib.hid (A.out.keep0 f0); have V := Lib.hid hv; have P9 := Lib.hid True.intro; clear P8 hp; clear hv f1 f0)
    | (go_at_call 13; have hp := P9; refine (wr_at S.out A.out awf4 (by omega) 0 5 _ _ _ V.out).mono ?_; rintro e w1 ⟨rfl, a1, f1⟩; rw [awe5]; have F := Lib.hid (F.out.trans f1); have S := Lib.hid (S.out.fa f1); have A := Lib.hid (show Arr lo w1 g aw5 from a1); have P10 := Lib.hid True.intro; clear P9 hp V; clear a1 f1)
    | (go_at_call 14; have hp := P10; refine (fl_at S.out A.out awf5 (by omega) 0).mono ?_; rintro e w1 ⟨rfl, a1, f1⟩; rw [awe6]; have F := Lib.hid (F.out.trans f1); have S := Lib.hid (S.out.fa f1); have A := Lib.hid (show Arr lo w1 g aw6 from a1); have P11 := Lib.hid True.intro; clear P10 hp; clear a1 f1)
    | (go_at_call 18; have hp := P11; refine (lo_at S.out A.out 0).mono ?_; rintro e w1 ⟨rfl, a1, f1⟩; rw [awe7]; have F := Lib.hid (F.out.trans f1); have S := Lib.hid (S.out.fa f1); have A := Lib.hid (show Arr lo w1 g aw7 from a1); have P12 := Lib.hid True.intro; clear P11 hp; clear a1 f1)
    | (go_at_call 29; have hp := P12; refine (of_at (lo := lo) 2 _ rfl).mono ?_; rintro e w1 ⟨v, rfl, hv, f0⟩; have f1 := Fa.of0 f0 lo; have F := Lib.hid (F.out.trans f1); have S := Lib.hid (S.out.fa f1); have A := Lib.hid (A.out.keep0 f0); have V := Lib.hid hv; have P13 := Lib.hid True.intro; clear P12 hp; clear hv f1 f0)
    | (go_at_call 13; have hp := P13; refine (wr_at S.out A.out awf7 (by omega) 0 5 _ _ _ V.out).mono ?_; rintro e w1 ⟨rfl, a1, f1⟩; rw [awe8]; have F := Lib.hid (F.out.trans f1); have S := Lib.hid (S.out.fa f1); have A := Lib.hid (show Arr lo w1 g aw8 from a1); have P14 := Lib.hid True.intro; clear P13 hp V; clear a1 f1)
    | (go_at_call 29; have hp := P14; refine (of_at (lo := lo) 1 _ rfl).mono ?_; rintro e w1 ⟨v, rfl, hv, f0⟩; have f1 := Fa.of0 f0 lo; have F := Lib.hid (F.out.trans f1); have S := Lib.hid (S.out.fa f1); have A := Lib.hid (A.out.keep0 f0); have V := Lib.hid hv; have P15 := Lib.hid True.intro; clear P14 hp; clear hv f1 f0)
    | (go_at_call 30; have hp := P15; refine (rd_at S.out A.out awf8 (by omega) 0 5 _ _ _ V.out).mono ?_; rintro e w1 ⟨rfl, a1, f1⟩; rw [awe9]; have F := Lib.hid (F.out.trans f1); have S := Lib.hid (S.out.fa f1); have A := Lib.hid (show Arr lo w1 g aw9 from a1); have P16 := Lib.hid True.intro; clear P15 hp V; clear a1 f1)
    | (go_at_call 26; have hp := P16; refine (Steps_any A.out).mono ?_; rintro e w1 ⟨rfl, hw1⟩; obtain rfl := hw1.symm; rw [aws9]; have P17 := Lib.hid True.intro; clear P16 hp))
  go_ret
  exact ⟨rfl, F.out⟩
end Go.Proofs.YtdebnikolhhmgaaDoor

namespace Go.Proofs.YtdebnikolhhmgaaDoor
open Go.ChangeShapes Go.WideShapes Go.ChangeAt Go.RowKit
open Go.Deep
set_option linter.unusedVariables false
set_option linter.unusedSimpArgs false
set_option maxRecDepth 100000

open Kr (OwnE SlE Enco RowTys)
theorem own : ownKnob Tryd.prog.godebug = none := by kernel_rfl
theorem laidOut : laidOutB Tryd.prog = true := by kernel_rfl
def laidA : List (String × DataW Unit) := [("caulker/array.errNil", Rows.laid_caulker_array_errNil), ("caulker/array.errBroken", Rows.laid_caulker_array_errBroken), ("caulker/array.errRange", Rows.laid_caulker_array_errRange), ("caulker/array.errArg", Rows.laid_caulker_array_errArg), ("caulker/array.errGone", Rows.laid_caulker_array_errGone), ("caulker/array.errIO", Rows.laid_caulker_array_errIO)]
theorem gS0 : Tryd.prog.globalNamed "caulker/array.errArg" = some 0 := by kernel_rfl
theorem tS0 : (Tryd.prog.globals[0]?).map (·.type) = some 70 := by kernel_rfl
theorem gS1 : Tryd.prog.globalNamed "caulker/array.errNil" = some 1 := by kernel_rfl
theorem tS1 : (Tryd.prog.globals[1]?).map (·.type) = some 70 := by kernel_rfl
theorem gS2 : Tryd.prog.globalNamed "caulker/array.errBroken" = some 2 := by kernel_rfl
theorem tS2 : (Tryd.prog.globals[2]?).map (·.type) = some 70 := by kernel_rfl
theorem gS3 : Tryd.prog.globalNamed "caulker/array.errRange" = some 3 := by kernel_rfl
theorem tS3 : (Tryd.prog.globals[3]?).map (·.type) = some 70 := by kernel_rfl
theorem gS4 : Tryd.prog.globalNamed "caulker/array.errGone" = some 4 := by kernel_rfl
theorem tS4 : (Tryd.prog.globals[4]?).map (·.type) = some 70 := by kernel_rfl
theorem gS5 : Tryd.prog.globalNamed "caulker/array.errIO" = some 5 := by kernel_rfl
theorem tS5 : (Tryd.prog.globals[5]?).map (·.type) = some 70 := by kernel_rfl
theorem star : "*" ++ "errors.errorString" = "*errors.errorString" := by decide
theorem row126 (u : TypeId) (h : Tryd.prog.typeName? 3 u = some "*errors.errorString") : u = 126 :=
  typeName_ptr_named (nm := "errors.errorString") (by rw [star]; kernel_rfl) (by kernel_rfl) (by decide) u (by rw [star]; exact h)
theorem ce151 : Tryd.prog.cellsOf 151 = 1 := by kernel_rfl
theorem ce9 : Tryd.prog.cellsOf 9 = 1 := by kernel_rfl
def txS : Nat → List UInt8
  | 0 => [109, 97, 121, 32, 110, 111, 116, 32, 98, 101]
  | 1 => [110, 111, 116, 32, 109, 97, 100, 101, 32, 98, 121, 32, 78, 101, 119]
  | 2 => [110, 111, 116, 104, 105, 110, 103, 32, 109, 111, 114, 101, 32, 105, 115, 32, 100, 111, 110, 101]
  | 3 => [110, 111, 110, 101, 32, 111, 102, 32, 116, 104, 97, 116, 32, 110, 117, 109, 98, 101, 114]
  | 4 => [103, 111, 110, 101]
  | _ => [114, 101, 102, 117, 115, 101, 100]
theorem txS_inj : ∀ i, i < 6 → ∀ j, j < 6 → txS i = txS j → i = j := by decide
/-- A sentinel as it lies. -/
def SnAt (W : World) (k : Nat) (x : Addr) : Prop := W.cell? ⟨k, 0, none⟩ = some (.iface 126 (.pointer (some x))) ∧ (∃ s, W.cell? x = some (.string s) ∧ s.data.toList = txS k) ∧ ∃ c t, W.heap[x.block]? = some (.cells c t (0, 0))
theorem sens_of_laid {W : World} (h : laidMetH Tryd.prog laidA W) : ∃ sn, Sn W W.heap.size sn := by
  rw [MakeChecks.laidMetH_plain _ _ _ (by kernel_rfl)] at h
  unfold laidA at h
  have h0 := h
  have h1 := h0.tail
  have h2 := h1.tail
  have h3 := h2.tail
  have h4 := h3.tail
  unfold Rows.laid_caulker_array_errNil Rows.laid_caulker_array_errBroken at h0
  obtain ⟨a0, b0, s0, r0, c0, e0, y0, z0, va0, vb0, ca0, ta0, _, cb0, tb0, _, _, ha0, hb0⟩ := laid_sentinels2 h0 gS1 tS1 gS2 tS2 Tryd.underlying70 row126 Tryd.underlying126 Tryd.underlying151 rfl rfl Tryd.underlying9 ce151 ce9
  unfold Rows.laid_caulker_array_errBroken Rows.laid_caulker_array_errRange at h1
  obtain ⟨a1, b1, s1, r1, c1, e1, y1, z1, va1, vb1, ca1, ta1, _, cb1, tb1, _, _, ha1, hb1⟩ := laid_sentinels2 h1 gS2 tS2 gS3 tS3 Tryd.underlying70 row126 Tryd.underlying126 Tryd.underlying151 rfl rfl Tryd.underlying9 ce151 ce9
  unfold Rows.laid_caulker_array_errRange Rows.laid_caulker_array_errArg at h2
  obtain ⟨a2, b2, s2, r2, c2, e2, y2, z2, va2, vb2, ca2, ta2, _, cb2, tb2, _, _, ha2, hb2⟩ := laid_sentinels2 h2 gS3 tS3 gS0 tS0 Tryd.underlying70 row126 Tryd.underlying126 Tryd.underlying151 rfl rfl Tryd.underlying9 ce151 ce9
  unfold Rows.laid_caulker_array_errArg Rows.laid_caulker_array_errGone at h3
  obtain ⟨a3, b3, s3, r3, c3, e3, y3, z3, va3, vb3, ca3, ta3, _, cb3, tb3, _, _, ha3, hb3⟩ := laid_sentinels2 h3 gS0 tS0 gS4 tS4 Tryd.underlying70 row126 Tryd.underlying126 Tryd.underlying151 rfl rfl Tryd.underlying9 ce151 ce9
  unfold Rows.laid_caulker_array_errGone Rows.laid_caulker_array_errIO at h4
  obtain ⟨a4, b4, s4, r4, c4, e4, y4, z4, va4, vb4, ca4, ta4, _, cb4, tb4, _, _, ha4, hb4⟩ := laid_sentinels2 h4 gS4 tS4 gS5 tS5 Tryd.underlying70 row126 Tryd.underlying126 Tryd.underlying151 rfl rfl Tryd.underlying9 ce151 ce9
  have n0 : SnAt W 0 b2 := ⟨by simpa using World.var?_cell gS0 vb2 0, ⟨_, cb2, tb2⟩, ⟨_, _, hb2⟩⟩
  have n1 : SnAt W 1 a0 := ⟨by simpa using World.var?_cell gS1 va0 0, ⟨_, ca0, ta0⟩, ⟨_, _, ha0⟩⟩
  have n2 : SnAt W 2 b0 := ⟨by simpa using World.var?_cell gS2 vb0 0, ⟨_, cb0, tb0⟩, ⟨_, _, hb0⟩⟩
  have n3 : SnAt W 3 b1 := ⟨by simpa using World.var?_cell gS3 vb1 0, ⟨_, cb1, tb1⟩, ⟨_, _, hb1⟩⟩
  have n4 : SnAt W 4 b3 := ⟨by simpa using World.var?_cell gS4 vb3 0, ⟨_, cb3, tb3⟩, ⟨_, _, hb3⟩⟩
  have n5 : SnAt W 5 b4 := ⟨by simpa using World.var?_cell gS5 vb4 0, ⟨_, cb4, tb4⟩, ⟨_, _, hb4⟩⟩
  have hall : ∀ i, i < 6 → SnAt W i (match i with | 0 => b2 | 1 => a0 | 2 => b0 | 3 => b1 | 4 => b3 | _ => b4) := fun i hi => by
    match i, hi with
    | 0, _ => exact n0
    | 1, _ => exact n1
    | 2, _ => exact n2
    | 3, _ => exact n3
    | 4, _ => exact n4
    | 5, _ => exact n5
  refine ⟨fun i => match i with | 0 => b2 | 1 => a0 | 2 => b0 | 3 => b1 | 4 => b3 | _ => b4, ⟨fun i hi => (hall i hi).1, fun i hi => (hall i hi).2.2, fun i hi => ?_, ?_, fun i j hi hj e => ?_⟩⟩
  · obtain ⟨_, _, c, t, h⟩ := hall i hi
    exact lt_heap h
  · have := World.block_lt_of_cell? _ _ n5.1
    simp only at this
    omega
  · obtain ⟨_, ⟨s, h1, h2⟩, _⟩ := hall i hi
    obtain ⟨_, ⟨s', h1', h2'⟩, _⟩ := hall j hj
    rw [e, h1'] at h1
    simp only [Option.some.injEq, Value.string.injEq] at h1
    rw [h1, h2] at h2'
    exact txS_inj i hi j hj h2'
theorem doorA_met (os : Os) (args : Array Value) : laidMetH Tryd.prog laidA ((World.doorLaid Tryd.prog 400 os).forCall (fun _ _ => 0) ⟨#[], args, []⟩).memory :=
  laidMetH_of_parts3 (fuel := 8) (laidMet_of_run' 8 (by kernel_rfl) (by kernel_rfl)) (by kernel_rfl) (by kernel_rfl)
end Go.Proofs.YtdebnikolhhmgaaDoor

namespace Go.Proofs.YtdebnikolhhmgaaDoor
open Go.ChangeShapes Go.WideShapes Go.ChangeAt Go.RowKit Go.Deep
set_option linter.unusedVariables false
set_option linter.unusedSimpArgs false
set_option maxRecDepth 100000

theorem take_at {cs : List Value} {i : Nat} {u : Value} (h : (cs.drop i).take 1 = [u]) : cs[i]? = some u := by
  have := congrArg (·[0]?) h
  simpa [List.getElem?_take, List.getElem?_drop] using this
theorem cells3 : Tryd.prog.cellsOf 3 = 1 := by kernel_rfl
theorem cells5 : Tryd.prog.cellsOf 5 = 1 := by kernel_rfl
end Go.Proofs.YtdebnikolhhmgaaDoor

namespace Go.Proofs.YtdebnikolhhmgaaDoor
open Go.RowKit
set_option linter.unusedVariables false
set_option linter.unusedSimpArgs false
set_option maxRecDepth 100000

open Kr (OwnE SlE Enco RowTys)
def stR (s : St) (d a : Int) : Int × St := mRes (dCons (nS s d a, s) (nT s d, s)) fun s => devS s d a
def fuR (s : St) (n : Int) : Int × St := mRes (dCons (nR s, s) (nA (decide (0 ≤ n)), s)) fun s => { s with set := true, left := n }
theorem Wf.fuR {K : Nat} {s : St} (h : Wf K s) (n : Int) (hn : n ≤ 9223372036854775807) : Wf K (fuR s n).2 :=
  mRes_ind (dCons_ind h h) fun e => by
    obtain ⟨_, q1⟩ := dCons_of e
    rw [show (dCons (nR s, s) (nA (decide (0 ≤ n)), s)).2 = s from dCons_ind (P := fun x => x = s) rfl rfl]
    have h0 : 0 ≤ n := by
      cases e : decide (0 ≤ n)
      · simp only at q1; rw [e] at q1; cases q1
      · exact of_decide_eq_true e
    exact ⟨h0, hn, h.s0, h.s1, h.n1, h.rw, h.fd, h.fx, h.fr⟩
theorem Wf.stR {K : Nat} {s : St} (h : Wf K s) (d a : Int) : Wf K (stR s d a).2 :=
  mRes_ind (dCons_ind h h) fun e => by
    obtain ⟨q0, _⟩ := dCons_of e
    have ha := okA_at (nS_ok q0).2
    rw [show (dCons (nS s d a, s) (nT s d, s)).2 = s from dCons_ind (P := fun x => x = s) rfl rfl]
    exact h.setD d _ (fun q hq => rfl) (fun q hq e => by
      have : ((q.f ||| 4) &&& 1) = 0 := e
      rw [Nat.and_or_distrib_right, show (4 &&& 1 : Nat) = 0 from by decide, Nat.or_zero] at this
      exact this) (fun q hq e => ⟨ha.2.1, ha.2.2⟩)
section
variable {lo : Nat} {w : World} {sn : Nat → Addr} {g K : Nat} {s : St}
theorem up_at (hs : Sn w lo sn) (h : Arr lo w g s) (d : Int) :
    Calls Tryd.prog 27 #[.pointer (some ⟨g, 0, none⟩), .int .i64 d] w fun e w' => e = .returned (.bool (dCons (nR s, s) (dCons (nD s d, s) (nT s d, s))).1.isNone) ∧ Arr lo w' g s ∧ Fa lo w w' := Up_any d hs h
end
end Go.Proofs.YtdebnikolhhmgaaDoor
