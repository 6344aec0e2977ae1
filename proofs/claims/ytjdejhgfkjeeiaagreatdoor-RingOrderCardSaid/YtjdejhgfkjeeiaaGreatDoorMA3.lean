/-
  Contracts of Slot, of standsIn; rows of lists of bytes; slices.All's iterator. No conditions but those that each theorem names. Contract of Found. No conditions but those that each theorem names. Contract of Used. No conditions but those that each theorem names.
-/
import Derived.Test.YtjdejhgfkjeeiaaGreatDoorMA1
import Derived.Test.YtjdejhgfkjeeiaaGreatDoorHZ
import Derived.Test.YtjdejhgfkjeeiaaGreatDoorMA2
import Derived.WalkMore
namespace Go.Proofs.YtjdejhgfkjeeiaaGreatDoor
open Go.RowKit
set_option linter.unusedVariables false
set_option linter.unusedSimpArgs false
set_option maxRecDepth 100000
attribute [local go_sem] Oper.semAt_some

open Pt (Pt may enc readPt readE zeroPt pc pv PtV SlA OwnA)
open Kr (OwnE SlE Enco RowTys)
open Hs (Idx wpIn_round_region inBlock_lets ownPostK_lets grownBy_drew)
theorem Slot_any (t : Int) (w : World) : Calls Tryz.prog 42 #[.int .i64 t] w fun e w' => e = .returned (.tuple #[.int .i64 (slotN t), .bool (slotB t)]) ∧ w' = w := by
  by_cases h1 : t < 1
  · have e1 : slotN t = 0 := by unfold slotN; rw [if_pos (.inl h1)]
    have e2 : slotB t = false := by simp [slotB, h1]
    rw [e1, e2]
    go_enter Tryz.func42, Tryz.ntmps42
    go_wp2
    exact bodyPost_ret (v := .tuple #[.int .i64 0, .bool false]) (by simp [results, Tryz.results42, go_sem]) rfl ⟨rfl, rfl⟩
  · by_cases h2 : 2147483648 < t
    · have e1 : slotN t = 0 := by unfold slotN; rw [if_pos (.inr h2)]
      have e2 : slotB t = false := by simp [slotB, h2]
      rw [e1, e2]
      go_enter Tryz.func42, Tryz.ntmps42
      go_wp2
      exact bodyPost_ret (v := .tuple #[.int .i64 0, .bool false]) (by simp [results, Tryz.results42, go_sem]) rfl ⟨rfl, rfl⟩
    · have e1 : slotN t = 1 + t % 4 := by unfold slotN; rw [if_neg (by omega)]
      have e2 : slotB t = true := by simp [slotB]; omega
      have e3 : t.tmod 4 = t % 4 := Int.tmod_eq_emod_of_nonneg (by omega)
      have e4 : IntKind.i64.wrap (t % 4) = t % 4 := IntWalk.i64_in _ (by omega)
      have e5 : IntKind.i64.wrap (1 + t % 4) = 1 + t % 4 := IntWalk.i64_in _ (by omega)
      rw [e1, e2]
      clear e1 e2
      go_enter Tryz.func42, Tryz.ntmps42
      go_wp2
      exact bodyPost_ret (v := .tuple #[.int .i64 (1 + t % 4), .bool true]) (by simp [results, Tryz.results42, go_sem]) rfl ⟨rfl, rfl⟩
theorem RefSlot_any (t : Int) (w : World) : Calls Tryz.prog 43 #[.int .i64 t] w fun e w' => e = .returned (.tuple #[.int .i64 (slotN t), .bool (slotB t)]) ∧ w' = w := by
  by_cases h1 : t < 1
  · have e1 : slotN t = 0 := by unfold slotN; rw [if_pos (.inl h1)]
    have e2 : slotB t = false := by simp [slotB, h1]
    rw [e1, e2]
    go_enter Tryz.func43, Tryz.ntmps43
    go_wp2
    exact bodyPost_ret (v := .tuple #[.int .i64 0, .bool false]) (by simp [results, Tryz.results43, go_sem]) rfl ⟨rfl, rfl⟩
  · by_cases h2 : 2147483648 < t
    · have e1 : slotN t = 0 := by unfold slotN; rw [if_pos (.inr h2)]
      have e2 : slotB t = false := by simp [slotB, h2]
      rw [e1, e2]
      go_enter Tryz.func43, Tryz.ntmps43
      go_wp2
      exact bodyPost_ret (v := .tuple #[.int .i64 0, .bool false]) (by simp [results, Tryz.results43, go_sem]) rfl ⟨rfl, rfl⟩
    · have e1 : slotN t = 1 + t % 4 := by unfold slotN; rw [if_neg (by omega)]
      have e2 : slotB t = true := by simp [slotB]; omega
      have e3 : t.tmod 4 = t % 4 := Int.tmod_eq_emod_of_nonneg (by omega)
      have e4 : IntKind.i64.wrap (t % 4) = t % 4 := IntWalk.i64_in _ (by omega)
      have e5 : IntKind.i64.wrap (1 + t % 4) = 1 + t % 4 := IntWalk.i64_in _ (by omega)
      rw [e1, e2]
      clear e1 e2
      go_enter Tryz.func43, Tryz.ntmps43
      go_wp2
      exact bodyPost_ret (v := .tuple #[.int .i64 (1 + t % 4), .bool true]) (by simp [results, Tryz.results43, go_sem]) rfl ⟨rfl, rfl⟩
set_option maxHeartbeats 1000000 in
theorem standsIn_any (n : Int) (x : Value) (u : Ub) (w : World) (hx : UbV w x u) : Calls Tryz.prog 84 #[.int .i64 n, x] w fun e w' => e = .returned (.bool (n == slotN u.txg)) ∧ Frm [] w w' := by
  obtain ⟨a, cap, sp, rfl, hA, hw⟩ := hx
  have B1 := UB.new w (.slice a u.root.ads.length cap) hw
  have f : Frm [] w (w.alloc (.cells (uc (.slice a u.root.ads.length cap) u).toArray 28)) := (Frm.refl [] w).alloc _
  have c0 := B1.gets.c0
  have HS := Lib.hid (fun W => Slot_any u.txg W)
  have HF := Lib.hid f
  rw [show uv (.slice a u.root.ads.length cap) u = .agg (uc (.slice a u.root.ads.length cap) u).toArray from rfl]
  clear hA hw B1 f
  generalize slotN u.txg = s at *
  generalize slotB u.txg = q at *
  generalize u.txg = t at *
  generalize (uc (.slice a u.root.ads.length cap) u).toArray = A at *
  go_enter Tryz.func84, Tryz.ntmps84
  go_upto_region 1 with (fail)
  generalize w.alloc (.cells A 28) = W at *
  go_wp2_with (go_at_call 42; refine (HS.out _).mono ?_; rintro r w1 ⟨rfl, hw1⟩; obtain rfl := hw1.symm)
  go_ret
  exact ⟨rfl, HF.out⟩
/-- A cell of a row. -/
abbrev CelT := { v : Value // v.oneCell' = true }
def eC (x : CelT) : List Value := [x.1]
theorem encC : Enco eC 1 := ⟨fun _ => rfl, fun x u hu => by simp [eC] at hu; subst hu; exact x.2, by omega, fun x y h => Subtype.ext (by simpa [eC] using h)⟩
/-- A slice of lists of bytes. -/
def Ls (w : World) (v : Value) (l : List (List UInt8)) : Prop := ∃ cs sp, SlE eC 1 w v cs sp ∧ cs.length = l.length ∧ ∀ (i : Nat) (c : CelT) b, cs[i]? = some c → l[i]? = some b → ∃ s, SlB w c.1 b s
theorem Ls.keep0 {w w' : World} {v : Value} {l : List (List UInt8)} (h : Ls w v l) (f : Frm [] w w') : Ls w' v l := by
  obtain ⟨cs, sp, hs, hl, hr⟩ := h
  refine ⟨cs, sp, hs.keep0 f, hl, fun i c b h1 h2 => ?_⟩
  obtain ⟨s, h⟩ := hr i c b h1 h2
  exact ⟨s, h.keep f (by simp)⟩
theorem Ls.form {w : World} {v : Value} {l : List (List UInt8)} (h : Ls w v l) : ∃ a cap, v = .slice a l.length cap := by
  obtain ⟨cs, sp, hs, hl, hr⟩ := h
  obtain ⟨a, cap, e, _, _⟩ := hs.form
  exact ⟨a, cap, by rw [← hl]; exact e⟩
theorem Ls.at {w : World} {v : Value} {l : List (List UInt8)} (h : Ls w v l) (hp : 0 < l.length) : ∃ b off cap, v = .slice (some ⟨b, off, none⟩) l.length cap := by
  obtain ⟨a, cap, rfl⟩ := h.form
  obtain ⟨cs, sp, hs, hl, hr⟩ := h
  obtain ⟨b, off, rfl⟩ := hs.at (by omega)
  exact ⟨b, off, cap, rfl⟩
/-- An element: its cell, its bytes. -/
theorem Ls.cell {w : World} {b off n cap : Nat} {l : List (List UInt8)} (h : Ls w (.slice (some ⟨b, off, none⟩) n cap) l) (i : Nat) (hi : i < l.length) : ∃ c s, w.cell? ⟨b, off + i, none⟩ = some c ∧ SlB w c l[i] s := by
  obtain ⟨cs, sp, hs, hl, hr⟩ := h
  have hi2 : i < cs.length := by omega
  obtain ⟨s, hS⟩ := hr i cs[i] l[i] (List.getElem?_eq_getElem _) (List.getElem?_eq_getElem _)
  have := SlE.cell encC hs i hi2 0 (u := (cs[i]).1) rfl
  rw [Nat.mul_one, Nat.add_zero] at this
  exact ⟨_, s, this, hS⟩
theorem cell_same {w w' : World} {b : Nat} (h : w'.heap[b]? = w.heap[b]?) (i : Nat) : w'.cell? ⟨b, i, none⟩ = w.cell? ⟨b, i, none⟩ := by simp [World.cell?, h]
theorem All_any (v : Value) (w : World) (hv : v.oneCell' = true) : Calls Tryz.prog 83 #[v] w fun e w' => e = .returned (.func (.func 123) #[] #[.pointer (some ⟨w.heap.size, 0, none⟩)]) ∧ w' = w.alloc (.cells #[v] 52) := by
  have hmf : ∀ (fn : Fn) (first cap : Array Value) (w : World), (Instr.makeFunc fn first cap).run Tryz.prog w = .ok (.func fn first cap) w := fun _ _ _ _ => rfl
  go_enter Tryz.func83, Tryz.ntmps83
  go_wp2
  go_ret
  exact ⟨rfl, rfl⟩
def Kp1 (b : Nat) (W W' : World) : Prop := W'.heap[b]? = W.heap[b]?
set_option maxHeartbeats 2000000 in
theorem all1_in (n : Nat) (hn : 1 ≤ n) (l B1 b off M cap : Nat) (cs : Idx M → Value) (hM : M ≤ 1000000) (J Jx : List (Idx M) → World → Prop)
    (hY : ∀ pre (x : Idx M) W, J pre W → pre.length < M → YieldAt Fence.wide (n - 1) Tryz.prog l #[.int .i64 x.1, cs x] W fun e W' =>
      (e = .returned (.bool true) ∧ J (pre ++ [x]) W' ∧ Kp1 b W W') ∨ (e = .returned (.bool false) ∧ Jx (pre ++ [x]) W'))
    (W : World) (h1 : W.heap[B1]? = some (.cells #[.slice (some ⟨b, off, none⟩) M cap] 52 (0, 0))) (hc : ∀ x : Idx M, W.cell? ⟨b, off + x.1, none⟩ = some (cs x)) (h0 : J [] W) :
    CallsIn Fence.wide n Tryz.prog 123 #[.func (.yield l) #[] #[], .pointer (some ⟨B1, 0, none⟩)] W fun e W' => (∃ v, e = .returned v) ∧
      ((∃ ys, ys.map (·.1) = List.range M ∧ J ys W') ∨ (∃ pre, Jx pre W')) := by
  refine callsIn_of_wp Tryz.func123 rfl trivial ?_ rfl
  simp only [Tryz.ntmps123, List.size_toArray, List.length_cons, List.length_nil, Nat.reduceAdd, Nat.reduceSub, Array.replicate_succ, Array.replicate_zero, List.push_toArray, List.append_toArray, List.nil_append, List.cons_append]
  have c1 : W.cell? ⟨B1, 0, none⟩ = some (.slice (some ⟨b, off, none⟩) M cap) := by rw [cell_of_heap h1]; rfl
  gi_wp2
  gi_loopw [7] (fun i wr => ∃ k : Nat, k ≤ M ∧ i = .int .i64 k ∧ ∃ pre : List (Idx M), pre.map (·.1) = List.range k ∧ J pre wr ∧ Kp1 b W wr)
    (fun i _ => M - (intOf i).toNat)
  case atStart => exact ⟨0, Nat.zero_le _, rfl, [], rfl, h0, rfl⟩
  case round =>
    obtain ⟨k, hk, rfl, pre, hpre, hJs, hkp⟩ := hrel
    have hpl : pre.length = k := by have := congrArg List.length hpre; simpa using this
    have HPRE := Lib.hid hpre
    have HPL := Lib.hid hpl
    have HKP := Lib.hid hkp
    have hM9 : (M : Int) ≤ 1000000 := by omega
    clear hpre hpl
    by_cases hlt : k < M
    · have hlt' : (k : Int) < (M : Int) := by omega
      have hck : wr.cell? ⟨b, off + k, none⟩ = some (cs ⟨k, hlt⟩) := (cell_same hkp _).trans (hc ⟨k, hlt⟩)
      obtain ⟨fn, tmps, assign, body, hy, hR⟩ := hY pre ⟨k, hlt⟩ wr hJs (by rw [HPL.out]; exact hlt)
      generalize cs ⟨k, hlt⟩ = ck at *
      have HR := Lib.hid hR
      have HC := Lib.hid hc
      have HYY := Lib.hid hY
      clear hR hY hc hJs h0 h1 c1 hkp
      gi_wp2
      refine HR.out.mono ?_
      rintro e W3 (⟨rfl, hJ3, hk3⟩ | ⟨rfl, hJx3⟩)
      · have HN := Lib.hid (show ∃ pre : List (Idx M), pre.map (·.1) = List.range (k + 1) ∧ J pre W3 ∧ Kp1 b W W3 from ⟨pre ++ [⟨k, hlt⟩], by rw [List.map_append, HPRE.out, List.range_succ]; rfl, hJ3, hk3.trans HKP.out⟩)
        gi_wp2
        refine ⟨⟨k + 1, by omega, by go_num, HN.out⟩, by simp [intOf]; omega⟩
      · gi_wp2
        refine bodyPost_ret (results_none rfl _ _ _) rfl ?_
        exact ⟨⟨_, rfl⟩, .inr ⟨_, hJx3⟩⟩
    · obtain rfl : k = M := by omega
      gi_wp2
      go_end0
      exact ⟨⟨_, rfl⟩, .inl ⟨_, HPRE.out, hJs⟩⟩
theorem all_stops (n : Nat) (hn : 1 ≤ n) (B1 b off M cap : Nat) (cs : Idx M → Value) (hM : M ≤ 1000000) (w : World) (hB1 : B1 < w.heap.size) (hb : b < w.heap.size)
    (h1 : w.heap[B1]? = some (.cells #[.slice (some ⟨b, off, none⟩) M cap] 52 (0, 0))) (hc : ∀ x : Idx M, w.cell? ⟨b, off + x.1, none⟩ = some (cs x)) :
    SeqStopsK Fence.wide n Tryz.prog 123 #[.pointer (some ⟨B1, 0, none⟩)] (fun j : Idx M => #[.int .i64 j.1, cs j]) (Kp1 b) (fun xs => xs.map (·.1) = List.range M) (fun _ => True) M w := fun l J Jx W hW hJ _ hY h0 => by
  refine (all1_in n hn l B1 b off M cap cs hM J Jx hY W ((hW.block B1 hB1).trans h1) (fun x => (cell_same (hW.block b hb) _).trans (hc x)) h0).mono ?_
  rintro e W' ⟨he, ⟨ys, hy, hj⟩ | ⟨pre, hj⟩⟩
  · exact ⟨he, .inl ⟨ys, hy, hj⟩⟩
  · exact ⟨he, .inr ⟨pre, trivial, hj⟩⟩
end Go.Proofs.YtjdejhgfkjeeiaaGreatDoor

namespace Go.Proofs.YtjdejhgfkjeeiaaGreatDoor
open Go.RowKit
set_option linter.unusedVariables false
set_option linter.unusedSimpArgs false
set_option maxRecDepth 100000
attribute [local go_sem] Oper.semAt_some

open Pt (Pt may enc readPt readE zeroPt pc pv PtV SlA OwnA)
open Kr (OwnE SlE Enco RowTys)
open Hs (Idx wpIn_round_region inBlock_lets ownPostK_lets grownBy_drew)
/-- What stands in some of the slots. -/
def fndJ (pool : List UInt8) (l : List (List UInt8)) (js : List Nat) : List Ub := js.filterMap (fndAt pool l)
def FoundP (pool : List UInt8) (l : List (List UInt8)) (w : World) (r : Ending) (w' : World) : Prop := ∃ v rs B, r = .returned (.tuple #[v, .int .i64 (foundE l)]) ∧ Tl w w' v (foundU pool l) rs B ∧ Frm [] w w'
def FI (wR : World) (L6 : Nat) (pool : List UInt8) (l : List (List UInt8)) (pre : List (Idx 4)) (W : World) : Prop := ∃ lv rs B, W.heap[L6]? = some (.cells #[lv] 30 (0, 0)) ∧ Tl wR W lv (fndJ pool l (pre.map (·.1))) rs B ∧ Frm [L6] wR W
theorem fndJ_yes {pool : List UInt8} {l : List (List UInt8)} {js : List Nat} {j : Nat} (h : stands pool j (rowAt l j) = true) : fndJ pool l (js ++ [j]) = fndJ pool l js ++ [(unp (rowAt l j)).1] := by simp [fndJ, fndAt, h]
theorem fndJ_no {pool : List UInt8} {l : List (List UInt8)} {js : List Nat} {j : Nat} (h : stands pool j (rowAt l j) = false) : fndJ pool l (js ++ [j]) = fndJ pool l js := by simp [fndJ, fndAt, h]
theorem fndJ_len (pool : List UInt8) (l : List (List UInt8)) (js : List Nat) : (fndJ pool l js).length ≤ js.length := List.length_filterMap_le _ _
theorem RowO.cells {w : World} {r : RowT} {u : Ub} (h : RowO w r u) : ∀ k ∈ rb r, ∃ o : Obj, w.heap[k]? = some o ∧ o.isCells = true := by
  obtain ⟨a, cap, sp, e, hA, hw⟩ := h
  rw [rb_uc e]
  obtain ⟨h1, ⟨h2, h3, h4⟩ | ⟨g, cap', h2, h3, h4, h5, h6⟩⟩ := hA
  · rw [h2]; simp [blk]
  · rw [h2]; intro k hk; simp [blk] at hk; subst hk; exact ⟨_, h6, rfl⟩
theorem OwnE.cells {α : Type} {enc : α → List Value} {k : Nat} {T : TypeId} {w : World} {v : Value} {l : List α} {sp : List Value} (h : OwnE enc k T w v l sp) : ∀ i ∈ blk v, ∃ o : Obj, w.heap[i]? = some o ∧ o.isCells = true := by
  obtain ⟨h1, ⟨h2, h3, h4⟩ | ⟨g, cap', h2, h3, h4, h5, h6⟩⟩ := h
  · rw [h2]; simp [blk]
  · rw [h2]; intro k hk; simp [blk] at hk; subst hk; exact ⟨_, h6, rfl⟩
/-- Where what is changed is no row of cells. -/
theorem Tl.grow {w0 w w' : World} {v : Value} {l : List Ub} {rs : List RowT} {B L : List Nat} (h : Tl w0 w v l rs B) (f : Frm L w w') (hL : ∀ i ∈ L, ∃ o : Obj, w.heap[i]? = some o ∧ o.isCells = false) : Tl w0 w' v l rs B := by
  have hno : ∀ k, (∃ o : Obj, w.heap[k]? = some o ∧ o.isCells = true) → k ∉ L := fun k ⟨o, ho, hc⟩ hm => by
    obtain ⟨o2, ho2, hc2⟩ := hL k hm
    rw [ho] at ho2; cases ho2; rw [hc] at hc2; cases hc2
  obtain ⟨sp, ho⟩ := h.own
  refine ⟨⟨sp, ho.keep f (fun k hk => hno k (OwnE.cells ho k hk))⟩, h.len, fun i r u h1 h2 => (h.row i r u h1 h2).keep f (fun k hk => hno k ((h.row i r u h1 h2).cells k hk)), h.sep, h.vsep, h.inv, h.inr, fun k hk => ⟨(h.lo k hk).1, Nat.lt_of_lt_of_le (h.lo k hk).2 f.size⟩⟩
theorem FI_own (wR : World) (L6 : Nat) (pool : List UInt8) (l : List (List UInt8)) (h6 : L6 < wR.heap.size) : OwnFrom wR.heap.size (FI wR L6 pool l) := by
  rintro pre W W' row ⟨lv, rs, B, h1, h2, h3⟩ hg hr
  have hf : Frm row.toList W W' := Frm.of_grown hg (fun k hk => by simp [hk])
  refine ⟨lv, rs, B, hf.heap h1 (fun hm => ?_), h2.grow hf (fun i hi => (hr i (by simpa using hi)).2), h3.trans hf (fun i hi => .inr (hr i (by simpa using hi)).1)⟩
  have := (hr L6 (by simpa using hm)).1
  omega
theorem then_lets {K : Act → World → Prop} {Q : Exit → Act → World → Prop} (h : ¬ LetsOut Q) : ¬ LetsOut (Exit.then K Q) := fun ⟨a, w, hq⟩ => h ⟨a, w, hq⟩
theorem keepsOthers_of {L : List Nat} {W W' : World} (f : Frm L W W') (hL : ∀ i ∈ L, ∃ o : Obj, W.heap[i]? = some o ∧ o.isCells = true) : KeepsOthers W W' :=
  ⟨f.size, fun k o hk ho => f.heap hk (fun hm => by
    obtain ⟨o2, ho2, hc2⟩ := hL k hm
    rw [hk] at ho2; cases ho2; rw [ho] at hc2; cases hc2)⟩
theorem neq24 (l m : List UInt8) (hl : l.length = 32) (hm : m.length = 32) (W : World) : (binOp .neq 24 (idv l) (idv m)).run Tryz.prog W = .ok (.bool (!(l == m))) W := by
  have h := eq24_g l m hl hm W
  unfold idv at *
  rw [run_eql_struct] at h
  rw [run_neq_struct]
  cases hr : (Op.equalIn 10000 24 (.agg (bvs l).toArray) (.agg (bvs m).toArray)).run Tryz.prog W with
  | ok x w' => rw [hr] at h; simp [Result.andThen] at h ⊢; exact ⟨by rw [h.1], h.2⟩
  | halt x w' => rw [hr] at h; simp [Result.andThen] at h
theorem wpList_neq24 {ops : Array Oper} {rest : List Oper} {op : Oper} {a : Act} {w : World} {Q : Exit → Act → World → Prop} (hw : Region.wanted op (yielded ops a.tmps) = true) (x y : Operand) (ho : op.op = .binOp .neq 24 x y 24) {s t : List UInt8} {q : Bool}
    (hx : a.eval x = idv s) (hy : a.eval y = idv t) (hs : s.length = 32) (ht : t.length = 32) (hq : (s == t) = q) (h : wpList Tryz.prog ops Q rest (a.put op.dst (.bool !q)) w) : wpList Tryz.prog ops Q (op :: rest) a w :=
  wpList_step fun K hK => by
    have he : (execOp a.eval op).run Tryz.prog w = .ok (.value (.bool !q)) w := by
      have hl := neq24 s t hs ht w
      rw [hq] at hl
      have hg2 : (eqGuard .neq 24 x y (idv s) (idv t)).run Tryz.prog w = .ok () w := Pt.agg_guard .neq x y s t w
      simp [execOp, ho, hx, hy, hl, hg2, Result.andThen]
    rw [if_pos hw]
    unfold Oper.wp
    rw [he]
    exact hK _ _ h
set_option maxHeartbeats 4000000 in
theorem Found_any {s0 s1 s2 : Addr} (v : Value) (l : List (List UInt8)) (pool : List UInt8) (w : World) (h : Ls w v l) (hb : ∀ b ∈ l, b.length ≤ 1000000) (hp : pool.length = 32) (hs : Sens w s0 s1 s2) (hG : Hs.Glob w) : Calls Tryz.prog 36 #[v, idv pool] w (FoundP pool l w) := by
  obtain ⟨a, cap, rfl⟩ := h.form
  have H := Lib.hid h
  have HB := Lib.hid hb
  have HU := Lib.hid (fun v b sp W (f : Frm [] w W) (hS : SlB W v b sp) (hb : b.length ≤ 1000000) => Unpack_own v b sp W hS hb (hs.keep0 f) (hG.keep f (by simp)))
  unfold UnpO at HU
  have hp0 := heap_alloc_new w (.cells (bvs pool).toArray 24)
  have f0 : Frm [] w (w.alloc (.cells (bvs pool).toArray 24)) := (Frm.refl [] w).alloc _
  have HP0 := Lib.hid hp0
  have F0 := Lib.hid f0
  have HPL := Lib.hid hp
  have hz : w.heap.size < (w.alloc (.cells (bvs pool).toArray 24)).heap.size := by simp
  clear h hb hp0 f0 hs hG hp
  rw [show idv pool = .agg (bvs pool).toArray from rfl]
  generalize hA : (bvs pool).toArray = A at *
  refine (callsIn_wide (n := 7)).1 ?_
  refine callsIn_of_wp_marks Tryz.func36 rfl trivial ?_ rfl
  simp only [Tryz.ntmps36, List.size_toArray, List.length_cons, List.length_nil, Nat.reduceAdd, Nat.reduceSub, Array.replicate_succ, Array.replicate_zero, List.push_toArray, List.append_toArray, List.nil_append, List.cons_append]
  refine wpIn_wide.2 ?_
  go_upto_region 1 with (fail)
  generalize hW0 : w.alloc (.cells A 24) = W0 at *
  by_cases hl4 : l.length = 4
  · have h4 := H.out.form
    rw [hl4] at h4 ⊢
    obtain ⟨b, off, cp, e⟩ := H.out.at (by omega)
    injection e with e1 e2 e3
    subst e1; subst e3
    go_wp2_with (first | go_step3 | (go_at_call 83; refine (All_any _ _ rfl).mono ?_; rintro r w2 ⟨rfl, rfl⟩))
    have hcb : ∀ i, i < 4 → ∃ c s, w.cell? ⟨b, off + i, none⟩ = some c ∧ SlB w c (rowAt l i) s ∧ (rowAt l i).length ≤ 1000000 := fun i hi => by
      obtain ⟨c, s, h1, h2⟩ := H.out.cell i (by omega)
      rw [rowAt_eq (by omega)]
      exact ⟨c, s, h1, h2, HB.out _ (List.getElem_mem _)⟩
    have hbw : b < w.heap.size := by obtain ⟨c, s, h1, _⟩ := hcb 0 (by omega); exact World.block_lt_of_cell? _ _ h1
    have HCB := Lib.hid hcb
    have f1 : Frm [] W0 ((W0.alloc (.cells #[.slice none 0 0] 30)).alloc (.cells #[.slice (some ⟨b, off, none⟩) 4 cap] 52)) := ((Frm.refl [] W0).alloc _).alloc _
    have hL6 : ((W0.alloc (.cells #[.slice none 0 0] 30)).alloc (.cells #[.slice (some ⟨b, off, none⟩) 4 cap] 52)).heap[W0.heap.size]? = some (.cells #[.slice none 0 0] 30 (0, 0)) := heap_alloc_lt (heap_alloc_new _ _)
    have hB1 : ((W0.alloc (.cells #[.slice none 0 0] 30)).alloc (.cells #[.slice (some ⟨b, off, none⟩) 4 cap] 52)).heap[W0.heap.size + 1]? = some (.cells #[.slice (some ⟨b, off, none⟩) 4 cap] 52 (0, 0)) := heap_at (by simp)
    have hzR : W0.heap.size + 2 = ((W0.alloc (.cells #[.slice none 0 0] 30)).alloc (.cells #[.slice (some ⟨b, off, none⟩) 4 cap] 52)).heap.size := by simp
    have FR := Lib.hid (F0.out.trans f1 (by simp))
    have HPR := Lib.hid (f1.heap HP0.out (by simp))
    clear hcb f1
    generalize (W0.alloc (.cells #[.slice none 0 0] 30)).alloc (.cells #[.slice (some ⟨b, off, none⟩) 4 cap] 52) = wR at *
    obtain ⟨cs, hcs⟩ : ∃ cs : Idx 4 → Value, ∀ x : Idx 4, wR.cell? ⟨b, off + x.1, none⟩ = some (cs x) ∧ ∃ s, SlB w (cs x) (rowAt l x.1) s := by
      refine ⟨fun x => (wR.cell? ⟨b, off + x.1, none⟩).getD undef, fun x => ?_⟩
      obtain ⟨c, s, h1, h2, h3⟩ := HCB.out x.1 x.2
      have h4 := FR.out.cell h1 (by simp)
      exact ⟨by simp [h4], s, by simpa [h4] using h2⟩
    have HCS := Lib.hid hcs
    generalize hg6 : W0.heap.size = L6 at *
    generalize hgP : w.heap.size = gP at *
    have HN := Lib.hid (show gP < L6 ∧ b < gP ∧ L6 + 2 = wR.heap.size from ⟨hz, hbw, hzR⟩)
    have HL6 := Lib.hid hL6
    refine (wpIn_wide (n := 7)).1 ?_
    refine wpIn_rangeFunc_ownF rfl (by decide) (gf := 123) (lb := #[.pointer (some ⟨L6 + 1, 0, none⟩)]) rfl trivial (Go.Proofs.enters_of Tryz.func123 (by kernel_rfl) rfl)
      (all_stops (7 - 1) (by decide) (L6 + 1) b off 4 cap cs (by decide) wR (by omega) (by omega) hB1 (fun x => (hcs x).1))
      ?kt ?kb (Below.refl _ _) (fun _ => rfl) (FI wR L6 pool l) (fun _ _ _ => False) (FI_own wR L6 pool l (by omega)) (fun _ _ _ _ _ hs _ _ => hs) ⟨_, [], [], hL6, Tl.nil wR, Frm.refl _ _⟩
      (fun x : Idx 4 => { tmps := #[.slice (some ⟨b, off, none⟩) 4 cap, .agg A, undef, .pointer (some ⟨gP, 0, none⟩), .slice none 0 0, .int .i64 0, .pointer (some ⟨L6, 0, none⟩), .int .i64 x.1, cs x, undef, undef, .slice (some ⟨b, off, none⟩) 4 cap, .int .i64 4, .bool false, .slice (some ⟨b, off, none⟩) 4 cap, .func (.func 123) #[] #[.pointer (some ⟨L6 + 1, 0, none⟩)], .int .i64 x.1, cs x, undef, undef, undef, undef, undef, undef, undef, undef, undef, undef, undef, undef, undef, undef, undef, undef, undef, undef, undef, undef, undef, undef, undef, undef, undef], defers := [] }) ?assign ?body ?done ?stop
    case kt => intro A B C h k; exact k.trans h
    case kb => intro W' l o o' hl h ho hw; exact World.putObj_heap_other (by have := HN.out; omega)
    case assign =>
      intro l x W' K hK
      gi_wp2
      exact hK
    case body =>
      rintro l' pre x W' ⟨lv, rs, B, h6, tl, fr⟩ hlen
      have hx := HCS.out x
      obtain ⟨_, s8, hs8⟩ := hx
      have hbl := (HCB.out x.1 x.2)
      obtain ⟨_, _, _, _, hlen8⟩ := hbl
      have FW := Lib.hid (show Frm [] w W' from FR.out.trans fr (fun i hi => .inr (by simp at hi; have := HN.out; omega)))
      have HU8 := Lib.hid (HU.out (cs x) (rowAt l x.1) s8 W' FW.out (hs8.keep FW.out (by simp)) hlen8)
      have hwf := unp_wf (rowAt l x.1)
      have HFY := Lib.hid (show ∀ h : stands pool x.1 (rowAt l x.1) = true, fndJ pool l ((pre ++ [x]).map (·.1)) = fndJ pool l (pre.map (·.1)) ++ [(unp (rowAt l x.1)).1] from fun h => by rw [List.map_append, List.map_cons, List.map_nil, fndJ_yes h])
      have HFN := Lib.hid (show ∀ h : stands pool x.1 (rowAt l x.1) = false, fndJ pool l ((pre ++ [x]).map (·.1)) = fndJ pool l (pre.map (·.1)) from fun h => by rw [List.map_append, List.map_cons, List.map_nil, fndJ_no h])
      have HST := Lib.hid (show stands pool x.1 (rowAt l x.1) = (((unp (rowAt l x.1)).2 == 0) && (((unp (rowAt l x.1)).1.pool == pool) && ((1 + (x.1 : Int)) == slotN (unp (rowAt l x.1)).1.txg))) from by unfold stands; rw [show ((1 + x.1 : Nat) : Int) = 1 + (x.1 : Int) by omega])
      have hlm : (fndJ pool l (pre.map (·.1))).length ≤ 1000000 := Nat.le_trans (fndJ_len _ _ _) (by rw [List.length_map]; omega)
      generalize hst : stands pool x.1 (rowAt l x.1) = st at *
      generalize (unp (rowAt l x.1)).1 = u at *
      generalize (unp (rowAt l x.1)).2 = e at *
      generalize hm2 : fndJ pool l ((pre ++ [x]).map (·.1)) = m2 at *
      generalize fndJ pool l (pre.map (·.1)) = m at *
      have HM2 := Lib.hid hm2
      clear hm2
      have H6 := Lib.hid h6
      have TL := Lib.hid tl
      have FRR := Lib.hid fr
      have HW := Lib.hid hwf
      have hpo := FW.out.size
      have HPW := Lib.hid (fr.heap HPR.out (by have := HN.out; simp; omega))
      have hx4 : (x.1 : Int) < 4 := by have := x.2; omega
      have e5 : IntKind.i64.wrap (1 + (x.1 : Int)) = 1 + (x.1 : Int) := IntWalk.i64_in _ (by omega)
      generalize cs x = cx at *
      generalize x.1 = xi at *
      clear h6 tl fr hlen hs8 hlen8 hst hL6 hB1 hcs HCS HCB
      have DONE := Lib.hid (show ∀ (W3 : World), Frm [] W' W3 → m2 = m → KeepsOthers W' W3 ∧ Kp1 b W' W3 ∧ FI wR L6 pool l (pre ++ [x]) W3 from fun W3 f hm => ⟨keepsOthers_of f (fun i hi => by cases hi), f.block b (by have := HN.out; have := FRR.out.size; omega) (by simp), ⟨lv, rs, B, f.heap H6.out (by simp), by rw [HM2.out, hm]; exact TL.out.keep0 f, FRR.out.trans f (by simp)⟩⟩)
      refine wpIn_block ?_
      refine wpIn_seq ?_
      refine wpIn_round_region (by kernel_rfl) (then_lets (inBlock_lets ownPostK_lets)) ?_
      go_wp2_with (first
        | ((with_reducible (show wpList _ _ _ (Oper.mk _ (Op.alloc 28) _ _ _ _ :: _) _ _)); refine wpList_lay28 rfl rfl rfl _ _ rfl (v := .slice ya u.root.ads.length yc) rfl (u := u) hwf rfl rfl ?_)
        | (go_at_call 26; refine HU8.out.mono ?_; rintro r w2 ⟨ya, yc, ysp, rfl, oy, f2, n2⟩))
      have f3 : Frm [] w2 (w2.alloc (.cells (uc (.slice ya u.root.ads.length yc) u).toArray 28)) := (Frm.refl [] w2).alloc _
      have hub : UbV (w2.alloc (.cells (uc (.slice ya u.root.ads.length yc) u).toArray 28)) (uv (.slice ya u.root.ads.length yc) u) u := ⟨ya, yc, ysp, rfl, (oy.keep f3 (by simp)).sl, hwf⟩
      have HUB := Lib.hid hub
      have G3 := Lib.hid (UB.new w2 (.slice ya u.root.ads.length yc) hwf)
      have OY := Lib.hid (oy.keep f3 (by simp))
      have F3 := Lib.hid (f2.trans f3 (by simp))
      have N2 := Lib.hid n2
      have HPL3 := Lib.hid (show Blk (w2.alloc (.cells (uc (.slice ya u.root.ads.length yc) u).toArray 28)) gP 24 (bvs pool) from by rw [← hA] at HPW; exact (f2.trans f3 (by simp)).heap HPW.out (by simp))
      clear f3 hub oy f2 n2
      generalize w2.alloc (.cells (uc (.slice ya u.root.ads.length yc) u).toArray 28) = W3 at *
      generalize w2.heap.size = n3 at *
      have LP := Lib.hid (show (Instr.loadAt 24 (.pointer (some ⟨gP, 0, none⟩))).run Tryz.prog W3 = .ok (idv pool) W3 from HPL3.out.load0 (by kernel_rfl) (by rw [i24, bvs_length, HPL.out]))
      have hsi := Lib.hid (fun W (f : Frm [] W3 W) => standsIn_any (1 + (xi : Int)) _ u W (HUB.out.keep0 f))
      rw [HST.out] at HFY HFN
      refine wpIn_seq ?_
      refine wpIn_seq ?_
      refine wpIn_round_region (by kernel_rfl) (then_lets (then_lets (inBlock_lets ownPostK_lets))) ?_
      by_cases he : e = 0
      · subst he
        cases hq : (u.pool == pool) with
        | true =>
          cases hq2 : ((1 + (xi : Int)) == slotN u.txg) with
          | true =>
            have hm : m2 = m ++ [u] := HFY.out (by rw [hq, hq2]; rfl)
            go_wp2_with (first
              | ((with_reducible (show wpList _ _ _ (Oper.mk (some 27) (Op.load 24 _) _ _ _ _ :: _) _ _)); refine wpList_load_g (by rfl) 24 _ rfl _ rfl G3.out.gets.pool ?_)
              | ((with_reducible (show wpList _ _ _ (Oper.mk (some 28) (Op.load 24 _) _ _ _ _ :: _) _ _)); refine wpList_load_g (by rfl) 24 _ rfl _ rfl LP.out ?_)
              | ((with_reducible (show wpList _ _ _ (Oper.mk (some 29) (Op.binOp .neq 24 _ _ _) _ _ _ _ :: _) _ _)); refine wpList_neq24 (by rfl) _ _ rfl rfl rfl HW.out.pool HPL.out hq ?_)
              | ((with_reducible (show wpList _ _ _ (Oper.mk (some 34) (Op.load 28 _) _ _ _ _ :: _) _ _)); refine wpList_load_g (by rfl) 28 _ rfl _ rfl G3.out.gets.all ?_)
              | (go_at_call 84; refine (hsi.out _ (Frm.refl [] _)).mono ?_; rw [hq2]; rintro r W4 ⟨rfl, f4⟩))
            refine wpIn_cond_false (by rfl) ?_
            refine wpIn_skip ?_
            refine wpIn_round_region (by kernel_rfl) (inBlock_lets ownPostK_lets) ?_
            have F4 := Lib.hid (F3.out.trans f4 (by simp))
            have h64 := F4.out.heap H6.out (by simp)
            have c64 : W4.cell? ⟨L6, 0, none⟩ = some lv := by rw [cell_of_heap h64]; rfl
            have G4 := Lib.hid (G3.out.keep0 f4)
            have OY4 := Lib.hid (OY.out.keep f4 (by simp))
            have TL4 := Lib.hid (TL.out.keep0 F4.out)
            have hbl6 : ∀ i ∈ blk lv, ¬ i = L6 := fun i hi => by have := (TL.out.lo i (TL.out.inv i hi)).1; have := HN.out; omega
            have HBL6 := Lib.hid hbl6
            have H64 := Lib.hid h64
            have hz := FRR.out.size
            have hzW := F4.out.size
            have HZ := Lib.hid (And.intro hz hzW)
            clear f4 h64 hbl6 hz hzW
            go_wp2_with (first
              | ((with_reducible (show wpList _ _ _ (Oper.mk _ (Op.load 28 _) _ _ _ _ :: _) _ _)); refine wpList_load_g (by rfl) 28 _ rfl _ rfl G4.out.gets.all ?_)
              | ((with_reducible (show wpList _ _ _ (Oper.mk _ (Op.buildSlice 30 1 _) _ _ _ _ :: _ :: _) _ _)); refine wpList_tl (x := rowU (.slice ya u.root.ads.length yc) rfl u hwf) (u := u) TL4.out hlm ⟨ya, yc, ysp, rfl, OY4.out, hwf⟩ (fun k hk hmB => by have h1 := N2.out k hk; have h2 := (TL.out.lo k hmB).2; omega) (fun k hk => by have h1 := N2.out k hk; have h2 := HZ.out; omega) (by have := HZ.out; omega) rfl rfl _ _ _ _ rfl rfl rfl rfl rfl rfl ?_; intro a5 c5 w5 tl5 f5 n5; have h65 := f5.heap H64.out (fun hmm => HBL6.out _ hmm rfl); have c65 : w5.cell? ⟨L6, 0, none⟩ = some lv := cell_of_heap h65 0; have z65 := frozen_of_heap h65 0))
            have f6 : Frm [L6] w5 (w5.setCell ⟨L6, 0, none⟩ (.slice a5 (m.length + 1) c5)) := (Frm.refl [L6] w5).setCell ⟨L6, 0, none⟩ _ (.inl (by simp))
            have fall : Frm (L6 :: blk lv) W' (w5.setCell ⟨L6, 0, none⟩ (.slice a5 (m.length + 1) c5)) := ((F4.out.mono (L' := L6 :: blk lv) (by simp)).trans f5 (fun i hi => .inl (by simp [hi]))).trans f6 (fun i hi => .inl (by simp at hi; simp [hi]))
            have tl6 := tl5.keep f6 (fun i hi hmm => by simp at hi; subst hi; have := (tl5.lo _ hmm).1; have := HN.out; omega)
            rw [← hm, ← HM2.out] at tl6
            refine ⟨keepsOthers_of fall (fun i hi => ?_), fall.block b (by have := HN.out; have := HZ.out; omega) (fun hmm => ?_), ⟨_, _, _, by rw [heap_setCell_same _ h65]; rfl, tl6, FRR.out.trans fall (fun i hi => ?_)⟩⟩
            · rcases List.mem_cons.1 hi with e | hi
              · subst e; exact ⟨_, H6.out, rfl⟩
              · obtain ⟨sp0, ho⟩ := TL.out.own; exact OwnE.cells ho i hi
            · rcases List.mem_cons.1 hmm with e | hmm
              · have := HN.out; omega
              · have := (TL.out.lo b (TL.out.inv b hmm)).1; have := HN.out; omega
            · rcases List.mem_cons.1 hi with e | hi
              · exact .inl (by simp [e])
              · exact .inr (TL.out.lo i (TL.out.inv i hi)).1
          | false =>
            have hm : m2 = m := HFN.out (by rw [hq, hq2]; rfl)
            go_wp2_with (first
              | ((with_reducible (show wpList _ _ _ (Oper.mk (some 27) (Op.load 24 _) _ _ _ _ :: _) _ _)); refine wpList_load_g (by rfl) 24 _ rfl _ rfl G3.out.gets.pool ?_)
              | ((with_reducible (show wpList _ _ _ (Oper.mk (some 28) (Op.load 24 _) _ _ _ _ :: _) _ _)); refine wpList_load_g (by rfl) 24 _ rfl _ rfl LP.out ?_)
              | ((with_reducible (show wpList _ _ _ (Oper.mk (some 29) (Op.binOp .neq 24 _ _ _) _ _ _ _ :: _) _ _)); refine wpList_neq24 (by rfl) _ _ rfl rfl rfl HW.out.pool HPL.out hq ?_)
              | ((with_reducible (show wpList _ _ _ (Oper.mk (some 34) (Op.load 28 _) _ _ _ _ :: _) _ _)); refine wpList_load_g (by rfl) 28 _ rfl _ rfl G3.out.gets.all ?_)
              | (go_at_call 84; refine (hsi.out _ (Frm.refl [] _)).mono ?_; rw [hq2]; rintro r W4 ⟨rfl, f4⟩))
            gi_wp2
            exact DONE.out _ (F3.out.trans f4 (by simp)) hm
        | false =>
          have hm : m2 = m := HFN.out (by rw [hq]; rfl)
          go_wp2_with (first
            | ((with_reducible (show wpList _ _ _ (Oper.mk (some 27) (Op.load 24 _) _ _ _ _ :: _) _ _)); refine wpList_load_g (by rfl) 24 _ rfl _ rfl G3.out.gets.pool ?_)
            | ((with_reducible (show wpList _ _ _ (Oper.mk (some 28) (Op.load 24 _) _ _ _ _ :: _) _ _)); refine wpList_load_g (by rfl) 24 _ rfl _ rfl LP.out ?_)
            | ((with_reducible (show wpList _ _ _ (Oper.mk (some 29) (Op.binOp .neq 24 _ _ _) _ _ _ _ :: _) _ _)); refine wpList_neq24 (by rfl) _ _ rfl rfl rfl HW.out.pool HPL.out hq ?_))
          gi_wp2
          exact DONE.out _ F3.out hm
      · have hm : m2 = m := HFN.out (by simp [he])
        have hne : (e != 0) = true := by simpa using he
        go_wp2_with fail
        gi_wp2
        exact DONE.out _ F3.out hm
    case done =>
      rintro D xs W' hD hxs ⟨lv, rs, B, h6, tl, fr⟩ hK
      rw [hxs] at tl
      have hfu : fndJ pool l (List.range 4) = foundU pool l := by unfold foundU; rw [if_pos hl4]; rfl
      have hfe : foundE l = 0 := by unfold foundE; rw [if_pos hl4]
      rw [hfu] at tl
      have c6 : W'.cell? ⟨L6, 0, none⟩ = some lv := by rw [cell_of_heap h6]; rfl
      have fD : Frm [D] W' (W'.putObj D (.deferred none)) := Frm.of_grown (L := [D]) (grownBy_putObj' W' D (.deferred none)) (fun k e => by cases e; simp)
      have tlD := tl.grow fD (fun i hi => by simp at hi; subst hi; exact ⟨_, hK, rfl⟩)
      have HT := Lib.hid (tlD.base (w0 := w) FR.out.size)
      have HF := Lib.hid (show Frm [] w (W'.putObj D (.deferred none)) from (FR.out.trans fr (fun i hi => .inr (by simp at hi; have := HN.out; omega))).trans fD (fun i hi => .inr (by simp at hi; subst hi; have := FR.out.size; omega)))
      have HK := Lib.hid hK
      have HFE := Lib.hid hfe
      clear tl fr h6 hK tlD fD hfu hfe hxs
      simp only [Exit.inBlock, Exit.then]
      go_wp2_with fail
      refine ⟨by simp, .inl ⟨_, _, rfl, run_takeDeferred HK.out, ?_⟩⟩
      exact ⟨.tuple #[lv, .int .i64 0], by simp [results, Tryz.results36, go_sem], lv, rs, B, by rw [HFE.out], HT.out, HF.out⟩
    case stop =>
      rintro D c pre W' _ _ h _
      exact h.elim
  · have hne : ¬ (l.length : Int) = 4 := by omega
    have e1 : foundU pool l = [] := by unfold foundU; rw [if_neg hl4]
    have e2 : foundE l = 2 := by unfold foundE; rw [if_neg hl4]
    have HE := Lib.hid (And.intro e1 e2)
    have FF := Lib.hid F0.out
    clear e1 e2
    go_wp2_with (first | go_step3)
    show LeavesInM _ _ _ _ _ _ [] _ _
    exact ⟨.tuple #[.slice none 0 0, .int .i64 2], by simp [results, Tryz.results36, go_sem], _, [], [], by rw [HE.out.2], by rw [HE.out.1]; exact (Tl.nil W0).base FF.size, FF⟩
end Go.Proofs.YtjdejhgfkjeeiaaGreatDoor

namespace Go.Proofs.YtjdejhgfkjeeiaaGreatDoor
open Go.RowKit
set_option linter.unusedVariables false
set_option linter.unusedSimpArgs false
set_option maxRecDepth 100000
attribute [local go_sem] Oper.semAt_some

open Pt (Pt may enc readPt readE zeroPt pc pv PtV SlA OwnA)
open Kr (OwnE SlE Enco RowTys)
open Hs (Idx wpIn_round_region inBlock_lets ownPostK_lets grownBy_drew)
def usdJ (l : List (List UInt8)) (js : List Nat) : Nat := (js.filter (fun i => usedB (rowAt l i))).length
theorem usdJ_yes {l : List (List UInt8)} {js : List Nat} {j : Nat} (h : usedB (rowAt l j) = true) : usdJ l (js ++ [j]) = usdJ l js + 1 := by simp [usdJ, h]
theorem usdJ_no {l : List (List UInt8)} {js : List Nat} {j : Nat} (h : usedB (rowAt l j) = false) : usdJ l (js ++ [j]) = usdJ l js := by simp [usdJ, h]
theorem usdJ_len (l : List (List UInt8)) (js : List Nat) : usdJ l js ≤ js.length := List.length_filter_le _ _
def UI (wR : World) (L4 : Nat) (l : List (List UInt8)) (pre : List (Idx 4)) (W : World) : Prop := W.heap[L4]? = some (.cells #[.int .i64 (usdJ l (pre.map (·.1)))] 3 (0, 0)) ∧ Frm [L4] wR W
theorem UI_own (wR : World) (L4 : Nat) (l : List (List UInt8)) (h4 : L4 < wR.heap.size) : OwnFrom wR.heap.size (UI wR L4 l) := by
  rintro pre W W' row ⟨h1, h3⟩ hg hr
  have hf : Frm row.toList W W' := Frm.of_grown hg (fun k hk => by simp [hk])
  refine ⟨hf.heap h1 (fun hm => ?_), h3.trans hf (fun i hi => .inr (hr i (by simpa using hi)).1)⟩
  have := (hr L4 (by simpa using hm)).1
  omega
theorem usedB_no {b : List UInt8} (h : ∀ j (hj : j < b.length), b[j] = 0) : usedB b = false := by
  unfold usedB
  rw [List.any_eq_false]
  intro x hx
  obtain ⟨i, hi, rfl⟩ := List.getElem_of_mem hx
  simp [h i hi]
theorem usedB_yes {b : List UInt8} (j : Nat) (hj : j < b.length) (h : b[j] ≠ 0) : usedB b = true := by
  unfold usedB
  rw [List.any_eq_true]
  exact ⟨b[j], List.getElem_mem _, by simpa using h⟩
theorem slb_at {w : World} {a : Option Addr} {n cap : Nat} {b sp : List UInt8} (h : SlB w (.slice a n cap) b sp) (hp : 0 < b.length) : ∃ bb off, a = some ⟨bb, off, none⟩ := by
  obtain ⟨h1, ⟨h2, h3, h4⟩ | ⟨a', h2, h3, h4⟩ | ⟨b', off', cap', h2, h3, h4, h5, h6⟩⟩ := h
  · omega
  · omega
  · cases h2; exact ⟨_, _, rfl⟩
def UsedP (l : List (List UInt8)) (w : World) (r : Ending) (w' : World) : Prop := r = .returned (.tuple #[.int .i64 (usedN l), .int .i64 (foundE l)]) ∧ Frm [] w w'
set_option maxHeartbeats 4000000 in
theorem Used_any (v : Value) (l : List (List UInt8)) (w : World) (h : Ls w v l) (hb : ∀ b ∈ l, b.length ≤ 1000000) : Calls Tryz.prog 40 #[v] w (UsedP l w) := by
  obtain ⟨a, cap, rfl⟩ := h.form
  have H := Lib.hid h
  have HB := Lib.hid hb
  clear h hb
  refine (callsIn_wide (n := 7)).1 ?_
  refine callsIn_of_wp_marks Tryz.func40 rfl trivial ?_ rfl
  simp only [Tryz.ntmps40, List.size_toArray, List.length_cons, List.length_nil, Nat.reduceAdd, Nat.reduceSub, Array.replicate_succ, Array.replicate_zero, List.push_toArray, List.append_toArray, List.nil_append, List.cons_append]
  refine wpIn_wide.2 ?_
  by_cases hl4 : l.length = 4
  · have h4 := H.out.form
    rw [hl4] at h4 ⊢
    obtain ⟨b, off, cp, e⟩ := H.out.at (by omega)
    injection e with e1 e2 e3
    subst e1; subst e3
    go_wp2_with (first | go_step3 | (go_at_call 83; refine (All_any _ _ rfl).mono ?_; rintro r w2 ⟨rfl, rfl⟩))
    have hcb : ∀ i, i < 4 → ∃ c s, w.cell? ⟨b, off + i, none⟩ = some c ∧ SlB w c (rowAt l i) s ∧ (rowAt l i).length ≤ 1000000 := fun i hi => by
      obtain ⟨c, s, h1, h2⟩ := H.out.cell i (by omega)
      rw [rowAt_eq (by omega)]
      exact ⟨c, s, h1, h2, HB.out _ (List.getElem_mem _)⟩
    have hbw : b < w.heap.size := by obtain ⟨c, s, h1, _⟩ := hcb 0 (by omega); exact World.block_lt_of_cell? _ _ h1
    have HCB := Lib.hid hcb
    have f1 : Frm [] w ((w.alloc (.cells #[.int .i64 0] 3)).alloc (.cells #[.slice (some ⟨b, off, none⟩) 4 cap] 52)) := ((Frm.refl [] w).alloc _).alloc _
    have hL4 : ((w.alloc (.cells #[.int .i64 0] 3)).alloc (.cells #[.slice (some ⟨b, off, none⟩) 4 cap] 52)).heap[w.heap.size]? = some (.cells #[.int .i64 0] 3 (0, 0)) := heap_alloc_lt (heap_alloc_new _ _)
    have hB1 : ((w.alloc (.cells #[.int .i64 0] 3)).alloc (.cells #[.slice (some ⟨b, off, none⟩) 4 cap] 52)).heap[w.heap.size + 1]? = some (.cells #[.slice (some ⟨b, off, none⟩) 4 cap] 52 (0, 0)) := heap_at (by simp)
    have hzR : w.heap.size + 2 = ((w.alloc (.cells #[.int .i64 0] 3)).alloc (.cells #[.slice (some ⟨b, off, none⟩) 4 cap] 52)).heap.size := by simp
    have FR := Lib.hid f1
    clear hcb f1
    generalize (w.alloc (.cells #[.int .i64 0] 3)).alloc (.cells #[.slice (some ⟨b, off, none⟩) 4 cap] 52) = wR at *
    obtain ⟨cs, hcs⟩ : ∃ cs : Idx 4 → Value, ∀ x : Idx 4, wR.cell? ⟨b, off + x.1, none⟩ = some (cs x) ∧ ∃ s, SlB w (cs x) (rowAt l x.1) s := by
      refine ⟨fun x => (wR.cell? ⟨b, off + x.1, none⟩).getD undef, fun x => ?_⟩
      obtain ⟨c, s, h1, h2, h3⟩ := HCB.out x.1 x.2
      have h4 := FR.out.cell h1 (by simp)
      exact ⟨by simp [h4], s, by simpa [h4] using h2⟩
    have HCS := Lib.hid hcs
    have hgw : w.heap.size = w.heap.size := rfl
    generalize hL : w.heap.size = L4 at *
    have HN := Lib.hid (show b < L4 ∧ L4 + 2 = wR.heap.size from ⟨hbw, hzR⟩)
    have HL4 := Lib.hid hL4
    have HLW := Lib.hid hL
    clear hL hgw
    refine (wpIn_wide (n := 7)).1 ?_
    refine wpIn_rangeFunc_ownF rfl (by decide) (gf := 123) (lb := #[.pointer (some ⟨L4 + 1, 0, none⟩)]) rfl trivial (Go.Proofs.enters_of Tryz.func123 (by kernel_rfl) rfl)
      (all_stops (7 - 1) (by decide) (L4 + 1) b off 4 cap cs (by decide) wR (by omega) (by omega) hB1 (fun x => (hcs x).1))
      ?kt ?kb (Below.refl _ _) (fun _ => rfl) (UI wR L4 l) (fun _ _ _ => False) (UI_own wR L4 l (by omega)) (fun _ _ _ _ _ hs _ _ => hs) ⟨hL4, Frm.refl _ _⟩
      (fun x : Idx 4 => { tmps := #[.slice (some ⟨b, off, none⟩) 4 cap, undef, .int .i64 0, .int .i64 0, .pointer (some ⟨L4, 0, none⟩), undef, cs x, undef, undef, .slice (some ⟨b, off, none⟩) 4 cap, .int .i64 4, .bool false, .slice (some ⟨b, off, none⟩) 4 cap, .func (.func 123) #[] #[.pointer (some ⟨L4 + 1, 0, none⟩)], .int .i64 x.1, cs x, undef, undef, undef, undef, undef, undef, undef, undef, undef, undef, undef, undef], defers := [] }) ?assign ?body ?done ?stop
    case kt => intro A B C h k; exact k.trans h
    case kb => intro W' l o o' hl h ho hw; exact World.putObj_heap_other (by have := HN.out; omega)
    case assign =>
      intro l x W' K hK
      gi_wp2
      exact hK
    case body =>
      rintro l' pre x W' ⟨h4, fr⟩ hlen
      have hx := HCS.out x
      obtain ⟨_, s8, hs8⟩ := hx
      obtain ⟨_, _, _, _, hlen8⟩ := HCB.out x.1 x.2
      have FW := Lib.hid (show Frm [] w W' from FR.out.trans fr (fun i hi => .inr (by simp at hi; have := HLW.out; omega)))
      have hS := hs8.keep FW.out (by simp)
      have HUY := Lib.hid (show ∀ h : usedB (rowAt l x.1) = true, usdJ l ((pre ++ [x]).map (·.1)) = usdJ l (pre.map (·.1)) + 1 from fun h => by rw [List.map_append, List.map_cons, List.map_nil, usdJ_yes h])
      have HUN := Lib.hid (show ∀ h : usedB (rowAt l x.1) = false, usdJ l ((pre ++ [x]).map (·.1)) = usdJ l (pre.map (·.1)) from fun h => by rw [List.map_append, List.map_cons, List.map_nil, usdJ_no h])
      have hlm : usdJ l (pre.map (·.1)) ≤ 4 := Nat.le_trans (usdJ_len _ _) (by rw [List.length_map]; omega)
      generalize hm2 : usdJ l ((pre ++ [x]).map (·.1)) = m2 at *
      generalize usdJ l (pre.map (·.1)) = m at *
      have HM2 := Lib.hid hm2
      clear hm2
      have H4 := Lib.hid h4
      have FRR := Lib.hid fr
      have c4 : W'.cell? ⟨L4, 0, none⟩ = some (.int .i64 m) := by rw [cell_of_heap h4]; rfl
      have z4 := frozen_of_heap h4 0
      have hw1 : IntKind.i64.wrap ((m : Int) + 1) = (m : Int) + 1 := IntWalk.i64_in _ (by omega)
      have DONE := Lib.hid (show m2 = m → KeepsOthers W' W' ∧ Kp1 b W' W' ∧ UI wR L4 l (pre ++ [x]) W' from fun hm => ⟨keepsOthers_of (Frm.refl [] W') (fun i hi => by cases hi), rfl, by unfold UI; rw [HM2.out, hm]; exact ⟨H4.out, FRR.out⟩⟩)
      have DONE2 := Lib.hid (show m2 = m + 1 → KeepsOthers W' (W'.setCell ⟨L4, 0, none⟩ (.int .i64 ((m : Int) + 1))) ∧ Kp1 b W' (W'.setCell ⟨L4, 0, none⟩ (.int .i64 ((m : Int) + 1))) ∧ UI wR L4 l (pre ++ [x]) (W'.setCell ⟨L4, 0, none⟩ (.int .i64 ((m : Int) + 1))) from fun hm => by
        have f6 : Frm [L4] W' (W'.setCell ⟨L4, 0, none⟩ (.int .i64 ((m : Int) + 1))) := (Frm.refl [L4] W').setCell ⟨L4, 0, none⟩ _ (.inl (by simp))
        refine ⟨keepsOthers_of f6 (fun i hi => by simp at hi; subst hi; exact ⟨_, H4.out, rfl⟩), f6.block b (by have := HN.out; have := FRR.out.size; omega) (fun hmm => by simp at hmm; have := HN.out; omega), ?_, FRR.out.trans f6 (fun i hi => .inl hi)⟩
        rw [HM2.out, hm, heap_setCell_same _ H4.out]
        simp)
      obtain ⟨sa, sc, hse, _, _⟩ := hS.form
      generalize cs x = cx at *
      subst hse
      generalize rowAt l x.1 = bt at *
      have HS := Lib.hid hS
      have hbl9 : (bt.length : Int) ≤ 1000000 := by omega
      clear h4 fr hlen hs8 hlen8 hL4 hB1 hcs HCS HCB hlm hS
      refine wpIn_block ?_
      gi_wp2
      gi_loopw [18] (fun i wr => wr = W' ∧ ∃ k : Nat, k ≤ bt.length ∧ i = .int .i64 k ∧ ∀ j (hj : j < bt.length), j < k → bt[j] = 0) (fun i _ => bt.length - (intOf i).toNat)
      case atStart => exact ⟨rfl, 0, Nat.zero_le _, rfl, fun j _ h => by omega⟩
      case round =>
        obtain ⟨hwr, k, hk, rfl, hz⟩ := hrel
        obtain rfl := hwr.symm
        by_cases hlt : k < bt.length
        · have hlt' : (k : Int) < (bt.length : Int) := by omega
          obtain ⟨bb, bo, rfl⟩ := slb_at HS.out (by omega)
          have cb := SlB.cellAt HS.out k hlt
          by_cases hb0 : bt[k] = 0
          · have hbk : (((bt[k]).toNat : Int) != 0) = false := by rw [hb0]; rfl
            have HZ := Lib.hid (show ∀ j (hj : j < bt.length), j < k + 1 → bt[j] = 0 from fun j hj hjk => by
              rcases Nat.lt_or_ge j k with h | h
              · exact hz j hj h
              · obtain rfl : j = k := by omega
                exact hb0)
            generalize bt[k] = y at *
            clear hz hb0
            gi_wp2
            refine ⟨⟨trivial, k + 1, by omega, by go_num, HZ.out⟩, by simp [intOf]; omega⟩
          · have hbk : (((bt[k]).toNat : Int) != 0) = true := by
              have : (bt[k]).toNat ≠ 0 := fun h => hb0 (UInt8.toNat_inj.1 (by rw [h]; rfl))
              simp; exact this
            have hm := HUY.out (usedB_yes k hlt hb0)
            have HMM := Lib.hid hm
            generalize bt[k] = y at *
            clear hz hb0 hm
            gi_wp2
            exact DONE2.out HMM.out
        · obtain rfl : k = bt.length := by omega
          have hm := HUN.out (usedB_no (fun j hj => hz j hj hj))
          have HMM := Lib.hid hm
          clear hz hm
          gi_wp2
          exact DONE.out HMM.out
    case done =>
      rintro D xs W' hD hxs ⟨h4, fr⟩ hK
      rw [hxs] at h4
      have hfu : ((usdJ l (List.range 4) : Nat) : Int) = usedN l := by unfold usedN; rw [if_pos hl4]; rfl
      have hfe : foundE l = 0 := by unfold foundE; rw [if_pos hl4]
      rw [hfu] at h4
      have c4 : W'.cell? ⟨L4, 0, none⟩ = some (.int .i64 (usedN l)) := by rw [cell_of_heap h4]; rfl
      have fD : Frm [D] W' (W'.putObj D (.deferred none)) := Frm.of_grown (L := [D]) (grownBy_putObj' W' D (.deferred none)) (fun k e => by cases e; simp)
      have HF := Lib.hid (show Frm [] w (W'.putObj D (.deferred none)) from (FR.out.trans fr (fun i hi => .inr (by simp at hi; have := HLW.out; omega))).trans fD (fun i hi => .inr (by simp at hi; subst hi; have := FR.out.size; have := HLW.out; omega)))
      have HK := Lib.hid hK
      have HFE := Lib.hid hfe
      clear fr h4 hK fD hfu hfe hxs
      simp only [Exit.inBlock, Exit.then]
      go_wp2_with fail
      refine ⟨by simp, .inl ⟨_, _, rfl, run_takeDeferred HK.out, ?_⟩⟩
      exact ⟨.tuple #[.int .i64 (usedN l), .int .i64 0], by simp [results, Tryz.results40, go_sem], by rw [HFE.out], HF.out⟩
    case stop =>
      rintro D c pre W' _ _ h _
      exact h.elim
  · have hne : ¬ (l.length : Int) = 4 := by omega
    have e1 : usedN l = 0 := by unfold usedN; rw [if_neg hl4]
    have e2 : foundE l = 2 := by unfold foundE; rw [if_neg hl4]
    have HE := Lib.hid (And.intro e1 e2)
    clear e1 e2
    go_wp2_with (first | go_step3)
    show LeavesInM _ _ _ _ _ _ [] _ _
    exact ⟨.tuple #[.int .i64 0, .int .i64 2], by simp [results, Tryz.results40, go_sem], by rw [HE.out.1, HE.out.2], Frm.refl _ _⟩
end Go.Proofs.YtjdejhgfkjeeiaaGreatDoor
