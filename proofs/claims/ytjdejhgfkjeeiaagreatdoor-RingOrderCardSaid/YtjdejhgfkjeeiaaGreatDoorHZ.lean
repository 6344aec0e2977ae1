/-
  Contracts of hash: Sum, Less, and what they call. No conditions but those that each theorem names.
-/
import Derived.Test.YtjdejhgfkjeeiaaGreatDoorRows
import Derived.Test.YtjdejhgfkjeeiaaGreatDoorKB
import Derived.BigQuiet
import Derived.Deep.QuietTactic
import Derived.Deep.RegionWith
import Derived.Lib.Hide
import Derived.Laws.BitsAllLaws
import Derived.RangeFuncFrom
import Derived.RangeFuncLeaves
import Derived.RangeFuncCalls
import Derived.StillTailTactics
import Derived.RegionIn
import Derived.Deep.RegionHeld3
import Derived.OpenShut
import Derived.Lib.AppendZeros
import Derived.Deep.DeepCutAuto
import Derived.Deep.CutBlock
import Derived.WalkHide
import Derived.RangeFuncBound
import Derived.RangeFuncNested
import Derived.OwnWalkIn
import Derived.TacticsInMore
import Derived.LoopNIn
import Derived.LoopIn
import Derived.Lib.MinMax
import Derived.Shelf.Abstract
import Derived.OrdersHeld
import Derived.Lib.SlBytesConst
import Derived.Laws.Externs
import Derived.Lib.Bytealg
import Derived.ChangeKeysEq
namespace Go.Proofs.YtjdejhgfkjeeiaaGreatDoor.Hs
open Go.RowKit
set_option linter.unusedVariables false
set_option maxRecDepth 100000
set_option linter.unusedSimpArgs false

theorem BT : ByteTys Tryz.prog 32 5 := ⟨Tryz.underlying32, Tryz.underlying5, by kernel_rfl⟩
/-- A word as a value. -/
def wi (x : UInt32) : Int := (x.toNat : Int)
theorem wi_lo (x : UInt32) : 0 ≤ wi x := by unfold wi; omega
theorem wi_hi (x : UInt32) : wi x < 4294967296 := by unfold wi; have := x.toNat_lt; omega
theorem wi_xor (x y : UInt32) : bits BinOp.xor IntKind.u32 (wi x) (wi y) = wi (x ^^^ y) := by
  unfold wi; rw [u32_xor_nat _ _ x.toNat_lt y.toNat_lt, UInt32.toNat_xor]
theorem wi_and (x y : UInt32) : bits BinOp.and IntKind.u32 (wi x) (wi y) = wi (x &&& y) := by
  unfold wi; rw [u32_and_nat _ _ x.toNat_lt y.toNat_lt, UInt32.toNat_and]
theorem wi_or (x y : UInt32) : bits BinOp.or IntKind.u32 (wi x) (wi y) = wi (x ||| y) := by
  unfold wi; rw [u32_or_nat _ _ x.toNat_lt y.toNat_lt, UInt32.toNat_or]
theorem wi_add (x y : UInt32) : IntKind.u32.wrap (wi x + wi y) = wi (x + y) := by
  unfold wi; rw [UInt32.toNat_add, show IntKind.u32.wrap ((x.toNat : Int) + y.toNat) = ((x.toNat : Int) + y.toNat) % 4294967296 from rfl]; omega
theorem wi_add' (x y : UInt32) : (wi x + wi y) % 4294967296 = wi (x + y) := by
  unfold wi; rw [UInt32.toNat_add]; omega
theorem wi_not (x : UInt32) : 4294967295 - wi x = wi (~~~x) := by
  unfold wi; rw [UInt32.toNat_not]; have := x.toNat_lt; simp only [UInt32.size]; omega
/-- A word moved to the right. -/
def shr32 (x : UInt32) (n : Nat) : UInt32 := UInt32.ofNat (x.toNat / 2 ^ n)
/-- A word turned to the right. -/
def ror32 (x : UInt32) (n : Nat) : UInt32 := UInt32.ofNat (x.toNat / 2 ^ n ||| x.toNat * 2 ^ (32 - n) % 4294967296)
theorem wi_shr (x : UInt32) (n : Nat) : wi x / 2 ^ n = wi (shr32 x n) := by
  unfold wi shr32
  have h : x.toNat / 2 ^ n < 4294967296 := Nat.lt_of_le_of_lt (Nat.div_le_self _ _) x.toNat_lt
  rw [UInt32.toNat_ofNat', Nat.mod_eq_of_lt h]
  simp
theorem ror_val (x : UInt32) (n : Nat) : bits BinOp.or IntKind.u32 (wi x / 2 ^ n) (wi x * 2 ^ (32 - n) % 4294967296) = wi (ror32 x n) := by
  have h1 : x.toNat / 2 ^ n < 4294967296 := Nat.lt_of_le_of_lt (Nat.div_le_self _ _) x.toNat_lt
  have h2 : x.toNat * 2 ^ (32 - n) % 4294967296 < 4294967296 := Nat.mod_lt _ (by decide)
  have e1 : wi x / 2 ^ n = ((x.toNat / 2 ^ n : Nat) : Int) := by unfold wi; simp
  have e2 : wi x * 2 ^ (32 - n) % 4294967296 = ((x.toNat * 2 ^ (32 - n) % 4294967296 : Nat) : Int) := by unfold wi; simp
  rw [e1, e2, u32_or_nat _ _ h1 h2]
  unfold wi ror32
  rw [UInt32.toNat_ofNat', Nat.mod_eq_of_lt (Nat.or_lt_two_pow (n := 32) h1 h2)]
theorem ror_val' (x : UInt32) (n : Nat) : bits BinOp.or IntKind.u32 (wi x * 2 ^ (32 - n) % 4294967296) (wi x / 2 ^ n) = wi (ror32 x n) := by
  have h1 : x.toNat / 2 ^ n < 4294967296 := Nat.lt_of_le_of_lt (Nat.div_le_self _ _) x.toNat_lt
  have h2 : x.toNat * 2 ^ (32 - n) % 4294967296 < 4294967296 := Nat.mod_lt _ (by decide)
  have e1 : wi x / 2 ^ n = ((x.toNat / 2 ^ n : Nat) : Int) := by unfold wi; simp
  have e2 : wi x * 2 ^ (32 - n) % 4294967296 = ((x.toNat * 2 ^ (32 - n) % 4294967296 : Nat) : Int) := by unfold wi; simp
  rw [← ror_val, e1, e2, u32_or_nat _ _ h1 h2, u32_or_nat _ _ h2 h1, Nat.or_comm]
theorem rot_and : ∀ n : Fin 32, 1 ≤ n.val → bits BinOp.and IntKind.u64 (IntKind.u64.wrap (-(n.val : Int))) 31 = 32 - (n.val : Int) := by decide +kernel
theorem RefRight_any (x : UInt32) (k : Nat) (h1 : 1 ≤ k) (h2 : k ≤ 31) (w : World) : Calls Tryz.prog 122 #[.int .u32 (wi x), .int .i64 (k : Int)] w fun e w' => e = .returned (.int .u32 (wi (ror32 x k))) ∧ ∃ m, w' = w.drewN m := by
  have hv := ror_val x k
  have l1 := wi_lo x
  have l2 := wi_hi x
  have g1 : (1 : Int) ≤ k := by omega
  have g2 : (k : Int) ≤ 31 := by omega
  have HV := Lib.hid hv
  clear hv h1 h2
  go_enter Tryz.func122, Tryz.ntmps122
  go_wp2
  go_quiet (fail)
  go_wp2
  go_ret
  exact ⟨by rw [← HV.out]; rfl, _, rfl⟩
theorem Rot_any (x : UInt32) (k : Nat) (h1 : 1 ≤ k) (h2 : k ≤ 31) (w : World) : Calls Tryz.prog 171 #[.int .u32 (wi x), .int .i64 (-(k : Int))] w fun e w' => e = .returned (.int .u32 (wi (ror32 x k))) ∧ w' = w := by
  have e0 := rot_and ⟨k, by omega⟩ h1
  simp only at e0
  have hv := ror_val' x k
  conv at hv => lhs; rw [show wi x / 2 ^ k = wi x / 2 ^ (32 - (32 - k)) from by rw [show 32 - (32 - k) = k by omega]]
  have l1 := wi_lo x
  have l2 := wi_hi x
  have g1 : (1 : Int) ≤ k := by omega
  have g2 : (k : Int) ≤ 31 := by omega
  have HV := Lib.hid hv
  clear hv h1 h2
  go_enter Tryz.func171, Tryz.ntmps171
  go_wp2
  go_ret
  exact ⟨by rw [← HV.out]; rfl, rfl⟩
theorem Right_any (x : UInt32) (k : Nat) (h1 : 1 ≤ k) (h2 : k ≤ 31) (w : World) : Calls Tryz.prog 143 #[.int .u32 (wi x), .int .i64 (k : Int)] w fun e w' => e = .returned (.int .u32 (wi (ror32 x k))) ∧ w' = w := by
  have H1 := Lib.hid h1
  have H2 := Lib.hid h2
  have g1 : (1 : Int) ≤ k := by omega
  have g2 : (k : Int) ≤ 31 := by omega
  clear h1 h2
  go_enter Tryz.func143, Tryz.ntmps143
  go_wp2_with fail
  refine (Rot_any x k H1.out H2.out _).mono ?_
  rintro r w1 ⟨rfl, rfl⟩
  go_wp2_with fail
  go_ret
  exact ⟨rfl, rfl⟩
end Go.Proofs.YtjdejhgfkjeeiaaGreatDoor.Hs

namespace Go.Proofs.YtjdejhgfkjeeiaaGreatDoor.Hs
open Go.RowKit
set_option linter.unusedVariables false
set_option maxRecDepth 100000
set_option linter.unusedSimpArgs false

theorem rowsIn_wide {n : Nat} {P : Program} {row : String} {args : Array Value} {w : World} {R : Value → World → Prop} (h : Rows P row args w R) : RowsIn Fence.wide n P row args w R :=
  fun c cs _ => let ⟨v, w', r, s⟩ := h c cs; ⟨v, w', r, stepsIn_wide.2 s⟩
def noDefer (ops : List Oper) : Bool := ops.all fun o => match o.op with | .defer _ => false | _ => true
theorem noDefer_spec {ops : List Oper} (h : noDefer ops = true) {o : Oper} (ho : o ∈ ops) : ∀ c, o.op ≠ .defer c := by
  intro c hc
  have := List.all_eq_true.1 h o ho
  simp [hc] at this
section
variable {P : Program} {l n : Nat} {Q : Exit → Act → World → Prop}
theorem Oper.wpIn_round {o : Oper} {a : Act} {w : World} {K : Act → World → Prop} (hnd : ∀ c, o.op ≠ .defer c) (h : o.wp P a w K Q) : o.wpIn (Fence.wide.inRound l) n P a w K Q := by
  refine ⟨fun _ _ => trivial, ?_⟩
  rw [Oper.semAt_eq _ _ _ hnd]
  unfold Oper.wp at h
  generalize (execOp a.eval o).run P w = r at *
  cases r with
  | ok x w' =>
    cases x with
    | value v => exact h
    | skip => exact h
    | defer d => exact h
    | enter f args => exact ⟨fun h => by simp [Fence.inRound, Fence.wide] at h, CallsIn.inRound l (callsIn_wide.2 h)⟩
    | row r args => exact ⟨fun h => by simp [Fence.inRound, Fence.wide] at h, rowsIn_wide h⟩
    | _ => exact h.elim
  | halt x w' => cases x <;> first | exact h | exact h.elim
theorem wpAny_round {ops : List Oper} (hnd : noDefer ops = true) (hlo : ¬ LetsOut Q) : ∀ (fuel : Nat) (listed : Array Bool) (a : Act) (w : World),
    wpAny P .any ops.toArray Q fuel listed a w → wpAnyIn (Fence.wide.inRound l) n P .any ops.toArray Q fuel listed a w := by
  intro fuel
  induction fuel with
  | zero => exact fun _ _ _ h => h
  | succ fuel ih =>
    intro listed a w h
    refine ⟨h.1, fun i hi => ?_⟩
    have h2 := h.2 i hi
    unfold wpOp at h2
    unfold wpOpIn
    cases ho : ops.toArray[i]? with
    | none => rw [ho] at h2; exact ih _ _ _ h2
    | some o =>
      rw [ho] at h2
      simp only at h2 ⊢
      have hmem : o ∈ ops := by
        rw [List.getElem?_toArray] at ho
        exact List.mem_of_getElem? ho
      split
      · rename_i hw
        rw [if_pos hw] at h2
        rcases h2 with h2 | h2
        · exact Oper.wpIn_round (noDefer_spec hnd hmem) (Oper.wp_mono (fun a w h => ih _ a w h) h2)
        · exact (hlo h2.2).elim
      · rename_i hw
        rw [if_neg hw] at h2
        exact ⟨fun _ _ => trivial, ih _ _ _ h2⟩
theorem wpList_round {ops : Array Oper} (hlo : ¬ LetsOut Q) : ∀ (rest : List Oper) (hnd : noDefer rest = true) (a : Act) (w : World), wpList P ops Q rest a w → wpListIn (Fence.wide.inRound l) n P ops Q rest a w := by
  intro rest
  induction rest with
  | nil => exact fun _ _ _ h => h
  | cons o rest ih =>
    intro hnd a w h
    have hnd2 : noDefer rest = true := by simp [noDefer] at hnd ⊢; exact hnd.2
    unfold wpListIn
    unfold wpList at h
    split
    · rename_i hw
      rw [if_pos hw] at h
      rcases h with h | h
      · exact Oper.wpIn_round (noDefer_spec hnd (by simp)) (Oper.wp_mono (fun a w h => ih hnd2 a w h) h)
      · exact (hlo h.2).elim
    · rename_i hw
      rw [if_neg hw] at h
      exact ⟨fun _ _ => trivial, ih hnd2 _ _ h⟩
/-- A region in a round, as a region of a lone goroutine. -/
theorem wpIn_round_region {id : Nat} {a : Act} {w : World} {ops : List Oper} (hnd : noDefer ops = true) (hlo : ¬ LetsOut Q) (h : wpList P ops.toArray Q ops a w) : (Code.region id ops.toArray false).wpIn (Fence.wide.inRound l) n P Q a w :=
  wpIn_region_lit (wpList_round hlo ops hnd a w h)
theorem wpIn_round_region_any {id : Nat} {a : Act} {w : World} {ops : List Oper} (hnd : noDefer ops = true) (hlo : ¬ LetsOut Q) (hm : P.follows .mixedOrders = true)
    (h : wpAny P .any ops.toArray Q ops.toArray.size (Array.replicate ops.toArray.size false) a { w with drawn := w.drawn + 1 }) : (Code.region id ops.toArray true).wpIn (Fence.wide.inRound l) n P Q a w :=
  wpIn_region_any hm (wpAny_round hnd hlo _ _ _ _ h)
/-- A region in a round that draws its order: a still head, and a tail in its order. -/
theorem wpIn_round_still_tail {id : Nat} {a : Act} {w : World} {ops : List Oper} (k : Nat) (hm : P.follows .mixedOrders = true) (hB : Region.lexTailB .any ops.toArray k = true) (hnd : noDefer ops = true) (hlo : ¬ LetsOut Q)
    (h : wpStill P ops.toArray { w with drawn := w.drawn + 1 } (fun a' => wpList P ops.toArray Q (ops.drop k) a' { w with drawn := w.drawn + 1 }) (ops.take k) a) : (Code.region id ops.toArray true).wpIn (Fence.wide.inRound l) n P Q a w := by
  simp only [Region.lexTailB, Bool.and_eq_true, decide_eq_true_eq] at hB
  obtain ⟨⟨⟨⟨hsel, hk⟩, hs⟩, hc⟩, hlex⟩ := hB
  have hk' : k < ops.length := by simpa using hk
  have htl : (ops.take k).length = k := by simp; omega
  have hdl : (ops.drop k).length = ops.toArray.size - k := by simp
  have inv0 : HeadInv .any ops.toArray k (Array.replicate ops.toArray.size false) :=
    ⟨by simp, fun j oj _ hl => (by rw [getD_replicate_false] at hl; cases hl), fun t _ ht => getD_in (by simpa using ht) (getD_replicate_false _ _)⟩
  have H := wpAnyL_lex (md := .any) (g := ops.toArray.size - k) hsel hs hc hk (ops.take k) 0 _ a (fun j hj => by
    have hj' : j < k := by rw [htl] at hj; exact hj
    simp [hj']) (by simpa using htl) inv0 (by rw [htl]; exact hlex) h
  refine wpIn_round_region_any hnd hlo hm ?_
  have := wpAny_of_head (Q' := Q) (g := ops.toArray.size - k) (fun listed a' hL => by
    have := wpAny_of_seq (md := .any) (Q' := Q) (ops.drop k) k listed a' { w with drawn := w.drawn + 1 } (fun j => by simp [List.getElem?_drop]) (by rw [hdl]; exact hL.1) hL.2
    rwa [hdl] at this) _ _ _ H
  rw [htl, show k + (ops.toArray.size - k) = ops.toArray.size by omega] at this
  exact this
theorem ownPostK_lets {α : Type} {Kp : World → World → Prop} {I : List α → World → Prop} {Ix : Code → List α → World → Prop} {xs : List α} {W : World} : ¬ LetsOut (ownPostK Kp I Ix xs W) := fun ⟨_, _, h⟩ => h
end
end Go.Proofs.YtjdejhgfkjeeiaaGreatDoor.Hs

namespace Go.Proofs.YtjdejhgfkjeeiaaGreatDoor.Hs
open Go.RowKit
set_option linter.unusedVariables false
set_option maxRecDepth 100000
set_option linter.unusedSimpArgs false

/-- The blocks that a slice can be read from: none, if it has no room. -/
def blkR : Value → List Nat
  | .slice (some a) _ cap => if cap = 0 then [] else [a.block]
  | _ => []
theorem blkR_sub {v : Value} {k : Nat} (h : k ∈ blkR v) : k ∈ blk v := by
  cases v with
  | slice a n cap => cases a with
    | none => simp [blkR] at h
    | some a => simp only [blkR] at h; split at h <;> simp_all [blk]
  | _ => simp [blkR] at h
/-- slices.Clone of bytes: new memory, or none. -/
def Fresh (w : World) (v : Value) : Prop := ∀ k ∈ blk v, w.heap.size ≤ k
theorem eqSl (w : World) (a : Option Addr) (n c : Nat) : (binOp .eql 32 (.slice a n c) (.slice none 0 0)).run Tryz.prog w = .ok (.bool a.isNone) w := Lib.run_eql_slice_nil w 32 5 a n c 0 0 Tryz.underlying32
def Cloned (w : World) (l : List UInt8) (r : Ending) (w' : World) : Prop := ∃ a cap sp', r = .returned (.slice a l.length cap) ∧ OwnB 5 w' (.slice a l.length cap) l sp' ∧ Frm [] w w' ∧ Fresh w (.slice a l.length cap)
theorem Clone_any (v : Value) (l sp : List UInt8) (w : World) (hS : SlB w v l sp) (hl : l.length ≤ 140737488355328) :
    Calls Tryz.prog 138 #[v] w fun r w' => Cloned w l r w' := by
  have hS' := hS
  have he := eqSl
  have hS3 := hS
  obtain ⟨h1, ⟨rfl, h2, h3⟩ | ha⟩ := hS'
  · obtain rfl : l = [] := List.eq_nil_of_length_eq_zero h2
    go_enter Tryz.func138, Tryz.ntmps138
    go_wp2_with fail
    go_ret
    exact ⟨none, 0, [], rfl, OwnB.nil _ _, Frm.refl _ _, by simp [Fresh, blk]⟩
  · have hS2 := Lib.hid hS
    obtain ⟨ad, cap, rfl⟩ : ∃ ad cap, v = .slice (some ad) l.length cap := by
      rcases ha with ⟨a, rfl, h2, h3⟩ | ⟨b, off, cap, rfl, _⟩
      · exact ⟨a, 0, by rw [h2]⟩
      · exact ⟨_, cap, rfl⟩
    clear hS h1 ha hS3
    have o0 : OwnB 5 (w.alloc (.cells #[] 5)) (.slice (some ⟨w.heap.size, 0, none⟩) 0 0) [] [] := OwnB.of_heap (heap_alloc_new _ _) rfl rfl (by simp)
    have f0 : Frm [] w (w.alloc (.cells #[] 5)) := (Frm.refl _ _).alloc _
    go_enter Tryz.func138, Tryz.ntmps138
    go_wp2_with (at_builtin; refine wpList_append_bytes BT o0 (hS2.out.keep f0 (by simp)) (by simp; omega) rfl (.tmp 5) (.tmp 6) rfl rfl rfl ?_; intro a' cap' w' sp' o1 f1 b1)
    go_ret
    refine ⟨a', cap', sp', by simp, by simpa using o1, f0.trans f1 (by simp [blk]), ?_⟩
    intro k hk
    rcases b1 k (by simpa using hk) with h | h
    · simp [blk] at h; omega
    · simp at h; omega
theorem Same_any (v x : Value) (l sp m msp : List UInt8) (w : World) (h1 : SlB w v l sp) (h2 : SlB w x m msp) :
    Calls Tryz.prog 18 #[v, x] w fun r w' => r = .returned (.bool (l == m)) ∧ w' = w := by
  obtain ⟨a, cap, rfl, _, _⟩ := h1.form
  obtain ⟨a2, cap2, rfl, _, _⟩ := h2.form
  have e1 := convert_bytes BT h1 Tryz.underlying9
  have e2 := convert_bytes BT h2 Tryz.underlying9
  go_enter Tryz.func18, Tryz.ntmps18
  go_wp2
  go_ret
  exact ⟨rfl, rfl⟩
/-- The marks behind what is lent. -/
def marks (n : Nat) : Nat → List UInt8
  | 0 => []
  | k + 1 => UInt8.ofNat (160 + n % 90) :: marks (n + 1) k
theorem marks_length (n k : Nat) : (marks n k).length = k := by induction k generalizing n <;> simp [marks, *]
theorem marks_snoc (n k : Nat) : marks n (k + 1) = marks n k ++ [UInt8.ofNat (160 + (n + k) % 90)] := by
  induction k generalizing n with
  | zero => rfl
  | succ k ih => rw [marks, ih, marks, show n + 1 + k = n + (k + 1) by omega]; rfl
def LentRel (w : World) (l : List UInt8) (c : Value) (wr : World) : Prop :=
  ∃ k : Nat, k ≤ 3 ∧ c = .int .i64 ((l.length + k : Nat) : Int) ∧ OwnB 5 wr (.slice (some ⟨w.heap.size, 0, none⟩) (l.length + 3) (l.length + 3)) (l ++ marks l.length k ++ List.replicate (3 - k) 0) [] ∧ Frm [] w wr
set_option maxHeartbeats 1000000 in
theorem Lent_any (v : Value) (l sp : List UInt8) (w : World) (hS : SlB w v l sp) (hl : l.length ≤ 1000000) :
    Calls Tryz.prog 25 #[v] w fun r w' => r = .returned (.slice (some ⟨w.heap.size, 0, none⟩) l.length (l.length + 3)) ∧
      OwnB 5 w' (.slice (some ⟨w.heap.size, 0, none⟩) l.length (l.length + 3)) l (marks l.length 3) ∧ Frm [] w w' := by
  obtain ⟨a, cap, rfl, hc1, hc2⟩ := hS.form
  have hsrc : ∀ wx, Frm [] w wx → Src Tryz.prog 1 32 (.slice a l.length cap) l.length (bvs l) wx := fun wx fx => Sl.src Tryz.underlying32 (hS.keep fx (by simp)) (bvs_one l)
  have Hsrc := Lib.hid hsrc
  clear hsrc
  go_enter Tryz.func25, Tryz.ntmps25
  go_wp2_with (first | (at_make; refine wpList_make_bytes BT (l.length + 3) (by omega) rfl (.tmp 7) (.tmp 7) rfl rfl rfl rfl rfl ?_; intro w1 o1 f1) | ((with_reducible (show wpList _ _ _ (Oper.mk _ (Op.call (Call.mk (Callee.builtin Builtin.copy) _ _)) _ _ _ _ :: _) _ _)); (refine wpList_copy_bytes BT o1 0 (Hsrc.out _ f1) (by simp <;> omega) (by omega) (fun _ => rfl) rfl (.tmp 9) (.tmp 10) rfl rfl rfl ?_); intro w2 o2 f2))
  go_loopw [4] (LentRel w l) (fun c _ => l.length + 3 - (intOf c).toNat)
  case atStart =>
    refine ⟨0, by omega, rfl, ?_, f1.trans f2 (by simp)⟩
    simpa [marks] using o2
  case round =>
    obtain ⟨k, hk, rfl, o3, f3⟩ := hrel
    by_cases hlt : k < 3
    · have hc := o3.cell (l.length + k) (by simp [marks_length]; omega)
      have hf := o3.frozen (l.length + k)
      unfold bv at hc
      go_wp2
      refine ⟨⟨k + 1, by omega, by go_num, ?_, f3.setCell _ _ (.inr (Nat.le_refl _))⟩, by simp [intOf]; omega⟩
      have h4 := o3.store (l.length + k) (by simp [marks_length]; omega) (UInt8.ofNat (160 + (l.length + k) % 90)) (u := .int .u8 (160 + ((l.length : Int) + k) % 90)) (by simp [bv]; omega)
      rw [show 3 - k = (3 - (k + 1)) + 1 by omega, List.set_append_right _ _ (by simp [marks_length]), show l.length + k - (l ++ marks l.length k).length = 0 by simp [marks_length], List.replicate_succ, List.set_cons_zero] at h4
      rw [marks_snoc]
      simpa using h4
    · obtain rfl : k = 3 := by omega
      go_wp2
      go_ret
      refine ⟨rfl, ?_, f3⟩
      refine OwnB.of_heap ?_ rfl (by simp [marks_length]) (by simp [maxLen]; omega)
      have := o3.heap
      simpa using this
theorem _root_.Go.Proofs.YtjdejhgfkjeeiaaGreatDoor.OwnB.whole {T : TypeId} {w : World} {g n cap : Nat} {l sp : List UInt8} (h : OwnB T w (.slice (some ⟨g, 0, none⟩) n cap) l sp) : OwnB T w (.slice (some ⟨g, 0, none⟩) cap cap) (l ++ sp) [] := by
  obtain ⟨k1, k2, k3⟩ := h.caps
  exact OwnB.of_heap (by simpa using h.heap) (by simp; omega) (by simp; omega) k3
set_option maxHeartbeats 1000000 in
theorem Kept_true (g n cap : Nat) (x : Value) (l msp : List UInt8) (w : World) (hO : OwnB 5 w (.slice (some ⟨g, 0, none⟩) n cap) l (marks l.length 3)) (hS : SlB w x l msp) (hl : l.length ≤ 1000000) :
    Calls Tryz.prog 29 #[.slice (some ⟨g, 0, none⟩) n cap, x] w fun r w' => r = .returned (.bool true) ∧ Frm [] w w' := by
  obtain ⟨a, cap2, rfl, hc1, hc2⟩ := hS.form
  obtain ⟨k1, k2, k3⟩ := hO.caps
  rw [marks_length] at k2
  subst k1
  have Hw := Lib.hid hO.whole
  clear k3 hO
  have HN := Lib.hid k2
  have hg : ((l.length : Int) == (l.length : Int)) = true := by simp
  have hn0 : (0 : Int) ≤ (cap : Int) := by omega
  have hle : (cap : Int) ≤ (cap : Int) := by omega
  have hsum : IntKind.i64.wrap ((l.length : Int) + 3) = (cap : Int) := by rw [IntWalk.i64_in _ (by omega)]; omega
  clear k2
  go_enter Tryz.func29, Tryz.ntmps29
  go_wp2
  go_region_held3 (fun _ => True)
    (first | trivial | go_keep)
    (first | (go_at_call 25; refine (Lent_any _ l msp _ (hS.keep ((Frm.refl [] _).drewN _) (by simp)) hl).mono ?_; rw [← HN.out]; rintro r w1 ⟨rfl, o1, f1⟩) | (go_at_call 18; refine (Same_any _ _ _ [] _ [] _ (Hw.out.keep (((Frm.refl [] _).drewN _).trans f1 (by simp)) (by simp)).sl o1.whole.sl).mono ?_; rintro r w2 ⟨rfl, rfl⟩))
  go_wp2
  go_ret
  exact ⟨by simp, ((Frm.refl [] _).drewN _).trans f1 (by simp)⟩
/-- A cut of a row that can be read can be read. -/
theorem _root_.Go.Proofs.YtjdejhgfkjeeiaaGreatDoor.SlB.cut {w : World} {a : Option Addr} {n cap : Nat} {l sp : List UInt8} (h : SlB w (.slice a n cap) l sp) (lo hi : Nat) (h1 : lo ≤ hi) (h2 : hi ≤ l.length) :
    SlB w (.slice (if cap = lo then a else a.map (·.add (lo * 1))) (hi - lo) (cap - lo)) ((l.drop lo).take (hi - lo)) (l.drop hi ++ sp) := by
  have hlen : ((l.drop lo).take (hi - lo)).length = hi - lo := by simp; omega
  obtain ⟨k1, ⟨k2, k3, k4⟩ | ⟨a, k2, k3, k4⟩ | ⟨b, off, c, k2, k3, k4, k5, k6⟩⟩ := h
  · cases k2
    obtain rfl : l = [] := List.eq_nil_of_length_eq_zero k3
    obtain rfl : sp = [] := by simpa [bvs] using k4
    simp at h2
    subst h2
    obtain rfl : lo = 0 := by omega
    simpa using SlB.nil w
  · cases k2
    obtain rfl : l = [] := List.eq_nil_of_length_eq_zero k3
    obtain rfl : sp = [] := by simpa [bvs] using k4
    simp at h2
    subst h2
    obtain rfl : lo = 0 := by omega
    exact ⟨rfl, .inr (.inl ⟨a, rfl, rfl, rfl⟩)⟩
  · cases k2
    have hc : cap = l.length + sp.length := by simpa [bvs_length] using k5.symm
    have hl : l.drop lo = (l.drop lo).take (hi - lo) ++ l.drop hi := by
      conv => lhs; rw [← List.take_append_drop (hi - lo) (l.drop lo)]
      rw [List.drop_drop, show lo + (hi - lo) = hi by omega]
    by_cases hcl : cap = lo
    · rw [if_pos hcl]
      have e1 : hi = lo := by omega
      have e2 : lo = l.length := by omega
      obtain rfl : sp = [] := List.eq_nil_of_length_eq_zero (by omega)
      subst e1
      refine ⟨by simp [bvs], .inr (.inr ⟨b, off, cap - hi, by simp, by omega, by omega, by simp [bvs]; omega, fun i u hu => ?_⟩)⟩
      rw [show List.drop hi l = [] from List.drop_eq_nil_of_le (by omega)] at hu
      simp [bvs] at hu
    · rw [if_neg hcl]
      refine ⟨by simp [bvs], .inr (.inr ⟨b, off + lo, cap - lo, by simp [add_plain]; omega, by omega, by omega, by simp [bvs]; omega, fun i u hu => ?_⟩)⟩
      have := k6 (lo + i) u (by
        rw [← bvs_append] at hu ⊢
        rw [← List.append_assoc, ← hl, ← List.drop_append_of_le_length (by omega)] at hu
        simpa [bvs] using hu)
      rw [Nat.add_assoc]
      exact this
theorem slice_lh {P : Program} {tS T : TypeId} (B : ByteTys P tS T) {w : World} {a : Option Addr} {n cap : Nat} {l sp : List UInt8} (h : SlB w (.slice a n cap) l sp) (lo hi : Nat) (h1 : lo ≤ hi) (h2 : hi ≤ l.length) :
    ∃ a' c', (∀ (x y : Int) (wx : World), x = lo → y = hi → (Instr.slice tS (.slice a n cap) (some (.int .i64 x)) (some (.int .i64 y)) none).run P wx = .ok (.slice a' (hi - lo) c') wx) ∧
      SlB w (.slice a' (hi - lo) c') ((l.drop lo).take (hi - lo)) (l.drop hi ++ sp) := by
  obtain ⟨a2, c2, e, hle, hm⟩ := h.form
  cases e
  refine ⟨_, _, fun x y wx hx hy => ?_, h.cut lo hi h1 h2⟩
  subst hx
  subst hy
  obtain ⟨i, hi', hz, hs, hby⟩ := info_parts B.info
  have he : P.elem tS = T := by simp [Program.elem, B.sl]
  have hsz : (sizeOf (P.elem tS)).run P wx = .ok 1 wx := by rw [he]; simp [sizeOf, typeInfo, hi', hs]
  rw [run_slice_lh (P := P) wx tS a l.length cap (by rw [he]; exact B.sl) .i64 .i64 lo hi (by omega) (by omega) (by omega), hsz]
  simp [Result.andThen, sliced]
theorem slice_l {P : Program} {tS T : TypeId} (B : ByteTys P tS T) {w : World} {a : Option Addr} {n cap : Nat} {l sp : List UInt8} (h : SlB w (.slice a n cap) l sp) (lo : Nat) (h1 : lo ≤ l.length) :
    ∃ a' c', (∀ (x : Int) (wx : World), x = lo → (Instr.slice tS (.slice a n cap) (some (.int .i64 x)) none none).run P wx = .ok (.slice a' (l.length - lo) c') wx) ∧
      SlB w (.slice a' (l.length - lo) c') (l.drop lo) sp := by
  obtain ⟨a2, c2, e, hle, hm⟩ := h.form
  cases e
  have hc := h.cut lo l.length h1 (Nat.le_refl _)
  rw [List.take_of_length_le (by simp), List.drop_length, List.nil_append] at hc
  refine ⟨_, _, fun x wx hx => ?_, hc⟩
  subst hx
  obtain ⟨i, hi', hz, hs, hby⟩ := info_parts B.info
  have he : P.elem tS = T := by simp [Program.elem, B.sl]
  have hsz : (sizeOf (P.elem tS)).run P wx = .ok 1 wx := by rw [he]; simp [sizeOf, typeInfo, hi', hs]
  rw [run_slice_l (P := P) wx tS a l.length cap (by rw [he]; exact B.sl) .i64 lo (by omega) (by omega), hsz]
  simp [Result.andThen, sliced]
theorem heap_alloc_at {w : World} {o : Obj} {n : Nat} (hn : n = w.heap.size) : (w.alloc o).heap[n]? = some o := by subst hn; exact heap_alloc_new _ _
end Go.Proofs.YtjdejhgfkjeeiaaGreatDoor.Hs

namespace Go.Proofs.YtjdejhgfkjeeiaaGreatDoor.Hs
open Go.RowKit
set_option linter.unusedVariables false
set_option maxRecDepth 100000
set_option linter.unusedSimpArgs false

def stepB (x : UInt32) (b : UInt8) : UInt32 := UInt32.ofNat (x.toNat * 256 % 4294967296 ||| b.toNat)
def beW (l : List UInt8) : UInt32 := l.foldl stepB 0
theorem beW_snoc (l : List UInt8) (b : UInt8) : beW (l ++ [b]) = stepB (beW l) b := by simp [beW]
theorem stepB_val (x : UInt32) (b : UInt8) : bits BinOp.or IntKind.u32 (wi x * 256 % 4294967296) (b.toNat : Int) = wi (stepB x b) := by
  have h1 : x.toNat * 256 % 4294967296 < 4294967296 := Nat.mod_lt _ (by decide)
  have h2 : b.toNat < 4294967296 := by have := b.toNat_lt; omega
  have e1 : wi x * 256 % 4294967296 = ((x.toNat * 256 % 4294967296 : Nat) : Int) := by unfold wi; simp
  rw [e1, u32_or_nat _ _ h1 h2]
  unfold wi stepB
  rw [UInt32.toNat_ofNat', Nat.mod_eq_of_lt (Nat.or_lt_two_pow (n := 32) h1 h2)]
theorem _root_.Go.Proofs.YtjdejhgfkjeeiaaGreatDoor.SlB.cellB {w : World} {b off n cap : Nat} {l sp : List UInt8} (h : SlB w (.slice (some ⟨b, off, none⟩) n cap) l sp) (k : Nat) (hk : k < l.length) : w.cell? ⟨b, off + k, none⟩ = some (.int .u8 (l[k].toNat : Int)) := by
  obtain ⟨h1, h2 | ⟨a, h2, h3, h4⟩ | ⟨b', off', cap', h2, h3, h4, h5, h6⟩⟩ := h
  · cases h2.1
  · rw [h3] at hk; omega
  · cases h2
    have := h6 k (bv l[k]) (by rw [List.getElem?_append_left (by simpa [bvs_length] using hk), bvs_get, List.getElem?_eq_getElem hk]; rfl)
    exact this
set_option maxHeartbeats 1000000 in
theorem asWord_any (b off cap : Nat) (l sp : List UInt8) (w : World) (hS : SlB w (.slice (some ⟨b, off, none⟩) l.length cap) l sp) (hl : l.length ≤ 1000000) :
    Calls Tryz.prog 170 #[.slice (some ⟨b, off, none⟩) l.length cap] w fun r w' => r = .returned (.int .u32 (wi (beW l))) ∧ w' = w := by
  have HS := Lib.hid hS
  clear hS
  have hl9 : (l.length : Int) ≤ 1000000 := by omega
  go_enter Tryz.func170, Tryz.ntmps170
  go_wp2
  go_loop [3, 8] (fun x c => ∃ k : Nat, k ≤ l.length ∧ c = .int .i64 k ∧ x = .int .u32 (wi (beW (l.take k)))) (fun _ c => l.length - (intOf c).toNat)
  case atStart => exact ⟨0, Nat.zero_le _, rfl, rfl⟩
  case round =>
    obtain ⟨k, hk, rfl, rfl⟩ := hrel
    by_cases hlt : k < l.length
    · have hc := HS.out.cellB k hlt
      have hts : l.take (k + 1) = l.take k ++ [l[k]] := by rw [List.take_succ_eq_append_getElem hlt]
      have hsn := beW_snoc (l.take k) l[k]
      rw [← hts] at hsn
      have hv := stepB_val (beW (l.take k)) l[k]
      rw [← hsn] at hv
      have hb := l[k].toNat_lt
      have hb2 : ((l[k].toNat : Nat) : Int) < 256 := by omega
      have l1 := wi_lo (beW (l.take k))
      have l2 := wi_hi (beW (l.take k))
      generalize beW (l.take k) = x0 at *
      generalize l[k] = y at *
      have HV := Lib.hid hv
      clear hv hts hsn hb
      go_wp2
      go_round
      case rel => exact ⟨k + 1, by omega, by go_num, by rw [HV.out]⟩
      case measure => simp [intOf]; omega
    · obtain rfl : k = l.length := by omega
      go_wp2
      go_ret
      exact ⟨by simp, rfl⟩
/-- The j-th lowest byte of how many bits there are. -/
def cntB (n j : Nat) : UInt8 := UInt8.ofNat (8 * n / 2 ^ (8 * j))
def padN (n : Nat) : Nat := ((n + 8) / 64 + 1) * 64 - n
/-- What fills n bytes up, but for the last eight bytes of which k are laid. -/
def endK (n : Nat) : Nat → List UInt8
  | 0 => 128 :: List.replicate (padN n - 1) 0
  | k + 1 => (endK n k).set (padN n - 1 - k) (cntB n k)
theorem padN_ge (n : Nat) : 9 ≤ padN n ∧ padN n ≤ 72 := by unfold padN; omega
theorem endK_length (n k : Nat) : (endK n k).length = padN n := by
  induction k with
  | zero => have := padN_ge n; simp [endK]; omega
  | succ k ih => simp [endK, ih]
theorem cnt_val (n k : Nat) : (n : Int) * 8 / 2 ^ (8 * k) % 256 = ((8 * n / 2 ^ (8 * k) % 2 ^ 8 : Nat) : Int) := by
  rw [Int.mul_comm]
  have h : ∀ m : Nat, ((8 * n / m % 2 ^ 8 : Nat) : Int) = 8 * (n : Int) / (m : Int) % 256 := fun m => by simp
  rw [h]
  simp
def EndRel (w : World) (n : Nat) (c : Value) (wr : World) : Prop :=
  ∃ k : Nat, k ≤ 8 ∧ c = .int .i64 k ∧ OwnB 5 wr (.slice (some ⟨w.heap.size, 0, none⟩) (padN n) (padN n)) (endK n k) [] ∧ Frm [] w wr
set_option maxHeartbeats 1000000 in
theorem ending_any (n : Nat) (w : World) (hn : n ≤ 1000000000) :
    Calls Tryz.prog 141 #[.int .i64 n] w fun r w' => r = .returned (.slice (some ⟨w.heap.size, 0, none⟩) (padN n) (padN n)) ∧ OwnB 5 w' (.slice (some ⟨w.heap.size, 0, none⟩) (padN n) (padN n)) (endK n 8) [] ∧ Frm [] w w' := by
  have hn9 : (n : Int) ≤ 1000000000 := by omega
  obtain ⟨p1, p2⟩ := padN_ge n
  have hp : (((n : Int) + 8) / 64 + 1) * 64 - (n : Int) = (padN n : Int) := by unfold padN; omega
  have hp9 : (9 : Int) ≤ (padN n : Int) := by omega
  have hp72 : (padN n : Int) ≤ 72 := by omega
  have HP := Lib.hid hp
  clear hp
  go_enter Tryz.func141, Tryz.ntmps141
  go_wp2_with (at_make; refine wpList_make_bytes BT (padN n) (by omega) rfl (.tmp 14) (.tmp 14) rfl rfl rfl (by exact HP.out) (by exact HP.out) ?_; intro w1 o1 f1; have c0 := o1.cell 0 (by simp; omega); have z0 := o1.frozen 0; unfold bv at c0)
  have o2 : OwnB 5 (w1.setCell ⟨w.heap.size, 0, none⟩ (.int .u8 128)) (.slice (some ⟨w.heap.size, 0, none⟩) (padN n) (padN n)) (endK n 0) [] := by
    have := o1.store 0 (by simp; omega) 128 (u := .int .u8 128) rfl
    rwa [show (List.replicate (padN n) (0 : UInt8)).set 0 128 = endK n 0 from by
      rw [show padN n = (padN n - 1) + 1 by omega, List.replicate_succ, List.set_cons_zero]
      simp [endK]] at this
  have f2 : Frm [] w (w1.setCell ⟨w.heap.size, 0, none⟩ (.int .u8 128)) := f1.setCell _ _ (.inr (by simp))
  go_loopw [21] (EndRel w n) (fun c _ => 8 - (intOf c).toNat)
  case atStart => exact ⟨0, by omega, rfl, o2, f2⟩
  case round =>
    obtain ⟨k, hk, rfl, o3, f3⟩ := hrel
    clear o2 f2 o1 f1 c0 z0
    by_cases hlt : k < 8
    · have hc := o3.cell (padN n - 1 - k) (by rw [endK_length]; simp; omega)
      have hf := o3.frozen (padN n - 1 - k)
      unfold bv at hc
      have e1 : ((padN n : Int) - 1 - (k : Int)) = ((padN n - 1 - k : Nat) : Int) := by omega
      have e2 : ((padN n : Int) - 1 - (k : Int)).toNat = padN n - 1 - k := by omega
      have hs := o3.store (padN n - 1 - k) (by rw [endK_length]; omega) (cntB n k) (u := .int .u8 ((n : Int) * 8 / 2 ^ (8 * k) % 256)) (by
        simp only [bv, cntB, UInt8.toNat_ofNat']
        exact congrArg (Value.int IntKind.u8) (cnt_val n k))
      have HS := Lib.hid hs
      have O3 := Lib.hid o3
      have F3 := Lib.hid f3
      clear hs o3 f3
      generalize (endK n k ++ [])[padN n - 1 - k]! = y0 at hc
      go_wp2
      exact ⟨⟨k + 1, by omega, by go_num, HS.out, F3.out.setCell _ _ (.inr (Nat.le_refl _))⟩, by simp [intOf]; omega⟩
    · obtain rfl : k = 8 := by omega
      go_wp2
      go_ret
      exact ⟨rfl, o3, f3⟩
end Go.Proofs.YtjdejhgfkjeeiaaGreatDoor.Hs

namespace Go.Proofs.YtjdejhgfkjeeiaaGreatDoor.Hs
open Go.RowKit
set_option linter.unusedVariables false
set_option maxRecDepth 100000
set_option linter.unusedSimpArgs false

theorem zeroCells_bytes (n : Nat) : (Builtin.zeroCells (Value.int .u8 0).cells n).toList = bvs (List.replicate n 0) := by
  apply List.ext_getElem
  · simp [Builtin.zeroCells, bvs, Value.cells]
  · intro i h1 h2
    simp [Builtin.zeroCells, bvs, Value.cells, bv, Nat.mod_one]
def Grew (w : World) (r : Ending) (w' : World) : Prop := ∃ cap sp, r = .returned (.slice (some ⟨w.heap.size, 0, none⟩) 0 cap) ∧ OwnB 5 w' (.slice (some ⟨w.heap.size, 0, none⟩) 0 cap) [] sp ∧ Frm [] w w'
set_option maxHeartbeats 1000000 in
theorem Grow_any (n : Nat) (w : World) (h1 : 1 ≤ n) (hn : n ≤ 1000000000) : Calls Tryz.prog 169 #[.slice none 0 0, .int .i64 n] w fun r w' => Grew w r w' := by
  have hn9 : (n : Int) ≤ 1000000000 := by omega
  have hn1 : (1 : Int) ≤ n := by omega
  obtain ⟨i, hi, hz, hs, hby⟩ := info_parts BT.info
  have hr := fun wx => Lib.run_append_nil_zeros (P := Tryz.prog) wx 32 3 32 5 i _ .i64 .i64 Tryz.underlying32 Tryz.underlying3 hi hz n h1 (by omega) (by omega) (by rw [hby]; omega)
  have hge := grownCap_ge w n 0 5
  have hcm : grownCap w n 0 5 ≤ maxLen := grownCap_le_maxLen w n 0 5 (by simp [maxLen]; omega)
  have ho : OwnB 5 (w.drew.alloc (.cells (Builtin.zeroCells (Value.int .u8 0).cells n ++ Builtin.zeroCells (Value.int .u8 0).cells (grownCap w n 0 5 - n)) 5)) (.slice (some ⟨w.heap.size, 0, none⟩) 0 (grownCap w n 0 5)) [] (List.replicate n 0 ++ List.replicate (grownCap w n 0 5 - n) 0) := by
    refine OwnB.of_heap ?_ rfl (by simp; omega) hcm
    have := heap_alloc_new w.drew (.cells (Builtin.zeroCells (Value.int .u8 0).cells n ++ Builtin.zeroCells (Value.int .u8 0).cells (grownCap w n 0 5 - n)) 5)
    rw [show w.drew.heap.size = w.heap.size from rfl] at this
    rw [this]
    congr 2
    apply Array.ext'
    rw [Array.toList_append, zeroCells_bytes, zeroCells_bytes]
    simp [bvs]
  have HO := Lib.hid ho
  have HR := Lib.hid hr
  clear ho hr hi hz hs hby hge hcm
  go_enter Tryz.func169, Tryz.ntmps169
  go_wp2_with (at_builtin; refine Lib.wpList_append_run _ rfl (.tmp 20) (.tmp 21) 32 3 rfl _ _ rfl rfl _ _ (HR.out _) ?_)
  go_ret
  exact ⟨_, _, rfl, HO.out, ((Frm.refl _ _).drew).alloc _⟩
/-- How many bytes the first k of two slices are. -/
def two (l1 l2 : List UInt8) (k : Nat) : List UInt8 := if k = 0 then [] else if k = 1 then l1 else l1 ++ l2
def CatRel (w : World) (l1 l2 : List UInt8) (c v : Value) (wr : World) : Prop :=
  ∃ k a cap sp, k ≤ 2 ∧ v = .int .i64 (k : Nat) ∧ c = .slice a (two l1 l2 k).length cap ∧ OwnB 5 wr c (two l1 l2 k) sp ∧ Frm [] w wr ∧ ∀ i ∈ blk c, w.heap.size ≤ i
def Catted (w : World) (l : List UInt8) (r : Ending) (w' : World) : Prop := ∃ a cap sp, r = .returned (.slice a l.length cap) ∧ OwnB 5 w' (.slice a l.length cap) l sp ∧ Frm [] w w' ∧ ∀ i ∈ blk (.slice a l.length cap), w.heap.size ≤ i
set_option maxHeartbeats 2000000 in
theorem Concat_any (bb : Nat) (v1 v2 : Value) (l1 l2 sp1 sp2 : List UInt8) (w : World) (h0 : w.cell? ⟨bb, 0, none⟩ = some v1) (h1 : w.cell? ⟨bb, 1, none⟩ = some v2) (s1 : SlB w v1 l1 sp1) (s2 : SlB w v2 l2 sp2)
    (hl1 : l1.length ≤ 100000000) (hl2 : l2.length ≤ 100000000) (hp : 1 ≤ l2.length) :
    Calls Tryz.prog 140 #[.slice (some ⟨bb, 0, none⟩) 2 2] w fun r w' => Catted w (l1 ++ l2) r w' := by
  obtain ⟨a1, cap1, rfl, _, _⟩ := s1.form
  obtain ⟨a2, cap2, rfl, _, _⟩ := s2.form
  have S1 := Lib.hid s1
  have S2 := Lib.hid s2
  have H0 := Lib.hid h0
  have H1 := Lib.hid h1
  have b1 : (l1.length : Int) ≤ 100000000 := by omega
  have b2 : (l2.length : Int) ≤ 100000000 := by omega
  clear s1 s2
  go_enter Tryz.func140, Tryz.ntmps140
  go_wp2
  go_loop [3, 11] (fun s c => (c = .int .i64 0 ∧ s = .int .i64 0) ∨ (c = .int .i64 1 ∧ s = .int .i64 l1.length) ∨ (c = .int .i64 2 ∧ s = .int .i64 ((l1.length : Int) + (l2.length : Int)))) (fun _ c => 2 - (intOf c).toNat)
  case atStart => exact .inl ⟨rfl, rfl⟩
  case round =>
    rcases hrel with ⟨rfl, rfl⟩ | ⟨rfl, rfl⟩ | ⟨rfl, rfl⟩
    · go_wp2
      go_round
      case rel => exact .inr (.inl ⟨rfl, by go_num⟩)
      case measure => simp [intOf]
    · go_wp2
      go_round
      case rel => exact .inr (.inr ⟨rfl, rfl⟩)
      case measure => simp [intOf]
    · have hg := Grow_any (l1.length + l2.length) w (by omega) (by omega)
      rw [show ((l1.length + l2.length : Nat) : Int) = (l1.length : Int) + (l2.length : Int) from by omega] at hg
      have HG := Lib.hid hg
      clear hg hp
      go_wp2_with fail
      refine HG.out.mono ?_
      rintro r w1 ⟨cap, sp, rfl, o1, f1⟩
      have O1 := Lib.hid o1
      have F1 := Lib.hid f1
      have c0 := f1.cell h0 (by simp)
      have c1 := f1.cell h1 (by simp)
      clear o1 f1
      go_wp2_with fail
      go_loopw [6, 27] (CatRel w l1 l2) (fun _ c _ => 2 - (intOf c).toNat)
      case atStart => exact ⟨0, _, cap, sp, by omega, rfl, rfl, O1.out, F1.out, by simp [blk]⟩
      case round =>
        obtain ⟨k, a3, cap3, sp3, hk, rfl, rfl, o3, f3, g3⟩ := hrel
        have c0 := f3.cell H0.out (by simp)
        have c1 := f3.cell H1.out (by simp)
        have G3 := Lib.hid g3
        have F3 := Lib.hid f3
        have O3 := Lib.hid o3
        clear o3 f3 g3
        have hk3 : k = 0 ∨ k = 1 ∨ k = 2 := by omega
        rcases hk3 with rfl | rfl | rfl
        · go_wp2_with (at_builtin; refine wpList_append_bytes BT O3.out (S1.out.keep F3.out (by simp)) (by simp [two]; omega) rfl (.tmp 31) (.tmp 32) rfl rfl rfl ?_; intro a4 cap4 w4 sp4 o4 f4 n4)
          refine ⟨⟨1, a4, cap4, sp4, by omega, rfl, ?_, ?_, F3.out.trans f4 (fun i hi => .inr (G3.out i hi)), fun i hi => ?_⟩, by simp [intOf]⟩
          · simp [two]
          · simpa [two] using o4
          · rcases n4 i hi with h | h
            · exact G3.out i h
            · exact Nat.le_trans F3.out.size h
        · go_wp2_with (at_builtin; refine wpList_append_bytes BT O3.out (S2.out.keep F3.out (by simp)) (by simp [two]; omega) rfl (.tmp 31) (.tmp 32) rfl rfl rfl ?_; intro a4 cap4 w4 sp4 o4 f4 n4)
          refine ⟨⟨2, a4, cap4, sp4, by omega, rfl, ?_, ?_, F3.out.trans f4 (fun i hi => .inr (G3.out i hi)), fun i hi => ?_⟩, by simp [intOf]⟩
          · simp [two]
          · simpa [two] using o4
          · rcases n4 i hi with h | h
            · exact G3.out i h
            · exact Nat.le_trans F3.out.size h
        · go_wp2
          go_ret
          exact ⟨a3, cap3, sp3, by simp [two], by simpa [two] using O3.out, F3.out, by simpa [two] using G3.out⟩
/-- Bytes, filled up. -/
def filled (b : List UInt8) : List UInt8 := b ++ endK b.length 8
theorem filled_length (b : List UInt8) : (filled b).length = b.length + padN b.length := by simp [filled, endK_length]
set_option maxHeartbeats 1000000 in
theorem filledUp_any (v : Value) (b sp : List UInt8) (w : World) (hS : SlB w v b sp) (hb : b.length ≤ 10000000) : Calls Tryz.prog 98 #[v] w fun r w' => Catted w (filled b) r w' := by
  obtain ⟨a, cap, rfl, hc1, hc2⟩ := hS.form
  have HS := Lib.hid hS
  have hb9 : (b.length : Int) ≤ 10000000 := by omega
  clear hS
  go_enter Tryz.func98, Tryz.ntmps98
  go_wp2_with fail
  refine (ending_any b.length _ (by omega)).mono ?_
  rintro r w1 ⟨rfl, o1, f1⟩
  have O1 := Lib.hid o1
  have F1 := Lib.hid f1
  have hp := padN_ge b.length
  have HP := Lib.hid hp
  clear o1 f1 hp
  go_wp2_with fail
  refine (Concat_any w1.heap.size (.slice a b.length cap) (.slice (some ⟨w.heap.size, 0, none⟩) (padN b.length) (padN b.length)) b (endK b.length 8) sp [] _ (by rw [cell_of_heap (heap_alloc_new _ _)]; rfl) (by rw [cell_of_heap (heap_alloc_new _ _)]; rfl) (HS.out.keep (F1.out.alloc _) (by simp)) ((O1.out.keep ((Frm.refl [] _).alloc _) (by simp)).sl) (by omega) (by rw [endK_length]; have := HP.out; omega) (by rw [endK_length]; have := HP.out; omega)).mono ?_
  rintro r w2 ⟨a2, cap2, sp2, rfl, o2, f2, g2⟩
  have hz1 := F1.out.size
  have hz2 := (((Frm.refl [] w1).alloc (.cells #[.slice a b.length cap, .slice (some ⟨w.heap.size, 0, none⟩) (padN b.length) (padN b.length)] 32)).size)
  have R := Lib.hid (show Catted w (filled b) (.returned (.slice a2 (b ++ endK b.length 8).length cap2)) w2 from ⟨a2, cap2, sp2, rfl, o2, (F1.out.alloc _).trans f2 (by simp), fun i hi => Nat.le_trans (Nat.le_trans hz1 hz2) (g2 i hi)⟩)
  clear hz1 hz2
  clear o2 f2 g2
  go_wp2_with fail
  go_ret
  have hR := R.out
  rw [List.length_append] at hR
  exact hR
end Go.Proofs.YtjdejhgfkjeeiaaGreatDoor.Hs

namespace Go.Proofs.YtjdejhgfkjeeiaaGreatDoor.Hs
open Go.RowKit
set_option linter.unusedVariables false
set_option linter.unusedSimpArgs false

def W32 (ws : List UInt32) : List Value := ws.map fun x => .int .u32 (wi x)
theorem W32_length (ws : List UInt32) : (W32 ws).length = ws.length := by simp [W32]
theorem W32_get (ws : List UInt32) (i : Nat) (h : i < ws.length) : (W32 ws)[i]? = some (.int .u32 (wi ws[i])) := by simp [W32, List.getElem?_eq_getElem h]
theorem W32_set (ws : List UInt32) (i : Nat) (x : UInt32) : (W32 ws).toArray.setIfInBounds i (.int .u32 (wi x)) = (W32 (ws.set i x)).toArray := by
  apply Array.ext'
  simp [W32, List.map_set]
theorem W32_one (ws : List UInt32) : (W32 ws).toArray.all (·.oneCell') = true := by
  simp [W32, Value.oneCell']
def IsW (w : World) (b : Nat) (T : TypeId) (ws : List UInt32) : Prop := w.heap[b]? = some (.cells (W32 ws).toArray T (0, 0))
theorem IsW.cell {w : World} {b : Nat} {T : TypeId} {ws : List UInt32} (h : IsW w b T ws) (i : Nat) (hi : i < ws.length) : w.cell? ⟨b, i, none⟩ = some (.int .u32 (wi ws[i])) := by
  rw [cell_of_heap h, List.getElem?_toArray]; exact W32_get ws i hi
theorem IsW.frozen {w : World} {b : Nat} {T : TypeId} {ws : List UInt32} (h : IsW w b T ws) (i : Nat) : w.frozen? ⟨b, i, none⟩ = false := frozen_of_heap h i
theorem IsW.store {w : World} {b : Nat} {T : TypeId} {ws : List UInt32} (h : IsW w b T ws) (i : Nat) (x : UInt32) : IsW (w.setCell ⟨b, i, none⟩ (.int .u32 (wi x))) b T (ws.set i x) := by
  unfold IsW; rw [heap_setCell_same _ h, W32_set]
theorem IsW.other {w : World} {b : Nat} {T : TypeId} {ws : List UInt32} (h : IsW w b T ws) (p : Addr) (v : Value) (hp : b ≠ p.block) : IsW (w.setCell p v) b T ws := (heap_setCell_ne v hp).trans h
def sig0 (x : UInt32) : UInt32 := ror32 x 7 ^^^ ror32 x 18 ^^^ shr32 x 3
def sig1 (x : UInt32) : UInt32 := ror32 x 17 ^^^ ror32 x 19 ^^^ shr32 x 10
def at32 (ws : List UInt32) (i : Nat) : UInt32 := ws.getD i 0
/-- The next word of a piece. -/
def nextW (p : List UInt8) (ws : List UInt32) : UInt32 :=
  if ws.length < 16 then beW ((p.drop (4 * ws.length)).take 4)
  else at32 ws (ws.length - 16) + (sig0 (at32 ws (ws.length - 15)) + at32 ws (ws.length - 7) + sig1 (at32 ws (ws.length - 2)))
def wordsK (p : List UInt8) : Nat → List UInt32
  | 0 => []
  | k + 1 => wordsK p k ++ [nextW p (wordsK p k)]
theorem wordsK_length (p : List UInt8) (k : Nat) : (wordsK p k).length = k := by induction k <;> simp [wordsK, *]
/-- The window of sixteen. -/
def winK (p : List UInt8) : Nat → List UInt32
  | 0 => List.replicate 16 0
  | k + 1 => (winK p k).set (k % 16) (nextW p (wordsK p k))
theorem winK_length (p : List UInt8) (k : Nat) : (winK p k).length = 16 := by induction k <;> simp [winK, *]
theorem win_at (p : List UInt8) : ∀ k j, j < k → k ≤ j + 16 → at32 (winK p k) (j % 16) = at32 (wordsK p k) j := by
  intro k
  induction k with
  | zero => intro j h; omega
  | succ k ih =>
    intro j h1 h2
    have hl := wordsK_length p k
    have hw := winK_length p k
    by_cases hj : j = k
    · subst hj
      simp only [winK, wordsK, at32, List.getD_eq_getElem?_getD]
      rw [List.getElem?_set_self (by omega), List.getElem?_append_right (by omega)]
      simp [hl]
    · have h3 := ih j (by omega) (by omega)
      simp only [winK, wordsK, at32, List.getD_eq_getElem?_getD] at h3 ⊢
      rw [List.getElem?_set_ne (by omega), List.getElem?_append_left (by omega), h3]
theorem words_set (p : List UInt8) (k : Nat) (hk : k < 64) : (wordsK p k ++ List.replicate (64 - k) 0).set k (nextW p (wordsK p k)) = wordsK p (k + 1) ++ List.replicate (64 - (k + 1)) 0 := by
  rw [List.set_append_right _ _ (by rw [wordsK_length]; exact Nat.le_refl _), wordsK_length, Nat.sub_self, show 64 - k = (64 - (k + 1)) + 1 by omega, List.replicate_succ, List.set_cons_zero]
  simp [wordsK]
def WordsRel (w : World) (p : List UInt8) (c : Value) (wr : World) : Prop :=
  ∃ k : Nat, k ≤ 64 ∧ c = .int .i64 k ∧ wr.heap[w.heap.size]? = some (.cells (bvs p).toArray 127 (0, 0)) ∧ IsW wr (w.heap.size + 1) 142 (List.replicate 64 0) ∧
    IsW wr (w.heap.size + 2) 142 (wordsK p k ++ List.replicate (64 - k) 0) ∧ IsW wr (w.heap.size + 3) 183 (winK p k) ∧ Frm [] w wr
theorem _root_.Go.Proofs.YtjdejhgfkjeeiaaGreatDoor.Frm.setRow {L : List Nat} {w w' : World} (h : Frm L w w') (g : Nat) (cs : Array Value) (hg : g ∈ L ∨ w.heap.size ≤ g) : Frm L w (w'.setRow g cs) :=
  h.trans (L' := [g]) ⟨rfl, rfl, rfl, by simp, fun k hk hn => setRow_other _ _ _ _ (by simpa using hn)⟩ (by simpa using hg)
theorem asWord_n (b off cap n : Nat) (l sp : List UInt8) (w : World) (hn : l.length = n) (hS : SlB w (.slice (some ⟨b, off, none⟩) n cap) l sp) (hl : n ≤ 1000000) :
    Calls Tryz.prog 170 #[.slice (some ⟨b, off, none⟩) n cap] w fun r w' => r = .returned (.int .u32 (wi (beW l))) ∧ w' = w := by
  subst hn
  exact asWord_any b off cap l sp w hS hl
theorem slb_row {w : World} {b : Nat} {p : List UInt8} {T : TypeId} {fr : Nat × Nat} (h : w.heap[b]? = some (.cells (bvs p).toArray T fr)) (off n : Nat) (hn : off + n ≤ p.length) (hm : p.length ≤ maxLen) :
    SlB w (.slice (some ⟨b, off, none⟩) n (p.length - off)) ((p.drop off).take n) (p.drop (off + n)) := by
  have hl : ((p.drop off).take n).length = n := by simp; omega
  have hsp : (p.drop off).take n ++ p.drop (off + n) = p.drop off := by rw [← List.drop_drop, List.take_append_drop]
  refine ⟨by simp [bvs_length], .inr (.inr ⟨b, off, p.length - off, by rw [hl], by rw [hl]; omega, by omega, ?_, fun i u hu => ?_⟩)⟩
  · rw [← bvs_append, hsp, bvs_length]; simp
  · rw [← bvs_append, hsp, bvs_get] at hu
    rw [cell_of_heap h, List.getElem?_toArray, bvs_get]
    rwa [List.getElem?_drop] at hu
theorem wi_shr3 (x : UInt32) : wi x / 8 = wi (shr32 x 3) := wi_shr x 3
theorem wi_shr10 (x : UInt32) : wi x / 1024 = wi (shr32 x 10) := wi_shr x 10
theorem Right_i (x : UInt32) (n : Int) (k : Nat) (hk : n = k) (h1 : 1 ≤ k) (h2 : k ≤ 31) (w : World) : Calls Tryz.prog 143 #[.int .u32 (wi x), .int .i64 n] w fun e w' => e = .returned (.int .u32 (wi (ror32 x k))) ∧ w' = w := by
  subst hk; exact Right_any x k h1 h2 w
theorem u59 : Tryz.prog.underlying 127 = some (.array (Tryz.prog.arrayLen 127) (Tryz.prog.elem 127)) := by kernel_rfl
theorem slice59 (b k : Nat) (hk : k < 16) (W : World) : (Instr.sliceAt 127 (.pointer (some ⟨b, 0, none⟩)) (some (.int .i64 (4 * (k : Int)))) (some (.int .i64 (4 * (k : Int) + 4))) none).run Tryz.prog W = .ok (.slice (some ⟨b, 4 * k, none⟩) 4 (64 - 4 * k)) W := by
  have he : Tryz.prog.elem 127 = 5 := by kernel_rfl
  have hl : Tryz.prog.arrayLen 127 = 64 := by kernel_rfl
  have hs : (sizeOf 5).run Tryz.prog W = .ok 1 W := by
    obtain ⟨i, hi', hz, hs, hby⟩ := info_parts BT.info
    simp [sizeOf, typeInfo, hi', hs]
  rw [run_sliceAt_array_lh (P := Tryz.prog) W 127 _ u59 .i64 .i64 (4 * (k : Int)) (4 * (k : Int) + 4) (by omega) (by omega) (by rw [hl]; omega), he, hs, hl]
  have e1 : (4 * (k : Int)).toNat = 4 * k := by omega
  have e2 : (4 * (k : Int) + 4).toNat = 4 * k + 4 := by omega
  simp only [Result.andThen, slicedAt, e1, e2]
  rw [if_neg (by omega), add_plain, show 0 + 4 * k * 1 = 4 * k by omega, show 4 * k + 4 - 4 * k = 4 by omega]
theorem W32_zero (n : Nat) : W32 (List.replicate n 0) = List.replicate n (.int .u32 0) := by simp [W32, wi]
theorem d61 : Tryz.prog.underlying 142 = some (.array 64 104) := by kernel_rfl
theorem i61 : (Tryz.prog.info? 142).map (·.size) = some 64 := by kernel_rfl
theorem at32_lt {ws : List UInt32} {i : Nat} (h : i < ws.length) : ws[i] = at32 ws i := by simp [at32, List.getElem?_eq_getElem h]
set_option maxRecDepth 100000 in
set_option maxHeartbeats 4000000 in
theorem wordsOf_any (p : List UInt8) (hp : p.length = 64) (w : World) :
    Calls Tryz.prog 142 #[.agg (bvs p).toArray] w fun r w' => r = .returned (.agg (W32 (wordsK p 64)).toArray) ∧ Frm [] w w' := by
  go_enter Tryz.func142, Tryz.ntmps142
  go_wp2_with fail
  go_loopw [9] (WordsRel w p) (fun c _ => 64 - (intOf c).toNat)
  case atStart =>
    refine ⟨0, by omega, rfl, heap_alloc_lt (heap_alloc_lt (heap_alloc_lt (heap_alloc_new _ _))), ?_, ?_, ?_, ((((Frm.refl _ _).alloc _).alloc _).alloc _).alloc _⟩
    · unfold IsW; rw [W32_zero]; exact heap_alloc_lt (heap_alloc_lt (heap_alloc_at (by simp)))
    · unfold IsW; rw [show wordsK p 0 ++ List.replicate (64 - 0) (0 : UInt32) = List.replicate 64 0 from rfl, W32_zero]; exact heap_alloc_lt (heap_alloc_at (by simp))
    · unfold IsW; rw [show winK p 0 = List.replicate 16 0 from rfl, W32_zero]; exact heap_alloc_at (by simp)
  case round =>
    obtain ⟨k, hk, rfl, hP, hR, hX, hW, f⟩ := hrel
    have hRz : wr.heap[w.heap.size + 1]? = some (.cells (W32 (List.replicate 64 0)).toArray 142 (0, 0)) := hR
    by_cases hlt : k < 64
    · have hwl := winK_length p k
      have hkl := wordsK_length p k
      have cw := hW.cell (k % 16) (by omega)
      rw [show (winK p k)[k % 16]'(by omega) = at32 (winK p k) (k % 16) from at32_lt _] at cw
      have zw := hW.frozen (k % 16)
      have hkl2 : k < (wordsK p k ++ List.replicate (64 - k) (0 : UInt32)).length := by simp [hkl]; omega
      have cx := hX.cell k hkl2
      have zx := hX.frozen k
      generalize (wordsK p k ++ List.replicate (64 - k) (0 : UInt32))[k]'hkl2 = x0 at cx
      obtain ⟨m, hm⟩ : ∃ m, k % 16 = m := ⟨_, rfl⟩
      have hm0 : (k : Int) % 16 = (m : Int) := by omega
      have hmb : (m : Int) < 16 := by omega
      have hmp : (0 : Int) ≤ (m : Int) := by omega
      rw [hm] at cw zw
      have hset := words_set p k hlt
      have hwin : winK p (k + 1) = (winK p k).set m (nextW p (wordsK p k)) := by rw [← hm]; rfl
      by_cases h16 : k < 16
      · have hnx : nextW p (wordsK p k) = beW ((p.drop (4 * k)).take 4) := by unfold nextW; rw [hkl, if_pos h16]
        have hsl := slb_row hP (4 * k) 4 (by omega) (by rw [hp]; decide)
        have hln : ((p.drop (4 * k)).take 4).length = 4 := by simp; omega
        have hk16 : (k : Int) < 16 := by omega
        rw [hp] at hsl
        rw [hnx] at hset hwin
        have haw := asWord_n w.heap.size (4 * k) (64 - 4 * k) 4 _ _ wr hln hsl (by omega)
        generalize beW ((p.drop (4 * k)).take 4) = v at *
        have HAW := Lib.hid haw
        have HSET := Lib.hid hset
        have HWIN := Lib.hid hwin
        have HP := Lib.hid hP
        have HR := Lib.hid hR
        have HX := Lib.hid hX
        have HW := Lib.hid hW
        have HF := Lib.hid f
        clear haw hset hwin hP hR hX hW f hRz hnx hsl hln hkl2 hkl hwl hm
        have hs59 := slice59 w.heap.size k h16
        go_wp2_with (go_at_call 170; refine HAW.out.mono ?_; rintro r w1 ⟨rfl, rfl⟩)
        refine ⟨⟨k + 1, by omega, by go_num, ?_, ?_, ?_, ?_, ?_⟩, by simp [intOf]; omega⟩
        · exact (heap_setCell_ne _ (by simp <;> omega)).trans ((heap_setCell_ne _ (by simp <;> omega)).trans HP.out)
        · exact (HR.out.other _ _ (by simp <;> omega)).other _ _ (by simp <;> omega)
        · rw [← HSET.out]; exact (HX.out.other _ _ (by simp <;> omega)).store k v
        · rw [HWIN.out]; exact (HW.out.store m v).other _ _ (by simp <;> omega)
        · exact (HF.out.setCell _ _ (.inr (by simp <;> omega))).setCell _ _ (.inr (by simp <;> omega))
      · obtain ⟨m15, h15⟩ : ∃ m, (k - 15) % 16 = m := ⟨_, rfl⟩
        obtain ⟨m7, h7⟩ : ∃ m, (k - 7) % 16 = m := ⟨_, rfl⟩
        obtain ⟨m2, h2⟩ : ∃ m, (k - 2) % 16 = m := ⟨_, rfl⟩
        have b15 : m15 < 16 := by omega
        have b7 : m7 < 16 := by omega
        have b2 : m2 < 16 := by omega
        have c15 := hW.cell m15 (by omega)
        have c7 := hW.cell m7 (by omega)
        have c2 := hW.cell m2 (by omega)
        rw [show (winK p k)[m15]'(by omega) = at32 (wordsK p k) (k - 15) from by rw [at32_lt, ← h15, win_at p k (k - 15) (by omega) (by omega)]] at c15
        rw [show (winK p k)[m7]'(by omega) = at32 (wordsK p k) (k - 7) from by rw [at32_lt, ← h7, win_at p k (k - 7) (by omega) (by omega)]] at c7
        rw [show (winK p k)[m2]'(by omega) = at32 (wordsK p k) (k - 2) from by rw [at32_lt, ← h2, win_at p k (k - 2) (by omega) (by omega)]] at c2
        rw [show at32 (winK p k) m = at32 (wordsK p k) (k - 16) from by rw [← win_at p k (k - 16) (by omega) (by omega), show (k - 16) % 16 = m by omega]] at cw
        have hnx : nextW p (wordsK p k) = at32 (wordsK p k) (k - 16) + (sig0 (at32 (wordsK p k) (k - 15)) + at32 (wordsK p k) (k - 7) + sig1 (at32 (wordsK p k) (k - 2))) := by unfold nextW; rw [hkl, if_neg h16]
        generalize at32 (wordsK p k) (k - 16) = a16 at *
        generalize at32 (wordsK p k) (k - 15) = a15 at *
        generalize at32 (wordsK p k) (k - 7) = a7 at *
        generalize at32 (wordsK p k) (k - 2) = a2 at *
        generalize nextW p (wordsK p k) = v at *
        have HSET := Lib.hid hset
        have HWIN := Lib.hid hwin
        have HP := Lib.hid hP
        have HR := Lib.hid hR
        have HX := Lib.hid hX
        have HW := Lib.hid hW
        have HF := Lib.hid f
        have HNX := Lib.hid hnx
        have hk16 : ¬ (k : Int) < 16 := by omega
        have e15 : IntKind.i64.wrap ((k : Int) - 15) = (k : Int) - 15 := IntWalk.i64_in _ (by omega)
        have e7 : IntKind.i64.wrap ((k : Int) - 7) = (k : Int) - 7 := IntWalk.i64_in _ (by omega)
        have e2 : IntKind.i64.wrap ((k : Int) - 2) = (k : Int) - 2 := IntWalk.i64_in _ (by omega)
        have t15 : ((k : Int) - 15).tmod 16 = (m15 : Int) := by rw [Int.tmod_eq_emod_of_nonneg (by omega)]; omega
        have t7 : ((k : Int) - 7).tmod 16 = (m7 : Int) := by rw [Int.tmod_eq_emod_of_nonneg (by omega)]; omega
        have t2 : ((k : Int) - 2).tmod 16 = (m2 : Int) := by rw [Int.tmod_eq_emod_of_nonneg (by omega)]; omega
        have q15 : (m15 : Int) < 16 := by omega
        have q7 : (m7 : Int) < 16 := by omega
        have q2 : (m2 : Int) < 16 := by omega
        clear hset hwin hP hR hX hW f hRz hnx hkl2 hkl hwl hm h16 h15 h7 h2 b15 b7 b2
        go_wp2_with fail
        go_quiet (fail)
        go_wp2_with fail
        refine wp_region_still_tail 28 (by kernel_rfl) (by kernel_rfl) ?_
        change wpStill _ _ (World.drew _) _ _ _
        simp only [List.take_succ_cons, List.take_zero, List.drop_succ_cons, List.drop_zero]
        repeat still_step
        still_call (Right_i a15 7 7 rfl (by decide) (by decide) _)
        repeat still_step
        still_call (Right_i a15 18 18 rfl (by decide) (by decide) _)
        have hx1 := wi_xor
        have hx2 := wi_add
        have hx3 := wi_add'
        have hx4 := wi_shr3
        have hx5 := wi_shr10
        repeat still_step
        still_call (Right_i a2 17 17 rfl (by decide) (by decide) _)
        repeat still_step
        still_call (Right_i a2 19 19 rfl (by decide) (by decide) _)
        repeat still_step
        refine wpStill_nil ?_
        change wpList _ _ _ _ _ (World.drew _)
        have hnx := HNX.out
        unfold sig0 sig1 at hnx
        have HNX2 := Lib.hid hnx.symm
        clear hnx
        rw [HNX2.out]
        go_wp2_with fail
        have HX9 : IsW (wr.drewN (nq + 1)) (w.heap.size + 2) 142 (wordsK p k ++ List.replicate (64 - k) 0) := HX.out
        have HW9 : IsW (wr.drewN (nq + 1)) (w.heap.size + 3) 183 (winK p k) := HW.out
        have HR9 : IsW (wr.drewN (nq + 1)) (w.heap.size + 1) 142 (List.replicate 64 0) := HR.out
        have HP9 : (wr.drewN (nq + 1)).heap[w.heap.size]? = some (.cells (bvs p).toArray 127 (0, 0)) := HP.out
        refine ⟨⟨k + 1, by omega, by go_num, ?_, ?_, ?_, ?_, ?_⟩, by simp [intOf]; omega⟩
        · exact (heap_setCell_ne _ (by simp <;> omega)).trans ((heap_setCell_ne _ (by simp <;> omega)).trans HP9)
        · exact (HR9.other _ _ (by simp <;> omega)).other _ _ (by simp <;> omega)
        · rw [← HSET.out]; exact (HX9.other _ _ (by simp <;> omega)).store k v
        · rw [HWIN.out]; exact (HW9.store m v).other _ _ (by simp <;> omega)
        · exact ((HF.out.drewN _).setCell _ _ (.inr (by simp <;> omega))).setCell _ _ (.inr (by simp <;> omega))
    · obtain rfl : k = 64 := by omega
      have hX' : wr.heap[w.heap.size + 2]? = some (.cells (W32 (wordsK p 64)).toArray 142 (0, 0)) := by
        have : IsW wr (w.heap.size + 2) 142 (wordsK p 64 ++ List.replicate (64 - 64) 0) := hX
        rw [show wordsK p 64 ++ List.replicate (64 - 64) 0 = wordsK p 64 from by simp] at this
        exact this
      have hsz : (W32 (wordsK p 64)).toArray.size = 64 := by simp [W32_length, wordsK_length]
      have HX := Lib.hid hX'
      have HSZ := Lib.hid hsz
      have HF := Lib.hid f
      clear hP hR hX hW hX' hsz f
      go_upto_region 13 with (fail)
      refine wp_region_lit ?_
      refine wpList_load_row rfl 142 (.tmp 3) rfl (w.heap.size + 2) rfl 142 (W32 (wordsK p 64)).toArray (0, 0) _ HX.out d61 rfl (by rw [HSZ.out]; exact i61) ?_
      refine wpList_store_row rfl 142 (.tmp 2) (.tmp 69) rfl (w.heap.size + 1) (W32 (wordsK p 64)).toArray rfl rfl 142 _ hRz (by rw [HSZ.out]; exact i61) (by rw [HSZ.out]; rfl) (W32_one _) ?_
      have hres := setRow_heap wr (w.heap.size + 1) _ (W32 (wordsK p 64)).toArray 142 (0, 0) hRz
      have hfr : Frm [] w (wr.setRow (w.heap.size + 1) (W32 (wordsK p 64)).toArray) := HF.out.setRow _ _ (.inr (by omega))
      generalize wr.setRow (w.heap.size + 1) (W32 (wordsK p 64)).toArray = w9 at *
      go_wp2_with fail
      refine bodyPost_ret (v := .agg (W32 (wordsK p 64)).toArray) (results_cell_row rfl _ _ _ 142 _ (0, 0) _ rfl hres d61 rfl (by rw [HSZ.out]; exact i61)) rfl ⟨rfl, hfr⟩
end Go.Proofs.YtjdejhgfkjeeiaaGreatDoor.Hs

namespace Go.Proofs.YtjdejhgfkjeeiaaGreatDoor.Hs
open Go.RowKit
set_option linter.unusedVariables false
set_option linter.unusedSimpArgs false

def kTab : List UInt32 := [1116352408, 1899447441, 3049323471, 3921009573, 961987163, 1508970993, 2453635748, 2870763221, 3624381080, 310598401, 607225278, 1426881987, 1925078388, 2162078206, 2614888103, 3248222580, 3835390401, 4022224774, 264347078, 604807628, 770255983, 1249150122, 1555081692, 1996064986, 2554220882, 2821834349, 2952996808, 3210313671, 3336571891, 3584528711, 113926993, 338241895, 666307205, 773529912, 1294757372, 1396182291, 1695183700, 1986661051, 2177026350, 2456956037, 2730485921, 2820302411, 3259730800, 3345764771, 3516065817, 3600352804, 4094571909, 275423344, 430227734, 506948616, 659060556, 883997877, 958139571, 1322822218, 1537002063, 1747873779, 1955562222, 2024104815, 2227730452, 2361852424, 2428436474, 2756734187, 3204031479, 3329325298]
/-- What the addends are. -/
def Glob (w : World) : Prop := ∀ i, i < 64 → w.cell? ⟨3, i, none⟩ = some (.int .u32 (wi (at32 kTab i)))
theorem Glob.keep {w w' : World} {L : List Nat} (h : Glob w) (f : Frm L w w') (hL : 3 ∉ L) : Glob w' := fun i hi => f.cell (h i hi) hL
structure S8 where
  a : UInt32
  b : UInt32
  c : UInt32
  d : UInt32
  e : UInt32
  f : UInt32
  g : UInt32
  h : UInt32
def S8.l (s : S8) : List UInt32 := [s.a, s.b, s.c, s.d, s.e, s.f, s.g, s.h]
def S8.T (s : S8) (k w : UInt32) : UInt32 := s.h + (ror32 s.e 6 ^^^ ror32 s.e 11 ^^^ ror32 s.e 25) + (s.e &&& s.f ^^^ ~~~s.e &&& s.g) + k + w
def S8.U (s : S8) : UInt32 := (ror32 s.a 2 ^^^ ror32 s.a 13 ^^^ ror32 s.a 22) + (s.a &&& s.b ^^^ s.a &&& s.c ^^^ s.b &&& s.c)
def S8.step (s : S8) (k w : UInt32) : S8 := ⟨s.T k w + s.U, s.a, s.b, s.c, s.d + s.T k w, s.e, s.f, s.g⟩
def S8.run (s : S8) (ks ws : List UInt32) : Nat → S8
  | 0 => s
  | i + 1 => (s.run ks ws i).step (at32 ks i) (at32 ws i)
def S8.add (s t : S8) : S8 := ⟨s.a + t.a, s.b + t.b, s.c + t.c, s.d + t.d, s.e + t.e, s.f + t.f, s.g + t.g, s.h + t.h⟩
/-- A state turned by a piece. -/
def turn (s : S8) (p : List UInt8) : S8 := (s.run kTab (wordsK p 64) 64).add s
theorem d57 : Tryz.prog.underlying 122 = some (.array 8 104) := by kernel_rfl
theorem i57 : (Tryz.prog.info? 122).map (·.size) = some 8 := by kernel_rfl
theorem d59 : Tryz.prog.underlying 127 = some (.array 64 5) := by kernel_rfl
theorem i59 : (Tryz.prog.info? 127).map (·.size) = some 64 := by kernel_rfl
def TurnRel (w : World) (s : S8) (ws : List UInt32) (v5 v6 v7 v8 v9 v10 v11 v12 c : Value) (wr : World) : Prop :=
  ∃ k : Nat, k ≤ 64 ∧ c = .int .i64 k ∧ ∃ x : S8, x = s.run kTab ws k ∧ v5 = .int .u32 (wi x.a) ∧ v6 = .int .u32 (wi x.b) ∧ v7 = .int .u32 (wi x.c) ∧ v8 = .int .u32 (wi x.d) ∧
    v9 = .int .u32 (wi x.e) ∧ v10 = .int .u32 (wi x.f) ∧ v11 = .int .u32 (wi x.g) ∧ v12 = .int .u32 (wi x.h) ∧ Frm [] w wr
theorem Right_j (x : UInt32) (n : Int) (h1 : 1 ≤ n) (h2 : n ≤ 31) (w : World) : Calls Tryz.prog 143 #[.int .u32 (wi x), .int .i64 n] w fun e w' => e = .returned (.int .u32 (wi (ror32 x n.toNat))) ∧ w' = w := by
  obtain ⟨k, rfl⟩ := Int.eq_ofNat_of_zero_le (show 0 ≤ n by omega)
  exact Right_any x k (by omega) (by omega) w
theorem ones_xor (x : UInt32) : (4294967295 : UInt32) ^^^ x = ~~~x := by
  apply UInt32.toBitVec_inj.1
  rw [UInt32.toBitVec_xor, UInt32.toBitVec_not]
  exact BitVec.allOnes_xor
theorem wi_unxor (x : UInt32) : bits BinOp.xor IntKind.u32 (if IntKind.u32.signed = true then -1 else IntKind.u32.max) (wi x) = wi (~~~x) := by
  rw [show (if IntKind.u32.signed = true then (-1 : Int) else IntKind.u32.max) = wi 4294967295 from rfl, wi_xor, ones_xor]
theorem IsW.keepF {w w' : World} {b : Nat} {T : TypeId} {ws : List UInt32} (h : IsW w b T ws) (f : Frm [] w w') : IsW w' b T ws := f.heap h (by simp)
/-- The words of a list, the first k with those of another one added. -/
def addK (xs ss : List UInt32) : Nat → List UInt32
  | 0 => xs
  | k + 1 => (addK xs ss k).set k (at32 (addK xs ss k) k + at32 ss k)
theorem addK_length (xs ss : List UInt32) (k : Nat) : (addK xs ss k).length = xs.length := by induction k <;> simp [addK, *]
theorem addK_all (x s : S8) : addK x.l s.l 8 = (x.add s).l := by
  simp [addK, S8.l, S8.add, at32]
def AddRel (w : World) (b17 : Nat) (xs ss : List UInt32) (c : Value) (wr : World) : Prop :=
  ∃ k : Nat, k ≤ 8 ∧ c = .int .i64 k ∧ IsW wr b17 122 (addK xs ss k) ∧ IsW wr w.heap.size 122 ss ∧ wr.heap[w.heap.size + 2]? = some (.cells #[.int .u32 0, .int .u32 0, .int .u32 0, .int .u32 0, .int .u32 0, .int .u32 0, .int .u32 0, .int .u32 0] 122 (0, 0)) ∧ Frm [] w wr
theorem index61 (ws : List UInt32) (k : Nat) (hk : k < 64) (hl : ws.length = 64) (W : World) : (Instr.index 142 (.agg (W32 ws).toArray) (.int .i64 (k : Int))).run Tryz.prog W = .ok (.int .u32 (wi (at32 ws k))) W := by
  have hs : (sizeOf 104).run Tryz.prog W = .ok 1 W := by kernel_rfl
  have ha : (isAgg 104).run Tryz.prog W = .ok false W := by kernel_rfl
  have hx : (W32 ws)[k]? = some (.int .u32 (wi (at32 ws k))) := by rw [W32_get ws k (by omega), at32_lt]
  have hin : (0 : Int) ≤ (k : Int) ∧ (k : Int) < ((64 : Nat) : Int) := by omega
  simp [Instr.index, run_underlying d61, asIntOf, hin, part, hs, ha, hx, go_sem]
  intro h
  omega
set_option maxRecDepth 100000 in
set_option maxHeartbeats 4000000 in
theorem turned_any (s : S8) (p : List UInt8) (hp : p.length = 64) (w : World) (hG : Glob w) :
    Calls Tryz.prog 99 #[.agg (W32 s.l).toArray, .agg (bvs p).toArray] w fun r w' => r = .returned (.agg (W32 (turn s p).l).toArray) ∧ Frm [] w w' := by
  obtain ⟨ws, hws⟩ : ∃ ws, wordsK p 64 = ws := ⟨_, rfl⟩
  have hwo := wordsOf_any p hp
  have hwl := wordsK_length p 64
  unfold turn
  rw [hws] at hwo hwl ⊢
  have HP := Lib.hid hp
  have HWO := Lib.hid hwo
  have HWL := Lib.hid hwl
  have HG := Lib.hid hG
  clear hp hG hws hwo hwl
  go_enter Tryz.func99, Tryz.ntmps99
  go_wp2_with fail
  have hS : IsW (((w.alloc (.cells (W32 s.l).toArray 122)).alloc (.cells (bvs p).toArray 127)).alloc (.cells #[.int .u32 0, .int .u32 0, .int .u32 0, .int .u32 0, .int .u32 0, .int .u32 0, .int .u32 0, .int .u32 0] 122)) w.heap.size 122 s.l := heap_alloc_lt (heap_alloc_lt (heap_alloc_new _ _))
  have hP : (((w.alloc (.cells (W32 s.l).toArray 122)).alloc (.cells (bvs p).toArray 127)).alloc (.cells #[.int .u32 0, .int .u32 0, .int .u32 0, .int .u32 0, .int .u32 0, .int .u32 0, .int .u32 0, .int .u32 0] 122)).heap[w.heap.size + 1]? = some (.cells (bvs p).toArray 127 (0, 0)) := heap_alloc_lt (heap_alloc_at (by simp))
  have hR : (((w.alloc (.cells (W32 s.l).toArray 122)).alloc (.cells (bvs p).toArray 127)).alloc (.cells #[.int .u32 0, .int .u32 0, .int .u32 0, .int .u32 0, .int .u32 0, .int .u32 0, .int .u32 0, .int .u32 0] 122)).heap[w.heap.size + 2]? = some (.cells #[.int .u32 0, .int .u32 0, .int .u32 0, .int .u32 0, .int .u32 0, .int .u32 0, .int .u32 0, .int .u32 0] 122 (0, 0)) := heap_alloc_at (by simp)
  have hF : Frm [] w (((w.alloc (.cells (W32 s.l).toArray 122)).alloc (.cells (bvs p).toArray 127)).alloc (.cells #[.int .u32 0, .int .u32 0, .int .u32 0, .int .u32 0, .int .u32 0, .int .u32 0, .int .u32 0, .int .u32 0] 122)) := (((Frm.refl _ _).alloc _).alloc _).alloc _
  generalize (((w.alloc (.cells (W32 s.l).toArray 122)).alloc (.cells (bvs p).toArray 127)).alloc (.cells #[.int .u32 0, .int .u32 0, .int .u32 0, .int .u32 0, .int .u32 0, .int .u32 0, .int .u32 0, .int .u32 0] 122)) = W at *
  have c0 := hS.cell 0 (by simp [S8.l])
  have c1 := hS.cell 1 (by simp [S8.l])
  have c2 := hS.cell 2 (by simp [S8.l])
  have c3 := hS.cell 3 (by simp [S8.l])
  have c4 := hS.cell 4 (by simp [S8.l])
  have c5 := hS.cell 5 (by simp [S8.l])
  have c6 := hS.cell 6 (by simp [S8.l])
  have c7 := hS.cell 7 (by simp [S8.l])
  simp only [S8.l, List.getElem_cons_zero, List.getElem_cons_succ] at c0 c1 c2 c3 c4 c5 c6 c7
  have HS := Lib.hid hS
  have HPP := Lib.hid hP
  have HRR := Lib.hid hR
  have HF := Lib.hid hF
  clear hS hP hR hF
  refine wp_region_still_lit (by kernel_rfl) (by kernel_rfl) ?_
  change wpStill _ _ (World.drew _) _ _ _
  repeat still_step
  refine wpStill_nil ?_
  change Exit.then _ _ _ _ (World.drew _)
  go_upto_region 2 with (fail)
  have hbs : (bvs p).toArray.size = 64 := by simp [bvs_length, HP.out]
  refine wp_region_lit ?_
  refine wpList_load_row rfl 127 (.tmp 3) rfl (w.heap.size + 1) rfl 127 (bvs p).toArray (0, 0) _ HPP.out d59 rfl (by rw [hbs]; exact i59) ?_
  clear hbs
  go_wp2_with fail
  refine (HWO.out _).mono ?_
  rintro r w1 ⟨rfl, f1⟩
  have hsz := HF.out.size
  have HS1 := Lib.hid (show IsW w1 w.heap.size 122 s.l from f1.heap HS.out (by simp))
  have HR1 := Lib.hid (f1.heap HRR.out (by simp))
  have HF1 := Lib.hid ((HF.out.drew).trans f1 (by simp))
  have HG1 := Lib.hid (HG.out.keep HF1.out (by simp))
  clear f1 hsz c0 c1 c2 c3 c4 c5 c6 c7
  go_wp2_with fail
  go_loopw [5, 6, 7, 8, 9, 10, 11, 12, 37] (TurnRel w1 s ws) (fun _ _ _ _ _ _ _ _ c _ => 64 - (intOf c).toNat)
  case atStart => exact ⟨0, by omega, rfl, s, rfl, rfl, rfl, rfl, rfl, rfl, rfl, rfl, rfl, Frm.refl _ _⟩
  case round =>
    obtain ⟨k, hk, rfl, x, hx, rfl, rfl, rfl, rfl, rfl, rfl, rfl, rfl, f2⟩ := hrel
    by_cases hlt : k < 64
    · have hidx := index61 ws k hlt HWL.out
      have hg := f2.cell (HG1.out k hlt) (by simp)
      have F2 := Lib.hid f2
      clear f2
      have hkt : at32 kTab k = at32 kTab k := rfl
      have hxs : s.run kTab ws (k + 1) = x.step (at32 kTab k) (at32 ws k) := by rw [hx]; rfl
      have HXS := Lib.hid hxs
      generalize at32 kTab k = kk at *
      generalize at32 ws k = ww at *
      obtain ⟨xa, xb, xc, xd, xe, xf, xg, xh⟩ := x
      simp only at *
      clear hx hxs hkt
      go_wp2_with fail
      refine wp_region_still_lit (by kernel_rfl) (by kernel_rfl) ?_
      change wpStill _ _ (World.drew _) _ _ _
      have hx1 := wi_xor
      have hx2 := wi_add
      have hx3 := wi_add'
      have hx4 := wi_and
      have hx5 := wi_unxor
      iterate 2 still_step
      still_call (Right_i xe 6 6 rfl (by decide) (by decide) _)
      still_step
      still_call (Right_i xe 11 11 rfl (by decide) (by decide) _)
      iterate 2 still_step
      still_call (Right_i xe 25 25 rfl (by decide) (by decide) _)
      repeat still_step
      refine wpStill_nil ?_
      change Exit.then _ _ _ _ (World.drew _)
      obtain ⟨tt, ht⟩ : ∃ tt, S8.T ⟨xa, xb, xc, xd, xe, xf, xg, xh⟩ kk ww = tt := ⟨_, rfl⟩
      have ht2 := ht
      simp only [S8.T] at ht2
      rw [ht2]
      have HT := Lib.hid ht
      clear ht ht2
      go_wp2_with (go_at_call 143; refine (Right_j _ _ (by decide) (by decide) _).mono ?_; rintro r w2 ⟨rfl, rfl⟩)
      refine ⟨⟨k + 1, by omega, by go_num, S8.step ⟨xa, xb, xc, xd, xe, xf, xg, xh⟩ kk ww, HXS.out.symm, by rw [← HT.out]; rfl, rfl, rfl, rfl, by rw [← HT.out]; rfl, rfl, rfl, rfl, F2.out.drew⟩, by simp [intOf]; omega⟩
    · obtain rfl : k = 64 := by omega
      have HXE := Lib.hid hx
      have F2 := Lib.hid f2
      have hs := HS1.out.keepF f2
      have hr := f2.heap HR1.out (by simp)
      have hf := HF1.out.trans f2 (by simp)
      have hsz := hf.size
      have hz := lt_heap hr
      obtain ⟨xa, xb, xc, xd, xe, xf, xg, xh⟩ := x
      simp only at *
      clear hx f2
      have HS2 := Lib.hid hs
      have HR2 := Lib.hid hr
      have HF2 := Lib.hid hf
      clear hs hr hf
      have HZ := Lib.hid hz
      have HZ2 := Lib.hid hsz
      clear hz hsz
      go_wp2_with fail
      obtain ⟨b17, hb17⟩ : ∃ b, wr.heap.size = b := ⟨_, rfl⟩
      have hz17 : w.heap.size + 2 < b17 := by have := HZ.out; omega
      have HZ17 := Lib.hid hz17
      have hadd := addK_all ⟨xa, xb, xc, xd, xe, xf, xg, xh⟩ s
      have HXL := Lib.hid (show (S8.l ⟨xa, xb, xc, xd, xe, xf, xg, xh⟩).length = 8 from rfl)
      have hst : AddRel w wr.heap.size (S8.l ⟨xa, xb, xc, xd, xe, xf, xg, xh⟩) s.l (.int .i64 0) (wr.alloc (.cells #[.int .u32 (wi xa), .int .u32 (wi xb), .int .u32 (wi xc), .int .u32 (wi xd), .int .u32 (wi xe), .int .u32 (wi xf), .int .u32 (wi xg), .int .u32 (wi xh)] 122)) :=
        ⟨0, by omega, rfl, heap_alloc_new _ _, heap_alloc_lt HS2.out, heap_alloc_lt HR2.out, HF2.out.alloc _⟩
      generalize hxl : S8.l ⟨xa, xb, xc, xd, xe, xf, xg, xh⟩ = xl at *
      have HADD := Lib.hid hadd
      have HSL := Lib.hid (show s.l.length = 8 from rfl)
      rw [hb17] at hst
      have HST := Lib.hid hst
      rw [hb17]
      clear hadd hst hxl hb17 hz17
      go_loopw [108] (AddRel w b17 xl s.l) (fun c _ => 8 - (intOf c).toNat)
      case atStart => exact HST.out
      case round =>
        obtain ⟨k, hk, rfl, h1, h2, h3, f3⟩ := hrel
        by_cases hlt : k < 8
        · have hl1 : k < (addK xl s.l k).length := by rw [addK_length, HXL.out]; exact hlt
          have hl2 : k < s.l.length := by rw [HSL.out]; exact hlt
          have c1 := h1.cell k hl1
          have c2 := h2.cell k hl2
          rw [at32_lt] at c1 c2
          have z1 := h1.frozen k
          have hv : IsW (wr.setCell ⟨b17, k, none⟩ (.int .u32 (wi (at32 (addK xl s.l k) k + at32 s.l k)))) b17 122 (addK xl s.l (k + 1)) := h1.store k (at32 (addK xl s.l k) k + at32 s.l k)
          generalize at32 (addK xl s.l k) k = y1 at *
          generalize at32 s.l k = y2 at *
          have HV := Lib.hid hv
          have H2 := Lib.hid h2
          have H3 := Lib.hid h3
          have F3 := Lib.hid f3
          clear hv h1 h2 h3 f3 hl1 hl2
          have hx2 := wi_add
          have hx3 := wi_add'
          go_wp2_with fail
          refine wp_region_still_tail 8 (by kernel_rfl) (by kernel_rfl) ?_
          change wpStill _ _ (World.drew _) _ _ _
          simp only [List.take_succ_cons, List.take_zero, List.drop_succ_cons, List.drop_zero]
          repeat still_step
          refine wpStill_nil ?_
          change wpList _ _ _ _ _ (World.drew _)
          go_wp2_with fail
          have hq := HZ17.out
          have hnew : AddRel w b17 xl s.l (.int .i64 ((k : Int) + 1)) (wr.setCell ⟨b17, k, none⟩ (.int .u32 (wi (y1 + y2)))).drew :=
            ⟨k + 1, by omega, by go_num, HV.out, H2.out.other _ _ (by simp <;> omega), (heap_setCell_ne _ (by simp <;> omega)).trans H3.out, (F3.out.setCell _ _ (.inr (by simp <;> omega))).drew⟩
          exact ⟨⟨_, _, _, _, _, _, _, _, _, _, _, _, _, hnew, rfl⟩, by simp [intOf]; omega⟩
        · obtain rfl : k = 8 := by omega
          rw [HADD.out] at h1
          have hout : S8.add ⟨xa, xb, xc, xd, xe, xf, xg, xh⟩ s = (s.run kTab ws 64).add s := by rw [HXE.out]
          rw [hout] at h1
          have hsz : ∀ x : S8, (W32 x.l).toArray.size = 8 := fun x => by simp [W32_length, S8.l]
          go_upto_region 15 with (fail)
          refine wp_region_lit ?_
          refine wpList_load_row rfl 122 (.tmp 17) rfl b17 rfl 122 (W32 ((s.run kTab ws 64).add s).l).toArray (0, 0) _ h1 d57 rfl (by rw [hsz]; exact i57) ?_
          refine wpList_store_row rfl 122 (.tmp 4) (.tmp 120) rfl (w.heap.size + 2) (W32 ((s.run kTab ws 64).add s).l).toArray rfl rfl 122 _ h3 (by rw [hsz]; exact i57) (by rw [hsz]; rfl) (W32_one _) ?_
          have hres := setRow_heap wr (w.heap.size + 2) _ (W32 ((s.run kTab ws 64).add s).l).toArray 122 (0, 0) h3
          have hfr : Frm [] w (wr.setRow (w.heap.size + 2) (W32 ((s.run kTab ws 64).add s).l).toArray) := f3.setRow _ _ (.inr (by omega))
          have HRES := Lib.hid hres
          have HFR := Lib.hid hfr
          have HSZ := Lib.hid hsz
          clear hres hfr h1 h2 h3 f3 hsz hout
          generalize (wr.setRow (w.heap.size + 2) (W32 ((s.run kTab ws 64).add s).l).toArray) = w9 at *
          go_wp2_with fail
          refine bodyPost_ret (v := .agg (W32 ((s.run kTab ws 64).add s).l).toArray) (results_cell_row rfl _ _ _ 122 _ (0, 0) _ rfl HRES.out d57 rfl (by rw [HSZ.out]; exact i57)) rfl ⟨rfl, HFR.out⟩
end Go.Proofs.YtjdejhgfkjeeiaaGreatDoor.Hs

namespace Go.Proofs.YtjdejhgfkjeeiaaGreatDoor.Hs
open Go.RowKit
set_option linter.unusedVariables false
set_option linter.unusedSimpArgs false

def digB (ws : List UInt32) (i : Nat) : UInt8 := UInt8.ofNat ((at32 ws (i / 4)).toNat / 2 ^ (24 - 8 * (i % 4)))
def digK (ws : List UInt32) (k : Nat) : List UInt8 := (List.range k).map (digB ws)
theorem digK_length (ws : List UInt32) (k : Nat) : (digK ws k).length = k := by simp [digK]
theorem digK_set (ws : List UInt32) (k : Nat) (hk : k < 32) : (digK ws k ++ List.replicate (32 - k) 0).set k (digB ws k) = digK ws (k + 1) ++ List.replicate (32 - (k + 1)) 0 := by
  rw [List.set_append_right _ _ (by rw [digK_length]; exact Nat.le_refl _), digK_length, Nat.sub_self, show 32 - k = (32 - (k + 1)) + 1 by omega, List.replicate_succ, List.set_cons_zero]
  simp [digK, List.range_succ]
def IsB (w : World) (b : Nat) (T : TypeId) (l : List UInt8) : Prop := w.heap[b]? = some (.cells (bvs l).toArray T (0, 0))
theorem IsB.cell {w : World} {b : Nat} {T : TypeId} {l : List UInt8} (h : IsB w b T l) (i : Nat) (hi : i < l.length) : w.cell? ⟨b, i, none⟩ = some (.int .u8 (l[i].toNat : Int)) := by
  rw [cell_of_heap h, List.getElem?_toArray, bvs_get, List.getElem?_eq_getElem hi]; rfl
theorem IsB.frozen {w : World} {b : Nat} {T : TypeId} {l : List UInt8} (h : IsB w b T l) (i : Nat) : w.frozen? ⟨b, i, none⟩ = false := frozen_of_heap h i
theorem IsB.store {w : World} {b : Nat} {T : TypeId} {l : List UInt8} (h : IsB w b T l) (i : Nat) (x : UInt8) {u : Value} (hu : u = bv x) : IsB (w.setCell ⟨b, i, none⟩ u) b T (l.set i x) := by
  subst hu; unfold IsB; rw [heap_setCell_same _ h, bvs_set]
theorem IsB.other {w : World} {b : Nat} {T : TypeId} {l : List UInt8} (h : IsB w b T l) (p : Addr) (v : Value) (hp : b ≠ p.block) : IsB (w.setCell p v) b T l := (heap_setCell_ne v hp).trans h
theorem IsB.keepF {w w' : World} {b : Nat} {T : TypeId} {l : List UInt8} (h : IsB w b T l) (f : Frm [] w w') : IsB w' b T l := f.heap h (by simp)
theorem bvs_zero (n : Nat) : bvs (List.replicate n 0) = List.replicate n (.int .u8 0) := by simp [bvs, bv]
theorem d29 : Tryz.prog.underlying 24 = some (.array 32 5) := by kernel_rfl
theorem i29 : (Tryz.prog.info? 24).map (·.size) = some 32 := by kernel_rfl
theorem bvs_oneA (l : List UInt8) : (bvs l).toArray.all (·.oneCell') = true := by simp [bvs, bv, Value.oneCell']
theorem dig_val (x : UInt32) (m : Nat) : wi x / 2 ^ m % 256 = ((UInt8.ofNat (x.toNat / 2 ^ m)).toNat : Int) := by
  unfold wi
  rw [UInt8.toNat_ofNat']
  have h : ∀ d : Nat, ((x.toNat / d % 2 ^ 8 : Nat) : Int) = (x.toNat : Int) / (d : Int) % 256 := fun d => by simp
  rw [h]
  simp
def DigRel (w : World) (ws : List UInt32) (c : Value) (wr : World) : Prop :=
  ∃ k : Nat, k ≤ 32 ∧ c = .int .i64 k ∧ IsW wr w.heap.size 122 ws ∧ IsB wr (w.heap.size + 1) 24 (List.replicate 32 0) ∧ IsB wr (w.heap.size + 2) 24 (digK ws k ++ List.replicate (32 - k) 0) ∧ Frm [] w wr
set_option maxRecDepth 100000 in
set_option maxHeartbeats 4000000 in
theorem digest_any (ws : List UInt32) (hws : ws.length = 8) (w : World) :
    Calls Tryz.prog 100 #[.agg (W32 ws).toArray] w fun r w' => r = .returned (.agg (bvs (digK ws 32)).toArray) ∧ Frm [] w w' := by
  have HWL := Lib.hid hws
  clear hws
  go_enter Tryz.func100, Tryz.ntmps100
  go_wp2_with fail
  go_loopw [5] (DigRel w ws) (fun c _ => 32 - (intOf c).toNat)
  case atStart =>
    refine ⟨0, by omega, rfl, heap_alloc_lt (heap_alloc_lt (heap_alloc_new _ _)), ?_, ?_, (((Frm.refl _ _).alloc _).alloc _).alloc _⟩
    · unfold IsB; rw [bvs_zero]; exact heap_alloc_lt (heap_alloc_at (by simp))
    · unfold IsB; rw [show digK ws 0 ++ List.replicate (32 - 0) (0 : UInt8) = List.replicate 32 0 from rfl, bvs_zero]; exact heap_alloc_at (by simp)
  case round =>
    obtain ⟨k, hk, rfl, hW, hR, hX, f⟩ := hrel
    by_cases hlt : k < 32
    · have hql : k / 4 < ws.length := by rw [HWL.out]; omega
      have cq := hW.cell (k / 4) hql
      rw [at32_lt] at cq
      have hxl : k < (digK ws k ++ List.replicate (32 - k) (0 : UInt8)).length := by simp [digK_length]; omega
      have cx := hX.cell k hxl
      have zx := hX.frozen k
      generalize (digK ws k ++ List.replicate (32 - k) (0 : UInt8))[k]'hxl = x0 at cx
      have hset := digK_set ws k hlt
      have hdb : digB ws k = UInt8.ofNat ((at32 ws (k / 4)).toNat / 2 ^ (24 - 8 * (k % 4))) := rfl
      have hdv := dig_val (at32 ws (k / 4)) (24 - 8 * (k % 4))
      rw [← hdb] at hdv
      obtain ⟨q, hq⟩ : ∃ q, k / 4 = q := ⟨_, rfl⟩
      obtain ⟨r, hr⟩ : ∃ r, k % 4 = r := ⟨_, rfl⟩
      have hq0 : (k : Int) / 4 = (q : Int) := by omega
      have hr0 : (k : Int) % 4 = (r : Int) := by omega
      have hr4 : (r : Int) < 4 := by omega
      have hq8 : (q : Int) < 8 := by omega
      have hrp : (0 : Int) ≤ (r : Int) := by omega
      have hqp : (0 : Int) ≤ (q : Int) := by omega
      rw [hq] at cq hdv
      rw [hr] at hdv
      generalize at32 ws q = xq at *
      generalize digB ws k = db at *
      have HSET := Lib.hid hset
      have HDV := Lib.hid hdv
      have HW := Lib.hid hW
      have HR := Lib.hid hR
      have HX := Lib.hid hX
      have HF := Lib.hid f
      clear hset hdv hdb hW hR hX f hql hxl hq hr
      go_wp2_with fail
      refine ⟨⟨k + 1, by omega, by go_num, HW.out.other _ _ (by simp <;> omega), HR.out.other _ _ (by simp <;> omega), ?_, HF.out.setCell _ _ (.inr (by simp <;> omega))⟩, by simp [intOf]; omega⟩
      rw [← HSET.out]
      exact HX.out.store k db (by rw [HDV.out]; rfl)
    · obtain rfl : k = 32 := by omega
      have hX' : IsB wr (w.heap.size + 2) 24 (digK ws 32) := by simpa using hX
      have hsz : (bvs (digK ws 32)).toArray.size = 32 := by simp [bvs_length, digK_length]
      have hsz2 : (bvs (List.replicate 32 (0 : UInt8))).toArray.size = 32 := by simp [bvs_length]
      go_upto_region 7 with (fail)
      refine wp_region_lit ?_
      refine wpList_load_row rfl 24 (.tmp 3) rfl (w.heap.size + 2) rfl 24 (bvs (digK ws 32)).toArray (0, 0) _ hX' d29 rfl (by rw [hsz]; exact i29) ?_
      refine wpList_store_row rfl 24 (.tmp 2) (.tmp 21) rfl (w.heap.size + 1) (bvs (digK ws 32)).toArray rfl rfl 24 _ hR (by rw [hsz]; exact i29) (by rw [hsz]; exact hsz2) (bvs_oneA _) ?_
      have hres := setRow_heap wr (w.heap.size + 1) _ (bvs (digK ws 32)).toArray 24 (0, 0) hR
      have hfr : Frm [] w (wr.setRow (w.heap.size + 1) (bvs (digK ws 32)).toArray) := f.setRow _ _ (.inr (by omega))
      have HRES := Lib.hid hres
      have HFR := Lib.hid hfr
      have HSZ := Lib.hid hsz
      clear hres hfr hW hR hX hX' f hsz hsz2
      generalize wr.setRow (w.heap.size + 1) (bvs (digK ws 32)).toArray = w9 at *
      go_wp2_with fail
      refine bodyPost_ret (v := .agg (bvs (digK ws 32)).toArray) (results_cell_row rfl _ _ _ 24 _ (0, 0) _ rfl HRES.out d29 rfl (by rw [HSZ.out]; exact i29)) rfl ⟨rfl, HFR.out⟩
end Go.Proofs.YtjdejhgfkjeeiaaGreatDoor.Hs

namespace Go.Proofs.YtjdejhgfkjeeiaaGreatDoor.Hs
open Go.RowKit
set_option linter.unusedVariables false
set_option linter.unusedSimpArgs false
attribute [local go_sem] Oper.semAt_some

theorem Chunk_any (a : Option Addr) (len cap : Nat) (w : World) :
    Calls Tryz.prog 97 #[.slice a len cap, .int .i64 64] w fun e w' => e = .returned (.func (.func 139) #[] #[.pointer (some ⟨w.heap.size, 0, none⟩), .pointer (some ⟨w.heap.size + 1, 0, none⟩)]) ∧
      w' = (w.alloc (.cells #[.slice a len cap] 32)).alloc (.cells #[.int .i64 64] 3) := by
  have hmf : ∀ (fn : Fn) (first cap : Array Value) (w : World), (Instr.makeFunc fn first cap).run Tryz.prog w = .ok (.func fn first cap) w := fun _ _ _ _ => rfl
  go_enter Tryz.func97, Tryz.ntmps97
  go_wp2
  go_ret
  exact ⟨rfl, rfl⟩
/-- The j-th piece of 64 of a row. -/
def pieceV (b j : Nat) : Value := .slice (some ⟨b, 64 * j, none⟩) 64 64
abbrev Idx (M : Nat) := { j : Nat // j < M }
def KpB (B1 B2 : Nat) (W W' : World) : Prop := W'.heap[B1]? = W.heap[B1]? ∧ W'.heap[B2]? = W.heap[B2]?
set_option maxRecDepth 100000 in
set_option maxHeartbeats 2000000 in
theorem chunk1_in (n : Nat) (hn : 1 ≤ n) (l B1 B2 b M cap : Nat) (hcap : 64 * M ≤ cap) (hM : M ≤ 1000000) (J Jx : List (Idx M) → World → Prop)
    (hY : ∀ pre (x : Idx M) W, J pre W → pre.length < M → YieldAt Fence.wide (n - 1) Tryz.prog l #[pieceV b x.1] W fun e W' =>
      (e = .returned (.bool true) ∧ J (pre ++ [x]) W' ∧ KpB B1 B2 W W') ∨ (e = .returned (.bool false) ∧ Jx (pre ++ [x]) W'))
    (W : World) (h1 : W.heap[B1]? = some (.cells #[.slice (some ⟨b, 0, none⟩) (64 * M) cap] 32 (0, 0))) (h2 : W.heap[B2]? = some (.cells #[.int .i64 64] 3 (0, 0))) (hJd : ∀ pre W, J pre W → J pre W.drew) (h0 : J [] W) :
    CallsIn Fence.wide n Tryz.prog 139 #[.func (.yield l) #[] #[], .pointer (some ⟨B1, 0, none⟩), .pointer (some ⟨B2, 0, none⟩)] W fun e W' => (∃ v, e = .returned v) ∧
      ((∃ ys, ys.map (·.1) = List.range M ∧ J ys W') ∨ (∃ pre, Jx pre W')) := by
  refine callsIn_of_wp Tryz.func139 rfl trivial ?_ rfl
  simp only [Tryz.ntmps139, List.size_toArray, List.length_cons, List.length_nil, Nat.reduceAdd, Nat.reduceSub, Array.replicate_succ, Array.replicate_zero, List.push_toArray, List.append_toArray, List.nil_append, List.cons_append]
  gi_wp2
  gi_loopw [4] (fun i wr => ∃ k : Nat, k ≤ M ∧ i = .int .i64 (64 * (k : Int)) ∧ ∃ pre : List (Idx M), pre.map (·.1) = List.range k ∧ J pre wr ∧ wr.heap[B1]? = some (.cells #[.slice (some ⟨b, 0, none⟩) (64 * M) cap] 32 (0, 0)) ∧ wr.heap[B2]? = some (.cells #[.int .i64 64] 3 (0, 0)))
    (fun i _ => 64 * M - (intOf i).toNat)
  case atStart => exact ⟨0, Nat.zero_le _, rfl, [], rfl, h0, h1, h2⟩
  case round =>
    obtain ⟨k, hk, rfl, pre, hpre, hJs, g1, g2⟩ := hrel
    have hpl : pre.length = k := by have := congrArg List.length hpre; simpa using this
    have HPRE := Lib.hid hpre
    have HPL := Lib.hid hpl
    clear hpre hpl
    have c1 : wr.cell? ⟨B1, 0, none⟩ = some (.slice (some ⟨b, 0, none⟩) (64 * M) cap) := by rw [cell_of_heap g1]; rfl
    have c2 : wr.cell? ⟨B2, 0, none⟩ = some (.int .i64 64) := by rw [cell_of_heap g2]; rfl
    have G1 := Lib.hid g1
    have G2 := Lib.hid g2
    have HY := Lib.hid hY
    have HJD := Lib.hid hJd
    have hJs' := Lib.hid hJs
    clear g1 g2 hY hJd hJs h1 h2 h0
    have hM9 : (M : Int) ≤ 1000000 := by omega
    by_cases hlt : k < M
    · have hlt' : (k : Int) < (M : Int) := by omega
      have hk0 : (0 : Int) ≤ 64 * (k : Int) := by omega
      have hk1 : 64 * (k : Int) ≤ 64 * (M : Int) := by omega
      have e1 : (64 * (k : Int)).toNat = 64 * k := by omega
      have hne : ¬ cap = 64 * k := by omega
      have e2 : min (64 : Int) ((64 * M - 64 * k : Nat) : Int) = 64 := by omega
      gi_wp2
      refine wpIn_wide.2 ?_
      refine wp_region_still_lit (by kernel_rfl) (by kernel_rfl) ?_
      change wpStill _ _ (World.drew _) _ _ _
      repeat still_step
      refine wpStill_nil ?_
      change Exit.then _ _ _ _ (World.drew _)
      obtain ⟨fn, tmps, assign, body, hy, hR⟩ := HY.out pre ⟨k, hlt⟩ wr.drew (HJD.out _ _ hJs'.out) (by rw [HPL.out]; exact hlt)
      dsimp only [pieceV] at hy
      have hne2 : ¬ 64 * k + 64 = 64 * k := by omega
      gi_wp2
      refine hR.mono ?_
      rintro e W3 (⟨rfl, hJ3, hk3⟩ | ⟨rfl, hJx3⟩)
      · have c2' : W3.cell? ⟨B2, 0, none⟩ = some (.int .i64 64) := by rw [cell_of_heap (hk3.2.trans G2.out)]; rfl
        gi_wp2
        refine ⟨⟨k + 1, by omega, congrArg (Value.int IntKind.i64) (by omega), pre ++ [⟨k, hlt⟩], by rw [List.map_append, HPRE.out, List.range_succ]; rfl, hJ3, hk3.1.trans G1.out, hk3.2.trans G2.out⟩, by simp [intOf]; omega⟩
      · gi_wp2
        refine bodyPost_ret (results_none rfl _ _ _) rfl ?_
        exact ⟨⟨_, rfl⟩, .inr ⟨_, hJx3⟩⟩
    · obtain rfl : k = M := by omega
      gi_wp2
      go_end0
      exact ⟨⟨_, rfl⟩, .inl ⟨_, HPRE.out, hJs'.out⟩⟩
theorem grownBy_drew (W : World) : W.grownBy W.drew none := by
  have := World.grownBy_alloc W (.cells #[] 0) none
  exact ⟨rfl, rfl, rfl, Nat.le_refl _, fun _ _ _ => rfl⟩
theorem chunk_stops (n : Nat) (hn : 1 ≤ n) (B1 B2 b M cap : Nat) (hcap : 64 * M ≤ cap) (hM : M ≤ 1000000) (w : World) (hB1 : B1 < w.heap.size) (hB2 : B2 < w.heap.size)
    (h1 : w.heap[B1]? = some (.cells #[.slice (some ⟨b, 0, none⟩) (64 * M) cap] 32 (0, 0))) (h2 : w.heap[B2]? = some (.cells #[.int .i64 64] 3 (0, 0))) :
    SeqStopsK Fence.wide n Tryz.prog 139 #[.pointer (some ⟨B1, 0, none⟩), .pointer (some ⟨B2, 0, none⟩)] (fun j : Idx M => #[pieceV b j.1]) (KpB B1 B2) (fun xs => xs.map (·.1) = List.range M) (fun _ => True) M w := fun l J Jx W hW hJ _ hY h0 => by
  refine (chunk1_in n hn l B1 B2 b M cap hcap hM J Jx hY W ((hW.block B1 hB1).trans h1) ((hW.block B2 hB2).trans h2) (fun pre W' hj => ?_) h0).mono ?_
  · exact hJ pre W' W'.drew none hj (grownBy_drew W') (fun r e => by cases e)
  · rintro e W' ⟨he, ⟨ys, hy, hj⟩ | ⟨pre, hj⟩⟩
    · exact ⟨he, .inl ⟨ys, hy, hj⟩⟩
    · exact ⟨he, .inr ⟨pre, trivial, hj⟩⟩
end Go.Proofs.YtjdejhgfkjeeiaaGreatDoor.Hs

namespace Go.Proofs.YtjdejhgfkjeeiaaGreatDoor.Hs
open Go.RowKit
set_option linter.unusedVariables false
set_option linter.unusedSimpArgs false
attribute [local go_sem] Oper.semAt_some

theorem Glob.lt {w : World} (h : Glob w) : 3 < w.heap.size := World.block_lt_of_cell? w ⟨3, 0, none⟩ (h 0 (by omega))
def s0 : S8 := ⟨0x6a09e667, 0xbb67ae85, 0x3c6ef372, 0xa54ff53a, 0x510e527f, 0x9b05688c, 0x1f83d9ab, 0x5be0cd19⟩
/-- How many pieces n bytes are filled up to. -/
def pcs (n : Nat) : Nat := (n + 8) / 64 + 1
theorem pcs_len (b : List UInt8) : (filled b).length = 64 * pcs b.length := by
  rw [filled_length]; unfold padN pcs; omega
/-- The j-th piece of a row. -/
def pieceL (L : List UInt8) (j : Nat) : List UInt8 := (L.drop (64 * j)).take 64
/-- A state, turned by pieces. -/
def turnsP (s : S8) (L : List UInt8) (js : List Nat) : S8 := js.foldl (fun s j => turn s (pieceL L j)) s
theorem turnsP_snoc (s : S8) (L : List UInt8) (js : List Nat) (j : Nat) : turnsP s L (js ++ [j]) = turn (turnsP s L js) (pieceL L j) := by simp [turnsP]
/-- The digest of bytes. -/
def sha (b : List UInt8) : List UInt8 := digK (turnsP s0 (filled b) (List.range (pcs b.length))).l 32
theorem W32_lit (s : S8) : (W32 s.l).toArray = #[.int .u32 (wi s.a), .int .u32 (wi s.b), .int .u32 (wi s.c), .int .u32 (wi s.d), .int .u32 (wi s.e), .int .u32 (wi s.f), .int .u32 (wi s.g), .int .u32 (wi s.h)] := rfl
theorem Start_any (w : World) : Calls Tryz.prog 96 #[] w fun r w' => r = .returned (.agg (W32 s0.l).toArray) ∧ Frm [] w w' := by
  go_enter Tryz.func96, Tryz.ntmps96
  go_wp2
  exact bodyPost_ret (v := .agg (W32 s0.l).toArray) (by simp [results, Tryz.results96, go_sem, W32_lit, s0, wi]) rfl ⟨rfl, (Frm.refl _ _).alloc _⟩
theorem wpStill_val {P : Program} {ops : Array Oper} {w : World} {Q : Act → Prop} {a : Act} {o : Oper} {rest : List Oper} {v : Value} (hg : o.guard = none) (h : (execOp a.eval o).run P w = .ok (.value v) w)
    (k : wpStill P ops w Q rest (a.put o.dst v)) : wpStill P ops w Q (o :: rest) a := by
  refine wpStill_step (fun K hK => ?_)
  rw [if_pos (by simp [Region.wanted, hg])]
  unfold Oper.still
  rw [h, Oper.stillUpon_value]
  exact hK _ k
/-- A whole row out of a block, from 'off' on. -/
theorem run_loadVar_off {P : Program} (w : World) (g off : Nat) (ty : TypeId) (cs : List Value) (d : TypeDesc) (hc : ∀ i u, cs[i]? = some u → w.cell? ⟨g, off + i, none⟩ = some u)
    (hu : P.underlying ty = some d) (hd : (match d with | .struct _ | .array _ _ => true | _ => false) = true) (hi : (P.info? ty).map (·.size) = some cs.length) :
    (loadVar ty ⟨g, off, none⟩).run P w = .ok (.agg cs.toArray) w := by
  have hl : (loadCells ⟨g, off, none⟩ cs.length).run P w = .ok cs.toArray w :=
    run_loadCells_list (P := P) w ⟨g, off, none⟩ cs (fun j v hv => by rw [add_plain]; exact hc j v hv)
  cases hq : P.info? ty with
  | none => simp [hq] at hi
  | some i =>
    have hs : i.size = cs.length := by simpa [hq] using hi
    have hagg : (isAgg ty).run P w = .ok true w := by
      unfold isAgg
      rw [Sem.run_bind, run_underlying hu w]
      cases d <;> simp_all
    simp [loadVar, Sem.run_bind, hagg, sizeOf, typeInfo, hq, hs, hl]
theorem exec_load_row {P : Program} {o : Oper} {a : Act} {w : World} (ty : TypeId) (x : Operand) (ho : o.op = .load ty x) (g off : Nat) (hx : a.eval x = .pointer (some ⟨g, off, none⟩)) (cs : List Value) (d : TypeDesc) (hc : ∀ i u, cs[i]? = some u → w.cell? ⟨g, off + i, none⟩ = some u)
    (hu : P.underlying ty = some d) (hd : (match d with | .struct _ | .array _ _ => true | _ => false) = true) (hi : (P.info? ty).map (·.size) = some cs.length) : (execOp a.eval o).run P w = .ok (.value (.agg cs.toArray)) w := by
  unfold execOp
  simp only [ho, hx, Instr.loadAt, Instr.sureAddr, Sem.run_bind, Sem.run_pure, Result.andThen_ok, run_loadVar_off w g off ty cs d hc hu hd hi]
theorem inBlock_lets {id : Nat} {Q : Exit → Act → World → Prop} (h : ¬ LetsOut Q) : ¬ LetsOut (Exit.inBlock id Q) := fun ⟨a, w, hq⟩ => h ⟨a, w, hq⟩
theorem arrayAt59 (a : Addr) (W : World) : (Instr.arrayAt 127 (.slice (some a) 64 64)).run Tryz.prog W = .ok (.pointer (some a)) W := by
  have hl : Tryz.prog.arrayLen 127 = 64 := by kernel_rfl
  simp [Instr.arrayAt, run_underlying d59, go_sem]
def SumI (w1 : World) (Bs : Nat) (L : List UInt8) (M : Nat) (pre : List (Idx M)) (W : World) : Prop := IsW W Bs 122 (turnsP s0 L (pre.map (·.1))).l ∧ Frm [Bs] w1 W
theorem sumI_own (w1 : World) (Bs : Nat) (L : List UInt8) (M : Nat) (hB : Bs < w1.heap.size) : OwnFrom w1.heap.size (SumI w1 Bs L M) := by
  intro pre W W' row ⟨h1, h2⟩ hg hr
  have hf : Frm row.toList W W' := Frm.of_grown hg (fun k hk => by simp [hk])
  refine ⟨hf.heap h1 (fun hm => ?_), h2.trans hf (fun i hi => ?_)⟩
  · have := hr Bs (by simpa using hm)
    omega
  · exact .inr (hr i (by simpa using hi)).1
set_option maxRecDepth 100000 in
set_option maxHeartbeats 4000000 in
theorem Sum_any (v : Value) (b sp : List UInt8) (w : World) (hS : SlB w v b sp) (hb : b.length ≤ 1000000) (hG : Glob w) :
    Calls Tryz.prog 51 #[v] w fun r w' => r = .returned (.agg (bvs (sha b)).toArray) ∧ Frm [] w w' := by
  obtain ⟨a, cap, rfl, _, _⟩ := hS.form
  have HS := Lib.hid hS
  have HG := Lib.hid hG
  have hlen := pcs_len b
  have hpc : pcs b.length ≤ 100000 := by unfold pcs; omega
  have hb10 : b.length ≤ 10000000 := by omega
  have HL := Lib.hid hlen
  have HPC := Lib.hid hpc
  clear hS hG hlen hpc
  refine (callsIn_wide (n := 5)).1 ?_
  refine callsIn_of_wp_marks Tryz.func51 rfl trivial ?_ rfl
  simp only [Tryz.ntmps51, List.size_toArray, List.length_cons, List.length_nil, Nat.reduceAdd, Nat.reduceSub, Array.replicate_succ, Array.replicate_zero, List.push_toArray, List.append_toArray, List.nil_append, List.cons_append]
  refine wpIn_wide.2 ?_
  go_wp2_with fail
  refine (Start_any _).mono ?_
  rw [W32_lit]
  rintro r w1 ⟨rfl, f1⟩
  have hB : IsB w1 w.heap.size 24 (List.replicate 32 0) := by unfold IsB; rw [bvs_zero]; exact f1.heap (heap_alloc_new _ _) (by simp)
  have hF : Frm [] w w1 := ((Frm.refl _ _).alloc _).trans f1 (by simp)
  have hz := f1.size
  have HB := Lib.hid hB
  have HF := Lib.hid hF
  have HZ1 := Lib.hid (show w.heap.size < w1.heap.size by simp at hz; omega)
  clear hB hF f1 hz
  go_wp2_with fail
  refine (filledUp_any _ b sp _ (HS.out.keep (HF.out.alloc _) (by simp)) hb10).mono ?_
  rintro r w2 ⟨a2, cap2, sp2, rfl, o2, f2, g2⟩
  obtain ⟨g, rfl⟩ : ∃ g, a2 = some ⟨g, 0, none⟩ := by
    obtain ⟨h1, h2 | ⟨g, c, h2, _⟩⟩ := o2
    · have := h2.2.1; rw [HL.out] at this; unfold pcs at this; omega
    · cases h2; exact ⟨g, rfl⟩
  rw [HL.out] at o2 g2 ⊢
  have hcap : 64 * pcs b.length ≤ cap2 := by
    obtain ⟨h1, h2, h3⟩ := o2.caps
    have := HL.out
    omega
  have hgb : ¬ g = w1.heap.size := by have := g2 g (by simp [blk]); simp at this; omega
  have HO := Lib.hid o2
  have HST := Lib.hid (show IsW w2 w1.heap.size 122 s0.l from f2.heap (heap_alloc_new _ _) (by simp))
  have HB2 := Lib.hid (HB.out.keepF (((Frm.refl [] w1).alloc _).trans f2 (by simp)))
  have HF2 := Lib.hid ((HF.out.alloc _).trans f2 (by simp))
  have HZ2 := Lib.hid (show w1.heap.size < w2.heap.size by have := f2.size; simp at this; omega)
  have HCAP := Lib.hid hcap
  clear o2 g2 f2 hcap
  go_wp2_with fail
  refine (Chunk_any _ _ _ _).mono ?_
  rintro r w3 ⟨rfl, rfl⟩
  have HST3 := Lib.hid (show IsW ((w2.alloc (.cells #[.slice (some ⟨g, 0, none⟩) (64 * pcs b.length) cap2] 32)).alloc (.cells #[.int .i64 64] 3)) w1.heap.size 122 s0.l from heap_alloc_lt (heap_alloc_lt HST.out))
  have HC1 := Lib.hid (show ((w2.alloc (.cells #[.slice (some ⟨g, 0, none⟩) (64 * pcs b.length) cap2] 32)).alloc (.cells #[.int .i64 64] 3)).heap[w2.heap.size]? = some (.cells #[.slice (some ⟨g, 0, none⟩) (64 * pcs b.length) cap2] 32 (0, 0)) from heap_alloc_lt (heap_alloc_new _ _))
  have HC2 := Lib.hid (show ((w2.alloc (.cells #[.slice (some ⟨g, 0, none⟩) (64 * pcs b.length) cap2] 32)).alloc (.cells #[.int .i64 64] 3)).heap[w2.heap.size + 1]? = some (.cells #[.int .i64 64] 3 (0, 0)) from heap_alloc_at (by simp))
  have HF3 := Lib.hid ((HF2.out.alloc (.cells #[.slice (some ⟨g, 0, none⟩) (64 * pcs b.length) cap2] 32)).alloc (.cells #[.int .i64 64] 3))
  have HO3 := Lib.hid (HO.out.keep (((Frm.refl [] w2).alloc (.cells #[.slice (some ⟨g, 0, none⟩) (64 * pcs b.length) cap2] 32)).alloc (.cells #[.int .i64 64] 3)) (by simp))
  have HB3 := Lib.hid (HB2.out.keepF (((Frm.refl [] w2).alloc (.cells #[.slice (some ⟨g, 0, none⟩) (64 * pcs b.length) cap2] 32)).alloc (.cells #[.int .i64 64] 3)))
  have HZ3 := Lib.hid (show ((w2.alloc (.cells #[.slice (some ⟨g, 0, none⟩) (64 * pcs b.length) cap2] 32)).alloc (.cells #[.int .i64 64] 3)).heap.size = w2.heap.size + 2 by simp)
  generalize ((w2.alloc (.cells #[.slice (some ⟨g, 0, none⟩) (64 * pcs b.length) cap2] 32)).alloc (.cells #[.int .i64 64] 3)) = W at *
  have HGB := Lib.hid hgb
  clear hgb
  go_wp2_with fail
  have hz2 := HZ2.out
  have hz3 := HZ3.out
  refine (wpIn_wide (n := 5)).1 ?_
  refine wpIn_rangeFunc_ownF rfl (by decide) (gf := 139) (lb := #[.pointer (some ⟨w2.heap.size, 0, none⟩), .pointer (some ⟨w2.heap.size + 1, 0, none⟩)]) rfl trivial (Go.Proofs.enters_of Tryz.func139 (by kernel_rfl) rfl)
    (chunk_stops (5 - 1) (by decide) w2.heap.size (w2.heap.size + 1) g (pcs b.length) cap2 HCAP.out (by have := HPC.out; omega) W (by omega) (by omega) HC1.out HC2.out)
    ?kt ?kb (Below.refl _ _) (fun _ => rfl) (SumI W w1.heap.size (filled b) (pcs b.length)) (fun _ _ _ => False) (sumI_own W w1.heap.size (filled b) (pcs b.length) (by omega)) (fun _ _ _ _ _ hs _ _ => hs) ⟨HST3.out, Frm.refl _ _⟩
    (fun x : Idx (pcs b.length) => { tmps := #[.slice a b.length cap, undef, .pointer (some ⟨w.heap.size, 0, none⟩), .pointer (some ⟨w1.heap.size, 0, none⟩), pieceV g x.1, .agg #[.int .u32 (wi s0.a), .int .u32 (wi s0.b), .int .u32 (wi s0.c), .int .u32 (wi s0.d), .int .u32 (wi s0.e), .int .u32 (wi s0.f), .int .u32 (wi s0.g), .int .u32 (wi s0.h)],
      .slice a b.length cap, .slice (some ⟨g, 0, none⟩) (64 * pcs b.length) cap2, .func (.func 139) #[] #[.pointer (some ⟨w2.heap.size, 0, none⟩), .pointer (some ⟨w2.heap.size + 1, 0, none⟩)], pieceV g x.1, undef, undef, undef, undef, undef, undef, undef], defers := [] }) ?assign ?body ?done ?stop
  case kt => intro A B C h k; exact ⟨k.1.trans h.1, k.2.trans h.2⟩
  case kb => intro W' l o o' hl h ho hw; exact ⟨World.putObj_heap_other (by omega), World.putObj_heap_other (by omega)⟩
  case assign =>
    intro l x W' K hK
    gi_wp2
    exact hK
  case body =>
    rintro l pre x W' ⟨h1, h2⟩ hlen
    have hO := HO3.out
    have hxl : 64 * x.1 + 64 ≤ (filled b).length := by have := x.2; have := HL.out; omega
    have hOW := hO.keep h2 (by simp [blk]; exact HGB.out)
    have hpl : (pieceL (filled b) x.1).length = 64 := by simp [pieceL]; omega
    have hGW : Glob W' := (HG.out.keep HF3.out (by simp)).keep h2 (by have := HZ1.out; have := HG.out.lt; simp; omega)
    have hturn := turned_any (turnsP s0 (filled b) (pre.map (·.1))) (pieceL (filled b) x.1) hpl W'.drew hGW
    dsimp only [pieceV]
    refine wpIn_block ?_
    refine wpIn_round_still_tail 4 (by kernel_rfl) (by kernel_rfl) (by kernel_rfl) (inBlock_lets ownPostK_lets) ?_
    change wpStill _ _ (World.drew _) _ _ _
    simp only [List.take_succ_cons, List.take_zero, List.drop_succ_cons, List.drop_zero]
    refine wpStill_val rfl (exec_load_row 122 (.tmp 3) rfl w1.heap.size 0 rfl (W32 (turnsP s0 (filled b) (pre.map (·.1))).l) _ (fun i u hu => ?_) d57 rfl (by rw [W32_length]; exact i57)) ?_
    · rw [Nat.zero_add, World.cell?_drew, cell_of_heap h1]; simpa using hu
    still_step
    have haa := arrayAt59 ⟨g, 64 * x.1, none⟩
    still_step
    refine wpStill_val rfl (exec_load_row 127 (.tmp 12) rfl g (64 * x.1) rfl (bvs (pieceL (filled b) x.1)) _ (fun i u hu => ?_) d59 rfl (by rw [bvs_length, hpl]; exact i59)) ?_
    · have hh := hOW.heap
      rw [World.cell?_drew, cell_of_heap hh, List.getElem?_toArray, bvs_get]
      rw [bvs_get] at hu
      rw [← hu]
      have hi : i < 64 := by
        rcases Nat.lt_or_ge i 64 with h | h
        · exact h
        · rw [List.getElem?_eq_none (by omega)] at hu; cases hu
      unfold pieceL
      rw [List.getElem?_take_of_lt hi, List.getElem?_drop, List.getElem?_append_left (by omega)]
    refine wpStill_nil ?_
    change wpList _ _ _ _ _ (World.drew _)
    go_wp2_with fail
    refine hturn.mono ?_
    rintro r w4 ⟨rfl, f4⟩
    have h14 := f4.heap (show W'.drew.heap[w1.heap.size]? = _ from h1) (by simp)
    have hsz : ∀ y : S8, (W32 y.l).toArray.size = 8 := fun y => by simp [W32_length, S8.l]
    have hfin : SumI W w1.heap.size (filled b) (pcs b.length) (pre ++ [x]) (w4.setRow w1.heap.size (W32 (turn (turnsP s0 (filled b) (pre.map (·.1))) (pieceL (filled b) x.1)).l).toArray) := by
      refine ⟨?_, ((h2.drew).trans f4 (by simp)).setRow _ _ (.inl (by simp))⟩
      rw [List.map_append, List.map_cons, List.map_nil, turnsP_snoc]
      exact setRow_heap _ _ _ _ _ _ h14
    have hfr : Frm [w1.heap.size] W' (w4.setRow w1.heap.size (W32 (turn (turnsP s0 (filled b) (pre.map (·.1))) (pieceL (filled b) x.1)).l).toArray) := ((((Frm.refl [] W').drew).trans f4 (by simp)).mono (by simp)).setRow _ _ (.inl (by simp))
    have hko : KeepsOthers W' (w4.setRow w1.heap.size (W32 (turn (turnsP s0 (filled b) (pre.map (·.1))) (pieceL (filled b) x.1)).l).toArray) := ⟨hfr.size, fun k o hk ho => hfr.heap hk (fun hm => by
      simp at hm; subst hm; rw [show W'.heap[w1.heap.size]? = _ from h1] at hk; cases hk; cases ho)⟩
    have hkp : KpB w2.heap.size (w2.heap.size + 1) W' (w4.setRow w1.heap.size (W32 (turn (turnsP s0 (filled b) (pre.map (·.1))) (pieceL (filled b) x.1)).l).toArray) := ⟨hfr.block _ (by have := h2.size; omega) (by simp; omega), hfr.block _ (by have := h2.size; omega) (by simp; omega)⟩
    have HFIN := Lib.hid (And.intro hko (And.intro hkp hfin))
    have H14 := Lib.hid h14
    clear hko hkp hfin hfr h14 hturn hGW hpl hxl hOW hO h1 h2 haa
    generalize (turn (turnsP s0 (filled b) (pre.map (·.1))) (pieceL (filled b) x.1)) = y at *
    simp only []
    go_step
    refine wpList_store_row rfl 122 (.tmp 3) (.tmp 14) rfl w1.heap.size (W32 y.l).toArray rfl rfl 122 _ H14.out (by rw [hsz]; exact i57) (by rw [hsz, hsz]) (W32_one _) ?_
    refine wpList_nil ?_
    exact HFIN.out
  case done =>
    rintro D xs W' hD hxs ⟨h1, h2⟩ hK
    rw [hxs] at h1
    have hsz : ∀ y : S8, (W32 y.l).toArray.size = 8 := fun y => by simp [W32_length, S8.l]
    have hlen8 : ∀ y : S8, y.l.length = 8 := fun y => rfl
    have hBW := h2.heap (show W.heap[w.heap.size]? = _ from HB3.out) (by have := HZ1.out; simp; omega)
    have hFW : Frm [] w W' := HF3.out.trans h2 (fun i hi => by have := HZ1.out; simp at hi; subst hi; exact .inr (by omega))
    have hDz : w.heap.size < D := by have := HZ1.out; omega
    have hDW : D < W'.heap.size := (Array.getElem?_eq_some_iff.1 hK).1
    have HH1 := Lib.hid h1
    have HBW := Lib.hid hBW
    have HFW := Lib.hid hFW
    have HK := Lib.hid hK
    have HDZ := Lib.hid hDz
    have HSHA : sha b = digK (turnsP s0 (filled b) (List.range (pcs b.length))).l 32 := rfl
    have HSH := Lib.hid HSHA
    clear h1 h2 hK hBW hFW hDz hDW hD HSHA
    generalize (turnsP s0 (filled b) (List.range (pcs b.length))) = y at *
    simp only [Exit.inBlock, Exit.then]
    go_upto_region 5 with (fail)
    refine wp_region_lit ?_
    refine wpList_load_row rfl 122 (.tmp 3) rfl w1.heap.size rfl 122 (W32 y.l).toArray (0, 0) _ HH1.out d57 rfl (by rw [hsz]; exact i57) ?_
    go_wp2_with fail
    refine (digest_any y.l (hlen8 y) _).mono ?_
    rintro r w5 ⟨rfl, f5⟩
    rw [← HSH.out]
    have h29 := f5.heap HBW.out (by simp)
    have hl32 : (bvs (sha b)).toArray.size = 32 := by simp [bvs_length, HSH.out, digK_length]
    have hz32 : (bvs (List.replicate 32 (0 : UInt8))).toArray.size = 32 := by simp [bvs_length]
    have hK5 := f5.heap HK.out (by simp)
    have hF5 := HFW.out.trans f5 (by simp)
    simp only []
    go_step
    refine wpList_store_row rfl 24 (.tmp 2) (.tmp 16) rfl w.heap.size (bvs (sha b)).toArray rfl rfl 24 _ h29 (by rw [hl32]; exact i29) (by rw [hl32, hz32]) (bvs_oneA _) ?_
    have hDD := HDZ.out
    have hK6 : (w5.setRow w.heap.size (bvs (sha b)).toArray).heap[D]? = some (.deferred (some [])) := (setRow_other _ _ _ _ (by omega)).trans hK5
    have hres := setRow_heap w5 w.heap.size _ (bvs (sha b)).toArray 24 (0, 0) h29
    have hF6 : Frm [] w (w5.setRow w.heap.size (bvs (sha b)).toArray) := hF5.setRow _ _ (.inr (Nat.le_refl _))
    generalize (w5.setRow w.heap.size (bvs (sha b)).toArray) = w9 at *
    have hres2 : (w9.putObj D (.deferred none)).heap[w.heap.size]? = some (.cells (bvs (sha b)).toArray 24 (0, 0)) := (World.putObj_heap_other (by omega)).trans hres
    have hF7 : Frm [] w (w9.putObj D (.deferred none)) := hF6.trans (Frm.of_grown (L := [D]) (grownBy_putObj' w9 D (.deferred none)) (fun k e => by cases e; simp)) (fun i hi => by simp at hi; subst hi; exact .inr (by omega))
    have HR2 := Lib.hid hres2
    have HF7 := Lib.hid hF7
    have HK6 := Lib.hid hK6
    have HL32 := Lib.hid hl32
    clear hK6 hres hres2 hF6 hF7 hF5 hK5 h29 hl32 hz32 f5 hDD hlen8 hsz
    refine wpList_nil ?_
    simp only [Exit.then]
    go_wp2_with fail
    refine ⟨by simp, .inl ⟨_, _, rfl, run_takeDeferred HK6.out, ?_⟩⟩
    exact ⟨_, results_cell_row rfl _ _ _ 24 _ (0, 0) _ rfl HR2.out d29 rfl (by rw [HL32.out]; exact i29), ⟨rfl, HF7.out⟩⟩
  case stop =>
    rintro D c pre W' _ _ h _
    exact h.elim
end Go.Proofs.YtjdejhgfkjeeiaaGreatDoor.Hs

namespace Go.Proofs.YtjdejhgfkjeeiaaGreatDoor.Hs
open Go.RowKit
set_option linter.unusedVariables false
set_option linter.unusedSimpArgs false
attribute [local go_sem] Oper.semAt_some

/-- An own row of own rows of bytes, no two of which share a block; all of it from 'lo' on. -/
structure OwnL (lo : Nat) (w : World) (v : Value) (ls : List (List UInt8)) : Prop where
  ex : ∃ vs sp, Own 32 1 w v ls.length vs sp ∧ (∀ (i : Nat) (h : i < ls.length), ∃ u sp', vs[i]? = some u ∧ OwnB 5 w u ls[i] sp' ∧ (∃ a cap, u = .slice a ls[i].length cap) ∧ ∀ k ∈ blk u, lo ≤ k ∧ k ∉ blk v) ∧
    (∀ k ∈ blk v, lo ≤ k) ∧ ∀ (i j : Nat) (u u' : Value), i ≠ j → vs[i]? = some u → vs[j]? = some u' → ∀ k ∈ blk u, k ∉ blk u'
theorem OwnL.keep {lo : Nat} {w w' : World} {v : Value} {ls : List (List UInt8)} {L : List Nat} (h : OwnL lo w v ls) (f : Frm L w w') (hL : ∀ k ∈ L, k < lo ∨ w.heap.size ≤ k) : OwnL lo w' v ls := by
  obtain ⟨vs, sp, h1, h2, h3, h4⟩ := h.ex
  refine ⟨vs, sp, h1.keep f (fun k hk hm => ?_), fun i hi => ?_, h3, h4⟩
  · have := h1.lt k hk
    have := h3 k hk
    rcases hL k hm with h | h <;> omega
  · obtain ⟨u, sp', g1, g2, g3, g4⟩ := h2 i hi
    refine ⟨u, sp', g1, g2.keep f (fun k hk hm => ?_), g3, g4⟩
    have := g2.lt k hk
    have := (g4 k hk).1
    rcases hL k hm with h | h <;> omega
theorem OwnL.nil (lo : Nat) (w : World) : OwnL lo w (.slice none 0 0) [] :=
  ⟨[], [], Own.nil _ _ _, fun i h => by simp at h, by simp [blk], fun i j u u' _ h => by simp at h⟩
theorem OwnL.form {lo : Nat} {w : World} {v : Value} {ls : List (List UInt8)} (h : OwnL lo w v ls) : ∃ a cap, v = .slice a ls.length cap ∧ ls.length ≤ cap ∧ cap ≤ maxLen := by
  obtain ⟨vs, sp, h1, _⟩ := h.ex
  exact h1.sl.form
theorem u25 : Tryz.prog.underlying 52 = some (.slice 32) := Tryz.underlying52
theorem i22 : (Tryz.prog.info? 32).map (fun i => (i.zero, i.size, i.bytes)) = some (some (.slice none 0 0), 1, 24) := by kernel_rfl
/-- One row more. -/
theorem append_list {lo : Nat} {w0 w : World} {v x : Value} {ls : List (List UInt8)} {l sp : List UInt8} {gb : Nat} (ty : TypeId) (h0 : OwnL lo w0 v ls) (f : Frm [] w0 w) (hlo : lo ≤ w0.heap.size) (hx : OwnB 5 w x l sp) (hxf : ∃ a cap, x = .slice a l.length cap)
    (hxk : ∀ k ∈ blk x, w0.heap.size ≤ k) (hb : w.heap[gb]? = some (.cells #[x] 32 (0, 0))) (hn : ls.length ≤ 1000000) :
    ∃ v' w', (Builtin.append_ #[52, 52] ty #[v, .slice (some ⟨gb, 0, none⟩) 1 1]).run Tryz.prog w = .ok v' w' ∧ OwnL lo w' v' (ls ++ [l]) ∧ Frm (blk v) w w' := by
  obtain ⟨vs, spv, h10, h20, h3, h4⟩ := h0.ex
  have h1 : Own 32 1 w v ls.length vs spv := h10.keep f (by simp)
  have h2 : ∀ (i : Nat) (h : i < ls.length), ∃ u sp', vs[i]? = some u ∧ OwnB 5 w u ls[i] sp' ∧ (∃ a cap, u = .slice a ls[i].length cap) ∧ ∀ k ∈ blk u, lo ≤ k ∧ k ∉ blk v := fun i hi => by
    obtain ⟨u, sp', g1, g2, g3, g4⟩ := h20 i hi
    exact ⟨u, sp', g1, g2.keep f (by simp), g3, g4⟩
  have hlen0 : vs.length = ls.length := by have := h10.1; omega
  have key : ∀ (i : Nat) (u : Value), vs[i]? = some u → ∀ k ∈ blk u, k ∉ blk x := fun i u hu k hk hm => by
    have hil : i < ls.length := by
      rcases Nat.lt_or_ge i ls.length with h | h
      · exact h
      · rw [List.getElem?_eq_none (by omega)] at hu; cases hu
    obtain ⟨u2, sp', g1, g2, g3, g4⟩ := h20 i hil
    rw [hu] at g1; cases g1
    have := g2.lt k hk
    have := hxk k hm
    omega
  have hxl : ∀ k ∈ blk x, lo ≤ k ∧ k ∉ blk v := fun k hk => ⟨by have := hxk k hk; omega, fun hm => by have := hxk k hk; have := h10.lt k hm; omega⟩
  have hlo' : lo ≤ w.heap.size := Nat.le_trans hlo f.size
  obtain ⟨i, hi, hz, hs, hby⟩ := info_parts i22
  have hxc : x.oneCell' = true := by obtain ⟨a, cap, rfl⟩ := hxf; rfl
  have hsrc : Src Tryz.prog 1 52 (.slice (some ⟨gb, 0, none⟩) 1 1) 1 [x] w :=
    Src.ofSlice w u25 _ 1 1 [x] rfl (fun j u hu => by rw [add_plain, cell_of_heap hb]; simpa using hu) (fun u hu => by simp at hu; subst hu; exact hxc)
  obtain ⟨v', w', sp', r1, r2, r3, r4, r5⟩ := append_run (ty := ty) u25 hi hz hs hby rfl (by omega) h1 hsrc (by simp [maxLen]; omega) (by omega)
  have hlen : vs.length = ls.length := by have := h1.1; omega
  have hbl : ∀ k ∈ blk v', lo ≤ k := fun k hk => by
    rcases r4 with h | h
    · rw [h] at hk; exact h3 k hk
    · rw [h] at hk; simp at hk; omega
  have hne : ∀ u spu lu, OwnB 5 w u lu spu → (∀ k ∈ blk u, k ∉ blk v) → ∀ k ∈ blk u, k ∉ blk v' := fun u spu lu hu hd k hk => by
    rcases r4 with h | h
    · rw [h]; exact hd k hk
    · rw [h]; have := hu.lt k hk; simp; omega
  refine ⟨v', w', r1, ⟨vs ++ [x], sp', by simpa using r2, fun j hj => ?_, hbl, fun a b u u' hab ha hb => ?_⟩, r3⟩
  · by_cases hjl : j < ls.length
    · obtain ⟨u, spu, g1, g2, g3, g4⟩ := h2 j hjl
      rw [List.getElem_append_left hjl]
      exact ⟨u, spu, by rw [List.getElem?_append_left (by omega)]; exact g1, g2.keep r3 (fun k hk => (g4 k hk).2), g3, fun k hk => ⟨(g4 k hk).1, hne u spu _ g2 (fun k hk => (g4 k hk).2) k hk⟩⟩
    · obtain rfl : j = ls.length := by simp at hj; omega
      refine ⟨x, sp, by rw [List.getElem?_append_right (by omega)]; simp [hlen], ?_, ?_, fun k hk => ⟨(hxl k hk).1, hne x sp l hx (fun k hk => (hxl k hk).2) k hk⟩⟩
      · rw [List.getElem_append_right (by omega)]; simpa using hx.keep r3 (fun k hk => (hxl k hk).2)
      · rw [List.getElem_append_right (by omega)]; simpa using hxf
  · by_cases ha' : a < vs.length
    · rw [List.getElem?_append_left ha'] at ha
      by_cases hb' : b < vs.length
      · rw [List.getElem?_append_left hb'] at hb
        exact h4 a b u u' hab ha hb
      · rw [List.getElem?_append_right (by omega)] at hb
        have : u' = x := by
          rcases Nat.eq_zero_or_pos (b - vs.length) with h | h
          · rw [h] at hb; simpa using hb.symm
          · rw [List.getElem?_eq_none (by simp; omega)] at hb; cases hb
        subst this
        exact key a u ha
    · rw [List.getElem?_append_right (by omega)] at ha
      have hux : u = x := by
        rcases Nat.eq_zero_or_pos (a - vs.length) with h | h
        · rw [h] at ha; simpa using ha.symm
        · rw [List.getElem?_eq_none (by simp; omega)] at ha; cases ha
      have hal : a = vs.length := by
        rcases Nat.eq_zero_or_pos (a - vs.length) with h | h
        · omega
        · rw [List.getElem?_eq_none (by simp; omega)] at ha; cases ha
      subst hux
      by_cases hb' : b < vs.length
      · rw [List.getElem?_append_left hb'] at hb
        intro k hk hm
        exact key b u' hb k hm hk
      · rw [List.getElem?_append_right (by omega)] at hb
        have : b = vs.length := by
          rcases Nat.eq_zero_or_pos (b - vs.length) with h | h
          · omega
          · rw [List.getElem?_eq_none (by simp; omega)] at hb; cases hb
        omega
theorem _root_.Go.Proofs.YtjdejhgfkjeeiaaGreatDoor.Own.cellsB {T : TypeId} {s : Nat} {w : World} {v : Value} {n : Nat} {xs sp : List Value} (h : Own T s w v n xs sp) : ∀ k ∈ blk v, ∃ cs T' fr, w.heap[k]? = some (.cells cs T' fr) := by
  obtain ⟨h1, h2 | ⟨g, cap, h2, h3, h4, h5, h6⟩⟩ := h
  · obtain ⟨rfl, _⟩ := h2; simp [blk]
  · subst h2
    intro k hk
    simp [blk] at hk
    subst hk
    exact ⟨_, _, _, h6⟩
theorem OwnL.keepN {lo : Nat} {w w' : World} {v : Value} {ls : List (List UInt8)} {L : List Nat} (h : OwnL lo w v ls) (f : Frm L w w') (hL : ∀ k ∈ L, ∃ o : Obj, w.heap[k]? = some o ∧ o.isCells = false) : OwnL lo w' v ls := by
  obtain ⟨vs, sp, h1, h2, h3, h4⟩ := h.ex
  have key : ∀ k, (∃ cs T' fr, w.heap[k]? = some (.cells cs T' fr)) → k ∉ L := fun k ⟨cs, T', fr, hk⟩ hm => by
    obtain ⟨o, ho, hc⟩ := hL k hm
    rw [hk] at ho; cases ho; cases hc
  refine ⟨vs, sp, h1.keep f (fun k hk => key k (h1.cellsB k hk)), fun i hi => ?_, h3, h4⟩
  obtain ⟨u, sp', g1, g2, g3, g4⟩ := h2 i hi
  exact ⟨u, sp', g1, g2.keep f (fun k hk => key k (Own.cellsB g2 k hk)), g3, g4⟩
def fills (b : List UInt8) : List (List UInt8) := (List.range (pcs b.length)).map (pieceL (filled b))
def Filled (w : World) (b : List UInt8) (r : Ending) (w' : World) : Prop := ∃ v', r = .returned v' ∧ OwnL w.heap.size w' v' (fills b) ∧ Frm [] w w'
def FillI (w1 : World) (Bp : Nat) (L : List UInt8) (M : Nat) (pre : List (Idx M)) (W : World) : Prop :=
  (∃ v, W.heap[Bp]? = some (.cells #[v] 52 (0, 0)) ∧ OwnL w1.heap.size W v (pre.map fun x => pieceL L x.1)) ∧ Frm [Bp] w1 W
theorem fillI_own (w1 : World) (Bp : Nat) (L : List UInt8) (M : Nat) (hB : Bp < w1.heap.size) : OwnFrom w1.heap.size (FillI w1 Bp L M) := by
  intro pre W W' row ⟨⟨v, h1, h3⟩, h2⟩ hg hr
  have hf : Frm row.toList W W' := Frm.of_grown hg (fun k hk => by simp [hk])
  refine ⟨⟨v, hf.heap h1 (fun hm => ?_), h3.keepN hf (fun k hk => (hr k (by simpa using hk)).2)⟩, h2.trans hf (fun i hi => ?_)⟩
  · have := hr Bp (by simpa using hm)
    omega
  · exact .inr (hr i (by simpa using hi)).1
theorem OwnL.mono {lo lo' : Nat} {w : World} {v : Value} {ls : List (List UInt8)} (h : OwnL lo w v ls) (hlo : lo' ≤ lo) : OwnL lo' w v ls := by
  obtain ⟨vs, sp, h1, h2, h3, h4⟩ := h.ex
  refine ⟨vs, sp, h1, fun i hi => ?_, fun k hk => Nat.le_trans hlo (h3 k hk), h4⟩
  obtain ⟨u, sp', g1, g2, g3, g4⟩ := h2 i hi
  exact ⟨u, sp', g1, g2, g3, fun k hk => ⟨Nat.le_trans hlo (g4 k hk).1, (g4 k hk).2⟩⟩
theorem exec_load_cell {P : Program} {o : Oper} {a : Act} {w : World} (ty : TypeId) (x : Operand) (ho : o.op = .load ty x) (p : Addr) (hx : a.eval x = .pointer (some p)) (v : Value) (hc : w.cell? p = some v)
    (hn : (isAgg ty).run P w = .ok false w) : (execOp a.eval o).run P w = .ok (.value v) w := by
  unfold execOp
  simp only [ho, hx, Instr.loadAt, Instr.sureAddr, Sem.run_bind, Sem.run_pure, Result.andThen_ok]
  simp [loadVar, hn, go_sem, hc]
theorem wpAny_step {P : Program} {md : Region.Mode} {ops : Array Oper} {Q : Exit → Act → World → Prop} {fuel : Nat} {listed : Array Bool} {a : Act} {w : World} (rs : List Nat) (hr : Region.ready md ops listed = rs) (hne : rs ≠ [])
    (h : ∀ i ∈ rs, wpOp P ops Q i (wpAny P md ops Q fuel (listed.setIfInBounds i true)) a w) : wpAny P md ops Q (fuel + 1) listed a w := ⟨fun h0 => absurd (hr ▸ h0) hne, hr ▸ h⟩
theorem wpOp_of {P : Program} {ops : Array Oper} {Q : Exit → Act → World → Prop} {i : Nat} {o : Oper} {K : Act → World → Prop} {a : Act} {w : World} (ho : ops[i]? = some o) (hw : Region.wanted o (yielded ops a.tmps) = true) (h : o.wp P a w K Q) : wpOp P ops Q i K a w := by
  unfold wpOp
  rw [ho]
  simp only [hw, if_true]
  exact .inl h
theorem wp_val {P : Program} {Q : Exit → Act → World → Prop} {o : Oper} {K : Act → World → Prop} {a : Act} {w w' : World} {v : Value} (h : (execOp a.eval o).run P w = .ok (.value v) w') (k : K (a.put o.dst v) w') : o.wp P a w K Q := by
  unfold Oper.wp
  rw [h]
  exact k
theorem exec_append_list {P : Program} {o : Oper} {a : Act} {w w' : World} {v x u : Value} (s y : Operand) (hop : o.op = Op.call { callee := Callee.builtin Builtin.append, args := #[s, y], argTypes := #[52, 52] }) (hs : a.eval s = v) (hy : a.eval y = x)
    (h : (Builtin.append_ #[52, 52] o.type #[v, x]).run P w = .ok u w') : (execOp a.eval o).run P w = .ok (.value u) w' := by
  simp [execOp, hop, resolve, invoke, builtin, hs, hy, h, Result.andThen]
end Go.Proofs.YtjdejhgfkjeeiaaGreatDoor.Hs

namespace Go.Proofs.YtjdejhgfkjeeiaaGreatDoor.Hs
open Go.RowKit
set_option linter.unusedVariables false
set_option linter.unusedSimpArgs false
set_option maxRecDepth 1000000

theorem abc_first : (sha [97, 98, 99]).take 4 = [186, 120, 22, 191] := by kernel_rfl
theorem abc_last : (sha [97, 98, 99]).drop 28 = [242, 0, 21, 173] := by kernel_rfl
theorem fills_nil : fills [] = [pieceL (filled []) 0] := by kernel_rfl
theorem piece_nil : pieceL (filled []) 0 = 128 :: List.replicate 63 0 := by kernel_rfl
theorem OwnL.row {lo : Nat} {w : World} {v : Value} {ls : List (List UInt8)} (h : OwnL lo w v ls) (i : Nat) (hi : i < ls.length) (hne : ls[i] ≠ []) :
    ∃ g cap gu capu spu, v = .slice (some ⟨g, 0, none⟩) ls.length cap ∧ w.cell? ⟨g, i, none⟩ = some (.slice (some ⟨gu, 0, none⟩) ls[i].length capu) ∧ OwnB 5 w (.slice (some ⟨gu, 0, none⟩) ls[i].length capu) ls[i] spu := by
  obtain ⟨vs, sp, h1, h2, h3, h4⟩ := h.ex
  obtain ⟨u, sp', g1, g2, g3, g4⟩ := h2 i hi
  have hlen : vs.length = ls.length := by have := h1.1; omega
  obtain ⟨k1, k2 | ⟨g, cap, rfl, k3, k4, k5, k6⟩⟩ := h1
  · have := k2.2.1; omega
  · obtain ⟨m1, m2 | ⟨gu, capu, rfl, m3, m4, m5, m6⟩⟩ := id g2
    · exact absurd (List.eq_nil_of_length_eq_zero m2.2.1) hne
    · refine ⟨g, cap, gu, capu, sp', rfl, ?_, g2⟩
      rw [cell_of_heap k6, List.getElem?_toArray, List.getElem?_append_left (by omega), g1]
theorem slice29a (b : Nat) (W : World) : (Instr.sliceAt 24 (.pointer (some ⟨b, 0, none⟩)) none (some (.int .i64 4)) none).run Tryz.prog W = .ok (.slice (some ⟨b, 0, none⟩) 4 32) W := by
  have hu : Tryz.prog.underlying 24 = some (.array (Tryz.prog.arrayLen 24) (Tryz.prog.elem 24)) := by kernel_rfl
  have hl : Tryz.prog.arrayLen 24 = 32 := by kernel_rfl
  have he : Tryz.prog.elem 24 = 5 := by kernel_rfl
  have hs : (sizeOf 5).run Tryz.prog W = .ok 1 W := by kernel_rfl
  rw [run_sliceAt_array_h (P := Tryz.prog) W 24 _ hu .i64 4 (by decide) (by rw [hl]; decide), he, hs, hl]
  rfl
theorem slice29b (b : Nat) (W : World) : (Instr.sliceAt 24 (.pointer (some ⟨b, 0, none⟩)) (some (.int .i64 28)) none none).run Tryz.prog W = .ok (.slice (some ⟨b, 28, none⟩) 4 4) W := by
  have hu : Tryz.prog.underlying 24 = some (.array (Tryz.prog.arrayLen 24) (Tryz.prog.elem 24)) := by kernel_rfl
  have hl : Tryz.prog.arrayLen 24 = 32 := by kernel_rfl
  have he : Tryz.prog.elem 24 = 5 := by kernel_rfl
  have hs : (sizeOf 5).run Tryz.prog W = .ok 1 W := by kernel_rfl
  rw [run_sliceAt_array_l (P := Tryz.prog) W 24 _ hu .i64 28 (by decide) (by rw [hl]; decide), he, hs, hl]
  rfl
theorem slb_part {w : World} {b : Nat} {p : List UInt8} {T : TypeId} {fr : Nat × Nat} (h : w.heap[b]? = some (.cells (bvs p).toArray T fr)) (off n cap : Nat) (hn : off + n ≤ p.length) (hc : n ≤ cap) (hc2 : off + cap ≤ p.length) (hm : p.length ≤ maxLen) :
    SlB w (.slice (some ⟨b, off, none⟩) n cap) ((p.drop off).take n) ((p.drop (off + n)).take (cap - n)) := by
  have hl : ((p.drop off).take n).length = n := by simp; omega
  have hsp : (p.drop off).take n ++ (p.drop (off + n)).take (cap - n) = (p.drop off).take cap := by
    rw [← List.drop_drop, ← List.take_add, show n + (cap - n) = cap by omega]
  refine ⟨by simp [bvs_length], .inr (.inr ⟨b, off, cap, by rw [hl], by rw [hl]; omega, by omega, ?_, fun i u hu => ?_⟩)⟩
  · rw [← bvs_append, hsp, bvs_length]; simp; omega
  · rw [← bvs_append, hsp, bvs_get] at hu
    rw [cell_of_heap h, List.getElem?_toArray, bvs_get]
    have hi : i < cap := by
      rcases Nat.lt_or_ge i cap with h | h
      · exact h
      · rw [List.getElem?_eq_none (by simp; omega)] at hu; cases hu
    rw [List.getElem?_take_of_lt hi, List.getElem?_drop] at hu
    exact hu
def YesF (w : World) (r : Ending) (w' : World) : Prop := r = .returned (.bool true) ∧ Frm [] w w'
/-- Bytes that the call has just laid. -/
theorem slb_new (w : World) (l : List UInt8) (n : Nat) (cs : Array Value) (fr : Nat × Nat) (hcs : cs = (bvs l).toArray) (hn : l.length = n) (hl : l.length ≤ maxLen) : SlB (w.alloc (.cells cs 5 fr)) (.slice (some ⟨w.heap.size, 0, none⟩) n n) l [] := by
  subst hn hcs
  have := slb_part (heap_alloc_new w (.cells (bvs l).toArray 5 fr)) 0 l.length l.length (by omega) (Nat.le_refl _) (by omega) hl
  simpa using this
end Go.Proofs.YtjdejhgfkjeeiaaGreatDoor.Hs

namespace Go.Proofs.YtjdejhgfkjeeiaaGreatDoor.Hs
open Go.RowKit
set_option linter.unusedVariables false
set_option linter.unusedSimpArgs false
def Z32 : Array Value := (bvs (List.replicate 32 0)).toArray
theorem Z32_size : Z32.size = 32 := by kernel_rfl
theorem Z32_one : Z32.all (·.oneCell') = true := by kernel_rfl
theorem build29 (W : World) : (Instr.build 24 #[]).run Tryz.prog W = .ok (.agg Z32) W := by
  have := run_build (P := Tryz.prog) W 24 #[] Z32 (by kernel_rfl)
  exact this
theorem zero29 (W : World) : (zeroValue 24).run Tryz.prog W = .ok (.agg Z32) W := by
  have := Tryz.zeroValue24 W
  rw [this]
  rfl
theorem results_cells2 {P : Program} {fn : Func} {p q : Tmp} {t1 t2 : TypeId} (h : fn.results = #[.cell p t1, .cell q t2]) (tmps : Array Value) (w : World) (g1 g2 : Nat) (T1 T2 : TypeId) (cs1 cs2 : Array Value) (fr1 fr2 : Nat × Nat) (d1 d2 : TypeDesc)
    (hp : tmps.getD p undef = .pointer (some ⟨g1, 0, none⟩)) (hq : tmps.getD q undef = .pointer (some ⟨g2, 0, none⟩)) (hg1 : w.heap[g1]? = some (.cells cs1 T1 fr1)) (hg2 : w.heap[g2]? = some (.cells cs2 T2 fr2))
    (hu1 : P.underlying t1 = some d1) (hd1 : (match d1 with | .struct _ | .array _ _ => true | _ => false) = true) (hi1 : (P.info? t1).map (·.size) = some cs1.size)
    (hu2 : P.underlying t2 = some d2) (hd2 : (match d2 with | .struct _ | .array _ _ => true | _ => false) = true) (hi2 : (P.info? t2).map (·.size) = some cs2.size) :
    (results fn tmps).run P w = .ok (.tuple #[.agg cs1, .agg cs2]) w := by
  have hp' : tmps[p]?.getD undef = .pointer (some ⟨g1, 0, none⟩) := by simpa using hp
  have hq' : tmps[q]?.getD undef = .pointer (some ⟨g2, 0, none⟩) := by simpa using hq
  simp [results, h, hp', hq', asAddr, run_loadVar_row w g1 T1 t1 cs1 fr1 d1 hg1 hu1 hd1 hi1, run_loadVar_row w g2 T2 t2 cs2 fr2 d2 hg2 hu2 hd2 hi2]
end Go.Proofs.YtjdejhgfkjeeiaaGreatDoor.Hs

namespace Go.Proofs.YtjdejhgfkjeeiaaGreatDoor.Hs
open Go.RowKit
set_option linter.unusedVariables false
set_option maxRecDepth 100000
set_option linter.unusedSimpArgs false

theorem run_loadBytes {P : Program} (w : World) (b : Nat) : ∀ (l : List UInt8) (off : Nat) (acc : ByteArray), (∀ i (h : i < l.length), w.cell? ⟨b, off + i, none⟩ = some (bv l[i])) →
    (Extern.Bytes.loadBytes ⟨b, off, none⟩ l.length acc).run P w = .ok ⟨acc.data ++ l.toArray⟩ w := by
  intro l
  induction l with
  | nil => intro off acc _; simp [Extern.Bytes.loadBytes]
  | cons x r ih =>
    intro off acc h
    have h0 := h 0 (by simp)
    simp only [Nat.add_zero, List.getElem_cons_zero, bv] at h0
    have h1 := ih (off + 1) (acc.push x) (fun i hi => by have := h (i + 1) (by simp; omega); rw [show off + 1 + i = off + (i + 1) by omega]; simpa using this)
    simp only [List.length_cons, Extern.Bytes.loadBytes]
    have hx : ((x.toNat : Int)).toNat.toUInt8 = x := by simp
    simp [go_sem, h0, add_plain, Result.andThen]
    rw [h1]
    simp [ByteArray.push]
theorem run_bytesOf {P : Program} {w : World} {v : Value} {l sp : List UInt8} (h : SlB w v l sp) : (Extern.Bytes.bytesOf v).run P w = .ok ⟨l.toArray⟩ w := by
  obtain ⟨a, cap, rfl, _, _⟩ := h.form
  have h' := h
  obtain ⟨h1, h2 | ⟨a', h2, h3, h4⟩ | ⟨b, off, cap', h2, h3, h4, h5, h6⟩⟩ := h'
  · obtain rfl : l = [] := List.eq_nil_of_length_eq_zero h2.2.1
    cases h2.1
    rfl
  · obtain rfl : l = [] := List.eq_nil_of_length_eq_zero h3
    cases h2
    rfl
  · cases h2
    have := run_loadBytes (P := P) w b l off .empty (fun i hi => by
      have := h6 i (bv l[i]) (by rw [List.getElem?_append_left (by simpa [bvs_length] using hi), bvs_get, List.getElem?_eq_getElem hi]; rfl)
      exact this)
    simp only [Extern.Bytes.bytesOf]
    rw [this]
    simp
theorem compareBytes_self (l : List UInt8) : Lib.compareBytes l l = 0 := by
  induction l with
  | nil => rfl
  | cons x r ih => simp [Lib.compareBytes, ih]
theorem slice29c (b : Nat) (W : World) : (Instr.sliceAt 24 (.pointer (some ⟨b, 0, none⟩)) none none none).run Tryz.prog W = .ok (.slice (some ⟨b, 0, none⟩) 32 32) W := by
  have hu : Tryz.prog.underlying 24 = some (.array (Tryz.prog.arrayLen 24) (Tryz.prog.elem 24)) := by kernel_rfl
  have hl : Tryz.prog.arrayLen 24 = 32 := by kernel_rfl
  have he : Tryz.prog.elem 24 = 5 := by kernel_rfl
  have hs : (sizeOf 5).run Tryz.prog W = .ok 1 W := by kernel_rfl
  rw [run_sliceAt_array_all (P := Tryz.prog) W 24 _ hu, he, hs, hl]
  rfl
end Go.Proofs.YtjdejhgfkjeeiaaGreatDoor.Hs

namespace Go.Proofs.YtjdejhgfkjeeiaaGreatDoor.Hs
open Go.RowKit
set_option linter.unusedVariables false
set_option maxRecDepth 100000
set_option linter.unusedSimpArgs false

theorem eqItems_ints {P : Program} {e : TypeId} {k : IntKind} (hs : ∀ W, (sizeOf e).run P W = .ok 1 W) (ha : ∀ W, (isAgg e).run P W = .ok false W) (hu : P.underlying e = some (.int k)) (d : Nat) (l m : List Int) (hlm : l.length = m.length) (W : World) :
    ∀ c s, s + c = l.length → (Op.eqItems (d + 1) e 1 (l.map (Value.int k)).toArray (m.map (Value.int k)).toArray (List.range' s c)).run P W = .ok (l.drop s == m.drop s) W
  | 0, s, h => by
    rw [List.drop_eq_nil_of_le (by omega), List.drop_eq_nil_of_le (by omega)]
    simp [Op.eqItems]
  | c + 1, s, h => by
    have h1 : s < l.length := by omega
    have h2 : s < m.length := by omega
    have ih := eqItems_ints hs ha hu d l m hlm W c (s + 1) (by omega)
    rw [List.drop_eq_getElem_cons h1, List.drop_eq_getElem_cons h2]
    have x1 : (l.map (Value.int k))[s]? = some (.int k l[s]) := by simp [List.getElem?_map, List.getElem?_eq_getElem h1]
    have x2 : (m.map (Value.int k))[s]? = some (.int k m[s]) := by simp [List.getElem?_map, List.getElem?_eq_getElem h2]
    have p1 : (part e (l.map (Value.int k)).toArray (s * 1)).run P W = .ok (.int k l[s]) W := by
      simp [part, hs, ha, x1, go_sem]
    have p2 : (part e (m.map (Value.int k)).toArray (s * 1)).run P W = .ok (.int k m[s]) W := by
      simp [part, hs, ha, x2, go_sem]
    have p3 : (Op.equalIn (d + 1) e (.int k l[s]) (.int k m[s])).run P W = .ok (l[s] == m[s]) W := by
      simp [Op.equalIn, run_underlying hu]
    rw [List.range'_succ]
    simp only [Op.eqItems, Sem.run_bind, p1, p2, p3, Result.andThen_ok]
    generalize l[s] = a at *
    generalize m[s] = b at *
    generalize List.drop (s + 1) l = L1 at *
    generalize List.drop (s + 1) m = M1 at *
    clear p1 p2 p3 x1 x2
    by_cases h : a = b
    · rw [h]
      simp only [beq_self_eq_true, Bool.not_true, Bool.false_eq_true, if_false, ih]
      simp
    · have hf : (a == b) = false := by simpa using h
      rw [hf]
      simp [List.cons_beq_cons, hf]
theorem eql_ints {P : Program} {t e : TypeId} {n : Nat} {k : IntKind} {i : TypeInfo} (ht : P.underlying t = some (.array n e)) (hi : P.info? e = some i) (hc : P.cellsOf e = 1) (hs : ∀ W, (sizeOf e).run P W = .ok 1 W) (ha : ∀ W, (isAgg e).run P W = .ok false W) (hu : P.underlying e = some (.int k))
    (l m : List Int) (hl : l.length = n) (hm : m.length = n) (W : World) : (binOp .eql t (.agg (l.map (Value.int k)).toArray) (.agg (m.map (Value.int k)).toArray)).run P W = .ok (.bool (l == m)) W := by
  rw [run_eql_struct, run_equalIn_array W 9999 _ _ ht hi, hc, List.range_eq_range', eqItems_ints hs ha hu 9998 l m (by omega) W n 0 (by omega)]
  simp [Result.andThen]
theorem bvs_ints (l : List UInt8) : bvs l = (l.map fun b => (b.toNat : Int)).map (Value.int .u8) := by simp [bvs, bv]
theorem beq_inj {α β : Type} [BEq α] [LawfulBEq α] [BEq β] [LawfulBEq β] (f : α → β) (hf : ∀ a b, f a = f b → a = b) (l m : List α) : (l.map f == m.map f) = (l == m) := by
  rw [Bool.eq_iff_iff, beq_iff_eq, beq_iff_eq]
  exact ⟨fun h => List.map_inj_right (fun a b h => hf a b h) |>.1 h, fun h => by rw [h]⟩
theorem eql29 (l m : List UInt8) (hl : l.length = 32) (hm : m.length = 32) (W : World) : (binOp .eql 24 (.agg (bvs l).toArray) (.agg (bvs m).toArray)).run Tryz.prog W = .ok (.bool (l == m)) W := by
  obtain ⟨i, hi, _⟩ := info_parts BT.info
  rw [bvs_ints, bvs_ints, eql_ints (k := .u8) d29 hi (by kernel_rfl) (fun W => by kernel_rfl) (fun W => by kernel_rfl) Tryz.underlying5 _ _ (by simpa using hl) (by simpa using hm) W, beq_inj (fun b : UInt8 => (b.toNat : Int)) (fun a b h => UInt8.toNat_inj.1 (by omega))]
theorem W32_ints (l : List UInt32) : W32 l = (l.map wi).map (Value.int .u32) := by simp [W32]
theorem d36 : Tryz.prog.underlying 105 = some (.array 8 104) := by kernel_rfl
theorem info35 : ∃ i, Tryz.prog.info? 104 = some i := by
  have : (Tryz.prog.info? 104).isSome = true := by kernel_rfl
  exact Option.isSome_iff_exists.1 this
theorem eql36 (l m : List UInt32) (hl : l.length = 8) (hm : m.length = 8) (W : World) : (binOp .eql 105 (.agg (W32 l).toArray) (.agg (W32 m).toArray)).run Tryz.prog W = .ok (.bool (l == m)) W := by
  obtain ⟨i, hi⟩ := info35
  rw [W32_ints, W32_ints, eql_ints (k := .u32) d36 hi (by kernel_rfl) (fun W => by kernel_rfl) (fun W => by kernel_rfl) Tryz.underlying104 _ _ (by simpa using hl) (by simpa using hm) W, beq_inj wi (fun a b h => UInt32.toNat_inj.1 (by unfold wi at h; omega))]
theorem guard_agg (op : BinOp) (t : TypeId) (x y : Operand) (xs ys : Array Value) (ht : Tryz.prog.eqGuardType Tryz.prog.depth t = false) (W : World) : (eqGuard op t x y (.agg xs) (.agg ys)).run Tryz.prog W = .ok () W := by
  unfold eqGuard
  cases op <;> simp [go_sem, ht]
end Go.Proofs.YtjdejhgfkjeeiaaGreatDoor.Hs
