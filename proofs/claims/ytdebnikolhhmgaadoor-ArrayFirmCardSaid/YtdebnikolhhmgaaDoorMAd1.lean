/-
  Laws on slices of bytes: read, owned, appended to, made, turned into a string; and the walk's step for an operation whose run is known. No conditions but those that each law names. New refused; Pull, Fit. No conditions but those that each theorem names. What is kept by the other calls; as a law calls them. No conditions but those that each theorem names. A list of acts, a list of bools as they are handed in. No conditions but those that each theorem names. Behind a crash that keeps some. Plain. No conditions but those that each theorem names. laid. No conditions but those that each theorem names. ArrayKnown: the walk. No conditions but those that each theorem names. ArrayFirm: the walk. No conditions but those that each theorem names.
-/
import Derived.Test.YtdebnikolhhmgaaDoorMAa1
import Derived.Test.YtdebnikolhhmgaaDoorMAa2
import Derived.Test.YtdebnikolhhmgaaDoorMAa3
import Derived.Test.YtdebnikolhhmgaaDoorMAa4
import Derived.Test.YtdebnikolhhmgaaDoorMAb1
import Derived.Test.YtdebnikolhhmgaaDoorMAc1
import Derived.Laws.BytesString
import Derived.OrdersHeld
import Derived.Deep.RegionLaw
import Derived.WalkKit
import Derived.WalkSpells
import Derived.WalkLawsBesides
import Derived.Deep.AppendSrc
import Derived.Laws.CopyOwn
import Derived.Laws.BytesArg
import Derived.Carry
import Derived.Lib.Hide
import Derived.Test.YtdebnikolhhmgaaDoorChecked
import Derived.Stop.Asserts
import Derived.LaidEql
import Derived.RowKitTokens
import Derived.WalkHide
import Derived.StillTailTactics
import Derived.OpenShut
import Derived.BigQuiet
import Derived.Deep.QuietTactic
import Derived.Deep.MidRow
import Derived.Deep.RegionHeld3
import Derived.Deep.RegionWith
import Derived.LaidEqlPtr
import Derived.Deep.CutBlock
import Derived.Deep.DeepCutAuto
import Derived.Deep.Slices
import Derived.Shelf.Abstract
import Derived.Laws.Tables
import Derived.Deep.RegionHeld
import Derived.OwnWalk
import Derived.Test.YtdebnikolhhmgaaDoorTie
import Derived.Test.YtdebnikolhhmgaaDoorCards
import Derived.ProofKit
import Derived.ShutString
import Derived.ChangeOld
import Derived.LaidMore
import Derived.Stop.Joined
import Derived.SevenTiedAt
import Derived.Stop.LaidTwo
import Derived.ChangeSame
namespace Go.Proofs.YtdebnikolhhmgaaDoor
open Go.RowKit
set_option linter.unusedVariables false
set_option maxRecDepth 100000
set_option linter.unusedSimpArgs false

section
variable {P : Program} {tS T : TypeId} {w : World} {v x : Value} {l sp m msp : List UInt8}
end
theorem step_append_bytes {P : Program} {tS T : TypeId} (B : ByteTys P tS T) {w : World} {ops : Array Oper} {o : Oper} {a : Act} {K : Act → World → Prop} {Q : Exit → Act → World → Prop} {E : Prop}
    {v y : Value} {l sp m msp : List UInt8} (hO : OwnB T w v l sp) (hS : SlB w y m msp) (hb : l.length + m.length ≤ 140737488355328)
    (hg : o.guard = none) (s x : Operand) (hop : o.op = Op.call { callee := Callee.builtin Builtin.append, args := #[s, x], argTypes := #[tS, tS] }) (hs : a.eval s = v) (hx : a.eval x = y)
    (k : ∀ a' cap' w' sp', OwnB T w' (.slice a' (l.length + m.length) cap') (l ++ m) sp' → Frm (blk v) w w' → (∀ i ∈ blk (.slice a' (l.length + m.length) cap'), i ∈ blk v ∨ w.heap.size ≤ i) →
      K (a.put o.dst (.slice a' (l.length + m.length) cap')) w') :
    if Region.wanted o (yielded ops a.tmps) = true then Oper.wp P o a w K Q else E := by
  obtain ⟨v', w', sp', h1, h2, h3, h4⟩ := append_bytes (x := y) B o.type hO hS hb
  obtain ⟨a', cap', rfl, _, _⟩ := h2.sl.form
  rw [List.length_append] at h1 h2 h4
  refine step_val (w' := w') hg ?_ (k a' cap' w' sp' h2 h3 ?_)
  · simp [execOp, hop, resolve, invoke, builtin, hs, hx, h1, Result.andThen]
  · intro i hi
    rcases h4 with h4 | h4
    · exact .inl (h4 ▸ hi)
    · rw [h4] at hi; simp at hi; exact .inr (by omega)
end Go.Proofs.YtdebnikolhhmgaaDoor

namespace Go.Proofs.YtdebnikolhhmgaaDoor
open Go.RowKit
set_option linter.unusedVariables false
set_option linter.unusedSimpArgs false
set_option maxRecDepth 100000

open Kr (OwnE SlE Enco RowTys)
section
variable {lo : Nat} {w : World} {sn : Nat → Addr} {g : Nat} {s : St}
theorem New_no (d n : Int) (hs : Sn w lo sn) (hd : ¬ (2 ≤ d ∧ d ≤ 8)) :
    Calls Tryd.prog 31 #[.int .i64 d, .int .i64 n] w fun e w' => e = .returned (.tuple #[.pointer none, .int .i64 (code 0)]) ∧ Frm [] w w' := by
  have cg := hs.v 0 (by omega)
  have hu := unless_false txA (sn 0) w
  unfold txA at hu
  have hwi : ∀ W, Calls Tryd.prog 53 #[.int .i64 d, .int .i64 2, .int .i64 8] W fun e w' => e = .returned (.bool false) ∧ w' = W := fun W => (within_any d 2 8 W).mono (by
    rintro e w' ⟨rfl, rfl⟩
    exact ⟨by rw [decide_eq_false hd], rfl⟩)
  have HWI := Lib.hid hwi
  have NU := Lib.hid (number_any hs txA 0 (by omega))
  unfold rfu txA at NU
  clear hwi hd hs
  go_enter Tryd.func31, Tryd.ntmps31
  go_wp2_with (first
    | (go_at_call 53; refine (HWI.out _).mono ?_; rintro e w1 ⟨rfl, hw1⟩; obtain rfl := hw1.symm; clear HWI)
    | (go_at_call 60; refine hu.mono ?_; rintro e w1 ⟨rfl, hw1⟩; obtain rfl := hw1.symm)
    | (go_at_call 42; refine NU.out.mono ?_; rintro e w2 ⟨rfl, f2⟩; have F2 := Lib.hid f2; clear f2))
  go_ret2
  exact ⟨rfl, F2.out⟩
end
end Go.Proofs.YtdebnikolhhmgaaDoor

namespace Go.Proofs.YtdebnikolhhmgaaDoor
open Go.RowKit
set_option linter.unusedVariables false
set_option linter.unusedSimpArgs false
set_option maxRecDepth 100000

open Kr (OwnE SlE Enco RowTys)
section
variable {lo : Nat} {w : World} {sn : Nat → Addr} {g K : Nat} {s : St}
theorem rdE_at (hs : Sn w lo sn) (h : Arr lo w g s) (wf : Wf K s) (hK : K ≤ 100000000) (d a : Int) (k : Nat) (hk : (rdR s d a).1 = some k) :
    Calls Tryd.prog 11 #[.pointer (some ⟨g, 0, none⟩), .int .i64 d, .int .i64 a] w fun e w' => e = .returned (.tuple #[.slice none 0 0, .int .i64 (code k)]) ∧ Arr lo w' g (rdR s d a).2 ∧ Fa lo w w' := by
  have R : Calls Tryd.prog 11 #[.pointer (some ⟨g, 0, none⟩), .int .i64 d, .int .i64 a] w (RdP lo g (rdR s d a) (tellAt s d a) w) := Read_any d a hs h (wf.wfs hK) wf.fd
  refine R.mono ?_
  rintro e w' ⟨⟨hn, _⟩ | ⟨k', hk', rfl⟩, a1, f1⟩
  · rw [hn] at hk; cases hk
  · rw [hk] at hk'
    cases hk'
    exact ⟨rfl, a1, f1⟩
end
end Go.Proofs.YtdebnikolhhmgaaDoor

namespace Go.Proofs.YtdebnikolhhmgaaDoor
open Go.ChangeShapes Go.WideShapes Go.ChangeAt Go.RowKit Go.Deep
set_option linter.unusedVariables false
set_option linter.unusedSimpArgs false
set_option maxRecDepth 100000
open Kr (OwnE SlE Enco RowTys)
open Kr (flt_length flt_append flt_get)
theorem open_bools {H : Type} {enc : TypeId × Value → H} {W : World} {r : Reach} {b0 : Nat} {v : Value} {d : DataW H} {p : List MemPlace} (hv : Value.okWide Tryd.prog W r b0 23 v) (h : DataW.Trod enc Tryd.prog W 0 (fun _ => true) true 23 v d p) :
    ∃ l sp, SlE eB 1 W v l sp := by
  obtain ⟨a, n, c, rfl⟩ := okWide_slice Tryd.underlying23 hv
  obtain ⟨fuel, hf⟩ := h
  obtain ⟨a', cap, l, sp, e, hS, hw⟩ := sle_of_trod encB false Tryd.underlying23 cells4 bool_of_trod hf
  have e' : Value.slice a n c = Value.slice a' l.length cap := by simpa [Value.cells] using e
  rw [e']
  exact ⟨l, sp, hS⟩
end Go.Proofs.YtdebnikolhhmgaaDoor

namespace Go.Proofs.YtdebnikolhhmgaaDoor
open Go.RowKit
set_option linter.unusedVariables false
set_option linter.unusedSimpArgs false
set_option maxRecDepth 100000

open Kr (OwnE SlE Enco RowTys)
theorem cntB_le {p : Nat → Bool} : ∀ k, cntB p k ≤ k
  | 0 => Nat.le_refl _
  | k + 1 => by
    have := cntB_le (p := p) k
    unfold cntB
    split <;> omega
end Go.Proofs.YtdebnikolhhmgaaDoor

namespace Go.Proofs.YtdebnikolhhmgaaDoor
open Go.RowKit
set_option linter.unusedVariables false
set_option linter.unusedSimpArgs false
set_option maxRecDepth 100000

open Kr (OwnE SlE Enco RowTys)
def laidP (d a : Nat) (b : UInt8) (y : LayT) : Bool := decide (pkN y.1 2 = d) && (decide (pkN y.2.1 8 = a) && decide (y.2.2.1 = (b.toNat : Int)))
def laidK (l : List LayT) (f : UInt8) (d a : Nat) (b : UInt8) (k : Nat) : Bool := decide ((b.toNat : Int) = (f.toNat : Int)) || (l.take k).any (laidP d a b)
theorem laidK_succ {l : List LayT} {f : UInt8} {d a : Nat} {b : UInt8} {k : Nat} (h : k < l.length) : laidK l f d a b (k + 1) = (laidK l f d a b k || laidP d a b l[k]) := by
  unfold laidK
  rw [List.take_succ_eq_append_getElem h, List.any_append, List.any_cons, List.any_nil, Bool.or_false, Bool.or_assoc]
theorem laidK_yes {l : List LayT} {f : UInt8} {d a : Nat} {b : UInt8} (h : b = f ∨ AL l d a b) : laidK l f d a b l.length = true := by
  unfold laidK
  rw [List.take_length, Bool.or_eq_true, decide_eq_true_eq]
  rcases h with rfl | ⟨j, hj, h1, h2, h3⟩
  · exact .inl rfl
  · refine .inr (List.any_eq_true.2 ⟨l[j], List.getElem_mem hj, ?_⟩)
    unfold laidP
    rw [decide_eq_true h1, decide_eq_true h2, decide_eq_true h3]
    rfl
def LaRel (l : List LayT) (f : UInt8) (d a : Nat) (b : UInt8) (w0 : World) (av cv : Value) (wr : World) : Prop := ∃ k : Nat, k ≤ l.length ∧ cv = .int .i64 k ∧ av = .bool (laidK l f d a b k) ∧ wr = w0
set_option maxHeartbeats 8000000 in
theorem laid_any (l : List LayT) (v : Value) (sp : List Value) (w : World) (hS : SlE eL 4 w v l sp) (hl : l.length ≤ 60) (f b : UInt8) (d a : Nat) (x1 x4 : Int) (h1 : x1 = (f.toNat : Int)) (h4 : x4 = (b.toNat : Int)) :
    Calls Tryd.prog 35 #[v, .int .u8 x1, .int .i64 (d : Int), .int .i64 (a : Int), .int .u8 x4] w fun e w' => e = .returned (.bool (laidK l f d a b l.length)) ∧ w' = w := by
  obtain ⟨ad, vcap, rfl, _, _⟩ := hS.form
  have HSL := Lib.hid hS
  have H1 := Lib.hid h1
  have H4 := Lib.hid h4
  have hl' : (l.length : Int) ≤ 60 := by omega
  clear hS h1 h4
  go_enter Tryd.func35, Tryd.ntmps35
  go_upto_region 3 with (fail)
  go_loopw [11, 12] (LaRel l f d a b w) (fun _ c _ => l.length - (intOf c).toNat)
  case atStart => exact ⟨0, by omega, rfl, by unfold laidK; rw [H1.out, H4.out, List.take_zero, List.any_nil, Bool.or_false]; rfl, rfl⟩
  case round =>
    obtain ⟨k, hk, rfl, rfl, rfl⟩ := hrel
    by_cases hlt : k < l.length
    · obtain ⟨bb, off, rfl⟩ := HSL.out.at (by omega)
      have c0 := HSL.out.cell encL k hlt 0 (u := .int .i64 l[k].1) rfl
      have c1 := HSL.out.cell encL k hlt 1 (u := .int .i64 l[k].2.1) rfl
      have c2 := HSL.out.cell encL k hlt 2 (u := .int .u8 l[k].2.2.1) rfl
      obtain ⟨x, Hx⟩ : ∃ x, l[k] = x := ⟨_, rfl⟩
      rw [Hx] at c0 c1 c2
      obtain ⟨xd, xa, xb, xf⟩ := x
      simp only at c0 c1 c2
      rw [Nat.add_zero] at c0
      rw [← Nat.add_assoc] at c1 c2
      have hp1 := Pick_pk xd 2 (by omega) (by omega) wr
      have hp2 := Pick_pk xa 8 (by omega) (by omega) wr
      have HS := Lib.hid (laidK_succ (f := f) (d := d) (a := a) (b := b) hlt)
      have HX := Lib.hid Hx
      obtain ⟨y, Hy⟩ : ∃ y, laidK l f d a b k = y := ⟨_, rfl⟩
      have HY := Lib.hid Hy
      rw [Hy]
      have HP1 := Lib.hid hp1
      have HP2 := Lib.hid hp2
      clear Hx Hy hp1 hp2
      cases y
      · by_cases q1 : pkN xd 2 = d
        · by_cases q2 : pkN xa 8 = a
          · by_cases q3 : xb = x4
            · have q1' : (pkN xd 2 : Int) = (d : Int) := by omega
              have q2' : (pkN xa 8 : Int) = (a : Int) := by omega
              go_wp2_with (first
                | (go_at_call 34; refine HP1.out.mono ?_; rintro e w1 ⟨rfl, hw1⟩; obtain rfl := hw1.symm; clear HP1)
                | (go_at_call 34; refine HP2.out.mono ?_; rintro e w1 ⟨rfl, hw1⟩; obtain rfl := hw1.symm; clear HP2))
              go_roundw
              case rel =>
                refine ⟨k + 1, by omega, by go_num, ?_, rfl⟩
                rw [HS.out, HY.out, HX.out]
                unfold laidP
                simp [*, H4.out]
                try rfl
              case measure => simp [intOf]; omega
            · have q1' : (pkN xd 2 : Int) = (d : Int) := by omega
              have q2' : (pkN xa 8 : Int) = (a : Int) := by omega
              go_wp2_with (first
                | (go_at_call 34; refine HP1.out.mono ?_; rintro e w1 ⟨rfl, hw1⟩; obtain rfl := hw1.symm; clear HP1)
                | (go_at_call 34; refine HP2.out.mono ?_; rintro e w1 ⟨rfl, hw1⟩; obtain rfl := hw1.symm; clear HP2))
              go_roundw
              case rel =>
                refine ⟨k + 1, by omega, by go_num, ?_, rfl⟩
                rw [HS.out, HY.out, HX.out]
                unfold laidP
                simp [*, H4.out]
                try rfl
              case measure => simp [intOf]; omega
          · have q1' : (pkN xd 2 : Int) = (d : Int) := by omega
            have q2' : ¬ (pkN xa 8 : Int) = (a : Int) := by omega
            go_wp2_with (first
              | (go_at_call 34; refine HP1.out.mono ?_; rintro e w1 ⟨rfl, hw1⟩; obtain rfl := hw1.symm; clear HP1)
              | (go_at_call 34; refine HP2.out.mono ?_; rintro e w1 ⟨rfl, hw1⟩; obtain rfl := hw1.symm; clear HP2))
            go_roundw
            case rel =>
              refine ⟨k + 1, by omega, by go_num, ?_, rfl⟩
              rw [HS.out, HY.out, HX.out]
              unfold laidP
              simp [*, H4.out]
              try rfl
            case measure => simp [intOf]; omega
        · have q1' : ¬ (pkN xd 2 : Int) = (d : Int) := by omega
          go_wp2_with (first
            | (go_at_call 34; refine HP1.out.mono ?_; rintro e w1 ⟨rfl, hw1⟩; obtain rfl := hw1.symm; clear HP1)
            | (go_at_call 34; refine HP2.out.mono ?_; rintro e w1 ⟨rfl, hw1⟩; obtain rfl := hw1.symm; clear HP2))
          go_roundw
          case rel =>
            refine ⟨k + 1, by omega, by go_num, ?_, rfl⟩
            rw [HS.out, HY.out, HX.out]
            unfold laidP
            simp [*, H4.out]
            try rfl
          case measure => simp [intOf]; omega
      · go_wp2_with (first
          | (go_at_call 34; refine HP1.out.mono ?_; rintro e w1 ⟨rfl, hw1⟩; obtain rfl := hw1.symm; clear HP1)
          | (go_at_call 34; refine HP2.out.mono ?_; rintro e w1 ⟨rfl, hw1⟩; obtain rfl := hw1.symm; clear HP2))
        go_roundw
        case rel =>
          refine ⟨k + 1, by omega, by go_num, ?_, rfl⟩
          rw [HS.out, HY.out, HX.out]
          unfold laidP
          simp [*, H4.out]
          try rfl
        case measure => simp [intOf]; omega
    · obtain rfl : k = l.length := by omega
      go_wp2_with fail
      go_ret
      exact ⟨rfl, rfl⟩
end Go.Proofs.YtdebnikolhhmgaaDoor

namespace Go.Proofs.YtdebnikolhhmgaaDoor
open Go.RowKit
set_option linter.unusedVariables false
set_option linter.unusedSimpArgs false
set_option maxRecDepth 100000

open Kr (OwnE SlE Enco RowTys)
theorem of_x (b : UInt8) (x : Int) (hx : x = (b.toNat : Int)) (w : World) : Calls Tryd.prog 29 #[.int .u8 x] w (OfP b w) := by
  subst hx
  exact of_any b w
def tornL : List UInt8 := List.replicate 3 1 ++ List.replicate 253 0
theorem slB_tail {w : World} {g : Nat} {b : UInt8} (h : OwnB 5 w (.slice (some ⟨g, 0, none⟩) 256 256) (ofL b) []) : SlB w (.slice (some ⟨g, 3, none⟩) 253 253) (List.replicate 253 b) [] := by
  have hh := h.heap
  refine ⟨by rw [bvs_length, List.length_replicate], .inr (.inr ⟨g, 3, 253, by rw [List.length_replicate], by rw [List.length_replicate]; omega, by simp only [maxLen]; omega, by rw [show bvs [] = [] from rfl, List.append_nil, bvs_length, List.length_replicate], fun i u hu => ?_⟩)⟩
  rw [show bvs [] = [] from rfl, List.append_nil, bvs_get] at hu
  rw [cell_of_heap hh, List.getElem?_toArray, bvs_get, List.append_nil, ofL]
  have hi : i < 253 := by
    by_cases hi : i < 253
    · exact hi
    · rw [List.getElem?_eq_none (by rw [List.length_replicate]; omega)] at hu; cases hu
  rw [List.getElem?_replicate, if_pos hi] at hu
  rw [List.getElem?_replicate, if_pos (by omega)]
  exact hu
theorem own_head {w : World} {g : Nat} {b : UInt8} (h : OwnB 5 w (.slice (some ⟨g, 0, none⟩) 256 256) (ofL b) []) : OwnB 5 w (.slice (some ⟨g, 0, none⟩) 3 256) (List.replicate 3 b) (List.replicate 253 b) := by
  have hh := h.heap
  have e : ofL b ++ [] = List.replicate 3 b ++ List.replicate 253 b := by rw [List.append_nil, List.replicate_append_replicate]; rfl
  rw [e] at hh
  exact OwnB.of_heap hh (by simp) (by simp) (by simp only [maxLen]; omega)
def kn0 : St := newS 8 2
theorem knf0 : Wf 0 kn0 := new_wf 8 2 (by omega)
def kn1 : St := (stR kn0 1 6).2
theorem kne1 : (stR kn0 1 6).1 = 0 := by kernel_rfl
theorem knf1 : Wf 0 kn1 := knf0.stR _ _
def kn2 : St := (wrR kn1 1 5 (ofL 1)).2
theorem kne2 : (wrR kn1 1 5 (ofL 1)).1 = 0 := by kernel_rfl
theorem knf2 : Wf 1 kn2 := knf1.wrR _ _ _
def kn3 : St := (rdR kn2 1 5).2
theorem kne3 : (decide ((rdR kn2 1 5).1 = none) && (tellAt kn2 1 5 == (ofL 0))) = true := by kernel_rfl
theorem knf3 : Wf 1 kn3 := knf2.rdR _ _
def kn4 : St := (rdR kn3 1 6).2
theorem kne4 : (decide ((rdR kn3 1 6).1 = none) && (tellAt kn3 1 6 == (ofL 1))) = true := by kernel_rfl
theorem knf4 : Wf 1 kn4 := knf3.rdR _ _
def kn5 : St := (faR kn4 1 1).2
theorem kne5 : (faR kn4 1 1).1 = 0 := by kernel_rfl
theorem knf5 : Wf 1 kn5 := knf4.faR _ _
def kn6 : St := (rdR kn5 1 6).2
theorem kne6 : (rdR kn5 1 6).1 = some 5 := by kernel_rfl
theorem knf6 : Wf 1 kn6 := knf5.rdR _ _
def kn7 : St := (rdR kn6 1 6).2
theorem kne7 : (decide ((rdR kn6 1 6).1 = none) && (tellAt kn6 1 6 == (ofL 1))) = true := by kernel_rfl
theorem knf7 : Wf 1 kn7 := knf6.rdR _ _
def kn8 : St := (crR kn7 [] 0).2
theorem kne8 : (crR kn7 [] 0).1 = 0 := by kernel_rfl
theorem knf8 : Wf 1 kn8 := knf7.crR _ _
def kn9 : St := (fuR kn8 1).2
theorem kne9 : (fuR kn8 1).1 = 0 := by kernel_rfl
theorem knf9 : Wf 1 kn9 := knf8.fuR _ (by omega)
def kn10 : St := (wrR kn9 0 7 (ofL 2)).2
theorem kne10 : (wrR kn9 0 7 (ofL 2)).1 = 0 := by kernel_rfl
theorem knf10 : Wf 2 kn10 := knf9.wrR _ _ _
def kn11 : St := (flR kn10 0).2
theorem kne11 : (flR kn10 0).1 = 10 := by kernel_rfl
theorem knf11 : Wf 3 kn11 := knf10.flR _
theorem knu11 : (dCons (nR kn11, kn11) (dCons (nD kn11 0, kn11) (nT kn11 0, kn11))).1.isNone = false := by kernel_rfl
def kn12 : St := (crR kn11 [true] 0).2
theorem kne12 : (crR kn11 [true] 0).1 = 0 := by kernel_rfl
theorem knf12 : Wf 3 kn12 := knf11.crR _ _
def kn13 : St := (rdR kn12 0 7).2
theorem kne13 : (decide ((rdR kn12 0 7).1 = none) && (tellAt kn12 0 7 == (ofL 2))) = true := by kernel_rfl
theorem knf13 : Wf 3 kn13 := knf12.rdR _ _
def kn14 : St := (wrR kn13 1 8 (ofL 1)).2
theorem kne14 : (wrR kn13 1 8 (ofL 1)).1 = 5 := by kernel_rfl
theorem knf14 : Wf 4 kn14 := knf13.wrR _ _ _
def kn15 : St := (wrR kn14 1 7 []).2
theorem kne15 : (wrR kn14 1 7 []).1 = 2 := by kernel_rfl
theorem knf15 : Wf 5 kn15 := knf14.wrR _ _ _
def kn16 : St := (puR kn15 0).2
theorem kne16 : (puR kn15 0).1 = 0 := by kernel_rfl
theorem knf16 : Wf 5 kn16 := knf15.puR _
def kn17 : St := (rdR kn16 0 5).2
theorem kne17 : (rdR kn16 0 5).1 = some 4 := by kernel_rfl
theorem knf17 : Wf 5 kn17 := knf16.rdR _ _
def kn18 : St := (fiR kn17 0).2
theorem kne18 : (fiR kn17 0).1 = 0 := by kernel_rfl
theorem knf18 : Wf 5 kn18 := knf17.fiR _
def kn19 : St := (rdR kn18 0 7).2
theorem kne19 : (decide ((rdR kn18 0 7).1 = none) && (tellAt kn18 0 7 == (ofL 0))) = true := by kernel_rfl
theorem knf19 : Wf 5 kn19 := knf18.rdR _ _
def kn20 : St := (wrR kn19 1 5 (ofL 1)).2
theorem kne20 : (wrR kn19 1 5 (ofL 1)).1 = 0 := by kernel_rfl
theorem knf20 : Wf 6 kn20 := knf19.wrR _ _ _
def kn21 : St := (wrR kn20 1 6 (ofL 1)).2
theorem kne21 : (wrR kn20 1 6 (ofL 1)).1 = 0 := by kernel_rfl
theorem knf21 : Wf 7 kn21 := knf20.wrR _ _ _
def kn22 : St := (crR kn21 [false, true] 3).2
theorem kne22 : (crR kn21 [false, true] 3).1 = 0 := by kernel_rfl
theorem knf22 : Wf 7 kn22 := knf21.crR _ _
def kn23 : St := (rdR kn22 1 5).2
theorem kne23 : (decide ((rdR kn22 1 5).1 = none) && (tellAt kn22 1 5 == tornL)) = true := by kernel_rfl
theorem knf23 : Wf 7 kn23 := knf22.rdR _ _
def kn24 : St := (rdR kn23 1 6).2
theorem kne24 : (decide ((rdR kn23 1 6).1 = none) && (tellAt kn23 1 6 == (ofL 1))) = true := by kernel_rfl
set_option maxHeartbeats 32000000 in
theorem Known_any {lo : Nat} {w : World} {sn : Nat → Addr} (hs : Sn w lo sn) (hlo : lo ≤ w.heap.size) : Calls Tryd.prog 4 #[] w fun e w' => e = .returned (.bool true) ∧ Fa lo w w' := by
  have HS := Lib.hid hs
  have HLO := Lib.hid hlo
  clear hs hlo
  go_enter Tryd.func4, Tryd.ntmps4
  go_upto_region 14 with (first
    | (go_at_call 28; refine (made_any HS.out HLO.out).mono ?_; rintro e w1 ⟨g, rfl, a1, f1⟩; have A := Lib.hid (show Arr lo w1 g kn0 from a1); have F := Lib.hid f1; have S := Lib.hid (HS.out.fa f1); have P0 := Lib.hid True.intro; clear a1 f1 HS)
    | (go_at_call 19; have hp := P0; refine (st_at S.out A.out knf0 (by omega) 1 6).mono ?_; rintro e w1 ⟨rfl, a1, f1⟩; rw [kne1]; have F := Lib.hid (F.out.trans f1); have S := Lib.hid (S.out.fa f1); have A := Lib.hid (show Arr lo w1 g kn1 from a1); have P1 := Lib.hid True.intro; clear P0 hp; clear a1 f1)
    | (go_at_call 29; have hp := P1; refine (of_at (lo := lo) 1 _ rfl).mono ?_; rintro e w1 ⟨v, rfl, hv, f0⟩; have f1 := Fa.of0 f0 lo; have F := Lib.hid (F.out.trans f1); have S := Lib.hid (S.out.fa f1); have A := Lib.hid (A.out.keep0 f0); have V := Lib.hid hv; have P2 := Lib.hid True.intro; clear P1 hp; clear hv f1 f0)
    | (go_at_call 13; have hp := P2; refine (wr_at S.out A.out knf1 (by omega) 1 5 _ (ofL 1) [] V.out).mono ?_; rintro e w1 ⟨rfl, a1, f1⟩; rw [kne2]; have F := Lib.hid (F.out.trans f1); have S := Lib.hid (S.out.fa f1); have A := Lib.hid (show Arr lo w1 g kn2 from a1); have P3 := Lib.hid True.intro; clear P2 hp V; clear a1 f1)
    | (go_at_call 29; have hp := P3; refine (of_at (lo := lo) 0 _ rfl).mono ?_; rintro e w1 ⟨v, rfl, hv, f0⟩; have f1 := Fa.of0 f0 lo; have F := Lib.hid (F.out.trans f1); have S := Lib.hid (S.out.fa f1); have A := Lib.hid (A.out.keep0 f0); have V := Lib.hid hv; have P4 := Lib.hid True.intro; clear P3 hp; clear hv f1 f0)
    | (go_at_call 30; have hp := P4; refine (rd_at S.out A.out knf2 (by omega) 1 5 _ (ofL 0) _ V.out).mono ?_; rintro e w1 ⟨rfl, a1, f1⟩; rw [kne3]; have F := Lib.hid (F.out.trans f1); have S := Lib.hid (S.out.fa f1); have A := Lib.hid (show Arr lo w1 g kn3 from a1); have P5 := Lib.hid True.intro; clear P4 hp V; clear a1 f1)
    | (go_at_call 29; have hp := P5; refine (of_at (lo := lo) 1 _ rfl).mono ?_; rintro e w1 ⟨v, rfl, hv, f0⟩; have f1 := Fa.of0 f0 lo; have F := Lib.hid (F.out.trans f1); have S := Lib.hid (S.out.fa f1); have A := Lib.hid (A.out.keep0 f0); have V := Lib.hid hv; have P6 := Lib.hid True.intro; clear P5 hp; clear hv f1 f0)
    | (go_at_call 30; have hp := P6; refine (rd_at S.out A.out knf3 (by omega) 1 6 _ (ofL 1) _ V.out).mono ?_; rintro e w1 ⟨rfl, a1, f1⟩; rw [kne4]; have F := Lib.hid (F.out.trans f1); have S := Lib.hid (S.out.fa f1); have A := Lib.hid (show Arr lo w1 g kn4 from a1); have P7 := Lib.hid True.intro; clear P6 hp V; clear a1 f1)
    | (go_at_call 20; have hp := P7; refine (fa_at S.out A.out 1 1 (by omega)).mono ?_; rintro e w1 ⟨rfl, a1, f1⟩; rw [kne5]; have F := Lib.hid (F.out.trans f1); have S := Lib.hid (S.out.fa f1); have A := Lib.hid (show Arr lo w1 g kn5 from a1); have P8 := Lib.hid True.intro; clear P7 hp; clear a1 f1)
    | (go_at_call 11; have hp := P8; refine (rdE_at S.out A.out knf5 (by omega) 1 6 5 kne6).mono ?_; rintro e w1 ⟨rfl, a1, f1⟩; rw [show code 5 = 13 from rfl]; have F := Lib.hid (F.out.trans f1); have S := Lib.hid (S.out.fa f1); have A := Lib.hid (show Arr lo w1 g kn6 from a1); have P9 := Lib.hid True.intro; clear P8 hp; clear a1 f1)
    | (go_at_call 29; have hp := P9; refine (of_at (lo := lo) 1 _ rfl).mono ?_; rintro e w1 ⟨v, rfl, hv, f0⟩; have f1 := Fa.of0 f0 lo; have F := Lib.hid (F.out.trans f1); have S := Lib.hid (S.out.fa f1); have A := Lib.hid (A.out.keep0 f0); have V := Lib.hid hv; have P10 := Lib.hid True.intro; clear P9 hp; clear hv f1 f0)
    | (go_at_call 30; have hp := P10; refine (rd_at S.out A.out knf6 (by omega) 1 6 _ (ofL 1) _ V.out).mono ?_; rintro e w1 ⟨rfl, a1, f1⟩; rw [kne7]; have F := Lib.hid (F.out.trans f1); have S := Lib.hid (S.out.fa f1); have A := Lib.hid (show Arr lo w1 g kn7 from a1); have P11 := Lib.hid True.intro; clear P10 hp V; clear a1 f1)
    | (go_at_call 16; have hp := P11; refine (cr_at S.out A.out knf7 (by omega) _ [] [] 0 (fun w2 f2 => SlE.nil _ _ _)).mono ?_; rintro e w1 ⟨rfl, a1, f1⟩; rw [kne8]; have F := Lib.hid (F.out.trans f1); have S := Lib.hid (S.out.fa f1); have A := Lib.hid (show Arr lo w1 g kn8 from a1); have P12 := Lib.hid True.intro; clear P11 hp; clear a1 f1)
    | (go_at_call 15; have hp := P12; refine (fu_at S.out A.out 1).mono ?_; rintro e w1 ⟨rfl, a1, f1⟩; rw [kne9]; have F := Lib.hid (F.out.trans f1); have S := Lib.hid (S.out.fa f1); have A := Lib.hid (show Arr lo w1 g kn9 from a1); have P13 := Lib.hid True.intro; clear P12 hp; clear a1 f1)
    | (go_at_call 29; have hp := P13; refine (of_at (lo := lo) 2 _ rfl).mono ?_; rintro e w1 ⟨v, rfl, hv, f0⟩; have f1 := Fa.of0 f0 lo; have F := Lib.hid (F.out.trans f1); have S := Lib.hid (S.out.fa f1); have A := Lib.hid (A.out.keep0 f0); have V := Lib.hid hv; have P14 := Lib.hid True.intro; clear P13 hp; clear hv f1 f0)
    | (go_at_call 13; have hp := P14; refine (wr_at S.out A.out knf9 (by omega) 0 7 _ (ofL 2) [] V.out).mono ?_; rintro e w1 ⟨rfl, a1, f1⟩; rw [kne10]; have F := Lib.hid (F.out.trans f1); have S := Lib.hid (S.out.fa f1); have A := Lib.hid (show Arr lo w1 g kn10 from a1); have P15 := Lib.hid True.intro; clear P14 hp V; clear a1 f1)
    | (go_at_call 14; have hp := P15; refine (fl_at S.out A.out knf10 (by omega) 0).mono ?_; rintro e w1 ⟨rfl, a1, f1⟩; rw [kne11]; have F := Lib.hid (F.out.trans f1); have S := Lib.hid (S.out.fa f1); have A := Lib.hid (show Arr lo w1 g kn11 from a1); have P16 := Lib.hid True.intro; clear P15 hp; clear a1 f1)
    | (go_at_call 27; have hp := P16; refine (up_at S.out A.out 0).mono ?_; rintro e w1 ⟨rfl, a1, f1⟩; rw [knu11]; have F := Lib.hid (F.out.trans f1); have S := Lib.hid (S.out.fa f1); have A := Lib.hid (show Arr lo w1 g kn11 from a1); have P17 := Lib.hid True.intro; clear P16 hp; clear a1 f1)
    | (go_at_call 16; have hp := P17; have fz := Lib.hid (fun (W : World) (o : Obj) => (Frm.refl [] W).alloc o); refine (cr_at (S.out.keep0 (fz.out _ _)) (A.out.keep0 (fz.out _ _)) knf11 (by omega) _ [true] [] 0 (fun w2 f2 => Kr.SlE.of_block encB (T := 4) (f2.typ _ _ _ _ (heap_alloc_new _ _) (by decide)) rfl (by decide))).mono ?_; rintro e w1 ⟨rfl, a1, f2⟩; have f1 := (Fa.of0 (fz.out _ _) lo).trans f2; rw [kne12]; have F := Lib.hid (F.out.trans f1); have S := Lib.hid (S.out.fa f1); have A := Lib.hid (show Arr lo w1 g kn12 from a1); have P18 := Lib.hid True.intro; clear P17 hp fz; clear a1 f1 f2)
    | (go_at_call 29; have hp := P18; refine (of_at (lo := lo) 2 _ rfl).mono ?_; rintro e w1 ⟨v, rfl, hv, f0⟩; have f1 := Fa.of0 f0 lo; have F := Lib.hid (F.out.trans f1); have S := Lib.hid (S.out.fa f1); have A := Lib.hid (A.out.keep0 f0); have V := Lib.hid hv; have P19 := Lib.hid True.intro; clear P18 hp; clear hv f1 f0)
    | (go_at_call 30; have hp := P19; refine (rd_at S.out A.out knf12 (by omega) 0 7 _ (ofL 2) _ V.out).mono ?_; rintro e w1 ⟨rfl, a1, f1⟩; rw [kne13]; have F := Lib.hid (F.out.trans f1); have S := Lib.hid (S.out.fa f1); have A := Lib.hid (show Arr lo w1 g kn13 from a1); have P20 := Lib.hid True.intro; clear P19 hp V; clear a1 f1)
    | (go_at_call 31; have hp := P20; refine (New_no 1 8 S.out (by omega)).mono ?_; rintro e w1 ⟨rfl, f0⟩; have f1 := Fa.of0 f0 lo; rw [show code 0 = 2 from rfl]; have F := Lib.hid (F.out.trans f1); have S := Lib.hid (S.out.fa f1); have A := Lib.hid (A.out.keep0 f0); have P21 := Lib.hid True.intro; clear P20 hp; clear f1 f0)
    | (go_at_call 29; have hp := P21; refine (of_at (lo := lo) 1 _ rfl).mono ?_; rintro e w1 ⟨v, rfl, hv, f0⟩; have f1 := Fa.of0 f0 lo; have F := Lib.hid (F.out.trans f1); have S := Lib.hid (S.out.fa f1); have A := Lib.hid (A.out.keep0 f0); have V := Lib.hid hv; have P22 := Lib.hid True.intro; clear P21 hp; clear hv f1 f0)
    | (go_at_call 13; have hp := P22; refine (wr_at S.out A.out knf13 (by omega) 1 8 _ (ofL 1) [] V.out).mono ?_; rintro e w1 ⟨rfl, a1, f1⟩; rw [kne14]; have F := Lib.hid (F.out.trans f1); have S := Lib.hid (S.out.fa f1); have A := Lib.hid (show Arr lo w1 g kn14 from a1); have P23 := Lib.hid True.intro; clear P22 hp V; clear a1 f1)
    | (go_at_call 13; have hp := P23; refine (wr_at S.out A.out knf14 (by omega) 1 7 _ [] [] (fun _ _ => SlB.nil _)).mono ?_; rintro e w1 ⟨rfl, a1, f1⟩; rw [kne15]; have F := Lib.hid (F.out.trans f1); have S := Lib.hid (S.out.fa f1); have A := Lib.hid (show Arr lo w1 g kn15 from a1); have P24 := Lib.hid True.intro; clear P23 hp; clear a1 f1)
    | (go_at_call 21; have hp := P24; refine (pu_at S.out A.out knf15 (by omega) 0).mono ?_; rintro e w1 ⟨rfl, a1, f1⟩; rw [kne16]; have F := Lib.hid (F.out.trans f1); have S := Lib.hid (S.out.fa f1); have A := Lib.hid (show Arr lo w1 g kn16 from a1); have P25 := Lib.hid True.intro; clear P24 hp; clear a1 f1)
    | (go_at_call 11; have hp := P25; refine (rdE_at S.out A.out knf16 (by omega) 0 5 4 kne17).mono ?_; rintro e w1 ⟨rfl, a1, f1⟩; rw [show code 4 = 14 from rfl]; have F := Lib.hid (F.out.trans f1); have S := Lib.hid (S.out.fa f1); have A := Lib.hid (show Arr lo w1 g kn17 from a1); have P26 := Lib.hid True.intro; clear P25 hp; clear a1 f1)
    | (go_at_call 22; have hp := P26; refine (fi_at S.out A.out knf17 (by omega) 0).mono ?_; rintro e w1 ⟨rfl, a1, f1⟩; rw [kne18]; have F := Lib.hid (F.out.trans f1); have S := Lib.hid (S.out.fa f1); have A := Lib.hid (show Arr lo w1 g kn18 from a1); have P27 := Lib.hid True.intro; clear P26 hp; clear a1 f1)
    | (go_at_call 29; have hp := P27; refine (of_at (lo := lo) 0 _ rfl).mono ?_; rintro e w1 ⟨v, rfl, hv, f0⟩; have f1 := Fa.of0 f0 lo; have F := Lib.hid (F.out.trans f1); have S := Lib.hid (S.out.fa f1); have A := Lib.hid (A.out.keep0 f0); have V := Lib.hid hv; have P28 := Lib.hid True.intro; clear P27 hp; clear hv f1 f0)
    | (go_at_call 30; have hp := P28; refine (rd_at S.out A.out knf18 (by omega) 0 7 _ (ofL 0) _ V.out).mono ?_; rintro e w1 ⟨rfl, a1, f1⟩; rw [kne19]; have F := Lib.hid (F.out.trans f1); have S := Lib.hid (S.out.fa f1); have A := Lib.hid (show Arr lo w1 g kn19 from a1); have P29 := Lib.hid True.intro; clear P28 hp V; clear a1 f1))
  refine wp_region_held_drew (S := fun _ => True) (by kernel_rfl) (trivial) (fun hHeld => ?_)
  refine wpAnyH_ready (rs := [0]) (by kernel_rfl) (by simp) ?_
  refine AllReadyH.cons (o := ⟨some 130, .call { callee := .value (.func 29), args := #[.const (.int .u8 1)], argTypes := #[5] }, _, _, _, none⟩) rfl (fun K hK => ?_) AllReadyH.nil
  go_simp
  refine (of_x 1 _ rfl _).mono ?_
  rintro e w2 ⟨g2, rfl, o2, l2, f2⟩
  refine hK.out _ _ ?_ (fun hNext => ?_)
  · trivial
  clear hK K hHeld
  have hHeld := hNext
  clear hNext
  try simp only [Act.put, List.setIfInBounds_toArray, List.set_cons_zero, List.set_cons_succ]
  refine wpAnyH_take (i := 1) (oi := ⟨some 131, .slice 22 (.tmp 130) none (some (.const (.int .i64 3))) none, _, _, _, none⟩) (v := ?_) rfl (by kernel_rfl) (by kernel_rfl) (by kernel_rfl) (fun _ _ _ h => h) (Or.inl ⟨by rfl, ?_⟩) hHeld ?_
  rotate_left
  focus (intro z hSw; clear hSw; go_simp; try with_reducible rfl)
  try simp only [Act.put, List.setIfInBounds_toArray, List.set_cons_zero, List.set_cons_succ]
  refine wpAnyH_ready (rs := [2]) (by kernel_rfl) (by simp) ?_
  refine AllReadyH.cons (o := ⟨some 132, .call { callee := .value (.func 29), args := #[.const (.int .u8 0)], argTypes := #[5] }, _, _, _, none⟩) rfl (fun K hK => ?_) AllReadyH.nil
  go_simp
  refine (of_x 0 _ rfl _).mono ?_
  rintro e w3 ⟨g3, rfl, o3, l3, f3⟩
  refine hK.out _ _ ?_ (fun hNext => ?_)
  · trivial
  clear hK K hHeld
  have hHeld := hNext
  clear hNext
  try simp only [Act.put, List.setIfInBounds_toArray, List.set_cons_zero, List.set_cons_succ]
  refine wpAnyH_take (i := 3) (oi := ⟨some 133, .slice 22 (.tmp 132) (some (.const (.int .i64 3))) none none, _, _, _, none⟩) (v := ?_) rfl (by kernel_rfl) (by kernel_rfl) (by kernel_rfl) (fun _ _ _ h => h) (Or.inl ⟨by rfl, ?_⟩) hHeld ?_
  rotate_left
  focus (intro z hSw; clear hSw; go_simp; try with_reducible rfl)
  try simp only [Act.put, List.setIfInBounds_toArray, List.set_cons_zero, List.set_cons_succ]
  refine wpAnyH_ready (rs := [4]) (by kernel_rfl) (by simp) ?_
  refine AllReadyH.cons (o := ⟨some 134, .call { callee := .builtin .append, args := #[.tmp 131, .tmp 133], argTypes := #[22, 22] }, _, _, _, none⟩) rfl (fun K hK => ?_) AllReadyH.nil
  refine step_append_bytes BT (own_head (o2.keep f3 (by simp))) (slB_tail o3) (by simp) rfl (.tmp 131) (.tmp 133) rfl rfl rfl ?_
  intro a5 c5 w5 sp5 o5 f5 b5
  refine hK.out _ _ ?_ (fun hNext => ?_)
  · trivial
  clear hK K hHeld
  have hHeld := hNext
  clear hNext
  try simp only [Act.put, List.setIfInBounds_toArray, List.set_cons_zero, List.set_cons_succ]
  refine wpAnyH_take (i := 5) (oi := ⟨some 9, .assign (.tmp 134), _, _, _, none⟩) (v := ?_) rfl (by kernel_rfl) (by kernel_rfl) (by kernel_rfl) (fun _ _ _ h => h) (Or.inl ⟨by rfl, ?_⟩) hHeld ?_
  rotate_left
  focus (intro z hSw; clear hSw; go_simp; try with_reducible rfl)
  try simp only [Act.put, List.setIfInBounds_toArray, List.set_cons_zero, List.set_cons_succ]
  refine wpAnyH_done (by kernel_rfl) ?_ _
  simp only [List.length_replicate] at o5 ⊢
  have f5' := ((f2.trans f3 (by simp)).trans f5 (fun i hi => .inr (by simp [blk] at hi; omega)))
  have S := Lib.hid (S.out.keep0 ((Frm.refl [] _).drew |>.trans f5' (by simp)))
  have A := Lib.hid (A.out.keep0 ((Frm.refl [] _).drew |>.trans f5' (by simp)))
  have F := Lib.hid (F.out.trans (Fa.of0 ((Frm.refl [] _).drew |>.trans f5' (by simp)) lo))
  have VT := Lib.hid (fun w2 (f : Fa lo w5 w2) => own_st o5 f)
  have FT := Lib.hid (Fa.refl lo w5)
  clear f2 f3 f5 f5' o2 o3 o5 l2 l3 b5
  go_wp2_with (first
    | (go_at_call 29; have hp := P29; refine (of_at (lo := lo) 1 _ rfl).mono ?_; rintro e w1 ⟨v, rfl, hv, f0⟩; have f1 := Fa.of0 f0 lo; have F := Lib.hid (F.out.trans f1); have S := Lib.hid (S.out.fa f1); have FT := Lib.hid (FT.out.trans f1); have A := Lib.hid (A.out.keep0 f0); have V := Lib.hid hv; have P30 := Lib.hid True.intro; clear P29 hp; clear hv f1 f0)
    | (go_at_call 13; have hp := P30; refine (wr_at S.out A.out knf19 (by omega) 1 5 _ (ofL 1) [] V.out).mono ?_; rintro e w1 ⟨rfl, a1, f1⟩; rw [kne20]; have F := Lib.hid (F.out.trans f1); have S := Lib.hid (S.out.fa f1); have FT := Lib.hid (FT.out.trans f1); have A := Lib.hid (show Arr lo w1 g kn20 from a1); have P31 := Lib.hid True.intro; clear P30 hp V; clear a1 f1)
    | (go_at_call 29; have hp := P31; refine (of_at (lo := lo) 1 _ rfl).mono ?_; rintro e w1 ⟨v, rfl, hv, f0⟩; have f1 := Fa.of0 f0 lo; have F := Lib.hid (F.out.trans f1); have S := Lib.hid (S.out.fa f1); have FT := Lib.hid (FT.out.trans f1); have A := Lib.hid (A.out.keep0 f0); have V := Lib.hid hv; have P32 := Lib.hid True.intro; clear P31 hp; clear hv f1 f0)
    | (go_at_call 13; have hp := P32; refine (wr_at S.out A.out knf20 (by omega) 1 6 _ (ofL 1) [] V.out).mono ?_; rintro e w1 ⟨rfl, a1, f1⟩; rw [kne21]; have F := Lib.hid (F.out.trans f1); have S := Lib.hid (S.out.fa f1); have FT := Lib.hid (FT.out.trans f1); have A := Lib.hid (show Arr lo w1 g kn21 from a1); have P33 := Lib.hid True.intro; clear P32 hp V; clear a1 f1)
    | (go_at_call 16; have hp := P33; have fz := Lib.hid (fun (W : World) (o : Obj) => (Frm.refl [] W).alloc o); refine (cr_at (S.out.keep0 (fz.out _ _)) (A.out.keep0 (fz.out _ _)) knf21 (by omega) _ [false, true] [] 3 (fun w2 f2 => Kr.SlE.of_block encB (T := 4) (f2.typ _ _ _ _ (heap_alloc_new _ _) (by decide)) rfl (by decide))).mono ?_; rintro e w1 ⟨rfl, a1, f2⟩; have f1 := (Fa.of0 (fz.out _ _) lo).trans f2; rw [kne22]; have F := Lib.hid (F.out.trans f1); have S := Lib.hid (S.out.fa f1); have FT := Lib.hid (FT.out.trans f1); have A := Lib.hid (show Arr lo w1 g kn22 from a1); have P34 := Lib.hid True.intro; clear P33 hp fz; clear a1 f1 f2)
    | (go_at_call 30; have hp := P34; refine (rd_at S.out A.out knf22 (by omega) 1 5 _ tornL _ (fun w2 f2 => VT.out w2 (FT.out.trans f2))).mono ?_; rintro e w1 ⟨rfl, a1, f1⟩; rw [kne23]; have F := Lib.hid (F.out.trans f1); have S := Lib.hid (S.out.fa f1); have FT := Lib.hid (FT.out.trans f1); have A := Lib.hid (show Arr lo w1 g kn23 from a1); have P35 := Lib.hid True.intro; clear P34 hp; clear a1 f1)
    | (go_at_call 29; have hp := P35; refine (of_at (lo := lo) 1 _ rfl).mono ?_; rintro e w1 ⟨v, rfl, hv, f0⟩; have f1 := Fa.of0 f0 lo; have F := Lib.hid (F.out.trans f1); have S := Lib.hid (S.out.fa f1); have FT := Lib.hid (FT.out.trans f1); have A := Lib.hid (A.out.keep0 f0); have V := Lib.hid hv; have P36 := Lib.hid True.intro; clear P35 hp; clear hv f1 f0)
    | (go_at_call 30; have hp := P36; refine (rd_at S.out A.out knf23 (by omega) 1 6 _ (ofL 1) _ V.out).mono ?_; rintro e w1 ⟨rfl, a1, f1⟩; rw [kne24]; have F := Lib.hid (F.out.trans f1); have S := Lib.hid (S.out.fa f1); have FT := Lib.hid (FT.out.trans f1); have A := Lib.hid (show Arr lo w1 g kn24 from a1); have P37 := Lib.hid True.intro; clear P36 hp V; clear a1 f1)
    | (go_at_call 10; refine (awake_any S.out (Nat.le_trans HLO.out F.out.size)).mono ?_; rintro e w3 ⟨rfl, f3⟩; have F := Lib.hid (F.out.trans f3); clear f3))
  go_ret
  exact ⟨rfl, F.out⟩
end Go.Proofs.YtdebnikolhhmgaaDoor

namespace Go.Proofs.YtdebnikolhhmgaaDoor
open Go.RowKit
set_option linter.unusedVariables false
set_option linter.unusedSimpArgs false
set_option maxRecDepth 100000

open Kr (OwnE SlE Enco RowTys)
def PeRel (lo g : Nat) (s : St) (b : Nat) (firm last : Nat → Nat → UInt8) (w0 : World) (cv : Value) (wr : World) : Prop :=
  ∃ k : Nat, k ≤ 16 ∧ cv = .int .i64 k ∧ Arr lo wr g s ∧ Bx wr b firm ∧ Bx wr (b + 1) last ∧ Fa lo w0 wr
def OdRel (lo g : Nat) (s : St) (b : Nat) (firm : Nat → Nat → UInt8) (w0 : World) (ov cv : Value) (wr : World) : Prop :=
  ∃ k : Nat, k ≤ 16 ∧ cv = .int .i64 k ∧ ov = .int .i64 (cntB (oddAt s) k) ∧ Arr lo wr g s ∧ Bx wr b firm ∧ Fa lo w0 wr
theorem headD_of {l : List UInt8} {b : UInt8} (h : l[0]? = some b) : l.headD 0 = b := by
  cases l with
  | nil => cases h
  | cons x l => simpa using h
section
variable {lo : Nat} {w : World} {sn : Nat → Addr}
theorem pe_at {g K : Nat} {s : St} (hs : Sn w lo sn) (h : Arr lo w g s) (wf : Wf K s) (hK : K ≤ 100000000) (d a : Int) (hk : pkR s d a = none) :
    Calls Tryd.prog 12 #[.pointer (some ⟨g, 0, none⟩), .int .i64 d, .int .i64 a] w fun e w' => ∃ ad cap sp, e = .returned (.tuple #[.slice ad 256 cap, .bool true]) ∧ OwnB 5 w' (.slice ad 256 cap) (tellAt s d a) sp ∧ Arr lo w' g s ∧ Fa lo w w' := by
  refine (show Calls Tryd.prog 12 #[.pointer (some ⟨g, 0, none⟩), .int .i64 d, .int .i64 a] w _ from Peek_any d a hs h (wf.wfs hK) wf.fd).mono ?_
  rintro e w' ⟨⟨_, ad, cap, sp, rfl, ho⟩ | ⟨k, hk2, rfl⟩, a1, f1⟩
  · rw [pk2] at a1
    exact ⟨ad, cap, sp, rfl, ho, a1, f1⟩
  · rw [show (dCons (nR s, s) (dCons (nS s d a, s) (nT s d, s))).1 = pkR s d a from rfl, hk] at hk2
    cases hk2
theorem own_at {w : World} {ad : Option Addr} {cap : Nat} {l sp : List UInt8} (h : OwnB 5 w (.slice ad 256 cap) l sp) (hl : l.length = 256) : ∃ gb, ad = some ⟨gb, 0, none⟩ ∧ ∀ (i : Nat) (b : UInt8), l[i]? = some b → w.cell? ⟨gb, i, none⟩ = some (.int .u8 b.toNat) := by
  obtain ⟨h1, h2 | ⟨g, cap', h2, h3, h4, h5, h6⟩⟩ := h
  · omega
  · simp only [Value.slice.injEq] at h2
    obtain ⟨rfl, _, rfl⟩ := h2
    refine ⟨g, rfl, fun i b hb => ?_⟩
    rw [cell_of_heap h6, List.getElem?_toArray, List.getElem?_append_left (by rw [bvs_length]; exact (List.getElem?_eq_some_iff.1 hb).1), bvs_get, hb]
    rfl
set_option maxHeartbeats 32000000 in
theorem Firm_any (v : Value) (l : List LayT) (sp : List Value) (vk : Value) (keep : List Bool) (ksp : List Value) (x2 : Int) (hS : ∀ w', Fa lo w w' → SlE eL 4 w' v l sp) (hw : ∀ x ∈ l, WfLay x) (hK : ∀ w', Fa lo w w' → SlE eB 1 w' vk keep ksp) (hs : Sn w lo sn) (hlo : lo ≤ w.heap.size) :
    Calls Tryd.prog 5 #[v, vk, .int .i64 x2] w fun e w' => e = .returned (.bool true) ∧ Fa lo w w' := by
  obtain ⟨ad, vcap, rfl, _, _⟩ := (hS w (Fa.refl lo w)).form
  obtain ⟨ka, kcap, rfl, _, _⟩ := (hK w (Fa.refl lo w)).form
  have HSL := Lib.hid hS
  have HKL := Lib.hid hK
  have S := Lib.hid hs
  have S0 := Lib.hid hs
  have F := Lib.hid (Fa.refl lo w)
  by_cases hl : 60 < l.length
  · have hl' : (60 : Int) < (l.length : Int) := by omega
    clear hS hs hw hK
    go_enter Tryd.func5, Tryd.ntmps5
    go_wp2_with (first
      | (go_at_call 4; refine (Known_any S.out (Nat.le_trans hlo F.out.size)).mono ?_; rintro e w1 ⟨rfl, f1⟩; have F := Lib.hid (F.out.trans f1); have S := Lib.hid (S.out.fa f1); clear f1)
      | (go_at_call 28; refine (made_any S.out (Nat.le_trans hlo F.out.size)).mono ?_; rintro e w1 ⟨g, rfl, a1, f1⟩; have A := Lib.hid a1; have F := Lib.hid (F.out.trans f1); have S := Lib.hid (S.out.fa f1); clear a1 f1))
    go_ret
    exact ⟨rfl, F.out⟩
  by_cases hk : 200 < keep.length
  · have hl' : ¬ (60 : Int) < (l.length : Int) := by omega
    have hk' : (200 : Int) < (keep.length : Int) := by omega
    clear hS hs hw hK
    go_enter Tryd.func5, Tryd.ntmps5
    go_wp2_with (first
      | (go_at_call 4; refine (Known_any S.out (Nat.le_trans hlo F.out.size)).mono ?_; rintro e w1 ⟨rfl, f1⟩; have F := Lib.hid (F.out.trans f1); have S := Lib.hid (S.out.fa f1); clear f1)
      | (go_at_call 28; refine (made_any S.out (Nat.le_trans hlo F.out.size)).mono ?_; rintro e w1 ⟨g, rfl, a1, f1⟩; have A := Lib.hid a1; have F := Lib.hid (F.out.trans f1); have S := Lib.hid (S.out.fa f1); clear a1 f1))
    go_ret
    exact ⟨rfl, F.out⟩
  have hl60 : l.length ≤ 60 := by omega
  have hl' : ¬ (60 : Int) < (l.length : Int) := by omega
  have hk' : ¬ (200 : Int) < (keep.length : Int) := by omega
  have HLY := Lib.hid (fun (w1 : World) (g : Nat) (f1 : Fa lo w w1) (a1 : Arr lo w1 g (newS 8 2)) => lays_any l (.slice ad l.length vcap) sp (hs.fa f1) (Nat.le_trans hlo f1.size) a1 (fun w2 f2 => hS w2 (f1.trans f2)) hl60 hw)
  clear hS hs hw hK
  have u57 := Tryd.underlying57
  go_enter Tryd.func5, Tryd.ntmps5
  go_upto_region 7 with (first
    | (go_at_call 4; refine (Known_any S.out (Nat.le_trans hlo F.out.size)).mono ?_; rintro e w1 ⟨rfl, f1⟩; have F := Lib.hid (F.out.trans f1); have S := Lib.hid (S.out.fa f1); clear f1)
    | (go_at_call 28; refine (made_any S.out (Nat.le_trans hlo F.out.size)).mono ?_; rintro e w1 ⟨g, rfl, a1, f1⟩; have A := Lib.hid a1; have F := Lib.hid (F.out.trans f1); have S := Lib.hid (S.out.fa f1); clear a1 f1)
    | (go_at_call 32; refine (HLY.out _ g F.out A.out).mono ?_; rintro e w2 ⟨s, firm, last, rfl, hz, wf, a2, f2⟩; have Z := Lib.hid hz; have WF := Lib.hid wf; have A2 := Lib.hid a2; have F2 := Lib.hid (F.out.trans f2); clear hz wf a2 f2)
    | ((with_reducible (show wpList _ _ _ (Oper.mk _ (Op.store 57 (.tmp 9) _) _ _ _ _ :: _) _ _)); refine wpList_store57 rfl (.tmp 9) (.tmp 41) rfl (Bx.two w2).1 rfl rfl ?_; intro w3 b3 f3)
    | ((with_reducible (show wpList _ _ _ (Oper.mk _ (Op.store 57 (.tmp 10) _) _ _ _ _ :: _) _ _)); refine wpList_store57 rfl (.tmp 10) (.tmp 42) rfl ((Bx.two w2).2.frm f3 (by simp)) rfl rfl ?_; intro w4 b4 f4))
  obtain ⟨b, hb⟩ : ∃ b, w2.heap.size = b := ⟨_, rfl⟩
  have two := Bx.two w2
  have FAL := Lib.hid ((F2.out.trans (Fa.of0 (((Frm.refl [] w2).alloc _).alloc _) lo)).frmN f3 (fun i hi => by rw [List.mem_singleton.1 hi]; have := F2.out.size; omega) |>.frmN f4 (fun i hi => by rw [List.mem_singleton.1 hi]; have := F2.out.size; omega))
  have AL4 := Lib.hid ((A2.out.keep0 (((Frm.refl [] w2).alloc _).alloc _)).keep f3 (fun j hj => by rw [List.mem_singleton.1 hj]; exact ⟨_, 57, _, two.1, by decide, by decide⟩) |>.keep f4 (fun j hj => by rw [List.mem_singleton.1 hj]; exact ⟨_, 57, _, two.2.frm f3 (by simp), by decide, by decide⟩))
  rw [hb] at b3 b4 f4 ⊢
  have B4 := Lib.hid (And.intro (b3.frm f4 (by simp)) b4)
  clear b3 b4 f3 f4 two HLY
  have PKD := Lib.hid (fun (d a : Nat) (hd : d < 2) (ha : a < 8) => pk_done Z.out.j Z.out.out hd ha)
  go_loopw [12] (PeRel lo g s b firm last w) (fun c _ => 16 - (intOf c).toNat)
  case atStart => exact ⟨0, by omega, rfl, AL4.out, B4.out.1, B4.out.2, FAL.out⟩
  case round =>
    obtain ⟨i, hi, rfl, ha6, hf6, hb6, fa6⟩ := hrel
    have A6 := Lib.hid ha6
    have H6 := Lib.hid hf6
    have B6 := Lib.hid hb6
    have F6 := Lib.hid fa6
    have S6 := Lib.hid (S0.out.fa fa6)
    clear ha6 hf6 hb6 fa6
    by_cases hi2 : i < 16
    · have hi3 : (i : Int) < 16 := by omega
      have hq : (i : Int).tdiv 8 = ((i / 8 : Nat) : Int) := by rw [Int.tdiv_eq_ediv_of_nonneg (by omega)]; omega
      have hr : (i : Int).tmod 8 = ((i % 8 : Nat) : Int) := by rw [Int.tmod_eq_emod_of_nonneg (by omega)]; omega
      have hi8 : i / 8 < 2 := by omega
      have hi9 : i % 8 < 8 := by omega
      have hi8' : ((i / 8 : Nat) : Int) < 2 := by omega
      have hi9' : ((i % 8 : Nat) : Int) < 8 := by omega
      have eb := B6.out.at hi8 hi9
      unfold bv at eb
      go_upto_region 8 with (first
        | (go_at_call 29; refine (of_at (lo := lo) (last (i / 8) (i % 8)) _ rfl).mono ?_; rintro e w5 ⟨v1, rfl, hv, f0⟩; have F1 := Lib.hid f0; have V := Lib.hid hv; clear f0 hv)
        | (go_at_call 33; refine (pkY_at (S6.out.keep0 F1.out) (A6.out.keep0 F1.out) WF.out (by omega) ((i / 8 : Nat) : Int) ((i % 8 : Nat) : Int) _ (ofL (last (i / 8) (i % 8))) _ V.out (PKD.out _ _ hi8 hi9).1 (PKD.out _ _ hi8 hi9).2).mono ?_; rintro e w7 ⟨rfl, a7, f7⟩; have A7 := Lib.hid a7; have F7 := Lib.hid ((Fa.of0 F1.out lo).trans f7); clear a7 f7))
      go_wp2_with fail
      go_roundw
      case rel => exact ⟨i + 1, by omega, by go_num, A7.out, H6.out.fa F7.out, B6.out.fa F7.out, F6.out.trans F7.out⟩
      case measure => simp [intOf]; omega
    · obtain rfl : i = 16 := by omega
      have hpk := pkN_lt x2 (show (0 : Int) < 256 by omega)
      obtain ⟨tn, Htn⟩ : ∃ tn, pkN x2 256 = tn := ⟨_, rfl⟩
      rw [Htn] at hpk
      have HTN := Lib.hid Htn
      have HCR := Lib.hid (Z.out.crash keep (torn := (tn : Int)) (by omega) (by omega))
      obtain ⟨s3, Hs3⟩ : ∃ s3, (crR s keep (tn : Int)).2 = s3 := ⟨_, rfl⟩
      have HC1 := HCR.out.1
      have CZ := Lib.hid (Hs3 ▸ HCR.out.2)
      have WF3 := Lib.hid (show Wf 200 s3 by rw [← Hs3]; exact WF.out.crR _ _)
      have HS3 := Lib.hid Hs3
      have hrow3 : (s3.row.length : Int) = 0 := by rw [CZ.out.row]; rfl
      have HR3 := Lib.hid hrow3
      clear Htn Hs3 hrow3
      have P0 := Lib.hid True.intro
      go_upto_region 16 with (first
        | (go_at_call 25; have hp := P0; refine (Loose_any A6.out).mono ?_; rintro e w5 ⟨rfl, hw1⟩; obtain rfl := hw1.symm; have P1 := Lib.hid True.intro; clear P0 hp)
        | (go_at_call 34; have hp := P1; refine (Pick_pk x2 256 (by omega) (by omega) _).mono ?_; rintro e w5 ⟨rfl, hw1⟩; obtain rfl := hw1.symm; rw [HTN.out])
        | (go_at_call 16; refine (cr_at S6.out A6.out WF.out (by omega) _ keep ksp (tn : Int) (fun w2 f2 => HKL.out w2 (F6.out.trans f2))).mono ?_; rintro e w5 ⟨rfl, a5, f5⟩; rw [HC1]; have A5 := Lib.hid (HS3.out ▸ a5); have F5 := Lib.hid f5; clear a5 f5)
        | (go_at_call 25; have hp := P1; refine (Loose_any A5.out).mono ?_; rintro e w6 ⟨rfl, hw1⟩; obtain rfl := hw1.symm; rw [HR3.out]; clear P1 hp))
      have H5 := Lib.hid (H6.out.fa F5.out)
      have FA5 := Lib.hid (F6.out.trans F5.out)
      clear HC1 HTN HCR hpk B6 H6 A6 S6 F6 B4 AL4 FAL A2 F2
      go_loopw [14, 15] (OdRel lo g s3 b firm w) (fun _ c _ => 16 - (intOf c).toNat)
      case atStart => exact ⟨0, by omega, rfl, rfl, A5.out, H5.out, FA5.out⟩
      case round =>
        obtain ⟨i, hi, rfl, rfl, ha7, hf7, fa7⟩ := hrel
        have A7 := Lib.hid ha7
        have H7 := Lib.hid hf7
        have F7 := Lib.hid fa7
        have S7 := Lib.hid (S0.out.fa fa7)
        clear ha7 hf7 fa7
        have hcl := cntB_le (p := oddAt s3) i
        have hcl2 : ((cntB (oddAt s3) i : Nat) : Int) ≤ 16 := by omega
        by_cases hi2 : i < 16
        · have hi3 : (i : Int) < 16 := by omega
          have hq : (i : Int).tdiv 8 = ((i / 8 : Nat) : Int) := by rw [Int.tdiv_eq_ediv_of_nonneg (by omega)]; omega
          have hr : (i : Int).tmod 8 = ((i % 8 : Nat) : Int) := by rw [Int.tmod_eq_emod_of_nonneg (by omega)]; omega
          have hi8 : i / 8 < 2 := by omega
          have hi9 : i % 8 < 8 := by omega
          have hi8' : ((i / 8 : Nat) : Int) < 2 := by omega
          have hi9' : ((i % 8 : Nat) : Int) < 8 := by omega
          have ed : ((i / 8 : Nat) : Int) = (i : Int) / 8 := by omega
          have em : ((i % 8 : Nat) : Int) = (i : Int) % 8 := by omega
          have ED := Lib.hid (And.intro ed em)
          have hd0 : 0 ≤ (i : Int) / 8 := by omega
          have hd1 : (i : Int) / 8 < 2 := by omega
          have hm0 : 0 ≤ (i : Int) % 8 := by omega
          have hm1 : (i : Int) % 8 < 8 := by omega
          have td : ((i : Int) / 8).toNat = i / 8 := by omega
          have tm : ((i : Int) % 8).toNat = i % 8 := by omega
          have wd : IntKind.i64.wrap ((i : Int) / 8) = (i : Int) / 8 := IntWalk.i64_in _ (by omega)
          have wm : IntKind.i64.wrap ((i : Int) % 8) = (i : Int) % 8 := IntWalk.i64_in _ (by omega)
          clear ed em
          go_upto_region 21 with (go_at_call 12; refine (pe_at S7.out A7.out WF3.out (by omega) ((i / 8 : Nat) : Int) ((i % 8 : Nat) : Int) (CZ.out.pk _ _ hi8 hi9)).mono ?_; rintro e w8 ⟨ad8, cap8, sp8, rfl, ho8, a8, f8⟩; have O8 := Lib.hid ho8; have A8 := Lib.hid a8; have F8 := Lib.hid f8; clear ho8 a8 f8)
          obtain ⟨b0, b1, p0, p1, q0, q1, q2⟩ := CZ.out.tl (i / 8) (i % 8) hi8 hi9
          obtain ⟨gb, rfl, hcell⟩ := own_at O8.out q0
          have c0 := hcell 0 b0 q1
          have c255 := hcell 255 b1 q2
          have eb := (H7.out.fa F8.out).at hi8 hi9
          unfold bv at eb
          have F8D := Lib.hid ((F7.out.trans F8.out).drew)
          have hla1 := laid_any l (.slice ad l.length vcap) sp w8.drew (HSL.out _ F8D.out) hl60 (firm (i / 8) (i % 8)) b0 (i / 8) (i % 8) _ _ rfl rfl
          have hla2 := laid_any l (.slice ad l.length vcap) sp w8.drew (HSL.out _ F8D.out) hl60 (firm (i / 8) (i % 8)) b1 (i / 8) (i % 8) _ _ rfl rfl
          rw [laidK_yes p0, ED.out.1, ED.out.2] at hla1
          rw [laidK_yes p1, ED.out.1, ED.out.2] at hla2
          have hsame : (tellAt s3 ((i / 8 : Nat) : Int) ((i % 8 : Nat) : Int) == ofL b0) = !oddAt s3 i := by
            unfold oddAt oddB
            rw [headD_of q1, Bool.not_not]
          have HSAME := Lib.hid hsame
          clear hcell p0 p1 q0 q1 q2 hsame
          refine wp_region_still_lit (by kernel_rfl) (by kernel_rfl) ?_
          change wpStill _ _ (World.drew _) _ _ _
          repeat still_step
          still_call hla1
          repeat still_step
          still_call hla2
          repeat still_step
          refine wpStill_nil ?_
          change Exit.then _ _ _ _ (World.drew w8)
          obtain ⟨q, Hq⟩ : ∃ q, oddAt s3 i = q := ⟨_, rfl⟩
          have HQ := Lib.hid Hq
          rw [Hq] at HSAME
          have c0d : w8.drew.cell? ⟨gb, 0, none⟩ = some (.int .u8 b0.toNat) := c0
          clear Hq hla1 hla2 c0 c255 eb
          cases q
          · have hc : cntB (oddAt s3) (i + 1) = cntB (oddAt s3) i + 0 := by
              show cntB (oddAt s3) i + (if oddAt s3 i = true then 1 else 0) = _
              rw [HQ.out]
              rfl
            have HC := Lib.hid hc
            clear hc
            go_upto_region 17 with (first
              | (go_at_call 29; refine (of_at (lo := lo) b0 _ rfl).mono ?_; rintro e w9 ⟨v9, rfl, hv, f0⟩; have F9 := Lib.hid f0; have V := Lib.hid hv; clear f0 hv)
              | (go_at_call 36; refine (Same_any _ _ (tellAt s3 ((i / 8 : Nat) : Int) ((i % 8 : Nat) : Int)) _ (ofL b0) _ _ ((O8.out.keep (((Frm.refl [] w8).drew).trans F9.out (by simp)) (by simp)).sl) (V.out _ (Fa.refl _ _))).mono ?_; rintro e w10 ⟨rfl, hw1⟩; obtain rfl := hw1.symm; rw [HSAME.out]))
            go_wp2_with fail
            go_roundw
            case rel => exact ⟨i + 1, by omega, by go_num, by rw [HC.out]; first | rfl | go_num, A8.out.drew.keep0 F9.out, (H7.out.fa F8.out).frm (((Frm.refl [] w8).drew).trans F9.out (by simp)) (by simp), F8D.out.trans (Fa.of0 F9.out lo)⟩
            case measure => simp [intOf]; omega
          · have hc : cntB (oddAt s3) (i + 1) = cntB (oddAt s3) i + 1 := by
              show cntB (oddAt s3) i + (if oddAt s3 i = true then 1 else 0) = _
              rw [HQ.out]
              rfl
            have HC := Lib.hid hc
            clear hc
            go_upto_region 17 with (first
              | (go_at_call 29; refine (of_at (lo := lo) b0 _ rfl).mono ?_; rintro e w9 ⟨v9, rfl, hv, f0⟩; have F9 := Lib.hid f0; have V := Lib.hid hv; clear f0 hv)
              | (go_at_call 36; refine (Same_any _ _ (tellAt s3 ((i / 8 : Nat) : Int) ((i % 8 : Nat) : Int)) _ (ofL b0) _ _ ((O8.out.keep (((Frm.refl [] w8).drew).trans F9.out (by simp)) (by simp)).sl) (V.out _ (Fa.refl _ _))).mono ?_; rintro e w10 ⟨rfl, hw1⟩; obtain rfl := hw1.symm; rw [HSAME.out]))
            go_wp2_with fail
            go_roundw
            case rel => exact ⟨i + 1, by omega, by go_num, by rw [HC.out]; first | rfl | go_num, A8.out.drew.keep0 F9.out, (H7.out.fa F8.out).frm (((Frm.refl [] w8).drew).trans F9.out (by simp)) (by simp), F8D.out.trans (Fa.of0 F9.out lo)⟩
            case measure => simp [intOf]; omega
        · obtain rfl : i = 16 := by omega
          have h1 := CZ.out.one
          by_cases h0 : s.row = []
          · have hc := CZ.out.non (by rw [h0]; rfl)
            have hr0 : (s.row.length : Int) = 0 := by rw [h0]; rfl
            rw [hc, hr0]
            go_wp2_with fail
            go_ret
            exact ⟨rfl, F7.out⟩
          · have hr0 : ¬ (s.row.length : Int) = 0 := by
              have := List.length_pos_iff.2 h0
              omega
            obtain ⟨c, hc⟩ : ∃ c, cntB (oddAt s3) 16 = c := ⟨_, rfl⟩
            rw [hc] at h1 ⊢
            have h1' : (c : Int) ≤ 1 := by omega
            clear hcl hcl2
            go_wp2_with fail
            go_ret
            exact ⟨rfl, F7.out⟩
end
end Go.Proofs.YtdebnikolhhmgaaDoor
