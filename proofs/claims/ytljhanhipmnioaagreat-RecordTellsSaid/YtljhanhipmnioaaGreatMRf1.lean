/-
  Contracts of pointer: Check, and what it calls. No conditions but those that each theorem names. Contract of Bytes, of the answer of the document. No conditions but those that each theorem names. Plain facts of names: parts, cuts at the first mark, the order; of no program. No conditions but those that each theorem names. Rows of elements of k cells each: read, owned, appended to; of no program. No conditions but those that each law names. Boxes of records and of tables; within, the program's and the document's. No conditions but those that each theorem names. Contract of the document's Find. No conditions but those that each theorem names. Contracts of the library's search by a function, at foreign; of a part; of the document's part. No conditions but those that each theorem names. Contracts of the library's cut at the mark, of its clone, and of the document's cut. No conditions but those that each theorem names. Contracts of Snapshot, Split, Join, and of the document's. No conditions but those that each theorem names. Contracts of pieces, Less, the document's Less, splits; the chapter's examples. No conditions but those that each theorem names. Contracts of the checks of one record, the program's and the document's. No conditions but those that each theorem names. The kin of a record, of the document. No conditions but those that each theorem names.
-/
import Derived.Test.YtljhanhipmnioaaGreatMRa1
import Derived.Test.YtljhanhipmnioaaGreatMRa2
import Derived.Test.YtljhanhipmnioaaGreatMRa3
import Derived.Test.YtljhanhipmnioaaGreatMRa4
import Derived.Test.YtljhanhipmnioaaGreatMRa5
import Derived.Test.YtljhanhipmnioaaGreatMRa6
import Derived.Test.YtljhanhipmnioaaGreatMRa7
import Derived.Test.YtljhanhipmnioaaGreatMRa8
import Derived.Test.YtljhanhipmnioaaGreatMRa9
import Derived.Test.YtljhanhipmnioaaGreatMRa10
import Derived.Test.YtljhanhipmnioaaGreatMRb1
import Derived.Test.YtljhanhipmnioaaGreatChecked
import Derived.ChangeKeysEq
import Derived.Deep.MidRow
import Derived.Deep.RegionHeld3
import Derived.OpenShut
import Derived.Lib.Hide
import Derived.WalkHide
import Derived.IntWalk
import Derived.StillTailTactics
import Derived.Deep.RegionLaw
import Derived.Deep.RegionWith
import Derived.Deep.QuietTactic
import Derived.BigQuiet
import Derived.OrdersHeld
import Derived.Deep.CutBlock
import Derived.Deep.DeepCutAuto
import Derived.Deep.Slices
import Derived.Defers
import Derived.Recover
import Derived.Lib.Bytealg
import Derived.Lib.TrimUEq
import Derived.Lib.MinMaxS
import Derived.LaidEqlPtr
import Derived.Deep.Cut
import Derived.Deep.LoopGhost
import Derived.Lib.BufferWrite
import Derived.Lib.UnsafeStr
import Derived.Laws.MakeOwn
import Derived.Laws.Strings3
import Derived.BigRegion
import Derived.Lib.Walk
import Derived.WalkKit
import Derived.WalkSpells
import Derived.WalkLawsBesides
import Derived.Deep.AppendSrc
import Derived.Laws.CopyOwn
import Derived.Laws.BytesArg
import Derived.Carry
import Derived.Laws.BytesString
import Derived.Deep.SlicePairs
import Derived.Deep.WholeRow
import Derived.Lib.OthersKept
import Derived.Deep.Draws
import Derived.WalkMore
namespace Go.Proofs.YtljhanhipmnioaaGreat.Pt
open Go.RowKit
set_option linter.unusedVariables false
set_option maxRecDepth 100000
set_option linter.unusedSimpArgs false

section
variable {P : Program} {tS T : TypeId} {w : World} {v x : Value} {l sp m msp : List Ad}
end
end Go.Proofs.YtljhanhipmnioaaGreat.Pt

namespace Go.Proofs.YtljhanhipmnioaaGreat.Pt
open Go.RowKit
set_option linter.unusedVariables false
set_option linter.unusedSimpArgs false
set_option maxRecDepth 100000

end Go.Proofs.YtljhanhipmnioaaGreat.Pt

namespace Go.Proofs.YtljhanhipmnioaaGreat.Pt
open Go.RowKit
set_option linter.unusedVariables false
set_option linter.unusedSimpArgs false
set_option maxRecDepth 100000

end Go.Proofs.YtljhanhipmnioaaGreat.Pt

namespace Go.Proofs.YtljhanhipmnioaaGreat.Pt
open Go.RowKit
set_option linter.unusedVariables false
set_option linter.unusedSimpArgs false
set_option maxRecDepth 100000

end Go.Proofs.YtljhanhipmnioaaGreat.Pt

namespace Go.Proofs.YtljhanhipmnioaaGreat.Pt
open Go.RowKit
set_option linter.unusedVariables false
set_option linter.unusedSimpArgs false
set_option maxRecDepth 100000

end Go.Proofs.YtljhanhipmnioaaGreat.Pt

namespace Go.Proofs.YtljhanhipmnioaaGreat.Pt
open Go.RowKit
set_option linter.unusedVariables false
set_option linter.unusedSimpArgs false
set_option maxRecDepth 100000

end Go.Proofs.YtljhanhipmnioaaGreat.Pt

namespace Go.Proofs.YtljhanhipmnioaaGreat.Pt
open Go.RowKit
set_option linter.unusedVariables false
set_option linter.unusedSimpArgs false
set_option maxRecDepth 100000

end Go.Proofs.YtljhanhipmnioaaGreat.Pt

namespace Go.Proofs.YtljhanhipmnioaaGreat.Pt
open Go.RowKit
set_option linter.unusedVariables false
set_option linter.unusedSimpArgs false
set_option maxRecDepth 100000

end Go.Proofs.YtljhanhipmnioaaGreat.Pt

namespace Go.Proofs.YtljhanhipmnioaaGreat.Pt
open Go.RowKit
set_option linter.unusedVariables false
set_option linter.unusedSimpArgs false
set_option maxRecDepth 100000

end Go.Proofs.YtljhanhipmnioaaGreat.Pt

namespace Go.Proofs.YtljhanhipmnioaaGreat.Pt
open Go.RowKit
set_option linter.unusedVariables false
set_option linter.unusedSimpArgs false
set_option maxRecDepth 100000

end Go.Proofs.YtljhanhipmnioaaGreat.Pt

namespace Go.Proofs.YtljhanhipmnioaaGreat.Pt
open Go.RowKit
set_option linter.unusedVariables false
set_option linter.unusedSimpArgs false
set_option maxRecDepth 100000

end Go.Proofs.YtljhanhipmnioaaGreat.Pt

namespace Go.Proofs.YtljhanhipmnioaaGreat.Pt
open Go.RowKit
set_option linter.unusedVariables false
set_option linter.unusedSimpArgs false
set_option maxRecDepth 100000

end Go.Proofs.YtljhanhipmnioaaGreat.Pt

namespace Go.Proofs.YtljhanhipmnioaaGreat.Pt
open Go.RowKit
set_option linter.unusedVariables false
set_option maxRecDepth 100000
set_option linter.unusedSimpArgs false

end Go.Proofs.YtljhanhipmnioaaGreat.Pt

namespace Go.Proofs.YtljhanhipmnioaaGreat.Pt
open Go.RowKit
set_option linter.unusedVariables false
set_option linter.unusedSimpArgs false
set_option maxRecDepth 100000

end Go.Proofs.YtljhanhipmnioaaGreat.Pt

namespace Go.Proofs.YtljhanhipmnioaaGreat.Pt
open Go.RowKit
set_option linter.unusedVariables false
set_option linter.unusedSimpArgs false
set_option maxRecDepth 100000

end Go.Proofs.YtljhanhipmnioaaGreat.Pt

namespace Go.Proofs.YtljhanhipmnioaaGreat.Pt
open Go.RowKit
set_option linter.unusedVariables false
set_option linter.unusedSimpArgs false
set_option maxRecDepth 100000

theorem int_len (n : Nat) : ((n : Int) == 0) = decide (n = 0) := by rw [Bool.eq_iff_iff]; simp
theorem len0 (l : List Ad) : decide (l.length = 0) = (l == []) := by rw [Bool.eq_iff_iff]; simp
set_option maxHeartbeats 1000000 in
theorem RefHole_any (x : Value) (p : Pt) (w : World) (hp : PtV w x p) :
    Calls Tryz.prog 165 #[x] w fun e w' => e = .returned (.bool (hole p)) ∧ Frm [] w w' := by
  obtain ⟨a, cap, sp, rfl, s1, z1⟩ := hp
  obtain ⟨ads, b, l, s⟩ := p
  have B1 := PB.new w (.slice a ads.length cap) b l s
  have f : Frm [] w (w.alloc (.cells (pc (.slice a ads.length cap) b l s).toArray 54)) := (Frm.refl [] w).alloc _
  have hq : (binOp .eql 52 (idv s) (idv (List.replicate 32 0))).run Tryz.prog = _ := funext fun W => eql24 s _ z1 (by simp) W
  have hg := fun op x y W => agg_guard op x y s (List.replicate 32 0) W
  have hres : hole ⟨ads, b, l, s⟩ = (decide (ads.length = 0) && (b == 0) && (l == 0) && (s == List.replicate 32 0)) := by simp only [hole, same, zeroPt, len0]
  rw [hres]
  clear hres s1
  simp only at *
  generalize ads.length = n at *
  generalize hz : List.replicate 32 (0 : UInt8) = zz at *
  unfold pv
  generalize hA : (pc (.slice a n cap) b l s).toArray = A at *
  have HZ := Lib.hid (show Value.agg #[.int .u8 0, .int .u8 0, .int .u8 0, .int .u8 0, .int .u8 0, .int .u8 0, .int .u8 0, .int .u8 0, .int .u8 0, .int .u8 0, .int .u8 0, .int .u8 0, .int .u8 0, .int .u8 0, .int .u8 0, .int .u8 0, .int .u8 0, .int .u8 0, .int .u8 0, .int .u8 0, .int .u8 0, .int .u8 0, .int .u8 0, .int .u8 0, .int .u8 0, .int .u8 0, .int .u8 0, .int .u8 0, .int .u8 0, .int .u8 0, .int .u8 0, .int .u8 0] = idv zz by subst hz; rfl)
  clear hz
  go_enter Tryz.func165, Tryz.ntmps165
  go_upto_region 1 with (fail)
  generalize w.alloc (.cells A 54) = W at *
  have G1 := B1.gets z1
  have c0 := G1.c0
  have c1 := G1.c1
  have c2 := G1.c2
  have G1h := Lib.hid G1
  clear hA G1 B1
  go_wp2_with (first | refine wpList_load_g (by rfl) 52 _ rfl _ rfl G1h.out.sum ?_ | (rw [HZ.out]))
  all_goals
    go_ret
    refine ⟨?_, f⟩
    simp_all [int_len]
end Go.Proofs.YtljhanhipmnioaaGreat.Pt

namespace Go.Proofs.YtljhanhipmnioaaGreat.Pt
open Go.RowKit
set_option linter.unusedVariables false
set_option linter.unusedSimpArgs false
set_option maxRecDepth 100000

end Go.Proofs.YtljhanhipmnioaaGreat.Pt

namespace Go.Proofs.YtljhanhipmnioaaGreat.Pt
open Go.RowKit
set_option linter.unusedVariables false
set_option linter.unusedSimpArgs false
set_option maxRecDepth 100000

def Says (p : Prop) (w : World) (e : Ending) (w' : World) : Prop := (e = .returned (.bool true) ∧ p ∨ e = .returned (.bool false) ∧ ¬ p) ∧ Frm [] w w'
def AdsMay (l : List Ad) : Prop := (1 ≤ l.length ∧ l.length ≤ 3) ∧ AdsOk l
def OkRel (l : List Ad) (w0 : World) (cv : Value) (wr : World) : Prop := ∃ k : Nat, k ≤ l.length ∧ cv = .int .i64 k ∧ (∀ j, j < k → adOk l j) ∧ Frm [] w0 wr
theorem says_no {p : Prop} {w w' : World} (h : ¬ p) (f : Frm [] w w') : Says p w (.returned (.bool false)) w' := ⟨Or.inr ⟨rfl, h⟩, f⟩
set_option maxHeartbeats 4000000 in
theorem RefAddrs_any (v : Value) (l sp : List Ad) (w : World) (hS : SlA w v l sp) (hl : l.length ≤ 1000000) : Calls Tryz.prog 190 #[v] w (Says (AdsMay l) w) := by
  obtain ⟨a, cap, rfl, _, _⟩ := hS.form
  have HS := Lib.hid hS
  have hl9 : (l.length : Int) ≤ 1000000 := by omega
  clear hS hl
  go_enter Tryz.func190, Tryz.ntmps190
  go_wp2_with fail
  go_loopw [3] (OkRel l w) (fun cv _ => l.length - (intOf cv).toNat)
  case atStart => exact ⟨0, by omega, rfl, fun j hj => by omega, Frm.refl _ _⟩
  case round =>
    obtain ⟨k, hk, rfl, hok, f⟩ := hrel
    have HOK := Lib.hid hok
    have Fk := Lib.hid f
    clear hok f
    by_cases hlt : k < l.length
    · obtain ⟨b0, off, rfl⟩ := HS.out.at (by omega)
      obtain ⟨e0, e1⟩ := (HS.out.keep Fk.out (by simp)).cells k hlt
      have hx : l[k]? = some l[k] := List.getElem?_eq_getElem hlt
      generalize l[k] = y at *
      have HX := Lib.hid hx
      have H2 := Lib.hid hlt
      clear hx
      have hno : ¬ ((0 ≤ y.1 ∧ y.1 ≤ 7) ∧ (5 ≤ y.2 ∧ y.2 ≤ 4095)) → ¬ AdsMay l := fun h h2 => by
        have := h2.2 k H2.out y HX.out
        exact h ⟨this.1, this.2.1⟩
      have HNO := Lib.hid hno
      clear hno
      by_cases hg : (0 ≤ y.1 ∧ y.1 ≤ 7) ∧ (5 ≤ y.2 ∧ y.2 ≤ 4095)
      · have HG := Lib.hid hg
        obtain ⟨⟨g1, g2⟩, g3, g4⟩ := hg
        go_wp2_with fail
        clear e0 e1
        go_loopw [4] (InRel l y k wr) (fun cv _ => k - (intOf cv).toNat)
        case atStart => exact ⟨0, by omega, rfl, fun j hj => by omega, Frm.refl _ _⟩
        case round =>
          obtain ⟨i, hi, rfl, hdi, fi⟩ := hrel
          have HDI := Lib.hid hdi
          have FI := Lib.hid (Fk.out.trans fi (by simp))
          have fi2 := Lib.hid fi
          clear hdi fi
          by_cases hik : i < k
          · have hil : i < l.length := by omega
            have hz : l[i]? = some l[i] := List.getElem?_eq_getElem hil
            obtain ⟨e0, e1⟩ := (HS.out.keep FI.out (by simp)).cells i hil
            have hky : l[k]'H2.out = y := by
              have := HX.out
              rw [List.getElem?_eq_getElem H2.out] at this
              exact Option.some.inj this
            obtain ⟨q0, q1⟩ := (HS.out.keep FI.out (by simp)).cells k H2.out
            rw [hky] at q0 q1
            clear hky
            generalize l[i] = z at *
            have HZ := Lib.hid hz
            clear hz e1 q1
            by_cases he : z.1 = y.1
            · have E := Lib.hid (show ¬ AdsMay l from fun h2 => (h2.2 k H2.out y HX.out).2.2 i hik z HZ.out he.symm)
              have he' : (z.1 == y.1) = true := by simpa using he
              rw [he] at e0
              go_wp2_with fail
              go_quiet (fail)
              go_wp2_with fail
              go_ret
              exact says_no E.out (FI.out.drewN _)
            · have he' : (z.1 == y.1) = false := by simpa using he
              have HE := Lib.hid he
              clear he
              go_wp2_with fail
              go_quiet (fail)
              go_wp2_with fail
              go_roundw
              case rel =>
                refine ⟨i + 1, by omega, by go_num, fun j hj y' hy' => ?_, fi2.out.drewN _⟩
                rcases Nat.lt_or_ge j i with h | h
                · exact HDI.out j h y' hy'
                · obtain rfl : j = i := by omega
                  rw [HZ.out] at hy'
                  cases hy'
                  exact fun e => HE.out e.symm
              case measure => simp [intOf]; omega
          · obtain rfl : i = k := by omega
            go_wp2_with fail
            go_roundw
            case rel =>
              refine ⟨i + 1, H2.out, by go_num, fun j hj => ?_, FI.out⟩
              rcases Nat.lt_or_ge j i with h | h
              · exact HOK.out j h
              · obtain rfl : j = i := by omega
                intro x hx
                rw [HX.out] at hx
                cases hx
                exact ⟨HG.out.1, HG.out.2, HDI.out⟩
            case measure => simp [intOf]; omega
      · have E := Lib.hid (HNO.out hg)
        clear HNO
        go_wp2_with fail
        all_goals
          go_ret
          exact says_no E.out Fk.out
    · obtain rfl : k = l.length := by omega
      have hA : AdsOk l := fun j hj => HOK.out j hj
      by_cases h1 : 1 ≤ l.length
      · by_cases h3 : l.length ≤ 3
        · go_wp2_with fail
          go_ret
          exact ⟨Or.inl ⟨ret_bool (by simp; omega), ⟨h1, h3⟩, hA⟩, Fk.out⟩
        · go_wp2_with fail
          go_ret
          exact ⟨Or.inr ⟨ret_bool (by simp; omega), fun h => h3 h.1.2⟩, Fk.out⟩
      · go_wp2_with fail
        go_ret
        exact ⟨Or.inr ⟨ret_bool (by simp <;> omega), fun h => h1 h.1.1⟩, Fk.out⟩
end Go.Proofs.YtljhanhipmnioaaGreat.Pt

namespace Go.Proofs.YtljhanhipmnioaaGreat.Pt
open Go.RowKit
set_option linter.unusedVariables false
set_option linter.unusedSimpArgs false
set_option maxRecDepth 100000

set_option maxHeartbeats 4000000 in
theorem RefCheck_any (x : Value) (p : Pt) (w : World) (hp : PtV w x p) (hl : p.ads.length ≤ 1000000) :
    Calls Tryz.prog 128 #[x] w fun e w' => e = .returned (.int .i64 (chk p)) ∧ Frm [] w w' := by
  have hC := fun W (f : Frm [] w W) => RefHole_any x p W (hp.keep0 f)
  obtain ⟨a, cap, sp, rfl, hS, hs⟩ := hp
  have hD := fun W (f : Frm [] w W) => RefAddrs_any (.slice a p.ads.length cap) p.ads sp W (hS.keep f (by simp)) hl
  have B1 := PB.new w (.slice a p.ads.length cap) p.b p.l p.s
  have f : Frm [] w (w.alloc (.cells (pc (.slice a p.ads.length cap) p.b p.l p.s).toArray 54)) := (Frm.refl [] w).alloc _
  have hA0 : pv (.slice a p.ads.length cap) p.b p.l p.s = .agg (pc (.slice a p.ads.length cap) p.b p.l p.s).toArray := rfl
  have HA0 := Lib.hid hA0
  have HC := Lib.hid hC
  have HD := Lib.hid hD
  have hc1 : may p → chk p = 0 := fun h => by simp [chk, (mayB_iff p).2 h]
  have hc2 : ¬ may p → chk p = 2 := fun h => by simp [chk, (mayB_not p).2 h]
  have hm : ∀ (h : hole p = false), may p ↔ (AdsMay p.ads ∧ (1 ≤ p.b ∧ p.b ≤ 2147483648) ∧ (0 ≤ p.l ∧ p.l ≤ 3)) := fun h => by
    unfold may MayRest AdsMay
    rw [h]
    simp [and_assoc]
  have HC1 := Lib.hid hc1
  have HC2 := Lib.hid hc2
  have HM := Lib.hid hm
  rw [hA0]
  clear hA0 hC hD hS hc1 hc2 hm hl
  generalize hA : (pc (.slice a p.ads.length cap) p.b p.l p.s).toArray = A at *
  generalize p.ads.length = n at *
  go_enter Tryz.func128, Tryz.ntmps128
  go_upto_region 1 with (fail)
  generalize w.alloc (.cells A 54) = W at *
  have B1h := Lib.hid B1
  have G0 := Lib.hid (B1.gets hs)
  clear hA B1
  cases hh : hole p with
  | true =>
    rw [hh] at HC
    go_wp2_with (first | ((with_reducible (show wpList _ _ _ (Oper.mk _ (Op.load 54 _) _ _ _ _ :: _) _ _)); refine wpList_load_g (by rfl) 54 _ rfl _ rfl G0.out.all ?_) | (go_at_call 165; refine (HC.out _ f).mono ?_; rintro r w2 ⟨rfl, f2⟩))
    go_ret
    exact ⟨by rw [HC1.out (Or.inl hh)]; rfl, f.trans f2 (by simp)⟩
  | false =>
    have HMM := Lib.hid (HM.out hh)
    rw [hh] at HC
    clear hh
    go_upto_region 3 with (first | ((with_reducible (show wpList _ _ _ (Oper.mk _ (Op.load 54 _) _ _ _ _ :: _) _ _)); refine wpList_load_g (by rfl) 54 _ rfl _ rfl G0.out.all ?_) | (go_at_call 165; refine (HC.out _ f).mono ?_; rintro r w2 ⟨rfl, f2⟩))
    have F2 := Lib.hid (f.trans f2 (by simp))
    have G2 := (B1h.out.keep f2 (by simp)).gets hs
    have c0 := G2.c0
    have B2 := Lib.hid (B1h.out.keep f2 (by simp))
    clear G2 f f2 G0 HC
    go_wp2_with (go_at_call 190; refine (HD.out _ F2.out).mono ?_; rintro r w3 ⟨⟨rfl, ha⟩ | ⟨rfl, ha⟩, f3⟩ <;> (have G3 := (B2.out.keep f3 (by simp)).gets hs; have c1 := G3.c1; have c2 := G3.c2; have F3 := Lib.hid (F2.out.trans f3 (by simp)); clear G3 f3))
    all_goals
      go_ret
      first
        | exact ⟨by rw [HC2.out (fun h => by have := HMM.out.1 h; first | exact ha this.1 | omega)]; rfl, F3.out⟩
        | exact ⟨by rw [HC1.out (HMM.out.2 ⟨ha, by omega, by omega⟩)]; rfl, F3.out⟩
end Go.Proofs.YtljhanhipmnioaaGreat.Pt

namespace Go.Proofs.YtljhanhipmnioaaGreat.Pt
open Go.RowKit
set_option linter.unusedVariables false
set_option linter.unusedSimpArgs false
set_option maxRecDepth 100000

end Go.Proofs.YtljhanhipmnioaaGreat.Pt

namespace Go.Proofs.YtljhanhipmnioaaGreat.Pt
open Go.RowKit
set_option linter.unusedVariables false
set_option maxRecDepth 100000
set_option linter.unusedSimpArgs false

end Go.Proofs.YtljhanhipmnioaaGreat.Pt

namespace Go.Proofs.YtljhanhipmnioaaGreat.Pt
open Go.RowKit
set_option linter.unusedVariables false
set_option linter.unusedSimpArgs false
set_option maxRecDepth 100000

end Go.Proofs.YtljhanhipmnioaaGreat.Pt

namespace Go.Proofs.YtljhanhipmnioaaGreat.Pt
open Go.RowKit
set_option linter.unusedVariables false
set_option linter.unusedSimpArgs false
set_option maxRecDepth 100000

end Go.Proofs.YtljhanhipmnioaaGreat.Pt

namespace Go.Proofs.YtljhanhipmnioaaGreat.Pt
open Go.RowKit
set_option linter.unusedVariables false
set_option linter.unusedSimpArgs false
set_option maxRecDepth 100000

/-- The part of a pointer's block where its sum stands, as a slice. -/
theorem sum_slB {w : World} {g : Nat} {v : Value} {b l : Int} {s : List UInt8} (h : PB w g v b l s) (hs : s.length = 32) : SlB w (.slice (some ⟨g, 3, none⟩) 32 32) s [] := by
  refine ⟨by simp [bvs_length], .inr (.inr ⟨g, 3, 32, by rw [hs], by omega, by simp [maxLen], by simp [bvs, hs], fun i u hu => ?_⟩)⟩
  rw [cell_of_heap h]
  simpa [pc, Nat.add_comm 3 i, bvs] using hu
theorem bv_eq {x : Int} {b : UInt8} (h : x = b.toNat) : Value.int .u8 x = bv b := by rw [h]; rfl
/-- A slice of bytes in memory that is newer than W0, nothing else that was there changed. -/
structure Inv (W0 w : World) (v : Value) (l : List UInt8) (B : Nat) : Prop where
  own : ∃ sp, OwnB 5 w v l sp
  frm : Frm [] W0 w
  new : ∀ i ∈ blk v, W0.heap.size ≤ i
  len : l.length ≤ B
theorem wpList_app {P : Program} {tS : TypeId} (BB : ByteTys P tS 5) {W0 w w2 : World} {ops : Array Oper} {rest : List Oper} {o : Oper} {a : Act} {Q : Exit → Act → World → Prop}
    {v y : Value} {l m msp : List UInt8} {B : Nat} (hI : Inv W0 w v l B) (hf : Frm [] w w2) (hS : SlB w2 y m msp) (hB : B + m.length ≤ 1000)
    (hg : o.guard = none) (s x : Operand) (hop : o.op = Op.call { callee := Callee.builtin Builtin.append, args := #[s, x], argTypes := #[tS, tS] }) (hs : a.eval s = v) (hx : a.eval x = y)
    (k : ∀ a' cap' w', Inv W0 w' (.slice a' (l ++ m).length cap') (l ++ m) (B + m.length) → wpList P ops Q rest (a.put o.dst (.slice a' (l ++ m).length cap')) w') :
    wpList P ops Q (o :: rest) a w2 := by
  obtain ⟨sp, hO⟩ := hI.own
  have hl := hI.len
  refine wpList_append_bytes BB (hO.keep hf (by simp)) hS (by omega) hg s x hop hs hx ?_
  intro a' cap' w' sp' o1 f1 b1
  rw [← List.length_append] at o1 b1 ⊢
  have f2 := hI.frm.trans hf (by simp)
  refine k a' cap' w' ⟨⟨sp', o1⟩, f2.trans f1 (fun i hi => .inr (hI.new i hi)), fun i hi => ?_, by simp; omega⟩
  rcases b1 i hi with h | h
  · exact hI.new i h
  · exact Nat.le_trans f2.size h
set_option maxHeartbeats 8000000 in
theorem refBytes0 (xa : Option Addr) (cap : Nat)  (asp : List Ad) (b lv : Nat) (s : List UInt8) (w : World) (hm : may (ptN [] b lv s)) (hS : SlA w (.slice xa 0 cap) (([] : List (Nat × Nat)).map adI) asp) (hs : s.length = 32)
    (hb : ∀ x ∈ ([] : List (Nat × Nat)), x.1 < 8 ∧ x.2 < 4096) (hb4 : b ≤ 2147483648) (hlv : lv ≤ 3) : Calls Tryz.prog 65 #[pv (.slice xa 0 cap) b lv s] w (BytesP (ptN [] b lv s) w) := by
  have hC := fun W (f : Frm [] w W) => RefCheck_any (pv (.slice xa 0 cap) b lv s) (ptN [] b lv s) W ⟨xa, cap, asp, rfl, hS.keep f (by simp), hs⟩ (by simp [ptN])
  rw [show chk (ptN [] b lv s) = 0 by simp [chk, (mayB_iff _).2 hm]] at hC
  have hen : enc (ptN [] b lv s) = ptB [] b lv s := by simp [enc, ptN, adI]
  have B1 := PB.new w (.slice xa 0 cap) b lv s
  have f : Frm [] w (w.alloc (.cells (pc (.slice xa 0 cap) b lv s).toArray 54)) := (Frm.refl [] w).alloc _
  have hA0 : pv (.slice xa 0 cap) b lv s = .agg (pc (.slice xa 0 cap) b lv s).toArray := rfl
  have HA0 := Lib.hid hA0
  have HM := Lib.hid hm
  have HEN := Lib.hid hen
  have HC := Lib.hid hC
  have HS32 := Lib.hid hs
  have hb4' : (b : Int) ≤ 2147483648 := by omega
  have hlv' : (lv : Int) ≤ 3 := by omega
  have HB4 := Lib.hid hb4
  have HLV := Lib.hid hlv
  clear hb4 hlv
  rw [hA0]
  clear hA0 hC hS hm hen hb
  generalize hA : (pc (.slice xa 0 cap) b lv s).toArray = A at *
  go_enter Tryz.func65, Tryz.ntmps65
  go_upto_region 1 with (fail)
  have hgl : w.heap.size < (w.alloc (.cells A 54)).heap.size := by simp
  generalize w.alloc (.cells A 54) = W at *
  have B1h := Lib.hid B1
  have G0 := Lib.hid (B1.gets hs)
  clear hA B1
  go_upto_region 3 with (first | ((with_reducible (show wpList _ _ _ (Oper.mk _ (Op.load 54 _) _ _ _ _ :: _) _ _)); refine wpList_load_g (by rfl) 54 _ rfl _ rfl G0.out.all ?_) | (go_at_call 128; refine (HC.out _ f).mono ?_; rintro r w0 ⟨rfl, f2⟩))
  have F0 := Lib.hid (f.trans f2 (by simp))
  have B2 := Lib.hid (B1h.out.keep f2 (by simp))
  have HG := Lib.hid (Nat.lt_of_lt_of_le hgl f2.size)
  have c0 := (B2.out.gets hs).c0
  clear f2 f HC G0 B1h hs hgl
  go_upto_region 4 with (fail)
  have i0 : Inv w0 (w0.alloc (.cells #[.int .u8 0] 5)) (.slice (some ⟨w0.heap.size, 0, none⟩) (be1 0).length 1) (be1 0) 1 := ⟨⟨[], OwnB.of_heap (by rw [heap_alloc_new]; rfl) rfl rfl (by simp [maxLen])⟩, (Frm.refl [] w0).alloc _, fun i hi => by simp [blk] at hi; omega, by simp [be1]⟩
  rw [show (Value.slice (some ⟨w0.heap.size, 0, none⟩) 1 1) = Value.slice (some ⟨w0.heap.size, 0, none⟩) (be1 0).length 1 from rfl]
  generalize hl0 : be1 0 = l0 at *
  have HY0 := Lib.hid hl0
  have I0 := Lib.hid i0
  clear hl0 i0 c0
  generalize w0.alloc (.cells #[.int .u8 0] 5) = v0 at *
  go_wp2_with fail
  refine wp_loop_rounds 4 ?_
  have lt0 := Nat.lt_of_lt_of_le HG.out I0.out.frm.size
  have G0 := (B2.out.keep I0.out.frm (by simp)).gets HS32.out
  have c0_0 := G0.c0
  rw [rounds_succ]
  go_wp2_with (at_builtin; refine wpList_app BT I0.out (((Frm.refl [] _).alloc _).alloc _) (lst_slB (l := [(0 : UInt8), 0, 0]) (n := 3) (heap_alloc_at (by simp)) rfl rfl (by simp)) (by simp) rfl (.tmp 31) (.tmp 43) rfl rfl rfl ?_; intro a1 cap1 v1 i1; generalize hy1 : l0 ++ [(0 : UInt8), 0, 0] = l1 at *; have HY1 := Lib.hid hy1; have I1 := Lib.hid i1; clear hy1 i1)
  clear lt0 G0 c0_0
  have lt1 := Nat.lt_of_lt_of_le HG.out I1.out.frm.size
  have G1 := (B2.out.keep I1.out.frm (by simp)).gets HS32.out
  have c0_1 := G1.c0
  rw [rounds_succ]
  go_wp2_with (at_builtin; refine wpList_app BT I1.out (((Frm.refl [] _).alloc _).alloc _) (lst_slB (l := [(0 : UInt8), 0, 0]) (n := 3) (heap_alloc_at (by simp)) rfl rfl (by simp)) (by simp) rfl (.tmp 31) (.tmp 43) rfl rfl rfl ?_; intro a2 cap2 v2 i1; generalize hy1 : l1 ++ [(0 : UInt8), 0, 0] = l2 at *; have HY2 := Lib.hid hy1; have I2 := Lib.hid i1; clear hy1 i1)
  clear lt1 G1 c0_1
  have lt2 := Nat.lt_of_lt_of_le HG.out I2.out.frm.size
  have G2 := (B2.out.keep I2.out.frm (by simp)).gets HS32.out
  have c0_2 := G2.c0
  rw [rounds_succ]
  go_wp2_with (at_builtin; refine wpList_app BT I2.out (((Frm.refl [] _).alloc _).alloc _) (lst_slB (l := [(0 : UInt8), 0, 0]) (n := 3) (heap_alloc_at (by simp)) rfl rfl (by simp)) (by simp) rfl (.tmp 31) (.tmp 43) rfl rfl rfl ?_; intro a3 cap3 v3 i1; generalize hy1 : l2 ++ [(0 : UInt8), 0, 0] = l3 at *; have HY3 := Lib.hid hy1; have I3 := Lib.hid i1; clear hy1 i1)
  clear lt2 G2 c0_2
  rw [rounds_succ]
  go_wp2_with fail
  refine wp_loop_rounds 5 ?_
  have lt3 := Nat.lt_of_lt_of_le HG.out I3.out.frm.size
  have G3 := (B2.out.keep I3.out.frm (by simp)).gets HS32.out
  have c1_3 := G3.c1
  rw [rounds_succ]
  go_wp2_with (at_builtin; refine wpList_app BT I3.out ((Frm.refl [] _).alloc _) (lst_slB (l := [UInt8.ofNat (b / 16777216)]) (n := 1) (heap_alloc_at rfl) (by have := HB4.out; simp only [bvs, List.map_cons, List.map_nil]; rw [bv_eq]; rw [UInt8.toNat_ofNat']; omega) rfl (by simp)) (by simp) rfl (.tmp 49) (.tmp 56) rfl rfl rfl ?_; intro a4 cap4 v4 i1; generalize hy1 : l3 ++ [UInt8.ofNat (b / 16777216)] = l4 at *; have HY4 := Lib.hid hy1; have I4 := Lib.hid i1; clear hy1 i1)
  clear lt3 G3 c1_3
  have lt4 := Nat.lt_of_lt_of_le HG.out I4.out.frm.size
  have G4 := (B2.out.keep I4.out.frm (by simp)).gets HS32.out
  have c1_4 := G4.c1
  rw [rounds_succ]
  go_wp2_with (at_builtin; refine wpList_app BT I4.out ((Frm.refl [] _).alloc _) (lst_slB (l := [UInt8.ofNat (b / 65536)]) (n := 1) (heap_alloc_at rfl) (by have := HB4.out; simp only [bvs, List.map_cons, List.map_nil]; rw [bv_eq]; rw [UInt8.toNat_ofNat']; omega) rfl (by simp)) (by simp) rfl (.tmp 49) (.tmp 56) rfl rfl rfl ?_; intro a5 cap5 v5 i1; generalize hy1 : l4 ++ [UInt8.ofNat (b / 65536)] = l5 at *; have HY5 := Lib.hid hy1; have I5 := Lib.hid i1; clear hy1 i1)
  clear lt4 G4 c1_4
  have lt5 := Nat.lt_of_lt_of_le HG.out I5.out.frm.size
  have G5 := (B2.out.keep I5.out.frm (by simp)).gets HS32.out
  have c1_5 := G5.c1
  rw [rounds_succ]
  go_wp2_with (at_builtin; refine wpList_app BT I5.out ((Frm.refl [] _).alloc _) (lst_slB (l := [UInt8.ofNat (b / 256)]) (n := 1) (heap_alloc_at rfl) (by have := HB4.out; simp only [bvs, List.map_cons, List.map_nil]; rw [bv_eq]; rw [UInt8.toNat_ofNat']; omega) rfl (by simp)) (by simp) rfl (.tmp 49) (.tmp 56) rfl rfl rfl ?_; intro a6 cap6 v6 i1; generalize hy1 : l5 ++ [UInt8.ofNat (b / 256)] = l6 at *; have HY6 := Lib.hid hy1; have I6 := Lib.hid i1; clear hy1 i1)
  clear lt5 G5 c1_5
  have lt6 := Nat.lt_of_lt_of_le HG.out I6.out.frm.size
  have G6 := (B2.out.keep I6.out.frm (by simp)).gets HS32.out
  have c1_6 := G6.c1
  rw [rounds_succ]
  go_wp2_with (at_builtin; refine wpList_app BT I6.out ((Frm.refl [] _).alloc _) (lst_slB (l := [UInt8.ofNat b]) (n := 1) (heap_alloc_at rfl) (by have := HB4.out; simp only [bvs, List.map_cons, List.map_nil]; rw [bv_eq]; rw [UInt8.toNat_ofNat']; omega) rfl (by simp)) (by simp) rfl (.tmp 49) (.tmp 56) rfl rfl rfl ?_; intro a7 cap7 v7 i1; generalize hy1 : l6 ++ [UInt8.ofNat b] = l7 at *; have HY7 := Lib.hid hy1; have I7 := Lib.hid i1; clear hy1 i1)
  clear lt6 G6 c1_6
  rw [rounds_succ]
  go_upto_region 15 with (fail)
  have lt7 := Nat.lt_of_lt_of_le HG.out I7.out.frm.size
  have G7 := (B2.out.keep I7.out.frm (by simp)).gets HS32.out
  have c2_7 := G7.c2
  go_upto_region 16 with (at_builtin; refine wpList_app BT I7.out ((Frm.refl [] _).alloc _) (lst_slB (l := [UInt8.ofNat lv]) (n := 1) (heap_alloc_at rfl) (by have := HLV.out; simp only [bvs, List.map_cons, List.map_nil]; rw [bv_eq]; rw [UInt8.toNat_ofNat']; omega) rfl (by simp)) (by simp) rfl (.tmp 58) (.tmp 62) rfl rfl rfl ?_; intro a8 cap8 v8 i1; generalize hy1 : l7 ++ [UInt8.ofNat lv] = l8 at *; have HY8 := Lib.hid hy1; have I8 := Lib.hid i1; clear hy1 i1)
  clear lt7 G7 c2_7
  go_wp2_with (at_builtin; refine wpList_app BT I8.out (Frm.refl [] _) (sum_slB (B2.out.keep I8.out.frm (by simp)) HS32.out) (by rw [HS32.out]; simp) rfl (.tmp 64) (.tmp 66) rfl rfl rfl ?_; intro a9 cap9 v9 i1; generalize hy1 : l8 ++ s = l9 at *; have HY9 := Lib.hid hy1; have I9 := Lib.hid i1; clear hy1 i1)
  go_ret2
  have e : enc (ptN [] b lv s) = l9 := by
    rw [HEN.out, ← HY9.out, ← HY8.out, ← HY7.out, ← HY6.out, ← HY5.out, ← HY4.out, ← HY3.out, ← HY2.out, ← HY1.out, ← HY0.out]
    simp [ptB, addrsB, pad3, adB, be1, be2, be4]
  obtain ⟨sp9, o9⟩ := I9.out.own
  exact bytesP_yes HM.out e o9 (F0.out.trans I9.out.frm (by simp)) (fun i hi => Nat.le_trans F0.out.size (I9.out.new i hi))
set_option maxHeartbeats 8000000 in
theorem refBytes1 (xa : Option Addr) (cap : Nat) (x0 : Nat × Nat) (asp : List Ad) (b lv : Nat) (s : List UInt8) (w : World) (hm : may (ptN [x0] b lv s)) (hS : SlA w (.slice xa 1 cap) (([x0] : List (Nat × Nat)).map adI) asp) (hs : s.length = 32)
    (hb : ∀ x ∈ ([x0] : List (Nat × Nat)), x.1 < 8 ∧ x.2 < 4096) (hb4 : b ≤ 2147483648) (hlv : lv ≤ 3) : Calls Tryz.prog 65 #[pv (.slice xa 1 cap) b lv s] w (BytesP (ptN [x0] b lv s) w) := by
  have hC := fun W (f : Frm [] w W) => RefCheck_any (pv (.slice xa 1 cap) b lv s) (ptN [x0] b lv s) W ⟨xa, cap, asp, rfl, hS.keep f (by simp), hs⟩ (by simp [ptN])
  rw [show chk (ptN [x0] b lv s) = 0 by simp [chk, (mayB_iff _).2 hm]] at hC
  have hen : enc (ptN [x0] b lv s) = ptB [x0] b lv s := by simp [enc, ptN, adI]
  have B1 := PB.new w (.slice xa 1 cap) b lv s
  have f : Frm [] w (w.alloc (.cells (pc (.slice xa 1 cap) b lv s).toArray 54)) := (Frm.refl [] w).alloc _
  have hA0 : pv (.slice xa 1 cap) b lv s = .agg (pc (.slice xa 1 cap) b lv s).toArray := rfl
  have HA0 := Lib.hid hA0
  have HM := Lib.hid hm
  have HEN := Lib.hid hen
  have HC := Lib.hid hC
  have HS32 := Lib.hid hs
  have hb4' : (b : Int) ≤ 2147483648 := by omega
  have hlv' : (lv : Int) ≤ 3 := by omega
  have HB4 := Lib.hid hb4
  have HLV := Lib.hid hlv
  clear hb4 hlv
  obtain ⟨b0, off, rfl⟩ := hS.at (by simp)
  have HBL := Lib.hid (show b0 < w.heap.size from World.block_lt_of_cell? _ _ (hS.cells 0 (by simp)).1)
  have kb0 := hb x0 (by simp)
  have KB0 := Lib.hid kb0
  have CC0 := Lib.hid (fun (W : World) (f : Frm [] w W) => show W.cell? ⟨b0, off, none⟩ = some (.int .i64 (x0.1 : Int)) ∧ W.cell? ⟨b0, off + 1, none⟩ = some (.int .i64 (x0.2 : Int)) from by have := (hS.keep f (by simp)).cells 0 (by simp); simpa [adI] using this)
  have hw0 : wrap64 ((x0.2 : Int) / 256) = (x0.2 : Int) / 256 := IntWalk.wrap64_in _ (by omega)
  clear kb0
  rw [hA0]
  clear hA0 hC hS hm hen hb
  generalize hA : (pc (.slice (some ⟨b0, off, none⟩) 1 cap) b lv s).toArray = A at *
  go_enter Tryz.func65, Tryz.ntmps65
  go_upto_region 1 with (fail)
  have hgl : w.heap.size < (w.alloc (.cells A 54)).heap.size := by simp
  generalize w.alloc (.cells A 54) = W at *
  have B1h := Lib.hid B1
  have G0 := Lib.hid (B1.gets hs)
  clear hA B1
  go_upto_region 3 with (first | ((with_reducible (show wpList _ _ _ (Oper.mk _ (Op.load 54 _) _ _ _ _ :: _) _ _)); refine wpList_load_g (by rfl) 54 _ rfl _ rfl G0.out.all ?_) | (go_at_call 128; refine (HC.out _ f).mono ?_; rintro r w0 ⟨rfl, f2⟩))
  have F0 := Lib.hid (f.trans f2 (by simp))
  have B2 := Lib.hid (B1h.out.keep f2 (by simp))
  have HG := Lib.hid (Nat.lt_of_lt_of_le hgl f2.size)
  have c0 := (B2.out.gets hs).c0
  clear f2 f HC G0 B1h hs hgl
  go_upto_region 4 with (fail)
  have i0 : Inv w0 (w0.alloc (.cells #[.int .u8 1] 5)) (.slice (some ⟨w0.heap.size, 0, none⟩) (be1 1).length 1) (be1 1) 1 := ⟨⟨[], OwnB.of_heap (by rw [heap_alloc_new]; rfl) rfl rfl (by simp [maxLen])⟩, (Frm.refl [] w0).alloc _, fun i hi => by simp [blk] at hi; omega, by simp [be1]⟩
  rw [show (Value.slice (some ⟨w0.heap.size, 0, none⟩) 1 1) = Value.slice (some ⟨w0.heap.size, 0, none⟩) (be1 1).length 1 from rfl]
  generalize hl0 : be1 1 = l0 at *
  have HY0 := Lib.hid hl0
  have I0 := Lib.hid i0
  clear hl0 i0 c0
  generalize w0.alloc (.cells #[.int .u8 1] 5) = v0 at *
  go_wp2_with fail
  refine wp_loop_rounds 4 ?_
  have lt0 := Nat.lt_of_lt_of_le HG.out I0.out.frm.size
  have G0 := (B2.out.keep I0.out.frm (by simp)).gets HS32.out
  have c0_0 := G0.c0
  obtain ⟨e0, d0⟩ := CC0.out _ (F0.out.trans I0.out.frm (by simp))
  have ltb0 := Nat.lt_of_lt_of_le HBL.out (F0.out.trans I0.out.frm (by simp)).size
  rw [rounds_succ]
  go_wp2_with (at_builtin; refine wpList_app BT I0.out (((Frm.refl [] _).alloc _).alloc _) (lst_slB (l := [UInt8.ofNat x0.1, UInt8.ofNat (x0.2 / 256), UInt8.ofNat x0.2]) (n := 3) (heap_alloc_at (by simp)) (by have := KB0.out; simp only [bvs, List.map_cons, List.map_nil]; rw [bv_eq, bv_eq, bv_eq] <;> (try rw [UInt8.toNat_ofNat']) <;> omega) rfl (by simp)) (by simp) rfl (.tmp 31) (.tmp 43) rfl rfl rfl ?_; intro a1 cap1 v1 i1; generalize hy1 : l0 ++ [UInt8.ofNat x0.1, UInt8.ofNat (x0.2 / 256), UInt8.ofNat x0.2] = l1 at *; have HY1 := Lib.hid hy1; have I1 := Lib.hid i1; clear hy1 i1)
  clear lt0 G0 c0_0 e0 d0 ltb0
  have lt1 := Nat.lt_of_lt_of_le HG.out I1.out.frm.size
  have G1 := (B2.out.keep I1.out.frm (by simp)).gets HS32.out
  have c0_1 := G1.c0
  rw [rounds_succ]
  go_wp2_with (at_builtin; refine wpList_app BT I1.out (((Frm.refl [] _).alloc _).alloc _) (lst_slB (l := [(0 : UInt8), 0, 0]) (n := 3) (heap_alloc_at (by simp)) rfl rfl (by simp)) (by simp) rfl (.tmp 31) (.tmp 43) rfl rfl rfl ?_; intro a2 cap2 v2 i1; generalize hy1 : l1 ++ [(0 : UInt8), 0, 0] = l2 at *; have HY2 := Lib.hid hy1; have I2 := Lib.hid i1; clear hy1 i1)
  clear lt1 G1 c0_1
  have lt2 := Nat.lt_of_lt_of_le HG.out I2.out.frm.size
  have G2 := (B2.out.keep I2.out.frm (by simp)).gets HS32.out
  have c0_2 := G2.c0
  rw [rounds_succ]
  go_wp2_with (at_builtin; refine wpList_app BT I2.out (((Frm.refl [] _).alloc _).alloc _) (lst_slB (l := [(0 : UInt8), 0, 0]) (n := 3) (heap_alloc_at (by simp)) rfl rfl (by simp)) (by simp) rfl (.tmp 31) (.tmp 43) rfl rfl rfl ?_; intro a3 cap3 v3 i1; generalize hy1 : l2 ++ [(0 : UInt8), 0, 0] = l3 at *; have HY3 := Lib.hid hy1; have I3 := Lib.hid i1; clear hy1 i1)
  clear lt2 G2 c0_2
  rw [rounds_succ]
  go_wp2_with fail
  refine wp_loop_rounds 5 ?_
  have lt3 := Nat.lt_of_lt_of_le HG.out I3.out.frm.size
  have G3 := (B2.out.keep I3.out.frm (by simp)).gets HS32.out
  have c1_3 := G3.c1
  rw [rounds_succ]
  go_wp2_with (at_builtin; refine wpList_app BT I3.out ((Frm.refl [] _).alloc _) (lst_slB (l := [UInt8.ofNat (b / 16777216)]) (n := 1) (heap_alloc_at rfl) (by have := HB4.out; simp only [bvs, List.map_cons, List.map_nil]; rw [bv_eq]; rw [UInt8.toNat_ofNat']; omega) rfl (by simp)) (by simp) rfl (.tmp 49) (.tmp 56) rfl rfl rfl ?_; intro a4 cap4 v4 i1; generalize hy1 : l3 ++ [UInt8.ofNat (b / 16777216)] = l4 at *; have HY4 := Lib.hid hy1; have I4 := Lib.hid i1; clear hy1 i1)
  clear lt3 G3 c1_3
  have lt4 := Nat.lt_of_lt_of_le HG.out I4.out.frm.size
  have G4 := (B2.out.keep I4.out.frm (by simp)).gets HS32.out
  have c1_4 := G4.c1
  rw [rounds_succ]
  go_wp2_with (at_builtin; refine wpList_app BT I4.out ((Frm.refl [] _).alloc _) (lst_slB (l := [UInt8.ofNat (b / 65536)]) (n := 1) (heap_alloc_at rfl) (by have := HB4.out; simp only [bvs, List.map_cons, List.map_nil]; rw [bv_eq]; rw [UInt8.toNat_ofNat']; omega) rfl (by simp)) (by simp) rfl (.tmp 49) (.tmp 56) rfl rfl rfl ?_; intro a5 cap5 v5 i1; generalize hy1 : l4 ++ [UInt8.ofNat (b / 65536)] = l5 at *; have HY5 := Lib.hid hy1; have I5 := Lib.hid i1; clear hy1 i1)
  clear lt4 G4 c1_4
  have lt5 := Nat.lt_of_lt_of_le HG.out I5.out.frm.size
  have G5 := (B2.out.keep I5.out.frm (by simp)).gets HS32.out
  have c1_5 := G5.c1
  rw [rounds_succ]
  go_wp2_with (at_builtin; refine wpList_app BT I5.out ((Frm.refl [] _).alloc _) (lst_slB (l := [UInt8.ofNat (b / 256)]) (n := 1) (heap_alloc_at rfl) (by have := HB4.out; simp only [bvs, List.map_cons, List.map_nil]; rw [bv_eq]; rw [UInt8.toNat_ofNat']; omega) rfl (by simp)) (by simp) rfl (.tmp 49) (.tmp 56) rfl rfl rfl ?_; intro a6 cap6 v6 i1; generalize hy1 : l5 ++ [UInt8.ofNat (b / 256)] = l6 at *; have HY6 := Lib.hid hy1; have I6 := Lib.hid i1; clear hy1 i1)
  clear lt5 G5 c1_5
  have lt6 := Nat.lt_of_lt_of_le HG.out I6.out.frm.size
  have G6 := (B2.out.keep I6.out.frm (by simp)).gets HS32.out
  have c1_6 := G6.c1
  rw [rounds_succ]
  go_wp2_with (at_builtin; refine wpList_app BT I6.out ((Frm.refl [] _).alloc _) (lst_slB (l := [UInt8.ofNat b]) (n := 1) (heap_alloc_at rfl) (by have := HB4.out; simp only [bvs, List.map_cons, List.map_nil]; rw [bv_eq]; rw [UInt8.toNat_ofNat']; omega) rfl (by simp)) (by simp) rfl (.tmp 49) (.tmp 56) rfl rfl rfl ?_; intro a7 cap7 v7 i1; generalize hy1 : l6 ++ [UInt8.ofNat b] = l7 at *; have HY7 := Lib.hid hy1; have I7 := Lib.hid i1; clear hy1 i1)
  clear lt6 G6 c1_6
  rw [rounds_succ]
  go_upto_region 15 with (fail)
  have lt7 := Nat.lt_of_lt_of_le HG.out I7.out.frm.size
  have G7 := (B2.out.keep I7.out.frm (by simp)).gets HS32.out
  have c2_7 := G7.c2
  go_upto_region 16 with (at_builtin; refine wpList_app BT I7.out ((Frm.refl [] _).alloc _) (lst_slB (l := [UInt8.ofNat lv]) (n := 1) (heap_alloc_at rfl) (by have := HLV.out; simp only [bvs, List.map_cons, List.map_nil]; rw [bv_eq]; rw [UInt8.toNat_ofNat']; omega) rfl (by simp)) (by simp) rfl (.tmp 58) (.tmp 62) rfl rfl rfl ?_; intro a8 cap8 v8 i1; generalize hy1 : l7 ++ [UInt8.ofNat lv] = l8 at *; have HY8 := Lib.hid hy1; have I8 := Lib.hid i1; clear hy1 i1)
  clear lt7 G7 c2_7
  go_wp2_with (at_builtin; refine wpList_app BT I8.out (Frm.refl [] _) (sum_slB (B2.out.keep I8.out.frm (by simp)) HS32.out) (by rw [HS32.out]; simp) rfl (.tmp 64) (.tmp 66) rfl rfl rfl ?_; intro a9 cap9 v9 i1; generalize hy1 : l8 ++ s = l9 at *; have HY9 := Lib.hid hy1; have I9 := Lib.hid i1; clear hy1 i1)
  go_ret2
  have e : enc (ptN [x0] b lv s) = l9 := by
    rw [HEN.out, ← HY9.out, ← HY8.out, ← HY7.out, ← HY6.out, ← HY5.out, ← HY4.out, ← HY3.out, ← HY2.out, ← HY1.out, ← HY0.out]
    simp [ptB, addrsB, pad3, adB, be1, be2, be4]
  obtain ⟨sp9, o9⟩ := I9.out.own
  exact bytesP_yes HM.out e o9 (F0.out.trans I9.out.frm (by simp)) (fun i hi => Nat.le_trans F0.out.size (I9.out.new i hi))
set_option maxHeartbeats 8000000 in
theorem refBytes2 (xa : Option Addr) (cap : Nat) (x0 : Nat × Nat) (x1 : Nat × Nat) (asp : List Ad) (b lv : Nat) (s : List UInt8) (w : World) (hm : may (ptN [x0, x1] b lv s)) (hS : SlA w (.slice xa 2 cap) (([x0, x1] : List (Nat × Nat)).map adI) asp) (hs : s.length = 32)
    (hb : ∀ x ∈ ([x0, x1] : List (Nat × Nat)), x.1 < 8 ∧ x.2 < 4096) (hb4 : b ≤ 2147483648) (hlv : lv ≤ 3) : Calls Tryz.prog 65 #[pv (.slice xa 2 cap) b lv s] w (BytesP (ptN [x0, x1] b lv s) w) := by
  have hC := fun W (f : Frm [] w W) => RefCheck_any (pv (.slice xa 2 cap) b lv s) (ptN [x0, x1] b lv s) W ⟨xa, cap, asp, rfl, hS.keep f (by simp), hs⟩ (by simp [ptN])
  rw [show chk (ptN [x0, x1] b lv s) = 0 by simp [chk, (mayB_iff _).2 hm]] at hC
  have hen : enc (ptN [x0, x1] b lv s) = ptB [x0, x1] b lv s := by simp [enc, ptN, adI]
  have B1 := PB.new w (.slice xa 2 cap) b lv s
  have f : Frm [] w (w.alloc (.cells (pc (.slice xa 2 cap) b lv s).toArray 54)) := (Frm.refl [] w).alloc _
  have hA0 : pv (.slice xa 2 cap) b lv s = .agg (pc (.slice xa 2 cap) b lv s).toArray := rfl
  have HA0 := Lib.hid hA0
  have HM := Lib.hid hm
  have HEN := Lib.hid hen
  have HC := Lib.hid hC
  have HS32 := Lib.hid hs
  have hb4' : (b : Int) ≤ 2147483648 := by omega
  have hlv' : (lv : Int) ≤ 3 := by omega
  have HB4 := Lib.hid hb4
  have HLV := Lib.hid hlv
  clear hb4 hlv
  obtain ⟨b0, off, rfl⟩ := hS.at (by simp)
  have HBL := Lib.hid (show b0 < w.heap.size from World.block_lt_of_cell? _ _ (hS.cells 0 (by simp)).1)
  have kb0 := hb x0 (by simp)
  have KB0 := Lib.hid kb0
  have CC0 := Lib.hid (fun (W : World) (f : Frm [] w W) => show W.cell? ⟨b0, off, none⟩ = some (.int .i64 (x0.1 : Int)) ∧ W.cell? ⟨b0, off + 1, none⟩ = some (.int .i64 (x0.2 : Int)) from by have := (hS.keep f (by simp)).cells 0 (by simp); simpa [adI] using this)
  have hw0 : wrap64 ((x0.2 : Int) / 256) = (x0.2 : Int) / 256 := IntWalk.wrap64_in _ (by omega)
  clear kb0
  have kb1 := hb x1 (by simp)
  have KB1 := Lib.hid kb1
  have CC1 := Lib.hid (fun (W : World) (f : Frm [] w W) => show W.cell? ⟨b0, off + 2, none⟩ = some (.int .i64 (x1.1 : Int)) ∧ W.cell? ⟨b0, off + 3, none⟩ = some (.int .i64 (x1.2 : Int)) from by have := (hS.keep f (by simp)).cells 1 (by simp); simpa [adI] using this)
  have hw1 : wrap64 ((x1.2 : Int) / 256) = (x1.2 : Int) / 256 := IntWalk.wrap64_in _ (by omega)
  clear kb1
  rw [hA0]
  clear hA0 hC hS hm hen hb
  generalize hA : (pc (.slice (some ⟨b0, off, none⟩) 2 cap) b lv s).toArray = A at *
  go_enter Tryz.func65, Tryz.ntmps65
  go_upto_region 1 with (fail)
  have hgl : w.heap.size < (w.alloc (.cells A 54)).heap.size := by simp
  generalize w.alloc (.cells A 54) = W at *
  have B1h := Lib.hid B1
  have G0 := Lib.hid (B1.gets hs)
  clear hA B1
  go_upto_region 3 with (first | ((with_reducible (show wpList _ _ _ (Oper.mk _ (Op.load 54 _) _ _ _ _ :: _) _ _)); refine wpList_load_g (by rfl) 54 _ rfl _ rfl G0.out.all ?_) | (go_at_call 128; refine (HC.out _ f).mono ?_; rintro r w0 ⟨rfl, f2⟩))
  have F0 := Lib.hid (f.trans f2 (by simp))
  have B2 := Lib.hid (B1h.out.keep f2 (by simp))
  have HG := Lib.hid (Nat.lt_of_lt_of_le hgl f2.size)
  have c0 := (B2.out.gets hs).c0
  clear f2 f HC G0 B1h hs hgl
  go_upto_region 4 with (fail)
  have i0 : Inv w0 (w0.alloc (.cells #[.int .u8 2] 5)) (.slice (some ⟨w0.heap.size, 0, none⟩) (be1 2).length 1) (be1 2) 1 := ⟨⟨[], OwnB.of_heap (by rw [heap_alloc_new]; rfl) rfl rfl (by simp [maxLen])⟩, (Frm.refl [] w0).alloc _, fun i hi => by simp [blk] at hi; omega, by simp [be1]⟩
  rw [show (Value.slice (some ⟨w0.heap.size, 0, none⟩) 1 1) = Value.slice (some ⟨w0.heap.size, 0, none⟩) (be1 2).length 1 from rfl]
  generalize hl0 : be1 2 = l0 at *
  have HY0 := Lib.hid hl0
  have I0 := Lib.hid i0
  clear hl0 i0 c0
  generalize w0.alloc (.cells #[.int .u8 2] 5) = v0 at *
  go_wp2_with fail
  refine wp_loop_rounds 4 ?_
  have lt0 := Nat.lt_of_lt_of_le HG.out I0.out.frm.size
  have G0 := (B2.out.keep I0.out.frm (by simp)).gets HS32.out
  have c0_0 := G0.c0
  obtain ⟨e0, d0⟩ := CC0.out _ (F0.out.trans I0.out.frm (by simp))
  have ltb0 := Nat.lt_of_lt_of_le HBL.out (F0.out.trans I0.out.frm (by simp)).size
  rw [rounds_succ]
  go_wp2_with (at_builtin; refine wpList_app BT I0.out (((Frm.refl [] _).alloc _).alloc _) (lst_slB (l := [UInt8.ofNat x0.1, UInt8.ofNat (x0.2 / 256), UInt8.ofNat x0.2]) (n := 3) (heap_alloc_at (by simp)) (by have := KB0.out; simp only [bvs, List.map_cons, List.map_nil]; rw [bv_eq, bv_eq, bv_eq] <;> (try rw [UInt8.toNat_ofNat']) <;> omega) rfl (by simp)) (by simp) rfl (.tmp 31) (.tmp 43) rfl rfl rfl ?_; intro a1 cap1 v1 i1; generalize hy1 : l0 ++ [UInt8.ofNat x0.1, UInt8.ofNat (x0.2 / 256), UInt8.ofNat x0.2] = l1 at *; have HY1 := Lib.hid hy1; have I1 := Lib.hid i1; clear hy1 i1)
  clear lt0 G0 c0_0 e0 d0 ltb0
  have lt1 := Nat.lt_of_lt_of_le HG.out I1.out.frm.size
  have G1 := (B2.out.keep I1.out.frm (by simp)).gets HS32.out
  have c0_1 := G1.c0
  obtain ⟨e1, d1⟩ := CC1.out _ (F0.out.trans I1.out.frm (by simp))
  have ltb1 := Nat.lt_of_lt_of_le HBL.out (F0.out.trans I1.out.frm (by simp)).size
  rw [rounds_succ]
  go_wp2_with (at_builtin; refine wpList_app BT I1.out (((Frm.refl [] _).alloc _).alloc _) (lst_slB (l := [UInt8.ofNat x1.1, UInt8.ofNat (x1.2 / 256), UInt8.ofNat x1.2]) (n := 3) (heap_alloc_at (by simp)) (by have := KB1.out; simp only [bvs, List.map_cons, List.map_nil]; rw [bv_eq, bv_eq, bv_eq] <;> (try rw [UInt8.toNat_ofNat']) <;> omega) rfl (by simp)) (by simp) rfl (.tmp 31) (.tmp 43) rfl rfl rfl ?_; intro a2 cap2 v2 i1; generalize hy1 : l1 ++ [UInt8.ofNat x1.1, UInt8.ofNat (x1.2 / 256), UInt8.ofNat x1.2] = l2 at *; have HY2 := Lib.hid hy1; have I2 := Lib.hid i1; clear hy1 i1)
  clear lt1 G1 c0_1 e1 d1 ltb1
  have lt2 := Nat.lt_of_lt_of_le HG.out I2.out.frm.size
  have G2 := (B2.out.keep I2.out.frm (by simp)).gets HS32.out
  have c0_2 := G2.c0
  rw [rounds_succ]
  go_wp2_with (at_builtin; refine wpList_app BT I2.out (((Frm.refl [] _).alloc _).alloc _) (lst_slB (l := [(0 : UInt8), 0, 0]) (n := 3) (heap_alloc_at (by simp)) rfl rfl (by simp)) (by simp) rfl (.tmp 31) (.tmp 43) rfl rfl rfl ?_; intro a3 cap3 v3 i1; generalize hy1 : l2 ++ [(0 : UInt8), 0, 0] = l3 at *; have HY3 := Lib.hid hy1; have I3 := Lib.hid i1; clear hy1 i1)
  clear lt2 G2 c0_2
  rw [rounds_succ]
  go_wp2_with fail
  refine wp_loop_rounds 5 ?_
  have lt3 := Nat.lt_of_lt_of_le HG.out I3.out.frm.size
  have G3 := (B2.out.keep I3.out.frm (by simp)).gets HS32.out
  have c1_3 := G3.c1
  rw [rounds_succ]
  go_wp2_with (at_builtin; refine wpList_app BT I3.out ((Frm.refl [] _).alloc _) (lst_slB (l := [UInt8.ofNat (b / 16777216)]) (n := 1) (heap_alloc_at rfl) (by have := HB4.out; simp only [bvs, List.map_cons, List.map_nil]; rw [bv_eq]; rw [UInt8.toNat_ofNat']; omega) rfl (by simp)) (by simp) rfl (.tmp 49) (.tmp 56) rfl rfl rfl ?_; intro a4 cap4 v4 i1; generalize hy1 : l3 ++ [UInt8.ofNat (b / 16777216)] = l4 at *; have HY4 := Lib.hid hy1; have I4 := Lib.hid i1; clear hy1 i1)
  clear lt3 G3 c1_3
  have lt4 := Nat.lt_of_lt_of_le HG.out I4.out.frm.size
  have G4 := (B2.out.keep I4.out.frm (by simp)).gets HS32.out
  have c1_4 := G4.c1
  rw [rounds_succ]
  go_wp2_with (at_builtin; refine wpList_app BT I4.out ((Frm.refl [] _).alloc _) (lst_slB (l := [UInt8.ofNat (b / 65536)]) (n := 1) (heap_alloc_at rfl) (by have := HB4.out; simp only [bvs, List.map_cons, List.map_nil]; rw [bv_eq]; rw [UInt8.toNat_ofNat']; omega) rfl (by simp)) (by simp) rfl (.tmp 49) (.tmp 56) rfl rfl rfl ?_; intro a5 cap5 v5 i1; generalize hy1 : l4 ++ [UInt8.ofNat (b / 65536)] = l5 at *; have HY5 := Lib.hid hy1; have I5 := Lib.hid i1; clear hy1 i1)
  clear lt4 G4 c1_4
  have lt5 := Nat.lt_of_lt_of_le HG.out I5.out.frm.size
  have G5 := (B2.out.keep I5.out.frm (by simp)).gets HS32.out
  have c1_5 := G5.c1
  rw [rounds_succ]
  go_wp2_with (at_builtin; refine wpList_app BT I5.out ((Frm.refl [] _).alloc _) (lst_slB (l := [UInt8.ofNat (b / 256)]) (n := 1) (heap_alloc_at rfl) (by have := HB4.out; simp only [bvs, List.map_cons, List.map_nil]; rw [bv_eq]; rw [UInt8.toNat_ofNat']; omega) rfl (by simp)) (by simp) rfl (.tmp 49) (.tmp 56) rfl rfl rfl ?_; intro a6 cap6 v6 i1; generalize hy1 : l5 ++ [UInt8.ofNat (b / 256)] = l6 at *; have HY6 := Lib.hid hy1; have I6 := Lib.hid i1; clear hy1 i1)
  clear lt5 G5 c1_5
  have lt6 := Nat.lt_of_lt_of_le HG.out I6.out.frm.size
  have G6 := (B2.out.keep I6.out.frm (by simp)).gets HS32.out
  have c1_6 := G6.c1
  rw [rounds_succ]
  go_wp2_with (at_builtin; refine wpList_app BT I6.out ((Frm.refl [] _).alloc _) (lst_slB (l := [UInt8.ofNat b]) (n := 1) (heap_alloc_at rfl) (by have := HB4.out; simp only [bvs, List.map_cons, List.map_nil]; rw [bv_eq]; rw [UInt8.toNat_ofNat']; omega) rfl (by simp)) (by simp) rfl (.tmp 49) (.tmp 56) rfl rfl rfl ?_; intro a7 cap7 v7 i1; generalize hy1 : l6 ++ [UInt8.ofNat b] = l7 at *; have HY7 := Lib.hid hy1; have I7 := Lib.hid i1; clear hy1 i1)
  clear lt6 G6 c1_6
  rw [rounds_succ]
  go_upto_region 15 with (fail)
  have lt7 := Nat.lt_of_lt_of_le HG.out I7.out.frm.size
  have G7 := (B2.out.keep I7.out.frm (by simp)).gets HS32.out
  have c2_7 := G7.c2
  go_upto_region 16 with (at_builtin; refine wpList_app BT I7.out ((Frm.refl [] _).alloc _) (lst_slB (l := [UInt8.ofNat lv]) (n := 1) (heap_alloc_at rfl) (by have := HLV.out; simp only [bvs, List.map_cons, List.map_nil]; rw [bv_eq]; rw [UInt8.toNat_ofNat']; omega) rfl (by simp)) (by simp) rfl (.tmp 58) (.tmp 62) rfl rfl rfl ?_; intro a8 cap8 v8 i1; generalize hy1 : l7 ++ [UInt8.ofNat lv] = l8 at *; have HY8 := Lib.hid hy1; have I8 := Lib.hid i1; clear hy1 i1)
  clear lt7 G7 c2_7
  go_wp2_with (at_builtin; refine wpList_app BT I8.out (Frm.refl [] _) (sum_slB (B2.out.keep I8.out.frm (by simp)) HS32.out) (by rw [HS32.out]; simp) rfl (.tmp 64) (.tmp 66) rfl rfl rfl ?_; intro a9 cap9 v9 i1; generalize hy1 : l8 ++ s = l9 at *; have HY9 := Lib.hid hy1; have I9 := Lib.hid i1; clear hy1 i1)
  go_ret2
  have e : enc (ptN [x0, x1] b lv s) = l9 := by
    rw [HEN.out, ← HY9.out, ← HY8.out, ← HY7.out, ← HY6.out, ← HY5.out, ← HY4.out, ← HY3.out, ← HY2.out, ← HY1.out, ← HY0.out]
    simp [ptB, addrsB, pad3, adB, be1, be2, be4]
  obtain ⟨sp9, o9⟩ := I9.out.own
  exact bytesP_yes HM.out e o9 (F0.out.trans I9.out.frm (by simp)) (fun i hi => Nat.le_trans F0.out.size (I9.out.new i hi))
set_option maxHeartbeats 8000000 in
theorem refBytes3 (xa : Option Addr) (cap : Nat) (x0 : Nat × Nat) (x1 : Nat × Nat) (x2 : Nat × Nat) (asp : List Ad) (b lv : Nat) (s : List UInt8) (w : World) (hm : may (ptN [x0, x1, x2] b lv s)) (hS : SlA w (.slice xa 3 cap) (([x0, x1, x2] : List (Nat × Nat)).map adI) asp) (hs : s.length = 32)
    (hb : ∀ x ∈ ([x0, x1, x2] : List (Nat × Nat)), x.1 < 8 ∧ x.2 < 4096) (hb4 : b ≤ 2147483648) (hlv : lv ≤ 3) : Calls Tryz.prog 65 #[pv (.slice xa 3 cap) b lv s] w (BytesP (ptN [x0, x1, x2] b lv s) w) := by
  have hC := fun W (f : Frm [] w W) => RefCheck_any (pv (.slice xa 3 cap) b lv s) (ptN [x0, x1, x2] b lv s) W ⟨xa, cap, asp, rfl, hS.keep f (by simp), hs⟩ (by simp [ptN])
  rw [show chk (ptN [x0, x1, x2] b lv s) = 0 by simp [chk, (mayB_iff _).2 hm]] at hC
  have hen : enc (ptN [x0, x1, x2] b lv s) = ptB [x0, x1, x2] b lv s := by simp [enc, ptN, adI]
  have B1 := PB.new w (.slice xa 3 cap) b lv s
  have f : Frm [] w (w.alloc (.cells (pc (.slice xa 3 cap) b lv s).toArray 54)) := (Frm.refl [] w).alloc _
  have hA0 : pv (.slice xa 3 cap) b lv s = .agg (pc (.slice xa 3 cap) b lv s).toArray := rfl
  have HA0 := Lib.hid hA0
  have HM := Lib.hid hm
  have HEN := Lib.hid hen
  have HC := Lib.hid hC
  have HS32 := Lib.hid hs
  have hb4' : (b : Int) ≤ 2147483648 := by omega
  have hlv' : (lv : Int) ≤ 3 := by omega
  have HB4 := Lib.hid hb4
  have HLV := Lib.hid hlv
  clear hb4 hlv
  obtain ⟨b0, off, rfl⟩ := hS.at (by simp)
  have HBL := Lib.hid (show b0 < w.heap.size from World.block_lt_of_cell? _ _ (hS.cells 0 (by simp)).1)
  have kb0 := hb x0 (by simp)
  have KB0 := Lib.hid kb0
  have CC0 := Lib.hid (fun (W : World) (f : Frm [] w W) => show W.cell? ⟨b0, off, none⟩ = some (.int .i64 (x0.1 : Int)) ∧ W.cell? ⟨b0, off + 1, none⟩ = some (.int .i64 (x0.2 : Int)) from by have := (hS.keep f (by simp)).cells 0 (by simp); simpa [adI] using this)
  have hw0 : wrap64 ((x0.2 : Int) / 256) = (x0.2 : Int) / 256 := IntWalk.wrap64_in _ (by omega)
  clear kb0
  have kb1 := hb x1 (by simp)
  have KB1 := Lib.hid kb1
  have CC1 := Lib.hid (fun (W : World) (f : Frm [] w W) => show W.cell? ⟨b0, off + 2, none⟩ = some (.int .i64 (x1.1 : Int)) ∧ W.cell? ⟨b0, off + 3, none⟩ = some (.int .i64 (x1.2 : Int)) from by have := (hS.keep f (by simp)).cells 1 (by simp); simpa [adI] using this)
  have hw1 : wrap64 ((x1.2 : Int) / 256) = (x1.2 : Int) / 256 := IntWalk.wrap64_in _ (by omega)
  clear kb1
  have kb2 := hb x2 (by simp)
  have KB2 := Lib.hid kb2
  have CC2 := Lib.hid (fun (W : World) (f : Frm [] w W) => show W.cell? ⟨b0, off + 4, none⟩ = some (.int .i64 (x2.1 : Int)) ∧ W.cell? ⟨b0, off + 5, none⟩ = some (.int .i64 (x2.2 : Int)) from by have := (hS.keep f (by simp)).cells 2 (by simp); simpa [adI] using this)
  have hw2 : wrap64 ((x2.2 : Int) / 256) = (x2.2 : Int) / 256 := IntWalk.wrap64_in _ (by omega)
  clear kb2
  rw [hA0]
  clear hA0 hC hS hm hen hb
  generalize hA : (pc (.slice (some ⟨b0, off, none⟩) 3 cap) b lv s).toArray = A at *
  go_enter Tryz.func65, Tryz.ntmps65
  go_upto_region 1 with (fail)
  have hgl : w.heap.size < (w.alloc (.cells A 54)).heap.size := by simp
  generalize w.alloc (.cells A 54) = W at *
  have B1h := Lib.hid B1
  have G0 := Lib.hid (B1.gets hs)
  clear hA B1
  go_upto_region 3 with (first | ((with_reducible (show wpList _ _ _ (Oper.mk _ (Op.load 54 _) _ _ _ _ :: _) _ _)); refine wpList_load_g (by rfl) 54 _ rfl _ rfl G0.out.all ?_) | (go_at_call 128; refine (HC.out _ f).mono ?_; rintro r w0 ⟨rfl, f2⟩))
  have F0 := Lib.hid (f.trans f2 (by simp))
  have B2 := Lib.hid (B1h.out.keep f2 (by simp))
  have HG := Lib.hid (Nat.lt_of_lt_of_le hgl f2.size)
  have c0 := (B2.out.gets hs).c0
  clear f2 f HC G0 B1h hs hgl
  go_upto_region 4 with (fail)
  have i0 : Inv w0 (w0.alloc (.cells #[.int .u8 3] 5)) (.slice (some ⟨w0.heap.size, 0, none⟩) (be1 3).length 1) (be1 3) 1 := ⟨⟨[], OwnB.of_heap (by rw [heap_alloc_new]; rfl) rfl rfl (by simp [maxLen])⟩, (Frm.refl [] w0).alloc _, fun i hi => by simp [blk] at hi; omega, by simp [be1]⟩
  rw [show (Value.slice (some ⟨w0.heap.size, 0, none⟩) 1 1) = Value.slice (some ⟨w0.heap.size, 0, none⟩) (be1 3).length 1 from rfl]
  generalize hl0 : be1 3 = l0 at *
  have HY0 := Lib.hid hl0
  have I0 := Lib.hid i0
  clear hl0 i0 c0
  generalize w0.alloc (.cells #[.int .u8 3] 5) = v0 at *
  go_wp2_with fail
  refine wp_loop_rounds 4 ?_
  have lt0 := Nat.lt_of_lt_of_le HG.out I0.out.frm.size
  have G0 := (B2.out.keep I0.out.frm (by simp)).gets HS32.out
  have c0_0 := G0.c0
  obtain ⟨e0, d0⟩ := CC0.out _ (F0.out.trans I0.out.frm (by simp))
  have ltb0 := Nat.lt_of_lt_of_le HBL.out (F0.out.trans I0.out.frm (by simp)).size
  rw [rounds_succ]
  go_wp2_with (at_builtin; refine wpList_app BT I0.out (((Frm.refl [] _).alloc _).alloc _) (lst_slB (l := [UInt8.ofNat x0.1, UInt8.ofNat (x0.2 / 256), UInt8.ofNat x0.2]) (n := 3) (heap_alloc_at (by simp)) (by have := KB0.out; simp only [bvs, List.map_cons, List.map_nil]; rw [bv_eq, bv_eq, bv_eq] <;> (try rw [UInt8.toNat_ofNat']) <;> omega) rfl (by simp)) (by simp) rfl (.tmp 31) (.tmp 43) rfl rfl rfl ?_; intro a1 cap1 v1 i1; generalize hy1 : l0 ++ [UInt8.ofNat x0.1, UInt8.ofNat (x0.2 / 256), UInt8.ofNat x0.2] = l1 at *; have HY1 := Lib.hid hy1; have I1 := Lib.hid i1; clear hy1 i1)
  clear lt0 G0 c0_0 e0 d0 ltb0
  have lt1 := Nat.lt_of_lt_of_le HG.out I1.out.frm.size
  have G1 := (B2.out.keep I1.out.frm (by simp)).gets HS32.out
  have c0_1 := G1.c0
  obtain ⟨e1, d1⟩ := CC1.out _ (F0.out.trans I1.out.frm (by simp))
  have ltb1 := Nat.lt_of_lt_of_le HBL.out (F0.out.trans I1.out.frm (by simp)).size
  rw [rounds_succ]
  go_wp2_with (at_builtin; refine wpList_app BT I1.out (((Frm.refl [] _).alloc _).alloc _) (lst_slB (l := [UInt8.ofNat x1.1, UInt8.ofNat (x1.2 / 256), UInt8.ofNat x1.2]) (n := 3) (heap_alloc_at (by simp)) (by have := KB1.out; simp only [bvs, List.map_cons, List.map_nil]; rw [bv_eq, bv_eq, bv_eq] <;> (try rw [UInt8.toNat_ofNat']) <;> omega) rfl (by simp)) (by simp) rfl (.tmp 31) (.tmp 43) rfl rfl rfl ?_; intro a2 cap2 v2 i1; generalize hy1 : l1 ++ [UInt8.ofNat x1.1, UInt8.ofNat (x1.2 / 256), UInt8.ofNat x1.2] = l2 at *; have HY2 := Lib.hid hy1; have I2 := Lib.hid i1; clear hy1 i1)
  clear lt1 G1 c0_1 e1 d1 ltb1
  have lt2 := Nat.lt_of_lt_of_le HG.out I2.out.frm.size
  have G2 := (B2.out.keep I2.out.frm (by simp)).gets HS32.out
  have c0_2 := G2.c0
  obtain ⟨e2, d2⟩ := CC2.out _ (F0.out.trans I2.out.frm (by simp))
  have ltb2 := Nat.lt_of_lt_of_le HBL.out (F0.out.trans I2.out.frm (by simp)).size
  rw [rounds_succ]
  go_wp2_with (at_builtin; refine wpList_app BT I2.out (((Frm.refl [] _).alloc _).alloc _) (lst_slB (l := [UInt8.ofNat x2.1, UInt8.ofNat (x2.2 / 256), UInt8.ofNat x2.2]) (n := 3) (heap_alloc_at (by simp)) (by have := KB2.out; simp only [bvs, List.map_cons, List.map_nil]; rw [bv_eq, bv_eq, bv_eq] <;> (try rw [UInt8.toNat_ofNat']) <;> omega) rfl (by simp)) (by simp) rfl (.tmp 31) (.tmp 43) rfl rfl rfl ?_; intro a3 cap3 v3 i1; generalize hy1 : l2 ++ [UInt8.ofNat x2.1, UInt8.ofNat (x2.2 / 256), UInt8.ofNat x2.2] = l3 at *; have HY3 := Lib.hid hy1; have I3 := Lib.hid i1; clear hy1 i1)
  clear lt2 G2 c0_2 e2 d2 ltb2
  rw [rounds_succ]
  go_wp2_with fail
  refine wp_loop_rounds 5 ?_
  have lt3 := Nat.lt_of_lt_of_le HG.out I3.out.frm.size
  have G3 := (B2.out.keep I3.out.frm (by simp)).gets HS32.out
  have c1_3 := G3.c1
  rw [rounds_succ]
  go_wp2_with (at_builtin; refine wpList_app BT I3.out ((Frm.refl [] _).alloc _) (lst_slB (l := [UInt8.ofNat (b / 16777216)]) (n := 1) (heap_alloc_at rfl) (by have := HB4.out; simp only [bvs, List.map_cons, List.map_nil]; rw [bv_eq]; rw [UInt8.toNat_ofNat']; omega) rfl (by simp)) (by simp) rfl (.tmp 49) (.tmp 56) rfl rfl rfl ?_; intro a4 cap4 v4 i1; generalize hy1 : l3 ++ [UInt8.ofNat (b / 16777216)] = l4 at *; have HY4 := Lib.hid hy1; have I4 := Lib.hid i1; clear hy1 i1)
  clear lt3 G3 c1_3
  have lt4 := Nat.lt_of_lt_of_le HG.out I4.out.frm.size
  have G4 := (B2.out.keep I4.out.frm (by simp)).gets HS32.out
  have c1_4 := G4.c1
  rw [rounds_succ]
  go_wp2_with (at_builtin; refine wpList_app BT I4.out ((Frm.refl [] _).alloc _) (lst_slB (l := [UInt8.ofNat (b / 65536)]) (n := 1) (heap_alloc_at rfl) (by have := HB4.out; simp only [bvs, List.map_cons, List.map_nil]; rw [bv_eq]; rw [UInt8.toNat_ofNat']; omega) rfl (by simp)) (by simp) rfl (.tmp 49) (.tmp 56) rfl rfl rfl ?_; intro a5 cap5 v5 i1; generalize hy1 : l4 ++ [UInt8.ofNat (b / 65536)] = l5 at *; have HY5 := Lib.hid hy1; have I5 := Lib.hid i1; clear hy1 i1)
  clear lt4 G4 c1_4
  have lt5 := Nat.lt_of_lt_of_le HG.out I5.out.frm.size
  have G5 := (B2.out.keep I5.out.frm (by simp)).gets HS32.out
  have c1_5 := G5.c1
  rw [rounds_succ]
  go_wp2_with (at_builtin; refine wpList_app BT I5.out ((Frm.refl [] _).alloc _) (lst_slB (l := [UInt8.ofNat (b / 256)]) (n := 1) (heap_alloc_at rfl) (by have := HB4.out; simp only [bvs, List.map_cons, List.map_nil]; rw [bv_eq]; rw [UInt8.toNat_ofNat']; omega) rfl (by simp)) (by simp) rfl (.tmp 49) (.tmp 56) rfl rfl rfl ?_; intro a6 cap6 v6 i1; generalize hy1 : l5 ++ [UInt8.ofNat (b / 256)] = l6 at *; have HY6 := Lib.hid hy1; have I6 := Lib.hid i1; clear hy1 i1)
  clear lt5 G5 c1_5
  have lt6 := Nat.lt_of_lt_of_le HG.out I6.out.frm.size
  have G6 := (B2.out.keep I6.out.frm (by simp)).gets HS32.out
  have c1_6 := G6.c1
  rw [rounds_succ]
  go_wp2_with (at_builtin; refine wpList_app BT I6.out ((Frm.refl [] _).alloc _) (lst_slB (l := [UInt8.ofNat b]) (n := 1) (heap_alloc_at rfl) (by have := HB4.out; simp only [bvs, List.map_cons, List.map_nil]; rw [bv_eq]; rw [UInt8.toNat_ofNat']; omega) rfl (by simp)) (by simp) rfl (.tmp 49) (.tmp 56) rfl rfl rfl ?_; intro a7 cap7 v7 i1; generalize hy1 : l6 ++ [UInt8.ofNat b] = l7 at *; have HY7 := Lib.hid hy1; have I7 := Lib.hid i1; clear hy1 i1)
  clear lt6 G6 c1_6
  rw [rounds_succ]
  go_upto_region 15 with (fail)
  have lt7 := Nat.lt_of_lt_of_le HG.out I7.out.frm.size
  have G7 := (B2.out.keep I7.out.frm (by simp)).gets HS32.out
  have c2_7 := G7.c2
  go_upto_region 16 with (at_builtin; refine wpList_app BT I7.out ((Frm.refl [] _).alloc _) (lst_slB (l := [UInt8.ofNat lv]) (n := 1) (heap_alloc_at rfl) (by have := HLV.out; simp only [bvs, List.map_cons, List.map_nil]; rw [bv_eq]; rw [UInt8.toNat_ofNat']; omega) rfl (by simp)) (by simp) rfl (.tmp 58) (.tmp 62) rfl rfl rfl ?_; intro a8 cap8 v8 i1; generalize hy1 : l7 ++ [UInt8.ofNat lv] = l8 at *; have HY8 := Lib.hid hy1; have I8 := Lib.hid i1; clear hy1 i1)
  clear lt7 G7 c2_7
  go_wp2_with (at_builtin; refine wpList_app BT I8.out (Frm.refl [] _) (sum_slB (B2.out.keep I8.out.frm (by simp)) HS32.out) (by rw [HS32.out]; simp) rfl (.tmp 64) (.tmp 66) rfl rfl rfl ?_; intro a9 cap9 v9 i1; generalize hy1 : l8 ++ s = l9 at *; have HY9 := Lib.hid hy1; have I9 := Lib.hid i1; clear hy1 i1)
  go_ret2
  have e : enc (ptN [x0, x1, x2] b lv s) = l9 := by
    rw [HEN.out, ← HY9.out, ← HY8.out, ← HY7.out, ← HY6.out, ← HY5.out, ← HY4.out, ← HY3.out, ← HY2.out, ← HY1.out, ← HY0.out]
    simp [ptB, addrsB, pad3, adB, be1, be2, be4]
  obtain ⟨sp9, o9⟩ := I9.out.own
  exact bytesP_yes HM.out e o9 (F0.out.trans I9.out.frm (by simp)) (fun i hi => Nat.le_trans F0.out.size (I9.out.new i hi))
set_option maxHeartbeats 4000000 in
theorem RefBytes_any (x : Value) (p : Pt) (w : World) (hp : PtV w x p) (hl : p.ads.length ≤ 1000000) : Calls Tryz.prog 65 #[x] w (BytesP p w) := by
  by_cases hm : may p
  · obtain ⟨L, b, lv, e1, e2, h3, hb, hb4, hlv⟩ := may_nat hm
    obtain ⟨a, cap, sp, rfl, hS, hs⟩ := hp
    generalize hq : p.s = s at *
    subst e1
    match L, h3, hb, hm, hS with
    | [], _, hb, hm, hS => exact refBytes0 a cap sp b lv s w hm hS hs hb hb4 hlv
    | [x0], _, hb, hm, hS => exact refBytes1 a cap x0 sp b lv s w hm hS hs hb hb4 hlv
    | [x0, x1], _, hb, hm, hS => exact refBytes2 a cap x0 x1 sp b lv s w hm hS hs hb hb4 hlv
    | [x0, x1, x2], _, hb, hm, hS => exact refBytes3 a cap x0 x1 x2 sp b lv s w hm hS hs hb hb4 hlv
    | _ :: _ :: _ :: _ :: _, h, _, _, _ => simp at h
  · have hC := fun W (f : Frm [] w W) => RefCheck_any x p W (hp.keep0 f) hl
    rw [show chk p = 2 by simp [chk, (mayB_not p).2 hm]] at hC
    obtain ⟨a, cap, sp, rfl, hS, hs⟩ := hp
    have B1 := PB.new w (.slice a p.ads.length cap) p.b p.l p.s
    have f : Frm [] w (w.alloc (.cells (pc (.slice a p.ads.length cap) p.b p.l p.s).toArray 54)) := (Frm.refl [] w).alloc _
    have hA0 : pv (.slice a p.ads.length cap) p.b p.l p.s = .agg (pc (.slice a p.ads.length cap) p.b p.l p.s).toArray := rfl
    have HA0 := Lib.hid hA0
    have HC := Lib.hid hC
    have HM := Lib.hid hm
    rw [hA0]
    clear hA0 hC hS hl hm
    generalize hA : (pc (.slice a p.ads.length cap) p.b p.l p.s).toArray = A at *
    generalize p.ads.length = n at *
    go_enter Tryz.func65, Tryz.ntmps65
    go_upto_region 1 with (fail)
    generalize w.alloc (.cells A 54) = W at *
    have G0 := Lib.hid (B1.gets hs)
    clear hA B1
    go_wp2_with (first | ((with_reducible (show wpList _ _ _ (Oper.mk _ (Op.load 54 _) _ _ _ _ :: _) _ _)); refine wpList_load_g (by rfl) 54 _ rfl _ rfl G0.out.all ?_) | (go_at_call 128; refine (HC.out _ f).mono ?_; rintro r w2 ⟨rfl, f2⟩))
    go_ret2
    exact bytesP_no HM.out (f.trans f2 (by simp))
end Go.Proofs.YtljhanhipmnioaaGreat.Pt

namespace Go.Proofs.YtljhanhipmnioaaGreat
open Go
set_option linter.unusedVariables false
set_option linter.unusedSimpArgs false

theorem part_no {l : List UInt8} {j : Nat} {b : UInt8} (hb : l[j]? = some b) (h : okAt j b = false) : partL l = false := by
  rw [Bool.eq_false_iff]
  intro hp
  have := (part_iff l).1 hp |>.2.2 j b hb
  rw [h] at this; cases this
theorem part_end {l : List UInt8} (h : ∀ j b, l[j]? = some b → okAt j b = true) : partL l = (decide (1 ≤ l.length) && decide (l.length ≤ 20)) := by
  rw [Bool.eq_iff_iff, part_iff]
  simp only [Bool.and_eq_true, decide_eq_true_eq]
  exact ⟨fun ⟨a, b, _⟩ => ⟨a, b⟩, fun ⟨a, b⟩ => ⟨a, b, h⟩⟩
theorem cut_hit : ∀ {l : List UInt8} {i : Nat}, l[i]? = some 64 → (∀ j, j < i → l[j]? ≠ some 64) → cutL l = (l.take i, l.drop (i + 1), true)
  | [], i, h, _ => by simp at h
  | c :: r, 0, h, _ => by simp at h; subst h; simp [cutL]
  | c :: r, i + 1, h, n => by
    have hc : c ≠ 64 := fun e => n 0 (by omega) (by simp [e])
    have ih := cut_hit (l := r) (i := i) (by simpa using h) (fun j hj => by have := n (j + 1) (by omega); simpa using this)
    simp [cutL, hc, ih]
/-- As the document has it. -/
theorem less_doc (a b : List UInt8) : lessL a b = if (cutL a).1 ≠ (cutL b).1 then decide (Lib.compareBytes (cutL a).1 (cutL b).1 < 0)
    else if (!(cutL a).2.2 || !(cutL b).2.2) then (!(cutL a).2.2 && (cutL b).2.2) else decide (Lib.compareBytes (cutL a).2.1 (cutL b).2.1 < 0) := by
  have fa := fun h => cut_false (l := a) h
  have fb := fun h => cut_false (l := b) h
  unfold lessL cmp3 pcs
  simp only
  generalize cutL a = x at *
  generalize cutL b = y at *
  obtain ⟨x1, x2, x3⟩ := x
  obtain ⟨y1, y2, y3⟩ := y
  simp only at *
  by_cases h : x1 = y1
  · subst h
    rw [cb_refl]
    cases x3 <;> cases y3
    · obtain rfl := fa rfl
      obtain rfl := fb rfl
      simp [Lib.compareBytes]
    · simp [Lib.compareBytes]
    · simp [Lib.compareBytes]
    · simp [Lib.compareBytes]
  · rw [if_pos h, if_pos (fun e => h (cb_eq e))]
end Go.Proofs.YtljhanhipmnioaaGreat

namespace Go.Proofs.YtljhanhipmnioaaGreat.Kr
open Go.RowKit
set_option linter.unusedVariables false
set_option maxRecDepth 100000
set_option linter.unusedSimpArgs false

section
variable {T : TypeId} {s : Nat} {w w' : World} {v : Value} {n : Nat} {xs sp : List Value} {L : List Nat}
end
section
variable {α : Type} {enc : α → List Value} {k : Nat}
variable {T : TypeId} {w : World} {v x : Value} {l m : List α} {sp msp : List Value}
theorem wpList_append_e (E : Enco enc k) {P : Program} {tS : TypeId} {by' : Nat} (B : RowTys P tS T k by') {ops : Array Oper} {rest : List Oper} {o : Oper} {a : Act} {Q : Exit → Act → World → Prop}
    {y : Value} (hO : OwnE enc k T w v l sp) (hS : SlE enc k w y m msp) (hb : l.length + m.length ≤ 1000000000) (hby : by' ≤ 1000)
    (hg : o.guard = none) (s x : Operand) (hop : o.op = Op.call { callee := Callee.builtin Builtin.append, args := #[s, x], argTypes := #[tS, tS] }) (hs : a.eval s = v) (hx : a.eval x = y)
    (kk : ∀ a' cap' w' sp', OwnE enc k T w' (.slice a' (l.length + m.length) cap') (l ++ m) sp' → Frm (blk v) w w' → (∀ i ∈ blk (.slice a' (l.length + m.length) cap'), i ∈ blk v ∨ w.heap.size ≤ i) →
      wpList P ops Q rest (a.put o.dst (.slice a' (l.length + m.length) cap')) w') :
    wpList P ops Q (o :: rest) a w := by
  obtain ⟨v', w', sp', h1, h2, h3, h4⟩ := append_e_src (x := y) E B o.type hO (SlE.src E B.sl hS) hb hby
  obtain ⟨a', cap', rfl, _, _⟩ := h2.sl.form
  rw [List.length_append] at h1 h2 h4
  refine wpList_val (w' := w') hg ?_ (kk a' cap' w' sp' h2 h3 ?_)
  · simp [execOp, hop, resolve, invoke, builtin, hs, hx, h1, Result.andThen]
  · intro i hi
    rcases h4 with h4 | ⟨h4, _⟩
    · exact .inl (h4 ▸ hi)
    · rw [h4] at hi; simp at hi; exact .inr (by omega)
end
end Go.Proofs.YtljhanhipmnioaaGreat.Kr

namespace Go.Proofs.YtljhanhipmnioaaGreat.Rd
open Go.RowKit
set_option linter.unusedVariables false
set_option linter.unusedSimpArgs false
set_option maxRecDepth 100000

open Pt (Pt may enc readPt readE zeroPt be4 be1 pc pv PtV SlA OwnA BT)
open Kr (OwnE SlE Enco RowTys)

theorem within_doc (n low high : Int) (w : World) : Calls Tryz.prog 69 #[.int .i64 n, .int .i64 low, .int .i64 high] w fun e w' => e = .returned (.bool (wi n low high)) ∧ w' = w := by
  unfold wi
  go_enter Tryz.func69, Tryz.ntmps69
  go_wp2_with fail
  all_goals go_ret
  · rename_i h
    exact ⟨by simp [h], rfl⟩
  · rename_i h
    exact ⟨by have : ¬ low ≤ n := by omega
              simp [this], rfl⟩
end Go.Proofs.YtljhanhipmnioaaGreat.Rd

namespace Go.Proofs.YtljhanhipmnioaaGreat.Rd
open Go.RowKit
set_option linter.unusedVariables false
set_option linter.unusedSimpArgs false
set_option maxRecDepth 100000

open Pt (Pt pc pv PtV SlA OwnA)
open Kr (OwnE SlE Enco RowTys)

def FindRel (n : ByteArray) (rs : List Rec) (c : Value) : Prop := ∃ k : Nat, k ≤ rs.length ∧ c = .int .i64 k ∧ ∀ j (h : j < rs.length), j < k → (rs[j]).name ≠ n
theorem fnd_here : ∀ {n : ByteArray} {rs : List Rec} {i : Nat} (hi : i < rs.length), (rs[i]).name = n → (∀ j (h : j < rs.length), j < i → (rs[j]).name ≠ n) → fnd n rs = some i
  | n, z :: r, 0, hi, hx, _ => by
    unfold fnd
    rw [if_pos (by simpa using hx)]
  | n, z :: r, i + 1, hi, hx, hn => by
    unfold fnd
    rw [if_neg (show ¬ z.name = n from hn 0 (by simp) (by omega)), fnd_here (i := i) (by simpa using hi) (by simpa using hx) (fun j h hj => hn (j + 1) (by simpa using h) (by omega))]
    rfl
theorem fnd_not : ∀ {n : ByteArray} {rs : List Rec}, (∀ j (h : j < rs.length), (rs[j]).name ≠ n) → fnd n rs = none
  | n, [], _ => rfl
  | n, z :: r, h => by
    unfold fnd
    rw [if_neg (show ¬ z.name = n from h 0 (by simp)), fnd_not (fun j hj => h (j + 1) (by simpa using hj))]
    rfl
set_option maxHeartbeats 1000000 in
theorem Find_any (vr vl : Value) (t : Tab) (n : ByteArray) (w : World) (h : Rs w vr t.recs) (hl : t.recs.length ≤ 1000) :
    Calls Tryz.prog 20 #[.agg (tc vr vl t).toArray, .string n] w fun e w' => e = .returned (fndV n t.recs) ∧ Frm [] w w' := by
  have f0 : Frm [] w (w.alloc (.cells (tc vr vl t).toArray 27)) := (Frm.refl [] w).alloc _
  have h1 : (w.alloc (.cells (tc vr vl t).toArray 27)).cell? ⟨w.heap.size, 1, none⟩ = some vr := by rw [cell_of_heap (heap_alloc_new _ _)]; rfl
  have hR := h.keep0 f0
  obtain ⟨av, cv, rfl⟩ := h.form
  generalize hA : (tc (.slice av t.recs.length cv) vl t).toArray = A at *
  clear hA h
  go_enter Tryz.func20, Tryz.ntmps20
  go_upto_region 1 with (fail)
  generalize hW : w.alloc (.cells A 27) = W at *
  clear hW
  have F := Lib.hid f0
  have HR := Lib.hid hR
  clear f0 hR
  go_wp2_with fail
  go_loop [6] (FindRel n t.recs) (fun c => t.recs.length - (intOf c).toNat)
  case atStart => exact ⟨0, Nat.zero_le _, rfl, fun j _ hj => by omega⟩
  case round =>
    obtain ⟨k, hk, rfl, hz⟩ := hrel
    have HZ := Lib.hid hz
    clear hz
    by_cases hkl : k < t.recs.length
    · obtain ⟨b, off, cap, e⟩ := HR.out.at (by omega)
      cases e
      obtain ⟨a, c, G, _⟩ := HR.out.gets k hkl
      have hn := G.name
      generalize hx : (t.recs[k]).name = x at *
      have HX := Lib.hid hx
      clear hx G
      go_wp2_with fail
      · have he : x = n := str_eq.1 (by assumption)
        go_ret2
        refine ⟨?_, F.out⟩
        unfold fndV
        rw [fnd_here hkl (HX.out.trans he) (fun j h hj => HZ.out j h hj)]
        rfl
      · have he : x ≠ n := fun e => by have := str_eq.2 e; simp_all
        refine ⟨⟨k + 1, by omega, by go_num, fun j h hj => ?_⟩, by simp [intOf]; omega⟩
        by_cases hjk : j = k
        · subst hjk; rw [HX.out]; exact he
        · exact HZ.out j h (by omega)
    · obtain rfl : k = t.recs.length := by omega
      go_wp2_with fail
      go_ret2
      refine ⟨?_, F.out⟩
      unfold fndV
      rw [fnd_not (fun j h => HZ.out j h h)]
      rfl
end Go.Proofs.YtljhanhipmnioaaGreat.Rd

namespace Go.Proofs.YtljhanhipmnioaaGreat
open Go.RowKit
set_option linter.unusedVariables false
set_option linter.unusedSimpArgs false
set_option maxRecDepth 100000

theorem okAt_iff (j : Nat) (b : UInt8) : okAt j b = true ↔ ((j ≠ 0 ∨ (97 ≤ b.toNat ∧ b.toNat ≤ 122)) ∧ ((97 ≤ b.toNat ∧ b.toNat ≤ 122) ∨ (48 ≤ b.toNat ∧ b.toNat ≤ 57) ∨ b.toNat = 46 ∨ b.toNat = 45 ∨ b.toNat = 95)) := by
  unfold okAt okB letB
  split
  · simp; omega
  · simp; omega
def PUpto (s : ByteArray) (i : Nat) : Prop := ∀ j b, j < i → s.data.toList[j]? = some b → okAt j b = true
def PRel (s : ByteArray) (w0 : World) (cv : Value) (wr : World) : Prop := ∃ i : Nat, cv = .int .i64 i ∧ i ≤ s.size ∧ PUpto s i ∧ Frm [] w0 wr
set_option maxHeartbeats 4000000 in
theorem RefPart_any (s : ByteArray) (hs : s.size ≤ 1000) (w : World) : Calls Tryz.prog 207 #[.string s] w fun e w' => e = .returned (.bool (partS s)) ∧ Frm [] w w' := by
  have HS := Lib.hid hs
  have hs9 : ((s.size : Nat) : Int) ≤ 1000 := by omega
  clear hs
  go_enter Tryz.func207, Tryz.ntmps207
  go_wp2_with fail
  go_loopw [3] (PRel s w) (fun cv _ => s.size - (intOf cv).toNat)
  case atStart => exact ⟨0, rfl, by omega, fun j b h => by omega, Frm.refl _ _⟩
  case round =>
    obtain ⟨i, rfl, hi, hu, f⟩ := hrel
    have HU := Lib.hid hu
    have F := Lib.hid f
    clear hu f
    by_cases hlt : i < s.size
    · obtain ⟨b, hb⟩ := at_text hlt
      have hlt' : (i : Int) < (s.size : Int) := by omega
      have hg : s[i] = b := by
        have : s.data.toList[i]? = some s[i] := by rw [List.getElem?_eq_getElem (by rw [← Lib.size_eq]; exact hlt)]; rfl
        rw [hb] at this; simp at this; exact this.symm
      have hb0 : (0 : Int) ≤ (b.toNat : Int) := by omega
      have HB := Lib.hid hb
      clear hb
      have HN := Lib.hid (show okAt i b = true → PUpto s (i + 1) from fun hok j x hj hx => by
        rcases Nat.lt_or_ge j i with h | h
        · exact HU.out j x h hx
        · obtain rfl : j = i := by omega
          rw [HB.out] at hx; cases hx; exact hok)
      have HP := Lib.hid (show okAt i b = false → partL s.data.toList = false from fun hok => part_no HB.out hok)
      have HQ := Lib.hid (okAt_iff i b)
      have hi9 : (i : Int) ≤ 1000 := by omega
      have HL := Lib.hid (And.intro hi hlt)
      clear HB hi
      have hgc : ((s[i]).toNat : Int) = (b.toNat : Int) := by rw [hg]
      clear hg
      generalize hc : (b.toNat : Int) = c at *
      have HC := Lib.hid hc
      clear hc
      rcases Nat.eq_zero_or_pos i with rfl | hpos
      · have cls : (97 ≤ c ∧ c ≤ 122) ∨ (c < 97) ∨ (122 < c ∧ 97 ≤ c) := by omega
        rcases cls with ⟨k1, k2⟩ | k2 | ⟨k2, k3⟩
        all_goals go_wp2_with fail
        all_goals first
            | exact ⟨⟨1, by go_num, by have := HL.out; omega, HN.out (HQ.out.2 (by have := HC.out; omega)), F.out⟩, by have := HL.out; simp [intOf]; omega⟩
            | (go_ret; exact ⟨by unfold partS; rw [HP.out (by rw [Bool.eq_false_iff]; intro h; have := HQ.out.1 h; have := HC.out; omega)]; rfl, F.out⟩)
            | (exfalso; rename_i q; simp at q; first | done | omega)
      · have hne : ¬ (i : Int) = 0 := by omega
        have cls : (97 ≤ c ∧ c ≤ 122) ∨ (48 ≤ c ∧ c ≤ 57 ∧ c < 97) ∨ (c = 46) ∨ (c = 45) ∨ (c = 95) ∨ (c < 48 ∧ c < 97 ∧ ¬ c = 46 ∧ ¬ c = 45 ∧ ¬ c = 95) ∨ (57 < c ∧ 48 ≤ c ∧ c < 97 ∧ ¬ c = 46 ∧ ¬ c = 45 ∧ ¬ c = 95) ∨ (57 < c ∧ 48 ≤ c ∧ 97 ≤ c ∧ 122 < c ∧ ¬ c = 46 ∧ ¬ c = 45 ∧ ¬ c = 95) := by omega
        rcases cls with ⟨k1, k2⟩ | ⟨k2, k3, k4⟩ | rfl | rfl | rfl | ⟨k2, k3, k4, k5, k6⟩ | ⟨k2, k3, k4, k5, k6, k7⟩ | ⟨k2, k3, k4, k5, k6, k7, k8⟩
        all_goals go_wp2_with fail
        all_goals first
            | exact ⟨⟨i + 1, by go_num, by have := HL.out; omega, HN.out (HQ.out.2 (by have := HC.out; omega)), F.out⟩, by have := HL.out; simp [intOf]; omega⟩
            | (go_ret; exact ⟨by unfold partS; rw [HP.out (by rw [Bool.eq_false_iff]; intro h; have := HQ.out.1 h; have := HC.out; omega)]; rfl, F.out⟩)
            | (exfalso; rename_i q; simp at q; first | done | omega)
    · obtain rfl : i = s.size := by omega
      have HE := Lib.hid (part_end (l := s.data.toList) (fun j b hb => HU.out j b (by rw [Lib.size_eq]; exact (List.getElem?_eq_some_iff.1 hb).1) hb))
      rw [← Lib.size_eq] at HE
      clear hlt
      go_wp2_with fail
      all_goals first
        | (go_ret; refine ⟨congrArg (fun x => Ending.returned (.bool x)) ?_, F.out⟩; unfold partS; rw [HE.out, Bool.eq_iff_iff]; simp; omega)
end Go.Proofs.YtljhanhipmnioaaGreat

namespace Go.Proofs.YtljhanhipmnioaaGreat
open Go.RowKit
set_option linter.unusedVariables false
set_option linter.unusedSimpArgs false
set_option maxRecDepth 100000

def CRel (s : ByteArray) (w0 : World) (cv : Value) (wr : World) : Prop := ∃ i : Nat, cv = .int .i64 i ∧ i ≤ s.size ∧ (∀ j, j < i → s.data.toList[j]? ≠ some 64) ∧ Frm [] w0 wr
set_option maxHeartbeats 4000000 in
theorem RefCut_any (s : ByteArray) (hs : s.size ≤ 1000) (w : World) : Calls Tryz.prog 200 #[.string s] w fun e w' => CutE s e ∧ Frm [] w w' := by
  have hs9 : ((s.size : Nat) : Int) ≤ 1000 := by omega
  clear hs
  go_enter Tryz.func200, Tryz.ntmps200
  go_wp2_with fail
  go_loopw [5] (CRel s w) (fun cv _ => s.size - (intOf cv).toNat)
  case atStart => exact ⟨0, rfl, by omega, fun j h => by omega, Frm.refl _ _⟩
  case round =>
    obtain ⟨i, rfl, hi, hu, f⟩ := hrel
    have HU := Lib.hid hu
    have F := Lib.hid f
    clear hu f
    by_cases hlt : i < s.size
    · have hlt' : (i : Int) < (s.size : Int) := by omega
      obtain ⟨b, hb⟩ : ∃ b, s.data.toList[i]? = some b := ⟨_, List.getElem?_eq_getElem (by rw [← Lib.size_eq]; exact hlt)⟩
      have hg : s[i] = b := by
        have : s.data.toList[i]? = some s[i] := by rw [List.getElem?_eq_getElem (by rw [← Lib.size_eq]; exact hlt)]; rfl
        rw [hb] at this; simp at this; exact this.symm
      have HB := Lib.hid hb
      clear hb
      by_cases h64 : b = 64
      · subst h64
        have HE := Lib.hid (cut_hit_s (cut_hit HB.out HU.out))
        have c1 : (0 : Int) ≤ (i : Int) := by omega
        have c2 : (i : Int) ≤ (s.size : Int) := by omega
        have c3 : (0 : Int) ≤ (i : Int) + 1 := by omega
        have c4 : (i : Int) + 1 ≤ (s.size : Int) := by omega
        go_wp2_with fail
        go_big_region
        go_wp2
        go_ret3
        refine ⟨?_, F.out.drew⟩
        unfold CutE
        rw [HE.out.1, HE.out.2.1, HE.out.2.2]
        rfl
      · have hne : ¬ ((b.toNat : Int) = 64) := fun e => h64 (UInt8.toNat_inj.1 (by show b.toNat = 64; omega))
        have HN := Lib.hid (show ∀ j, j < i + 1 → s.data.toList[j]? ≠ some 64 from fun j hj he => by
          rcases Nat.lt_or_ge j i with h | h
          · exact HU.out j h he
          · obtain rfl : j = i := by omega
            rw [HB.out] at he; exact h64 (Option.some.inj he))
        go_wp2_with fail
        all_goals first
          | exact ⟨⟨i + 1, by go_num, by omega, HN.out, F.out⟩, by simp [intOf]; omega⟩
          | (go_roundw; (case rel => exact ⟨i + 1, by go_num, by omega, HN.out, F.out⟩); (case measure => simp [intOf]; omega))
    · obtain rfl : i = s.size := by omega
      have HE := Lib.hid (cut_no_s (cut_no (l := s.data.toList) (fun b hb e => by
        obtain ⟨j, hj⟩ := List.getElem?_of_mem hb
        rw [e] at hj
        exact HU.out j (by rw [Lib.size_eq]; exact (List.getElem?_eq_some_iff.1 hj).1) hj)))
      clear hlt
      go_wp2_with fail
      go_ret3
      refine ⟨?_, F.out⟩
      unfold CutE
      rw [HE.out.1, HE.out.2.1, HE.out.2.2]
      rfl
end Go.Proofs.YtljhanhipmnioaaGreat

namespace Go.Proofs.YtljhanhipmnioaaGreat
open Go.RowKit
set_option linter.unusedVariables false
set_option linter.unusedSimpArgs false
set_option maxRecDepth 100000

set_option maxHeartbeats 1000000 in
theorem RefSplit_any (s : ByteArray) (hs : s.size ≤ 1000) (w : World) : Calls Tryz.prog 157 #[.string s] w fun e w' => SplE s e ∧ Frm [] w w' := by
  have HC := Lib.hid (fun W => RefCut_any s hs W)
  unfold CutE at HC
  have H1 := Lib.hid (fun W => RefPart_any (cut1 s) (Nat.le_trans (cut1_size s) hs) W)
  have H2 := Lib.hid (fun W => RefPart_any (cut2 s) (Nat.le_trans (cut2_size s) hs) W)
  unfold SplE spl1 spl2 snapS
  generalize partS (cut1 s) = x at *
  generalize partS (cut2 s) = y at *
  generalize cut1 s = a at *
  generalize cut2 s = b at *
  generalize cutIs s = c at *
  clear hs
  cases c <;> cases x <;> cases y
  all_goals
    go_enter Tryz.func157, Tryz.ntmps157
    go_upto_region 2 with (go_at_call 200; refine (HC.out _).mono ?_; rintro e w1 ⟨rfl, f1⟩; have F1 := Lib.hid f1; clear f1)
    go_wp2_with (first
      | (go_at_call 207; refine (H1.out _).mono ?_; rintro e w3 ⟨rfl, f3⟩; have F3 := Lib.hid (F1.out.trans f3 (by simp)); clear f3; clear H1)
      | (go_at_call 207; refine (H2.out _).mono ?_; rintro e w4 ⟨rfl, f4⟩; have F4 := Lib.hid (F3.out.trans f4 (by simp)); clear f4))
    go_ret3
    first
      | exact ⟨rfl, F4.out⟩
      | exact ⟨rfl, F3.out⟩
      | exact ⟨rfl, F1.out⟩
theorem RefSnapshot_any (s : ByteArray) (hs : s.size ≤ 1000) (w : World) : Calls Tryz.prog 158 #[.string s] w fun e w' => e = .returned (.bool (snapS s)) ∧ Frm [] w w' := by
  have HC := Lib.hid (fun W => RefSplit_any s hs W)
  unfold SplE at HC
  go_enter Tryz.func158, Tryz.ntmps158
  go_wp2_with (go_at_call 157; refine (HC.out _).mono ?_; rintro e w1 ⟨rfl, f1⟩; have F1 := Lib.hid f1; clear f1)
  go_ret
  exact ⟨rfl, F1.out⟩
theorem RefVolume_any (s : ByteArray) (hs : s.size ≤ 1000) (w : World) : Calls Tryz.prog 154 #[.string s] w fun e w' => e = .returned (.bool (partS s)) ∧ Frm [] w w' := by
  have HP := Lib.hid (RefPart_any s hs w)
  go_enter Tryz.func154, Tryz.ntmps154
  go_wp2_with (go_at_call 207; refine HP.out.mono ?_; rintro e w' ⟨rfl, f⟩; have F := Lib.hid f; clear f)
  go_ret
  exact ⟨rfl, F.out⟩
end Go.Proofs.YtljhanhipmnioaaGreat

namespace Go.Proofs.YtljhanhipmnioaaGreat
open Go.RowKit
set_option linter.unusedVariables false
set_option linter.unusedSimpArgs false
set_option maxRecDepth 100000

theorem bytesLess_cb : ∀ a b : List UInt8, Op.bytesLess a b = decide (Lib.compareBytes a b < 0)
  | [], [] => by simp [Op.bytesLess, Lib.compareBytes]
  | _ :: _, [] => by simp [Op.bytesLess, Lib.compareBytes]
  | [], _ :: _ => by simp [Op.bytesLess, Lib.compareBytes]
  | a :: x, b :: y => by
    unfold Op.bytesLess Lib.compareBytes
    rw [bytesLess_cb x y]
    by_cases h1 : a < b
    · simp [h1]
    · by_cases h2 : b < a
      · have h3 : (a == b) = false := by simp; intro h; subst h; exact h1 h2
        simp [h1, h2, h3]
      · have h3 : a = b := UInt8.le_antisymm (UInt8.not_lt.1 h2) (UInt8.not_lt.1 h1)
        subst h3
        simp [h1]
theorem less_ref (a b : ByteArray) : lessS a b = if (cut1 a).toList == (cut1 b).toList then (if cutIs a && cutIs b then Op.bytesLess (cut2 a).toList (cut2 b).toList else !cutIs a && cutIs b) else Op.bytesLess (cut1 a).toList (cut1 b).toList := by
  rw [Lib.toList_data, Lib.toList_data, Lib.toList_data, Lib.toList_data, bytesLess_cb, bytesLess_cb]
  unfold lessS
  rw [less_doc]
  unfold cut1 cut2 cutIs
  simp only [sB_list]
  generalize cutL a.data.toList = x
  generalize cutL b.data.toList = y
  obtain ⟨x1, x2, x3⟩ := x
  obtain ⟨y1, y2, y3⟩ := y
  by_cases h : x1 = y1
  · subst h
    cases x3 <;> cases y3 <;> simp <;> exact decide_eq_decide.2 Iff.rfl
  · simp [h] <;> exact decide_eq_decide.2 Iff.rfl
set_option maxHeartbeats 2000000 in
theorem RefLess_any (a b : ByteArray) (ha : a.size ≤ 1000) (hb : b.size ≤ 1000) (w : World) : Calls Tryz.prog 143 #[.string a, .string b] w fun e w' => e = .returned (.bool (lessS a b)) ∧ Frm [] w w' := by
  have HA := Lib.hid (fun W => RefCut_any a ha W)
  have HB := Lib.hid (fun W => RefCut_any b hb W)
  unfold CutE at HA HB
  rw [less_ref]
  generalize cut1 a = a1 at *
  generalize cut2 a = a2 at *
  generalize cutIs a = a3 at *
  generalize cut1 b = b1 at *
  generalize cut2 b = b2 at *
  generalize cutIs b = b3 at *
  clear ha hb
  cases hq : (a1.toList == b1.toList)
  · go_enter Tryz.func143, Tryz.ntmps143
    go_upto_region 2 with (go_at_call 200; refine (HA.out _).mono ?_; rintro e w1 ⟨rfl, f1⟩; have F1 := Lib.hid f1; clear f1)
    go_upto_region 3 with (go_at_call 200; refine (HB.out _).mono ?_; rintro e w2 ⟨rfl, f2⟩; have F2 := Lib.hid (F1.out.trans f2 (by simp)); clear f2)
    go_wp2_with fail
    go_ret
    exact ⟨rfl, F2.out⟩
  · cases a3 <;> cases b3
    all_goals
      go_enter Tryz.func143, Tryz.ntmps143
      go_upto_region 2 with (go_at_call 200; refine (HA.out _).mono ?_; rintro e w1 ⟨rfl, f1⟩; have F1 := Lib.hid f1; clear f1)
      go_upto_region 3 with (go_at_call 200; refine (HB.out _).mono ?_; rintro e w2 ⟨rfl, f2⟩; have F2 := Lib.hid (F1.out.trans f2 (by simp)); clear f2)
      go_wp2_with fail
      go_ret
      exact ⟨rfl, F2.out⟩
end Go.Proofs.YtljhanhipmnioaaGreat

namespace Go.Proofs.YtljhanhipmnioaaGreat.Rd
open Go.RowKit
set_option linter.unusedVariables false
set_option linter.unusedSimpArgs false
set_option maxRecDepth 100000

open Pt (Pt may enc readPt readE zeroPt be4 be1 pc pv PtV SlA OwnA BT wpList_load_g heap_alloc_at lst_slB one_slB Ext Grew exec_slice_lh)
open Kr (OwnE SlE Enco RowTys)

set_option maxHeartbeats 8000000 in
theorem RefMay_any (u : Value) (x : Rec) (w : World) (h : RecV w u x) (hf : FitR x) : Calls Tryz.prog 142 #[u] w fun e w' => e = .returned (.bool (mayR x)) ∧ Frm [] w w' := by
  obtain ⟨v, rfl, hs, hp, _⟩ := h.box
  have f0 : Frm [] w (w.alloc (.cells (rc v x).toArray 56)) := (Frm.refl [] w).alloc _
  have B := Lib.hid (RB.new (w := w) (v := v) hs)
  have HV := Lib.hid (fun z => RefVolume_any x.name hf.name z)
  have HS := Lib.hid (fun z => RefSnapshot_any x.name hf.name z)
  have HH := Lib.hid (fun z (f : Frm [] w z) => Pt.RefHole_any _ x.root z (hp.keep0 f))
  have HK := Lib.hid (fun z (f : Frm [] w z) => Pt.RefCheck_any _ x.root z (hp.keep0 f) hf.ads)
  have hch : Pt.mayB x.root = (Pt.chk x.root == 0) := by unfold Pt.chk; cases Pt.mayB x.root <;> simp
  unfold mayR volR snpR rootB
  rw [hch]
  generalize partS x.name = pn at *
  generalize snapS x.name = sn at *
  generalize Pt.hole x.root = ho at *
  generalize Pt.chk x.root = ck at *
  have c0 := B.out.gets.id
  have c3 := B.out.gets.size
  have c39 := B.out.gets.made
  have R0 := Lib.hid B.out.gets.root
  generalize hA : (rc v x).toArray = A at *
  clear hA h hs hp hch
  have F := Lib.hid f0
  generalize hg : w.heap.size = g at *
  have HB := Lib.hid (fun z (f : Frm [] (w.alloc (.cells A 56)) z) => (B.out.keep0 f).gets)
  clear f0
  go_enter Tryz.func142, Tryz.ntmps142
  go_upto_region 1 with (fail)
  generalize w.alloc (.cells A 56) = W at *
  clear hg
  go_wp2_with (first
    | (go_at_call 69; refine (within_doc _ _ _ _).mono ?_; rintro e w2 ⟨rfl, rfl⟩)
    | ((with_reducible (show wpList _ _ _ (Oper.mk _ (Op.load 54 _) _ _ _ _ :: _) _ _)); refine wpList_load_g (by rfl) 54 _ rfl _ rfl R0.out ?_)
    | ((with_reducible (show wpList _ _ _ (Oper.mk _ (Op.load 54 _) _ _ _ _ :: _) _ _)); refine wpList_load_g (by rfl) 54 _ rfl _ rfl R1.out ?_)
    | (go_at_call 128; refine (HK.out _ F.out).mono ?_; rintro e w1 ⟨rfl, f1⟩; have F1 := Lib.hid (F.out.trans f1 (by simp)); have HB1 := Lib.hid (fun z (f : Frm [] w1 z) => HB.out z (f1.trans f (by simp))); have R1 := Lib.hid (HB1.out _ (Frm.refl _ _)).root; have d6 := (HB1.out _ (Frm.refl _ _)).level; have d2 := (HB1.out _ (Frm.refl _ _)).kind; have d1 := (HB1.out _ (Frm.refl _ _)).name)
    | (go_at_call 165; refine (HH.out _ F1.out).mono ?_; rintro e w2 ⟨rfl, f2⟩; have F2 := Lib.hid (F1.out.trans f2 (by simp)); have HB2 := Lib.hid (fun z (f : Frm [] w2 z) => HB1.out z (f2.trans f (by simp))); have e6 := (HB2.out _ (Frm.refl _ _)).level; have e2 := (HB2.out _ (Frm.refl _ _)).kind; have e1 := (HB2.out _ (Frm.refl _ _)).name)
    | (go_at_call 154; refine (HV.out _).mono ?_; rintro e w3 ⟨rfl, f3⟩; have g40 := (HB2.out _ f3).of; have g41 := (HB2.out _ f3).origin; have g42 := (HB2.out _ f3).quota; have g43 := (HB2.out _ f3).reserve; have g5 := (HB2.out _ f3).birth; have g39 := (HB2.out _ f3).made)
    | (go_at_call 158; refine (HS.out _).mono ?_; rintro e w3 ⟨rfl, f3⟩; have g40 := (HB2.out _ f3).of; have g41 := (HB2.out _ f3).origin; have g42 := (HB2.out _ f3).quota; have g43 := (HB2.out _ f3).reserve; have g5 := (HB2.out _ f3).birth; have g39 := (HB2.out _ f3).made))
  all_goals go_ret
  all_goals first
    | exact ⟨by simp_all [bne], F2.out.trans f3 (by simp)⟩
    | exact ⟨by simp_all [bne], F2.out⟩
    | exact ⟨by simp_all [bne], F1.out⟩
    | exact ⟨by simp_all [bne], F.out⟩
end Go.Proofs.YtljhanhipmnioaaGreat.Rd

namespace Go.Proofs.YtljhanhipmnioaaGreat.Rd
open Go.RowKit
set_option linter.unusedVariables false
set_option linter.unusedSimpArgs false
set_option maxRecDepth 100000

open Pt (Pt may enc readPt readE zeroPt be4 be1 pc pv PtV SlA OwnA BT wpList_load_g heap_alloc_at lst_slB one_slB Ext Grew exec_slice_lh yieldsIf_ld)
open Kr (OwnE SlE Enco RowTys)

def orgB (x y : Rec) : Bool := y.id == x.origin && y.kind == 2
def KinRel (x : Rec) (rs : List Rec) (w0 : World) (bv cv : Value) (wr : World) : Prop := ∃ k : Nat, k ≤ rs.length ∧ cv = .int .i64 k ∧ bv = .bool (x.origin == 0 || (rs.take k).any (orgB x)) ∧ Frm [] w0 wr
theorem any_snoc {p : Rec → Bool} {rs : List Rec} {k : Nat} (h : k < rs.length) : (rs.take (k + 1)).any p = ((rs.take k).any p || p rs[k]) := by
  rw [List.take_succ_eq_append_getElem h]; simp only [List.any_append, List.any_cons, List.any_nil, Bool.or_false]
set_option maxHeartbeats 4000000 in
theorem kin_any (vr vl u : Value) (t : Tab) (x : Rec) (w : World) (h : RecV w u x) (hf : FitR x) (hR : Rs w vr t.recs) (hl : t.recs.length ≤ 1000) : Calls Tryz.prog 144 #[tv vr vl t, u] w fun e w' => e = .returned (.bool (kinB t.recs x)) ∧ Frm [] w w' := by
  obtain ⟨v, rfl, hs, _, _⟩ := h.box
  have HSP := Lib.hid (fun z => RefSplit_any x.name hf.name z)
  have HFI := Lib.hid (fun z (f : Frm [] w z) => Find_any vr vl t (spl1 x.name) z (hR.keep0 f) hl)
  unfold SplE at HSP
  have f0 : Frm [] w (w.alloc (.cells (tc vr vl t).toArray 27)) := (Frm.refl [] w).alloc _
  have B := Lib.hid (TB.new w vr vl t)
  unfold tv
  have HTV := Lib.hid (show tv vr vl t = .agg (tc vr vl t).toArray from rfl)
  generalize (tc vr vl t).toArray = A at *
  have f1 : Frm [] w ((w.alloc (.cells A 27)).alloc (.cells (rc v x).toArray 56)) := f0.alloc _
  have TBh := Lib.hid (B.out.keep0 ((Frm.refl [] _).alloc (.cells (rc v x).toArray 56)))
  have RBh := Lib.hid (RB.new (w := w.alloc (.cells A 27)) (v := v) hs)
  rw [show (w.alloc (.cells A 27)).heap.size = w.heap.size + 1 by simp] at RBh
  generalize (rc v x).toArray = A2 at *
  have HR := Lib.hid (hR.keep0 f1)
  have F := Lib.hid f1
  have HX := Lib.hid (fun z (f : Frm [] ((w.alloc (.cells A 27)).alloc (.cells A2 56)) z) => (RBh.out.keep0 f).gets)
  have HT := Lib.hid (fun z (f : Frm [] ((w.alloc (.cells A 27)).alloc (.cells A2 56)) z) => (TBh.out.keep0 f).gets)
  clear h hs hR f0 f1 B TBh RBh
  have c0 := (HX.out _ (Frm.refl _ _)).name
  have c2 := (HX.out _ (Frm.refl _ _)).kind
  have c7 := (HX.out _ (Frm.refl _ _)).origin
  have d1 := (HT.out _ (Frm.refl _ _)).recs
  unfold kinB
  unfold fndV at HFI
  have HL := Lib.hid (fun i (hq : fnd (spl1 x.name) t.recs = some i) => fnd_lt hq)
  generalize hgz : w.heap.size = g at *
  by_cases k2 : x.kind = 2
  · rw [if_pos k2]
    rw [k2] at c2
    clear k2
    generalize spl1 x.name = s1 at *
    generalize spl2 x.name = s2 at *
    generalize snapS x.name = sn at *
    cases hq : fnd s1 t.recs with
    | none =>
      rw [hq] at HFI
      clear HL hq
      go_enter Tryz.func144, Tryz.ntmps144
      go_upto_region 1 with (fail)
      generalize (w.alloc (.cells A 27)).alloc (.cells A2 56) = W at *
      have HA := Lib.hid (fun z (f : Frm [] W z) => (HT.out _ f).all)
      rw [HTV.out] at HA
      go_upto_region 4 with (first
        | (go_at_call 157; refine (HSP.out _).mono ?_; rintro e w1 ⟨rfl, f1⟩; have A1 := Lib.hid (HA.out _ f1))
        | ((with_reducible (show wpList _ _ _ (Oper.mk _ (Op.load 27 _) _ _ _ _ :: _) _ _)); refine wpList_load_g (by rfl) 27 _ rfl _ rfl A1.out ?_)
        | (go_at_call 20; refine (HFI.out _ (F.out.trans f1 (by simp))).mono ?_; rintro e w2 ⟨rfl, f2⟩))
      have F2 := Lib.hid (f1.trans f2 (by simp))
      clear f1 f2 A1
      go_quiet (fail)
      all_goals go_wp2_with fail
      all_goals go_ret
      all_goals refine ⟨?_, (F.out.trans F2.out (by simp)).drewN _⟩
      all_goals simp_all
    | some i =>
      rw [hq] at HFI
      have hi := HL.out i hq
      have hi9 : (i : Int) < (t.recs.length : Int) := by omega
      obtain ⟨b, off, cp, e⟩ := HR.out.at (by omega)
      subst e
      simp only [List.getElem?_eq_getElem hi]
      obtain ⟨ya, yc, GV⟩ := HR.out.getsF i hi
      have HG := Lib.hid (fun z (f : Frm [] _ z) => (GV z f).1.id)
      clear HL hq GV
      generalize t.recs[i] = y at *
      go_enter Tryz.func144, Tryz.ntmps144
      go_upto_region 1 with (fail)
      generalize (w.alloc (.cells A 27)).alloc (.cells A2 56) = W at *
      have HA := Lib.hid (fun z (f : Frm [] W z) => (HT.out _ f).all)
      rw [HTV.out] at HA
      go_upto_region 4 with (first
        | (go_at_call 157; refine (HSP.out _).mono ?_; rintro e w1 ⟨rfl, f1⟩; have A1 := Lib.hid (HA.out _ f1))
        | ((with_reducible (show wpList _ _ _ (Oper.mk _ (Op.load 27 _) _ _ _ _ :: _) _ _)); refine wpList_load_g (by rfl) 27 _ rfl _ rfl A1.out ?_)
        | (go_at_call 20; refine (HFI.out _ (F.out.trans f1 (by simp))).mono ?_; rintro e w2 ⟨rfl, f2⟩))
      have F2 := Lib.hid (f1.trans f2 (by simp))
      clear f1 f2 A1
      have k0 := (HT.out _ F2.out).recs
      have k1 := (HX.out _ F2.out).of
      have k3 := HG.out _ F2.out
      go_quiet (fail)
      all_goals go_wp2_with fail
      all_goals go_ret
      all_goals refine ⟨?_, (F.out.trans F2.out (by simp)).drewN _⟩
      all_goals simp_all
  · rw [if_neg k2]
    have hk2 : (x.kind == 2) = false := by simpa using k2
    have ho : (t.recs.any fun y => y.id == x.origin && y.kind == 2) = t.recs.any (orgB x) := rfl
    rw [ho]
    clear k2 HL HFI HSP ho
    have hl9 : (t.recs.length : Int) ≤ 1000 := by omega
    obtain ⟨av, ac, rfl⟩ := HR.out.form
    go_enter Tryz.func144, Tryz.ntmps144
    go_upto_region 1 with (fail)
    generalize (w.alloc (.cells A 27)).alloc (.cells A2 56) = W at *
    go_upto_region 7 with (fail)
    go_loopw [10, 11] (KinRel x t.recs W) (fun _ c _ => t.recs.length - (intOf c).toNat)
    case atStart => exact ⟨0, Nat.zero_le _, rfl, by simp, Frm.refl _ _⟩
    case round =>
      obtain ⟨k, hk, rfl, rfl, f⟩ := hrel
      have FW := Lib.hid f
      have q1 := (HT.out _ f).recs
      have q7 := (HX.out _ f).origin
      clear f
      by_cases hkl : k < t.recs.length
      · have hkl9 : (k : Int) < (t.recs.length : Int) := by omega
        obtain ⟨b, off, cp, e⟩ := HR.out.at (by omega)
        cases e
        obtain ⟨ya, yc, GV⟩ := HR.out.getsF k hkl
        have y0 := (GV _ FW.out).1.id
        have y2 := (GV _ FW.out).1.kind
        have HN := Lib.hid (show ∀ bb, bb = ((x.origin == 0 || (t.recs.take k).any (orgB x)) || (t.recs[k].id == x.origin && t.recs[k].kind == 2)) → ∀ z, Frm [] wr z → KinRel x t.recs W (.bool bb) (.int .i64 ((k : Int) + 1)) z from fun bb hb z fz => ⟨k + 1, by omega, by go_num, by rw [hb, any_snoc hkl, Bool.or_assoc]; rfl, FW.out.trans fz (by simp)⟩)
        clear GV
        generalize (x.origin == 0 || (t.recs.take k).any (orgB x)) = b0 at *
        generalize t.recs[k] = y at *
        go_wp2_with fail
        cases b0 with
        | true =>
          go_quiet (fail)
          go_wp2_with fail
          go_roundw
          case rel => exact HN.out _ (by simp) _ ((Frm.refl [] _).drewN _)
          case measure => simp [intOf]; omega
        | false =>
          cases hy : (y.id == x.origin) with
          | true =>
            go_quiet (fail)
            go_wp2_with fail
            go_roundw
            case rel => exact HN.out _ (by simp [hy]) _ ((Frm.refl [] _).drewN _)
            case measure => simp [intOf]; omega
          | false =>
            go_quiet (fail)
            go_wp2_with fail
            go_roundw
            case rel => exact HN.out _ (by simp [hy]) _ ((Frm.refl [] _).drewN _)
            case measure => simp [intOf]; omega
      · obtain rfl : k = t.recs.length := by omega
        rw [List.take_length]
        go_wp2_with fail
        go_ret
        exact ⟨rfl, F.out.trans FW.out (by simp)⟩
end Go.Proofs.YtljhanhipmnioaaGreat.Rd
