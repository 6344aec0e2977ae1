/-
  Laws on slices of bytes: read, owned, appended to, made, turned into a string; and the walk's step for an operation whose run is known. No conditions but those that each law names. Contracts of pointer: Check, and what it calls. No conditions but those that each theorem names. Contracts of pointer: Read, Same, and plain facts. No conditions but those that each theorem names. Whether two records are the same. No conditions but those that each theorem names. Writing texts, pointers, records. No conditions but those that each theorem names. Contract of the document's four; steps of its writing. No conditions but those that each theorem names.
-/
import Derived.Test.YtljhanhipmnioaaGreatMRa1
import Derived.Test.YtljhanhipmnioaaGreatMRa2
import Derived.Test.YtljhanhipmnioaaGreatMRa3
import Derived.Test.YtljhanhipmnioaaGreatMRa4
import Derived.Test.YtljhanhipmnioaaGreatMRa5
import Derived.Test.YtljhanhipmnioaaGreatMRa6
import Derived.Test.YtljhanhipmnioaaGreatMRa7
import Derived.Test.YtljhanhipmnioaaGreatMRa8
import Derived.Test.YtljhanhipmnioaaGreatMRa9
import Derived.Test.YtljhanhipmnioaaGreatMRa10
import Derived.Test.YtljhanhipmnioaaGreatMRb1
import Derived.Test.YtljhanhipmnioaaGreatMRd1
import Derived.Test.YtljhanhipmnioaaGreatMRf1
import Derived.Test.YtljhanhipmnioaaGreatMRf2
import Derived.Test.YtljhanhipmnioaaGreatMRg1
import Derived.Laws.BytesString
import Derived.Test.YtljhanhipmnioaaGreatChecked
import Derived.ChangeKeysEq
import Derived.Deep.MidRow
import Derived.Deep.RegionHeld3
import Derived.OpenShut
import Derived.Lib.Hide
import Derived.WalkHide
import Derived.IntWalk
import Derived.StillTailTactics
import Derived.Deep.RegionLaw
import Derived.Deep.RegionWith
import Derived.Deep.QuietTactic
import Derived.BigQuiet
import Derived.OrdersHeld
import Derived.Deep.CutBlock
import Derived.Deep.DeepCutAuto
import Derived.Deep.Slices
import Derived.Defers
import Derived.Recover
import Derived.Deep.WholeRow
import Derived.Deep.SlicePairs
import Derived.LaidEqlPtr
import Derived.Deep.Cut
import Derived.WalkKit
import Derived.WalkSpells
import Derived.WalkLawsBesides
import Derived.Deep.AppendSrc
import Derived.Laws.CopyOwn
import Derived.Laws.BytesArg
import Derived.Carry
import Derived.Lib.Bytealg
import Derived.Lib.TrimUEq
import Derived.Lib.MinMaxS
import Derived.Lib.OthersKept
import Derived.Deep.Draws
import Derived.WalkMore
import Derived.Deep.LoopGhost
import Derived.Lib.BufferWrite
import Derived.Lib.UnsafeStr
import Derived.Laws.MakeOwn
import Derived.Laws.Strings3
import Derived.BigRegion
import Derived.Lib.Walk
import Derived.Great.Walk
namespace Go.Proofs.YtljhanhipmnioaaGreat
open Go.RowKit
set_option linter.unusedVariables false
set_option maxRecDepth 100000
set_option linter.unusedSimpArgs false

section
variable {P : Program} {tS T : TypeId} {w : World} {v x : Value} {l sp m msp : List UInt8}
end
theorem step_append_bytes {P : Program} {tS T : TypeId} (B : ByteTys P tS T) {w : World} {ops : Array Oper} {o : Oper} {a : Act} {K : Act → World → Prop} {Q : Exit → Act → World → Prop} {E : Prop}
    {v y : Value} {l sp m msp : List UInt8} (hO : OwnB T w v l sp) (hS : SlB w y m msp) (hb : l.length + m.length ≤ 140737488355328)
    (hg : o.guard = none) (s x : Operand) (hop : o.op = Op.call { callee := Callee.builtin Builtin.append, args := #[s, x], argTypes := #[tS, tS] }) (hs : a.eval s = v) (hx : a.eval x = y)
    (k : ∀ a' cap' w' sp', OwnB T w' (.slice a' (l.length + m.length) cap') (l ++ m) sp' → Frm (blk v) w w' → (∀ i ∈ blk (.slice a' (l.length + m.length) cap'), i ∈ blk v ∨ w.heap.size ≤ i) →
      K (a.put o.dst (.slice a' (l.length + m.length) cap')) w') :
    if Region.wanted o (yielded ops a.tmps) = true then Oper.wp P o a w K Q else E := by
  obtain ⟨v', w', sp', h1, h2, h3, h4⟩ := append_bytes (x := y) B o.type hO hS hb
  obtain ⟨a', cap', rfl, _, _⟩ := h2.sl.form
  rw [List.length_append] at h1 h2 h4
  refine step_val (w' := w') hg ?_ (k a' cap' w' sp' h2 h3 ?_)
  · simp [execOp, hop, resolve, invoke, builtin, hs, hx, h1, Result.andThen]
  · intro i hi
    rcases h4 with h4 | h4
    · exact .inl (h4 ▸ hi)
    · rw [h4] at hi; simp at hi; exact .inr (by omega)
end Go.Proofs.YtljhanhipmnioaaGreat

namespace Go.Proofs.YtljhanhipmnioaaGreat.Pt
open Go.RowKit
set_option linter.unusedVariables false
set_option maxRecDepth 100000
set_option linter.unusedSimpArgs false

section
variable {P : Program} {tS T : TypeId} {w : World} {v x : Value} {l sp m msp : List Ad}
end
/-- 'append(s, x...)' as the walk meets it. -/
theorem wpList_append_ads {P : Program} {tS T : TypeId} (B : AdTys P tS T) {w : World} {ops : Array Oper} {rest : List Oper} {o : Oper} {a : Act} {Q : Exit → Act → World → Prop}
    {v y : Value} {l sp m msp : List Ad} (hO : OwnA T w v l sp) (hS : SlA w y m msp) (hb : l.length + m.length ≤ 1000000000000)
    (hg : o.guard = none) (s x : Operand) (hop : o.op = Op.call { callee := Callee.builtin Builtin.append, args := #[s, x], argTypes := #[tS, tS] }) (hs : a.eval s = v) (hx : a.eval x = y)
    (k : ∀ a' cap' w' sp', OwnA T w' (.slice a' (l.length + m.length) cap') (l ++ m) sp' → Frm (blk v) w w' → (∀ i ∈ blk (.slice a' (l.length + m.length) cap'), i ∈ blk v ∨ w.heap.size ≤ i) →
      wpList P ops Q rest (a.put o.dst (.slice a' (l.length + m.length) cap')) w') :
    wpList P ops Q (o :: rest) a w := by
  obtain ⟨v', w', sp', h1, h2, h3, h4⟩ := append_ads (x := y) B o.type hO hS hb
  obtain ⟨a', cap', rfl, _, _⟩ := h2.sl.form
  rw [List.length_append] at h1 h2 h4
  refine wpList_val (w' := w') hg ?_ (k a' cap' w' sp' h2 h3 ?_)
  · simp [execOp, hop, resolve, invoke, builtin, hs, hx, h1, Result.andThen]
  · intro i hi
    rcases h4 with h4 | ⟨h4, _⟩
    · exact .inl (h4 ▸ hi)
    · rw [h4] at hi; simp at hi; exact .inr (by omega)
end Go.Proofs.YtljhanhipmnioaaGreat.Pt

namespace Go.Proofs.YtljhanhipmnioaaGreat.Pt
open Go.RowKit
set_option linter.unusedVariables false
set_option linter.unusedSimpArgs false
set_option maxRecDepth 100000

end Go.Proofs.YtljhanhipmnioaaGreat.Pt

namespace Go.Proofs.YtljhanhipmnioaaGreat.Pt
open Go.RowKit
set_option linter.unusedVariables false
set_option linter.unusedSimpArgs false
set_option maxRecDepth 100000

end Go.Proofs.YtljhanhipmnioaaGreat.Pt

namespace Go.Proofs.YtljhanhipmnioaaGreat.Pt
open Go.RowKit
set_option linter.unusedVariables false
set_option linter.unusedSimpArgs false
set_option maxRecDepth 100000

end Go.Proofs.YtljhanhipmnioaaGreat.Pt

namespace Go.Proofs.YtljhanhipmnioaaGreat.Pt
open Go.RowKit
set_option linter.unusedVariables false
set_option linter.unusedSimpArgs false
set_option maxRecDepth 100000

def sameB (p q : Pt) : Bool := p.b == q.b && p.l == q.l && p.s == q.s
def like (p q : Pt) : Bool := (decide (p.ads.length = 0) == decide (q.ads.length = 0)) && sameB p q
end Go.Proofs.YtljhanhipmnioaaGreat.Pt

namespace Go.Proofs.YtljhanhipmnioaaGreat.Pt
open Go.RowKit
set_option linter.unusedVariables false
set_option linter.unusedSimpArgs false
set_option maxRecDepth 100000

end Go.Proofs.YtljhanhipmnioaaGreat.Pt

namespace Go.Proofs.YtljhanhipmnioaaGreat.Pt
open Go.RowKit
set_option linter.unusedVariables false
set_option linter.unusedSimpArgs false
set_option maxRecDepth 100000

end Go.Proofs.YtljhanhipmnioaaGreat.Pt

namespace Go.Proofs.YtljhanhipmnioaaGreat.Pt
open Go.RowKit
set_option linter.unusedVariables false
set_option linter.unusedSimpArgs false
set_option maxRecDepth 100000

end Go.Proofs.YtljhanhipmnioaaGreat.Pt

namespace Go.Proofs.YtljhanhipmnioaaGreat.Pt
open Go.RowKit
set_option linter.unusedVariables false
set_option linter.unusedSimpArgs false
set_option maxRecDepth 100000

end Go.Proofs.YtljhanhipmnioaaGreat.Pt

namespace Go.Proofs.YtljhanhipmnioaaGreat.Pt
open Go.RowKit
set_option linter.unusedVariables false
set_option linter.unusedSimpArgs false
set_option maxRecDepth 100000

end Go.Proofs.YtljhanhipmnioaaGreat.Pt

namespace Go.Proofs.YtljhanhipmnioaaGreat.Pt
open Go.RowKit
set_option linter.unusedVariables false
set_option linter.unusedSimpArgs false
set_option maxRecDepth 100000

end Go.Proofs.YtljhanhipmnioaaGreat.Pt

namespace Go.Proofs.YtljhanhipmnioaaGreat.Pt
open Go.RowKit
set_option linter.unusedVariables false
set_option linter.unusedSimpArgs false
set_option maxRecDepth 100000

end Go.Proofs.YtljhanhipmnioaaGreat.Pt

namespace Go.Proofs.YtljhanhipmnioaaGreat.Pt
open Go.RowKit
set_option linter.unusedVariables false
set_option maxRecDepth 100000
set_option linter.unusedSimpArgs false

end Go.Proofs.YtljhanhipmnioaaGreat.Pt

namespace Go.Proofs.YtljhanhipmnioaaGreat.Pt
open Go.RowKit
set_option linter.unusedVariables false
set_option linter.unusedSimpArgs false
set_option maxRecDepth 100000

end Go.Proofs.YtljhanhipmnioaaGreat.Pt

namespace Go.Proofs.YtljhanhipmnioaaGreat.Pt
open Go.RowKit
set_option linter.unusedVariables false
set_option linter.unusedSimpArgs false
set_option maxRecDepth 100000

end Go.Proofs.YtljhanhipmnioaaGreat.Pt

namespace Go.Proofs.YtljhanhipmnioaaGreat.Pt
open Go.RowKit
set_option linter.unusedVariables false
set_option linter.unusedSimpArgs false
set_option maxRecDepth 100000

theorem pos_eq (n m : Nat) : (decide ((0:Int) < (n : Int)) == decide ((0:Int) < (m : Int))) = (decide (n = 0) == decide (m = 0)) := by
  rw [Bool.eq_iff_iff]
  simp
  omega
set_option maxHeartbeats 1000000 in
theorem RefLike_any (x y : Value) (p q : Pt) (w : World) (hp : PtV w x p) (hq : PtV w y q) :
    Calls Tryz.prog 203 #[x, y] w fun e w' => e = .returned (.bool (like p q)) ∧ Frm [] w w' := by
  obtain ⟨a, cap, sp, rfl, s1, z1⟩ := hp
  obtain ⟨a2, cap2, sp2, rfl, s2, z2⟩ := hq
  obtain ⟨ads, b, l, s⟩ := p
  obtain ⟨bs, b2, l2, t⟩ := q
  simp only [like, sameB] at *
  have B1 := (PB.new w (.slice a ads.length cap) b l s).alloc (.cells (pc (.slice a2 bs.length cap2) b2 l2 t).toArray 54)
  have B2 := PB.new1 w (.cells (pc (.slice a ads.length cap) b l s).toArray 54) (.slice a2 bs.length cap2) b2 l2 t
  have f : Frm [] w ((w.alloc (.cells (pc (.slice a ads.length cap) b l s).toArray 54)).alloc (.cells (pc (.slice a2 bs.length cap2) b2 l2 t).toArray 54)) := ((Frm.refl [] w).alloc _).alloc _
  have hq : (binOp .eql 52 (idv s) (idv t)).run Tryz.prog = _ := funext fun W => eql24 s t z1 z2 W
  have hg := fun op x y W => agg_guard op x y s t W
  rw [← pos_eq]
  clear s1 s2
  generalize ads.length = n at *
  generalize bs.length = m at *
  by_cases e1 : b = b2
  · subst e1
    by_cases e2 : l = l2
    · subst e2
      simp only [beq_self_eq_true, Bool.true_and]
      generalize (s == t) = u3 at *
      cases u3
      · unfold pv
        generalize hA : (pc (.slice a n cap) b l s).toArray = A at *
        generalize hB : (pc (.slice a2 m cap2) b l t).toArray = B at *
        go_enter Tryz.func203, Tryz.ntmps203
        go_upto_region 1 with (fail)
        generalize (w.alloc (.cells A 54)).alloc (.cells B 54) = W at *
        have G1h := Lib.hid (B1.gets z1)
        have G2h := Lib.hid (B2.gets z2)
        have c0 := G1h.out.c0
        have c1 := G1h.out.c1
        have c2 := G1h.out.c2
        have d0 := G2h.out.c0
        have d1 := G2h.out.c1
        have d2 := G2h.out.c2
        clear hA hB B1 B2
        go_wp2_with (first | ((with_reducible (show wpList _ _ _ (Oper.mk _ (Op.load 52 (.tmp 18)) _ _ _ _ :: _) _ _)); refine wpList_load_g (by rfl) 52 (.tmp 18) rfl _ rfl G1h.out.sum ?_) | ((with_reducible (show wpList _ _ _ (Oper.mk _ (Op.load 52 (.tmp 20)) _ _ _ _ :: _) _ _)); refine wpList_load_g (by rfl) 52 (.tmp 20) rfl _ rfl G2h.out.sum ?_))
        go_ret
        exact ⟨ret_bool (by simp), f⟩
      · unfold pv
        generalize hA : (pc (.slice a n cap) b l s).toArray = A at *
        generalize hB : (pc (.slice a2 m cap2) b l t).toArray = B at *
        go_enter Tryz.func203, Tryz.ntmps203
        go_upto_region 1 with (fail)
        generalize (w.alloc (.cells A 54)).alloc (.cells B 54) = W at *
        have G1h := Lib.hid (B1.gets z1)
        have G2h := Lib.hid (B2.gets z2)
        have c0 := G1h.out.c0
        have c1 := G1h.out.c1
        have c2 := G1h.out.c2
        have d0 := G2h.out.c0
        have d1 := G2h.out.c1
        have d2 := G2h.out.c2
        clear hA hB B1 B2
        go_wp2_with (first | ((with_reducible (show wpList _ _ _ (Oper.mk _ (Op.load 52 (.tmp 18)) _ _ _ _ :: _) _ _)); refine wpList_load_g (by rfl) 52 (.tmp 18) rfl _ rfl G1h.out.sum ?_) | ((with_reducible (show wpList _ _ _ (Oper.mk _ (Op.load 52 (.tmp 20)) _ _ _ _ :: _) _ _)); refine wpList_load_g (by rfl) 52 (.tmp 20) rfl _ rfl G2h.out.sum ?_))
        go_ret
        exact ⟨ret_bool (by simp), f⟩
    · have e2' : (l == l2) = false := by simpa using e2
      clear e2
      unfold pv
      generalize hA : (pc (.slice a n cap) b l s).toArray = A at *
      generalize hB : (pc (.slice a2 m cap2) b l2 t).toArray = B at *
      go_enter Tryz.func203, Tryz.ntmps203
      go_upto_region 1 with (fail)
      generalize (w.alloc (.cells A 54)).alloc (.cells B 54) = W at *
      have G1h := Lib.hid (B1.gets z1)
      have G2h := Lib.hid (B2.gets z2)
      have c0 := G1h.out.c0
      have c1 := G1h.out.c1
      have c2 := G1h.out.c2
      have d0 := G2h.out.c0
      have d1 := G2h.out.c1
      have d2 := G2h.out.c2
      clear hA hB B1 B2
      go_wp2_with (first | ((with_reducible (show wpList _ _ _ (Oper.mk _ (Op.load 52 (.tmp 18)) _ _ _ _ :: _) _ _)); refine wpList_load_g (by rfl) 52 (.tmp 18) rfl _ rfl G1h.out.sum ?_) | ((with_reducible (show wpList _ _ _ (Oper.mk _ (Op.load 52 (.tmp 20)) _ _ _ _ :: _) _ _)); refine wpList_load_g (by rfl) 52 (.tmp 20) rfl _ rfl G2h.out.sum ?_))
      go_ret
      exact ⟨ret_bool (by simp [e2']), f⟩
  · have e1' : (b == b2) = false := by simpa using e1
    clear e1
    unfold pv
    generalize hA : (pc (.slice a n cap) b l s).toArray = A at *
    generalize hB : (pc (.slice a2 m cap2) b2 l2 t).toArray = B at *
    go_enter Tryz.func203, Tryz.ntmps203
    go_upto_region 1 with (fail)
    generalize (w.alloc (.cells A 54)).alloc (.cells B 54) = W at *
    have G1h := Lib.hid (B1.gets z1)
    have G2h := Lib.hid (B2.gets z2)
    have c0 := G1h.out.c0
    have c1 := G1h.out.c1
    have c2 := G1h.out.c2
    have d0 := G2h.out.c0
    have d1 := G2h.out.c1
    have d2 := G2h.out.c2
    clear hA hB B1 B2
    go_wp2_with (first | ((with_reducible (show wpList _ _ _ (Oper.mk _ (Op.load 52 (.tmp 18)) _ _ _ _ :: _) _ _)); refine wpList_load_g (by rfl) 52 (.tmp 18) rfl _ rfl G1h.out.sum ?_) | ((with_reducible (show wpList _ _ _ (Oper.mk _ (Op.load 52 (.tmp 20)) _ _ _ _ :: _) _ _)); refine wpList_load_g (by rfl) 52 (.tmp 20) rfl _ rfl G2h.out.sum ?_))
    go_ret
    exact ⟨ret_bool (by simp [e1']), f⟩
end Go.Proofs.YtljhanhipmnioaaGreat.Pt

namespace Go.Proofs.YtljhanhipmnioaaGreat.Pt
open Go.RowKit
set_option linter.unusedVariables false
set_option linter.unusedSimpArgs false
set_option maxRecDepth 100000

end Go.Proofs.YtljhanhipmnioaaGreat.Pt

namespace Go.Proofs.YtljhanhipmnioaaGreat.Pt
open Go.RowKit
set_option linter.unusedVariables false
set_option linter.unusedSimpArgs false
set_option maxRecDepth 100000

end Go.Proofs.YtljhanhipmnioaaGreat.Pt

namespace Go.Proofs.YtljhanhipmnioaaGreat.Pt
open Go.RowKit
set_option linter.unusedVariables false
set_option linter.unusedSimpArgs false
set_option maxRecDepth 100000

end Go.Proofs.YtljhanhipmnioaaGreat.Pt

namespace Go.Proofs.YtljhanhipmnioaaGreat.Pt
open Go.RowKit
set_option linter.unusedVariables false
set_option linter.unusedSimpArgs false
set_option maxRecDepth 100000

end Go.Proofs.YtljhanhipmnioaaGreat.Pt

namespace Go.Proofs.YtljhanhipmnioaaGreat.Pt
open Go.RowKit
set_option linter.unusedVariables false
set_option maxRecDepth 100000
set_option linter.unusedSimpArgs false

def OverRel (w : World) (g cap : Nat) (c : Value) (wr : World) : Prop :=
  ∃ k : Nat, ∃ L : List UInt8, k ≤ cap ∧ c = .int .i64 k ∧ L.length = cap ∧ OwnB 5 wr (.slice (some ⟨g, 0, none⟩) cap cap) L [] ∧ Frm [g] w wr
set_option maxHeartbeats 1000000 in
theorem Over_all (v : Value) (l sp : List UInt8) (w : World) (hO : OwnB 5 w v l sp) :
    Calls Tryz.prog 26 #[v] w fun r w' => r = .returned (.tuple #[]) ∧ Frm (blk v) w w' := by
  have hO' := hO
  obtain ⟨h1, ⟨rfl, h2, h3⟩ | ⟨g, cap, rfl, h3, h4, h5, h6⟩⟩ := hO'
  · go_enter Tryz.func26, Tryz.ntmps26
    go_wp2
    go_loop [3] (fun c => c = .int .i64 0) (fun _ => 0)
    case atStart => rfl
    case round =>
      subst hrel
      go_wp2
      go_end0
      exact ⟨rfl, Frm.refl _ _⟩
  · obtain ⟨k1, k2, k3⟩ := hO.caps
    have o1 : OwnB 5 w (.slice (some ⟨g, 0, none⟩) cap cap) (l ++ sp) [] := OwnB.of_heap (by simpa using hO.heap) (by simp; omega) (by simp; omega) h4
    have hcap : (cap : Int) ≤ 9223372036854775807 := by simp [maxLen] at h4; omega
    have hlen : (l ++ sp).length = cap := by simp; omega
    have HL := Lib.hid hlen
    clear hO h1 h5 h6 k1 k2 k3 hlen
    go_enter Tryz.func26, Tryz.ntmps26
    go_wp2
    go_loopw [3] (OverRel w g cap) (fun c _ => cap - (intOf c).toNat)
    case atStart => exact ⟨0, _, Nat.zero_le _, rfl, HL.out, o1, Frm.refl _ _⟩
    case round =>
      obtain ⟨k, L, hk, rfl, hL, o2, f2⟩ := hrel
      have HL2 := Lib.hid hL
      by_cases hlt : k < cap
      · have hc := o2.cell k (by simp; omega)
        have hf := o2.frozen k
        unfold bv at hc
        generalize (L ++ [])[k]! = x at hc
        clear hL
        have hx := Go.bounds_u8 (Go.wf_bits .xor .u8 x.toNat 90)
        have HX := Lib.hid hx
        clear hx
        go_wp2
        refine ⟨⟨k + 1, _, by omega, by go_num, ?_, o2.store k (by rw [HL2.out]; exact hlt) (UInt8.ofNat (bits .xor .u8 x.toNat 90).toNat) ?_, f2.setCell _ _ (by simp)⟩, by simp [intOf]; omega⟩
        · rw [List.length_set, HL2.out]
        · have := HX.out; simp only [bv, UInt8.toNat_ofNat']; congr 1; omega
      · obtain rfl : k = cap := by omega
        clear hL
        go_wp2
        go_end0
        exact ⟨rfl, f2⟩
end Go.Proofs.YtljhanhipmnioaaGreat.Pt

namespace Go.Proofs.YtljhanhipmnioaaGreat.Pt
open Go.RowKit
set_option linter.unusedVariables false
set_option linter.unusedSimpArgs false
set_option maxRecDepth 100000

end Go.Proofs.YtljhanhipmnioaaGreat.Pt

namespace Go.Proofs.YtljhanhipmnioaaGreat.Pt
open Go.RowKit
set_option linter.unusedVariables false
set_option linter.unusedSimpArgs false
set_option maxRecDepth 100000

end Go.Proofs.YtljhanhipmnioaaGreat.Pt

namespace Go.Proofs.YtljhanhipmnioaaGreat.Pt
open Go.RowKit
set_option linter.unusedVariables false
set_option linter.unusedSimpArgs false
set_option maxRecDepth 100000

end Go.Proofs.YtljhanhipmnioaaGreat.Pt

namespace Go.Proofs.YtljhanhipmnioaaGreat.Pt
open Go.RowKit
set_option linter.unusedVariables false
set_option linter.unusedSimpArgs false
set_option maxRecDepth 100000

end Go.Proofs.YtljhanhipmnioaaGreat.Pt

namespace Go.Proofs.YtljhanhipmnioaaGreat.Pt
set_option linter.unusedVariables false
set_option linter.unusedSimpArgs false
set_option maxRecDepth 100000

end Go.Proofs.YtljhanhipmnioaaGreat.Pt

namespace Go.Proofs.YtljhanhipmnioaaGreat.Pt
open Go.RowKit
set_option linter.unusedVariables false
set_option linter.unusedSimpArgs false
set_option maxRecDepth 100000

theorem like_refl (p : Pt) : like p p = true := by simp [like, sameB]
end Go.Proofs.YtljhanhipmnioaaGreat.Pt

namespace Go.Proofs.YtljhanhipmnioaaGreat.Pt
open Go.RowKit
set_option linter.unusedVariables false
set_option linter.unusedSimpArgs false
set_option maxRecDepth 100000

end Go.Proofs.YtljhanhipmnioaaGreat.Pt

namespace Go.Proofs.YtljhanhipmnioaaGreat.Pt
open Go.RowKit
set_option linter.unusedVariables false
set_option linter.unusedSimpArgs false
set_option maxRecDepth 100000

theorem same_ads {p q : Pt} (h : like p q = true) : same p q = (p.ads == q.ads) := by
  simp only [like, sameB, Bool.and_eq_true, beq_iff_eq] at h
  simp [same, h.2.1.1, h.2.1.2, h.2.2]
theorem same_not_like {p q : Pt} (h : like p q = false) : same p q = false := by
  cases hs : same p q with
  | false => rfl
  | true => rw [same_iff.1 hs, like_refl] at h; cases h
set_option maxHeartbeats 4000000 in
theorem RefSame_any (x y : Value) (p q : Pt) (w : World) (hp : PtV w x p) (hq : PtV w y q) (hl : p.ads.length ≤ 1000000) :
    Calls Tryz.prog 146 #[x, y] w fun e w' => e = .returned (.bool (same p q)) ∧ Frm [] w w' := by
  have HP := Lib.hid hp
  have HQ := Lib.hid hq
  have HK := Lib.hid (fun W (f : Frm [] w W) => RefLike_any x y p q W (HP.out.keep0 f) (HQ.out.keep0 f))
  obtain ⟨a, cap, sp, hx, s1, z1⟩ := hp
  obtain ⟨a2, cap2, sp2, hy, s2, z2⟩ := hq
  obtain ⟨A, rfl, hA, hb1⟩ := HP.out.box
  obtain ⟨B, rfl, hB, hb2⟩ := HQ.out.box
  have b1 : Boxed ((w.alloc (.cells A 54)).alloc (.cells B 54)) w.heap.size (.agg A) p := (hb1 w).keep0 ((Frm.refl [] _).alloc _)
  have b2 : Boxed ((w.alloc (.cells A 54)).alloc (.cells B 54)) (w.heap.size + 1) (.agg B) q := by have := hb2 (w.alloc (.cells A 54)); simpa using this
  have k1 : ((w.alloc (.cells A 54)).alloc (.cells B 54)).cell? ⟨w.heap.size, 0, none⟩ = some (.slice a p.ads.length cap) := by
    have h : (w.alloc (.cells A 54)).heap[w.heap.size]? = some (.cells (pc (.slice a p.ads.length cap) p.b p.l p.s).toArray 54 (0, 0)) := by rw [heap_alloc_new]; simp only [pv, Value.agg.injEq] at hx; rw [hx]
    exact ((Frm.refl [] _).alloc _).cell (by rw [cell_of_heap h]; rfl) (by simp)
  have k2 : ((w.alloc (.cells A 54)).alloc (.cells B 54)).cell? ⟨w.heap.size + 1, 0, none⟩ = some (.slice a2 q.ads.length cap2) := by
    have h : ((w.alloc (.cells A 54)).alloc (.cells B 54)).heap[w.heap.size + 1]? = some (.cells (pc (.slice a2 q.ads.length cap2) q.b q.l q.s).toArray 54 (0, 0)) := by rw [heap_alloc_at (by simp)]; simp only [pv, Value.agg.injEq] at hy; rw [hy]
    rw [cell_of_heap h]; rfl
  have f : Frm [] w ((w.alloc (.cells A 54)).alloc (.cells B 54)) := ((Frm.refl [] w).alloc _).alloc _
  have H1 := Lib.hid s1
  have H2 := Lib.hid s2
  obtain ⟨_, _, hv2, _, hm2⟩ := s2.form
  simp only [Value.slice.injEq, true_and] at hv2
  obtain ⟨rfl, rfl⟩ := hv2
  have hm9 : q.ads.length ≤ maxLen := by omega
  unfold maxLen at hm9
  have hl9 : ((p.ads.length : Nat) : Int) ≤ 1000000 := by omega
  have hl8 : ((q.ads.length : Nat) : Int) ≤ 9223372036854775807 := by omega
  clear s1 s2 hl hb1 hb2 hx hy z1 z2 hm2
  have HSL := Lib.hid (@same_not_like p q)
  have HSA := Lib.hid (@same_ads p q)
  generalize same p q = sm at *
  generalize like p q = lk at *
  generalize p.ads = l at *
  generalize q.ads = m at *
  go_enter Tryz.func146, Tryz.ntmps146
  go_upto_region 1 with (fail)
  generalize (w.alloc (.cells A 54)).alloc (.cells B 54) = W at *
  have B1 := Lib.hid b1
  have B2 := Lib.hid b2
  have F := Lib.hid f
  clear b1 b2 f
  cases lk with
  | false =>
    have E := Lib.hid (HSL.out (by simp))
    go_wp2_with (first | ((with_reducible (show wpList _ _ _ (Oper.mk _ (Op.load 54 (.tmp 2)) _ _ _ _ :: _) _ _)); refine wpList_load_g (by rfl) 54 _ rfl _ rfl B1.out.load ?_) | ((with_reducible (show wpList _ _ _ (Oper.mk _ (Op.load 54 (.tmp 3)) _ _ _ _ :: _) _ _)); refine wpList_load_g (by rfl) 54 _ rfl _ rfl B2.out.load ?_) | (go_at_call 203; refine (HK.out _ F.out).mono ?_; rintro r w1 ⟨rfl, f1⟩; have k3 := f1.cell k1 (by simp); have k4 := f1.cell k2 (by simp)))
    go_ret
    exact ⟨ret_bool E.out.symm, F.out.trans f1 (by simp)⟩
  | true =>
    obtain E := Lib.hid (HSA.out (by simp))
    by_cases hlm : l.length = m.length
    · have HLM := Lib.hid hlm
      rw [← hlm] at H2 hl8 k2
      have hd : ((l.length : Int) != (l.length : Int)) = false := by simp
      clear hlm
      go_upto_region 3 with (first | ((with_reducible (show wpList _ _ _ (Oper.mk _ (Op.load 54 (.tmp 2)) _ _ _ _ :: _) _ _)); refine wpList_load_g (by rfl) 54 _ rfl _ rfl B1.out.load ?_) | ((with_reducible (show wpList _ _ _ (Oper.mk _ (Op.load 54 (.tmp 3)) _ _ _ _ :: _) _ _)); refine wpList_load_g (by rfl) 54 _ rfl _ rfl B2.out.load ?_) | (go_at_call 203; refine (HK.out _ F.out).mono ?_; rintro r w1 ⟨rfl, f1⟩; have k3 := f1.cell k1 (by simp); have k4 := f1.cell k2 (by simp)))
      have F1 := Lib.hid (F.out.trans f1 (by simp))
      clear f1 k1 k2
      go_wp2_with fail
      go_loopw [5] (PreRel l m w1) (fun cv _ => l.length - (intOf cv).toNat)
      case atStart => exact ⟨0, by omega, rfl, fun j hj => by omega, Frm.refl _ _⟩
      case round =>
        obtain ⟨k, hk, rfl, hp, f⟩ := hrel
        have HP := Lib.hid hp
        have k5 := f.cell k3 (by simp)
        have k6 := f.cell k4 (by simp)
        clear hp k3 k4
        by_cases hlt : k < l.length
        · have hlt2 : k < m.length := by rw [← HLM.out]; exact hlt
          have hH2 := H2.out
          rw [HLM.out] at hH2
          obtain ⟨b0, off, rfl⟩ := H1.out.at (by omega)
          obtain ⟨b1, off1, rfl⟩ := hH2.at (by omega)
          obtain ⟨c0, c1⟩ := (H1.out.keep (F1.out.trans f (by simp)) (by simp)).cells k hlt
          obtain ⟨d0, d1⟩ := (hH2.keep (F1.out.trans f (by simp)) (by simp)).cells k hlt2
          have hn := @pre_not l m k hlt hlt2
          have hy : ∀ j, j < k + 1 → l[k] = m[k] → l[j]? = m[j]? := fun j hj he => by
            rcases Nat.lt_or_ge j k with h | h
            · exact HP.out j h
            · obtain rfl : j = k := by omega
              rw [List.getElem?_eq_getElem hlt, List.getElem?_eq_getElem hlt2, he]
          generalize l[k] = y at *
          generalize m[k] = z at *
          have FF := Lib.hid f
          have HN := Lib.hid hn
          have HY := Lib.hid hy
          clear f hn hy hH2 hlt2
          by_cases e1 : y.1 = z.1
          · by_cases e2 : y.2 = z.2
            · have e3 := ad_ext e1 e2
              subst e3
              go_wp2_with fail
              go_quiet (fail)
              go_wp2_with fail
              go_roundw
              case rel => exact ⟨k + 1, by omega, by go_num, fun j hj => by first | exact HY.out j hj rfl | exact HY.out j hj trivial, FF.out.drewN _⟩
              case measure => simp [intOf]; omega
            · have E2 := Lib.hid (HN.out fun e => e2 (by rw [e]))
              have e2' : (y.2 == z.2) = false := by simpa using e2
              rw [← e1] at d0
              clear e2
              go_wp2_with fail
              go_quiet (fail)
              go_wp2_with fail
              go_ret
              exact ⟨ret_bool (E.out.trans E2.out).symm, F1.out.trans (FF.out.drewN _) (by simp)⟩
          · have E2 := Lib.hid (HN.out fun e => e1 (by rw [e]))
            have e1' : (y.1 == z.1) = false := by simpa using e1
            clear e1
            go_wp2_with fail
            go_quiet (fail)
            go_wp2_with fail
            go_ret
            exact ⟨ret_bool (E.out.trans E2.out).symm, F1.out.trans (FF.out.drewN _) (by simp)⟩
        · obtain rfl : k = l.length := by omega
          have FF := Lib.hid f
          clear f
          go_wp2_with fail
          go_ret
          exact ⟨ret_bool (E.out.trans (pre_all HLM.out HP.out)).symm, F1.out.trans FF.out (by simp)⟩
    · have E2 := Lib.hid (len_not hlm)
      have hd : ((l.length : Int) != (m.length : Int)) = true := by simp; omega
      clear hlm
      go_wp2_with (first | ((with_reducible (show wpList _ _ _ (Oper.mk _ (Op.load 54 (.tmp 2)) _ _ _ _ :: _) _ _)); refine wpList_load_g (by rfl) 54 _ rfl _ rfl B1.out.load ?_) | ((with_reducible (show wpList _ _ _ (Oper.mk _ (Op.load 54 (.tmp 3)) _ _ _ _ :: _) _ _)); refine wpList_load_g (by rfl) 54 _ rfl _ rfl B2.out.load ?_) | (go_at_call 203; refine (HK.out _ F.out).mono ?_; rintro r w1 ⟨rfl, f1⟩; have k3 := f1.cell k1 (by simp); have k4 := f1.cell k2 (by simp)))
      go_ret
      exact ⟨ret_bool (E.out.trans E2.out).symm, F.out.trans f1 (by simp)⟩
end Go.Proofs.YtljhanhipmnioaaGreat.Pt

namespace Go.Proofs.YtljhanhipmnioaaGreat.Rd
open Go.RowKit
set_option linter.unusedVariables false
set_option linter.unusedSimpArgs false
set_option maxRecDepth 100000

open Pt (Pt may enc readPt readE zeroPt be4 be1 pc pv PtV SlA OwnA BT wpList_load_g heap_alloc_at lst_slB one_slB Ext Grew exec_slice_lh)
open Kr (OwnE SlE Enco RowTys)

set_option maxHeartbeats 8000000 in
theorem alikeR_any (u v : Value) (x y : Rec) (w : World) (h : RecV w u x) (k : RecV w v y) (hf : FitR x) : Calls Tryz.prog 75 #[u, v] w fun e w' => e = .returned (.bool (sameR x y)) ∧ Frm [] w w' := by
  obtain ⟨a, rfl, hs, hp, _⟩ := h.box
  obtain ⟨b, rfl, ks, kp, _⟩ := k.box
  have HS := Lib.hid (fun z (f : Frm [] w z) => Pt.RefSame_any _ _ x.root y.root z (hp.keep0 f) (kp.keep0 f) hf.ads)
  unfold sameR
  generalize Pt.same x.root y.root = sm at *
  have f0 : Frm [] w (w.alloc (.cells (rc a x).toArray 56)) := (Frm.refl [] w).alloc _
  have B := Lib.hid (RB.new (w := w) (v := a) hs)
  generalize (rc a x).toArray = A at *
  have f1 : Frm [] w ((w.alloc (.cells A 56)).alloc (.cells (rc b y).toArray 56)) := f0.alloc _
  have B1 := Lib.hid (B.out.keep0 ((Frm.refl [] _).alloc (.cells (rc b y).toArray 56)))
  have B2 := Lib.hid (RB.new (w := w.alloc (.cells A 56)) (v := b) ks)
  rw [show (w.alloc (.cells A 56)).heap.size = w.heap.size + 1 by simp] at B2
  generalize (rc b y).toArray = A2 at *
  have G1 := B1.out.gets
  have G2 := B2.out.gets
  have a0 := G1.id
  have a1 := G1.name
  have a2 := G1.kind
  have a3 := G1.size
  have b0 := G2.id
  have b1 := G2.name
  have b2 := G2.kind
  have b3 := G2.size
  have RA := Lib.hid G1.root
  have RB' := Lib.hid G2.root
  have HB1 := Lib.hid (fun z (f : Frm [] ((w.alloc (.cells A 56)).alloc (.cells A2 56)) z) => (B1.out.keep0 f).gets)
  have HB2 := Lib.hid (fun z (f : Frm [] ((w.alloc (.cells A 56)).alloc (.cells A2 56)) z) => (B2.out.keep0 f).gets)
  have F := Lib.hid f1
  clear ks k h hs B f0 G1 G2 B1 B2 f1 hp kp
  go_enter Tryz.func75, Tryz.ntmps75
  go_upto_region 1 with (fail)
  simp only [List.append_eq, List.cons_append, List.nil_append]
  go_wp2_with (first
    | ((with_reducible (show wpList _ _ _ (Oper.mk (some 33) (Op.load 54 _) _ _ _ _ :: _) _ _)); refine wpList_load_g (by rfl) 54 _ rfl _ rfl RA.out ?_)
    | ((with_reducible (show wpList _ _ _ (Oper.mk (some 35) (Op.load 54 _) _ _ _ _ :: _) _ _)); refine wpList_load_g (by rfl) 54 _ rfl _ rfl RB'.out ?_)
    | (go_at_call 146; refine (HS.out _ F.out).mono ?_; rintro e w1 ⟨rfl, f1⟩; have c39 := (HB1.out _ f1).made; have c40 := (HB1.out _ f1).of; have c41 := (HB1.out _ f1).origin; have c42 := (HB1.out _ f1).quota; have c43 := (HB1.out _ f1).reserve; have d39 := (HB2.out _ f1).made; have d40 := (HB2.out _ f1).of; have d41 := (HB2.out _ f1).origin; have d42 := (HB2.out _ f1).quota; have d43 := (HB2.out _ f1).reserve))
  all_goals go_ret
  all_goals first
    | exact ⟨by simp_all, F.out.trans f1 (by simp)⟩
    | exact ⟨by simp_all, F.out⟩

end Go.Proofs.YtljhanhipmnioaaGreat.Rd

namespace Go.Proofs.YtljhanhipmnioaaGreat.Rd
open Go.RowKit
set_option linter.unusedVariables false
set_option linter.unusedSimpArgs false
set_option maxRecDepth 100000

open Pt (Pt may enc readPt readE zeroPt be4 be1 pc pv PtV SlA OwnA BT wpList_load_g heap_alloc_at lst_slB one_slB Ext Grew exec_slice_lh yieldsIf_ld)
open Kr (OwnE SlE Enco RowTys)

theorem wpList_appW {P : Program} {tS : TypeId} (B : ByteTys P tS 5) {w0 w : World} {ops : Array Oper} {rest : List Oper} {o : Oper} {a : Act} {Q : Exit → Act → World → Prop}
    {v y : Value} {l m msp : List UInt8} (h : Wr w0 w v l) (hS : SlB w y m msp) (hb : l.length + m.length ≤ 140737488355328)
    (hg : o.guard = none) (s x : Operand) (hop : o.op = Op.call { callee := Callee.builtin Builtin.append, args := #[s, x], argTypes := #[tS, tS] }) (hs : a.eval s = v) (hx : a.eval x = y)
    (k : ∀ v' w', Wr w0 w' v' (l ++ m) → Grew w v w' v' → wpList P ops Q rest (a.put o.dst v') w') :
    wpList P ops Q (o :: rest) a w := by
  obtain ⟨sp, ho⟩ := h.own
  refine wpList_append_bytes B ho hS hb hg s x hop hs hx fun a' c' w' sp' h1 h2 h3 => ?_
  exact k _ w' (h.grew ⟨h2, h3⟩ ⟨sp', h1⟩) ⟨h2, h3⟩
end Go.Proofs.YtljhanhipmnioaaGreat.Rd

namespace Go.Proofs.YtljhanhipmnioaaGreat.Rd
open Go.RowKit
set_option linter.unusedVariables false
set_option linter.unusedSimpArgs false
set_option maxRecDepth 100000

open Pt (Pt may enc readPt readE zeroPt be4 be1 pc pv PtV SlA OwnA BT wpList_load_g heap_alloc_at lst_slB one_slB Ext Grew exec_slice_lh yieldsIf_ld)
open Kr (OwnE SlE Enco RowTys)

theorem four_cells (n : Nat) (hn : n < 4294967296) : #[Value.int .u8 ((n : Int) / 16777216 % 256), Value.int .u8 ((n : Int) / 65536 % 256), Value.int .u8 ((n : Int) / 256 % 256), Value.int .u8 ((n : Int) % 256)] = (bvs (be4 n)).toArray := by
  have h : ∀ {x : Int} {b : UInt8}, x = b.toNat → Value.int .u8 x = bv b := fun h => by rw [h]; rfl
  simp only [bvs, be4, List.map_cons, List.map_nil]
  rw [← h (x := (n : Int) / 16777216 % 256), ← h (x := (n : Int) / 65536 % 256), ← h (x := (n : Int) / 256 % 256), ← h (x := (n : Int) % 256)]
  all_goals simp
  all_goals omega
set_option maxHeartbeats 1000000 in
theorem four_any (v : Value) (l sp : List UInt8) (n : Nat) (w : World) (hO : OwnB 5 w v l sp) (hl : l.length ≤ 1000000) (hn : n < 4294967296) :
    Calls Tryz.prog 64 #[v, .int .i64 n] w (Ext w v (l ++ be4 n)) := by
  have HO := Lib.hid hO
  have HL := Lib.hid hl
  have HN := Lib.hid hn
  clear hO hl hn
  have HB := four_cells
  go_enter Tryz.func64, Tryz.ntmps64
  go_wp2_with (at_builtin; refine wpList_append_bytes BT (HO.out.keep ((Frm.refl [] w).alloc _) (by simp)) (lst_slB (l := be4 n) (n := 4) (heap_alloc_new _ _) (HB n HN.out) rfl (by simp [be4])) (by have := HL.out; simp [be4]; omega) rfl (.tmp 5) (.tmp 17) rfl rfl rfl ?_; intro a1 cap1 w1 sp1 o1 f1 b1)
  go_ret
  refine ⟨a1, cap1, sp1, by rw [List.length_append]; rfl, by rw [List.length_append]; exact o1, ((Frm.refl [] w).alloc _).mono (by simp) |>.trans f1 (fun i hi => .inl hi), fun i hi => ?_⟩
  rw [List.length_append] at hi
  rcases b1 i hi with h | h
  · exact .inl h
  · exact .inr (by simp at h; omega)

theorem fourDW (w0 : World) (v : Value) (l : List UInt8) (n : Int) (w : World) (h : Wr w0 w v l) (hl : l.length ≤ 900000) (hn : 0 ≤ n ∧ n < 4294967296) : Calls Tryz.prog 64 #[v, .int .i64 n] w (Put w0 w v (l ++ be4 n.toNat)) := by
  obtain ⟨k, rfl⟩ := Int.eq_ofNat_of_zero_le hn.1
  obtain ⟨sp, ho⟩ := h.own
  exact (four_any v l sp k w ho (by omega) (by omega)).mono fun e w' hx => Put.of h hx
section
variable {ops : Array Oper} {o : Oper} {a : Act} {w : World} {K : Act → World → Prop} {Q : Exit → Act → World → Prop} {E : Prop}
theorem step_appW {P : Program} {tS : TypeId} (B : ByteTys P tS 5) {w0 : World} {v y : Value} {l m msp : List UInt8} (h : Wr w0 w v l) (hS : SlB w y m msp) (hb : l.length + m.length ≤ 140737488355328)
    (hg : o.guard = none) (s x : Operand) (hop : o.op = Op.call { callee := Callee.builtin Builtin.append, args := #[s, x], argTypes := #[tS, tS] }) (hs : a.eval s = v) (hx : a.eval x = y)
    (k : ∀ v' w', Wr w0 w' v' (l ++ m) → Grew w v w' v' → K (a.put o.dst v') w') :
    if Region.wanted o (yielded ops a.tmps) = true then Oper.wp P o a w K Q else E := by
  obtain ⟨sp, ho⟩ := h.own
  refine step_append_bytes B ho hS hb hg s x hop hs hx fun a' c' w' sp' h1 h2 h3 => ?_
  exact k _ w' (h.grew ⟨h2, h3⟩ ⟨sp', h1⟩) ⟨h2, h3⟩
theorem run_b1 (W : World) (x : Int) : (Instr.buildSlice 31 1 #[(0, .int .u8 x)]).run Tryz.prog W = .ok (.slice (some ⟨W.heap.size, 0, none⟩) 1 1) (W.alloc (.cells #[.int .u8 x] 5)) := by kernel_rfl
theorem step_b1 (hg : o.guard = none) (p : Operand) (ho : o.op = .buildSlice 31 1 #[(0, p)]) {x : Int} (hp : a.eval p = .int .u8 x)
    (k : ∀ (g : Nat) w', w'.heap[g]? = some (.cells #[.int .u8 x] 5 (0, 0)) → Frm [] w w' → w.heap.size ≤ g → K (a.put o.dst (.slice (some ⟨g, 0, none⟩) 1 1)) w') :
    if Region.wanted o (yielded ops a.tmps) = true then Oper.wp Tryz.prog o a w K Q else E := by
  refine step_val (v := .slice (some ⟨w.heap.size, 0, none⟩) 1 1) (w' := w.alloc (.cells #[.int .u8 x] 5)) hg ?_ (k _ _ (heap_alloc_new _ _) ((Frm.refl [] w).alloc _) (Nat.le_refl _))
  simp only [execOp, ho, List.map_toArray, List.map_cons, List.map_nil, hp, Sem.run_bind, run_b1, Result.andThen_ok, Sem.run_pure]
end
theorem two_slB {w : World} {b c : UInt8} {x y : Int} {g : Nat} (hg : w.heap[g]? = some (.cells #[.int .u8 x, .int .u8 y] 5 (0, 0))) (hx : x = b.toNat) (hy : y = c.toNat) : SlB w (.slice (some ⟨g, 0, none⟩) 2 2) [b, c] [] := by
  subst hx hy
  exact (OwnB.of_heap (T := 5) (l := [b, c]) (sp := []) (by simpa [bvs, bv] using hg) rfl rfl (by simp [maxLen])).sl
theorem byte_of {n : Int} (h : 0 ≤ n) : n % 256 = ((UInt8.ofNat n.toNat).toNat : Int) := by rw [UInt8.toNat_ofNat']; omega
end Go.Proofs.YtljhanhipmnioaaGreat.Rd
