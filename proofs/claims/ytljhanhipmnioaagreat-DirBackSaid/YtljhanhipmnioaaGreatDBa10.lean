/-
  Dir: slices.Delete over rows of records. No conditions but those that each theorem names. Dir: take. No conditions but those that each theorem names. Dir: Drop. No conditions but those that each theorem names. Dir, plain: what a table is behind a put, a drop, a new name. No conditions but those that each theorem names. Dir: the change that rename makes. No conditions but those that each theorem names. Dir: Rename. No conditions but those that each theorem names. Dir, the laws: names. No conditions but those that each theorem names.
-/
import Derived.Test.YtljhanhipmnioaaGreatDBa1
import Derived.Test.YtljhanhipmnioaaGreatDBa2
import Derived.Test.YtljhanhipmnioaaGreatDBa3
import Derived.Test.YtljhanhipmnioaaGreatDBa4
import Derived.Test.YtljhanhipmnioaaGreatDBa5
import Derived.Test.YtljhanhipmnioaaGreatDBa6
import Derived.Test.YtljhanhipmnioaaGreatDBa7
import Derived.Test.YtljhanhipmnioaaGreatDBa8
import Derived.Test.YtljhanhipmnioaaGreatDBa9
import Derived.Deep.RegionLaw
import Derived.OrdersHeld
import Derived.Deep.RegionHeld
import Derived.WalkKit
import Derived.WalkSpells
import Derived.WalkLawsBesides
import Derived.Deep.AppendSrc
import Derived.Laws.CopyOwn
import Derived.Laws.BytesArg
import Derived.Carry
import Derived.Laws.BytesString
import Derived.Deep.SlicePairs
import Derived.Deep.Cut
import Derived.Lib.Hide
import Derived.Test.YtljhanhipmnioaaGreatChecked
import Derived.ChangeKeysEq
import Derived.Deep.MidRow
import Derived.Deep.RegionHeld3
import Derived.OpenShut
import Derived.WalkHide
import Derived.IntWalk
import Derived.StillTailTactics
import Derived.Deep.RegionWith
import Derived.Deep.QuietTactic
import Derived.BigQuiet
import Derived.Deep.CutBlock
import Derived.Deep.DeepCutAuto
import Derived.Deep.Slices
import Derived.Defers
import Derived.Recover
import Derived.Deep.WholeRow
import Derived.Deep.Strs
import Derived.ChangeSame
import Derived.Lib.Bytealg
import Derived.Lib.TrimUEq
import Derived.Lib.MinMaxS
import Derived.LaidEqlPtr
import Derived.Lib.OthersKept
import Derived.Deep.Draws
import Derived.WalkMore
import Derived.Deep.LoopGhost
import Derived.Lib.BufferWrite
import Derived.Lib.UnsafeStr
import Derived.Laws.MakeOwn
import Derived.Laws.Strings3
import Derived.BigRegion
import Derived.Lib.Walk
import Derived.Great.Walk
import Derived.Lib.SliceRun
import Derived.Laws.OwnMore
import Derived.Lib.AppendZerosOnto
import Derived.Lib.Overlaps
namespace Go.Proofs.YtljhanhipmnioaaGreat.Rd
open Go.RowKit
set_option linter.unusedVariables false
set_option linter.unusedSimpArgs false
set_option maxRecDepth 100000

open Pt (Pt may enc zeroPt be4 be1 pc pv PtV SlA OwnA BT wpList_load_g heap_alloc_at Ext Grew yieldsIf_ld)
open Kr (OwnE SlE Enco RowTys)

theorem zero56 (w : World) : (zeroValue 56).run Tryz.prog w = .ok (rv nilS zeroR) w := by kernel_rfl
theorem rv_cells (v : Value) (x : Rec) : (rv v x).cells = (rc v x).toArray := rfl
theorem step_appendB {P : Program} {ops : Array Oper} {o : Oper} {a : Act} {w : World} {K : Act → World → Prop} {Q : Exit → Act → World → Prop} {E : Prop}
    (hg : o.guard = none) (d x : Operand) (dT sT : TypeId) (hop : o.op = Op.call { callee := Callee.builtin Builtin.append, args := #[d, x], argTypes := #[dT, sT] })
    (v u : Value) (hd : a.eval d = v) (hx : a.eval x = u) {v' : Value} {w' : World} (hr : (Builtin.append_ #[dT, sT] o.type #[v, u]).run P w = .ok v' w') (hK : K (a.put o.dst v') w') :
    if Region.wanted o (yielded ops a.tmps) = true then Oper.wp P o a w K Q else E := by
  rw [if_pos (by simp [Region.wanted, hg])]
  unfold Oper.wp execOp
  simp only [hop, resolve, invoke, builtin, Sem.run_bind, Sem.run_pure, Result.andThen_ok, List.map_toArray, List.map_cons, List.map_nil, hd, hx, hr]
  exact hK
/-- What slices.Delete tells of a list of rows of one's own. -/
def DelP (g cap : Nat) (l : List RowT) (w : World) (e : Ending) (w' : World) : Prop := ∃ sp, e = .returned (.slice (some ⟨g, 0, none⟩) l.length cap) ∧ OwnE eR 44 56 w' (.slice (some ⟨g, 0, none⟩) l.length cap) l sp ∧ Frm [g] w w'
set_option maxHeartbeats 4000000 in
theorem Delete_any (g cap : Nat) (rs : List RowT) (sp : List Value) (i n : Nat) (w : World) (hO : OwnE eR 44 56 w (.slice (some ⟨g, 0, none⟩) rs.length cap) rs sp) (hn : 0 < n) (hi : i + n ≤ rs.length) (hl : rs.length ≤ 1000) :
    Calls Tryz.prog 210 #[.slice (some ⟨g, 0, none⟩) rs.length cap, .int .i64 (i : Int), .int .i64 ((i + n : Nat) : Int)] w (DelP g cap (rs.take i ++ rs.drop (i + n)) w) := by
  obtain ⟨c1, c2, c3, c4⟩ := OwnE.caps encRow hO
  have hlen : (rs.take i ++ rs.drop (i + n)).length = i + (rs.length - (i + n)) := by simp; omega
  have hcell : Blk w g 56 (Kr.flt eR (rs.take i) ++ (Kr.flt eR (rs.drop i) ++ sp)) := by
    have := OwnE.heap hO
    rw [flt_cut rs i] at this
    unfold Blk
    simpa using this
  have hcell2 : Blk w g 56 (Kr.flt eR (rs.take (i + n)) ++ (Kr.flt eR (rs.drop (i + n)) ++ sp)) := by
    have := OwnE.heap hO
    rw [flt_cut rs (i + n)] at this
    unfold Blk
    simpa using this
  have htl : (Kr.flt eR (rs.take i)).length = i * 44 := by rw [Kr.flt_length encRow, List.length_take, Nat.min_eq_left (by omega)]
  have htl2 : (Kr.flt eR (rs.take (i + n))).length = (i + n) * 44 := by rw [Kr.flt_length encRow, List.length_take, Nat.min_eq_left (by omega)]
  have hdl : (Kr.flt eR (rs.drop i)).length = (rs.length - i) * 44 := by rw [Kr.flt_length encRow, List.length_drop]
  have hdl2 : (Kr.flt eR (rs.drop (i + n))).length = (rs.length - (i + n)) * 44 := by rw [Kr.flt_length encRow, List.length_drop]
  have hone : ∀ u ∈ Kr.flt eR (rs.drop (i + n)), u.oneCell' = true := Kr.flt_oneCell encRow _
  obtain ⟨old, post, hX, hol⟩ := split_at (l := Kr.flt eR (rs.drop i) ++ sp) ((rs.length - (i + n)) * 44) (by rw [List.length_append, hdl]; omega)
  have hpl : post.length = n * 44 + sp.length := by
    have := congrArg List.length hX
    rw [List.length_append, List.length_append, hdl, hol] at this
    omega
  obtain ⟨p1, p2, rfl, hp1⟩ := split_at (l := post) (n * 44) (by omega)
  rw [hX] at hcell
  have hS : ∀ W, Frm [] w W → ∀ c', Src Tryz.prog 44 22 (.slice (if cap = i + n then some ⟨g, 0, none⟩ else some ⟨g, (i + n) * 44, none⟩) (rs.length - (i + n)) c') (rs.length - (i + n)) (Kr.flt eR (rs.drop (i + n))) W := fun W fW c' => by
    split
    · next h => exact Src.ofSlice W Tryz.underlying22 _ _ c' _ hdl2 (fun j u hj => by rw [show rs.drop (i + n) = [] from List.drop_eq_nil_of_le (by omega)] at hj; simp [Kr.flt_nil] at hj) hone
    · exact Src.ofSlice W Tryz.underlying22 _ _ c' _ hdl2 (fun j u hj => by
        rw [add_plain]
        refine (Blk.keep0 hcell2 fW).cell _ ?_
        rw [List.getElem?_append_right (by omega), htl2, Nat.add_sub_cancel_left, List.getElem?_append_left (List.getElem?_eq_some_iff.1 hj).1]
        exact hj) hone
  have hap : ∀ ty c', (Builtin.append_ #[22, 22] ty #[.slice (some ⟨g, 0, none⟩) i cap, .slice (if cap = i + n then some ⟨g, 0, none⟩ else some ⟨g, (i + n) * 44, none⟩) (rs.length - (i + n)) c']).run Tryz.prog w.drew = .ok (.slice (some ⟨g, 0, none⟩) (i + (rs.length - (i + n))) cap) (w.drew.setRow g (Kr.flt eR (rs.take i) ++ (Kr.flt eR (rs.drop (i + n)) ++ (p1 ++ p2))).toArray) := fun ty c' =>
    run_append_blk (P := Tryz.prog) (w := w.drew) (k := 44) 22 22 ty 56 _ _ Tryz.underlying22 i56 (Blk.keep0 hcell ((Frm.refl [] w).drew)) htl (hS w.drew ((Frm.refl [] w).drew) c') (by rw [hdl2, hol]) (by omega)
  have hB2 : Blk (w.drew.setRow g (Kr.flt eR (rs.take i) ++ (Kr.flt eR (rs.drop (i + n)) ++ (p1 ++ p2))).toArray) g 56 (Kr.flt eR (rs.take i ++ rs.drop (i + n)) ++ (p1 ++ p2)) := by
    have := Blk.setRow (Blk.keep0 hcell ((Frm.refl [] w).drew)) (Kr.flt eR (rs.take i) ++ (Kr.flt eR (rs.drop (i + n)) ++ (p1 ++ p2)))
    rw [Kr.flt_append]
    simpa using this
  have F2 : Frm [g] w (w.drew.setRow g (Kr.flt eR (rs.take i) ++ (Kr.flt eR (rs.drop (i + n)) ++ (p1 ++ p2))).toArray) := ((Frm.refl [g] w).drew).trans (Frm.setRow _ _ _) (fun j hj => .inl hj)
  generalize w.drew.setRow g (Kr.flt eR (rs.take i) ++ (Kr.flt eR (rs.drop (i + n)) ++ (p1 ++ p2))).toArray = W2 at *
  have hcl : ∀ W, Frm [] W2 W → ∀ ty c' m, m = n → ∃ ds : List Value, ds.length = n * 44 ∧ (Builtin.clear_ #[22] ty #[.slice (some ⟨g, (i + (rs.length - (i + n))) * 44, none⟩) m c']).run Tryz.prog W = .ok (.tuple #[]) (W.setRow g (Kr.flt eR (rs.take i ++ rs.drop (i + n)) ++ (ds ++ p2)).toArray) := fun W fW ty c' m hm => by
    subst hm
    exact run_clear_blk (P := Tryz.prog) 22 56 ty (rv nilS zeroR) Tryz.underlying22 zero56 (by rw [rv_cells]; exact rv_size zeroR_s) (by decide) (by rw [rv_cells]; exact rc_one nilS rfl zeroR) hn (Blk.keep0 hB2 fW) (by rw [Kr.flt_length encRow, hlen]) hp1
  have HFIN := Lib.hid (fun W (fW : Frm [] W2 W) ds (hd : ds.length = n * 44) => show DelP g cap (rs.take i ++ rs.drop (i + n)) w (.returned (.slice (some ⟨g, 0, none⟩) (i + (rs.length - (i + n))) cap)) (W.setRow g (Kr.flt eR (rs.take i ++ rs.drop (i + n)) ++ (ds ++ p2)).toArray) from by
    refine ⟨ds ++ p2, by rw [hlen], Kr.OwnE.of_heap encRow (Blk.setRow (Blk.keep0 hB2 fW) _) rfl (by rw [hlen]; omega) ?_ c4, (F2.trans fW (by simp)).trans (Frm.setRow _ _ _) (fun j hj => .inl hj)⟩
    rw [hlen, List.length_append, hd]
    simp only [List.length_append] at hpl
    omega)
  have HAP := Lib.hid hap
  have HCL := Lib.hid hcl
  have hk : ((i + n : Nat) : Int) = (i : Int) + (n : Int) := by omega
  have hne : ¬ ((i : Int) = (i : Int) + (n : Int)) := by omega
  have hi9 : (i : Int) + (n : Int) ≤ (rs.length : Int) := by omega
  have hn9 : (0 : Int) ≤ (n : Int) := by omega
  have hi0 : (0 : Int) ≤ (i : Int) := by omega
  have hin0 : (0 : Int) ≤ (i : Int) + (n : Int) := by omega
  have hic : (i : Int) ≤ (cap : Int) := by omega
  have hlc : (rs.length : Int) ≤ (cap : Int) := by omega
  have htn : ((i : Int) + (n : Int)).toNat = i + n := by omega
  have hcm9 : cap ≤ 9223372036854775807 := by simp [maxLen] at c4; omega
  rw [hk]
  generalize rs.length = k at *
  clear hap hcl hB2 F2 hS hcell hcell2 hX hpl hol hp1 htl htl2 hdl hdl2 hone hO c1 c3 c4 hlen
  go_enter Tryz.func210, Tryz.ntmps210
  go_upto_region 5 with (fail)
  go_region_law (refine step_appendB rfl (.tmp 22) (.tmp 25) 22 22 rfl (.slice (some ⟨g, 0, none⟩) i cap) (.slice (if cap = i + n then some ⟨g, 0, none⟩ else some ⟨g, (i + n) * 44, none⟩) (k - (i + n)) (cap - (i + n))) (by simp [Act.eval, Act.put]) (by simp [Act.eval, Act.put]) (HAP.out 22 (cap - (i + n))) ?_)
  have hb1 : ((i + (k - (i + n)) : Nat) : Int) ≤ (k : Int) := by omega
  have hb2 : (k : Int) ≤ (cap : Int) := by omega
  obtain ⟨ds, hds, hrun⟩ := HCL.out W2 (Frm.refl [] W2) 0 (cap - (i + (k - (i + n)))) (k - (i + (k - (i + n)))) (by omega)
  go_wp2_with (simp only [hrun])
  all_goals go_ret
  all_goals first
    | exact HFIN.out W2 (Frm.refl [] W2) ds hds
    | (have q := HFIN.out W2 (Frm.refl [] W2) ds hds
       have e9 : cap = i + n := by assumption
       rw [e9] at q
       exact q)
end Go.Proofs.YtljhanhipmnioaaGreat.Rd

namespace Go.Proofs.YtljhanhipmnioaaGreat.Rd
open Go.RowKit
set_option linter.unusedVariables false
set_option linter.unusedSimpArgs false
set_option maxRecDepth 100000

open Pt (Pt may enc zeroPt be4 be1 pc pv PtV SlA OwnA BT wpList_load_g heap_alloc_at Ext Grew yieldsIf_ld)
open Kr (OwnE SlE Enco RowTys)

theorem cntOf_snoc {id : Int} {l : List Rec} {k : Nat} (h : k < l.length) : cntOf id (l.take (k + 1)) = cntOf id (l.take k) + (if (l[k]).of = id then 1 else 0) := by
  rw [List.take_succ_eq_append_getElem h]
  unfold cntOf
  rw [List.countP_append, List.countP_singleton]
  by_cases e : (l[k]).of = id <;> simp [e]
theorem cntOf_le (id : Int) (l : List Rec) : cntOf id l ≤ l.length := List.countP_le_length
def TkRel (W : World) (id : Int) (l : List Rec) (c8 _ c33 : Value) (wr : World) : Prop := ∃ k : Nat, k ≤ l.length ∧ c33 = .int .i64 k ∧ c8 = .int .i64 (1 + (cntOf id (l.take k) : Int)) ∧ Frm [] W wr
/-- What take makes of a table, and tells. -/
def TkP (w0 : World) (g : Nat) (vr vl : Value) (t : Tab) (rs : List RowT) (i m : Nat) (W : World) (e : Ending) (w' : World) : Prop :=
  ∃ a cap sp vr', e = .returned (.slice a m cap) ∧ OwnE eR 44 56 w' (.slice a m cap) ((rs.drop i).take m) sp ∧ (∀ q ∈ blk (.slice a m cap), W.heap.size ≤ q) ∧ TB w' g vr' vl { t with recs := t.recs.take i ++ t.recs.drop (i + m) } ∧
    Tl w0 w' vr' (t.recs.take i ++ t.recs.drop (i + m)) (rs.take i ++ rs.drop (i + m)) (blk vr' ++ (rs.take i ++ rs.drop (i + m)).flatMap rb) ∧ blk vr' = blk vr ∧ ∃ L, Frm L W w' ∧ ∀ q ∈ L, q = g ∨ q ∈ blk vr
set_option maxHeartbeats 8000000 in
theorem takeD_any (w0 W : World) (g : Nat) (vr vl : Value) (t : Tab) (rs : List RowT) (B : List Nat) (n : ByteArray) (i : Nat) (v : Rec) (m : Nat)
    (hT : TB W g vr vl t) (hl : Tl w0 W vr t.recs rs B) (hg : g < w0.heap.size) (hlen : t.recs.length ≤ 500) (hi : fnd n t.recs = some i) (hx : t.recs[i]? = some v) (hm : m = 1 + cntOf v.id t.recs) (him : i + m ≤ t.recs.length) :
    Calls Tryz.prog 169 #[.pointer (some ⟨g, 0, none⟩), .string n] W (TkP w0 g vr vl t rs i m W) := by
  have hrl := hl.len
  obtain ⟨spv, ho⟩ := hl.own
  obtain ⟨va, vc, rfl⟩ := hl.form
  have hpos : 0 < t.recs.length := by omega
  obtain ⟨b, off, e⟩ := ho.sl.at (by omega)
  subst e
  have hoff : off = 0 := by
    obtain ⟨_, ⟨h2, _⟩ | ⟨g', c', h2, _⟩⟩ := ho
    · cases h2
    · injection h2 with e1; injection e1 with e1; injection e1
  subst hoff
  have hus := hl.us
  have caps := OwnE.caps encRow ho
  have HFD := Lib.hid (FindP_any (.slice (some ⟨b, 0, none⟩) t.recs.length vc) vl t n W hus (by omega))
  have hFV : fndV n t.recs = .tuple #[.int .i64 i, .bool true] := by unfold fndV; rw [hi]
  rw [hFV] at HFD
  have hil : i < t.recs.length := by omega
  have HG := Lib.hid (fun z (f : Frm [] W z) k (hk : k < t.recs.length) => (hus.keep0 f).gets k hk)
  have HGV := Lib.hid (fun z (f : Frm [] W z) => by
    obtain ⟨xa, xc, G, XV⟩ := (hus.keep0 f).gets i hil
    rw [show t.recs[i] = v from (List.getElem?_eq_some_iff.1 hx).2] at G
    have q := G.id
    rw [Nat.zero_add] at q
    exact q)
  have BT := Lib.hid (fun z (f : Frm [] W z) => (hT.keep0 f).gets)
  have BTW := Lib.hid hT
  have HTl := Lib.hid hl
  have HO := Lib.hid ho
  have HRL := Lib.hid hrl
  have HNB := Lib.hid (show g ≠ b ∧ b < W.heap.size from ⟨by have := (hl.lo b (hl.inv b (by simp [blk]))).1; omega, (hl.lo b (hl.inv b (by simp [blk]))).2⟩)
  have HM := Lib.hid hm
  have HGL := Lib.hid hg
  have HIM := Lib.hid him
  have HCT := Lib.hid (fun k => cntOf_le v.id (t.recs.take k))
  have HSN := Lib.hid (fun k (hk : k < t.recs.length) => cntOf_snoc (id := v.id) hk)
  have hi9 : (i : Int) < (t.recs.length : Int) := by omega
  have hl9 : (t.recs.length : Int) ≤ 500 := by omega
  have hcap9 : (t.recs.length : Int) ≤ (vc : Int) := by omega
  have hcapm : vc ≤ 9223372036854775807 := by have := caps.2.2.2; simp [maxLen] at this; omega
  have d0 := (BT.out W (Frm.refl _ _)).recs
  have d1 := HGV.out W (Frm.refl _ _)
  clear hT hl hg hlen hi hx hm him hrl ho hus caps hFV
  go_enter Tryz.func169, Tryz.ntmps169
  go_upto_region 2 with (first
    | ((with_reducible (show wpList _ _ _ (Oper.mk _ (Op.load 27 _) _ _ _ _ :: _) _ _)); refine wpList_load_g (by rfl) 27 _ rfl _ rfl (BT.out W (Frm.refl _ _)).all ?_)
    | (go_at_call 19; refine HFD.out.mono ?_; rintro r w1 ⟨rfl, f1⟩))
  have F1 := Lib.hid f1
  have e0 := f1.cell d0 (by simp)
  have e1 := f1.cell d1 (by simp)
  clear d0 d1 f1
  go_upto_region 4 with (fail)
  clear e0 e1
  go_loopw [8, 10, 33] (TkRel W v.id t.recs) (fun _ _ c _ => t.recs.length - (intOf c).toNat)
  case atStart => exact ⟨0, Nat.zero_le _, rfl, rfl, F1.out⟩
  case round =>
    obtain ⟨k, hk, rfl, rfl, f⟩ := hrel
    have hct := HCT.out k
    have hk9 : (k : Int) ≤ (t.recs.length : Int) := by omega
    by_cases hlt : k < t.recs.length
    · have hlt9 : (k : Int) < (t.recs.length : Int) := by omega
      obtain ⟨xa, xc, G, XV⟩ := HG.out wr f k hlt
      have hsn := HSN.out k hlt
      have hxs : (t.recs[k]).root.s.length = 32 := by obtain ⟨_, _, _, _, _, h⟩ := XV; exact h
      rw [Nat.zero_add] at G
      have GA := Lib.hid G.all
      have HXS := Lib.hid hxs
      have F := Lib.hid f
      clear G XV hxs f
      generalize cntOf v.id (t.recs.take k) = c at *
      generalize t.recs[k] = x at *
      have hc9 : (c : Int) ≤ 500 := by have : (t.recs.take k).length ≤ t.recs.length := by simp; omega
                                       omega
      have BX := Lib.hid (fun z => RB.new (w := z) (v := .slice xa x.root.ads.length xc) HXS.out)
      go_upto_region 6 with (first
        | ((with_reducible (show wpList _ _ _ (Oper.mk _ (Op.load 56 _) _ _ _ _ :: _) _ _)); refine wpList_load_g (by rfl) 56 _ rfl _ rfl GA.out ?_)
        | ((with_reducible (show wpList _ _ _ (Oper.mk _ (Op.alloc 56) _ _ _ _ :: _) _ _)); refine wpList_lay56 rfl rfl rfl (.tmp 10) (.tmp 36) rfl (v := .slice xa x.root.ads.length xc) rfl HXS.out rfl rfl ?_))
      have e2 := (BX.out wr).gets.of
      have F2 := Lib.hid (show Frm [] W (wr.alloc (.cells (rc (.slice xa x.root.ads.length xc) x).toArray 56)) from F.out.alloc _)
      clear BX
      generalize wr.alloc (.cells (rc (.slice xa x.root.ads.length xc) x).toArray 56) = U at *
      by_cases hof : x.of = v.id
      · rw [if_pos hof] at hsn
        have hof9 : (x.of : Int) = v.id := hof
        go_wp2_with (fail)
        go_roundw
        case rel => exact ⟨k + 1, by omega, by go_num, by rw [hsn]; go_num, F2.out⟩
        case measure => simp [intOf]; omega
      · rw [if_neg hof] at hsn
        go_wp2_with (fail)
        go_roundw
        case rel => exact ⟨k + 1, by omega, by go_num, by rw [hsn]; rfl, F2.out⟩
        case measure => simp [intOf]; omega
    · have hlt9 : ¬ (k : Int) < (t.recs.length : Int) := by omega
      obtain rfl : k = t.recs.length := by omega
      rw [List.take_length, show 1 + ((cntOf v.id t.recs : Nat) : Int) = (m : Int) by have := HM.out; omega]
      rw [List.take_length] at hct
      have hm0 : 0 < m := by have := HM.out; omega
      have him := HIM.out
      have him9 : (i : Int) + (m : Int) ≤ (t.recs.length : Int) := by omega
      have him8 : (i : Int) + (m : Int) ≤ (vc : Int) := by omega
      have hi0 : (0 : Int) ≤ (i : Int) := by omega
      have him0 : (0 : Int) ≤ (i : Int) + (m : Int) := by omega
      have hiim : (i : Int) ≤ (i : Int) + (m : Int) := by omega
      have htn : ((i : Int) + (m : Int)).toNat = i + m := by omega
      have hvi : ¬ vc = i := by omega
      have SC := Lib.hid (show SlE eR 44 wr (.slice (some ⟨b, i * 44, none⟩) m (vc - i)) ((rs.drop i).take m) (Kr.flt eR (rs.drop (i + m)) ++ spv) by
        have := SlEcut44 (HO.out.keep0 f).sl i (i + m) (by omega) (by rw [HRL.out]; omega)
        rw [if_neg hvi, Nat.add_sub_cancel_left] at this
        simpa [add_plain] using this)
      have hcl := CloneW_any _ _ _ wr SC.out (by simp; omega)
      have hml : ((rs.drop i).take m).length = m := by simp; have := HRL.out; omega
      have HCL := Lib.hid hcl
      have HML := Lib.hid hml
      have HF := Lib.hid f
      have d0 := (BT.out wr f).recs
      have HDL := Lib.hid (fun z (fz : Frm [] W z) => show Calls Tryz.prog 210 #[.slice (some ⟨b, 0, none⟩) t.recs.length vc, .int .i64 (i : Int), .int .i64 ((i : Int) + (m : Int))] z (DelP b vc (rs.take i ++ rs.drop (i + m)) z) by
        have := Delete_any b vc rs spv i m z (by rw [HRL.out]; exact HO.out.keep0 fz) hm0 (by rw [HRL.out]; omega) (by rw [HRL.out]; omega)
        rw [HRL.out, show ((i + m : Nat) : Int) = (i : Int) + (m : Int) by omega] at this
        exact this)
      clear hcl hml f hct
      go_upto_region 10 with (go_at_call 208; refine HCL.out.mono ?_; rintro r w2 ⟨a2, c2, sp2, rfl, o2, f2, n2⟩; rw [HML.out] at o2 n2 ⊢)
      have d2 := f2.cell d0 (by simp)
      have F2 := Lib.hid (HF.out.trans f2 (by simp))
      have T2 := Lib.hid (BTW.out.keep0 F2.out)
      have O2 := Lib.hid o2
      have N2 := Lib.hid (show ∀ q ∈ blk (.slice a2 m c2), W.heap.size ≤ q from fun q hq => Nat.le_trans HF.out.size (n2 q hq))
      clear d0 f2 o2 n2
      go_wp2_with (go_at_call 210; refine (HDL.out _ F2.out).mono ?_; rintro r w3 ⟨sp3, rfl, o3, f3⟩; generalize hn1 : (rs.take i ++ rs.drop (i + m)).length = n1 at o3 ⊢; have T3 := Lib.hid (T2.out.keep f3 (by have := HNB.out.1; simp; exact this)); have z7 := frozen_of_heap T3.out 1; have e7 := T3.out.gets.recs)
      go_ret
      have fg : Frm [g] w3 (w3.setCell ⟨g, 1, none⟩ (.slice (some ⟨b, 0, none⟩) n1 vc)) := (Frm.refl _ _).setCell _ _ (by simp)
      have hT := (HTl.out.keep F2.out (by simp)).del (i := i) (n := m) (by rw [HRL.out]; omega) o3 (by simpa [blk] using f3) (by simp [blk])
      have F3 : Frm [g, b] W (w3.setCell ⟨g, 1, none⟩ (.slice (some ⟨b, 0, none⟩) n1 vc)) := ((F2.out.mono (by simp)).trans (f3.mono (by simp)) (fun j hj => .inl hj)).trans (fg.mono (by simp)) (fun j hj => .inl hj)
      refine ⟨a2, c2, sp2, .slice (some ⟨b, 0, none⟩) n1 vc, rfl, ?_, N2.out, TB.putRecs T3.out _, hT.keep fg (fun j hj hm => ?_), by simp [blk], [g, b], F3, fun q hq => by simpa [blk] using hq⟩
      · refine (O2.out.keep f3 (fun q hq hm => ?_)).keep fg (fun q hq hm => ?_)
        · have := N2.out q hq; have := HNB.out.2; simp at hm; omega
        · have := N2.out q hq; have := T3.out.lt; have := BTW.out.lt; simp at hm; omega
      · simp at hj; subst hj
        have := (hT.lo j hm).1
        have := HGL.out
        omega
end Go.Proofs.YtljhanhipmnioaaGreat.Rd

namespace Go.Proofs.YtljhanhipmnioaaGreat.Rd
open Go.RowKit
set_option linter.unusedVariables false
set_option linter.unusedSimpArgs false
set_option maxRecDepth 100000

open Pt (Pt may enc zeroPt be4 be1 pc pv PtV SlA OwnA BT wpList_load_g heap_alloc_at Ext Grew yieldsIf_ld)
open Kr (OwnE SlE Enco RowTys)

/-- What is told of a table behind take. -/
theorem TkP.own {w0 W w' : World} {g : Nat} {vr vl : Value} {t : Tab} {rs : List RowT} {B : List Nat} {spl : List Value} {i m : Nat} {e : Ending} (h : TkP w0 g vr vl t rs i m W e w') (hl : Tl w0 W vr t.recs rs B) (hL : OwnE eI 1 3 W vl t.lives spl) (hB : ∀ k ∈ blk vl, w0.heap.size ≤ k ∧ k ∉ B) (hg : g < w0.heap.size) :
    ∃ vr', TB w' g vr' vl { t with recs := t.recs.take i ++ t.recs.drop (i + m) } ∧ OwnTb w0 w' vr' vl { t with recs := t.recs.take i ++ t.recs.drop (i + m) } ∧ ∃ L, Frm L W w' ∧ ∀ j ∈ L, j = g ∨ w0.heap.size ≤ j := by
  obtain ⟨a, cap, sp, vr', rfl, _, _, hT, hTl, hbv, L, f, hLs⟩ := h
  refine ⟨vr', hT, ⟨_, _, spl, hTl, hL.keep f (fun k hk hm => ?_), fun k hk => ⟨(hB k hk).1, fun hm => ?_⟩⟩, L, f, fun j hj => ?_⟩
  · rcases hLs k hm with q | q
    · have := (hB k hk).1; omega
    · exact (hB k hk).2 (hl.inv k q)
  · rcases List.mem_append.1 hm with q | q
    · rw [hbv] at q; exact (hB k hk).2 (hl.inv k q)
    · obtain ⟨s, hs, q⟩ := List.mem_flatMap.1 q
      have hsr : s ∈ rs := by
        rcases List.mem_append.1 hs with r | r
        · exact List.mem_of_mem_take r
        · exact List.mem_of_mem_drop r
      obtain ⟨j, hj⟩ := List.getElem?_of_mem hsr
      exact (hB k hk).2 (hl.inr j s hj k q)
  · rcases hLs j hj with q | q
    · exact .inl q
    · exact .inr (hl.lo j (hl.inv j q)).1
set_option maxHeartbeats 1000000 in
theorem drop1_ch (w : World) (gn : Nat) (n : ByteArray) (t : Tab) (i : Nat) (v : Rec) (hn : w.cell? ⟨gn, 0, none⟩ = some (.string n)) (hlen : t.recs.length ≤ 500) (hi : fnd n t.recs = some i) (hx : t.recs[i]? = some v) (hm : cntOf v.id t.recs = 0) :
    ChT w 187 #[.pointer (some ⟨gn, 0, none⟩)] t { t with recs := t.recs.take i ++ t.recs.drop (i + 1) } := by
  refine ⟨fun u z => enter_of Tryz.func187 (by kernel_rfl) (by kernel_rfl) _ z, fun w0 W gt vr vl f hg hg0 hT hO => ?_⟩
  obtain ⟨rs, B, spl, hTl, hL, hLB⟩ := hO
  have hil := (List.getElem?_eq_some_iff.1 hx).1
  have HTK := Lib.hid (takeD_any w0 W gt vr vl t rs B n i v 1 hT hTl hg0 hlen hi hx (by omega) (by omega))
  have HC := Lib.hid (fun e w' (h : TkP w0 gt vr vl t rs i 1 W e w') => h.own hTl hL hLB hg0)
  have c1 := f.cell hn (by simp)
  clear hn hlen hi hx hm hT hTl hL hLB hg hg0 hil f
  show Calls Tryz.prog 187 #[.pointer (some ⟨gt, 0, none⟩), .pointer (some ⟨gn, 0, none⟩)] W _
  go_enter Tryz.func187, Tryz.ntmps187
  go_wp2_with (go_at_call 169; refine HTK.out.mono ?_; intro e w1 hp; obtain ⟨vr', h1, h2, h3⟩ := HC.out e w1 hp; obtain ⟨a, cap, sp, vr2, rfl, hrest⟩ := hp)
  go_end0
  exact ⟨rfl, vr', vl, h1, h2, h3⟩
def dropC (t : Tab) (n : ByteArray) : Int := orL [mayC t (nameB n), unl (isF n t.recs) 6, unl (!t.recs.any (needB (fndR n t.recs))) 17]
/-- A table without the record of a name. -/
def delT (t : Tab) (n : ByteArray) : Tab := { t with recs := match fnd n t.recs with | some i => t.recs.take i ++ t.recs.drop (i + 1) | none => t.recs }
def dropT (t : Tab) (n : ByteArray) : Tab × Int := if dropC t n = 0 then (delT t n, 0) else (zeroT, dropC t n)
theorem dropC_some {t : Tab} {n : ByteArray} (h : dropC t n = 0) : MayT t ∧ nameB n = true ∧ ∃ i x, fnd n t.recs = some i ∧ t.recs[i]? = some x ∧ fndR n t.recs = x ∧ x.name = n ∧ ∀ s ∈ t.recs, s.of ≠ x.id ∧ s.origin ≠ x.id := by
  have h1 := mayC_may (orL_all0 h (mayC t (nameB n)) (by simp))
  have h2 := unl_zero (orL_all0 h (unl (isF n t.recs) 6) (by simp)) (by decide)
  have h3 := unl_zero (orL_all0 h (unl (!t.recs.any (needB (fndR n t.recs))) 17) (by simp)) (by decide)
  obtain ⟨i, x, a, b, c, d⟩ := isF_some h2
  refine ⟨h1.1, h1.2, i, x, a, b, c, d, fun s hs => ?_⟩
  rw [c] at h3
  simp only [Bool.not_eq_true', List.any_eq_false] at h3
  have := h3 s hs
  unfold needB at this
  simpa using this
set_option maxHeartbeats 8000000 in
theorem Drop_any (vr vl : Value) (t : Tab) (n : ByteArray) (w : World) (h : TabV w vr vl t) (hf : FitT t) (hn : n.size ≤ 1000) : Calls Tryz.prog 59 #[tv vr vl t, .string n] w (TellE (dropT t n) w) := by
  have F0 := Lib.hid (show Frm [] w ((w.alloc (.cells (tc vr vl t).toArray 27)).alloc (.cells (tc nilS nilS zeroT).toArray 27)) from ((Frm.refl [] w).alloc _).alloc _)
  have BT := Lib.hid ((TB.new w vr vl t).keep0 ((Frm.refl [] _).alloc (.cells (tc nilS nilS zeroT).toArray 27)))
  have R6 := Lib.hid (show TB ((w.alloc (.cells (tc vr vl t).toArray 27)).alloc (.cells (tc nilS nilS zeroT).toArray 27)) (w.heap.size + 1) nilS nilS zeroT from heap_alloc_at (by simp))
  have HFI := Lib.hid (fun z (f : Frm [] w z) => find_any vr vl t n z (h.keep0 f) hf.recs)
  have HT := Lib.hid h
  have HF := Lib.hid hf
  have HNM := Lib.hid (fun z => mayName_any n hn z)
  have HE := Lib.hid (show dropT t n = if dropC t n = 0 then (delT t n, 0) else (zeroT, dropC t n) from rfl)
  have HW := Lib.hid (fun (e : dropC t n = 0) => dropC_some e)
  have HR := Lib.hid (show dropC t n = orL [mayC t (nameB n), unl (isF n t.recs) 6, unl (!t.recs.any (needB (fndR n t.recs))) 17] from rfl)
  rw [tcA]
  generalize (tc vr vl t).toArray = A at *
  generalize dropT t n = res at *
  generalize dropC t n = ec at *
  clear h hf hn
  go_enter Tryz.func59, Tryz.ntmps59
  go_upto_region 1 with ((with_reducible (show wpList _ _ _ (Oper.mk _ (Op.alloc 27) _ _ _ _ :: _) _ _)); refine wpList_val rfl (exec_alloc27 rfl _) ?_)
  try simp only [World.size_alloc]
  generalize (w.alloc (.cells A 27)).alloc (.cells (tc nilS nilS zeroT).toArray 27) = W at *
  have LA := Lib.hid BT.out.gets.all
  go_upto_region 2 with (first
    | ((with_reducible (show wpList _ _ _ (Oper.mk _ (Op.load 27 _) _ _ _ _ :: _) _ _)); refine wpList_load_g (by rfl) 27 _ rfl _ rfl LA.out ?_)
    | (go_at_call 99; refine (HFI.out _ F0.out).mono ?_; rintro r w1 hr; obtain ⟨ua, uc, us, rfl, uS, uh, g1⟩ := hr.own)
    | ((with_reducible (show wpList _ _ _ (Oper.mk _ (Op.alloc 56) _ _ _ _ :: _) _ _)); refine wpList_lay56 rfl rfl rfl (.tmp 6) (.tmp 13) rfl (v := .slice ua (fndR n t.recs).root.ads.length uc) rfl uh rfl rfl ?_))
  have G1 := Lib.hid (show Frm [] W (w1.alloc (.cells (rc (.slice ua (fndR n t.recs).root.ads.length uc) (fndR n t.recs)).toArray 56)) from g1.trans ((Frm.refl [] w1).alloc _) (by simp))
  have XB := Lib.hid (RB.new (w := w1) (v := .slice ua (fndR n t.recs).root.ads.length uc) uh)
  have US := Lib.hid (uS.keep (w' := w1.alloc (.cells (rc (.slice ua (fndR n t.recs).root.ads.length uc) (fndR n t.recs)).toArray 56)) ((Frm.refl [] w1).alloc _) (by simp))
  have UH := Lib.hid uh
  clear g1 uS uh hr
  generalize w1.alloc (.cells (rc (.slice ua (fndR n t.recs).root.ads.length uc) (fndR n t.recs)).toArray 56) = V at *
  have HX := Lib.hid (fun z (f : Frm [] V z) => (XB.out.keep0 f).gets)
  have LV := Lib.hid (fun z (f : Frm [] V z) => ((BT.out.keep0 G1.out).keep0 f).gets.all)
  have FV := Lib.hid (F0.out.trans G1.out (by simp))
  generalize isF n t.recs = fb at *
  generalize fndR n t.recs = x at *
  refine wp_region_held_drew (S := fun z => Frm [] V z) (by kernel_rfl) ((Frm.refl [] V).drew) (fun hHeld => ?_)
  refine wpAnyH_take (i := 0) (oi := ⟨some 15, .load 27 (.tmp 2), _, _, _, none⟩) rfl (by kernel_rfl) (by kernel_rfl) (by kernel_rfl) (fun _ _ _ h => h) (yieldsIf_ld (by rfl) 27 _ rfl _ rfl (fun z hSw => LV.out z hSw)) hHeld ?_
  try simp only [Act.put, List.setIfInBounds_toArray, List.set_cons_zero, List.set_cons_succ]
  refine wpAnyH_take (i := 1) (oi := ⟨some 16, .move (.tmp 1), _, _, _, none⟩) (v := ?_) rfl (by kernel_rfl) (by kernel_rfl) (by kernel_rfl) (fun _ _ _ h => h) (Or.inl ⟨by rfl, ?_⟩) hHeld ?_
  rotate_left
  focus (intro z hSw; clear hSw; go_simp; try with_reducible rfl)
  try simp only [Act.put, List.setIfInBounds_toArray, List.set_cons_zero, List.set_cons_succ]
  refine wpAnyH_take (i := 4) (oi := ⟨some 19, .move (.tmp 7), _, _, _, none⟩) (v := ?_) rfl (by kernel_rfl) (by kernel_rfl) (by kernel_rfl) (fun _ _ _ h => h) (Or.inl ⟨by rfl, ?_⟩) hHeld ?_
  rotate_left
  focus (intro z hSw; clear hSw; go_simp; try with_reducible rfl)
  try simp only [Act.put, List.setIfInBounds_toArray, List.set_cons_zero, List.set_cons_succ]
  refine wpAnyH_take (i := 6) (oi := ⟨some 21, .load 27 (.tmp 2), _, _, _, none⟩) rfl (by kernel_rfl) (by kernel_rfl) (by kernel_rfl) (fun _ _ _ h => h) (yieldsIf_ld (by rfl) 27 _ rfl _ rfl (fun z hSw => LV.out z hSw)) hHeld ?_
  try simp only [Act.put, List.setIfInBounds_toArray, List.set_cons_zero, List.set_cons_succ]
  refine wpAnyH_take (i := 7) (oi := ⟨some 22, .load 56 (.tmp 6), _, _, _, none⟩) rfl (by kernel_rfl) (by kernel_rfl) (by kernel_rfl) (fun _ _ _ h => h) (yieldsIf_ld (by rfl) 56 _ rfl _ rfl (fun z hSw => (HX.out z hSw).all)) hHeld ?_
  try simp only [Act.put, List.setIfInBounds_toArray, List.set_cons_zero, List.set_cons_succ]
  refine wpAnyH_ready (rs := [2]) (by kernel_rfl) (by simp) ?_
  refine AllReadyH.cons (o := ⟨some 17, .call { callee := .value (.func 123), args := #[.tmp 16], argTypes := #[9] }, _, _, _, none⟩) rfl (fun K hK => ?_) AllReadyH.nil
  go_simp
  refine (HNM.out _).mono ?_
  rintro r wv ⟨rfl, fv⟩
  refine hK.out _ _ ?_ (fun hNext => ?_)
  · exact hHeld.trans fv (by simp)
  clear hK K hHeld
  have hHeld := hNext
  clear hNext
  try simp only [Act.put, List.setIfInBounds_toArray, List.set_cons_zero, List.set_cons_succ]
  refine wpAnyH_ready (rs := [3]) (by kernel_rfl) (by simp) ?_
  refine AllReadyH.cons (o := ⟨some 18, .call { callee := .value (.func 101), args := #[.tmp 15, .tmp 17], argTypes := #[27, 4] }, _, _, _, none⟩) rfl (fun K hK => ?_) AllReadyH.nil
  go_simp
  refine (may_any vr vl t (nameB n) _ (HT.out.keep0 (FV.out.trans hHeld (by simp))) HF.out).mono ?_
  rintro r wn ⟨rfl, fm⟩
  refine hK.out _ _ ?_ (fun hNext => ?_)
  · exact hHeld.trans fm (by simp)
  clear hK K hHeld
  have hHeld := hNext
  clear hNext
  try simp only [Act.put, List.setIfInBounds_toArray, List.set_cons_zero, List.set_cons_succ]
  refine wpAnyH_ready (rs := [5]) (by kernel_rfl) (by simp) ?_
  refine AllReadyH.cons (o := ⟨some 20, .call { callee := .value (.func 103), args := #[.tmp 19, .const (.int .i64 6)], argTypes := #[4, 32] }, _, _, _, none⟩) rfl (fun K hK => ?_) AllReadyH.nil
  go_simp
  refine (unless_any _ _ _).mono ?_
  rintro r wa ⟨rfl, rfl⟩
  refine hK.out _ _ ?_ (fun hNext => ?_)
  · exact hHeld
  clear hK K hHeld
  have hHeld := hNext
  clear hNext
  try simp only [Act.put, List.setIfInBounds_toArray, List.set_cons_zero, List.set_cons_succ]
  refine wpAnyH_ready (rs := [8]) (by kernel_rfl) (by simp) ?_
  refine AllReadyH.cons (o := ⟨some 23, .call { callee := .value (.func 124), args := #[.tmp 21, .tmp 22], argTypes := #[27, 56] }, _, _, _, none⟩) rfl (fun K hK => ?_) AllReadyH.nil
  go_simp
  have hu := US.out.keep (w' := _) hHeld (by simp)
  refine (needed_any vr vl _ t x _ (HT.out.keep0 (FV.out.trans hHeld (by simp))) ⟨ua, uc, us, rfl, hu, UH.out⟩ HF.out.recs).mono ?_
  rintro r wr ⟨rfl, fr⟩
  refine hK.out _ _ ?_ (fun hNext => ?_)
  · exact hHeld.trans fr (by simp)
  clear hK K hHeld
  have hHeld := hNext
  clear hNext
  try simp only [Act.put, List.setIfInBounds_toArray, List.set_cons_zero, List.set_cons_succ]
  refine wpAnyH_take (i := 9) (oi := ⟨some 24, .unOp .not 4 (.tmp 23), _, _, _, none⟩) (v := ?_) rfl (by kernel_rfl) (by kernel_rfl) (by kernel_rfl) (fun _ _ _ h => h) (Or.inl ⟨by rfl, ?_⟩) hHeld ?_
  rotate_left
  focus (intro z hSw; clear hSw; go_simp; try with_reducible rfl)
  try simp only [Act.put, List.setIfInBounds_toArray, List.set_cons_zero, List.set_cons_succ]
  refine wpAnyH_ready (rs := [10]) (by kernel_rfl) (by simp) ?_
  refine AllReadyH.cons (o := ⟨some 25, .call { callee := .value (.func 103), args := #[.tmp 24, .const (.int .i64 17)], argTypes := #[4, 32] }, _, _, _, none⟩) rfl (fun K hK => ?_) AllReadyH.nil
  go_simp
  refine (unless_any _ _ _).mono ?_
  rintro r wb ⟨rfl, rfl⟩
  refine hK.out _ _ ?_ (fun hNext => ?_)
  · exact hHeld
  clear hK K hHeld
  have hHeld := hNext
  clear hNext
  try simp only [Act.put, List.setIfInBounds_toArray, List.set_cons_zero, List.set_cons_succ]
  refine wpAnyH_ready (rs := [11]) (by kernel_rfl) (by simp) ?_
  refine AllReadyH.cons (o := ⟨some 26, .buildSlice 166 3 #[(0, .tmp 18), (1, .tmp 20), (2, .tmp 25)], _, _, _, none⟩) rfl (fun K hK => ?_) AllReadyH.nil
  refine step_err3 rfl (.tmp 18) (.tmp 20) (.tmp 25) rfl rfl rfl rfl ?_
  intro v11 w11 s11 f11
  refine hK.out _ _ ?_ (fun hNext => ?_)
  · exact hHeld.trans f11 (by simp)
  clear hK K hHeld
  have hHeld := hNext
  clear hNext
  try simp only [Act.put, List.setIfInBounds_toArray, List.set_cons_zero, List.set_cons_succ]
  refine wpAnyH_ready (rs := [12]) (by kernel_rfl) (by simp) ?_
  refine AllReadyH.cons (o := ⟨some 27, .call { callee := .value (.func 100), args := #[.tmp 26], argTypes := #[166] }, _, _, _, none⟩) rfl (fun K hK => ?_) AllReadyH.nil
  go_simp
  refine (OrE_any _ _ _ _ s11 (by simp)).mono ?_
  rintro r wo ⟨rfl, rfl⟩
  refine hK.out _ _ ?_ (fun hNext => ?_)
  · exact hHeld
  clear hK K hHeld
  have hHeld := hNext
  clear hNext
  try simp only [Act.put, List.setIfInBounds_toArray, List.set_cons_zero, List.set_cons_succ]
  refine wpAnyH_take (i := 13) (oi := ⟨some 8, .assign (.tmp 27), _, _, _, none⟩) (v := ?_) rfl (by kernel_rfl) (by kernel_rfl) (by kernel_rfl) (fun _ _ _ h => h) (Or.inl ⟨by rfl, ?_⟩) hHeld ?_
  rotate_left
  focus (intro z hSw; clear hSw; go_simp; try with_reducible rfl)
  try simp only [Act.put, List.setIfInBounds_toArray, List.set_cons_zero, List.set_cons_succ]
  refine wpAnyH_done (by kernel_rfl) ?_ _
  have FW := Lib.hid hHeld
  clear hHeld
  rw [← HR.out]
  go_upto_region 3 with (fail)
  refine wp_region_late 7 (S := fun z => Frm [] V z) (by kernel_rfl) (FW.out.drew) (fun hHeld => ?_)
  refine wpAnyL_take (i := 0) (oi := ⟨some 28, .load 27 (.tmp 2), _, _, _, none⟩) rfl (by kernel_rfl) (by kernel_rfl) (by kernel_rfl) (fun _ _ _ h => h) (yieldsIf_ld (by rfl) 27 _ rfl _ rfl (fun z hSw => LV.out z hSw)) hHeld ?_
  try simp only [Act.put, List.setIfInBounds_toArray, List.set_cons_zero, List.set_cons_succ]
  refine wpAnyL_takeP (i := 1) (oi := ⟨some 29, .move (.tmp 8), _, _, _, none⟩) (v := ?_) rfl (by kernel_rfl) (by kernel_rfl) (by kernel_rfl) (fun _ _ _ h => h) (Or.inl ⟨by rfl, ?_⟩) hHeld ?_
  rotate_left
  focus (intro z hSw; clear hSw; go_simp; try with_reducible rfl)
  try simp only [Act.put, List.setIfInBounds_toArray, List.set_cons_zero, List.set_cons_succ]
  refine wpAnyL_takeP (i := 2) (oi := ⟨some 30, .move (.tmp 1), _, _, _, none⟩) (v := ?_) rfl (by kernel_rfl) (by kernel_rfl) (by kernel_rfl) (fun _ _ _ h => h) (Or.inl ⟨by rfl, ?_⟩) hHeld ?_
  rotate_left
  focus (intro z hSw; clear hSw; go_simp; try with_reducible rfl)
  try simp only [Act.put, List.setIfInBounds_toArray, List.set_cons_zero, List.set_cons_succ]
  refine wpAnyL_one (i := 3) (o := ⟨some 31, .call { callee := .value (.func 125), args := #[.tmp 30], argTypes := #[9] }, _, _, _, none⟩) (by kernel_rfl) rfl (fun K hK => ?_)
  go_simp
  refine (drop_any n _).mono ?_
  rintro r w3 ⟨g, rfl, cg, gl, f3⟩
  refine hK.out _ _ ?_ (fun hNext => ?_)
  · exact hHeld.trans f3 (by simp)
  clear hK K hHeld
  have hHeld := hNext
  clear hNext
  try simp only [Act.put, List.setIfInBounds_toArray, List.set_cons_zero, List.set_cons_succ]
  refine wpAnyL_one (i := 4) (o := ⟨some 32, .call { callee := .value (.func 104), args := #[.tmp 28, .tmp 29, .tmp 31], argTypes := #[27, 32, 128] }, _, _, _, none⟩) (by kernel_rfl) rfl (fun K hK => ?_)
  have F34 := Lib.hid hHeld
  have hch : ec = 0 → ∃ F cap, Value.func (.func 187) #[] #[.pointer (some ⟨g, 0, none⟩)] = .func (.func F) #[] cap ∧ ChT w3 F cap t (delT t n) := fun e => by
    obtain ⟨hM, _, i, y, h1, h2, h3, h4, h5⟩ := HW.out e
    refine ⟨187, _, rfl, ?_⟩
    have := drop1_ch w3 g n t i y cg (by have := hM.many; omega) h1 h2 (cntOf_none (fun s hs => (h5 s hs).1))
    unfold delT
    rw [h1]
    exact this
  have hd := done_any vr vl _ t _ ec w3 (HT.out.keep0 (FV.out.trans hHeld (by simp))) HF.out hch
  rw [← HE.out] at hd
  have HD := Lib.hid hd
  clear hd hch
  go_simp
  refine HD.out.mono ?_
  rintro r w4 ⟨vr4, vl4, rfl, o4, f4⟩
  refine hK.out _ _ ?_ (fun hNext => ?_)
  · exact hHeld.trans f4 (by simp)
  clear hK K hHeld
  have hHeld := hNext
  clear hNext
  try simp only [Act.put, List.setIfInBounds_toArray, List.set_cons_zero, List.set_cons_succ]
  refine wpAnyL_takeP (i := 5) (oi := ⟨some 33, .extract (.tmp 32) 0, _, _, _, none⟩) (v := ?_) rfl (by kernel_rfl) (by kernel_rfl) (by kernel_rfl) (fun _ _ _ h => h) (Or.inl ⟨by rfl, ?_⟩) hHeld ?_
  rotate_left
  focus (intro z hSw; clear hSw; go_simp; try with_reducible rfl)
  try simp only [Act.put, List.setIfInBounds_toArray, List.set_cons_zero, List.set_cons_succ]
  refine wpAnyL_takeP (i := 6) (oi := ⟨some 34, .extract (.tmp 32) 1, _, _, _, none⟩) (v := ?_) rfl (by kernel_rfl) (by kernel_rfl) (by kernel_rfl) (fun _ _ _ h => h) (Or.inl ⟨by rfl, ?_⟩) hHeld ?_
  rotate_left
  focus (intro z hSw; clear hSw; go_simp; try with_reducible rfl)
  try simp only [Act.put, List.setIfInBounds_toArray, List.set_cons_zero, List.set_cons_succ]
  refine wpAnyL_last (o := ⟨none, .store 27 (.tmp 4) (.tmp 33), _, _, _, none⟩) (by kernel_rfl) rfl (by simp) (fun K hK => ?_)
  refine step_store27 rfl (.tmp 4) (.tmp 33) rfl o4.ones.1 o4.ones.2 ((R6.out.keep0 G1.out).keep0 (F34.out.trans f4 (by simp))) rfl rfl (fun w8 B8 f8 => ?_)
  refine hK.out _ _ ?_
  clear hK K hHeld
  try simp only [Act.put, List.setIfInBounds_toArray, List.set_cons_zero, List.set_cons_succ]
  refine wpAny_take (i := 8) (oi := ⟨some 5, .assign (.tmp 34), _, _, _, none⟩) (v := ?_) rfl (by kernel_rfl) (by kernel_rfl) (by kernel_rfl) (fun _ _ _ h => h) (Or.inl ⟨by rfl, ?_⟩) ?_
  rotate_left
  focus (intro z; go_simp; try with_reducible rfl)
  try simp only [Act.put, List.setIfInBounds_toArray, List.set_cons_zero, List.set_cons_succ]
  refine wpAny_done (by kernel_rfl) ?_ _
  have b8 := B8
  have SZ := Lib.hid (show w.heap.size + 1 < W.heap.size from R6.out.lt)
  go_wp2_with fail
  refine bodyPost_ret (results_cell_slot (p := 4) (q := 5) rfl _ _ rfl rfl (run_loadVar_row w8 (w.heap.size + 1) 27 27 _ (0, 0) _ b8 Tryz.underlying27 rfl (by rw [i27]; simp [tc]))) rfl ?_
  exact ⟨_, _, rfl, (o4.keep f8 (fun i hi => .inl (by have := SZ.out; have := G1.out.size; have := F34.out.size; simp at hi; omega))).base (Nat.le_trans FV.out.size F34.out.size), ((FV.out.trans F34.out (by simp)).trans f4 (by simp)).trans f8 (fun i hi => .inr (by simp at hi; omega))⟩
end Go.Proofs.YtljhanhipmnioaaGreat.Rd

namespace Go.Proofs.YtljhanhipmnioaaGreat.Rd
open Go.RowKit
set_option linter.unusedVariables false
set_option linter.unusedSimpArgs false
set_option maxRecDepth 100000

open Pt (Pt may enc zeroPt be4 be1 pc pv PtV SlA OwnA BT wpList_load_g heap_alloc_at Ext Grew yieldsIf_ld)
open Kr (OwnE SlE Enco RowTys)
/-- Of whom a record is, among records: in plain words. -/
def Kin (rs : List Rec) (x : Rec) : Prop := (x.kind = 2 → ∃ y ∈ rs, y.name = spl1 x.name ∧ y.id = x.of) ∧ (x.kind ≠ 2 → x.origin = 0 ∨ ∃ y ∈ rs, y.id = x.origin ∧ y.kind = 2)
/-- What the records of a table that may be are, by who is among them. -/
structure Ok (next : Int) (rs : List Rec) : Prop where
  srt : Srt rs
  one : ∀ x ∈ rs, mayR x = true ∧ x.id < next
  ids : rs.Pairwise fun x y => x.id ≠ y.id
  kin : ∀ x ∈ rs, Kin rs x
theorem Srt.name {rs : List Rec} (h : Srt rs) {i k : Nat} {x y : Rec} (hx : rs[i]? = some x) (hy : rs[k]? = some y) (e : x.name = y.name) : i = k := by
  obtain ⟨hi, rfl⟩ := List.getElem?_eq_some_iff.1 hx
  obtain ⟨hk, rfl⟩ := List.getElem?_eq_some_iff.1 hy
  rcases Nat.lt_trichotomy i k with q | q | q
  · have := List.pairwise_iff_getElem.1 h i k hi hk q; rw [e, less_irrefl] at this; cases this
  · exact q
  · have := List.pairwise_iff_getElem.1 h k i hk hi q; rw [e, less_irrefl] at this; cases this
theorem Srt.fnd {rs : List Rec} (h : Srt rs) {i : Nat} {x : Rec} (hx : rs[i]? = some x) : fnd x.name rs = some i :=
  fnd_at hx rfl fun k y hk hy e => by have := h.name hy hx e; omega
theorem insR_perm (x : Rec) (l : List Rec) : (insR x l).Perm (x :: l) := by
  unfold insR
  have e : l.takeWhile (fun y => lessS y.name x.name) ++ l.dropWhile (fun y => lessS y.name x.name) = l := List.takeWhile_append_dropWhile
  conv => rhs; rw [← e]
  exact List.perm_middle
theorem Kin.mono {rs rs' : List Rec} {x : Rec} (h : Kin rs x) (hs : ∀ y ∈ rs, y ∈ rs') : Kin rs' x :=
  ⟨fun q => by obtain ⟨y, a, b⟩ := h.1 q; exact ⟨y, hs y a, b⟩, fun q => by
    rcases h.2 q with e | ⟨y, a, b⟩
    · exact .inl e
    · exact .inr ⟨y, hs y a, b⟩⟩
theorem ids_symm : ∀ {a b : Rec}, a.id ≠ b.id → b.id ≠ a.id := fun h => Ne.symm h
/-- One record more. -/
theorem Ok.put {next : Int} {rs : List Rec} {x : Rec} (h : Ok next rs) (hn : ∀ y ∈ rs, y.name ≠ x.name) (hi : x.id = next) (hx : mayR x = true) (hk : Kin rs x) : Ok (next + 1) (insR x rs) := by
  have hm : ∀ y ∈ rs, y ∈ insR x rs := fun y hy => mem_insR.2 (.inr hy)
  refine ⟨h.srt.insR hn, fun y hy => ?_, ?_, fun y hy => ?_⟩
  · rcases mem_insR.1 hy with rfl | q
    · exact ⟨hx, by omega⟩
    · have := h.one y q
      exact ⟨this.1, by omega⟩
  · rw [(insR_perm x rs).pairwise_iff ids_symm]
    refine List.pairwise_cons.2 ⟨fun y hy => ?_, h.ids⟩
    have := (h.one y hy).2
    omega
  · rcases mem_insR.1 hy with rfl | q
    · exact hk.mono hm
    · exact (h.kin y q).mono hm
theorem Kin.mono' {rs rs' : List Rec} {x : Rec} (h : Kin rs x) (hs : ∀ y ∈ rs, ∃ z ∈ rs', z.id = y.id ∧ z.name = y.name ∧ z.kind = y.kind) : Kin rs' x :=
  ⟨fun q => by
    obtain ⟨y, a, b, c⟩ := h.1 q
    obtain ⟨z, d, e1, e2, _⟩ := hs y a
    exact ⟨z, d, e2.trans b, e1.trans c⟩, fun q => by
    rcases h.2 q with e | ⟨y, a, b, c⟩
    · exact .inl e
    · obtain ⟨z, d, e1, _, e3⟩ := hs y a
      exact .inr ⟨z, d, e1.trans b, e3.trans c⟩⟩
theorem Kin.same {rs : List Rec} {x y : Rec} (h : Kin rs x) (e : y.name = x.name ∧ y.kind = x.kind ∧ y.of = x.of ∧ y.origin = x.origin) : Kin rs y := by
  unfold Kin at h ⊢
  rw [e.1, e.2.1, e.2.2.1, e.2.2.2]
  exact h
theorem map_set_same {α : Type} {f : Rec → α} {rs : List Rec} {i : Nat} {x y : Rec} (hx : rs[i]? = some x) (e : f y = f x) : (rs.set i y).map f = rs.map f := by
  obtain ⟨hi, rfl⟩ := List.getElem?_eq_some_iff.1 hx
  rw [List.map_set, e]
  refine List.ext_getElem (by simp) fun j h1 h2 => ?_
  by_cases q : i = j
  · subst q; simp
  · rw [List.getElem_set_ne q]
theorem Ok.set {next : Int} {rs : List Rec} {i : Nat} {x y : Rec} (h : Ok next rs) (hx : rs[i]? = some x) (e : y.id = x.id ∧ y.name = x.name ∧ y.kind = x.kind ∧ y.of = x.of ∧ y.origin = x.origin) (hm : mayR y = true) : Ok next (rs.set i y) := by
  have hxm := List.mem_of_getElem? hx
  have back : ∀ u ∈ rs, ∃ z ∈ rs.set i y, z.id = u.id ∧ z.name = u.name ∧ z.kind = u.kind := fun u hu => by
    obtain ⟨j, hj⟩ := List.getElem?_of_mem hu
    by_cases q : i = j
    · subst q
      rw [hx] at hj
      cases hj
      refine ⟨y, ?_, e.1, e.2.1, e.2.2.1⟩
      exact List.mem_of_getElem? (i := i) (List.getElem?_set_self (List.getElem?_eq_some_iff.1 hx).1)
    · exact ⟨u, List.mem_of_getElem? (i := j) (by rw [List.getElem?_set_ne q]; exact hj), rfl, rfl, rfl⟩
  refine ⟨?_, fun u hu => ?_, ?_, fun u hu => ?_⟩
  · have := h.srt
    unfold Srt at this ⊢
    rw [← List.pairwise_map (f := Rec.name) (R := fun a b => lessS a b = true)] at this ⊢
    rw [map_set_same hx e.2.1]
    exact this
  · rcases List.mem_or_eq_of_mem_set hu with q | rfl
    · exact h.one u q
    · exact ⟨hm, by rw [e.1]; exact (h.one x hxm).2⟩
  · have := h.ids
    rw [← List.pairwise_map (f := Rec.id) (R := fun a b => a ≠ b)] at this ⊢
    rw [map_set_same hx e.1]
    exact this
  · rcases List.mem_or_eq_of_mem_set hu with q | rfl
    · exact (h.kin u q).mono' back
    · exact ((h.kin x hxm).same ⟨e.2.1, e.2.2.1, e.2.2.2.1, e.2.2.2.2⟩).mono' back
theorem mid_sub (A C : List Rec) (v : Rec) : (A ++ C).Sublist (A ++ v :: C) := List.Sublist.append_left (List.sublist_cons_self _ _) _
theorem Ok.del {next : Int} {A C : List Rec} {v : Rec} (h : Ok next (A ++ v :: C)) (h1 : ∀ s ∈ A ++ C, s.of ≠ v.id ∧ s.origin ≠ v.id) : Ok next (A ++ C) := by
  have hs := mid_sub A C v
  have mem : ∀ y ∈ A ++ v :: C, y.id ≠ v.id → y ∈ A ++ C := fun y hy hn => by
    simp only [List.mem_append, List.mem_cons] at hy ⊢
    rcases hy with q | rfl | q
    · exact .inl q
    · exact absurd rfl hn
    · exact .inr q
  refine ⟨h.srt.sublist hs, fun x hx => h.one x (hs.subset hx), h.ids.sublist hs, fun x hx => ?_⟩
  have hk := h.kin x (hs.subset hx)
  have hd := h1 x hx
  refine ⟨fun q => ?_, fun q => ?_⟩
  · obtain ⟨y, a, b, c⟩ := hk.1 q
    exact ⟨y, mem y a (fun e => hd.1 (c ▸ e)), b, c⟩
  · rcases hk.2 q with e | ⟨y, a, b, c⟩
    · exact .inl e
    · exact .inr ⟨y, mem y a (fun e => hd.2 (b ▸ e)), b, c⟩
theorem insAll_perm : ∀ (xs l : List Rec), (insAll xs l).Perm (xs ++ l)
  | [], l => List.Perm.refl _
  | x :: xs, l => by
    rw [insAll_cons]
    refine (insAll_perm xs (insR x l)).trans ?_
    exact (List.Perm.append_left xs (insR_perm x l)).trans List.perm_middle
theorem Srt.insAll : ∀ {xs l : List Rec}, Srt l → (∀ x ∈ xs, ∀ y ∈ l, y.name ≠ x.name) → (xs.Pairwise fun x y => x.name ≠ y.name) → Srt (insAll xs l)
  | [], l, h, _, _ => h
  | x :: xs, l, h, h1, h2 => by
    rw [insAll_cons]
    have p := List.pairwise_cons.1 h2
    refine Srt.insAll (h.insR (h1 x (by simp))) (fun z hz y hy => ?_) p.2
    rcases mem_insR.1 hy with rfl | q
    · exact p.1 z hz
    · exact h1 z (List.mem_cons_of_mem _ hz) y q
/-- What the names are that a rename gives. -/
theorem ren_names {t : Tab} (h : MayT t) {n m : ByteArray} {i : Nat} {v : Rec} {A M C : List Rec} (hv : t.recs[i]? = some v) (hn : v.name = n) (H : Held t i v A M C)
    (hb : (partS n = true ∧ partS m = true) ∨ (snapS n = true ∧ snapS m = true ∧ spl1 n = spl1 m)) :
    (renR n m v).name = m ∧ (∀ s ∈ M, partS n = true ∧ partS m = true ∧ snapS s.name = true ∧ spl1 s.name = n ∧ joins m (spl2 s.name) = true ∧ (renR n m s).name = joinS m (spl2 s.name)) := by
  refine ⟨by unfold renR; rw [hn, renN_self]; rfl, fun s hs => ?_⟩
  obtain ⟨k, hk⟩ : ∃ k, t.recs[k]? = some s := List.getElem?_of_mem (by rw [H.eq]; simp [hs])
  obtain ⟨a, b⟩ := (h.of_iff hv hk).1 (H.mine s hs)
  rcases hb with ⟨h2, h3⟩ | ⟨h2, h3, _⟩
  · obtain ⟨c, d⟩ := renN_snap a (b.trans hn) h3
    exact ⟨h2, h3, a, b.trans hn, c, d⟩
  · exfalso
    have := (snap_back a).2.2.1
    rw [b, hn, snap_part h2] at this
    cases this
theorem joinS_inj {m p q : ByteArray} (h1 : joins m p = true) (h2 : joins m q = true) (e : joinS m p = joinS m q) : p = q := by
  have a := (join_back h1).2.2
  rw [e, (join_back h2).2.2] at a
  exact a.symm
/-- The names that a rename gives are not among the others', nor twice. -/
theorem ren_fresh {t : Tab} (h : MayT t) {n m : ByteArray} {i : Nat} {v : Rec} {A M C : List Rec} (hv : t.recs[i]? = some v) (hn : v.name = n) (H : Held t i v A M C) (hm : fnd m t.recs = none)
    (hb : (partS n = true ∧ partS m = true) ∨ (snapS n = true ∧ snapS m = true ∧ spl1 n = spl1 m)) :
    Srt (A ++ C) ∧ (∀ x ∈ (v :: M).map (renR n m), ∀ y ∈ A ++ C, y.name ≠ x.name) ∧ ((v :: M).map (renR n m)).Pairwise fun x y => x.name ≠ y.name := by
  obtain ⟨nv, nm⟩ := ren_names h hv hn H hb
  have nf := fnd_none hm
  have mA : ∀ s ∈ A ++ C, s ∈ t.recs := fun s hs => by
    rw [H.eq]
    rcases List.mem_append.1 hs with q | q <;> simp [q]
  have sAC : Srt (A ++ C) := by
    have := h.srt
    unfold Srt at this ⊢
    rw [H.eq] at this
    exact this.sublist (List.Sublist.append_left (List.Sublist.cons _ (List.sublist_append_right _ _)) _)
  have sM : Srt (v :: M) := by
    have := h.srt
    unfold Srt at this ⊢
    rw [H.eq] at this
    exact this.sublist (((List.sublist_append_left M C).cons_cons v).trans (List.sublist_append_right A _))
  refine ⟨sAC, fun x hx y hy e => ?_, ?_⟩
  · obtain ⟨z, hz, rfl⟩ := List.mem_map.1 hx
    have hyt := mA y hy
    rcases List.mem_cons.1 hz with rfl | q
    · exact nf y hyt (e.trans nv)
    · obtain ⟨_, h3, h4, h5, h6, h7⟩ := nm z q
      obtain ⟨j1, j2, _⟩ := join_back h6
      rw [← h7, ← e] at j1 j2
      obtain ⟨k, hk⟩ := List.getElem?_of_mem hyt
      rcases mayR_kind (h.at hk).one with ⟨_, hp, _⟩ | ⟨hk2, _, _⟩
      · rw [snap_part j1] at hp; cases hp
      · obtain ⟨_, u, _, h6, h7, _⟩ := h.vol hk hk2
        exact nf u (List.mem_of_getElem? h6) (by rw [h7, j2])
  · rw [List.pairwise_map]
    have p := List.pairwise_cons.1 sM
    refine List.pairwise_cons.2 ⟨fun z hz e => ?_, ?_⟩
    · obtain ⟨_, h3, _, _, h6, h7⟩ := nm z hz
      rw [nv, h7] at e
      have := (join_back h6).1
      rw [← e] at this
      rw [snap_part this] at h3
      cases h3
    · refine p.2.imp_of_mem fun {a b} ha hb' hl e => ?_
      obtain ⟨_, _, a4, a5, a6, a7⟩ := nm a ha
      obtain ⟨_, _, b4, b5, b6, b7⟩ := nm b hb'
      rw [a7, b7] at e
      have e2 := joinS_inj a6 b6 e
      have ea := (snap_join a4 a5).2
      have eb := (snap_join b4 b5).2
      have : a.name = b.name := by rw [← ea, ← eb, e2]
      rw [this, less_irrefl] at hl
      cases hl
/-- Behind each step of a rename the names rise. -/
theorem ren_srt {n m : ByteArray} {X Y : List Rec} (h1 : Srt Y) (h2 : ∀ x ∈ X.map (renR n m), ∀ y ∈ Y, y.name ≠ x.name) (h3 : (X.map (renR n m)).Pairwise fun x y => x.name ≠ y.name) (k : Nat) : Srt (insAll ((X.take k).map (renR n m)) Y) := by
  have hs : ((X.take k).map (renR n m)).Sublist (X.map (renR n m)) := (List.take_sublist k X).map _
  exact Srt.insAll h1 (fun x hx => h2 x (hs.subset hx)) (h3.sublist hs)
theorem ren_step {n m : ByteArray} {X Y : List Rec} {k : Nat} (hk : k < X.length) : insAll ((X.take (k + 1)).map (renR n m)) Y = insR (renR n m X[k]) (insAll ((X.take k).map (renR n m)) Y) := by
  rw [List.take_succ_eq_append_getElem hk, List.map_append, insAll_append]
  rfl
theorem insAll_length (xs l : List Rec) : (insAll xs l).length = xs.length + l.length := by rw [(insAll_perm xs l).length_eq, List.length_append]
theorem renN_cat (n m s : ByteArray) : m ++ s.extract n.size s.size = renN n m s := by
  rw [ext_back, Lib.size_eq n]
  apply ba_ext
  unfold renN
  rw [sB_list]
  simp [sB]
theorem renN_size (n m s : ByteArray) (hs : s.size ≤ 500) (hm : m.size ≤ 500) : (renN n m s).size ≤ 1000 := by
  unfold renN
  rw [Lib.size_eq] at *
  rw [sB_list, List.length_append, List.length_drop]
  omega
theorem renR_fit {n m : ByteArray} {x : Rec} (h : FitR x) (hs : x.name.size ≤ 500) (hm : m.size ≤ 500) : FitR (renR n m x) := ⟨h.ads, renN_size n m x.name hs hm⟩
theorem mayR_size {x : Rec} (h : mayR x = true) : x.name.size ≤ 100 := by
  have pl : ∀ s : ByteArray, partS s = true → s.size ≤ 20 := fun s hp => by
    rw [Lib.size_eq]
    exact part_length hp
  rcases mayR_kind h with ⟨_, hp, _⟩ | ⟨_, hp, _⟩
  · have := pl _ hp; omega
  · obtain ⟨h1, h2, h3, h4⟩ := snap_back hp
    have e := congrArg List.length (joinS_list h1)
    rw [h2] at e
    have a := pl _ h3
    have b := pl _ h4
    rw [Lib.size_eq] at a b ⊢
    simp only [List.length_append, List.length_cons] at e
    omega
end Go.Proofs.YtljhanhipmnioaaGreat.Rd

namespace Go.Proofs.YtljhanhipmnioaaGreat.Rd
open Go.RowKit
set_option linter.unusedVariables false
set_option linter.unusedSimpArgs false
set_option maxRecDepth 100000

open Pt (Pt may enc zeroPt be4 be1 pc pv PtV SlA OwnA BT wpList_load_g heap_alloc_at Ext Grew yieldsIf_ld)
open Kr (OwnE SlE Enco RowTys)

/-- What a rename has done to a table when it comes to a taken record. -/
structure RnI (w0 W : World) (gt : Nat) (vl : Value) (t : Tab) (spl : List Value) (n m : ByteArray) (X Y : List Rec) (T : List RowT) (ts : Value) (sp : List Value) (k : Nat) (vr : Value) (rs : List RowT) (B L : List Nat) (wr : World) : Prop where
  tb : TB wr gt vr vl { t with recs := insAll ((X.take k).map (renR n m)) Y }
  tl : Tl w0 wr vr (insAll ((X.take k).map (renR n m)) Y) rs B
  liv : OwnE eI 1 3 wr vl t.lives spl
  livB : ∀ q ∈ blk vl, w0.heap.size ≤ q ∧ q ∉ B
  own : OwnE eR 44 56 wr ts T sp
  ownB : ∀ q ∈ blk ts, w0.heap.size ≤ q ∧ q ∉ B
  row : ∀ (j : Nat) r x, k ≤ j → T[j]? = some r → X[j]? = some x → RowO wr r x
  rowB : ∀ (j : Nat) r, k ≤ j → T[j]? = some r → ∀ q ∈ rb r, w0.heap.size ≤ q ∧ q ∉ B
  frm : Frm L W wr
  lo : ∀ j ∈ L, j = gt ∨ w0.heap.size ≤ j
def RnRel (w0 W : World) (gt : Nat) (vl : Value) (t : Tab) (spl : List Value) (n m : ByteArray) (X Y : List Rec) (T : List RowT) (ts : Value) (sp : List Value) (_ c10 : Value) (wr : World) : Prop :=
  ∃ (k : Nat) (vr : Value) (rs : List RowT) (B L : List Nat), k ≤ X.length ∧ c10 = .int .i64 k ∧ RnI w0 W gt vl t spl n m X Y T ts sp k vr rs B L wr
/-- What stays as it is while a rename goes on. -/
structure RnS (T : List RowT) (vl ts : Value) : Prop where
  sep : ∀ (i j : Nat) r s, i ≠ j → T[i]? = some r → T[j]? = some s → ∀ q ∈ rb r, q ∉ rb s
  apart : ∀ (i : Nat) r, T[i]? = some r → ∀ q ∈ rb r, q ∉ blk vl ∧ q ∉ blk ts
set_option maxHeartbeats 1000000 in
theorem RnI.next {w0 W wr w1 w2 : World} {gt : Nat} {vl : Value} {t : Tab} {spl : List Value} {n m : ByteArray} {X Y : List Rec} {T : List RowT} {ts : Value} {sp : List Value} {k : Nat} {vr : Value} {rs : List RowT} {B L : List Nat} {r : RowT} {x : Rec}
    (h : RnI w0 W gt vl t spl n m X Y T ts sp k vr rs B L wr) (hs : RnS T vl ts) (hg : gt < w0.heap.size) (hW : w0.heap.size ≤ W.heap.size) (hk : k < X.length) (hT : T.length = X.length) (hr : T[k]? = some r) (hx : X[k]? = some x) (f1 : Frm [] wr w1)
    (hI : InsT w0 gt vr vl { t with recs := insR (renR n m x) (insAll ((X.take k).map (renR n m)) Y) } B (rb r) w1 w2) : ∃ vr' rs' B' L', RnI w0 W gt vl t spl n m X Y T ts sp (k + 1) vr' rs' B' L' w2 := by
  obtain ⟨vr', rs', B', hT', hTl', hB', L', f2, hL'⟩ := hI
  have hxk : X[k] = x := (List.getElem?_eq_some_iff.1 hx).2
  have es := ren_step (n := n) (m := m) (Y := Y) hk
  rw [hxk] at es
  have notL : ∀ q, w0.heap.size ≤ q → q ∉ B → q ∉ L' := fun q a b hm => by
    rcases hL' q hm with e | e
    · omega
    · exact b (h.tl.inv q e)
  have notB : ∀ q, q < wr.heap.size → q ∉ B → q ∉ rb r → q ∉ B' := fun q a b c hm => by
    have := f1.size
    rcases hB' q hm with e | e | e
    · exact b e
    · exact c e
    · omega
  have f12 : Frm L' wr w2 := (f1.mono (by simp)).trans f2 (fun i hi => .inl hi)
  refine ⟨vr', rs', B', L ++ L', ?_, ?_, h.liv.keep f12 (fun q hq => notL q (h.livB q hq).1 (h.livB q hq).2), fun q hq => ⟨(h.livB q hq).1, ?_⟩, h.own.keep f12 (fun q hq => notL q (h.ownB q hq).1 (h.ownB q hq).2), fun q hq => ⟨(h.ownB q hq).1, ?_⟩, fun j s u hj h1 h2 => ?_, fun j s hj h1 q hq => ⟨(h.rowB j s (by omega) h1 q hq).1, ?_⟩, ?_, fun j hj => ?_⟩
  · rw [es]; exact hT'
  · rw [es]; exact hTl'
  · exact notB q (h.liv.lt q hq) (h.livB q hq).2 (fun hm => (hs.apart k r hr q hm).1 hq)
  · exact notB q (h.own.lt q hq) (h.ownB q hq).2 (fun hm => (hs.apart k r hr q hm).2 hq)
  · exact (h.row j s u (by omega) h1 h2).keep f12 (fun q hq => notL q (h.rowB j s (by omega) h1 q hq).1 (h.rowB j s (by omega) h1 q hq).2)
  · have hjx : j < X.length := by have := (List.getElem?_eq_some_iff.1 h1).1; omega
    exact notB q ((h.row j s X[j] (by omega) h1 (List.getElem?_eq_getElem hjx)).lt q hq) (h.rowB j s (by omega) h1 q hq).2 (fun hm => hs.sep j k s r (by omega) h1 hr q hq hm)
  · exact (h.frm.mono (fun i hi => .inl (List.mem_append_left _ hi))).trans (f12.mono (fun i hi => .inl (List.mem_append_right _ hi))) (fun i hi => .inl hi)
  · rcases List.mem_append.1 hj with e | e
    · exact h.lo j e
    · rcases hL' j e with q | q
      · exact .inl q
      · exact .inr (h.tl.lo j (h.tl.inv j q)).1
theorem take_get {α : Type} {l : List α} {i n j : Nat} {x : α} (h : ((l.drop i).take n)[j]? = some x) : j < n ∧ l[i + j]? = some x := by
  have hj : j < n := by
    have := (List.getElem?_eq_some_iff.1 h).1
    simp at this
    omega
  rw [List.getElem?_take_of_lt hj, List.getElem?_drop] at h
  exact ⟨hj, h⟩
theorem RnI.start {w0 W w1 : World} {gt i : Nat} {vr vl : Value} {t : Tab} {spl : List Value} {n m : ByteArray} {v : Rec} {A M C : List Rec} {rs : List RowT} {B : List Nat} {e : Ending} (h : TkP w0 gt vr vl t rs i (1 + M.length) W e w1) (hTl : Tl w0 W vr t.recs rs B) (hL : OwnE eI 1 3 W vl t.lives spl) (hLB : ∀ k ∈ blk vl, w0.heap.size ≤ k ∧ k ∉ B)
    (hg : gt < w0.heap.size) (h0 : w0.heap.size ≤ W.heap.size) (H : Held t i v A M C) :
    ∃ a cap sp vr' B' L, e = .returned (.slice a (1 + M.length) cap) ∧ RnI w0 W gt vl t spl n m (v :: M) (A ++ C) ((rs.drop i).take (1 + M.length)) (.slice a (1 + M.length) cap) sp 0 vr' (rs.take i ++ rs.drop (i + (1 + M.length))) B' L w1 ∧ RnS ((rs.drop i).take (1 + M.length)) vl (.slice a (1 + M.length) cap) ∧ ((rs.drop i).take (1 + M.length)).length = (v :: M).length := by
  obtain ⟨a, cap, sp, vr', rfl, hO, hN, hT, hTl', hbv, L, f, hLs⟩ := h
  obtain ⟨r1, r2, r3⟩ := H.rest
  have hrl := hTl.len
  have hlen : t.recs.length = A.length + (1 + (M.length + C.length)) := by rw [H.eq]; simp; omega
  have hal := H.len
  rw [r1, r3] at hT hTl'
  have inB : ∀ q, q ∈ blk vr' ++ (rs.take i ++ rs.drop (i + (1 + M.length))).flatMap rb → q ∈ B := fun q hm => by
    rcases List.mem_append.1 hm with q1 | q1
    · rw [hbv] at q1; exact hTl.inv q q1
    · obtain ⟨s, hs, q1⟩ := List.mem_flatMap.1 q1
      have hsr : s ∈ rs := by
        rcases List.mem_append.1 hs with r | r
        · exact List.mem_of_mem_take r
        · exact List.mem_of_mem_drop r
      obtain ⟨j, hj⟩ := List.getElem?_of_mem hsr
      exact hTl.inr j s hj q q1
  have rowT : ∀ (j : Nat) r, ((rs.drop i).take (1 + M.length))[j]? = some r → j < 1 + M.length ∧ rs[i + j]? = some r := fun j r hj => take_get hj
  refine ⟨a, cap, sp, vr', _, L, rfl, ⟨hT, hTl', hL.keep f (fun k hk hm => ?_), fun q hq => ⟨(hLB q hq).1, fun hm => (hLB q hq).2 (inB q hm)⟩, hO, fun q hq => ⟨Nat.le_trans h0 (hN q hq), fun hm => ?_⟩, fun j r x _ h1 h2 => ?_, fun j r _ h1 q hq => ⟨?_, fun hm => ?_⟩, f, fun j hj => ?_⟩, ⟨fun j k r s hjk h1 h2 => ?_, fun j r h1 q hq => ⟨fun hm => ?_, fun hm => ?_⟩⟩, ?_⟩
  · rcases hLs k hm with q | q
    · have := (hLB k hk).1; omega
    · exact (hLB k hk).2 (hTl.inv k q)
  · have := (hTl.lo q (inB q hm)).2
    have := hN q hq
    omega
  · obtain ⟨hj, h3⟩ := rowT j r h1
    have h4 : t.recs[i + j]? = some x := by
      rw [← r2] at h2
      exact (take_get h2).2
    refine (hTl.row (i + j) r x h3 h4).keep f (fun q hq hm => ?_)
    rcases hLs q hm with e | e
    · have := (hTl.lo q (hTl.inr _ r h3 q hq)).1; omega
    · exact hTl.vsep _ r h3 q hq e
  · obtain ⟨hj, h3⟩ := rowT j r h1
    exact (hTl.lo q (hTl.inr _ r h3 q hq)).1
  · obtain ⟨hj, h3⟩ := rowT j r h1
    rcases List.mem_append.1 hm with q1 | q1
    · rw [hbv] at q1; exact hTl.vsep _ r h3 q hq q1
    · obtain ⟨s, hs, q1⟩ := List.mem_flatMap.1 q1
      obtain ⟨k, hk⟩ := List.getElem?_of_mem hs
      rcases del_get (by omega) hk with ⟨a1, b1⟩ | ⟨a1, b1⟩
      · exact hTl.sep (i + j) k r s (by omega) h3 b1 q hq q1
      · exact hTl.sep (i + j) (k + (1 + M.length)) r s (by omega) h3 b1 q hq q1
  · rcases hLs j hj with e | e
    · exact .inl e
    · exact .inr (hTl.lo j (hTl.inv j e)).1
  · obtain ⟨_, h3⟩ := rowT j r h1
    obtain ⟨_, h4⟩ := rowT k s h2
    exact hTl.sep (i + j) (i + k) r s (by omega) h3 h4
  · obtain ⟨_, h3⟩ := rowT j r h1
    exact (hLB q hm).2 (hTl.inr _ r h3 q hq)
  · obtain ⟨_, h3⟩ := rowT j r h1
    have := (hTl.lo q (hTl.inr _ r h3 q hq)).2
    have := hN q hm
    omega
  · simp only [List.length_take, List.length_drop, List.length_cons]
    omega
set_option maxHeartbeats 4000000 in
theorem rename1_ch (w : World) (gn gm : Nat) (n m : ByteArray) (t : Tab) (i : Nat) (v : Rec) (A M C : List Rec) (hn : w.cell? ⟨gn, 0, none⟩ = some (.string n)) (hm : w.cell? ⟨gm, 0, none⟩ = some (.string m)) (hM : MayT t) (hi : fnd n t.recs = some i) (hx : t.recs[i]? = some v) (hvn : v.name = n) (H : Held t i v A M C) (hnf : fnd m t.recs = none)
    (hb : (partS n = true ∧ partS m = true) ∨ (snapS n = true ∧ snapS m = true ∧ spl1 n = spl1 m)) (hms : m.size ≤ 500) :
    ChT w 168 #[.pointer (some ⟨gn, 0, none⟩), .pointer (some ⟨gm, 0, none⟩)] t { t with recs := insAll ((v :: M).map (renR n m)) (A ++ C) } := by
  refine ⟨fun u z => enter_of Tryz.func168 (by kernel_rfl) (by kernel_rfl) _ z, fun w0 W gt vr vl f hg hg0 hT hO => ?_⟩
  obtain ⟨rs, B, spl, hTl, hL, hLB⟩ := hO
  have hcnt := H.cnt
  obtain ⟨r1, r2, r3⟩ := H.rest
  have hlen : t.recs.length = A.length + (1 + (M.length + C.length)) := by rw [H.eq]; simp; omega
  have hal := H.len
  have hrl := hTl.len
  have h0 : w0.heap.size ≤ W.heap.size := by
    obtain ⟨la, lc, e, _, _⟩ := hL.sl.form
    subst e
    obtain ⟨b, off, e⟩ := hL.sl.at (by have := hM.l0; omega)
    subst e
    have a1 := hLB b (by simp [blk])
    have a2 := hL.lt b (by simp [blk])
    omega
  obtain ⟨sAC, fr1, fr2⟩ := ren_fresh hM hx hvn H hnf hb
  have SRT := Lib.hid (fun k => ren_srt (n := n) (m := m) (X := v :: M) sAC fr1 fr2 k)
  have TK := Lib.hid (takeD_any w0 W gt vr vl t rs B n i v (1 + M.length) hT hTl hg0 (by have := hM.many; omega) hi hx (by omega) (by omega))
  have NM := Lib.hid (fun x (hx : x ∈ v :: M) => show x.name.size ≤ 100 ∧ n.size ≤ x.name.size ∧ FitR x from by
    have hmem : x ∈ t.recs := by
      rw [H.eq]
      rcases List.mem_cons.1 hx with q | q <;> simp [q]
    have ho := hM.one hmem
    refine ⟨mayR_size ho, ?_, mayR_fit ho⟩
    rcases List.mem_cons.1 hx with q | q
    · rw [q, hvn]; exact Nat.le_refl _
    · obtain ⟨_, nm⟩ := ren_names hM ‹t.recs[i]? = some v› hvn H hb
      obtain ⟨_, _, a, b, _, _⟩ := nm x q
      obtain ⟨c, d⟩ := snap_join a b
      have e := congrArg List.length (joinS_list c)
      rw [d] at e
      rw [Lib.size_eq, Lib.size_eq]
      simp only [List.length_append, List.length_cons] at e
      omega)
  have FITS := Lib.hid (fun k => show ∀ y ∈ insAll (((v :: M).take k).map (renR n m)) (A ++ C), FitR y from fun y hy => by
    rcases List.mem_append.1 ((insAll_perm _ _).mem_iff.1 hy) with q | q
    · obtain ⟨z, hz, rfl⟩ := List.mem_map.1 q
      have := NM.out z (List.mem_of_mem_take hz)
      exact renR_fit this.2.2 (by omega) hms
    · exact mayR_fit (hM.one (by rw [H.eq]; rcases List.mem_append.1 q with q | q <;> simp [q])))
  have LENS := Lib.hid (fun k => show (insAll (((v :: M).take k).map (renR n m)) (A ++ C)).length ≤ 500 from by
    rw [insAll_length]
    have := hM.many
    simp only [List.length_map, List.length_take, List.length_append, List.length_cons]
    omega)
  have C1 := Lib.hid (f.cell hn (by simp))
  have C2 := Lib.hid (f.cell hm (by simp))
  have NG := Lib.hid (show gn ≠ gt ∧ gm ≠ gt ∧ gn < w0.heap.size ∧ gm < w0.heap.size from by
    have a := World.block_lt_of_cell? w _ hn
    have b := World.block_lt_of_cell? w _ hm
    simp only at a b
    omega)
  have ST := Lib.hid (fun e w1 (h : TkP w0 gt vr vl t rs i (1 + M.length) W e w1) => RnI.start (n := n) (m := m) h hTl hL hLB hg0 h0 H)
  have h0' := Lib.hid h0
  have HG0 := Lib.hid hg0
  have HMS := Lib.hid hms
  have hml : M.length ≤ 16 := by have := hM.many; omega
  have hXL : (v :: M).length = 1 + M.length := by simp; omega
  generalize (rs.drop i).take (1 + M.length) = T at *
  generalize hX : (v :: M) = X at *
  generalize A ++ C = Y at *
  generalize hm1 : 1 + M.length = m1 at *
  have HXL := Lib.hid hXL
  have hm16 : m1 ≤ 17 := by omega
  clear hn hm hM hi hx hvn H hnf hb hms f hg hg0 hT hTl hL hLB hcnt r1 r2 r3 hlen hal hrl h0 sAC fr1 fr2 hX hm1 hXL
  show Calls Tryz.prog 168 #[.pointer (some ⟨gt, 0, none⟩), .pointer (some ⟨gn, 0, none⟩), .pointer (some ⟨gm, 0, none⟩)] W _
  have c1 := C1.out
  go_enter Tryz.func168, Tryz.ntmps168
  go_upto_region 1 with (go_at_call 169; refine TK.out.mono ?_; intro e w1 hp; obtain ⟨ta, tcap, tsp, vr1, B1, L1, rfl, hI, hS, hTL⟩ := ST.out e w1 hp; clear hp)
  have HS := Lib.hid hS
  have HTL := Lib.hid hTL
  have HIS := Lib.hid hI
  clear hS hTL hI c1
  go_loopw [5, 10] (RnRel w0 W gt vl t spl n m X Y T (.slice ta m1 tcap) tsp) (fun _ c _ => m1 - (intOf c).toNat)
  case atStart => exact ⟨0, _, _, _, _, Nat.zero_le _, rfl, HIS.out⟩
  case round =>
    obtain ⟨k, vr2, rs2, B2, L2, hk, rfl, hI⟩ := hrel
    have hkm : k ≤ m1 := by rw [← HXL.out]; exact hk
    by_cases hlt : k < m1
    · have hlt9 : (k : Int) < (m1 : Int) := by omega
      have hkX : k < X.length := by rw [HXL.out]; exact hlt
      have hkT : k < T.length := by rw [HTL.out]; exact hkX
      obtain ⟨b, off, e⟩ := hI.own.sl.at (by omega)
      subst e
      have hoff : off = 0 := by
        obtain ⟨_, ⟨h2, _⟩ | ⟨g', c', h2, _⟩⟩ := hI.own
        · cases h2
        · injection h2 with e1; injection e1 with e1; injection e1
      subst hoff
      obtain ⟨r, hrT⟩ : ∃ r, T[k]? = some r := ⟨_, List.getElem?_eq_getElem hkT⟩
      obtain ⟨x, hxX⟩ : ∃ x, X[k]? = some x := ⟨_, List.getElem?_eq_getElem hkX⟩
      have hTk := (List.getElem?_eq_some_iff.1 hrT).2
      have hNM := NM.out x (List.mem_of_getElem? hxX)
      obtain ⟨xa, xc, xsp, hxe, hxo, hxw⟩ := hI.row k r x (Nat.le_refl _) hrT hxX
      have hG : GetsR wr b (0 + k * 44) (.slice xa x.root.ads.length xc) x := gets_of hxw (fun j u hu => by rw [Nat.add_assoc]; exact SlE.cell encRow hI.own.sl k hkT j (by rw [hTk, show eR r = r.1 from rfl, hxe]; exact hu))
      rw [Nat.zero_add] at hG
      have GA := Lib.hid hG.all
      have HRB := Lib.hid (rb_rc hxe)
      have HXO := Lib.hid hxo
      have HXW := Lib.hid hxw
      have HNM := Lib.hid hNM
      have HI := Lib.hid hI
      have HKX := Lib.hid (And.intro hkX (And.intro hrT hxX))
      have LT := Lib.hid (show ∀ q, q < w0.heap.size → q ≠ gt → q ∉ L2 from fun q a c hm => by rcases hI.lo q hm with e | e; exact c e; omega)
      have hsz := hI.frm.size
      have cN := HI.out.frm.cell C1.out (LT.out gn NG.out.2.2.1 NG.out.1)
      have cM := HI.out.frm.cell C2.out (LT.out gm NG.out.2.2.2 NG.out.2.1)
      have CNM := Lib.hid (And.intro cN cM)
      have hn9 : (n.size : Int) ≤ (x.name.size : Int) := by have := hNM.2.1; omega
      have hn8 : n.size ≤ x.name.size := hNM.2.1
      have hns : x.name.size ≤ 100 := hNM.1
      clear hTk hI hG hxe hxo hxw hNM cN cM hrT hxX
      have hrs : (renR n m x).root = x.root := rfl
      have h500 := HMS.out
      have hadd : ¬ 9223372036854775807 < m.size + (x.name.size - n.size) := by omega
      go_upto_region 3 with (first
        | ((with_reducible (show wpList _ _ _ (Oper.mk _ (Op.load 56 _) _ _ _ _ :: _) _ _)); refine wpList_load_g (by rfl) 56 _ rfl _ rfl GA.out ?_)
        | ((with_reducible (show wpList _ _ _ (Oper.mk _ (Op.alloc 56) _ _ _ _ :: _) _ _)); refine wpList_lay56 rfl rfl rfl (.tmp 5) (.tmp 13) rfl (v := .slice xa x.root.ads.length xc) rfl HXW.out rfl rfl ?_))
      have FU := Lib.hid (show Frm [] wr (wr.alloc (.cells (rc (.slice xa x.root.ads.length xc) x).toArray 56)) from (Frm.refl [] wr).alloc _)
      have BU := Lib.hid (RB.new (w := wr) (v := .slice xa x.root.ads.length xc) HXW.out)
      generalize wr.alloc (.cells (rc (.slice xa x.root.ads.length xc) x).toArray 56) = U at *
      refine wp_region_late 9 (S := fun z => RB z wr.heap.size (.slice xa x.root.ads.length xc) x ∧ z.cell? ⟨gn, 0, none⟩ = some (.string n) ∧ z.cell? ⟨gm, 0, none⟩ = some (.string m)) (by kernel_rfl) (⟨BU.out.keep0 ((Frm.refl [] U).drew), (FU.out.drew).cell CNM.out.1 (by simp), (FU.out.drew).cell CNM.out.2 (by simp)⟩) (fun hHeld => ?_)
      refine wpAnyL_take (i := 0) (oi := ⟨some 14, .load 9 (.tmp 2), _, _, _, none⟩) (v := ?_) rfl (by kernel_rfl) (by kernel_rfl) (by kernel_rfl) (fun _ _ _ h => h) (Or.inl ⟨by rfl, ?_⟩) hHeld ?_
      rotate_left
      focus (intro z hSw; have q1 := hSw.1.gets.name; have q2 := hSw.2.1; have q3 := hSw.2.2; clear hSw; go_simp; try with_reducible rfl)
      try simp only [Act.put, List.setIfInBounds_toArray, List.set_cons_zero, List.set_cons_succ]
      refine wpAnyL_takeP (i := 2) (oi := ⟨some 16, .fieldAddr 56 (.tmp 5) 1, _, _, _, none⟩) (v := ?_) rfl (by kernel_rfl) (by kernel_rfl) (by kernel_rfl) (fun _ _ _ h => h) (Or.inl ⟨by rfl, ?_⟩) hHeld ?_
      rotate_left
      focus (intro z hSw; clear hSw; go_simp; try with_reducible rfl)
      try simp only [Act.put, List.setIfInBounds_toArray, List.set_cons_zero, List.set_cons_succ]
      refine wpAnyL_take (i := 3) (oi := ⟨some 17, .load 9 (.tmp 16), _, _, _, none⟩) (v := ?_) rfl (by kernel_rfl) (by kernel_rfl) (by kernel_rfl) (fun _ _ _ h => h) (Or.inl ⟨by rfl, ?_⟩) hHeld ?_
      rotate_left
      focus (intro z hSw; have q1 := hSw.1.gets.name; have q2 := hSw.2.1; have q3 := hSw.2.2; clear hSw; go_simp; try with_reducible rfl)
      try simp only [Act.put, List.setIfInBounds_toArray, List.set_cons_zero, List.set_cons_succ]
      refine wpAnyL_take (i := 4) (oi := ⟨some 18, .load 9 (.tmp 1), _, _, _, none⟩) (v := ?_) rfl (by kernel_rfl) (by kernel_rfl) (by kernel_rfl) (fun _ _ _ h => h) (Or.inl ⟨by rfl, ?_⟩) hHeld ?_
      rotate_left
      focus (intro z hSw; have q1 := hSw.1.gets.name; have q2 := hSw.2.1; have q3 := hSw.2.2; clear hSw; go_simp; try with_reducible rfl)
      try simp only [Act.put, List.setIfInBounds_toArray, List.set_cons_zero, List.set_cons_succ]
      refine wpAnyL_takeP (i := 5) (oi := ⟨some 19, .call { callee := .builtin .len, args := #[.tmp 18], argTypes := #[9] }, _, _, _, none⟩) (v := ?_) rfl (by kernel_rfl) (by kernel_rfl) (by kernel_rfl) (fun _ _ _ h => h) (Or.inl ⟨by rfl, ?_⟩) hHeld ?_
      rotate_left
      focus (intro z hSw; clear hSw; go_simp; try with_reducible rfl)
      try simp only [Act.put, List.setIfInBounds_toArray, List.set_cons_zero, List.set_cons_succ]
      refine wpAnyL_takeP (i := 6) (oi := ⟨some 20, .slice 9 (.tmp 17) (some (.tmp 19)) none none, _, _, _, none⟩) (v := ?_) rfl (by kernel_rfl) (by kernel_rfl) (by kernel_rfl) (fun _ _ _ h => h) (Or.inl ⟨by rfl, ?_⟩) hHeld ?_
      rotate_left
      focus (intro z hSw; clear hSw; go_simp; try with_reducible rfl)
      try simp only [Act.put, List.setIfInBounds_toArray, List.set_cons_zero, List.set_cons_succ]
      refine wpAnyL_one (i := 1) (o := ⟨some 15, .call { callee := .value (.func 170), args := #[.tmp 14], argTypes := #[9] }, _, _, _, none⟩) (by kernel_rfl) rfl (fun K hK => ?_)
      go_simp
      refine (Pt.Clone_any m (by omega) _).mono ?_
      rintro r5 w5 ⟨rfl, f5⟩
      refine hK.out _ _ ?_ (fun hNext => ?_)
      · exact ⟨hHeld.1.keep0 f5, f5.cell hHeld.2.1 (by simp), f5.cell hHeld.2.2 (by simp)⟩
      clear hK K hHeld
      have hHeld := hNext
      clear hNext
      try simp only [Act.put, List.setIfInBounds_toArray, List.set_cons_zero, List.set_cons_succ]
      refine wpAnyL_takeP (i := 7) (oi := ⟨some 21, .binOp .add 9 (.tmp 15) (.tmp 20) 9, _, _, _, none⟩) (v := ?_) rfl (by kernel_rfl) (by kernel_rfl) (by kernel_rfl) (fun _ _ _ h => h) (Or.inl ⟨by rfl, ?_⟩) hHeld ?_
      rotate_left
      focus (intro z hSw; clear hSw; go_simp; try with_reducible rfl)
      try simp only [Act.put, List.setIfInBounds_toArray, List.set_cons_zero, List.set_cons_succ]
      refine wpAnyL_takeP (i := 8) (oi := ⟨some 22, .fieldAddr 56 (.tmp 5) 1, _, _, _, none⟩) (v := ?_) rfl (by kernel_rfl) (by kernel_rfl) (by kernel_rfl) (fun _ _ _ h => h) (Or.inl ⟨by rfl, ?_⟩) hHeld ?_
      rotate_left
      focus (intro z hSw; clear hSw; go_simp; try with_reducible rfl)
      try simp only [Act.put, List.setIfInBounds_toArray, List.set_cons_zero, List.set_cons_succ]
      refine wpAnyL_last (o := ⟨none, .store 9 (.tmp 22) (.tmp 21), _, _, _, none⟩) (by kernel_rfl) rfl (by simp) (fun K hK => ?_)
      have z7 := hHeld.1.fz 1
      have e7 := hHeld.1.gets.name
      have b7 := hHeld.1.setName (renN n m x.name)
      have F5 := Lib.hid (show Frm [] wr (w5.setCell ⟨wr.heap.size, 1, none⟩ (.string (renN n m x.name))) from ((FU.out.drew).trans f5 (by simp)).setCell _ _ (.inr (Nat.le_refl _)))
      try rw [renN_cat]
      go_simp
      try rw [renN_cat]
      refine hK.out _ _ ?_
      clear hK K hHeld
      try simp only [Act.put, List.setIfInBounds_toArray, List.set_cons_zero, List.set_cons_succ]
      refine wpAny_done (by kernel_rfl) ?_ _
      have B5 := Lib.hid (show RB (w5.setCell ⟨wr.heap.size, 1, none⟩ (.string (renN n m x.name))) wr.heap.size (.slice xa x.root.ads.length xc) (renR n m x) from b7)
      clear b7 z7 e7 f5
      generalize w5.setCell ⟨wr.heap.size, 1, none⟩ (.string (renN n m x.name)) = V at *
      have VA := Lib.hid B5.out.gets.all
      have HIN := Lib.hid (show Calls Tryz.prog 171 #[.pointer (some ⟨gt, 0, none⟩), rv (.slice xa x.root.ads.length xc) (renR n m x)] V (fun e w' => e = .returned (.tuple #[]) ∧ InsT w0 gt vr2 vl { t with recs := insR (renR n m x) (insAll ((X.take k).map (renR n m)) Y) } B2 (rb r) V w') by
        rw [HRB.out]
        exact insert_any w0 V gt vr2 vl { t with recs := insAll ((X.take k).map (renR n m)) Y } rs2 B2 xa xc xsp (renR n m x) (HI.out.tb.keep0 F5.out) (HI.out.tl.keep F5.out (by simp)) HG0.out (HXO.out.keep F5.out (by simp)) HXW.out (renR_fit HNM.out.2.2 (by omega) HMS.out).name (FITS.out k) (LENS.out k) (SRT.out k) (fun q hq => HI.out.rowB k r (Nat.le_refl _) HKX.out.2.1 q (by rw [HRB.out]; exact hq)) (Nat.le_trans (Nat.le_trans h0'.out hsz) F5.out.size))
      go_wp2_with (first
        | ((with_reducible (show wpList _ _ _ (Oper.mk _ (Op.load 56 _) _ _ _ _ :: _) _ _)); refine wpList_load_g (by rfl) 56 _ rfl _ rfl VA.out ?_)
        | (go_at_call 171; refine HIN.out.mono ?_; rintro r6 w6 ⟨rfl, hIT⟩))
      go_roundw
      case rel =>
        obtain ⟨vr3, rs3, B3, L3, h3⟩ := HI.out.next HS.out HG0.out h0'.out HKX.out.1 HTL.out HKX.out.2.1 HKX.out.2.2 F5.out hIT
        exact ⟨k + 1, vr3, rs3, B3, L3, HKX.out.1, by go_num, h3⟩
      case measure => simp [intOf]; omega
    · have hlt9 : ¬ (k : Int) < (m1 : Int) := by omega
      have hkX : k = X.length := by rw [HXL.out]; omega
      have HI := Lib.hid hI
      clear hI
      go_wp2_with (fail)
      go_end0
      have q := HI.out
      have e1 : X.take k = X := by rw [hkX, List.take_length]
      have tb := q.tb
      have tl := q.tl
      rw [e1] at tb tl
      exact ⟨rfl, vr2, vl, tb, ⟨rs2, B2, spl, tl, q.liv, q.livB⟩, L2, q.frm, q.lo⟩
end Go.Proofs.YtljhanhipmnioaaGreat.Rd

namespace Go.Proofs.YtljhanhipmnioaaGreat.Rd
open Go.RowKit
set_option linter.unusedVariables false
set_option linter.unusedSimpArgs false
set_option maxRecDepth 100000

open Pt (Pt may enc zeroPt be4 be1 pc pv PtV SlA OwnA BT wpList_load_g heap_alloc_at Ext Grew yieldsIf_ld)
open Kr (OwnE SlE Enco RowTys)

def renameC (t : Tab) (n m : ByteArray) : Int := orL [mayC t (followB n m), unl (isF n t.recs) 6, unl (!isF m t.recs) 7]
/-- The records of a table behind a rename. -/
def renL (t : Tab) (n m : ByteArray) : List Rec := match fnd n t.recs with
  | some i => insAll (((t.recs.drop i).take (1 + cntOf (fndR n t.recs).id t.recs)).map (renR n m)) (t.recs.take i ++ t.recs.drop (i + (1 + cntOf (fndR n t.recs).id t.recs)))
  | none => t.recs
def renT (t : Tab) (n m : ByteArray) : Tab := { t with recs := renL t n m }
def renameT (t : Tab) (n m : ByteArray) : Tab × Int := if renameC t n m = 0 then (renT t n m, 0) else (zeroT, renameC t n m)
theorem followB_iff {n m : ByteArray} : followB n m = true ↔ (partS n = true ∧ partS m = true) ∨ (snapS n = true ∧ snapS m = true ∧ spl1 n = spl1 m) := by
  unfold followB
  simp only [Bool.or_eq_true, Bool.and_eq_true, str_eq]
theorem renameC_some {t : Tab} {n m : ByteArray} (h : renameC t n m = 0) : MayT t ∧ ((partS n = true ∧ partS m = true) ∨ (snapS n = true ∧ snapS m = true ∧ spl1 n = spl1 m)) ∧ fnd m t.recs = none ∧
    ∃ i v A M C, fnd n t.recs = some i ∧ t.recs[i]? = some v ∧ fndR n t.recs = v ∧ v.name = n ∧ Held t i v A M C ∧ renL t n m = insAll ((v :: M).map (renR n m)) (A ++ C) := by
  have h1 := mayC_may (orL_all0 h (mayC t (followB n m)) (by simp))
  have h2 := unl_zero (orL_all0 h (unl (isF n t.recs) 6) (by simp)) (by decide)
  have h3 := unl_zero (orL_all0 h (unl (!isF m t.recs) 7) (by simp)) (by decide)
  obtain ⟨i, v, a, b, c, d⟩ := isF_some h2
  obtain ⟨A, M, C, H⟩ := h1.1.held b
  obtain ⟨r1, r2, r3⟩ := H.rest
  refine ⟨h1.1, followB_iff.1 h1.2, ?_, i, v, A, M, C, a, b, c, d, H, ?_⟩
  · simpa [isF] using h3
  · unfold renL
    rw [a, c]
    simp only
    rw [H.cnt, r1, r2, r3]
set_option maxHeartbeats 8000000 in
theorem Rename_any (vr vl : Value) (t : Tab) (n m : ByteArray) (w : World) (h : TabV w vr vl t) (hf : FitT t) (hn : n.size ≤ 500) (hm : m.size ≤ 500) : Calls Tryz.prog 47 #[tv vr vl t, .string n, .string m] w (TellE (renameT t n m) w) := by
  have F0 := Lib.hid (show Frm [] w ((w.alloc (.cells (tc vr vl t).toArray 27)).alloc (.cells (tc nilS nilS zeroT).toArray 27)) from ((Frm.refl [] w).alloc _).alloc _)
  have BT := Lib.hid ((TB.new w vr vl t).keep0 ((Frm.refl [] _).alloc (.cells (tc nilS nilS zeroT).toArray 27)))
  have R6 := Lib.hid (show TB ((w.alloc (.cells (tc vr vl t).toArray 27)).alloc (.cells (tc nilS nilS zeroT).toArray 27)) (w.heap.size + 1) nilS nilS zeroT from heap_alloc_at (by simp))
  have HFI := Lib.hid (fun z (f : Frm [] w z) k => find_any vr vl t k z (h.keep0 f) hf.recs)
  have HT := Lib.hid h
  have HF := Lib.hid hf
  have HMS := Lib.hid hm
  have HFO := Lib.hid (fun z => mayFollow_any n m (by omega) (by omega) z)
  have HE := Lib.hid (show renameT t n m = if renameC t n m = 0 then (renT t n m, 0) else (zeroT, renameC t n m) from rfl)
  have HW := Lib.hid (fun (e : renameC t n m = 0) => renameC_some e)
  have HR := Lib.hid (show renameC t n m = orL [mayC t (followB n m), unl (isF n t.recs) 6, unl (!isF m t.recs) 7] from rfl)
  rw [tcA]
  generalize (tc vr vl t).toArray = A at *
  generalize renameT t n m = res at *
  generalize renameC t n m = ec at *
  clear h hf hn hm
  go_enter Tryz.func47, Tryz.ntmps47
  go_upto_region 1 with ((with_reducible (show wpList _ _ _ (Oper.mk _ (Op.alloc 27) _ _ _ _ :: _) _ _)); refine wpList_val rfl (exec_alloc27 rfl _) ?_)
  try simp only [World.size_alloc]
  generalize (w.alloc (.cells A 27)).alloc (.cells (tc nilS nilS zeroT).toArray 27) = W at *
  have LA := Lib.hid BT.out.gets.all
  go_upto_region 2 with (first
    | ((with_reducible (show wpList _ _ _ (Oper.mk _ (Op.load 27 _) _ _ _ _ :: _) _ _)); refine wpList_load_g (by rfl) 27 _ rfl _ rfl LA.out ?_)
    | (go_at_call 99; refine (HFI.out _ F0.out n).mono ?_; rintro r w1 hr; obtain ⟨ua, uc, us, rfl, uS, uh, g1⟩ := hr.own)
    | ((with_reducible (show wpList _ _ _ (Oper.mk _ (Op.alloc 56) _ _ _ _ :: _) _ _)); refine wpList_lay56 rfl rfl rfl (.tmp 8) (.tmp 17) rfl (v := .slice ua (fndR n t.recs).root.ads.length uc) rfl uh rfl rfl ?_))
  have G0 := Lib.hid (show Frm [] W (w1.alloc (.cells (rc (.slice ua (fndR n t.recs).root.ads.length uc) (fndR n t.recs)).toArray 56)) from g1.trans ((Frm.refl [] w1).alloc _) (by simp))
  clear g1 uS uh hr
  generalize w1.alloc (.cells (rc (.slice ua (fndR n t.recs).root.ads.length uc) (fndR n t.recs)).toArray 56) = U at *
  have LB := Lib.hid (BT.out.keep0 G0.out).gets.all
  go_upto_region 3 with (first
    | ((with_reducible (show wpList _ _ _ (Oper.mk _ (Op.load 27 _) _ _ _ _ :: _) _ _)); refine wpList_load_g (by rfl) 27 _ rfl _ rfl LB.out ?_)
    | (go_at_call 99; refine (HFI.out _ (F0.out.trans G0.out (by simp)) m).mono ?_; rintro r w2 hr; obtain ⟨ub, ud, ut, rfl, uS, uh, g1⟩ := hr.own)
    | ((with_reducible (show wpList _ _ _ (Oper.mk _ (Op.alloc 56) _ _ _ _ :: _) _ _)); refine wpList_lay56 rfl rfl rfl (.tmp 10) (.tmp 23) rfl (v := .slice ub (fndR m t.recs).root.ads.length ud) rfl uh rfl rfl ?_))
  have G1 := Lib.hid (show Frm [] W (w2.alloc (.cells (rc (.slice ub (fndR m t.recs).root.ads.length ud) (fndR m t.recs)).toArray 56)) from (G0.out.trans g1 (by simp)).trans ((Frm.refl [] w2).alloc _) (by simp))
  clear g1 uS uh hr
  generalize w2.alloc (.cells (rc (.slice ub (fndR m t.recs).root.ads.length ud) (fndR m t.recs)).toArray 56) = V at *
  have LV := Lib.hid (fun z (f : Frm [] V z) => ((BT.out.keep0 G1.out).keep0 f).gets.all)
  have FV := Lib.hid (F0.out.trans G1.out (by simp))
  generalize isF n t.recs = fb at *
  generalize isF m t.recs = fc at *
  refine wp_region_held_drew (S := fun z => Frm [] V z) (by kernel_rfl) ((Frm.refl [] V).drew) (fun hHeld => ?_)
  refine wpAnyH_take (i := 0) (oi := ⟨some 25, .load 27 (.tmp 3), _, _, _, none⟩) rfl (by kernel_rfl) (by kernel_rfl) (by kernel_rfl) (fun _ _ _ h => h) (yieldsIf_ld (by rfl) 27 _ rfl _ rfl (fun z hSw => LV.out z hSw)) hHeld ?_
  try simp only [Act.put, List.setIfInBounds_toArray, List.set_cons_zero, List.set_cons_succ]
  refine wpAnyH_take (i := 1) (oi := ⟨some 26, .move (.tmp 1), _, _, _, none⟩) (v := ?_) rfl (by kernel_rfl) (by kernel_rfl) (by kernel_rfl) (fun _ _ _ h => h) (Or.inl ⟨by rfl, ?_⟩) hHeld ?_
  rotate_left
  focus (intro z hSw; clear hSw; go_simp; try with_reducible rfl)
  try simp only [Act.put, List.setIfInBounds_toArray, List.set_cons_zero, List.set_cons_succ]
  refine wpAnyH_take (i := 2) (oi := ⟨some 27, .move (.tmp 2), _, _, _, none⟩) (v := ?_) rfl (by kernel_rfl) (by kernel_rfl) (by kernel_rfl) (fun _ _ _ h => h) (Or.inl ⟨by rfl, ?_⟩) hHeld ?_
  rotate_left
  focus (intro z hSw; clear hSw; go_simp; try with_reducible rfl)
  try simp only [Act.put, List.setIfInBounds_toArray, List.set_cons_zero, List.set_cons_succ]
  refine wpAnyH_take (i := 5) (oi := ⟨some 30, .move (.tmp 9), _, _, _, none⟩) (v := ?_) rfl (by kernel_rfl) (by kernel_rfl) (by kernel_rfl) (fun _ _ _ h => h) (Or.inl ⟨by rfl, ?_⟩) hHeld ?_
  rotate_left
  focus (intro z hSw; clear hSw; go_simp; try with_reducible rfl)
  try simp only [Act.put, List.setIfInBounds_toArray, List.set_cons_zero, List.set_cons_succ]
  refine wpAnyH_take (i := 7) (oi := ⟨some 32, .move (.tmp 11), _, _, _, none⟩) (v := ?_) rfl (by kernel_rfl) (by kernel_rfl) (by kernel_rfl) (fun _ _ _ h => h) (Or.inl ⟨by rfl, ?_⟩) hHeld ?_
  rotate_left
  focus (intro z hSw; clear hSw; go_simp; try with_reducible rfl)
  try simp only [Act.put, List.setIfInBounds_toArray, List.set_cons_zero, List.set_cons_succ]
  refine wpAnyH_take (i := 8) (oi := ⟨some 33, .unOp .not 4 (.tmp 32), _, _, _, none⟩) (v := ?_) rfl (by kernel_rfl) (by kernel_rfl) (by kernel_rfl) (fun _ _ _ h => h) (Or.inl ⟨by rfl, ?_⟩) hHeld ?_
  rotate_left
  focus (intro z hSw; clear hSw; go_simp; try with_reducible rfl)
  try simp only [Act.put, List.setIfInBounds_toArray, List.set_cons_zero, List.set_cons_succ]
  refine wpAnyH_ready (rs := [3]) (by kernel_rfl) (by simp) ?_
  refine AllReadyH.cons (o := ⟨some 28, .call { callee := .value (.func 102), args := #[.tmp 26, .tmp 27], argTypes := #[9, 9] }, _, _, _, none⟩) rfl (fun K hK => ?_) AllReadyH.nil
  go_simp
  refine (HFO.out _).mono ?_
  rintro r wv ⟨rfl, fv⟩
  refine hK.out _ _ ?_ (fun hNext => ?_)
  · exact hHeld.trans fv (by simp)
  clear hK K hHeld
  have hHeld := hNext
  clear hNext
  try simp only [Act.put, List.setIfInBounds_toArray, List.set_cons_zero, List.set_cons_succ]
  refine wpAnyH_ready (rs := [4]) (by kernel_rfl) (by simp) ?_
  refine AllReadyH.cons (o := ⟨some 29, .call { callee := .value (.func 101), args := #[.tmp 25, .tmp 28], argTypes := #[27, 4] }, _, _, _, none⟩) rfl (fun K hK => ?_) AllReadyH.nil
  go_simp
  refine (may_any vr vl t (followB n m) _ (HT.out.keep0 (FV.out.trans hHeld (by simp))) HF.out).mono ?_
  rintro r wn ⟨rfl, fm⟩
  refine hK.out _ _ ?_ (fun hNext => ?_)
  · exact hHeld.trans fm (by simp)
  clear hK K hHeld
  have hHeld := hNext
  clear hNext
  try simp only [Act.put, List.setIfInBounds_toArray, List.set_cons_zero, List.set_cons_succ]
  refine wpAnyH_ready (rs := [6]) (by kernel_rfl) (by simp) ?_
  refine AllReadyH.cons (o := ⟨some 31, .call { callee := .value (.func 103), args := #[.tmp 30, .const (.int .i64 6)], argTypes := #[4, 32] }, _, _, _, none⟩) rfl (fun K hK => ?_) AllReadyH.nil
  go_simp
  refine (unless_any _ _ _).mono ?_
  rintro r wa ⟨rfl, rfl⟩
  refine hK.out _ _ ?_ (fun hNext => ?_)
  · exact hHeld
  clear hK K hHeld
  have hHeld := hNext
  clear hNext
  try simp only [Act.put, List.setIfInBounds_toArray, List.set_cons_zero, List.set_cons_succ]
  refine wpAnyH_ready (rs := [9]) (by kernel_rfl) (by simp) ?_
  refine AllReadyH.cons (o := ⟨some 34, .call { callee := .value (.func 103), args := #[.tmp 33, .const (.int .i64 7)], argTypes := #[4, 32] }, _, _, _, none⟩) rfl (fun K hK => ?_) AllReadyH.nil
  go_simp
  refine (unless_any _ _ _).mono ?_
  rintro r wb ⟨rfl, rfl⟩
  refine hK.out _ _ ?_ (fun hNext => ?_)
  · exact hHeld
  clear hK K hHeld
  have hHeld := hNext
  clear hNext
  try simp only [Act.put, List.setIfInBounds_toArray, List.set_cons_zero, List.set_cons_succ]
  refine wpAnyH_ready (rs := [10]) (by kernel_rfl) (by simp) ?_
  refine AllReadyH.cons (o := ⟨some 35, .buildSlice 166 3 #[(0, .tmp 29), (1, .tmp 31), (2, .tmp 34)], _, _, _, none⟩) rfl (fun K hK => ?_) AllReadyH.nil
  refine step_err3 rfl (.tmp 29) (.tmp 31) (.tmp 34) rfl rfl rfl rfl ?_
  intro v10 w10 s10 f10
  refine hK.out _ _ ?_ (fun hNext => ?_)
  · exact hHeld.trans f10 (by simp)
  clear hK K hHeld
  have hHeld := hNext
  clear hNext
  try simp only [Act.put, List.setIfInBounds_toArray, List.set_cons_zero, List.set_cons_succ]
  refine wpAnyH_ready (rs := [11]) (by kernel_rfl) (by simp) ?_
  refine AllReadyH.cons (o := ⟨some 36, .call { callee := .value (.func 100), args := #[.tmp 35], argTypes := #[166] }, _, _, _, none⟩) rfl (fun K hK => ?_) AllReadyH.nil
  go_simp
  refine (OrE_any _ _ _ _ s10 (by simp)).mono ?_
  rintro r wo ⟨rfl, rfl⟩
  refine hK.out _ _ ?_ (fun hNext => ?_)
  · exact hHeld
  clear hK K hHeld
  have hHeld := hNext
  clear hNext
  try simp only [Act.put, List.setIfInBounds_toArray, List.set_cons_zero, List.set_cons_succ]
  refine wpAnyH_take (i := 12) (oi := ⟨some 12, .assign (.tmp 36), _, _, _, none⟩) (v := ?_) rfl (by kernel_rfl) (by kernel_rfl) (by kernel_rfl) (fun _ _ _ h => h) (Or.inl ⟨by rfl, ?_⟩) hHeld ?_
  rotate_left
  focus (intro z hSw; clear hSw; go_simp; try with_reducible rfl)
  try simp only [Act.put, List.setIfInBounds_toArray, List.set_cons_zero, List.set_cons_succ]
  refine wpAnyH_done (by kernel_rfl) ?_ _
  have FW := Lib.hid hHeld
  clear hHeld
  rw [← HR.out]
  go_upto_region 4 with (fail)
  refine wp_region_late 8 (S := fun z => Frm [] V z) (by kernel_rfl) (FW.out.drew) (fun hHeld => ?_)
  refine wpAnyL_take (i := 0) (oi := ⟨some 37, .load 27 (.tmp 3), _, _, _, none⟩) rfl (by kernel_rfl) (by kernel_rfl) (by kernel_rfl) (fun _ _ _ h => h) (yieldsIf_ld (by rfl) 27 _ rfl _ rfl (fun z hSw => LV.out z hSw)) hHeld ?_
  try simp only [Act.put, List.setIfInBounds_toArray, List.set_cons_zero, List.set_cons_succ]
  refine wpAnyL_takeP (i := 1) (oi := ⟨some 38, .move (.tmp 12), _, _, _, none⟩) (v := ?_) rfl (by kernel_rfl) (by kernel_rfl) (by kernel_rfl) (fun _ _ _ h => h) (Or.inl ⟨by rfl, ?_⟩) hHeld ?_
  rotate_left
  focus (intro z hSw; clear hSw; go_simp; try with_reducible rfl)
  try simp only [Act.put, List.setIfInBounds_toArray, List.set_cons_zero, List.set_cons_succ]
  refine wpAnyL_takeP (i := 2) (oi := ⟨some 39, .move (.tmp 1), _, _, _, none⟩) (v := ?_) rfl (by kernel_rfl) (by kernel_rfl) (by kernel_rfl) (fun _ _ _ h => h) (Or.inl ⟨by rfl, ?_⟩) hHeld ?_
  rotate_left
  focus (intro z hSw; clear hSw; go_simp; try with_reducible rfl)
  try simp only [Act.put, List.setIfInBounds_toArray, List.set_cons_zero, List.set_cons_succ]
  refine wpAnyL_takeP (i := 3) (oi := ⟨some 40, .move (.tmp 2), _, _, _, none⟩) (v := ?_) rfl (by kernel_rfl) (by kernel_rfl) (by kernel_rfl) (fun _ _ _ h => h) (Or.inl ⟨by rfl, ?_⟩) hHeld ?_
  rotate_left
  focus (intro z hSw; clear hSw; go_simp; try with_reducible rfl)
  try simp only [Act.put, List.setIfInBounds_toArray, List.set_cons_zero, List.set_cons_succ]
  refine wpAnyL_one (i := 4) (o := ⟨some 41, .call { callee := .value (.func 105), args := #[.tmp 39, .tmp 40], argTypes := #[9, 9] }, _, _, _, none⟩) (by kernel_rfl) rfl (fun K hK => ?_)
  go_simp
  refine (rename_any n m _).mono ?_
  rintro r w3 ⟨g, h, rfl, cg, ch, gl, hl, f3⟩
  refine hK.out _ _ ?_ (fun hNext => ?_)
  · exact hHeld.trans f3 (by simp)
  clear hK K hHeld
  have hHeld := hNext
  clear hNext
  try simp only [Act.put, List.setIfInBounds_toArray, List.set_cons_zero, List.set_cons_succ]
  refine wpAnyL_one (i := 5) (o := ⟨some 42, .call { callee := .value (.func 104), args := #[.tmp 37, .tmp 38, .tmp 41], argTypes := #[27, 32, 128] }, _, _, _, none⟩) (by kernel_rfl) rfl (fun K hK => ?_)
  have F34 := Lib.hid hHeld
  have hch : ec = 0 → ∃ F cap, Value.func (.func 168) #[] #[.pointer (some ⟨g, 0, none⟩), .pointer (some ⟨h, 0, none⟩)] = .func (.func F) #[] cap ∧ ChT w3 F cap t (renT t n m) := fun e => by
    obtain ⟨hM, hb, hnf, i, y, A1, M1, C1, h1, h2, h3, h4, h5, h6⟩ := HW.out e
    refine ⟨168, _, rfl, ?_⟩
    have := rename1_ch w3 g h n m t i y A1 M1 C1 cg ch hM h1 h2 h4 h5 hnf hb HMS.out
    unfold renT
    rw [h6]
    exact this
  have hd := done_any vr vl _ t _ ec w3 (HT.out.keep0 (FV.out.trans hHeld (by simp))) HF.out hch
  rw [← HE.out] at hd
  have HD := Lib.hid hd
  clear hd hch
  go_simp
  refine HD.out.mono ?_
  rintro r w4 ⟨vr4, vl4, rfl, o4, f4⟩
  refine hK.out _ _ ?_ (fun hNext => ?_)
  · exact hHeld.trans f4 (by simp)
  clear hK K hHeld
  have hHeld := hNext
  clear hNext
  try simp only [Act.put, List.setIfInBounds_toArray, List.set_cons_zero, List.set_cons_succ]
  refine wpAnyL_takeP (i := 6) (oi := ⟨some 43, .extract (.tmp 42) 0, _, _, _, none⟩) (v := ?_) rfl (by kernel_rfl) (by kernel_rfl) (by kernel_rfl) (fun _ _ _ h => h) (Or.inl ⟨by rfl, ?_⟩) hHeld ?_
  rotate_left
  focus (intro z hSw; clear hSw; go_simp; try with_reducible rfl)
  try simp only [Act.put, List.setIfInBounds_toArray, List.set_cons_zero, List.set_cons_succ]
  refine wpAnyL_takeP (i := 7) (oi := ⟨some 44, .extract (.tmp 42) 1, _, _, _, none⟩) (v := ?_) rfl (by kernel_rfl) (by kernel_rfl) (by kernel_rfl) (fun _ _ _ h => h) (Or.inl ⟨by rfl, ?_⟩) hHeld ?_
  rotate_left
  focus (intro z hSw; clear hSw; go_simp; try with_reducible rfl)
  try simp only [Act.put, List.setIfInBounds_toArray, List.set_cons_zero, List.set_cons_succ]
  refine wpAnyL_last (o := ⟨none, .store 27 (.tmp 6) (.tmp 43), _, _, _, none⟩) (by kernel_rfl) rfl (by simp) (fun K hK => ?_)
  refine step_store27 rfl (.tmp 6) (.tmp 43) rfl o4.ones.1 o4.ones.2 ((R6.out.keep0 G1.out).keep0 (F34.out.trans f4 (by simp))) rfl rfl (fun w8 B8 f8 => ?_)
  refine hK.out _ _ ?_
  clear hK K hHeld
  try simp only [Act.put, List.setIfInBounds_toArray, List.set_cons_zero, List.set_cons_succ]
  refine wpAny_take (i := 9) (oi := ⟨some 7, .assign (.tmp 44), _, _, _, none⟩) (v := ?_) rfl (by kernel_rfl) (by kernel_rfl) (by kernel_rfl) (fun _ _ _ h => h) (Or.inl ⟨by rfl, ?_⟩) ?_
  rotate_left
  focus (intro z; go_simp; try with_reducible rfl)
  try simp only [Act.put, List.setIfInBounds_toArray, List.set_cons_zero, List.set_cons_succ]
  refine wpAny_done (by kernel_rfl) ?_ _
  have b8 := B8
  have SZ := Lib.hid (show w.heap.size + 1 < W.heap.size from R6.out.lt)
  go_wp2_with fail
  refine bodyPost_ret (results_cell_slot (p := 6) (q := 7) rfl _ _ rfl rfl (run_loadVar_row w8 (w.heap.size + 1) 27 27 _ (0, 0) _ b8 Tryz.underlying27 rfl (by rw [i27]; simp [tc]))) rfl ?_
  exact ⟨_, _, rfl, (o4.keep f8 (fun i hi => .inl (by have := SZ.out; have := G1.out.size; have := F34.out.size; simp at hi; omega))).base (Nat.le_trans FV.out.size F34.out.size), ((FV.out.trans F34.out (by simp)).trans f4 (by simp)).trans f8 (fun i hi => .inr (by simp at hi; omega))⟩
end Go.Proofs.YtljhanhipmnioaaGreat.Rd

namespace Go.Proofs.YtljhanhipmnioaaGreat.Rd
open Go.RowKit
set_option linter.unusedVariables false
set_option linter.unusedSimpArgs false
set_option maxRecDepth 100000

open Pt (Pt may enc zeroPt be4 be1 pc pv PtV SlA OwnA BT wpList_load_g heap_alloc_at Ext Grew yieldsIf_ld)
open Kr (OwnE SlE Enco RowTys)

def eS (s : ByteArray) : List Value := [.string s]
theorem encS : Enco eS 1 where
  len := fun _ => rfl
  pos := by decide
  one := fun x u hu => by simp [eS] at hu; subst hu; rfl
  inj := fun x y h => by simp [eS] at h; exact h
def namesB (t : Tab) (ns : List ByteArray) : Bool := decide (t.recs.map Rec.name = ns)
def NmsRel (t : Tab) (ns : List ByteArray) (w0 : World) (cv : Value) (wr : World) : Prop := ∃ k : Nat, k ≤ ns.length ∧ cv = .int .i64 k ∧ (∀ j (h1 : j < t.recs.length) (h2 : j < ns.length), j < k → (t.recs[j]).name = ns[j]) ∧ Frm [] w0 wr
set_option maxHeartbeats 4000000 in
theorem names_any (vr vl v : Value) (t : Tab) (ns : List ByteArray) (sp : List Value) (w : World) (hT : TabV w vr vl t) (hS : SlE eS 1 w v ns sp) (hl : t.recs.length ≤ 1000) (hn : ns.length ≤ 1000) : Calls Tryz.prog 48 #[tv vr vl t, v] w fun e w' => e = .returned (.bool (namesB t ns)) ∧ Frm [] w w' := by
  have f0 : Frm [] w (w.alloc (.cells (tc vr vl t).toArray 27)) := (Frm.refl [] w).alloc _
  have B := Lib.hid (TB.new w vr vl t)
  rw [tcA]
  generalize (tc vr vl t).toArray = A at *
  have HR := Lib.hid (hT.1.keep0 f0)
  have HS := Lib.hid (fun z (f : Frm [] (w.alloc (.cells A 27)) z) => hS.keep0 (f0.trans f (by simp)))
  have F := Lib.hid f0
  have HT := Lib.hid (fun z (f : Frm [] (w.alloc (.cells A 27)) z) => (B.out.keep0 f).gets)
  have hl9 : (t.recs.length : Int) ≤ 1000 := by omega
  have hn9 : (ns.length : Int) ≤ 1000 := by omega
  clear hT f0 B hS
  obtain ⟨av, ac, rfl⟩ := HR.out.form
  obtain ⟨nv, nc, rfl, _, _⟩ := (HS.out _ (Frm.refl [] _)).form
  have HLEN := Lib.hid (show namesB t ns = true → t.recs.length = ns.length from fun h => by have := of_decide_eq_true h; rw [← this]; simp)
  have HYES := Lib.hid (show t.recs.length = ns.length → (∀ j (h1 : j < t.recs.length) (h2 : j < ns.length), j < ns.length → (t.recs[j]).name = ns[j]) → namesB t ns = true from fun h1 h2 => decide_eq_true (List.ext_getElem (by simpa using h1) fun j h3 h4 => by simp at h3 ⊢; exact h2 j h3 h4 h4))
  have HNO := Lib.hid (show ∀ k (h1 : k < t.recs.length) (h2 : k < ns.length), (t.recs[k]).name ≠ ns[k] → namesB t ns = false from fun k h1 h2 h3 => decide_eq_false fun e => h3 (by
    have : (t.recs.map Rec.name)[k]'(by simpa using h1) = ns[k] := by simp only [e]
    simpa using this))
  have HNL := Lib.hid (show t.recs.length ≠ ns.length → namesB t ns = false from fun h => decide_eq_false fun e => h (by rw [← e]; simp))
  generalize namesB t ns = nb at *
  have q0 := (HT.out _ (Frm.refl [] _)).recs
  go_enter Tryz.func48, Tryz.ntmps48
  go_upto_region 1 with (fail)
  generalize w.alloc (.cells A 27) = W at *
  by_cases hlen : t.recs.length = ns.length
  · have hlen9 : (t.recs.length : Int) = (ns.length : Int) := by omega
    have HL := Lib.hid hlen
    go_upto_region 4 with (fail)
    clear q0
    go_loopw [5] (NmsRel t ns W) (fun c _ => ns.length - (intOf c).toNat)
    case atStart => exact ⟨0, Nat.zero_le _, rfl, fun j _ _ hj => by omega, Frm.refl _ _⟩
    case round =>
      obtain ⟨k, hk, rfl, hz, f⟩ := hrel
      have HZ := Lib.hid hz
      have FW := Lib.hid f
      clear f hz
      by_cases hkl : k < ns.length
      · have hkl9 : (k : Int) < (ns.length : Int) := by omega
        have hk0 : (0 : Int) ≤ (k : Int) := by omega
        have hkr : k < t.recs.length := by omega
        obtain ⟨b, off, cp, e⟩ := HR.out.at (by omega)
        cases e
        obtain ⟨nb2, noff, e⟩ := (HS.out _ (Frm.refl [] _)).at (by omega)
        cases e
        have HG := Lib.hid (fun z (f : Frm [] W z) => by
          obtain ⟨xa, xc, G, XV⟩ := (HR.out.keep0 f).gets k hkr
          exact G.name)
        have HQ := Lib.hid (fun z (f : Frm [] W z) => show z.cell? ⟨nb2, noff + k, none⟩ = some (.string ns[k]) from by
          have := SlE.cell encS (HS.out z f) k hkl 0 (u := .string ns[k]) rfl
          simpa using this)
        have HSM := Lib.hid (fun (h : (t.recs[k]).name = ns[k]) => show ∀ j (h1 : j < t.recs.length) (h2 : j < ns.length), j < k + 1 → (t.recs[j]).name = ns[j] from fun j h1 h2 hjk => by
          by_cases e : j = k
          · subst e; exact h
          · exact HZ.out j h1 h2 (by omega))
        have HNK := Lib.hid (HNO.out k hkr hkl)
        generalize (t.recs[k]).name = a1 at *
        generalize ns[k] = a2 at *
        have q1 := (HT.out _ FW.out).recs
        go_upto_region 6 with (fail)
        clear q1
        refine wp_region_held_drew (S := fun z => Frm [] W z) (by kernel_rfl) (FW.out.drew) (fun hHeld => ?_)
        refine wpAnyH_take (i := 0) (oi := ⟨some 18, .fieldAddr 27 (.tmp 2) 1, _, _, _, none⟩) (v := ?_) rfl (by kernel_rfl) (by kernel_rfl) (by kernel_rfl) (fun _ _ _ h => h) (Or.inl ⟨by rfl, ?_⟩) hHeld ?_
        rotate_left
        focus (intro z hSw; clear hSw; go_simp; try with_reducible rfl)
        try simp only [Act.put, List.setIfInBounds_toArray, List.set_cons_zero, List.set_cons_succ]
        refine wpAnyH_take (i := 1) (oi := ⟨some 19, .load 22 (.tmp 18), _, _, _, none⟩) (v := ?_) rfl (by kernel_rfl) (by kernel_rfl) (by kernel_rfl) (fun _ _ _ h => h) (Or.inl ⟨by rfl, ?_⟩) hHeld ?_
        rotate_left
        focus (intro z hSw; have q1 := (HT.out z hSw).recs; have q2 := HG.out z hSw; have q3 := HQ.out z hSw; clear hSw; go_simp; try with_reducible rfl)
        try simp only [Act.put, List.setIfInBounds_toArray, List.set_cons_zero, List.set_cons_succ]
        refine wpAnyH_take (i := 2) (oi := ⟨some 20, .move (.tmp 5), _, _, _, none⟩) (v := ?_) rfl (by kernel_rfl) (by kernel_rfl) (by kernel_rfl) (fun _ _ _ h => h) (Or.inl ⟨by rfl, ?_⟩) hHeld ?_
        rotate_left
        focus (intro z hSw; clear hSw; go_simp; try with_reducible rfl)
        try simp only [Act.put, List.setIfInBounds_toArray, List.set_cons_zero, List.set_cons_succ]
        refine wpAnyH_take (i := 3) (oi := ⟨some 21, .indexAddr 22 (.tmp 19) (.tmp 20), _, _, _, none⟩) (v := ?_) rfl (by kernel_rfl) (by kernel_rfl) (by kernel_rfl) (fun _ _ _ h => h) (Or.inl ⟨by rfl, ?_⟩) hHeld ?_
        rotate_left
        focus (intro z hSw; clear hSw; go_simp; try with_reducible rfl)
        try simp only [Act.put, List.setIfInBounds_toArray, List.set_cons_zero, List.set_cons_succ]
        refine wpAnyH_take (i := 4) (oi := ⟨some 22, .fieldAddr 56 (.tmp 21) 1, _, _, _, none⟩) (v := ?_) rfl (by kernel_rfl) (by kernel_rfl) (by kernel_rfl) (fun _ _ _ h => h) (Or.inl ⟨by rfl, ?_⟩) hHeld ?_
        rotate_left
        focus (intro z hSw; clear hSw; go_simp; try with_reducible rfl)
        try simp only [Act.put, List.setIfInBounds_toArray, List.set_cons_zero, List.set_cons_succ]
        refine wpAnyH_take (i := 5) (oi := ⟨some 23, .load 9 (.tmp 22), _, _, _, none⟩) (v := ?_) rfl (by kernel_rfl) (by kernel_rfl) (by kernel_rfl) (fun _ _ _ h => h) (Or.inl ⟨by rfl, ?_⟩) hHeld ?_
        rotate_left
        focus (intro z hSw; have q1 := (HT.out z hSw).recs; have q2 := HG.out z hSw; have q3 := HQ.out z hSw; clear hSw; go_simp; try with_reducible rfl)
        try simp only [Act.put, List.setIfInBounds_toArray, List.set_cons_zero, List.set_cons_succ]
        refine wpAnyH_take (i := 6) (oi := ⟨some 24, .move (.tmp 1), _, _, _, none⟩) (v := ?_) rfl (by kernel_rfl) (by kernel_rfl) (by kernel_rfl) (fun _ _ _ h => h) (Or.inl ⟨by rfl, ?_⟩) hHeld ?_
        rotate_left
        focus (intro z hSw; clear hSw; go_simp; try with_reducible rfl)
        try simp only [Act.put, List.setIfInBounds_toArray, List.set_cons_zero, List.set_cons_succ]
        refine wpAnyH_take (i := 7) (oi := ⟨some 25, .move (.tmp 5), _, _, _, none⟩) (v := ?_) rfl (by kernel_rfl) (by kernel_rfl) (by kernel_rfl) (fun _ _ _ h => h) (Or.inl ⟨by rfl, ?_⟩) hHeld ?_
        rotate_left
        focus (intro z hSw; clear hSw; go_simp; try with_reducible rfl)
        try simp only [Act.put, List.setIfInBounds_toArray, List.set_cons_zero, List.set_cons_succ]
        refine wpAnyH_take (i := 8) (oi := ⟨some 26, .indexAddr 130 (.tmp 24) (.tmp 25), _, _, _, none⟩) (v := ?_) rfl (by kernel_rfl) (by kernel_rfl) (by kernel_rfl) (fun _ _ _ h => h) (Or.inl ⟨by rfl, ?_⟩) hHeld ?_
        rotate_left
        focus (intro z hSw; clear hSw; go_simp; try with_reducible rfl)
        try simp only [Act.put, List.setIfInBounds_toArray, List.set_cons_zero, List.set_cons_succ]
        refine wpAnyH_take (i := 9) (oi := ⟨some 27, .load 9 (.tmp 26), _, _, _, none⟩) (v := ?_) rfl (by kernel_rfl) (by kernel_rfl) (by kernel_rfl) (fun _ _ _ h => h) (Or.inl ⟨by rfl, ?_⟩) hHeld ?_
        rotate_left
        focus (intro z hSw; have q1 := (HT.out z hSw).recs; have q2 := HG.out z hSw; have q3 := HQ.out z hSw; clear hSw; go_simp; try with_reducible rfl)
        try simp only [Act.put, List.setIfInBounds_toArray, List.set_cons_zero, List.set_cons_succ]
        refine wpAnyH_take (i := 10) (oi := ⟨some 28, .binOp .neq 9 (.tmp 23) (.tmp 27) 9, _, _, _, none⟩) (v := ?_) rfl (by kernel_rfl) (by kernel_rfl) (by kernel_rfl) (fun _ _ _ h => h) (Or.inl ⟨by rfl, ?_⟩) hHeld ?_
        rotate_left
        focus (intro z hSw; clear hSw; go_simp; try with_reducible rfl)
        try simp only [Act.put, List.setIfInBounds_toArray, List.set_cons_zero, List.set_cons_succ]
        refine wpAnyH_done (by kernel_rfl) ?_ _
        by_cases hab : a1 = a2
        · subst hab
          go_wp2_with (fail)
          all_goals first
            | exact ⟨⟨k + 1, by omega, by go_num, HSM.out rfl, hHeld⟩, by simp [intOf]; omega⟩
            | (exfalso; simp_all)
        · have hab2 : (a1.toList == a2.toList) = false := by
            rw [Bool.eq_false_iff]
            exact fun h => hab (str_eq.1 h)
          go_wp2_with (fail)
          all_goals first
            | (exfalso; simp_all; done)
            | (go_ret
               exact ⟨by rw [HNK.out hab]; rfl, F.out.trans hHeld (by simp)⟩)
      · have hkl9 : ¬ (k : Int) < (ns.length : Int) := by omega
        go_wp2_with (fail)
        go_ret
        exact ⟨by rw [HYES.out HL.out (fun j h1 h2 _ => HZ.out j h1 h2 (by omega))]; rfl, F.out.trans FW.out (by simp)⟩
  · have hlen9 : ¬ (t.recs.length : Int) = (ns.length : Int) := by omega
    go_wp2_with (fail)
    go_ret
    exact ⟨by rw [HNL.out hlen]; rfl, F.out⟩
end Go.Proofs.YtljhanhipmnioaaGreat.Rd
