/-
  Dir: a record of its own, changed. No conditions but those that each theorem names. Dir: copies, appends and clears in a part of a block of rows. No conditions but those that each theorem names. Dir: slices.Insert over rows of records. No conditions but those that each theorem names. Dir: one record more, and some less, in a told list. No conditions but those that each theorem names. Dir, plain: records put in where their names have to stand; what a table that may be has; new names. No conditions but those that each theorem names. Dir: insert. No conditions but those that each theorem names. Dir: the change that put makes. No conditions but those that each theorem names.
-/
import Derived.Test.YtljhanhipmnioaaGreatDBa1
import Derived.Test.YtljhanhipmnioaaGreatDBa2
import Derived.Test.YtljhanhipmnioaaGreatDBa3
import Derived.Test.YtljhanhipmnioaaGreatDBa4
import Derived.Test.YtljhanhipmnioaaGreatDBa5
import Derived.Test.YtljhanhipmnioaaGreatDBa6
import Derived.Test.YtljhanhipmnioaaGreatDBa7
import Derived.Lib.AppendZerosOnto
import Derived.Lib.Overlaps
import Derived.Deep.RegionLaw
import Derived.OrdersHeld
import Derived.Deep.RegionHeld
import Derived.WalkKit
import Derived.WalkSpells
import Derived.WalkLawsBesides
import Derived.Deep.AppendSrc
import Derived.Laws.CopyOwn
import Derived.Laws.BytesArg
import Derived.Carry
import Derived.Laws.BytesString
import Derived.Deep.SlicePairs
import Derived.Deep.Cut
import Derived.Lib.Hide
import Derived.Test.YtljhanhipmnioaaGreatChecked
import Derived.ChangeKeysEq
import Derived.Deep.MidRow
import Derived.Deep.RegionHeld3
import Derived.OpenShut
import Derived.WalkHide
import Derived.IntWalk
import Derived.StillTailTactics
import Derived.Deep.RegionWith
import Derived.Deep.QuietTactic
import Derived.BigQuiet
import Derived.Deep.CutBlock
import Derived.Deep.DeepCutAuto
import Derived.Deep.Slices
import Derived.Defers
import Derived.Recover
import Derived.Deep.WholeRow
import Derived.Deep.Strs
import Derived.ChangeSame
import Derived.Lib.Bytealg
import Derived.Lib.TrimUEq
import Derived.Lib.MinMaxS
import Derived.LaidEqlPtr
import Derived.Lib.OthersKept
import Derived.Deep.Draws
import Derived.WalkMore
import Derived.Deep.LoopGhost
import Derived.Lib.BufferWrite
import Derived.Lib.UnsafeStr
import Derived.Laws.MakeOwn
import Derived.Laws.Strings3
import Derived.BigRegion
import Derived.Lib.Walk
import Derived.Great.Walk
import Derived.Lib.SliceRun
import Derived.Laws.OwnMore
namespace Go.Proofs.YtljhanhipmnioaaGreat.Rd
open Go.RowKit
set_option linter.unusedVariables false
set_option linter.unusedSimpArgs false
set_option maxRecDepth 100000

open Pt (Pt may enc zeroPt be4 be1 pc pv PtV SlA OwnA BT wpList_load_g heap_alloc_at Ext Grew yieldsIf_ld)
open Kr (OwnE SlE Enco RowTys)

theorem RB.blk {w : World} {g : Nat} {v : Value} {x : Rec} (h : RB w g v x) : Blk w g 56 ([] ++ (rc v x ++ [])) := by
  have := h.1
  unfold Blk
  simpa using this
theorem RB.of_blk {w : World} {g : Nat} {v : Value} {x : Rec} (h : Blk w g 56 ([] ++ (rc v x ++ []))) (hs : x.root.s.length = 32) : RB w g v x := by
  refine ⟨?_, hs⟩
  unfold Blk at h
  simpa using h
set_option maxHeartbeats 4000000 in
theorem ownedR_any (F : FuncId) (cap : Array Value) (u : Value) (x y : Rec) (w : World) (h : RecV w u x) (hn : x.name.size ≤ 1000) (hl : x.root.ads.length ≤ 1000000) (hc : ChR w F cap x y) :
    Calls Tryz.prog 175 #[u, .func (.func 176) #[] #[], .func (.func F) #[] cap] w (ClR y w) := by
  obtain ⟨a, rfl, hs, _, _⟩ := h.box
  have eg := hc.enter
  have f0 : Frm [] w (w.alloc (.cells (rc a x).toArray 56)) := (Frm.refl [] w).alloc _
  have f1 : Frm [] (w.alloc (.cells (rc a x).toArray 56)) ((w.alloc (.cells (rc a x).toArray 56)).alloc (.cells (rc nilS zeroR).toArray 56)) := (Frm.refl [] _).alloc _
  have B1 := Lib.hid ((RB.new (w := w) (v := a) hs).keep0 f1)
  have B2 := Lib.hid (show RB ((w.alloc (.cells (rc a x).toArray 56)).alloc (.cells (rc nilS zeroR).toArray 56)) (w.heap.size + 1) nilS zeroR from ⟨heap_alloc_at (by simp), zeroR_s⟩)
  have F2 := Lib.hid (f0.trans f1 (by simp))
  have HC := Lib.hid hc
  have HR := Lib.hid (show RecV w (rv a x) x from h)
  have HS := Lib.hid hs
  have HN := Lib.hid (And.intro hn hl)
  generalize (rc a x).toArray = A at *
  clear h hc hs hn hl f0 f1
  go_enter Tryz.func175, Tryz.ntmps175
  go_upto_region 1 with ((with_reducible (show wpList _ _ _ (Oper.mk _ (Op.alloc 56) _ _ _ _ :: _) _ _)); refine wpList_val rfl (exec_alloc56 rfl _) ?_)
  simp only [World.size_alloc]
  generalize (w.alloc (.cells A 56)).alloc (.cells (rc nilS zeroR).toArray 56) = W at *
  go_upto_region 2 with (first
    | ((with_reducible (show wpList _ _ _ (Oper.mk _ (Op.load 56 _) _ _ _ _ :: _) _ _)); refine wpList_load_g (by rfl) 56 _ rfl _ rfl B1.out.gets.all ?_)
    | (go_at_call 176; refine (recordClone_any _ x _ (HR.out.keep0 F2.out) HN.out.1 HN.out.2).mono ?_; rintro r w1 ⟨a1, c1, sp1, rfl, o1, f1, n1⟩)
    | ((with_reducible (show wpList _ _ _ (Oper.mk _ (Op.store 56 _ _) _ _ _ _ :: _) _ _)); refine wpList_store56 rfl (.tmp 3) (.tmp 9) rfl rfl (B1.out.keep0 f1) HS.out rfl rfl ?_; intro w2 b2 f2))
  have SZ := Lib.hid (show w.heap.size + 1 < W.heap.size from B2.out.lt)
  have f12 : Frm [w.heap.size] W w2 := (f1.mono (by simp)).trans f2 (fun i hi => .inl hi)
  have O2 := Lib.hid (o1.keep f2 (fun i hi hm => by have := n1 i hi; have := SZ.out; simp at hm; omega))
  have N2 := Lib.hid n1
  have HK := Lib.hid (HC.out.calls w.heap.size 0 56 [] [] _ w2 (F2.out.trans f12 (fun i hi => .inr (by simp at hi; omega))) (Nat.le_refl _) b2.blk rfl HS.out)
  have F12 := Lib.hid f12
  have R2 := Lib.hid ((B2.out).keep f12 (by simp))
  clear f12 o1 f1 f2 b2 n1
  go_wp2_with (fail)
  refine HK.out.mono ?_
  rintro r w3 ⟨rfl, v3, hb3, f3, hy3, hv3⟩
  have b3 := RB.of_blk hb3 hy3
  have R3 := Lib.hid (R2.out.keep f3 (by simp))
  have G3 := Lib.hid b3.gets.all
  have hown : ∃ a2 c2 sp2, v3 = .slice a2 y.root.ads.length c2 ∧ OwnA 148 w3 v3 y.root.ads sp2 ∧ ∀ i ∈ blk v3, W.heap.size ≤ i := by
    rcases hv3 with ⟨rfl, e⟩ | ⟨a2, c2, sp2, e, o, hF⟩
    · rw [e]
      exact ⟨a1, c1, sp1, rfl, O2.out.keep f3 (fun i hi hm => by have := N2.out i hi; have := SZ.out; simp at hm; omega), N2.out⟩
    · exact ⟨a2, c2, sp2, e, o, fun i hi => Nat.le_trans F12.out.size (hF i hi)⟩
  obtain ⟨a3, c3, sp3, rfl, o3, n3⟩ := hown
  clear hv3
  go_wp2_with (first
    | ((with_reducible (show wpList _ _ _ (Oper.mk _ (Op.load 56 _) _ _ _ _ :: _) _ _)); refine wpList_load_g (by rfl) 56 _ rfl _ rfl G3.out ?_)
    | ((with_reducible (show wpList _ _ _ (Oper.mk _ (Op.store 56 _ _) _ _ _ _ :: _) _ _)); refine wpList_store56 rfl (.tmp 6) (.tmp 12) rfl rfl R3.out hy3 rfl rfl ?_; intro w4 b4 f4))
  refine bodyPost_ret (results_cell_row (p := 6) rfl _ _ (w.heap.size + 1) 56 _ (0, 0) _ rfl b4.1 Tryz.underlying56 rfl (by rw [i56]; simp [rc_length hy3])) rfl ?_
  refine ⟨a3, c3, sp3, rfl, o3.keep f4 (fun i hi hm => by have := n3 i hi; have := SZ.out; simp at hm; omega), ((F2.out.trans F12.out (fun i hi => .inr (by simp at hi; omega))).trans f3 (fun i hi => .inr (by simp at hi; omega))).trans f4 (fun i hi => .inr (by simp at hi; omega)), fun i hi => ?_⟩
  have := n3 i hi; have := SZ.out; omega
theorem put11_ch (w : World) (g gt : Nat) (vr vl : Value) (x : Rec) (t : Tab) (hg : w.cell? ⟨g, 0, none⟩ = some (.pointer (some ⟨gt, 0, none⟩))) (ht : TB w gt vr vl t) : ChR w 177 #[.pointer (some ⟨g, 0, none⟩)] x (withId x t.next) :=
  ⟨fun u z => enter_of Tryz.func177 (by kernel_rfl) (by kernel_rfl) _ z, fun b o T pre post v W f hb h hp hs => put11_any b o g gt T pre post v vr vl x t W h hp hs (f.cell hg (by simp)) (ht.keep0 f)⟩
end Go.Proofs.YtljhanhipmnioaaGreat.Rd

namespace Go.Proofs.YtljhanhipmnioaaGreat.Rd
open Go.RowKit
set_option linter.unusedVariables false
set_option linter.unusedSimpArgs false
set_option maxRecDepth 100000

open Pt (Pt may enc zeroPt be4 be1 pc pv PtV SlA OwnA BT wpList_load_g heap_alloc_at Ext Grew yieldsIf_ld)
open Kr (OwnE SlE Enco RowTys)

section
variable {P : Program} {w : World} {g : Nat} {T : TypeId} {cs pre old post : List Value} {o : Nat}
theorem Blk.setRow (h : Blk w g T cs) (ds : List Value) : Blk (w.setRow g ds.toArray) g T ds := setRow_heap w g _ _ _ _ h
theorem Frm.setRow (w : World) (g : Nat) (C : Array Value) : Frm [g] w (w.setRow g C) :=
  ⟨rfl, rfl, rfl, by simp [World.setRow], fun k hk hn => setRow_other w g k _ (by simpa using hn)⟩
theorem mid_cells (ds : List Value) (hp : pre.length = o) (hl : ds.length = old.length) :
    ((pre ++ (old ++ post)).toArray.toList.take (o + 0) ++ ds ++ (pre ++ (old ++ post)).toArray.toList.drop (o + 0 + ds.length)).toArray = (pre ++ (ds ++ post)).toArray := by
  subst hp
  congr 1
  rw [Nat.add_zero, List.take_left, ← List.drop_drop, List.drop_left, hl, List.drop_left, List.append_assoc]
/-- A copy of rows into a part of a block. -/
theorem run_copy_blk {k m : Nat} (dT sT ty elem : TypeId) (dLen dCap : Nat) (a : Addr) (sLen sCap : Nat) (ds : List Value)
    (hu : P.underlying dT = some (.slice elem)) (hs : (P.info? elem).map (·.size) = some k) (hb : Blk w g T (pre ++ (old ++ post))) (hp : pre.length = o) (hl : ds.length = old.length)
    (hm : min sLen dLen = m) (hn : ds.length = m * k) (hsrc : ∀ j v, ds[j]? = some v → w.cell? (a.add j) = some v) (h1 : ∀ v ∈ ds, v.oneCell' = true) :
    (Builtin.copy_ #[dT, sT] ty #[.slice (some ⟨g, o, none⟩) dLen dCap, .slice (some a) sLen sCap]).run P w = .ok (goInt m) (w.setRow g (pre ++ (ds ++ post)).toArray) := by
  have hl2 := run_loadCells_list (P := P) w a ds hsrc
  have hmm : Nat.min sLen dLen = m := hm
  have hst := run_storeCells_at P g o T ds 0 _ w hb (by simp; omega) h1
  rw [mid_cells ds hp hl] at hst
  cases hq : P.info? elem with
  | none => simp [hq] at hs
  | some i =>
    have hi : i.size = k := by simpa [hq] using hs
    simp [Builtin.copy_, run_underlying hu, Builtin.lenOf, Builtin.firstCells, sizeOf, typeInfo, hq, hi, hmm, ← hn, hl2, hst]
/-- 'append' where there is room: in place. -/
theorem run_append_blk {k n m cap : Nat} (tS tx ty elem : TypeId) (x : Value) (news : List Value) (ht : P.underlying tS = some (.slice elem)) (hs : (P.info? elem).map (·.size) = some k)
    (hb : Blk w g T (pre ++ (old ++ post))) (hp : pre.length = n * k) (hS : Src P k tx x m news w) (hl : news.length = old.length) (hr : n + m ≤ cap) :
    (Builtin.append_ #[tS, tx] ty #[.slice (some ⟨g, 0, none⟩) n cap, x]).run P w = .ok (.slice (some ⟨g, 0, none⟩) (n + m) cap) (w.setRow g (pre ++ (news ++ post)).toArray) := by
  have hst := run_storeCells_at P g (n * k) T news 0 _ w hb (by rw [List.size_toArray, List.length_append, List.length_append, hp, hl]; generalize n * k = q; omega) hS.one
  rw [mid_cells news hp hl] at hst
  cases hq : P.info? elem with
  | none => simp [hq] at hs
  | some i =>
    obtain rfl : i.size = k := by simpa [hq] using hs
    rcases hS.kind with ⟨e', hk⟩ | hk <;> simp [Builtin.append_, run_underlying ht, run_underlying hk, sizeOf, typeInfo, hq, hS.len, hr, hS.cells, Addr.add_lit, hst]
theorem zeroCells_one {z : Array Value} {n : Nat} (h : ∀ v ∈ z.toList, v.oneCell' = true) (hz : 0 < z.size) : ∀ v ∈ (Builtin.zeroCells z n).toList, v.oneCell' = true := by
  intro u hu
  simp only [Builtin.zeroCells, Array.toList_map, List.mem_map] at hu
  obtain ⟨j, hj, rfl⟩ := hu
  have hlt : j % z.size < z.size := Nat.mod_lt _ hz
  rw [getElem!_pos z _ hlt]
  exact h _ (by simp)
/-- 'clear' of a part of a block. -/
theorem run_clear_blk {k n c : Nat} (t e ty : TypeId) (z : Value) (ht : P.underlying t = some (.slice e)) (hv : ∀ w, (zeroValue e).run P w = .ok z w) (hz : z.cells.size = k) (hk : 0 < k) (h1 : ∀ v ∈ z.cells.toList, v.oneCell' = true) (hn : 0 < n)
    (hb : Blk w g T (pre ++ (old ++ post))) (hp : pre.length = o) (hl : old.length = n * k) :
    ∃ ds : List Value, ds.length = n * k ∧ (Builtin.clear_ #[t] ty #[.slice (some ⟨g, o, none⟩) n c]).run P w = .ok (.tuple #[]) (w.setRow g (pre ++ (ds ++ post)).toArray) := by
  have hsz : (Builtin.zeroCells z.cells n).toList.length = n * k := by rw [Array.length_toList, size_zeroCells, hz]
  have hst := run_storeCells_at P g o T (Builtin.zeroCells z.cells n).toList 0 _ w hb (by rw [List.size_toArray, List.length_append, List.length_append, hp, hl, hsz]; generalize n * k = q; omega) (zeroCells_one h1 (by omega))
  rw [mid_cells _ hp (by rw [hsz, hl])] at hst
  refine ⟨_, hsz, ?_⟩
  obtain ⟨m, rfl⟩ : ∃ m, n = m + 1 := ⟨n - 1, by omega⟩
  simp [Builtin.clear_, run_underlying ht, hv, hst]

theorem wp_copyB {w : World} {o : Oper} {a : Act} {K : Act → World → Prop} {Q : Exit → Act → World → Prop} (d s : Operand) (t t' : TypeId)
    (ho : o.op = .call { callee := .builtin .copy, args := #[d, s], argTypes := #[t, t'] }) (v u : Value) (hd : a.eval d = v) (hs : a.eval s = u) {v' : Value} {w' : World}
    (hr : (Builtin.copy_ #[t, t'] o.type #[v, u]).run P w = .ok v' w') (h : K (a.put o.dst v') w') : o.wp P a w K Q := by
  unfold Oper.wp execOp
  simp only [ho, resolve, invoke, builtin, Sem.run_bind, Sem.run_pure, Result.andThen_ok, List.map_toArray, List.map_cons, List.map_nil, hd, hs, hr]
  exact h
theorem step_copyB {ops : Array Oper} {o : Oper} {a : Act} {w : World} {K : Act → World → Prop} {Q : Exit → Act → World → Prop} {E : Prop}
    (hg : o.guard = none) (d x : Operand) (dT sT : TypeId) (hop : o.op = Op.call { callee := Callee.builtin Builtin.copy, args := #[d, x], argTypes := #[dT, sT] })
    (v u : Value) (hd : a.eval d = v) (hx : a.eval x = u) {v' : Value} {w' : World} (hr : (Builtin.copy_ #[dT, sT] o.type #[v, u]).run P w = .ok v' w') (hK : K (a.put o.dst v') w') :
    if Region.wanted o (yielded ops a.tmps) = true then Oper.wp P o a w K Q else E := by
  rw [if_pos (by simp [Region.wanted, hg])]
  exact wp_copyB d x dT sT hop v u hd hx hr hK
theorem wpList_appendB {w : World} {ops : Array Oper} {rest : List Oper} {o : Oper} {a : Act} {Q : Exit → Act → World → Prop} (hgd : o.guard = none) (d s : Operand) (t t' : TypeId)
    (ho : o.op = .call { callee := .builtin .append, args := #[d, s], argTypes := #[t, t'] }) (v u : Value) (hd : a.eval d = v) (hs : a.eval s = u) {v' : Value} {w' : World}
    (hr : (Builtin.append_ #[t, t'] o.type #[v, u]).run P w = .ok v' w') (h : wpList P ops Q rest (a.put o.dst v') w') : wpList P ops Q (o :: rest) a w :=
  wpList_plain hgd fun _ hK => by
    unfold Oper.wp execOp
    simp only [ho, resolve, invoke, builtin, Sem.run_bind, Sem.run_pure, Result.andThen_ok, List.map_toArray, List.map_cons, List.map_nil, hd, hs, hr]
    exact hK _ _ h
end
end Go.Proofs.YtljhanhipmnioaaGreat.Rd

namespace Go.Proofs.YtljhanhipmnioaaGreat.Rd
open Go.RowKit
set_option linter.unusedVariables false
set_option linter.unusedSimpArgs false
set_option maxRecDepth 100000

open Pt (Pt may enc zeroPt be4 be1 pc pv PtV SlA OwnA BT wpList_load_g heap_alloc_at Ext Grew yieldsIf_ld)
open Kr (OwnE SlE Enco RowTys)

/-- What slices.Insert tells of a list of rows of one's own. -/
def InsP (v : Value) (l : List RowT) (w : World) (e : Ending) (w' : World) : Prop := ∃ a cap sp, e = .returned (.slice a l.length cap) ∧ OwnE eR 44 56 w' (.slice a l.length cap) l sp ∧ Frm (blk v) w w' ∧ ∀ q ∈ blk (.slice a l.length cap), q ∈ blk v ∨ w.heap.size ≤ q
theorem flt_cut (rs : List RowT) (i : Nat) : Kr.flt eR rs = Kr.flt eR (rs.take i) ++ Kr.flt eR (rs.drop i) := by rw [← Kr.flt_append, List.take_append_drop]
theorem split_at {l : List Value} (k : Nat) (h : k ≤ l.length) : ∃ a b : List Value, l = a ++ b ∧ a.length = k := ⟨l.take k, l.drop k, (List.take_append_drop k l).symm, by simp; omega⟩
theorem append_zeros {w : World} {g cap : Nat} {rs : List RowT} {sp : List Value} (hO : OwnE eR 44 56 w (.slice (some ⟨g, 0, none⟩) rs.length cap) rs sp) (i k : Nat) (hi : i ≤ rs.length) (h0 : 0 < k) (hk : cap < i + k) (hb : i + k ≤ 2000) :
    ∃ G w1 zs, (∀ ty, (Builtin.append_ #[22, 3] ty #[.slice (some ⟨g, 0, none⟩) i cap, .int .i64 (k : Int)]).run Tryz.prog w = .ok (.slice (some ⟨w.heap.size, 0, none⟩) (i + k) G) w1) ∧
      Blk w1 w.heap.size 56 (Kr.flt eR (rs.take i) ++ zs) ∧ zs.length = (G - i) * 44 ∧ i + k ≤ G ∧ G ≤ maxLen ∧ Frm [] w w1 := by
  obtain ⟨z, hzs, hinf⟩ := tysRec.info
  obtain ⟨i0, hi0, hz, hs, hby'⟩ := info_parts hinf
  have hcell : Blk w g 56 (Kr.flt eR (rs.take i) ++ (Kr.flt eR (rs.drop i) ++ sp)) := by
    have := OwnE.heap hO
    rw [flt_cut rs i] at this
    unfold Blk
    simpa using this
  have htl : (Kr.flt eR (rs.take i)).length = i * 44 := by rw [Kr.flt_length encRow, List.length_take, Nat.min_eq_left hi]
  have hold : (Builtin.firstCells i0.size i (.slice (some ⟨g, 0, none⟩) i cap)).run Tryz.prog w.drew = .ok (Kr.flt eR (rs.take i)).toArray w.drew := by
    rw [hs]
    exact run_firstCells_some w.drew 44 i ⟨g, 0, none⟩ i cap _ htl (fun j v hj => by
      rw [add_plain, Nat.zero_add, World.cell?_drew]
      exact hcell.cell j (by rw [List.getElem?_append_left (List.getElem?_eq_some_iff.1 hj).1]; exact hj))
  have hge := grownCap_ge w (i + k) cap 56
  have hcm : grownCap w (i + k) cap 56 ≤ maxLen := grownCap_le_maxLen w (i + k) cap 56 (by simp [maxLen]; omega)
  refine ⟨grownCap w (i + k) cap 56, _, (Builtin.zeroCells z.cells k).toList ++ (Builtin.zeroCells z.cells (grownCap w (i + k) cap 56 - (i + k))).toList, fun ty =>
    Lib.run_append_grow_zeros w 22 3 ty 56 i0 z .i64 .i64 Tryz.underlying22 (by kernel_rfl) hi0 hz (some ⟨g, 0, none⟩) i cap _ hold k h0 (by omega) hk (by omega) (by rw [hby']; omega) (by rw [hby']; exact growslice_fits hk (by omega)), ?_, ?_, hge, hcm, ((Frm.refl _ _).drew).alloc _⟩
  · have := heap_alloc_new w.drew (.cells ((Kr.flt eR (rs.take i)).toArray ++ Builtin.zeroCells z.cells k ++ Builtin.zeroCells z.cells (grownCap w (i + k) cap 56 - (i + k))) 56)
    rw [show w.drew.heap.size = w.heap.size from rfl] at this
    unfold Blk
    rw [this]
    congr 2
    apply Array.ext'
    simp
  · rw [List.length_append, Array.length_toList, Array.length_toList, size_zeroCells, size_zeroCells, hzs, ← Nat.add_mul]
    congr 1
    omega
set_option maxHeartbeats 4000000 in
theorem Insert_any (v : Value) (rs : List RowT) (sp : List Value) (x : RowT) (vb i : Nat) (w : World) (hO : OwnE eR 44 56 w v rs sp) (hx : Blk w vb 56 x.1) (hne : vb ∉ blk v) (hi : i ≤ rs.length) (hl : rs.length ≤ 1000) :
    Calls Tryz.prog 214 #[v, .int .i64 (i : Int), .slice (some ⟨vb, 0, none⟩) 1 1] w (InsP v (rs.take i ++ x :: rs.drop i) w) := by
  have hlen : (rs.take i ++ x :: rs.drop i).length = rs.length + 1 := by simp; omega
  have hxs : SlE eR 44 w (.slice (some ⟨vb, 0, none⟩) 1 1) [x] [] := Kr.SlE.of_block encRow (T := 56) (by rw [Kr.flt_one]; exact hx) rfl (by simp)
  have hl9 : (rs.length : Int) ≤ 1000 := by omega
  have hi9 : (i : Int) ≤ (rs.length : Int) := by omega
  obtain ⟨a, cap, rfl, hnc, hcm⟩ := hO.sl.form
  by_cases hin : i = rs.length
  · subst hin
    rw [List.take_length, List.drop_length] at *
    have HO := Lib.hid hO
    have HX := Lib.hid hxs
    have HL := Lib.hid hl
    have HLN := Lib.hid hlen
    generalize hrl : rs.length = n at *
    have E9 := Lib.hid (show rs.length + [x].length = n + 1 by rw [hrl]; rfl)
    clear hO hxs hx hne hl hi
    go_enter Tryz.func214, Tryz.ntmps214
    cases a with
    | none =>
      have hn0 : n = 0 := by
        rcases Nat.eq_zero_or_pos n with h | h
        · exact h
        · obtain ⟨b, off, h2⟩ := (Kr.OwnE.sl HO.out).at (by omega); cases h2
      have hc0 : cap = 0 := by
        obtain ⟨_, ⟨h2, _⟩ | ⟨g', c', h2, _⟩⟩ := HO.out
        · injection h2
        · cases h2
      subst hc0
      subst hn0
      clear hnc hcm hl9 hi9
      go_wp2_with (at_builtin; refine Kr.wpList_append_e encRow tysRec HO.out HX.out (by have := HL.out; simp; omega) (by decide) rfl (.tmp 23) (.tmp 24) rfl rfl rfl ?_; intro a1 c1 w1 sp1 o1 f1 b1)
      all_goals go_ret
      all_goals rw [E9.out] at o1 b1
      all_goals exact ⟨_, _, _, by rw [HLN.out]; rfl, by rw [HLN.out]; exact o1, f1, by rw [HLN.out]; exact b1⟩
    | some ad =>
      go_wp2_with (at_builtin; refine Kr.wpList_append_e encRow tysRec HO.out HX.out (by have := HL.out; simp; omega) (by decide) rfl (.tmp 23) (.tmp 24) rfl rfl rfl ?_; intro a1 c1 w1 sp1 o1 f1 b1)
      all_goals go_ret
      all_goals rw [E9.out] at o1 b1
      all_goals exact ⟨_, _, _, by rw [HLN.out]; rfl, by rw [HLN.out]; exact o1, f1, by rw [HLN.out]; exact b1⟩
  · have hlt : i < rs.length := by omega
    obtain ⟨b, off, e⟩ := hO.sl.at (by omega)
    cases e
    have hoff : off = 0 := by
      obtain ⟨_, ⟨h2, _⟩ | ⟨g', c', h2, _⟩⟩ := hO
      · cases h2
      · injection h2 with e1; injection e1 with e1; injection e1
    subst hoff
    have hlt9 : ¬ ((i : Int) = (rs.length : Int)) := by omega
    have hi0 : (0 : Int) ≤ (i : Int) := by omega
    obtain ⟨y, ys, hd⟩ : ∃ y ys, rs.drop i = y :: ys := ⟨rs[i], rs.drop (i + 1), by rw [List.getElem_cons_drop]⟩
    have hysl : ys.length = rs.length - i - 1 := by have := congrArg List.length hd; simp at this; omega
    have htl : (Kr.flt eR (rs.take i)).length = i * 44 := by rw [Kr.flt_length encRow, List.length_take, Nat.min_eq_left hi]
    have hdl : (Kr.flt eR (rs.drop i)).length = (rs.length - i) * 44 := by rw [Kr.flt_length encRow, List.length_drop]
    have hyl : (Kr.flt eR ys).length = (rs.length - i - 1) * 44 := by rw [Kr.flt_length encRow, hysl]
    obtain ⟨c1, c2, c3, c4⟩ := OwnE.caps encRow hO
    have hone : ∀ u ∈ Kr.flt eR (rs.drop i), u.oneCell' = true := Kr.flt_oneCell encRow _
    have hcell : Blk w b 56 (Kr.flt eR (rs.take i) ++ (Kr.flt eR (rs.drop i) ++ sp)) := by
      have := OwnE.heap hO
      rw [flt_cut rs i] at this
      unfold Blk
      simpa using this
    have hfin : ∀ post : List Value, Kr.flt eR (rs.take i) ++ (eR x ++ (Kr.flt eR (rs.drop i) ++ post)) = Kr.flt eR (rs.take i ++ x :: rs.drop i) ++ post := fun post => by
      rw [Kr.flt_append, Kr.flt_cons]; simp
    have hvb : vb < w.heap.size := hx.lt
    by_cases hroom : rs.length + 1 ≤ cap
    · obtain ⟨s1, s2, rfl, hs1⟩ := split_at (l := sp) 44 (by have := Nat.mul_le_mul_right 44 hroom; omega)
      have hold : Blk w b 56 ((Kr.flt eR (rs.take i) ++ eR y) ++ ((Kr.flt eR ys ++ s1) ++ s2)) := by
        rw [hd, Kr.flt_cons] at hcell
        simpa using hcell
      have yl : (eR y).length = 44 := y.2.1
      have xl : (eR x).length = 44 := x.2.1
      have hcp1 : ∀ ty dc sc, (Builtin.copy_ #[22, 22] ty #[.slice (some ⟨b, (i + 1) * 44, none⟩) (rs.length + 1 - (i + 1)) dc, .slice (some ⟨b, i * 44, none⟩) (rs.length + 1 - i) sc]).run Tryz.prog w.drew = .ok (goInt (rs.length - i : Nat)) (w.drew.setRow b ((Kr.flt eR (rs.take i) ++ eR y) ++ (Kr.flt eR (rs.drop i) ++ s2)).toArray) := fun ty dc sc => by
        have := run_copy_blk (P := Tryz.prog) (w := w.drew) (k := 44) (o := (i + 1) * 44) 22 22 ty 56 (rs.length + 1 - (i + 1)) dc ⟨b, i * 44, none⟩ (rs.length + 1 - i) sc (Kr.flt eR (rs.drop i)) Tryz.underlying22 i56 (Blk.keep0 hold ((Frm.refl [] w).drew)) (by rw [List.length_append, htl, yl]; omega) (by rw [hdl, List.length_append, hyl, hs1]; omega) (m := rs.length - i) (by omega) (by rw [hdl]) (fun j u hj => by
          rw [add_plain]
          refine (Blk.keep0 hcell ((Frm.refl [] w).drew)).cell _ ?_
          rw [List.getElem?_append_right (by omega), htl, Nat.add_sub_cancel_left, List.getElem?_append_left (List.getElem?_eq_some_iff.1 hj).1]
          exact hj) hone
        exact this
      have hB2 : Blk (w.drew.setRow b ((Kr.flt eR (rs.take i) ++ eR y) ++ (Kr.flt eR (rs.drop i) ++ s2)).toArray) b 56 (Kr.flt eR (rs.take i) ++ (eR y ++ (Kr.flt eR (rs.drop i) ++ s2))) := by
        have := Blk.setRow (Blk.keep0 hold ((Frm.refl [] w).drew)) ((Kr.flt eR (rs.take i) ++ eR y) ++ (Kr.flt eR (rs.drop i) ++ s2))
        simpa using this
      have F2 : Frm [b] w (w.drew.setRow b ((Kr.flt eR (rs.take i) ++ eR y) ++ (Kr.flt eR (rs.drop i) ++ s2)).toArray) := ((Frm.refl [b] w).drew).trans (Frm.setRow _ _ _) (fun j hj => .inl hj)
      generalize w.drew.setRow b ((Kr.flt eR (rs.take i) ++ eR y) ++ (Kr.flt eR (rs.drop i) ++ s2)).toArray = W2 at *
      have hvbb : vb ≠ b := by simpa [blk] using hne
      have hcp2 : ∀ W, Frm [] W2 W → ∀ ty dc, (Builtin.copy_ #[22, 22] ty #[.slice (some ⟨b, i * 44, none⟩) (rs.length + 1 - i) dc, .slice (some ⟨vb, 0, none⟩) 1 1]).run Tryz.prog W = .ok (goInt 1) (W.setRow b (Kr.flt eR (rs.take i ++ x :: rs.drop i) ++ s2).toArray) := fun W fW ty dc => by
        have := run_copy_blk (P := Tryz.prog) (w := W) (k := 44) 22 22 ty 56 (rs.length + 1 - i) dc ⟨vb, 0, none⟩ 1 1 (eR x) Tryz.underlying22 i56 (Blk.keep0 hB2 fW) htl (by rw [xl, yl]) (m := 1) (by omega) (by rw [xl]) (fun j u hj => by
          rw [add_plain, Nat.zero_add]
          exact (Blk.keep0 (Blk.keep hx F2 (by simpa using hvbb)) fW).cell j hj) x.2.2
        rw [hfin] at this
        exact this
      have HFIN := Lib.hid (fun W (fW : Frm [] W2 W) => show InsP (.slice (some ⟨b, 0, none⟩) rs.length cap) (rs.take i ++ x :: rs.drop i) w (.returned (.slice (some ⟨b, 0, none⟩) (rs.length + 1) cap)) (W.setRow b (Kr.flt eR (rs.take i ++ x :: rs.drop i) ++ s2).toArray) from by
        refine ⟨some ⟨b, 0, none⟩, cap, s2, by rw [hlen], Kr.OwnE.of_heap encRow (Blk.setRow (Blk.keep0 hB2 fW) _) rfl (by omega) ?_ c4, ?_, fun q hq => .inl hq⟩
        · rw [hlen]; simp only [List.length_append] at c3; omega
        · exact (F2.trans fW (by simp)).trans (Frm.setRow _ _ _) (fun j hj => .inl hj))
      have hov : ∀ lb cb, (callFunc 227 #[.slice (some ⟨vb, 0, none⟩) 1 1, .slice (some ⟨b, (i + 1) * 44, none⟩) lb cb]).run Tryz.prog w = .ok (.value (.bool false)) w := fun lb cb => by
        rw [run_callFunc_extern Tryz.func227 (by kernel_rfl) (by kernel_rfl) (by kernel_rfl) (e := Extern.SlicesOverlaps.overlaps #[22, 22] #[4]) (by kernel_rfl),
          Lib.run_overlaps_apart w 22 4 56 Tryz.underlying22 44 (fun w => by kernel_rfl) ⟨vb, 0, none⟩ ⟨b, (i + 1) * 44, none⟩ 1 1 lb cb hvbb 56 56 (eR x).toArray.size (Kr.flt eR (rs.take i) ++ (Kr.flt eR (rs.drop i) ++ (s1 ++ s2))).toArray.size
            (by unfold World.shape?; rw [show w.heap[vb]? = some (.cells (eR x).toArray 56 (0, 0)) from hx]) (by unfold World.shape?; rw [show w.heap[b]? = _ from hcell]) (by rw [List.size_toArray, List.length_append, List.length_append, hdl]; omega) (hx.frozen _) (hx.frozen _)]
        rfl
      have HC1 := Lib.hid hcp1
      have HC2 := Lib.hid hcp2
      have hw1 : IntKind.i64.wrap ((i : Int) + 1) = (i : Int) + 1 := by rw [IntKind.wrap_i64]; omega
      have hb1 : (0 : Int) ≤ (i : Int) + 1 := by omega
      have hb3 : (i : Int) ≤ (rs.length : Int) + 1 := by omega
      have hin2 : i ≤ rs.length + 1 := by omega
      have hcap9 : ¬ (cap : Int) < (rs.length : Int) + 1 := by omega
      have hcm9 : cap ≤ 9223372036854775807 := by simp [maxLen] at c4; omega
      have hci : ¬ (cap = i) := by omega
      have hci1 : ¬ (cap = i + 1) := by omega
      generalize rs.length = n at *
      clear hcp1 hcp2 hB2 F2 hold hs1 hfin hone hcell hO hx hxs hd hysl htl hdl hyl c1 c2 c3 c4 hlen hl yl xl
      go_enter Tryz.func214, Tryz.ntmps214
      go_wp2_with (simp only [hov])
      go_region_law (refine step_copyB rfl (.tmp 73) (.tmp 76) 22 22 rfl (.slice (some ⟨b, (i + 1) * 44, none⟩) (n + 1 - (i + 1)) (cap - (i + 1))) (.slice (some ⟨b, i * 44, none⟩) (n + 1 - i) (cap - i)) (by simp [Act.eval, Act.put]) (by simp [Act.eval, Act.put]) (HC1.out 3 (cap - (i + 1)) (cap - i)) ?_)
      go_wp2_with (simp only [HC2.out W2 (Frm.refl [] W2) 3 (cap - i)])
      go_ret
      exact HFIN.out _ (Frm.refl [] W2)
    · obtain ⟨G, W1, zs, hrun, hB1, hzl, hG1, hG2, F1⟩ := append_zeros hO i (rs.length + 1 - i) hi (by omega) (by omega) (by omega)
      have hN : b ≠ w.heap.size := by have := hcell.lt; omega
      obtain ⟨z1, z', rfl, hz1⟩ := split_at (l := zs) 44 (by rw [hzl]; omega)
      obtain ⟨z2, z3, rfl, hz2⟩ := split_at (l := z') ((rs.length - i) * 44) (by simp at hzl; omega)
      have hk1 : i + (rs.length + 1 - i) = rs.length + 1 := by omega
      rw [hk1] at hrun hG1
      rw [show ((rs.length + 1 - i : Nat) : Int) = (rs.length : Int) + 1 - (i : Int) by omega] at hrun
      have hcp1 : ∀ ty sc, (Builtin.copy_ #[22, 22] ty #[.slice (some ⟨w.heap.size, i * 44, none⟩) (rs.length + 1 - i) sc, .slice (some ⟨vb, 0, none⟩) 1 1]).run Tryz.prog W1 = .ok (goInt 1) (W1.setRow w.heap.size (Kr.flt eR (rs.take i) ++ (eR x ++ (z2 ++ z3))).toArray) := fun ty sc => by
        have := run_copy_blk (P := Tryz.prog) (k := 44) 22 22 ty 56 (rs.length + 1 - i) sc ⟨vb, 0, none⟩ 1 1 (eR x) Tryz.underlying22 i56 hB1 htl (by rw [hz1]; exact x.2.1) (m := 1) (by omega) (by rw [show (eR x).length = 44 from x.2.1]) (fun j u hj => by
          rw [add_plain, Nat.zero_add]
          exact (Blk.keep0 hx F1).cell j hj) x.2.2
        exact this
      have hB2 : Blk (W1.setRow w.heap.size (Kr.flt eR (rs.take i) ++ (eR x ++ (z2 ++ z3))).toArray) w.heap.size 56 ((Kr.flt eR (rs.take i) ++ eR x) ++ (z2 ++ z3)) := by
        have := hB1.setRow (Kr.flt eR (rs.take i) ++ (eR x ++ (z2 ++ z3)))
        simpa using this
      have F2 : Frm [w.heap.size] W1 (W1.setRow w.heap.size (Kr.flt eR (rs.take i) ++ (eR x ++ (z2 ++ z3))).toArray) := Frm.setRow _ _ _
      generalize W1.setRow w.heap.size (Kr.flt eR (rs.take i) ++ (eR x ++ (z2 ++ z3))).toArray = W2 at *
      have hcp2 : ∀ ty dc sc, (Builtin.copy_ #[22, 22] ty #[.slice (some ⟨w.heap.size, (i + 1) * 44, none⟩) (rs.length + 1 - (i + 1)) dc, .slice (some ⟨b, i * 44, none⟩) (rs.length - i) sc]).run Tryz.prog W2.drew = .ok (goInt (rs.length - i : Nat)) (W2.drew.setRow w.heap.size (Kr.flt eR (rs.take i ++ x :: rs.drop i) ++ z3).toArray) := fun ty dc sc => by
        have hsrc := Blk.keep0 (Blk.keep (Blk.keep0 hcell F1) F2 (by simp; exact hN)) ((Frm.refl [] W2).drew)
        have := run_copy_blk (P := Tryz.prog) (w := W2.drew) (k := 44) (o := (i + 1) * 44) 22 22 ty 56 (rs.length + 1 - (i + 1)) dc ⟨b, i * 44, none⟩ (rs.length - i) sc (Kr.flt eR (rs.drop i)) Tryz.underlying22 i56 (Blk.keep0 hB2 ((Frm.refl [] W2).drew)) (by rw [List.length_append, htl, show (eR x).length = 44 from x.2.1]; omega) (by rw [hdl, hz2]) (m := rs.length - i) (by omega) (by rw [hdl]) (fun j u hj => by
          rw [add_plain]
          refine hsrc.cell _ ?_
          rw [List.getElem?_append_right (by omega), htl, Nat.add_sub_cancel_left, List.getElem?_append_left (List.getElem?_eq_some_iff.1 hj).1]
          exact hj) hone
        rw [List.append_assoc, hfin] at this
        exact this
      have hB3 : Blk (W2.drew.setRow w.heap.size (Kr.flt eR (rs.take i ++ x :: rs.drop i) ++ z3).toArray) w.heap.size 56 (Kr.flt eR (rs.take i ++ x :: rs.drop i) ++ z3) := Blk.setRow (Blk.keep0 hB2 ((Frm.refl [] W2).drew)) _
      have F3 : Frm [] w (W2.drew.setRow w.heap.size (Kr.flt eR (rs.take i ++ x :: rs.drop i) ++ z3).toArray) := by
        refine F1.trans (F2.trans (((Frm.refl [w.heap.size] W2).drew).trans (Frm.setRow _ _ _) (fun j hj => .inl hj)) (fun j hj => .inl hj)) (fun j hj => ?_)
        simp at hj
        exact .inr (by omega)
      generalize W2.drew.setRow w.heap.size (Kr.flt eR (rs.take i ++ x :: rs.drop i) ++ z3).toArray = W3 at *
      have HFIN := Lib.hid (show InsP (.slice (some ⟨b, 0, none⟩) rs.length cap) (rs.take i ++ x :: rs.drop i) w (.returned (.slice (some ⟨w.heap.size, 0, none⟩) (rs.length + 1) G)) W3 from by
        refine ⟨some ⟨w.heap.size, 0, none⟩, G, z3, by rw [hlen], Kr.OwnE.of_heap encRow hB3 rfl (by omega) ?_ hG2, F3.mono (by simp), fun q hq => ?_⟩
        · rw [hlen]; simp only [List.length_append] at hzl; omega
        · simp [blk] at hq; exact .inr (by omega))
      have HR := Lib.hid hrun
      have HC1 := Lib.hid hcp1
      have HC2 := Lib.hid hcp2
      have hcap9 : (cap : Int) < (rs.length : Int) + 1 := by omega
      have hw1 : IntKind.i64.wrap ((i : Int) + 1) = (i : Int) + 1 := by rw [IntKind.wrap_i64]; omega
      have hb1 : (0 : Int) ≤ (i : Int) + 1 := by omega
      have hb3 : (i : Int) + 1 ≤ (rs.length : Int) + 1 := by omega
      have hb4 : (i : Int) ≤ (rs.length : Int) := by omega
      have hG9 : (rs.length : Int) + 1 ≤ (G : Int) := by omega
      have hGm : G ≤ 9223372036854775807 := by simp [maxLen] at hG2; omega
      have hGi : ¬ (G = i) := by omega
      have hGim : ¬ (G = i + 1) := by omega
      have hci : ¬ (cap = i) := by omega
      generalize rs.length = n at *
      clear hrun hcp1 hcp2 hB1 hB2 hB3 F1 F2 F3 hzl hz1 hz2 hfin hone hcell hO hx hxs hd hysl htl hdl hyl c1 c2 c3 c4 hlen hl hG1 hG2
      go_enter Tryz.func214, Tryz.ntmps214
      go_wp2_with (first
        | (at_builtin; refine wpList_appendB rfl (.tmp 34) (.tmp 39) 22 3 rfl _ _ rfl rfl (HR.out _) ?_)
        | (simp only [HC1.out 3 (G - i)]))
      go_region_law (refine step_copyB rfl (.tmp 50) (.tmp 53) 22 22 rfl (.slice (some ⟨w.heap.size, (i + 1) * 44, none⟩) (n + 1 - (i + 1)) (G - (i + 1))) (.slice (some ⟨b, i * 44, none⟩) (n - i) (cap - i)) (by simp [Act.eval, Act.put]) (by simp [Act.eval, Act.put]) (HC2.out 3 (G - (i + 1)) (cap - i)) ?_)
      go_wp2_with (fail)
      go_ret
      exact HFIN.out
end Go.Proofs.YtljhanhipmnioaaGreat.Rd

namespace Go.Proofs.YtljhanhipmnioaaGreat.Rd
open Go.RowKit
set_option linter.unusedVariables false
set_option linter.unusedSimpArgs false
set_option maxRecDepth 100000

open Pt (Pt may enc zeroPt be4 be1 pc pv PtV SlA OwnA BT wpList_load_g heap_alloc_at Ext Grew yieldsIf_ld)
open Kr (OwnE SlE Enco RowTys)

theorem ins_get {α : Type} {l : List α} {k : Nat} {x y : α} (hk : k ≤ l.length) {j : Nat} (h : (l.take k ++ x :: l.drop k)[j]? = some y) : (j < k ∧ l[j]? = some y) ∨ (j = k ∧ y = x) ∨ (k < j ∧ l[j - 1]? = some y) := by
  have ht : (l.take k).length = k := by simp; omega
  rcases Nat.lt_trichotomy j k with q | q | q
  · left
    rw [List.getElem?_append_left (by omega), List.getElem?_take_of_lt q] at h
    exact ⟨q, h⟩
  · right; left
    subst q
    rw [List.getElem?_append_right (by omega), ht, Nat.sub_self, List.getElem?_cons_zero] at h
    injection h with h
    exact ⟨rfl, h.symm⟩
  · right; right
    rw [List.getElem?_append_right (by omega), ht, show j - k = (j - k - 1) + 1 by omega, List.getElem?_cons_succ, List.getElem?_drop] at h
    rw [show k + (j - k - 1) = j - 1 by omega] at h
    exact ⟨q, h⟩
theorem del_get {α : Type} {l : List α} {i n j : Nat} {y : α} (hi : i ≤ l.length) (h : (l.take i ++ l.drop (i + n))[j]? = some y) : (j < i ∧ l[j]? = some y) ∨ (i ≤ j ∧ l[j + n]? = some y) := by
  have ht : (l.take i).length = i := by simp; omega
  rcases Nat.lt_or_ge j i with q | q
  · left
    rw [List.getElem?_append_left (by omega), List.getElem?_take_of_lt q] at h
    exact ⟨q, h⟩
  · right
    rw [List.getElem?_append_right (by omega), ht, List.getElem?_drop, show i + n + (j - i) = j + n by omega] at h
    exact ⟨q, h⟩
/-- One record more in a told list. -/
theorem Tl.ins {w0 w w' : World} {v v' : Value} {l : List Rec} {rs : List RowT} {B : List Nat} {sp : List Value} {k : Nat} {x : Rec} {r : RowT} (h : Tl w0 w v l rs B) (hk : k ≤ rs.length) (hr : RowO w r x)
    (ho : OwnE eR 44 56 w' v' (rs.take k ++ r :: rs.drop k) sp) (f : Frm (blk v) w w') (hv : ∀ q ∈ blk v', q ∈ blk v ∨ w.heap.size ≤ q) (hb : ∀ q ∈ rb r, w0.heap.size ≤ q ∧ q ∉ B) (h0 : w0.heap.size ≤ w.heap.size) :
    Tl w0 w' v' (l.take k ++ x :: l.drop k) (rs.take k ++ r :: rs.drop k) (B ++ (rb r ++ blk v')) := by
  have hlen := h.len
  have old : ∀ (j : Nat) (s : RowT), (rs.take k ++ r :: rs.drop k)[j]? = some s → (j = k ∧ s = r) ∨ ∃ j', rs[j']? = some s ∧ j' = (if j < k then j else j - 1) ∧ j ≠ k := fun j s hj => by
    rcases ins_get hk hj with ⟨q, e⟩ | ⟨q, e⟩ | ⟨q, e⟩
    · exact .inr ⟨j, e, by rw [if_pos q], by omega⟩
    · exact .inl ⟨q, e⟩
    · exact .inr ⟨j - 1, e, by rw [if_neg (by omega)], by omega⟩
  have nv : ∀ q ∈ rb r, q ∉ blk v := fun q hq hm => (hb q hq).2 (h.inv q hm)
  have keepO : ∀ (j : Nat) (s : RowT) (u : Rec), rs[j]? = some s → l[j]? = some u → RowO w' s u := fun j s u h1 h2 => (h.row j s u h1 h2).keep f (h.vsep j s h1)
  refine ⟨⟨sp, ho⟩, by simp only [List.length_append, List.length_take, List.length_cons, List.length_drop]; omega, fun j s u h1 h2 => ?_, fun i j s s' hij h1 h2 q hq hm => ?_, fun j s h1 q hq hm => ?_, fun q hq => by simp [hq], fun j s h1 q hq => ?_, fun q hq => ?_⟩
  · rcases ins_get hk h1 with ⟨a, b⟩ | ⟨a, b⟩ | ⟨a, b⟩ <;> rcases ins_get (by omega) h2 with ⟨a', b'⟩ | ⟨a', b'⟩ | ⟨a', b'⟩
    · exact keepO _ _ _ b b'
    · omega
    · omega
    · omega
    · subst b; subst b'; exact hr.keep f nv
    · omega
    · omega
    · omega
    · exact keepO _ _ _ b b'
  · rcases old i s h1 with ⟨a, rfl⟩ | ⟨a, b, c, d⟩ <;> rcases old j s' h2 with ⟨a', rfl⟩ | ⟨a', b', c', d'⟩
    · exact hij (a.trans a'.symm)
    · exact (hb q hq).2 (h.inr _ _ b' q hm)
    · exact (hb q hm).2 (h.inr _ _ b q hq)
    · refine h.sep a a' _ _ (fun e => hij ?_) b b' q hq hm
      rw [c, c'] at e
      split at e <;> split at e <;> omega
  · rcases old j s h1 with ⟨a, rfl⟩ | ⟨a, b, c, d⟩
    · rcases hv q hm with e | e
      · exact nv q hq e
      · have := hr.lt q hq; omega
    · rcases hv q hm with e | e
      · exact h.vsep a s b q hq e
      · have := (h.lo q (h.inr a s b q hq)).2; omega
  · rcases old j s h1 with ⟨a, rfl⟩ | ⟨a, b, c, d⟩
    · simp [hq]
    · have := h.inr a s b q hq; simp [this]
  · have hs := f.size
    rcases List.mem_append.1 hq with hq | hq
    · have := h.lo q hq; exact ⟨this.1, by omega⟩
    · rcases List.mem_append.1 hq with hq | hq
      · exact ⟨(hb q hq).1, by have := hr.lt q hq; omega⟩
      · refine ⟨?_, ho.lt q hq⟩
        rcases hv q hq with e | e
        · exact (h.lo q (h.inv q e)).1
        · omega
/-- Some records less in a told list. -/
theorem Tl.del {w0 w w' : World} {v v' : Value} {l : List Rec} {rs : List RowT} {B : List Nat} {sp : List Value} {i n : Nat} (h : Tl w0 w v l rs B) (hi : i ≤ rs.length) (ho : OwnE eR 44 56 w' v' (rs.take i ++ rs.drop (i + n)) sp) (f : Frm (blk v) w w') (hv : blk v' = blk v) :
    Tl w0 w' v' (l.take i ++ l.drop (i + n)) (rs.take i ++ rs.drop (i + n)) (blk v' ++ (rs.take i ++ rs.drop (i + n)).flatMap rb) := by
  have hlen := h.len
  have old : ∀ (j : Nat) (s : RowT), (rs.take i ++ rs.drop (i + n))[j]? = some s → ∃ j', rs[j']? = some s ∧ j' = (if j < i then j else j + n) := fun j s hj => by
    rcases del_get hi hj with ⟨q, e⟩ | ⟨q, e⟩
    · exact ⟨j, e, by rw [if_pos q]⟩
    · exact ⟨j + n, e, by rw [if_neg (by omega)]⟩
  refine ⟨⟨sp, ho⟩, by simp only [List.length_append, List.length_take, List.length_drop]; omega, fun j s u h1 h2 => ?_, fun a b s s' hab h1 h2 => ?_, fun j s h1 => ?_, fun q hq => List.mem_append_left _ hq, fun j s h1 q hq => List.mem_append_right _ (List.mem_flatMap.2 ⟨s, List.mem_of_getElem? h1, hq⟩), fun q hq => ?_⟩
  · obtain ⟨j', e, c⟩ := old j s h1
    have : l[j']? = some u := by
      rcases del_get (by omega) h2 with ⟨q, e2⟩ | ⟨q, e2⟩
      · rw [c, if_pos q]; exact e2
      · rw [c, if_neg (by omega)]; exact e2
    exact (h.row j' s u e this).keep f (h.vsep j' s e)
  · obtain ⟨a', e, c⟩ := old a s h1
    obtain ⟨b', e', c'⟩ := old b s' h2
    refine h.sep a' b' s s' (fun x => hab ?_) e e'
    rw [c, c'] at x
    split at x <;> split at x <;> omega
  · obtain ⟨j', e, c⟩ := old j s h1
    rw [hv]
    exact h.vsep j' s e
  · have hs := f.size
    rcases List.mem_append.1 hq with hq | hq
    · rw [hv] at hq
      have := h.lo q (h.inv q hq)
      exact ⟨this.1, by omega⟩
    · obtain ⟨s, hs', hq⟩ := List.mem_flatMap.1 hq
      obtain ⟨j, hj⟩ := List.getElem?_of_mem hs'
      obtain ⟨j', e, c⟩ := old j s hj
      have := h.lo q (h.inr j' s e q hq)
      exact ⟨this.1, by omega⟩
end Go.Proofs.YtljhanhipmnioaaGreat.Rd

namespace Go.Proofs.YtljhanhipmnioaaGreat.Rd
open Go.RowKit
set_option linter.unusedVariables false
set_option linter.unusedSimpArgs false
set_option maxRecDepth 100000

open Pt (Pt may enc zeroPt be4 be1 pc pv PtV SlA OwnA BT wpList_load_g heap_alloc_at Ext Grew yieldsIf_ld)
open Kr (OwnE SlE Enco RowTys)
/-- A record put in where its name has to stand. -/
def insR (x : Rec) (l : List Rec) : List Rec := l.takeWhile (fun y => lessS y.name x.name) ++ x :: l.dropWhile (fun y => lessS y.name x.name)
/-- Records, put in one behind the other. -/
def insAll (xs l : List Rec) : List Rec := xs.foldl (fun o x => insR x o) l
theorem insAll_cons (x : Rec) (xs l : List Rec) : insAll (x :: xs) l = insAll xs (insR x l) := rfl
theorem insAll_append (xs ys l : List Rec) : insAll (xs ++ ys) l = insAll ys (insAll xs l) := by simp [insAll]
theorem insR_less {x y : Rec} {l : List Rec} (h : lessS y.name x.name = true) : insR x (y :: l) = y :: insR x l := by simp [insR, h]
theorem insR_not {x y : Rec} {l : List Rec} (h : lessS y.name x.name = false) : insR x (y :: l) = x :: y :: l := by simp [insR, h]
/-- Names rise. -/
def Srt (l : List Rec) : Prop := l.Pairwise fun x y => lessS x.name y.name = true
theorem Srt.insR {x : Rec} : ∀ {l : List Rec}, Srt l → (∀ y ∈ l, y.name ≠ x.name) → Srt (insR x l)
  | [], h, hn => by simp [Srt, Rd.insR]
  | y :: l, h, hn => by
    have hp := List.pairwise_cons.1 h
    cases hy : lessS y.name x.name with
    | true =>
      rw [insR_less hy]
      refine List.pairwise_cons.2 ⟨fun z hz => ?_, Srt.insR hp.2 (fun z hz => hn z (List.mem_cons_of_mem _ hz))⟩
      have : z = x ∨ z ∈ l := by
        unfold Rd.insR at hz
        rcases List.mem_append.1 hz with h1 | h1
        · exact .inr (List.takeWhile_subset _ h1)
        · rcases List.mem_cons.1 h1 with h1 | h1
          · exact .inl h1
          · exact .inr (List.dropWhile_subset _ h1)
      rcases this with rfl | h1
      · exact hy
      · exact hp.1 z h1
    | false =>
      rw [insR_not hy]
      have hxy : lessS x.name y.name = true := by
        cases hx : lessS x.name y.name with
        | true => rfl
        | false => exact absurd (less_tri hy hx) (hn y (by simp))
      refine List.pairwise_cons.2 ⟨fun z hz => ?_, h⟩
      rcases List.mem_cons.1 hz with rfl | h1
      · exact hxy
      · exact less_trans hxy (hp.1 z h1)
theorem mem_insR {x z : Rec} {l : List Rec} : z ∈ insR x l ↔ z = x ∨ z ∈ l := by
  unfold insR
  rw [List.mem_append, List.mem_cons]
  have e : z ∈ l ↔ z ∈ l.takeWhile (fun y => lessS y.name x.name) ∨ z ∈ l.dropWhile (fun y => lessS y.name x.name) := by
    conv => lhs; rw [← List.takeWhile_append_dropWhile (p := fun y => lessS y.name x.name) (l := l)]
    exact List.mem_append
  rw [e]
  constructor
  · rintro (h | h | h)
    · exact .inr (.inl h)
    · exact .inl h
    · exact .inr (.inr h)
  · rintro (h | h | h)
    · exact .inr (.inl h)
    · exact .inl h
    · exact .inr (.inr h)
theorem MayT.srt {t : Tab} (h : MayT t) : Srt t.recs := by
  unfold Srt
  rw [List.pairwise_iff_getElem]
  intro i j hi hj hij
  exact names_rise h.recs (List.getElem?_eq_getElem hi) (List.getElem?_eq_getElem hj) hij
/-- What the record at a place is, beside the others. -/
structure At (t : Tab) (i : Nat) (x : Rec) : Prop where
  one : mayR x = true
  id : x.id < t.next
  kin : kinB t.recs x = true
theorem MayT.at {t : Tab} (h : MayT t) {i : Nat} {x : Rec} (hx : t.recs[i]? = some x) : At t i x := by
  have hs := allB_rec h.recs hx
  unfold stand at hs
  simp only [Bool.and_eq_true, decide_eq_true_eq] at hs
  exact ⟨hs.1, hs.2.1, hs.2.2.2.2⟩
theorem MayT.ids {t : Tab} (h : MayT t) {i k : Nat} {x y : Rec} (hx : t.recs[i]? = some x) (hy : t.recs[k]? = some y) (e : x.id = y.id) : i = k := by
  have key : ∀ {i k : Nat} {x y : Rec}, t.recs[i]? = some x → t.recs[k]? = some y → i < k → x.id ≠ y.id := fun {i k x y} hx hy hik => by
    have hs := allB_rec h.recs hy
    unfold stand at hs
    simp only [Bool.and_eq_true, List.all_eq_true] at hs
    have := hs.2.2.2.1 x (List.mem_of_getElem? (i := i) (by rw [List.getElem?_take_of_lt hik]; exact hx))
    simpa using this
  rcases Nat.lt_trichotomy i k with q | q | q
  · exact absurd e (key hx hy q)
  · exact q
  · exact absurd e.symm (key hy hx q)
theorem mayR_id {x : Rec} (h : mayR x = true) : 1 ≤ x.id := by
  unfold mayR at h
  simp only [Bool.and_eq_true, wi_iff] at h
  exact h.1.1.1
theorem mayR_kind {x : Rec} (h : mayR x = true) : (x.kind = 1 ∧ partS x.name = true ∧ x.of = 0) ∨ (x.kind = 2 ∧ snapS x.name = true ∧ 1 ≤ x.of ∧ x.origin = 0) := by
  unfold mayR at h
  simp only [Bool.and_eq_true] at h
  have h2 := h.2.2
  split at h2
  · next h1 =>
    unfold volR at h2
    simp only [Bool.and_eq_true, beq_iff_eq] at h2
    exact .inl ⟨h1, h2.1, h2.2.1⟩
  · split at h2
    · next h1 =>
      unfold snpR at h2
      simp only [Bool.and_eq_true, beq_iff_eq, wi_iff] at h2
      exact .inr ⟨h1, h2.1, h2.2.1.1, h2.2.2.1⟩
    · cases h2
/-- A snapshot's volume. -/
theorem MayT.vol {t : Tab} (h : MayT t) {i : Nat} {x : Rec} (hx : t.recs[i]? = some x) (hk : x.kind = 2) : ∃ k y, fnd (spl1 x.name) t.recs = some k ∧ t.recs[k]? = some y ∧ y.name = spl1 x.name ∧ y.id = x.of := by
  have := (h.at hx).kin
  unfold kinB at this
  rw [if_pos hk] at this
  cases hf : fnd (spl1 x.name) t.recs with
  | none => rw [hf] at this; cases this
  | some k =>
    rw [hf] at this
    obtain ⟨y, h1, h2, _⟩ := fnd_some hf
    simp only [h1, beq_iff_eq] at this
    exact ⟨k, y, rfl, h1, h2, this⟩
/-- Whose snapshot a record is: that of the name ahead of its mark. -/
theorem MayT.of_iff {t : Tab} (h : MayT t) {i k : Nat} {v s : Rec} (hv : t.recs[i]? = some v) (hs : t.recs[k]? = some s) : s.of = v.id ↔ snapS s.name = true ∧ spl1 s.name = v.name := by
  have ov := (h.at hv).one
  have os := (h.at hs).one
  rcases mayR_kind os with ⟨hk, hp, ho⟩ | ⟨hk, hp, ho, _⟩
  · constructor
    · intro e
      have := mayR_id ov
      omega
    · rintro ⟨e, _⟩
      rw [snap_part e] at hp
      cases hp
  · obtain ⟨j, y, h1, h2, h3, h4⟩ := h.vol hs hk
    constructor
    · intro e
      obtain rfl := h.ids h2 hv (h4.trans e)
      rw [hv] at h2
      cases h2
      exact ⟨hp, h3.symm⟩
    · rintro ⟨_, e⟩
      rw [e, fnd_own h hv] at h1
      cases h1
      rw [hv] at h2
      cases h2
      exact h4.symm
theorem snap_join {s v : ByteArray} (hs : snapS s = true) (hv : spl1 s = v) : joins v (spl2 s) = true ∧ joinS v (spl2 s) = s := by
  subst hv
  exact ⟨(snap_back hs).1, (snap_back hs).2.1⟩
theorem joinS_list {v p : ByteArray} (h : joins v p = true) : (joinS v p).data.toList = v.data.toList ++ 64 :: p.data.toList := by
  unfold joinS
  rw [if_pos h, sB_list]
theorem MayT.between {t : Tab} (h : MayT t) {i k j : Nat} {v s x : Rec} (hv : t.recs[i]? = some v) (hs : t.recs[k]? = some s) (hx : t.recs[j]? = some x) (e : s.of = v.id) (h1 : i < j) (h2 : j ≤ k) : x.of = v.id := by
  rcases Nat.lt_or_ge j k with hjk | hjk
  · obtain ⟨a, b⟩ := (h.of_iff hv hs).1 e
    obtain ⟨c, d⟩ := snap_join a b
    have r1 := names_rise h.recs hv hx h1
    have r2 := names_rise h.recs hx hs hjk
    rw [← d] at r2
    rw [h.of_iff hv hx]
    rcases together c (less_asymm r1) r2 with q | ⟨_, q⟩
    · rw [q, less_irrefl] at r1; cases r1
    · have hn : x.name.data.toList = v.name.data.toList ++ 64 :: x.name.data.toList.drop (v.name.data.toList.length + 1) := by
        conv => lhs; rw [← List.take_append_drop (v.name.data.toList.length + 1) x.name.data.toList, q]
        simp
      have pv : partS v.name = true := by
        unfold joins at c
        simp only [Bool.and_eq_true] at c
        exact c.1
      have hc := cut_join v.name.data.toList (x.name.data.toList.drop (v.name.data.toList.length + 1)) (part_none pv)
      rw [← hn] at hc
      rcases mayR_kind (h.at hx).one with ⟨_, hp, _⟩ | ⟨_, hp, _⟩
      · rw [part_cut hp] at hc
        injection hc with _ hc
        injection hc with _ hc
        cases hc
      · refine ⟨hp, ?_⟩
        unfold spl1
        rw [if_pos hp]
        unfold cut1
        rw [hc]
        exact sB_data _
  · obtain rfl : j = k := by omega
    rw [hx] at hs
    cases hs
    exact e
def cntOf (id : Int) (l : List Rec) : Nat := l.countP fun r => r.of == id
theorem cntOf_none {id : Int} {l : List Rec} (h : ∀ s ∈ l, s.of ≠ id) : cntOf id l = 0 := by
  unfold cntOf
  rw [List.countP_eq_zero]
  intro s hs
  simpa using h s hs
theorem cntOf_all {id : Int} {l : List Rec} (h : ∀ s ∈ l, s.of = id) : cntOf id l = l.length := by
  unfold cntOf
  rw [List.countP_eq_length]
  intro s hs
  simpa using h s hs
/-- A record and those that are of it stand together. -/
structure Held (t : Tab) (i : Nat) (v : Rec) (A M C : List Rec) : Prop where
  eq : t.recs = A ++ v :: (M ++ C)
  len : A.length = i
  mine : ∀ s ∈ M, s.of = v.id
  notA : ∀ s ∈ A, s.of ≠ v.id
  notV : v.of ≠ v.id
  notC : ∀ s ∈ C, s.of ≠ v.id
theorem Held.cnt {t : Tab} {i : Nat} {v : Rec} {A M C : List Rec} (h : Held t i v A M C) : cntOf v.id t.recs = M.length := by
  have e : cntOf v.id t.recs = cntOf v.id A + (cntOf v.id [v] + (cntOf v.id M + cntOf v.id C)) := by
    rw [h.eq]
    unfold cntOf
    rw [List.countP_append, show v :: (M ++ C) = [v] ++ (M ++ C) from rfl, List.countP_append, List.countP_append]
  rw [e, cntOf_none h.notA, cntOf_all h.mine, cntOf_none h.notC, cntOf_none (fun s hs => by rw [List.mem_singleton.1 hs]; exact h.notV)]
  omega
theorem Held.rest {t : Tab} {i : Nat} {v : Rec} {A M C : List Rec} (h : Held t i v A M C) : t.recs.take i = A ∧ (t.recs.drop i).take (1 + M.length) = v :: M ∧ t.recs.drop (i + (1 + M.length)) = C := by
  have e : t.recs.drop i = (v :: M) ++ C := by
    rw [h.eq, ← h.len, List.drop_left]
    rfl
  refine ⟨by rw [h.eq, ← h.len, List.take_left], ?_, ?_⟩
  · rw [e, List.take_left' (by simp; omega)]
  · rw [← List.drop_drop, e, List.drop_left' (by simp; omega)]
theorem MayT.held {t : Tab} (h : MayT t) {i : Nat} {v : Rec} (hv : t.recs[i]? = some v) : ∃ A M C, Held t i v A M C := by
  have hi := (List.getElem?_eq_some_iff.1 hv).1
  have hvi := (List.getElem?_eq_some_iff.1 hv).2
  refine ⟨t.recs.take i, (t.recs.drop (i + 1)).takeWhile (fun r => r.of == v.id), (t.recs.drop (i + 1)).dropWhile (fun r => r.of == v.id), ?_, by simp; omega, ?_, ?_, ?_, ?_⟩
  · rw [List.takeWhile_append_dropWhile, ← hvi, List.getElem_cons_drop, List.take_append_drop]
  · intro s hs
    have := List.all_eq_true.1 (List.all_takeWhile (p := fun r : Rec => r.of == v.id) (l := t.recs.drop (i + 1))) s hs
    simpa using this
  · intro s hs e
    obtain ⟨k, hk⟩ := List.getElem?_of_mem hs
    have hki : k < i := by
      have := (List.getElem?_eq_some_iff.1 hk).1
      simp at this
      omega
    rw [List.getElem?_take_of_lt hki] at hk
    obtain ⟨a, b⟩ := (h.of_iff hv hk).1 e
    obtain ⟨c, d⟩ := snap_join a b
    have r1 := names_rise h.recs hk hv hki
    have r2 := less_join c
    rw [d] at r2
    rw [less_asymm r2] at r1
    cases r1
  · intro e
    obtain ⟨a, b⟩ := (h.of_iff hv hv).1 e
    obtain ⟨c, d⟩ := snap_join a b
    have r2 := less_join c
    rw [d, less_irrefl] at r2
    cases r2
  · intro s hs e
    have hd : (t.recs.drop (i + 1)).takeWhile (fun r => r.of == v.id) ++ (t.recs.drop (i + 1)).dropWhile (fun r => r.of == v.id) = t.recs.drop (i + 1) := List.takeWhile_append_dropWhile
    generalize hD : (t.recs.drop (i + 1)).dropWhile (fun r => r.of == v.id) = D at *
    generalize (t.recs.drop (i + 1)).takeWhile (fun r => r.of == v.id) = M at *
    cases D with
    | nil => cases hs
    | cons c D =>
      have hc : ¬ (c.of == v.id) = true := by
        have := List.head_dropWhile_not (fun r : Rec => r.of == v.id) (l := t.recs.drop (i + 1)) (by rw [hD]; simp)
        simp only [hD, List.head_cons] at this
        simp [this]
      obtain ⟨k, hk⟩ := List.getElem?_of_mem hs
      have gc : t.recs[i + 1 + M.length]? = some c := by
        rw [← List.getElem?_drop, ← hd, List.getElem?_append_right (Nat.le_refl _), Nat.sub_self]
        rfl
      have gs : t.recs[i + 1 + (M.length + k)]? = some s := by
        rw [← List.getElem?_drop, ← hd, List.getElem?_append_right (by omega), Nat.add_sub_cancel_left]
        exact hk
      have := h.between hv gs gc e (by omega) (by omega)
      exact hc (by simpa using this)
/-- A renamed name. -/
def renN (n m s : ByteArray) : ByteArray := sB (m.data.toList ++ s.data.toList.drop n.data.toList.length)
theorem renN_self (n m : ByteArray) : renN n m n = m := by
  unfold renN
  rw [List.drop_length, List.append_nil, sB_data]
theorem renN_snap {n m s : ByteArray} (hs : snapS s = true) (h1 : spl1 s = n) (hm : partS m = true) : joins m (spl2 s) = true ∧ renN n m s = joinS m (spl2 s) := by
  obtain ⟨c, d⟩ := snap_join hs h1
  have c2 : joins m (spl2 s) = true := by
    unfold joins at c ⊢
    simp only [Bool.and_eq_true] at c
    rw [hm, c.2]
    rfl
  refine ⟨c2, ?_⟩
  have e : s.data.toList = n.data.toList ++ 64 :: (spl2 s).data.toList := by rw [← joinS_list c, d]
  unfold renN
  rw [e, List.drop_left]
  unfold joinS
  rw [if_pos c2]
def renR (n m : ByteArray) (x : Rec) : Rec := withName x (renN n m x.name)
theorem take_while {p : Rec → Bool} : ∀ {l : List Rec} {k : Nat}, k ≤ l.length → (∀ j (h : j < l.length), j < k → p l[j] = true) → (∀ j (h : j < l.length), k ≤ j → p l[j] = false) → l.takeWhile p = l.take k ∧ l.dropWhile p = l.drop k
  | [], k, hk, h1, h2 => by simp
  | x :: l, 0, hk, h1, h2 => by
    have := h2 0 (by simp) (Nat.le_refl _)
    simp only [List.getElem_cons_zero] at this
    simp [this]
  | x :: l, k + 1, hk, h1, h2 => by
    have h3 := h1 0 (by simp) (by omega)
    simp only [List.getElem_cons_zero] at h3
    have ih := take_while (p := p) (l := l) (k := k) (by simpa using hk) (fun j h hj => by have := h1 (j + 1) (by simp; omega) (by omega); simpa using this) (fun j h hj => by have := h2 (j + 1) (by simp; omega) (by omega); simpa using this)
    rw [List.takeWhile_cons_of_pos h3, List.dropWhile_cons_of_pos h3, ih.1, ih.2]
    exact ⟨rfl, rfl⟩
theorem agB_lt {x : Rec} {n : ByteArray} : agB x n < 0 ↔ lessS x.name n = true := by
  unfold agB
  cases lessS x.name n with
  | true => simp
  | false => cases lessS n x.name <;> simp
theorem BsP.ins {rs : List Rec} {x : Rec} {k : Nat} (h : BsP rs x.name k) : insR x rs = rs.take k ++ x :: rs.drop k := by
  obtain ⟨h1, h2, h3⟩ := h
  obtain ⟨e1, e2⟩ := take_while (p := fun y => lessS y.name x.name) h1 (fun j hj hk => agB_lt.1 (h2 j hj hk)) (fun j hj hk => by
    have := h3 j hj hk
    rw [Bool.eq_false_iff]
    intro e
    have := agB_lt.2 e
    omega)
  unfold insR
  rw [e1, e2]
theorem Srt.mono {rs : List Rec} (h : Srt rs) (n : ByteArray) (i j : Nat) (hi : i < rs.length) (hj : j < rs.length) (hij : i ≤ j) (hl : agB rs[j] n < 0) : agB rs[i] n < 0 := by
  rcases Nat.lt_or_ge i j with q | q
  · exact agB_lt.2 (less_trans (List.pairwise_iff_getElem.1 h i j hi hj q) (agB_lt.1 hl))
  · obtain rfl : i = j := by omega
    exact hl
end Go.Proofs.YtljhanhipmnioaaGreat.Rd

namespace Go.Proofs.YtljhanhipmnioaaGreat.Rd
open Go.RowKit
set_option linter.unusedVariables false
set_option linter.unusedSimpArgs false
set_option maxRecDepth 100000

open Pt (Pt may enc zeroPt be4 be1 pc pv PtV SlA OwnA BT wpList_load_g heap_alloc_at Ext Grew yieldsIf_ld)
open Kr (OwnE SlE Enco RowTys)

section
variable {ops : Array Oper} {o : Oper} {a : Act} {w : World} {K : Act → World → Prop} {Q : Exit → Act → World → Prop} {E : Prop}
theorem step_bs22 (hw : Region.wanted o (yielded ops a.tmps) = true) (len : Nat) (parts : Array (Nat × Operand)) (ho : o.op = .buildSlice 22 len parts) (cells : Array Value)
    (hf : Tryz.prog.builtSlice 56 len (parts.map fun (i, x) => (i, a.eval x)).toList = some cells) (h : K (a.put o.dst (.slice (some ⟨w.heap.size, 0, none⟩) len len)) (w.alloc (.cells cells 56))) :
    if Region.wanted o (yielded ops a.tmps) = true then Oper.wp Tryz.prog o a w K Q else E := by
  rw [if_pos hw]
  unfold Program.builtSlice at hf
  cases hie : Tryz.prog.info? 56 with
  | none => simp [hie] at hf
  | some ie =>
    simp only [hie] at hf
    cases hz : ie.zero with
    | none => simp [hz] at hf
    | some z =>
      simp only [hz] at hf
      by_cases hc : len * ie.size > 2 ^ 24 ∨ len * ie.size = 0
      · simp [hc] at hf
      · rw [if_neg hc] at hf
        exact wp_buildSlice 22 56 len parts ho cells ie z Tryz.underlying22 hie hz (fun h' => hc (Or.inl h')) (fun h' => hc (Or.inr h')) hf h
theorem step_row22 (hg : o.guard = none) (p : Operand) (ho : o.op = .buildSlice 22 1 #[(0, p)]) {c : List Value} (hl : c.length = 44) (hp : a.eval p = .agg c.toArray)
    (h : K (a.put o.dst (.slice (some ⟨w.heap.size, 0, none⟩) 1 1)) (w.alloc (.cells c.toArray 56))) :
    if Region.wanted o (yielded ops a.tmps) = true then Oper.wp Tryz.prog o a w K Q else E :=
  step_bs22 (by simp [Region.wanted, hg]) 1 _ ho _ (by simp only [List.map_toArray, List.map_cons, List.map_nil, hp]; exact built56 hl) h
end
/-- What insert does to a table where it stands. -/
def InsT (w0 : World) (g : Nat) (vr vl : Value) (t : Tab) (B C : List Nat) (w : World) (w' : World) : Prop :=
  ∃ vr' rs' B', TB w' g vr' vl t ∧ Tl w0 w' vr' t.recs rs' B' ∧ (∀ q ∈ B', q ∈ B ∨ q ∈ C ∨ w.heap.size ≤ q) ∧ ∃ L, Frm L w w' ∧ ∀ q ∈ L, q = g ∨ q ∈ blk vr
theorem TB.putRecs {w : World} {g : Nat} {vr vr' vl : Value} {t : Tab} (h : TB w g vr vl t) (l : List Rec) : TB (w.setCell ⟨g, 1, none⟩ vr') g vr' vl { t with recs := l } := by
  have := heap_setCell_same (i := 1) vr' h
  unfold TB
  rw [this]
  rfl
set_option maxHeartbeats 4000000 in
theorem insert_any (w0 W : World) (g : Nat) (vr vl : Value) (t : Tab) (rs : List RowT) (B : List Nat) (a : Option Addr) (cap : Nat) (sp : List Pt.Ad) (x : Rec)
    (hT : TB W g vr vl t) (hl : Tl w0 W vr t.recs rs B) (hg : g < w0.heap.size) (hA : OwnA 148 W (.slice a x.root.ads.length cap) x.root.ads sp) (hs : x.root.s.length = 32) (hn : x.name.size ≤ 1000) (hf : ∀ y ∈ t.recs, FitR y) (hlen : t.recs.length ≤ 500) (hsr : Srt t.recs)
    (hb : ∀ q ∈ blk (.slice a x.root.ads.length cap), w0.heap.size ≤ q ∧ q ∉ B) (h0 : w0.heap.size ≤ W.heap.size) :
    Calls Tryz.prog 171 #[.pointer (some ⟨g, 0, none⟩), rv (.slice a x.root.ads.length cap) x] W fun e w' => e = .returned (.tuple #[]) ∧ InsT w0 g vr vl { t with recs := insR x t.recs } B (blk (.slice a x.root.ads.length cap)) W w' := by
  have f1 : Frm [] W (W.alloc (.cells (rc (.slice a x.root.ads.length cap) x).toArray 56)) := (Frm.refl [] W).alloc _
  have BX := Lib.hid (RB.new (w := W) (v := .slice a x.root.ads.length cap) hs)
  have BT := Lib.hid (hT.keep0 f1)
  have HTl := Lib.hid (hl.keep f1 (by simp))
  have HA := Lib.hid (hA.keep f1 (by simp))
  have F1 := Lib.hid f1
  have NG := Lib.hid (show g ∉ blk vr ∧ g < W.heap.size ∧ g ∉ B ∧ W.heap.size ∉ blk vr from ⟨fun hm => by have := (hl.lo g (hl.inv g hm)).1; omega, by omega, fun hm => by have := (hl.lo g hm).1; omega, fun hm => by have := (hl.lo _ (hl.inv _ hm)).2; omega⟩)
  have HB := Lib.hid hb
  have HG := Lib.hid hg
  have HS := Lib.hid hs
  have HLN := Lib.hid hl.len
  have HLE := Lib.hid hlen
  have H0 := Lib.hid (show w0.heap.size ≤ W.heap.size from h0)
  have HBS := Lib.hid (fun z (f : Frm [] (W.alloc (.cells (rc (.slice a x.root.ads.length cap) x).toArray 56)) z) => BSearch_any vr t.recs x.name z (hl.us.keep0 (f1.trans f (by simp))) (by omega) hn hf (hsr.mono x.name))
  obtain ⟨spv, hov⟩ := hl.own
  have HRW := Lib.hid (show RowO W (rowR (.slice a x.root.ads.length cap) rfl x hs) x from ⟨a, cap, sp, rfl, hA, hs⟩)
  have HIN := Lib.hid (fun z (f : Frm [] (W.alloc (.cells (rc (.slice a x.root.ads.length cap) x).toArray 56)) z) k (hk : BsP t.recs x.name k) => Insert_any vr rs spv (rowR (.slice a x.root.ads.length cap) rfl x hs) z.heap.size k (z.alloc (.cells (rc (.slice a x.root.ads.length cap) x).toArray 56)) ((hov.keep0 (f1.trans f (by simp))).keep0 ((Frm.refl [] z).alloc _)) (Blk.new _ _ _) (fun hm => by have := (hl.lo _ (hl.inv _ hm)).2; have := (f1.trans f (by simp)).size; omega) (by rw [hl.len]; exact hk.1) (by rw [hl.len]; omega))
  have ALLR := Lib.hid (fun z (h : RB z W.heap.size (.slice a x.root.ads.length cap) x) => by have q := h.gets.all; rw [show rv (.slice a x.root.ads.length cap) x = .agg (rc (.slice a x.root.ads.length cap) x).toArray from rfl] at q; exact q)
  have hvr := hl.form
  obtain ⟨va, vc, rfl⟩ := hvr
  have A1 := Lib.hid (show rv (.slice a x.root.ads.length cap) x = .agg (rc (.slice a x.root.ads.length cap) x).toArray from rfl)
  have RL := Lib.hid (rc_length (v := .slice a x.root.ads.length cap) hs)
  have ALL := Lib.hid (fun z (f : Frm [] (W.alloc (.cells (rc (.slice a x.root.ads.length cap) x).toArray 56)) z) => by have q := (BX.out.keep0 f).gets.all; rw [A1.out] at q; exact q)
  have RBK := Lib.hid (rb_rc (show (rowR (.slice a x.root.ads.length cap) rfl x hs).1 = rc (.slice a x.root.ads.length cap) x from rfl))
  generalize rowR (.slice a x.root.ads.length cap) rfl x hs = row at *
  rw [A1.out]
  generalize hC : rc (.slice a x.root.ads.length cap) x = C at *
  clear hT hl hA hs hn hf hlen hsr hb f1 hg h0 hov
  go_enter Tryz.func171, Tryz.ntmps171
  go_upto_region 1 with (fail)
  generalize W.alloc (.cells C.toArray 56) = W1 at *
  refine wp_region_held_drew (S := fun z => Frm [] W1 z) (by kernel_rfl) ((Frm.refl [] W1).drew) (fun hHeld => ?_)
  refine wpAnyH_take (i := 0) (oi := ⟨some 7, .move (.tmp 0), _, _, _, none⟩) (v := ?_) rfl (by kernel_rfl) (by kernel_rfl) (by kernel_rfl) (fun _ _ _ h => h) (Or.inl ⟨by rfl, ?_⟩) hHeld ?_
  rotate_left
  focus (intro z hSw; clear hSw; go_simp; try with_reducible rfl)
  try simp only [Act.put, List.setIfInBounds_toArray, List.set_cons_zero, List.set_cons_succ]
  refine wpAnyH_take (i := 1) (oi := ⟨some 8, .nilCheck (.tmp 7), _, _, _, none⟩) (v := ?_) rfl (by kernel_rfl) (by kernel_rfl) (by kernel_rfl) (fun _ _ _ h => h) (Or.inl ⟨by rfl, ?_⟩) hHeld ?_
  rotate_left
  focus (intro z hSw; clear hSw; go_simp; try with_reducible rfl)
  try simp only [Act.put, List.setIfInBounds_toArray, List.set_cons_zero, List.set_cons_succ]
  refine wpAnyH_take (i := 2) (oi := ⟨some 9, .fieldAddr 27 (.tmp 8) 1, _, _, _, none⟩) (v := ?_) rfl (by kernel_rfl) (by kernel_rfl) (by kernel_rfl) (fun _ _ _ h => h) (Or.inl ⟨by rfl, ?_⟩) hHeld ?_
  rotate_left
  focus (intro z hSw; clear hSw; go_simp; try with_reducible rfl)
  try simp only [Act.put, List.setIfInBounds_toArray, List.set_cons_zero, List.set_cons_succ]
  refine wpAnyH_take (i := 3) (oi := ⟨some 10, .load 22 (.tmp 9), _, _, _, none⟩) (v := ?_) rfl (by kernel_rfl) (by kernel_rfl) (by kernel_rfl) (fun _ _ _ h => h) (Or.inl ⟨by rfl, ?_⟩) hHeld ?_
  rotate_left
  focus (intro z hSw; have q1 := (BT.out.keep0 hSw).gets.recs; have q2 := (BX.out.keep0 hSw).gets.name; clear hSw; go_simp; try with_reducible rfl)
  try simp only [Act.put, List.setIfInBounds_toArray, List.set_cons_zero, List.set_cons_succ]
  refine wpAnyH_take (i := 4) (oi := ⟨some 11, .fieldAddr 56 (.tmp 3) 1, _, _, _, none⟩) (v := ?_) rfl (by kernel_rfl) (by kernel_rfl) (by kernel_rfl) (fun _ _ _ h => h) (Or.inl ⟨by rfl, ?_⟩) hHeld ?_
  rotate_left
  focus (intro z hSw; clear hSw; go_simp; try with_reducible rfl)
  try simp only [Act.put, List.setIfInBounds_toArray, List.set_cons_zero, List.set_cons_succ]
  refine wpAnyH_take (i := 5) (oi := ⟨some 12, .load 9 (.tmp 11), _, _, _, none⟩) (v := ?_) rfl (by kernel_rfl) (by kernel_rfl) (by kernel_rfl) (fun _ _ _ h => h) (Or.inl ⟨by rfl, ?_⟩) hHeld ?_
  rotate_left
  focus (intro z hSw; have q1 := (BT.out.keep0 hSw).gets.recs; have q2 := (BX.out.keep0 hSw).gets.name; clear hSw; go_simp; try with_reducible rfl)
  try simp only [Act.put, List.setIfInBounds_toArray, List.set_cons_zero, List.set_cons_succ]
  refine wpAnyH_ready (rs := [6]) (by kernel_rfl) (by simp) ?_
  refine AllReadyH.cons (o := ⟨some 13, .call { callee := .value (.func 212), args := #[.tmp 10, .tmp 12, .func 213], argTypes := #[22, 9, 189] }, _, _, _, none⟩) rfl (fun K hK => ?_) AllReadyH.nil
  go_simp
  refine (HBS.out _ hHeld).mono ?_
  rintro r w3 ⟨k, kb, rfl, hbs, f2⟩
  refine hK.out _ _ ?_ (fun hNext => ?_)
  · exact hHeld.trans f2 (by simp)
  clear hK K hHeld
  have hHeld := hNext
  clear hNext
  try simp only [Act.put, List.setIfInBounds_toArray, List.set_cons_zero, List.set_cons_succ]
  refine wpAnyH_take (i := 7) (oi := ⟨some 6, .move (.tmp 13), _, _, _, none⟩) (v := ?_) rfl (by kernel_rfl) (by kernel_rfl) (by kernel_rfl) (fun _ _ _ h => h) (Or.inl ⟨by rfl, ?_⟩) hHeld ?_
  rotate_left
  focus (intro z hSw; clear hSw; go_simp; try with_reducible rfl)
  try simp only [Act.put, List.setIfInBounds_toArray, List.set_cons_zero, List.set_cons_succ]
  refine wpAnyH_take (i := 8) (oi := ⟨some 14, .extract (.tmp 6) 0, _, _, _, none⟩) (v := ?_) rfl (by kernel_rfl) (by kernel_rfl) (by kernel_rfl) (fun _ _ _ h => h) (Or.inl ⟨by rfl, ?_⟩) hHeld ?_
  rotate_left
  focus (intro z hSw; clear hSw; go_simp; try with_reducible rfl)
  try simp only [Act.put, List.setIfInBounds_toArray, List.set_cons_zero, List.set_cons_succ]
  refine wpAnyH_take (i := 9) (oi := ⟨some 15, .extract (.tmp 6) 1, _, _, _, none⟩) (v := ?_) rfl (by kernel_rfl) (by kernel_rfl) (by kernel_rfl) (fun _ _ _ h => h) (Or.inl ⟨by rfl, ?_⟩) hHeld ?_
  rotate_left
  focus (intro z hSw; clear hSw; go_simp; try with_reducible rfl)
  try simp only [Act.put, List.setIfInBounds_toArray, List.set_cons_zero, List.set_cons_succ]
  refine wpAnyH_take (i := 10) (oi := ⟨some 4, .assign (.tmp 14), _, _, _, none⟩) (v := ?_) rfl (by kernel_rfl) (by kernel_rfl) (by kernel_rfl) (fun _ _ _ h => h) (Or.inl ⟨by rfl, ?_⟩) hHeld ?_
  rotate_left
  focus (intro z hSw; clear hSw; go_simp; try with_reducible rfl)
  try simp only [Act.put, List.setIfInBounds_toArray, List.set_cons_zero, List.set_cons_succ]
  refine wpAnyH_take (i := 11) (oi := ⟨some 5, .assign (.tmp 15), _, _, _, none⟩) (v := ?_) rfl (by kernel_rfl) (by kernel_rfl) (by kernel_rfl) (fun _ _ _ h => h) (Or.inl ⟨by rfl, ?_⟩) hHeld ?_
  rotate_left
  focus (intro z hSw; clear hSw; go_simp; try with_reducible rfl)
  try simp only [Act.put, List.setIfInBounds_toArray, List.set_cons_zero, List.set_cons_succ]
  refine wpAnyH_done (by kernel_rfl) ?_ _
  have FW := Lib.hid (show Frm [] W1 w3 from hHeld)
  clear hHeld f2
  go_upto_region 2 with (fail)
  refine wp_region_late 11 (S := fun z => TB z g (.slice va t.recs.length vc) vl t ∧ RB z W.heap.size (.slice a x.root.ads.length cap) x) (by kernel_rfl) (⟨BT.out.keep0 FW.out.drew, BX.out.keep0 FW.out.drew⟩) (fun hHeld => ?_)
  refine wpAnyL_takeP (i := 0) (oi := ⟨some 16, .move (.tmp 0), _, _, _, none⟩) (v := ?_) rfl (by kernel_rfl) (by kernel_rfl) (by kernel_rfl) (fun _ _ _ h => h) (Or.inl ⟨by rfl, ?_⟩) hHeld ?_
  rotate_left
  focus (intro z hSw; clear hSw; go_simp; try with_reducible rfl)
  try simp only [Act.put, List.setIfInBounds_toArray, List.set_cons_zero, List.set_cons_succ]
  refine wpAnyL_takeP (i := 1) (oi := ⟨some 17, .move (.tmp 0), _, _, _, none⟩) (v := ?_) rfl (by kernel_rfl) (by kernel_rfl) (by kernel_rfl) (fun _ _ _ h => h) (Or.inl ⟨by rfl, ?_⟩) hHeld ?_
  rotate_left
  focus (intro z hSw; clear hSw; go_simp; try with_reducible rfl)
  try simp only [Act.put, List.setIfInBounds_toArray, List.set_cons_zero, List.set_cons_succ]
  refine wpAnyL_takeP (i := 2) (oi := ⟨some 18, .nilCheck (.tmp 17), _, _, _, none⟩) (v := ?_) rfl (by kernel_rfl) (by kernel_rfl) (by kernel_rfl) (fun _ _ _ h => h) (Or.inl ⟨by rfl, ?_⟩) hHeld ?_
  rotate_left
  focus (intro z hSw; clear hSw; go_simp; try with_reducible rfl)
  try simp only [Act.put, List.setIfInBounds_toArray, List.set_cons_zero, List.set_cons_succ]
  refine wpAnyL_takeP (i := 3) (oi := ⟨some 19, .fieldAddr 27 (.tmp 18) 1, _, _, _, none⟩) (v := ?_) rfl (by kernel_rfl) (by kernel_rfl) (by kernel_rfl) (fun _ _ _ h => h) (Or.inl ⟨by rfl, ?_⟩) hHeld ?_
  rotate_left
  focus (intro z hSw; clear hSw; go_simp; try with_reducible rfl)
  try simp only [Act.put, List.setIfInBounds_toArray, List.set_cons_zero, List.set_cons_succ]
  refine wpAnyL_take (i := 4) (oi := ⟨some 20, .load 22 (.tmp 19), _, _, _, none⟩) (v := ?_) rfl (by kernel_rfl) (by kernel_rfl) (by kernel_rfl) (fun _ _ _ h => h) (Or.inl ⟨by rfl, ?_⟩) hHeld ?_
  rotate_left
  focus (intro z hSw; have q1 := hSw.1.gets.recs; clear hSw; go_simp; try with_reducible rfl)
  try simp only [Act.put, List.setIfInBounds_toArray, List.set_cons_zero, List.set_cons_succ]
  refine wpAnyL_takeP (i := 5) (oi := ⟨some 21, .move (.tmp 4), _, _, _, none⟩) (v := ?_) rfl (by kernel_rfl) (by kernel_rfl) (by kernel_rfl) (fun _ _ _ h => h) (Or.inl ⟨by rfl, ?_⟩) hHeld ?_
  rotate_left
  focus (intro z hSw; clear hSw; go_simp; try with_reducible rfl)
  try simp only [Act.put, List.setIfInBounds_toArray, List.set_cons_zero, List.set_cons_succ]
  refine wpAnyL_take (i := 6) (oi := ⟨some 22, .load 56 (.tmp 3), _, _, _, none⟩) rfl (by kernel_rfl) (by kernel_rfl) (by kernel_rfl) (fun _ _ _ h => h) (yieldsIf_ld (by rfl) 56 _ rfl _ rfl (fun z hSw => ALLR.out z hSw.2)) hHeld ?_
  try simp only [Act.put, List.setIfInBounds_toArray, List.set_cons_zero, List.set_cons_succ]
  refine wpAnyL_one (i := 7) (o := ⟨some 23, .buildSlice 22 1 #[(0, .tmp 22)], _, _, _, none⟩) (by kernel_rfl) rfl (fun K hK => ?_)
  refine step_row22 rfl (.tmp 22) rfl RL.out rfl ?_
  refine hK.out _ _ ?_ (fun hNext => ?_)
  · exact ⟨hHeld.1.keep0 ((Frm.refl [] _).alloc _), hHeld.2.keep0 ((Frm.refl [] _).alloc _)⟩
  clear hK K hHeld
  have hHeld := hNext
  clear hNext
  try simp only [Act.put, List.setIfInBounds_toArray, List.set_cons_zero, List.set_cons_succ]
  refine wpAnyL_one (i := 8) (o := ⟨some 24, .call { callee := .value (.func 214), args := #[.tmp 20, .tmp 21, .tmp 23], argTypes := #[22, 3, 22] }, _, _, _, none⟩) (by kernel_rfl) rfl (fun K hK => ?_)
  have HI := HIN.out _ FW.out.drew k hbs
  go_simp
  refine HI.mono ?_
  rintro r w4 ⟨ra, rcp, rsp, rfl, ro, f4, rn⟩
  generalize hn1 : (rs.take k ++ row :: rs.drop k).length = n1 at ro rn ⊢
  refine hK.out _ _ ?_ (fun hNext => ?_)
  · exact ⟨hHeld.1.keep f4 NG.out.1, hHeld.2.keep f4 NG.out.2.2.2⟩
  clear hK K hHeld
  have hHeld := hNext
  clear hNext
  try simp only [Act.put, List.setIfInBounds_toArray, List.set_cons_zero, List.set_cons_succ]
  refine wpAnyL_takeP (i := 9) (oi := ⟨some 25, .nilCheck (.tmp 16), _, _, _, none⟩) (v := ?_) rfl (by kernel_rfl) (by kernel_rfl) (by kernel_rfl) (fun _ _ _ h => h) (Or.inl ⟨by rfl, ?_⟩) hHeld ?_
  rotate_left
  focus (intro z hSw; clear hSw; go_simp; try with_reducible rfl)
  try simp only [Act.put, List.setIfInBounds_toArray, List.set_cons_zero, List.set_cons_succ]
  refine wpAnyL_takeP (i := 10) (oi := ⟨some 26, .fieldAddr 27 (.tmp 25) 1, _, _, _, none⟩) (v := ?_) rfl (by kernel_rfl) (by kernel_rfl) (by kernel_rfl) (fun _ _ _ h => h) (Or.inl ⟨by rfl, ?_⟩) hHeld ?_
  rotate_left
  focus (intro z hSw; clear hSw; go_simp; try with_reducible rfl)
  try simp only [Act.put, List.setIfInBounds_toArray, List.set_cons_zero, List.set_cons_succ]
  refine wpAnyL_last (o := ⟨none, .store 22 (.tmp 26) (.tmp 24), _, _, _, none⟩) (by kernel_rfl) rfl (by simp) (fun K hK => ?_)
  have z7 := frozen_of_heap hHeld.1 1
  have e7 := hHeld.1.gets.recs
  have T7 := TB.putRecs (vr' := .slice ra n1 rcp) hHeld.1 (insR x t.recs)
  go_simp
  refine hK.out _ _ ?_
  clear hK K hHeld
  try simp only [Act.put, List.setIfInBounds_toArray, List.set_cons_zero, List.set_cons_succ]
  refine wpAny_done (by kernel_rfl) ?_ _
  go_end0
  have FV : Frm [] W (w3.drew.alloc (.cells C.toArray 56)) := ((F1.out.trans FW.out (by simp)).drew).alloc _
  have hT := (HTl.out.keep ((FW.out.drew).alloc (.cells C.toArray 56)) (by simp)).ins (k := k) (x := x) (by rw [HLN.out]; exact hbs.1) (HRW.out.keep FV (by simp)) ro f4 rn (fun q hq => HB.out q (by rw [← RBK.out]; exact hq)) (Nat.le_trans H0.out FV.size)
  rw [← hbs.ins] at hT
  have fg : Frm [g] w4 (w4.setCell ⟨g, 1, none⟩ (.slice ra n1 rcp)) := (Frm.refl _ _).setCell _ _ (by simp)
  have sub : ∀ i ∈ blk (.slice va t.recs.length vc), i ∈ g :: blk (.slice va t.recs.length vc) := fun i hi => List.mem_cons_of_mem _ hi
  have FF : Frm (g :: blk (.slice va t.recs.length vc)) W (w4.setCell ⟨g, 1, none⟩ (.slice ra n1 rcp)) :=
    ((FV.mono (by simp)).trans (f4.mono (fun i hi => .inl (sub i hi))) (fun i hi => .inl hi)).trans (fg.mono (fun i hi => .inl (by simp at hi; simp [hi]))) (fun i hi => .inl hi)
  refine ⟨rfl, _, _, _, T7, hT.keep fg (fun i hi hm => ?_), fun q hq => ?_, g :: blk (.slice va t.recs.length vc), FF, fun q hq => by simpa using hq⟩
  · simp at hi; subst hi
    have := (hT.lo i hm).1
    have := HG.out
    omega
  · rcases List.mem_append.1 hq with h | h
    · exact .inl h
    · rcases List.mem_append.1 h with h | h
      · exact .inr (.inl (by rw [← RBK.out]; exact h))
      · rcases rn q h with h | h
        · exact .inl (HTl.out.inv q h)
        · exact .inr (.inr (Nat.le_trans FV.size h))
end Go.Proofs.YtljhanhipmnioaaGreat.Rd

namespace Go.Proofs.YtljhanhipmnioaaGreat.Rd
open Go.RowKit
set_option linter.unusedVariables false
set_option linter.unusedSimpArgs false
set_option maxRecDepth 100000

open Pt (Pt may enc zeroPt be4 be1 pc pv PtV SlA OwnA BT wpList_load_g heap_alloc_at Ext Grew yieldsIf_ld)
open Kr (OwnE SlE Enco RowTys)

theorem mayR_fit {x : Rec} (h : mayR x = true) : FitR x := by
  refine ⟨?_, ?_⟩
  · unfold mayR rootB Pt.mayB at h
    simp only [Bool.and_eq_true, Bool.or_eq_true] at h
    rcases h.2.1.1 with q | q
    · rw [Pt.hole_iff] at q
      rw [q]; simp [zeroPt]
    · unfold Pt.mayRestB at q
      simp only [Bool.and_eq_true, decide_eq_true_eq] at q
      have := q.1.1.1.2
      omega
  · have pl : ∀ s : ByteArray, partS s = true → s.size ≤ 20 := fun s hp => by
      rw [Lib.size_eq]
      exact part_length hp
    rcases mayR_kind h with ⟨_, hp, _⟩ | ⟨_, hp, _⟩
    · have := pl _ hp; omega
    · obtain ⟨h1, h2, h3, h4⟩ := snap_back hp
      have e := congrArg List.length (joinS_list h1)
      rw [h2] at e
      have a := pl _ h3
      have b := pl _ h4
      rw [Lib.size_eq] at a b ⊢
      simp only [List.length_append, List.length_cons] at e
      omega
theorem MayT.fit {t : Tab} (h : MayT t) : FitT t := ⟨by have := h.many; omega, by have := h.l1; omega, fun x hx => mayR_fit (h.one hx)⟩
/-- A table with one record more. -/
def putT (t : Tab) (x : Rec) : Tab := { t with next := t.next + 1, recs := insR (withId x t.next) t.recs }
theorem TB.putNext {w : World} {g : Nat} {vr vl : Value} {t : Tab} (h : TB w g vr vl t) (n : Int) : TB (w.setCell ⟨g, 0, none⟩ (.int .i64 n)) g vr vl { t with next := n } := by
  have := heap_setCell_same (i := 0) (.int .i64 n) h
  unfold TB
  rw [this]
  rfl
set_option maxHeartbeats 4000000 in
theorem put1_ch (w : World) (g : Nat) (v : Value) (x : Rec) (sp : List Pt.Ad) (t : Tab) (hR : RB w g v x) (hA : SlA w v x.root.ads sp) (hn : x.name.size ≤ 1000) (hl : x.root.ads.length ≤ 1000000) (hM : MayT t) : ChT w 174 #[.pointer (some ⟨g, 0, none⟩)] t (putT t x) := by
  refine ⟨fun u z => enter_of Tryz.func174 (by kernel_rfl) (by kernel_rfl) _ z, fun w0 W gt vr vl f hg hg0 hT hO => ?_⟩
  obtain ⟨rs, B, spl, hTl, hL, hLB⟩ := hO
  obtain ⟨xa, xc, rfl, _, _⟩ := hA.form
  have gR := hR.lt
  have hfit := hM.fit
  have f1 : Frm [] W (W.alloc (.cells #[.pointer (some ⟨gt, 0, none⟩)] 110)) := (Frm.refl [] W).alloc _
  have h0 : w0.heap.size ≤ W.heap.size := by
    obtain ⟨la, lc, e, _, _⟩ := hL.sl.form
    subst e
    obtain ⟨b, off, e⟩ := hL.sl.at (by have := hM.l0; omega)
    subst e
    have a1 := hLB b (by simp [blk])
    have a2 := hL.lt b (by simp [blk])
    omega
  have C1 := Lib.hid (show (W.alloc (.cells #[.pointer (some ⟨gt, 0, none⟩)] 110)).cell? ⟨W.heap.size, 0, none⟩ = some (.pointer (some ⟨gt, 0, none⟩)) by rw [cell_of_heap (heap_alloc_new _ _)]; rfl)
  have R1 := Lib.hid (hR.keep0 (f.trans f1 (by simp)))
  have HOW := Lib.hid (fun z (fz : Frm [] (W.alloc (.cells #[.pointer (some ⟨gt, 0, none⟩)] 110)) z) (hc : z.cell? ⟨W.heap.size, 0, none⟩ = some (.pointer (some ⟨gt, 0, none⟩))) =>
    ownedR_any 177 #[.pointer (some ⟨W.heap.size, 0, none⟩)] (rv (.slice xa x.root.ads.length xc) x) x (withId x t.next) z ⟨xa, xc, sp, rfl, hA.keep ((f.trans f1 (by simp)).trans fz (by simp)) (by simp), hR.2⟩ hn hl (put11_ch z W.heap.size gt vr vl x t hc ((hT.keep0 f1).keep0 fz)))
  have HIN := Lib.hid (fun z (fz : Frm [] (W.alloc (.cells #[.pointer (some ⟨gt, 0, none⟩)] 110)) z) oa oc osp (ho : OwnA 148 z (.slice oa (withId x t.next).root.ads.length oc) (withId x t.next).root.ads osp) (hb : ∀ i ∈ blk (.slice oa (withId x t.next).root.ads.length oc), (W.alloc (.cells #[.pointer (some ⟨gt, 0, none⟩)] 110)).heap.size ≤ i) =>
    insert_any w0 z gt vr vl t rs B oa oc osp (withId x t.next) ((hT.keep0 f1).keep0 fz) ((hTl.keep f1 (by simp)).keep fz (by simp)) hg0 ho hR.2 hn hfit.all (by have := hM.many; omega) hM.srt (fun q hq => by
      have a := hb q hq
      have b := f1.size
      refine ⟨by omega, fun hm => ?_⟩
      have := (hTl.lo q hm).2
      omega) (Nat.le_trans h0 (f1.trans fz (by simp)).size))
  have NB := Lib.hid (show g ≠ gt ∧ W.heap.size ≠ gt ∧ g ∉ blk vr ∧ W.heap.size ∉ blk vr from ⟨by omega, by have := hT.lt; omega, fun hm => by have := (hTl.lo g (hTl.inv g hm)).1; omega, fun hm => by have := (hTl.lo _ (hTl.inv _ hm)).2; omega⟩)
  have HLO := Lib.hid hTl.lo
  have HLV := Lib.hid (hL.keep0 f1)
  have HLT := Lib.hid hL.lt
  have HLB := Lib.hid hLB
  have HG0 := Lib.hid hg0
  have n0 := hM.n0
  have n1 := hM.n1
  have HF1 := Lib.hid f1
  have HVR := Lib.hid hTl.inv
  have HP := Lib.hid (show putT t x = { t with next := t.next + 1, recs := insR (withId x t.next) t.recs } from rfl)
  clear hR hA hn hl hM hg hg0 hT hTl hL hLB gR hfit f f1 h0
  show Calls Tryz.prog 174 #[.pointer (some ⟨gt, 0, none⟩), .pointer (some ⟨g, 0, none⟩)] W _
  go_enter Tryz.func174, Tryz.ntmps174
  go_upto_region 1 with (fail)
  generalize hW1 : W.alloc (.cells #[.pointer (some ⟨gt, 0, none⟩)] 110) = W1 at *
  refine wp_region_held_drew (S := fun z => z.cell? ⟨W.heap.size, 0, none⟩ = some (.pointer (some ⟨gt, 0, none⟩)) ∧ RB z g (.slice xa x.root.ads.length xc) x) (by kernel_rfl) (⟨C1.out, R1.out.keep0 ((Frm.refl [] W1).drew)⟩) (fun hHeld => ?_)
  refine wpAnyH_take (i := 0) (oi := ⟨some 3, .load 110 (.tmp 2), _, _, _, none⟩) (v := ?_) rfl (by kernel_rfl) (by kernel_rfl) (by kernel_rfl) (fun _ _ _ h => h) (Or.inl ⟨by rfl, ?_⟩) hHeld ?_
  rotate_left
  focus (intro z hSw; have q1 := hSw.1; clear hSw; go_simp; try with_reducible rfl)
  try simp only [Act.put, List.setIfInBounds_toArray, List.set_cons_zero, List.set_cons_succ]
  refine wpAnyH_take (i := 1) (oi := ⟨some 4, .load 56 (.tmp 1), _, _, _, none⟩) rfl (by kernel_rfl) (by kernel_rfl) (by kernel_rfl) (fun _ _ _ h => h) (yieldsIf_ld (by rfl) 56 _ rfl _ rfl (fun z hSw => hSw.2.gets.all)) hHeld ?_
  try simp only [Act.put, List.setIfInBounds_toArray, List.set_cons_zero, List.set_cons_succ]
  refine wpAnyH_take (i := 2) (oi := ⟨some 5, .makeFunc (Fn.func 177) #[] #[.tmp 2], _, _, _, none⟩) (v := ?_) rfl (by kernel_rfl) (by kernel_rfl) (by kernel_rfl) (fun _ _ _ h => h) (Or.inl ⟨by rfl, ?_⟩) hHeld ?_
  rotate_left
  focus (intro z hSw; clear hSw; go_simp; try with_reducible rfl)
  try simp only [Act.put, List.setIfInBounds_toArray, List.set_cons_zero, List.set_cons_succ]
  refine wpAnyH_ready (rs := [3]) (by kernel_rfl) (by simp) ?_
  refine AllReadyH.cons (o := ⟨some 6, .call { callee := .value (.func 175), args := #[.tmp 4, .func 176, .tmp 5], argTypes := #[56, 172, 135] }, _, _, _, none⟩) rfl (fun K hK => ?_) AllReadyH.nil
  go_simp
  refine (HOW.out _ ((Frm.refl [] W1).drew) hHeld.1).mono ?_
  rintro r wa ⟨oa, oc, osp, rfl, oO, fa, oN⟩
  refine hK.out _ _ ?_ (fun hNext => ?_)
  · exact ⟨fa.cell hHeld.1 (by simp), hHeld.2.keep0 fa⟩
  clear hK K hHeld
  have hHeld := hNext
  clear hNext
  try simp only [Act.put, List.setIfInBounds_toArray, List.set_cons_zero, List.set_cons_succ]
  refine wpAnyH_ready (rs := [4]) (by kernel_rfl) (by simp) ?_
  refine AllReadyH.cons (o := ⟨some 7, .call { callee := .value (.func 171), args := #[.tmp 3, .tmp 6], argTypes := #[110, 56] }, _, _, _, none⟩) rfl (fun K hK => ?_) AllReadyH.nil
  go_simp
  refine (HIN.out _ (((Frm.refl [] W1).drew).trans fa (by simp)) oa oc osp oO oN).mono ?_
  rintro r wb ⟨rfl, hI⟩
  obtain ⟨vr2, rs2, B2, T2, Tl2, hB2, L2, f2, hL2⟩ := hI
  refine hK.out _ _ ?_ (fun hNext => ?_)
  · exact ⟨f2.cell hHeld.1 (fun hm => by rcases hL2 _ hm with e | e; exact NB.out.2.1 e; exact NB.out.2.2.2 e), hHeld.2.keep f2 (fun hm => by rcases hL2 _ hm with e | e; exact NB.out.1 e; exact NB.out.2.2.1 e)⟩
  clear hK K hHeld
  have hHeld := hNext
  clear hNext
  have e1 := hHeld.1
  have e2 := T2.gets.next
  have e3 := frozen_of_heap T2 0
  try simp only [Act.put, List.setIfInBounds_toArray, List.set_cons_zero, List.set_cons_succ]
  refine wpAnyH_done (by kernel_rfl) ?_ _
  clear hHeld
  go_wp2_with (fail)
  go_end0
  have FW : Frm (gt :: L2) W wb := (((HF1.out.trans (((Frm.refl [] W1).drew).trans fa (by simp)) (by simp)).mono (by simp)).trans (f2.mono (fun i hi => .inl (by simp [hi]))) (fun i hi => .inl hi))
  have fg : Frm [gt] wb (wb.setCell ⟨gt, 0, none⟩ (.int .i64 (t.next + 1))) := (Frm.refl _ _).setCell _ _ (by simp)
  have hsz : W.heap.size ≤ wb.heap.size := FW.size
  refine ⟨rfl, vr2, vl, ?_, ⟨rs2, B2, spl, ?_, ?_, fun k hk => ⟨(HLB.out k hk).1, fun hm => ?_⟩⟩, gt :: L2, FW.trans (fg.mono (fun i hi => .inl (by simp at hi; simp [hi]))) (fun i hi => .inl hi), fun i hi => ?_⟩
  · rw [HP.out]
    exact T2.putNext _
  · exact Tl2.keep fg (fun i hi hm => by simp at hi; subst hi; have := (Tl2.lo i hm).1; have := HG0.out; omega)
  · refine ((HLV.out.keep0 (((Frm.refl [] W1).drew).trans fa (by simp))).keep f2 (fun k hk hm => ?_)).keep fg (fun k hk hm => by simp at hm; subst hm; have := (HLB.out k hk).1; have := HG0.out; omega)
    rcases hL2 k hm with e | e
    · subst e; have := (HLB.out k hk).1; have := HG0.out; omega
    · exact (HLB.out k hk).2 (HVR.out k e)
  · have q1 := HLT.out k hk
    have q2 := HF1.out.size
    rcases hB2 k hm with e | e | e
    · exact (HLB.out k hk).2 e
    · have : W1.heap.size ≤ k := oN k e
      omega
    · have := (((Frm.refl [] W1).drew).trans fa (by simp)).size; omega
  · rcases List.mem_cons.1 hi with e | e
    · exact .inl e
    · rcases hL2 i e with e | e
      · exact .inl e
      · exact .inr (HLO.out i (HVR.out i e)).1
end Go.Proofs.YtljhanhipmnioaaGreat.Rd
