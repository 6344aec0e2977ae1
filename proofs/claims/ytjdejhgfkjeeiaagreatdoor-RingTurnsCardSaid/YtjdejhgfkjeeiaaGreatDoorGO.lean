/-
  Contract of Best. No conditions but those that each theorem names.
-/
import Derived.Test.YtjdejhgfkjeeiaaGreatDoorGN
namespace Go.Proofs.YtjdejhgfkjeeiaaGreatDoor
open Go.RowKit
set_option linter.unusedVariables false
set_option linter.unusedSimpArgs false
set_option maxRecDepth 100000

open Pt (Pt may enc readPt readE zeroPt pc pv PtV SlA OwnA)
open Kr (OwnE SlE Enco RowTys)
def lastS (B : List En) : List UInt8 := match B.getLast? with
  | some e => e.2
  | none => []
theorem mem_entsU {l : List Ub} (hl : AllU l) {e : En} (h : e ∈ entsU l) : ∃ u, u ∈ l ∧ WfU u ∧ MayU u ∧ e = entU u := by
  obtain ⟨u, hu, rfl⟩ := List.mem_map.1 h
  obtain ⟨h1, h2⟩ := List.mem_filter.1 hu
  exact ⟨u, h1, hl u h1, mayUB_iff.1 h2, rfl⟩
theorem entsU_mem {l : List Ub} {u : Ub} (h : u ∈ l) (hm : MayU u) : entU u ∈ entsU l := List.mem_map.2 ⟨u, List.mem_filter.2 ⟨h, mayUB_iff.2 hm⟩, rfl⟩
theorem took_last {l : List Ub} {B q : List En} (hl : AllU l) (h : Took (entsU l) B q) (h0 : 0 < q.length) : ∃ u, u ∈ l ∧ WfU u ∧ MayU u ∧ en q 0 = entU u ∧ (packU u = lastS B → en q 0 ∈ B) ∧ (packU u ≠ lastS B → ∀ b, B.getLast? = some b → en q 0 ≠ b) := by
  obtain ⟨u, hu, wu, mu, he⟩ := mem_entsU hl (h.first h0)
  refine ⟨u, hu, wu, mu, he, fun hp => ?_, fun hp b hb e => ?_⟩
  · unfold lastS at hp
    cases hg : B.getLast? with
    | none =>
      rw [hg] at hp
      have := packU_length wu mu
      rw [hp] at this
      simp at this
    | some c =>
      rw [hg] at hp
      have hc := List.mem_of_getLast? hg
      obtain ⟨u2, hu2, wu2, mu2, he2⟩ := mem_entsU hl ((h.mem c).2 (.inr hc))
      have : u = u2 := by
        rw [he2] at hp
        have hp2 : packU u = packU u2 := hp
        rw [← parse_pack wu mu, ← parse_pack wu2 mu2, hp2]
      subst this
      rw [he, ← he2]; exact hc
  · apply hp
    unfold lastS
    rw [hb, ← e, he]
    rfl
/-- How the telling of the newest stands. -/
structure Bs (l : List Ub) (w : World) (g : Nat) (v : Value) (S : Value) (wr : World) (qv : Value) (q : List En) (sp : List Value) (m : List Ub) (rs : List RowT) (Bl : List Nat) : Prop where
  qu : Qu wr g qv q sp
  took : Took (entsU l) (m.map entU) q
  may : ∀ u ∈ m, WfU u ∧ MayU u
  tl : Tl w wr v m rs Bl
  dis : ∀ i ∈ g :: blk qv, i ∉ Bl ∧ w.heap.size ≤ i
  last : S = .string (sB (lastS (m.map entU)))
  frm : Frm [] w wr
  qn : m.length + q.length ≤ 1000
def BsRel (l : List Ub) (w : World) (g : Nat) (v S : Value) (wr : World) : Prop := ∃ qv q sp m rs Bl, Bs l w g v S wr qv q sp m rs Bl
def mQ (g : Nat) (wr : World) : Nat := match wr.cell? ⟨g, 0, none⟩ with
  | some (.slice _ n _) => n
  | _ => 0
theorem mQ_eq {g : Nat} {w : World} {v : Value} {l : List En} {sp : List Value} (h : Qu w g v l sp) : mQ g w = l.length := by
  obtain ⟨a, cap, e⟩ := h.form
  unfold mQ
  rw [h.cell, e]
theorem Bs.best {l : List Ub} {w : World} {g : Nat} {v S : Value} {wr : World} {qv : Value} {sp : List Value} {m : List Ub} {rs : List RowT} {Bl : List Nat} (hl : AllU l) (h : Bs l w g v S wr qv [] sp m rs Bl) : m = bestU l := by
  obtain ⟨h1, h2⟩ := h.took.done
  refine Best.eq hl ⟨h1, fun x => ⟨fun hx => ?_, fun ⟨hx, hm⟩ => ?_⟩⟩
  · obtain ⟨u, hu, wu, mu, he⟩ := mem_entsU hl ((h2 _).1 (List.mem_map.2 ⟨x, hx, rfl⟩))
    have := entU_inj (h.may x hx).1 (h.may x hx).2 wu mu he
    subst this
    exact ⟨hu, mu⟩
  · obtain ⟨y, hy, he⟩ := List.mem_map.1 ((h2 _).2 (entsU_mem hx hm))
    have := entU_inj (h.may y hy).1 (h.may y hy).2 (hl x hx) hm he
    subst this
    exact hy
theorem Qu.keep {w w' : World} {g : Nat} {v : Value} {l : List En} {sp : List Value} {L : List Nat} (h : Qu w g v l sp) (f : Frm L w w') (hL : ∀ i ∈ L, i ≠ g ∧ i ∉ blk v) : Qu w' g v l sp :=
  ⟨f.heap h.box (fun hm => (hL g hm).1 rfl), h.own.keep f (fun k hk hm => (hL k hm).2 hk), h.ne⟩
/-- One uberblock more behind those that were told. -/
theorem wpList_tl {ops : Array Oper} {rest : List Oper} {o1 o2 : Oper} {a : Act} {Q : Exit → Act → World → Prop} {w0 w : World} {v : Value} {l : List Ub} {rs : List RowT} {B : List Nat} {x : RowT} {u : Ub} (h : Tl w0 w v l rs B) (hb : l.length ≤ 1000000)
    (hx : RowO w x u) (hxn : ∀ k ∈ rb x, k ∉ B) (hx0 : ∀ k ∈ rb x, w0.heap.size ≤ k) (h0 : w0.heap.size ≤ w.heap.size)
    (g1 : o1.guard = none) (g2 : o2.guard = none) (p s y : Operand) (d : Nat) (hd : o1.dst = some d) (h1 : o1.op = .buildSlice 30 1 #[(0, p)]) (h2 : o2.op = Op.call { callee := Callee.builtin Builtin.append, args := #[s, y], argTypes := #[30, 30] })
    (ep : a.eval p = .agg x.1.toArray) (es : (a.put (some d) (.slice (some ⟨w.heap.size, 0, none⟩) 1 1)).eval s = v) (ey : (a.put (some d) (.slice (some ⟨w.heap.size, 0, none⟩) 1 1)).eval y = .slice (some ⟨w.heap.size, 0, none⟩) 1 1)
    (kk : ∀ a' cap' w', Tl w0 w' (.slice a' (l.length + 1) cap') (l ++ [u]) (rs ++ [x]) (rb x ++ blk (.slice a' (l.length + 1) cap') ++ B) → Frm (blk v) w w' → (∀ i ∈ blk (.slice a' (l.length + 1) cap'), i ∈ blk v ∨ w.heap.size ≤ i) → wpList Tryz.prog ops Q rest ((a.put (some d) (.slice (some ⟨w.heap.size, 0, none⟩) 1 1)).put o2.dst (.slice a' (l.length + 1) cap')) w') :
    wpList Tryz.prog ops Q (o1 :: o2 :: rest) a w := by
  obtain ⟨spv, ho⟩ := h.own
  have hrl := h.len
  refine Great.wpList_buildSliceTo g1 30 28 1 #[(0, p)] h1 w.heap.size rfl (some d) hd Tryz.underlying30 x.1.toArray (by simp only [List.map_toArray, List.map_cons, List.map_nil, ep]; exact built28 x.2.1) ?_
  have f1 : Frm [] w (w.alloc (.cells x.1.toArray 28)) := (Frm.refl [] w).alloc _
  have hS : SlE eR 69 (w.alloc (.cells x.1.toArray 28)) (.slice (some ⟨w.heap.size, 0, none⟩) 1 1) [x] [] := Kr.SlE.of_block (T := 28) encR (by rw [Kr.flt_one]; exact heap_alloc_new _ _) rfl (by decide)
  refine Kr.wpList_append_e encR tysU (ho.keep0 f1) hS (by simp; omega) (by decide) g2 s y h2 es ey ?_
  intro a2 cap2 w2 sp2 o2' f2 n2
  rw [show rs.length + [x].length = l.length + 1 by simp [hrl]] at o2' n2 ⊢
  have f12 : Frm (blk v) w w2 := (f1.mono (by simp)).trans f2 (fun i hi => .inl hi)
  have n3 : ∀ i ∈ blk (.slice a2 (l.length + 1) cap2), i ∈ blk v ∨ w.heap.size ≤ i := fun i hi => by
    rcases n2 i hi with h | h
    · exact .inl h
    · simp at h; exact .inr (by omega)
  exact kk a2 cap2 w2 (h.more f12 o2' n3 hx hxn hx0 h0) f12 n3
end Go.Proofs.YtjdejhgfkjeeiaaGreatDoor
