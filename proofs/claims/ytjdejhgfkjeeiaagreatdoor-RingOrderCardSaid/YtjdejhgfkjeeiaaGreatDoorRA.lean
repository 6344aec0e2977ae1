/-
  What a row's own reading gives the walks: bytes, addresses, pointers. No conditions but those that each theorem names.
-/
import Derived.Test.YtjdejhgfkjeeiaaGreatDoorPY
import Derived.Deep.SlicePairs
import Derived.Deep.Strs
import Derived.ChangeSame
namespace Go.Proofs.YtjdejhgfkjeeiaaGreatDoor.Pt
open Go.RowKit Go.ChangeShapes Go.WideShapes Go.Deep
set_option linter.unusedVariables false
set_option maxRecDepth 100000
set_option linter.unusedSimpArgs false

theorem cells3 : Tryz.prog.cellsOf 3 = 1 := by kernel_rfl
theorem cells5 : Tryz.prog.cellsOf 5 = 1 := by kernel_rfl
theorem cells46 : Tryz.prog.cellsOf 47 = 2 := by kernel_rfl
theorem cells22 : Tryz.prog.cellsOf 22 = 1 := by kernel_rfl
theorem cells24 : Tryz.prog.cellsOf 24 = 32 := by kernel_rfl
theorem cells26 : Tryz.prog.cellsOf 26 = 35 := by kernel_rfl
theorem own : ownKnob Tryz.prog.godebug = none := by kernel_rfl
theorem laidOut : laidOutB Tryz.prog = true := by kernel_rfl
theorem one_of {v u : Value} (h : [v] = [u]) : v = u := by simpa using h
def WfA (x : Ad) : Prop := (Lit.int .i64 x.1).wf = true ∧ (Lit.int .i64 x.2).wf = true
theorem sla_of_trod {H : Type} {enc : TypeId × Value → H} {W : World} {fuel : Nat} {cs : List Value} {x : DataW H × List MemPlace} (h : DataW.trod enc Tryz.prog W 0 (fun _ => true) true fuel 22 cs = some x) :
    ∃ a cap l sp, cs = [.slice a (l : List Ad).length cap] ∧ SlA W (.slice a l.length cap) l sp ∧ ∀ x ∈ l, WfA x := by
  rcases open_slice_pairs Tryz.underlying22 Tryz.underlying47 cells46 rfl rfl cells3 cells3 h with ⟨rfl, _⟩ | ⟨a, len, cap, m, n, V0, V1, D0, D1, P0, P1, rfl, _, hl, hm, hmm, _, hi⟩
  · exact ⟨none, 0, [], [], rfl, SlA.nil _, by simp⟩
  · simp at hmm
    subst hmm
    have hex : ∀ i, ∃ y : Ad, i < m → W.cell? (a.add (i * 2)) = some (.int .i64 y.1) ∧ W.cell? (a.add (i * 2 + 1)) = some (.int .i64 y.2) ∧ WfA y := fun i => by
      by_cases hlt : i < m
      · obtain ⟨c0, c1, t0, t1⟩ := hi i hlt
        obtain ⟨z0, k0, _, w0⟩ := DataW.trod_int Tryz.underlying3 t0
        obtain ⟨z1, k1, _, w1⟩ := DataW.trod_int Tryz.underlying3 t1
        exact ⟨(z0, z1), fun _ => ⟨by rw [c0, one_of k0], by rw [c1, one_of k1], w0, w1⟩⟩
      · exact ⟨(0, 0), fun h => absurd h hlt⟩
    obtain ⟨f, hf⟩ := Classical.axiomOfChoice hex
    have hall : ∀ L : List Ad, L = (List.range m).map f → L.length = m := fun L h => by rw [h]; simp
    obtain ⟨L, hL⟩ : ∃ L, L = (List.range m).map f := ⟨_, rfl⟩
    have hLl := hall L hL
    have hget : ∀ i (h : i < L.length), L[i] = f i := fun i h => by subst hL; simp
    have htl : (L.take len).length = len := by simp; omega
    by_cases hc : m = 0
    · subst hc
      obtain rfl : len = 0 := by omega
      exact ⟨some a, 0, [], [], rfl, ⟨rfl, .inr (.inl ⟨a, rfl, rfl, rfl⟩)⟩, by simp⟩
    · obtain ⟨b, off, spot⟩ := a
      have h0 := (hf 0 (by omega)).1
      have hspot : spot = none := by simpa [Addr.add] using World.cell?_spot h0
      subst hspot
      refine ⟨some ⟨b, off, none⟩, m, L.take len, L.drop len, by rw [htl], ?_, fun x hx => ?_⟩
      · rw [htl]
        refine ⟨by rw [eas_length, htl], .inr (.inr ⟨b, off, m, by rw [htl], by omega, hm, ?_, fun i u hu => ?_⟩)⟩
        · rw [← eas_append, List.take_append_drop, eas_length, hLl]
        · rw [← eas_append, List.take_append_drop] at hu
          have hi2 : i < L.length * 2 := by
            rcases Nat.lt_or_ge i (L.length * 2) with h | h
            · exact h
            · rw [List.getElem?_eq_none (by rw [eas_length]; exact h)] at hu; cases hu
          have hq : i / 2 < L.length := by omega
          obtain ⟨c0, c1, _⟩ := hf (i / 2) (by omega)
          by_cases h2 : i % 2 = 0
          · have e : i / 2 * 2 = i := by omega
            have g := eas_get0 L (i / 2) hq
            rw [e] at g c0
            rw [g] at hu
            cases hu
            rw [add_plain] at c0
            rw [c0, hget]
          · have e : i / 2 * 2 + 1 = i := by omega
            have g := eas_get1 L (i / 2) hq
            rw [e] at g c1
            rw [g] at hu
            cases hu
            rw [add_plain] at c1
            rw [c1, hget]
      · obtain ⟨i, hi', rfl⟩ := List.getElem_of_mem (List.mem_of_mem_take hx)
        rw [hget]
        exact (hf i (by omega)).2.2
/-- The blocks that a slice can be read from: none, if it has no room. -/
def blkR : Value → List Nat
  | .slice (some a) _ cap => if cap = 0 then [] else [a.block]
  | _ => []
/-- Numbers that fit a byte, as bytes. -/
def asBytes (zs : List Int) : List UInt8 := zs.map fun n => UInt8.ofNat n.toNat
theorem bvs_asBytes {zs : List Int} (h : ∀ n ∈ zs, (Lit.int .u8 n).wf = true) : bvs (asBytes zs) = zs.map (Value.int .u8) := by
  unfold bvs asBytes
  rw [List.map_map]
  refine List.map_congr_left fun n hn => ?_
  have := bounds_u8 (h n hn)
  simp [bv]
  omega
theorem slb_of_trod {H : Type} {enc : TypeId × Value → H} {W : World} {fuel : Nat} {cs : List Value} {x : DataW H × List MemPlace} (h : DataW.trod enc Tryz.prog W 0 (fun _ => true) true fuel 32 cs = some x) :
    ∃ a cap l sp, cs = [.slice a (l : List UInt8).length cap] ∧ SlB W (.slice a l.length cap) l sp ∧ ∀ k ∈ blkR (.slice a l.length cap), k < W.heap.size := by
  rcases open_ints Tryz.underlying32 Tryz.underlying5 cells5 h with ⟨rfl, _⟩ | ⟨a, len, cap, zs, rfl, _, hl, hm, hz, _, hcell, hwz⟩
  · exact ⟨none, 0, [], [], rfl, SlB.nil _, by simp [blkR]⟩
  · have hzl : zs.length = cap := by simpa using hz
    have hlen : ((asBytes zs).take len).length = len := by simp [asBytes]; omega
    by_cases hc : cap = 0
    · subst hc
      obtain rfl : len = 0 := by omega
      exact ⟨some a, 0, [], [], rfl, ⟨rfl, .inr (.inl ⟨a, rfl, rfl, rfl⟩)⟩, by simp [blkR]⟩
    · obtain ⟨b, off, spot⟩ := a
      have h0 := hcell 0 (by omega)
      have hspot : spot = none := by simpa [Addr.add] using World.cell?_spot h0
      subst hspot
      refine ⟨some ⟨b, off, none⟩, cap, (asBytes zs).take len, (asBytes zs).drop len, by rw [hlen], ?_, ?_⟩
      · rw [hlen]
        refine ⟨by simp [bvs_length, hlen], .inr (.inr ⟨b, off, cap, by rw [hlen], by omega, hm, ?_, fun i u hu => ?_⟩)⟩
        · rw [← bvs_append, List.take_append_drop]; simp [bvs_length, asBytes, hzl]
        · rw [← bvs_append, List.take_append_drop, bvs_asBytes hwz] at hu
          have hi : i < zs.length := by
            rcases Nat.lt_or_ge i zs.length with h | h
            · exact h
            · rw [List.getElem?_eq_none (by simpa using h)] at hu; cases hu
          have := hcell i hi
          rw [add_plain] at this
          rw [this]
          rw [List.getElem?_map, List.getElem?_eq_getElem hi] at hu
          simp at hu
          rw [← hu]
          simp [List.getD, List.getElem?_eq_getElem hi]
      · intro k hk
        simp [blkR, hc] at hk
        subst hk
        rw [add_plain] at h0
        exact World.block_lt_of_cell? W _ h0
section
variable {H : Type} {enc : TypeId × Value → H} {P : Program} {w : World} {base : Nat} {spare : Nat → Bool} {held : Bool}
theorem trod_struct4 {t : TypeId} {f0 f1 f2 f3 : Field} {fuel : Nat} {cs : List Value} {x : DataW H × List MemPlace} (ht : P.underlying t = some (.struct #[f0, f1, f2, f3])) (h : DataW.trod enc P w base spare held fuel t cs = some x) :
    ∃ y0 y1 y2 y3 n, cs.length = P.cellsOf t ∧ DataW.trod enc P w base spare held n f0.type ((cs.drop f0.offset).take (P.cellsOf f0.type)) = some y0 ∧
      DataW.trod enc P w base spare held n f1.type ((cs.drop f1.offset).take (P.cellsOf f1.type)) = some y1 ∧ DataW.trod enc P w base spare held n f2.type ((cs.drop f2.offset).take (P.cellsOf f2.type)) = some y2 ∧
      DataW.trod enc P w base spare held n f3.type ((cs.drop f3.offset).take (P.cellsOf f3.type)) = some y3 := by
  obtain ⟨xs, n, _, rfl, hl, hlen, hf⟩ := DataW.trod_struct ht h
  match xs, hlen with
  | [y0, y1, y2, y3], _ => exact ⟨y0, y1, y2, y3, n, hl, by simpa using hf 0 f0 rfl, by simpa using hf 1 f1 rfl, by simpa using hf 2 f2 rfl, by simpa using hf 3 f3 rfl⟩
end
theorem id_of_trod {H : Type} {enc : TypeId × Value → H} {W : World} {fuel : Nat} {cs : List Value} {x : DataW H × List MemPlace} (h : DataW.trod enc Tryz.prog W 0 (fun _ => true) true fuel 24 cs = some x) :
    ∃ s : List UInt8, cs = bvs s ∧ s.length = 32 := by
  obtain ⟨xs, m, rfl, hx, hlen, hn, hel⟩ := DataW.trod_array Tryz.underlying24 h
  rw [cells24] at hlen
  have key : ∀ i, i < 32 → ∃ b : UInt8, cs[i]? = some (bv b) := fun i hi => by
    have h1 := hel i hi
    obtain ⟨b, hb⟩ : ∃ b, xs[i]? = some b := ⟨xs[i]'(by omega), List.getElem?_eq_getElem (by omega)⟩
    rw [hb, cells5] at h1
    obtain ⟨z, e1, _, e3⟩ := DataW.trod_int Tryz.underlying5 h1
    have := bounds_u8 e3
    refine ⟨UInt8.ofNat z.toNat, ?_⟩
    have := congrArg (·[0]?) e1
    have h2 : cs[i]? = some (.int .u8 z) := by simpa [List.getElem?_take, List.getElem?_drop] using this
    rw [h2]
    simp [bv]
    omega
  have hall : ∀ u ∈ cs, ∃ b, u = bv b := fun u hu => by
    obtain ⟨i, hi, rfl⟩ := List.getElem_of_mem hu
    obtain ⟨b, hb⟩ := key i (by omega)
    rw [List.getElem?_eq_getElem hi] at hb
    exact ⟨b, Option.some.inj hb⟩
  obtain ⟨s, rfl⟩ := bvs_of hall
  exact ⟨s, rfl, by simpa [bvs_length] using hlen⟩
theorem pt_of_trod {H : Type} {enc : TypeId × Value → H} {W : World} {fuel : Nat} {cs : List Value} {x : DataW H × List MemPlace} (h : DataW.trod enc Tryz.prog W 0 (fun _ => true) true fuel 26 cs = some x) :
    ∃ a cap, ∃ p : Pt, ∃ sp, cs = pc (.slice a p.ads.length cap) p.b p.l p.s ∧ SlA W (.slice a p.ads.length cap) p.ads sp ∧ p.s.length = 32 := by
  obtain ⟨y0, y1, y2, y3, n, hl, t0, t1, t2, t3⟩ := trod_struct4 Tryz.underlying26 h
  rw [cells26] at hl
  rw [show Tryz.prog.cellsOf (Field.mk "Addrs" 22 0 false "" "" 0).type = 1 from cells22] at t0
  rw [show Tryz.prog.cellsOf (Field.mk "Birth" 3 1 false "" "" 24).type = 1 from cells3] at t1
  rw [show Tryz.prog.cellsOf (Field.mk "Level" 3 2 false "" "" 32).type = 1 from cells3] at t2
  rw [show Tryz.prog.cellsOf (Field.mk "Sum" 24 3 false "" "" 40).type = 32 from cells24] at t3
  obtain ⟨a, cap, l, sp, e0, hS, _⟩ := sla_of_trod t0
  obtain ⟨z1, e1, _, _⟩ := DataW.trod_int Tryz.underlying3 t1
  obtain ⟨z2, e2, _, _⟩ := DataW.trod_int Tryz.underlying3 t2
  obtain ⟨s, e3, hs⟩ := id_of_trod t3
  refine ⟨a, cap, ⟨l, z1, z2, s⟩, sp, ?_, hS, hs⟩
  match cs, hl with
  | c0 :: c1 :: c2 :: r, hl =>
    simp at e0 e1 e2 e3
    subst e0 e1 e2
    have hr : r.take 32 = r := List.take_of_length_le (by simp at hl; omega)
    rw [hr] at e3
    subst e3
    rfl
theorem open_pt {H : Type} {enc : TypeId × Value → H} {W : World} {r : Reach} {b0 : Nat} {v : Value} {d : DataW H} {p : List MemPlace} (hv : Value.okWide Tryz.prog W r b0 26 v) (h : DataW.Trod enc Tryz.prog W 0 (fun _ => true) true 26 v d p) :
    ∃ q : Pt, PtV W v q := by
  obtain ⟨c, rfl, _⟩ := okWide_struct Tryz.underlying26 hv
  obtain ⟨fuel, hf⟩ := h
  obtain ⟨a, cap, q, sp, e, hS, hs⟩ := pt_of_trod hf
  refine ⟨q, a, cap, sp, ?_, hS, hs⟩
  unfold pv
  rw [← e]
  simp [Value.cells]
theorem open_bytes {H : Type} {enc : TypeId × Value → H} {W : World} {r : Reach} {b0 : Nat} {v : Value} {d : DataW H} {p : List MemPlace} (hv : Value.okWide Tryz.prog W r b0 32 v) (h : DataW.Trod enc Tryz.prog W 0 (fun _ => true) true 32 v d p) :
    ∃ l sp, SlB W v l sp := by
  obtain ⟨a, len, cap, rfl⟩ := okWide_slice Tryz.underlying32 hv
  obtain ⟨fuel, hf⟩ := h
  obtain ⟨a', c', l, sp, e, hS, _⟩ := slb_of_trod hf
  simp [Value.cells] at e
  obtain ⟨rfl, rfl, rfl⟩ := e
  exact ⟨l, sp, hS⟩
end Go.Proofs.YtjdejhgfkjeeiaaGreatDoor.Pt
