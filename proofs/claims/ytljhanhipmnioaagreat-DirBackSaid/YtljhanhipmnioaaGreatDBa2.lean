/-
  What a row's own reading gives the walks: bytes, addresses, pointers. No conditions but those that each theorem names. Plain facts of names: parts, cuts at the first mark, the order; of no program. No conditions but those that each theorem names. Plain facts of tables: which may be, their bytes, what bytes are read as; of no program. No conditions but those that each theorem names. Plain facts of tables: bytes there and back, cut short; places of names. No conditions but those that each theorem names. Rows of elements of k cells each: read, owned, appended to; of no program. No conditions but those that each law names. Records and tables as values; slices of records that can be read. No conditions but those that each theorem names. Boxes of records and of tables; within, the program's and the document's. No conditions but those that each theorem names. Parts of lists of records; slices.IndexFunc over records. No conditions but those that each theorem names. pass: whether no record is wrong to any of some functions. No conditions but those that each theorem names. Contract of the document's Find. No conditions but those that each theorem names. Find, the program's. No conditions but those that each theorem names. Contracts of letters, of a part, of the library's search by a function. No conditions but those that each theorem names. Contracts of the library's search by a function, at foreign; of a part; of the document's part. No conditions but those that each theorem names. Contracts of the library's cut at the mark, of its clone, and of the document's cut. No conditions but those that each theorem names.
-/
import Derived.Test.YtljhanhipmnioaaGreatDBa1
import Derived.Deep.SlicePairs
import Derived.Deep.Strs
import Derived.ChangeSame
import Derived.Lib.Bytealg
import Derived.Lib.TrimUEq
import Derived.Lib.MinMaxS
import Derived.Lib.Hide
import Derived.StillTailTactics
import Derived.WalkHide
import Derived.LaidEqlPtr
import Derived.Deep.Cut
import Derived.Test.YtljhanhipmnioaaGreatChecked
import Derived.Lib.OthersKept
import Derived.Deep.Draws
import Derived.WalkMore
import Derived.Deep.LoopGhost
import Derived.Lib.BufferWrite
import Derived.Lib.UnsafeStr
import Derived.Laws.MakeOwn
import Derived.Laws.Strings3
import Derived.BigRegion
import Derived.Lib.Walk
import Derived.WalkKit
import Derived.WalkSpells
import Derived.WalkLawsBesides
import Derived.Deep.AppendSrc
import Derived.Laws.CopyOwn
import Derived.Laws.BytesArg
import Derived.Carry
import Derived.Laws.BytesString
import Derived.ChangeKeysEq
import Derived.Deep.MidRow
import Derived.Deep.RegionHeld3
import Derived.OpenShut
import Derived.IntWalk
import Derived.Deep.RegionLaw
import Derived.Deep.RegionWith
import Derived.Deep.QuietTactic
import Derived.BigQuiet
import Derived.OrdersHeld
import Derived.Deep.CutBlock
import Derived.Deep.DeepCutAuto
import Derived.Deep.Slices
import Derived.Defers
import Derived.Recover
import Derived.Deep.WholeRow
namespace Go.Proofs.YtljhanhipmnioaaGreat.Pt
open Go.RowKit Go.ChangeShapes Go.WideShapes Go.Deep
set_option linter.unusedVariables false
set_option maxRecDepth 100000
set_option linter.unusedSimpArgs false

theorem cells3 : Tryz.prog.cellsOf 3 = 1 := by kernel_rfl
theorem cells5 : Tryz.prog.cellsOf 5 = 1 := by kernel_rfl
theorem cells46 : Tryz.prog.cellsOf 148 = 2 := by kernel_rfl
theorem cells22 : Tryz.prog.cellsOf 50 = 1 := by kernel_rfl
theorem cells24 : Tryz.prog.cellsOf 52 = 32 := by kernel_rfl
theorem cells26 : Tryz.prog.cellsOf 54 = 35 := by kernel_rfl
theorem own : ownKnob Tryz.prog.godebug = none := by kernel_rfl
theorem laidOut : laidOutB Tryz.prog = true := by kernel_rfl
theorem one_of {v u : Value} (h : [v] = [u]) : v = u := by simpa using h
def WfA (x : Ad) : Prop := (Lit.int .i64 x.1).wf = true ∧ (Lit.int .i64 x.2).wf = true
theorem sla_of_trod {H : Type} {enc : TypeId × Value → H} {W : World} {fuel : Nat} {cs : List Value} {x : DataW H × List MemPlace} (h : DataW.trod enc Tryz.prog W 0 (fun _ => true) true fuel 50 cs = some x) :
    ∃ a cap l sp, cs = [.slice a (l : List Ad).length cap] ∧ SlA W (.slice a l.length cap) l sp ∧ ∀ x ∈ l, WfA x := by
  rcases open_slice_pairs Tryz.underlying50 Tryz.underlying148 cells46 rfl rfl cells3 cells3 h with ⟨rfl, _⟩ | ⟨a, len, cap, m, n, V0, V1, D0, D1, P0, P1, rfl, _, hl, hm, hmm, _, hi⟩
  · exact ⟨none, 0, [], [], rfl, SlA.nil _, by simp⟩
  · simp at hmm
    subst hmm
    have hex : ∀ i, ∃ y : Ad, i < m → W.cell? (a.add (i * 2)) = some (.int .i64 y.1) ∧ W.cell? (a.add (i * 2 + 1)) = some (.int .i64 y.2) ∧ WfA y := fun i => by
      by_cases hlt : i < m
      · obtain ⟨c0, c1, t0, t1⟩ := hi i hlt
        obtain ⟨z0, k0, _, w0⟩ := DataW.trod_int Tryz.underlying3 t0
        obtain ⟨z1, k1, _, w1⟩ := DataW.trod_int Tryz.underlying3 t1
        exact ⟨(z0, z1), fun _ => ⟨by rw [c0, one_of k0], by rw [c1, one_of k1], w0, w1⟩⟩
      · exact ⟨(0, 0), fun h => absurd h hlt⟩
    obtain ⟨f, hf⟩ := Classical.axiomOfChoice hex
    have hall : ∀ L : List Ad, L = (List.range m).map f → L.length = m := fun L h => by rw [h]; simp
    obtain ⟨L, hL⟩ : ∃ L, L = (List.range m).map f := ⟨_, rfl⟩
    have hLl := hall L hL
    have hget : ∀ i (h : i < L.length), L[i] = f i := fun i h => by subst hL; simp
    have htl : (L.take len).length = len := by simp; omega
    by_cases hc : m = 0
    · subst hc
      obtain rfl : len = 0 := by omega
      exact ⟨some a, 0, [], [], rfl, ⟨rfl, .inr (.inl ⟨a, rfl, rfl, rfl⟩)⟩, by simp⟩
    · obtain ⟨b, off, spot⟩ := a
      have h0 := (hf 0 (by omega)).1
      have hspot : spot = none := by simpa [Addr.add] using World.cell?_spot h0
      subst hspot
      refine ⟨some ⟨b, off, none⟩, m, L.take len, L.drop len, by rw [htl], ?_, fun x hx => ?_⟩
      · rw [htl]
        refine ⟨by rw [eas_length, htl], .inr (.inr ⟨b, off, m, by rw [htl], by omega, hm, ?_, fun i u hu => ?_⟩)⟩
        · rw [← eas_append, List.take_append_drop, eas_length, hLl]
        · rw [← eas_append, List.take_append_drop] at hu
          have hi2 : i < L.length * 2 := by
            rcases Nat.lt_or_ge i (L.length * 2) with h | h
            · exact h
            · rw [List.getElem?_eq_none (by rw [eas_length]; exact h)] at hu; cases hu
          have hq : i / 2 < L.length := by omega
          obtain ⟨c0, c1, _⟩ := hf (i / 2) (by omega)
          by_cases h2 : i % 2 = 0
          · have e : i / 2 * 2 = i := by omega
            have g := eas_get0 L (i / 2) hq
            rw [e] at g c0
            rw [g] at hu
            cases hu
            rw [add_plain] at c0
            rw [c0, hget]
          · have e : i / 2 * 2 + 1 = i := by omega
            have g := eas_get1 L (i / 2) hq
            rw [e] at g c1
            rw [g] at hu
            cases hu
            rw [add_plain] at c1
            rw [c1, hget]
      · obtain ⟨i, hi', rfl⟩ := List.getElem_of_mem (List.mem_of_mem_take hx)
        rw [hget]
        exact (hf i (by omega)).2.2
/-- The blocks that a slice can be read from: none, if it has no room. -/
def blkR : Value → List Nat
  | .slice (some a) _ cap => if cap = 0 then [] else [a.block]
  | _ => []
/-- Numbers that fit a byte, as bytes. -/
def asBytes (zs : List Int) : List UInt8 := zs.map fun n => UInt8.ofNat n.toNat
theorem bvs_asBytes {zs : List Int} (h : ∀ n ∈ zs, (Lit.int .u8 n).wf = true) : bvs (asBytes zs) = zs.map (Value.int .u8) := by
  unfold bvs asBytes
  rw [List.map_map]
  refine List.map_congr_left fun n hn => ?_
  have := bounds_u8 (h n hn)
  simp [bv]
  omega
theorem slb_of_trod {H : Type} {enc : TypeId × Value → H} {W : World} {fuel : Nat} {cs : List Value} {x : DataW H × List MemPlace} (h : DataW.trod enc Tryz.prog W 0 (fun _ => true) true fuel 31 cs = some x) :
    ∃ a cap l sp, cs = [.slice a (l : List UInt8).length cap] ∧ SlB W (.slice a l.length cap) l sp ∧ ∀ k ∈ blkR (.slice a l.length cap), k < W.heap.size := by
  rcases open_ints Tryz.underlying31 Tryz.underlying5 cells5 h with ⟨rfl, _⟩ | ⟨a, len, cap, zs, rfl, _, hl, hm, hz, _, hcell, hwz⟩
  · exact ⟨none, 0, [], [], rfl, SlB.nil _, by simp [blkR]⟩
  · have hzl : zs.length = cap := by simpa using hz
    have hlen : ((asBytes zs).take len).length = len := by simp [asBytes]; omega
    by_cases hc : cap = 0
    · subst hc
      obtain rfl : len = 0 := by omega
      exact ⟨some a, 0, [], [], rfl, ⟨rfl, .inr (.inl ⟨a, rfl, rfl, rfl⟩)⟩, by simp [blkR]⟩
    · obtain ⟨b, off, spot⟩ := a
      have h0 := hcell 0 (by omega)
      have hspot : spot = none := by simpa [Addr.add] using World.cell?_spot h0
      subst hspot
      refine ⟨some ⟨b, off, none⟩, cap, (asBytes zs).take len, (asBytes zs).drop len, by rw [hlen], ?_, ?_⟩
      · rw [hlen]
        refine ⟨by simp [bvs_length, hlen], .inr (.inr ⟨b, off, cap, by rw [hlen], by omega, hm, ?_, fun i u hu => ?_⟩)⟩
        · rw [← bvs_append, List.take_append_drop]; simp [bvs_length, asBytes, hzl]
        · rw [← bvs_append, List.take_append_drop, bvs_asBytes hwz] at hu
          have hi : i < zs.length := by
            rcases Nat.lt_or_ge i zs.length with h | h
            · exact h
            · rw [List.getElem?_eq_none (by simpa using h)] at hu; cases hu
          have := hcell i hi
          rw [add_plain] at this
          rw [this]
          rw [List.getElem?_map, List.getElem?_eq_getElem hi] at hu
          simp at hu
          rw [← hu]
          simp [List.getD, List.getElem?_eq_getElem hi]
      · intro k hk
        simp [blkR, hc] at hk
        subst hk
        rw [add_plain] at h0
        exact World.block_lt_of_cell? W _ h0
section
variable {H : Type} {enc : TypeId × Value → H} {P : Program} {w : World} {base : Nat} {spare : Nat → Bool} {held : Bool}
theorem trod_struct4 {t : TypeId} {f0 f1 f2 f3 : Field} {fuel : Nat} {cs : List Value} {x : DataW H × List MemPlace} (ht : P.underlying t = some (.struct #[f0, f1, f2, f3])) (h : DataW.trod enc P w base spare held fuel t cs = some x) :
    ∃ y0 y1 y2 y3 n, cs.length = P.cellsOf t ∧ DataW.trod enc P w base spare held n f0.type ((cs.drop f0.offset).take (P.cellsOf f0.type)) = some y0 ∧
      DataW.trod enc P w base spare held n f1.type ((cs.drop f1.offset).take (P.cellsOf f1.type)) = some y1 ∧ DataW.trod enc P w base spare held n f2.type ((cs.drop f2.offset).take (P.cellsOf f2.type)) = some y2 ∧
      DataW.trod enc P w base spare held n f3.type ((cs.drop f3.offset).take (P.cellsOf f3.type)) = some y3 := by
  obtain ⟨xs, n, _, rfl, hl, hlen, hf⟩ := DataW.trod_struct ht h
  match xs, hlen with
  | [y0, y1, y2, y3], _ => exact ⟨y0, y1, y2, y3, n, hl, by simpa using hf 0 f0 rfl, by simpa using hf 1 f1 rfl, by simpa using hf 2 f2 rfl, by simpa using hf 3 f3 rfl⟩
end
theorem id_of_trod {H : Type} {enc : TypeId × Value → H} {W : World} {fuel : Nat} {cs : List Value} {x : DataW H × List MemPlace} (h : DataW.trod enc Tryz.prog W 0 (fun _ => true) true fuel 52 cs = some x) :
    ∃ s : List UInt8, cs = bvs s ∧ s.length = 32 := by
  obtain ⟨xs, m, rfl, hx, hlen, hn, hel⟩ := DataW.trod_array Tryz.underlying52 h
  rw [cells24] at hlen
  have key : ∀ i, i < 32 → ∃ b : UInt8, cs[i]? = some (bv b) := fun i hi => by
    have h1 := hel i hi
    obtain ⟨b, hb⟩ : ∃ b, xs[i]? = some b := ⟨xs[i]'(by omega), List.getElem?_eq_getElem (by omega)⟩
    rw [hb, cells5] at h1
    obtain ⟨z, e1, _, e3⟩ := DataW.trod_int Tryz.underlying5 h1
    have := bounds_u8 e3
    refine ⟨UInt8.ofNat z.toNat, ?_⟩
    have := congrArg (·[0]?) e1
    have h2 : cs[i]? = some (.int .u8 z) := by simpa [List.getElem?_take, List.getElem?_drop] using this
    rw [h2]
    simp [bv]
    omega
  have hall : ∀ u ∈ cs, ∃ b, u = bv b := fun u hu => by
    obtain ⟨i, hi, rfl⟩ := List.getElem_of_mem hu
    obtain ⟨b, hb⟩ := key i (by omega)
    rw [List.getElem?_eq_getElem hi] at hb
    exact ⟨b, Option.some.inj hb⟩
  obtain ⟨s, rfl⟩ := bvs_of hall
  exact ⟨s, rfl, by simpa [bvs_length] using hlen⟩
theorem pt_of_trod {H : Type} {enc : TypeId × Value → H} {W : World} {fuel : Nat} {cs : List Value} {x : DataW H × List MemPlace} (h : DataW.trod enc Tryz.prog W 0 (fun _ => true) true fuel 54 cs = some x) :
    ∃ a cap, ∃ p : Pt, ∃ sp, cs = pc (.slice a p.ads.length cap) p.b p.l p.s ∧ SlA W (.slice a p.ads.length cap) p.ads sp ∧ p.s.length = 32 := by
  obtain ⟨y0, y1, y2, y3, n, hl, t0, t1, t2, t3⟩ := trod_struct4 Tryz.underlying54 h
  rw [cells26] at hl
  rw [show Tryz.prog.cellsOf (Field.mk "Addrs" 50 0 false "" "" 0).type = 1 from cells22] at t0
  rw [show Tryz.prog.cellsOf (Field.mk "Birth" 3 1 false "" "" 24).type = 1 from cells3] at t1
  rw [show Tryz.prog.cellsOf (Field.mk "Level" 3 2 false "" "" 32).type = 1 from cells3] at t2
  rw [show Tryz.prog.cellsOf (Field.mk "Sum" 52 3 false "" "" 40).type = 32 from cells24] at t3
  obtain ⟨a, cap, l, sp, e0, hS, _⟩ := sla_of_trod t0
  obtain ⟨z1, e1, _, _⟩ := DataW.trod_int Tryz.underlying3 t1
  obtain ⟨z2, e2, _, _⟩ := DataW.trod_int Tryz.underlying3 t2
  obtain ⟨s, e3, hs⟩ := id_of_trod t3
  refine ⟨a, cap, ⟨l, z1, z2, s⟩, sp, ?_, hS, hs⟩
  match cs, hl with
  | c0 :: c1 :: c2 :: r, hl =>
    simp at e0 e1 e2 e3
    subst e0 e1 e2
    have hr : r.take 32 = r := List.take_of_length_le (by simp at hl; omega)
    rw [hr] at e3
    subst e3
    rfl
theorem open_pt {H : Type} {enc : TypeId × Value → H} {W : World} {r : Reach} {b0 : Nat} {v : Value} {d : DataW H} {p : List MemPlace} (hv : Value.okWide Tryz.prog W r b0 54 v) (h : DataW.Trod enc Tryz.prog W 0 (fun _ => true) true 54 v d p) :
    ∃ q : Pt, PtV W v q := by
  obtain ⟨c, rfl, _⟩ := okWide_struct Tryz.underlying54 hv
  obtain ⟨fuel, hf⟩ := h
  obtain ⟨a, cap, q, sp, e, hS, hs⟩ := pt_of_trod hf
  refine ⟨q, a, cap, sp, ?_, hS, hs⟩
  unfold pv
  rw [← e]
  simp [Value.cells]
theorem open_bytes {H : Type} {enc : TypeId × Value → H} {W : World} {r : Reach} {b0 : Nat} {v : Value} {d : DataW H} {p : List MemPlace} (hv : Value.okWide Tryz.prog W r b0 31 v) (h : DataW.Trod enc Tryz.prog W 0 (fun _ => true) true 31 v d p) :
    ∃ l sp, SlB W v l sp := by
  obtain ⟨a, len, cap, rfl⟩ := okWide_slice Tryz.underlying31 hv
  obtain ⟨fuel, hf⟩ := h
  obtain ⟨a', c', l, sp, e, hS, _⟩ := slb_of_trod hf
  simp [Value.cells] at e
  obtain ⟨rfl, rfl, rfl⟩ := e
  exact ⟨l, sp, hS⟩
end Go.Proofs.YtljhanhipmnioaaGreat.Pt

namespace Go.Proofs.YtljhanhipmnioaaGreat
open Go
set_option linter.unusedVariables false
set_option linter.unusedSimpArgs false

theorem cb_refl : ∀ l : List UInt8, Lib.compareBytes l l = 0
  | [] => rfl
  | x :: r => by simp [Lib.compareBytes, cb_refl r]
theorem cb_eq : ∀ {a b : List UInt8}, Lib.compareBytes a b = 0 → a = b
  | [], [], _ => rfl
  | [], _ :: _, h => by simp [Lib.compareBytes] at h
  | _ :: _, [], h => by simp [Lib.compareBytes] at h
  | x :: a, y :: b, h => by
    simp only [Lib.compareBytes] at h
    by_cases h1 : x < y
    · rw [if_pos h1] at h; cases h
    · rw [if_neg h1] at h
      by_cases h2 : y < x
      · rw [if_pos h2] at h; cases h
      · rw [if_neg h2] at h
        rw [cb_eq h, UInt8.le_antisymm (UInt8.not_lt.1 h2) (UInt8.not_lt.1 h1)]
theorem cb_swap : ∀ (a b : List UInt8), Lib.compareBytes b a = - Lib.compareBytes a b
  | [], [] => rfl
  | [], _ :: _ => rfl
  | _ :: _, [] => rfl
  | x :: a, y :: b => by
    simp only [Lib.compareBytes]
    by_cases h1 : x < y
    · have h2 : ¬ y < x := fun h => UInt8.lt_irrefl _ (UInt8.lt_trans h1 h)
      rw [if_pos h1, if_neg h2, if_pos h1]; rfl
    · by_cases h2 : y < x
      · rw [if_pos h2, if_neg h1, if_pos h2]
      · rw [if_neg h2, if_neg h1, if_neg h1, if_neg h2, cb_swap a b]
theorem cb_three : ∀ (a b : List UInt8), Lib.compareBytes a b = -1 ∨ Lib.compareBytes a b = 0 ∨ Lib.compareBytes a b = 1
  | [], [] => .inr (.inl rfl)
  | [], _ :: _ => .inl rfl
  | _ :: _, [] => .inr (.inr rfl)
  | x :: a, y :: b => by
    simp only [Lib.compareBytes]
    by_cases h1 : x < y
    · rw [if_pos h1]; exact .inl rfl
    · rw [if_neg h1]
      by_cases h2 : y < x
      · rw [if_pos h2]; exact .inr (.inr rfl)
      · rw [if_neg h2]; exact cb_three a b
theorem cb_trans : ∀ {a b c : List UInt8}, Lib.compareBytes a b < 0 → Lib.compareBytes b c < 0 → Lib.compareBytes a c < 0
  | [], [], _, h, _ => by simp [Lib.compareBytes] at h
  | [], _ :: _, [], _, h => by simp [Lib.compareBytes] at h
  | [], _ :: _, _ :: _, _, _ => by simp [Lib.compareBytes]
  | _ :: _, [], _, h, _ => by simp [Lib.compareBytes] at h
  | _ :: _, _ :: _, [], _, h => by simp [Lib.compareBytes] at h
  | x :: a, y :: b, z :: c, h1, h2 => by
    simp only [Lib.compareBytes] at h1 h2 ⊢
    by_cases xy : x < y
    · by_cases yz : y < z
      · rw [if_pos (UInt8.lt_trans xy yz)]; decide
      · rw [if_neg yz] at h2
        by_cases zy : z < y
        · rw [if_pos zy] at h2; exact absurd h2 (by decide)
        · have : y = z := UInt8.le_antisymm (UInt8.not_lt.1 zy) (UInt8.not_lt.1 yz)
          subst this
          rw [if_pos xy]; decide
    · rw [if_neg xy] at h1
      by_cases yx : y < x
      · rw [if_pos yx] at h1; exact absurd h1 (by decide)
      · have : x = y := UInt8.le_antisymm (UInt8.not_lt.1 yx) (UInt8.not_lt.1 xy)
        subst this
        rw [if_neg yx] at h1
        by_cases xz : x < z
        · rw [if_pos xz]; decide
        · rw [if_neg xz] at h2 ⊢
          by_cases zx : z < x
          · rw [if_pos zx] at h2; exact absurd h2 (by decide)
          · rw [if_neg zx] at h2 ⊢
            exact cb_trans h1 h2

/-- A text of bytes. -/
def sB (l : List UInt8) : ByteArray := ⟨l.toArray⟩
theorem sB_list (l : List UInt8) : (sB l).data.toList = l := rfl
theorem sB_data (s : ByteArray) : sB s.data.toList = s := Lib.mk_data s
theorem sB_size (l : List UInt8) : (sB l).size = l.length := by rw [Lib.size_eq]; rfl
theorem ba_ext {a b : ByteArray} (h : a.data.toList = b.data.toList) : a = b := by rw [← sB_data a, h, sB_data]
def letB (b : UInt8) : Bool := decide (97 ≤ b.toNat) && decide (b.toNat ≤ 122)
def okB (b : UInt8) : Bool := letB b || (decide (48 ≤ b.toNat) && decide (b.toNat ≤ 57)) || b.toNat == 46 || b.toNat == 45 || b.toNat == 95
theorem letB_ok {b : UInt8} (h : letB b = true) : okB b = true := by unfold okB; rw [h]; rfl
def partL : List UInt8 → Bool
  | [] => false
  | c :: r => letB c && r.all okB && decide (r.length ≤ 19)
/-- What place j asks of a byte. -/
def okAt (j : Nat) (b : UInt8) : Bool := if j = 0 then letB b else okB b
theorem part_iff (l : List UInt8) : partL l = true ↔ 1 ≤ l.length ∧ l.length ≤ 20 ∧ ∀ j b, l[j]? = some b → okAt j b = true := by
  cases l with
  | nil => simp [partL]
  | cons c r =>
    simp only [partL, Bool.and_eq_true, decide_eq_true_eq, List.length_cons, List.all_eq_true]
    constructor
    · rintro ⟨⟨h1, h2⟩, h3⟩
      refine ⟨by omega, by omega, fun j b hb => ?_⟩
      cases j with
      | zero => simp at hb; subst hb; exact h1
      | succ j => simp at hb; exact h2 b (List.mem_of_getElem? hb)
    · rintro ⟨_, h3, h⟩
      refine ⟨⟨h 0 c rfl, fun b hb => ?_⟩, by omega⟩
      obtain ⟨j, hj⟩ := List.getElem?_of_mem hb
      exact h (j + 1) b (by simpa using hj)
theorem part_cons (c : UInt8) (r : List UInt8) : partL (c :: r) = (decide ((c :: r).length ≤ 20) && letB c && (c :: r).all okB) := by
  simp only [partL, List.length_cons, List.all_cons]
  by_cases h1 : letB c = true
  · rw [h1, letB_ok h1]
    by_cases h2 : r.length ≤ 19
    · simp [h2]
    · simp [h2]
  · rw [Bool.not_eq_true] at h1; rw [h1]; simp
theorem part_length {l : List UInt8} (h : partL l = true) : l.length ≤ 20 := ((part_iff l).1 h).2.1
theorem part_none {l : List UInt8} (h : partL l = true) : ∀ b ∈ l, b ≠ 64 := by
  intro b hb e
  subst e
  obtain ⟨j, hj⟩ := List.getElem?_of_mem hb
  have h1 := ((part_iff l).1 h).2.2 j 64 hj
  unfold okAt at h1
  split at h1 <;> exact absurd h1 (by decide)
def partS (s : ByteArray) : Bool := partL s.data.toList
def cutL : List UInt8 → List UInt8 × List UInt8 × Bool
  | [] => ([], [], false)
  | c :: r => if c = 64 then ([], r, true) else (c :: (cutL r).1, (cutL r).2)
theorem cut_no : ∀ {l : List UInt8}, (∀ b ∈ l, b ≠ 64) → cutL l = (l, [], false)
  | [], _ => rfl
  | c :: r, n => by
    have hc : c ≠ 64 := n c (by simp)
    have ih := cut_no (l := r) (fun b hb => n b (by simp [hb]))
    simp [cutL, hc, ih]
theorem cut_index : ∀ l : List UInt8, (Lib.indexByte l 64 = -1 ∧ cutL l = (l, [], false)) ∨ ∃ i : Nat, Lib.indexByte l 64 = i ∧ i < l.length ∧ cutL l = (l.take i, l.drop (i + 1), true)
  | [] => .inl ⟨rfl, rfl⟩
  | c :: r => by
    by_cases hc : c = 64
    · subst hc
      exact .inr ⟨0, rfl, by simp, by simp [cutL]⟩
    · have hb : (c == 64) = false := by simpa using hc
      rcases cut_index r with ⟨h1, h2⟩ | ⟨i, h1, h2, h3⟩
      · exact .inl ⟨by simp [Lib.indexByte, hb, h1], by simp [cutL, hc, h2]⟩
      · refine .inr ⟨i + 1, ?_, by simp; omega, by simp [cutL, hc, h3]⟩
        have hne : ((i : Int) == -1) = false := by rw [beq_eq_false_iff_ne]; omega
        simp [Lib.indexByte, hb, h1, hne]
theorem cut_join (v p : List UInt8) (hv : ∀ b ∈ v, b ≠ 64) : cutL (v ++ 64 :: p) = (v, p, true) := by
  induction v with
  | nil => simp [cutL]
  | cons c r ih =>
    have hc : c ≠ 64 := hv c (by simp)
    simp [cutL, hc, ih (fun b hb => hv b (by simp [hb]))]
theorem cut_back : ∀ l : List UInt8, l = if (cutL l).2.2 then (cutL l).1 ++ 64 :: (cutL l).2.1 else (cutL l).1
  | [] => rfl
  | c :: r => by
    by_cases hc : c = 64
    · simp [cutL, hc]
    · have ih := cut_back r
      simp only [cutL, hc, if_false]
      split
      · rename_i h; rw [if_pos h] at ih; rw [List.cons_append, ← ih]
      · rename_i h; rw [if_neg h] at ih; rw [← ih]
theorem cut_false : ∀ {l : List UInt8}, (cutL l).2.2 = false → (cutL l).2.1 = []
  | [], _ => rfl
  | c :: r, h => by
    by_cases hc : c = 64
    · simp [cutL, hc] at h
    · simp only [cutL, hc, if_false] at h ⊢
      exact cut_false h
def cut1 (s : ByteArray) : ByteArray := sB (cutL s.data.toList).1
def cut2 (s : ByteArray) : ByteArray := sB (cutL s.data.toList).2.1
def cutIs (s : ByteArray) : Bool := (cutL s.data.toList).2.2
def snapS (s : ByteArray) : Bool := cutIs s && partS (cut1 s) && partS (cut2 s)
def spl1 (s : ByteArray) : ByteArray := if snapS s then cut1 s else sB []
def spl2 (s : ByteArray) : ByteArray := if snapS s then cut2 s else sB []
def joins (v p : ByteArray) : Bool := partS v && partS p
def joinS (v p : ByteArray) : ByteArray := if joins v p then sB (v.data.toList ++ 64 :: p.data.toList) else sB []
theorem part_nil : partS (sB []) = false := rfl
/-- Without a mark the part is empty. -/
theorem snap_eq (s : ByteArray) : snapS s = (partS (cut1 s) && partS (cut2 s)) := by
  unfold snapS
  cases h : cutIs s with
  | true => simp
  | false =>
    have : cut2 s = sB [] := by unfold cut2; rw [cut_false h]
    rw [this, part_nil]; simp
theorem snap_back {s : ByteArray} (h : snapS s = true) : joins (spl1 s) (spl2 s) = true ∧ joinS (spl1 s) (spl2 s) = s ∧ partS (spl1 s) = true ∧ partS (spl2 s) = true := by
  have h0 := h
  unfold snapS at h
  simp only [Bool.and_eq_true] at h
  obtain ⟨⟨h1, h2⟩, h3⟩ := h
  have e1 : spl1 s = cut1 s := if_pos h0
  have e2 : spl2 s = cut2 s := if_pos h0
  have hj : joins (cut1 s) (cut2 s) = true := by unfold joins; rw [h2, h3]; rfl
  rw [e1, e2]
  refine ⟨hj, ?_, h2, h3⟩
  unfold joinS
  rw [if_pos hj]
  have := cut_back s.data.toList
  unfold cutIs at h1
  rw [if_pos h1] at this
  unfold cut1 cut2
  rw [sB_list, sB_list, ← this, sB_data]
theorem join_cut {v p : ByteArray} (h : joins v p = true) : cutL (joinS v p).data.toList = (v.data.toList, p.data.toList, true) := by
  have h0 := h
  unfold joins at h
  simp only [Bool.and_eq_true] at h
  unfold joinS
  rw [if_pos h0, sB_list]
  exact cut_join _ _ (part_none h.1)
theorem join_back {v p : ByteArray} (h : joins v p = true) : snapS (joinS v p) = true ∧ spl1 (joinS v p) = v ∧ spl2 (joinS v p) = p := by
  have hc := join_cut h
  have h0 := h
  unfold joins at h
  simp only [Bool.and_eq_true] at h
  have c1 : cut1 (joinS v p) = v := by unfold cut1; rw [hc]; exact sB_data v
  have c2 : cut2 (joinS v p) = p := by unfold cut2; rw [hc]; exact sB_data p
  have c3 : cutIs (joinS v p) = true := by unfold cutIs; rw [hc]
  have hs : snapS (joinS v p) = true := by unfold snapS; rw [c1, c2, c3, h.1, h.2]; rfl
  exact ⟨hs, by unfold spl1; rw [if_pos hs, c1], by unfold spl2; rw [if_pos hs, c2]⟩
theorem part_cut {s : ByteArray} (h : partS s = true) : cutL s.data.toList = (s.data.toList, [], false) := cut_no (part_none h)
theorem snap_part {s : ByteArray} (h : snapS s = true) : partS s = false := by
  rw [Bool.eq_false_iff]
  intro hp
  have hc := part_cut hp
  unfold snapS cutIs at h
  rw [hc] at h
  simp at h
def pcs (l : List UInt8) : List UInt8 × List UInt8 × List UInt8 := ((cutL l).1, if (cutL l).2.2 then [64] else [], (cutL l).2.1)
def cmp3 (p q : List UInt8 × List UInt8 × List UInt8) : Int :=
  if Lib.compareBytes p.1 q.1 ≠ 0 then Lib.compareBytes p.1 q.1 else if Lib.compareBytes p.2.1 q.2.1 ≠ 0 then Lib.compareBytes p.2.1 q.2.1 else Lib.compareBytes p.2.2 q.2.2
def lessL (a b : List UInt8) : Bool := decide (cmp3 (pcs a) (pcs b) < 0)
def lessS (a b : ByteArray) : Bool := lessL a.data.toList b.data.toList
theorem cmp3_refl (p : List UInt8 × List UInt8 × List UInt8) : cmp3 p p = 0 := by unfold cmp3; simp [cb_refl]
theorem cmp3_swap (p q : List UInt8 × List UInt8 × List UInt8) : cmp3 q p = - cmp3 p q := by
  unfold cmp3
  rw [cb_swap p.1 q.1, cb_swap p.2.1 q.2.1, cb_swap p.2.2 q.2.2]
  by_cases h1 : Lib.compareBytes p.1 q.1 = 0
  · by_cases h2 : Lib.compareBytes p.2.1 q.2.1 = 0
    · simp [h1, h2]
    · simp [h1, h2]
  · simp [h1]
theorem cmp3_eq {p q : List UInt8 × List UInt8 × List UInt8} (h : cmp3 p q = 0) : p = q := by
  unfold cmp3 at h
  by_cases h1 : Lib.compareBytes p.1 q.1 = 0
  · by_cases h2 : Lib.compareBytes p.2.1 q.2.1 = 0
    · simp [h1, h2] at h
      exact Prod.ext (cb_eq h1) (Prod.ext (cb_eq h2) (cb_eq h))
    · simp [h1, h2] at h
  · simp [h1] at h
theorem cmp3_trans {p q r : List UInt8 × List UInt8 × List UInt8} (h1 : cmp3 p q < 0) (h2 : cmp3 q r < 0) : cmp3 p r < 0 := by
  obtain ⟨p1, p2, p3⟩ := p
  obtain ⟨q1, q2, q3⟩ := q
  obtain ⟨r1, r2, r3⟩ := r
  unfold cmp3 at *
  simp only at *
  by_cases a1 : Lib.compareBytes p1 q1 = 0
  · obtain rfl := cb_eq a1
    by_cases b1 : Lib.compareBytes p1 r1 = 0
    · rw [if_neg (by simpa using b1)] at h2 ⊢
      rw [if_neg (by simpa using a1)] at h1
      by_cases a2 : Lib.compareBytes p2 q2 = 0
      · obtain rfl := cb_eq a2
        rw [if_neg (by simpa using a2)] at h1
        by_cases b2 : Lib.compareBytes p2 r2 = 0
        · rw [if_neg (by simpa using b2)] at h2 ⊢
          exact cb_trans h1 h2
        · rw [if_pos b2] at h2 ⊢; exact h2
      · rw [if_pos a2] at h1
        by_cases b2 : Lib.compareBytes q2 r2 = 0
        · obtain rfl := cb_eq b2
          rw [if_pos a2]; exact h1
        · rw [if_pos b2] at h2
          have := cb_trans h1 h2
          rw [if_pos (by omega)]; exact this
    · rw [if_pos b1] at h2 ⊢; exact h2
  · rw [if_pos a1] at h1
    by_cases b1 : Lib.compareBytes q1 r1 = 0
    · obtain rfl := cb_eq b1
      rw [if_pos a1]; exact h1
    · rw [if_pos b1] at h2
      have := cb_trans h1 h2
      rw [if_pos (by omega)]; exact this
theorem pcs_inj {a b : List UInt8} (h : pcs a = pcs b) : a = b := by
  unfold pcs at h
  simp only [Prod.mk.injEq] at h
  obtain ⟨h1, h2, h3⟩ := h
  have e : (cutL a).2.2 = (cutL b).2.2 := by
    cases ha : (cutL a).2.2 <;> cases hb : (cutL b).2.2 <;> rw [ha, hb] at h2 <;> simp at h2 ⊢
  rw [cut_back a, cut_back b, h1, h3, e]
theorem less_irrefl (a : ByteArray) : lessS a a = false := by unfold lessS lessL; rw [cmp3_refl]; rfl
theorem less_asymm {a b : ByteArray} (h : lessS a b = true) : lessS b a = false := by
  unfold lessS lessL at *
  rw [decide_eq_true_eq] at h
  rw [decide_eq_false_iff_not, cmp3_swap (pcs a.data.toList)]
  omega
theorem less_tri {a b : ByteArray} (h1 : lessS a b = false) (h2 : lessS b a = false) : a = b := by
  unfold lessS lessL at *
  rw [decide_eq_false_iff_not] at h1 h2
  rw [cmp3_swap (pcs a.data.toList)] at h2
  exact ba_ext (pcs_inj (cmp3_eq (by omega)))
theorem less_trans {a b c : ByteArray} (h1 : lessS a b = true) (h2 : lessS b c = true) : lessS a c = true := by
  unfold lessS lessL at *
  rw [decide_eq_true_eq] at *
  exact cmp3_trans h1 h2
/-- As the document has it. -/
theorem less_doc (a b : List UInt8) : lessL a b = if (cutL a).1 ≠ (cutL b).1 then decide (Lib.compareBytes (cutL a).1 (cutL b).1 < 0)
    else if (!(cutL a).2.2 || !(cutL b).2.2) then (!(cutL a).2.2 && (cutL b).2.2) else decide (Lib.compareBytes (cutL a).2.1 (cutL b).2.1 < 0) := by
  have fa := fun h => cut_false (l := a) h
  have fb := fun h => cut_false (l := b) h
  unfold lessL cmp3 pcs
  simp only
  generalize cutL a = x at *
  generalize cutL b = y at *
  obtain ⟨x1, x2, x3⟩ := x
  obtain ⟨y1, y2, y3⟩ := y
  simp only at *
  by_cases h : x1 = y1
  · subst h
    rw [cb_refl]
    cases x3 <;> cases y3
    · obtain rfl := fa rfl
      obtain rfl := fb rfl
      simp [Lib.compareBytes]
    · simp [Lib.compareBytes]
    · simp [Lib.compareBytes]
    · simp [Lib.compareBytes]
  · rw [if_pos h, if_pos (fun e => h (cb_eq e))]
/-- A volume's name is less than those of its snapshots'. -/
theorem less_join {v p : ByteArray} (h : joins v p = true) : lessS v (joinS v p) = true := by
  have hc := join_cut h
  have hv : partS v = true := by unfold joins at h; simp only [Bool.and_eq_true] at h; exact h.1
  unfold lessS
  rw [less_doc, hc, part_cut hv]
  simp
/-- What stands between a volume's name and one of its snapshots'. -/
theorem together {v p s : ByteArray} (h : joins v p = true) (h1 : lessS s v = false) (h2 : lessS s (joinS v p) = true) : s = v ∨ (v.data.toList.length < s.data.toList.length ∧ s.data.toList.take (v.data.toList.length + 1) = v.data.toList ++ [64]) := by
  have hc := join_cut h
  have hv : partS v = true := by unfold joins at h; simp only [Bool.and_eq_true] at h; exact h.1
  have hvc := part_cut hv
  unfold lessS at h1 h2
  rw [less_doc, hvc] at h1
  rw [less_doc, hc] at h2
  simp only at h1 h2
  by_cases hx : (cutL s.data.toList).1 = v.data.toList
  · have hb := cut_back s.data.toList
    cases hs : (cutL s.data.toList).2.2 with
    | false =>
      rw [hs, hx] at hb
      exact .inl (ba_ext (by simpa using hb))
    | true =>
      rw [if_pos hs, hx] at hb
      refine .inr ⟨by rw [hb]; simp, ?_⟩
      rw [hb, show v.data.toList ++ 64 :: (cutL s.data.toList).2.1 = (v.data.toList ++ [64]) ++ (cutL s.data.toList).2.1 by simp]
      exact List.take_left' (by simp)
  · rw [if_pos hx] at h1 h2
    rw [h1] at h2
    cases h2
end Go.Proofs.YtljhanhipmnioaaGreat

namespace Go.Proofs.YtljhanhipmnioaaGreat.Rd
open Go.RowKit
set_option linter.unusedVariables false
set_option linter.unusedSimpArgs false
set_option maxRecDepth 100000

open Pt (Pt may enc zeroPt be4 be1)
def P (α : Type) := List UInt8 → Option (α × List UInt8)
def ret {α : Type} (x : α) : P α := fun l => some (x, l)
def bnd {α β : Type} (p : P α) (f : α → P β) : P β := fun l => (p l).bind fun x => f x.1 x.2
theorem bnd_eq {α β : Type} {p : P α} {f : α → P β} {l s : List UInt8} {x : α} (h : p l = some (x, s)) : bnd p f l = f x s := by unfold bnd; rw [h]; rfl
theorem bnd_none {α β : Type} {p : P α} {f : α → P β} {l : List UInt8} (h : p l = none) : bnd p f l = none := by unfold bnd; rw [h]; rfl
/-- A record. -/
structure Rec where
  id : Int
  name : ByteArray
  kind : Int
  size : Int
  root : Pt
  made : Int
  of : Int
  origin : Int
  quota : Int
  reserve : Int
theorem Rec.ext' {x y : Rec} (h0 : x.id = y.id) (h1 : x.name = y.name) (h2 : x.kind = y.kind) (h3 : x.size = y.size) (h4 : x.root = y.root) (h5 : x.made = y.made) (h6 : x.of = y.of) (h7 : x.origin = y.origin) (h8 : x.quota = y.quota) (h9 : x.reserve = y.reserve) : x = y := by
  cases x; cases y; simp_all
/-- A cursor. -/
structure Cur where
  kind : Int
  dev : Int
  at_ : Int
  txg : Int
theorem Cur.ext' {x y : Cur} (h0 : x.kind = y.kind) (h1 : x.dev = y.dev) (h2 : x.at_ = y.at_) (h3 : x.txg = y.txg) : x = y := by cases x; cases y; simp_all
/-- A table. -/
structure Tab where
  next : Int
  recs : List Rec
  cur : Cur
  lives : List Int
theorem Tab.ext' {x y : Tab} (h0 : x.next = y.next) (h1 : x.recs = y.recs) (h2 : x.cur = y.cur) (h3 : x.lives = y.lives) : x = y := by cases x; cases y; simp_all
def wi (n low high : Int) : Bool := decide (low ≤ n) && decide (n ≤ high)
theorem wi_iff {n low high : Int} : wi n low high = true ↔ low ≤ n ∧ n ≤ high := by simp [wi]
def rootB (p : Pt) : Bool := Pt.mayB p && (Pt.hole p || p.l == 3)
def volR (x : Rec) : Bool := partS x.name && (x.of == 0 && (wi x.origin 0 2147483647 && (wi x.quota 0 64 && wi x.reserve 0 64)))
def snpR (x : Rec) : Bool := snapS x.name && (wi x.of 1 2147483647 && (x.origin == 0 && (x.quota == 0 && (x.reserve == 0 && decide (x.root.b ≤ x.made)))))
/-- May a record be? -/
def mayR (x : Rec) : Bool := (wi x.id 1 2147483647 && (wi x.size 1 64 && wi x.made 1 2147483648)) && (rootB x.root && (if x.kind = 1 then volR x else if x.kind = 2 then snpR x else false))
/-- The first of a name. -/
def fnd (n : ByteArray) : List Rec → Option Nat
  | [] => none
  | x :: r => if x.name = n then some 0 else (fnd n r).map (· + 1)
def kinB (rs : List Rec) (x : Rec) : Bool :=
  if x.kind = 2 then (match fnd (spl1 x.name) rs with | some i => (match rs[i]? with | some y => y.id == x.of | none => false) | none => false)
  else x.origin == 0 || rs.any fun y => y.id == x.origin && y.kind == 2
/-- May the record at a place be, beside those ahead of it? -/
def stand (next : Int) (rs : List Rec) (i : Nat) (x : Rec) : Bool :=
  mayR x && (decide (x.id < next) && ((match i with | 0 => true | k + 1 => (match rs[k]? with | some y => lessS y.name x.name | none => false)) && ((rs.take i).all (fun y => y.id != x.id) && kinB rs x)))
def allB (next : Int) (rs : List Rec) : Bool := (List.range rs.length).all fun i => match rs[i]? with | some x => stand next rs i x | none => false
def zeroC : Cur := ⟨0, 0, 0, 0⟩
instance : DecidableEq Cur := fun a b => decidable_of_iff (a.kind = b.kind ∧ a.dev = b.dev ∧ a.at_ = b.at_ ∧ a.txg = b.txg) ⟨fun ⟨a, b, c, d⟩ => Cur.ext' a b c d, fun h => by subst h; simp⟩
def curB (c : Cur) (devs : Int) : Bool :=
  if c.kind = 0 then decide (c = zeroC) else (wi c.at_ 0 2147483647 && wi c.txg 1 2147483648) && (c.kind == 1 && c.dev == 0 || c.kind == 2 && wi c.dev 0 (devs - 1))
def headB (t : Tab) : Bool := wi t.next 1 2147483648 && (decide (t.recs.length ≤ 16) && wi t.lives.length 2 8)
def mayT (t : Tab) : Bool := headB t && (t.lives.all (fun n => wi n 0 2147483647) && (allB t.next t.recs && curB t.cur t.lives.length))
def mayTE (t : Tab) : Int := if mayT t = true then 0 else 2

/-- So many, one behind the other. -/
def many {α : Type} (p : P α) : Nat → P (List α)
  | 0 => ret []
  | n + 1 => bnd p fun x => bnd (many p n) fun r => ret (x :: r)
def zeroT : Tab := ⟨0, [], zeroC, []⟩
end Go.Proofs.YtljhanhipmnioaaGreat.Rd

namespace Go.Proofs.YtljhanhipmnioaaGreat.Rd
open Go.RowKit
set_option linter.unusedVariables false
set_option linter.unusedSimpArgs false
set_option maxRecDepth 100000

open Pt (Pt may enc zeroPt be4 be1)

theorem allB_rec {next : Int} {rs : List Rec} (h : allB next rs = true) {i : Nat} {x : Rec} (hx : rs[i]? = some x) : stand next rs i x = true := by
  unfold allB at h
  rw [List.all_eq_true] at h
  have := h i (by have := (List.getElem?_eq_some_iff.1 hx).1; simpa using this)
  rw [hx] at this
  exact this
theorem allB_iff {next : Int} {rs : List Rec} : allB next rs = true ↔ ∀ (i : Nat) (x : Rec), rs[i]? = some x → stand next rs i x = true := by
  refine ⟨fun h i x hx => allB_rec h hx, fun h => ?_⟩
  unfold allB
  rw [List.all_eq_true]
  intro i hi
  have hi' : i < rs.length := by simpa using hi
  have e : rs[i]? = some rs[i] := List.getElem?_eq_getElem hi'
  rw [e]
  exact h i _ e
/-- What a table that may be has. -/
structure MayT (t : Tab) : Prop where
  n0 : 1 ≤ t.next
  n1 : t.next ≤ 2147483648
  many : t.recs.length ≤ 16
  l0 : 2 ≤ t.lives.length
  l1 : t.lives.length ≤ 8
  lives : ∀ n ∈ t.lives, 0 ≤ n ∧ n ≤ 2147483647
  recs : allB t.next t.recs = true
  cur : curB t.cur t.lives.length = true
theorem mayT_iff {t : Tab} : mayT t = true ↔ MayT t := by
  unfold mayT headB
  simp only [Bool.and_eq_true, wi_iff, decide_eq_true_eq, List.all_eq_true]
  constructor
  · rintro ⟨⟨⟨a, b⟩, c, d, e⟩, f, g, h⟩
    exact ⟨a, b, c, by omega, by omega, f, g, h⟩
  · rintro ⟨a, b, c, d, e, f, g, h⟩
    exact ⟨⟨⟨a, b⟩, c, by omega, by omega⟩, f, g, h⟩
theorem MayT.one {t : Tab} (h : MayT t) {x : Rec} (hx : x ∈ t.recs) : mayR x = true := by
  obtain ⟨i, hi⟩ := List.getElem?_of_mem hx
  have := allB_rec h.recs hi
  unfold stand at this
  simp only [Bool.and_eq_true] at this
  exact this.1
theorem fnd_some : ∀ {n : ByteArray} {rs : List Rec} {i : Nat}, fnd n rs = some i → ∃ x, rs[i]? = some x ∧ x.name = n ∧ ∀ k y, k < i → rs[k]? = some y → y.name ≠ n
  | n, x :: r, i, h => by
    unfold fnd at h
    split at h
    · next hx => cases h; exact ⟨x, rfl, hx, fun k y hk => absurd hk (by omega)⟩
    · next hx =>
      cases hq : fnd n r with
      | none => rw [hq] at h; cases h
      | some j =>
        rw [hq] at h
        cases h
        obtain ⟨y, h1, h2, h3⟩ := fnd_some hq
        refine ⟨y, by simpa using h1, h2, fun k z hk hz => ?_⟩
        cases k with
        | zero => cases hz; exact hx
        | succ k => exact h3 k z (by have hk' : k + 1 < j + 1 := hk; omega) (by simpa using hz)
theorem fnd_none : ∀ {n : ByteArray} {rs : List Rec}, fnd n rs = none → ∀ x ∈ rs, x.name ≠ n
  | n, [], _ => by simp
  | n, x :: r, h => by
    unfold fnd at h
    split at h
    · cases h
    · next hx =>
      have := fnd_none (Option.map_eq_none_iff.1 h)
      intro y hy
      rcases List.mem_cons.1 hy with rfl | hy
      · exact hx
      · exact this y hy
theorem fnd_at : ∀ {n : ByteArray} {rs : List Rec} {i : Nat} {x : Rec}, rs[i]? = some x → x.name = n → (∀ k y, k < i → rs[k]? = some y → y.name ≠ n) → fnd n rs = some i
  | n, [], i, x, h, _, _ => by cases h
  | n, z :: r, 0, x, h, hx, _ => by
    cases h
    unfold fnd
    rw [if_pos hx]
  | n, z :: r, i + 1, x, h, hx, hn => by
    unfold fnd
    rw [if_neg (hn 0 z (by omega) rfl), fnd_at (by simpa using h) hx (fun k y hk hy => hn (k + 1) y (by omega) (by simpa using hy))]
    rfl
/-- The names of a table that may be rise. -/
theorem names_rise {next : Int} {rs : List Rec} (h : allB next rs = true) : ∀ {i k : Nat} {x y : Rec}, rs[i]? = some x → rs[k]? = some y → i < k → lessS x.name y.name = true := by
  intro i k
  induction k with
  | zero => intro x y _ _ h; omega
  | succ k ih =>
    intro x y hx hy hk
    have hs := allB_rec h hy
    unfold stand at hs
    simp only [Bool.and_eq_true] at hs
    have h2 := hs.2.2.1
    have hl : k < rs.length := by have := (List.getElem?_eq_some_iff.1 hy).1; omega
    have hz : rs[k]? = some rs[k] := List.getElem?_eq_getElem hl
    rw [hz] at h2
    by_cases e : i = k
    · subst e
      rw [hz] at hx
      cases hx
      exact h2
    · exact less_trans (ih hx hz (by omega)) h2
theorem fnd_own {t : Tab} (h : MayT t) {i : Nat} {x : Rec} (hx : t.recs[i]? = some x) : fnd x.name t.recs = some i := by
  refine fnd_at hx rfl fun k y hk hy e => ?_
  have := names_rise h.recs hy hx hk
  rw [e, less_irrefl] at this
  cases this
end Go.Proofs.YtljhanhipmnioaaGreat.Rd

namespace Go.Proofs.YtljhanhipmnioaaGreat.Kr
open Go.RowKit
set_option linter.unusedVariables false
set_option maxRecDepth 100000
set_option linter.unusedSimpArgs false

section
variable {T : TypeId} {s : Nat} {w w' : World} {v : Value} {n : Nat} {xs sp : List Value} {L : List Nat}
theorem append_run2 {T : TypeId} {s : Nat} {w : World} {v : Value} {n : Nat} {xs sp : List Value} {P : Program} {tS tx ty : TypeId} {i : TypeInfo} {z : Value} {by' : Nat} (ht : P.underlying tS = some (.slice T)) (hi : P.info? T = some i) (hz : i.zero = some z)
    (hs : i.size = s) (hb : i.bytes = by') (hzs : z.cells.size = s) (hpos : 0 < s) (hO : Own T s w v n xs sp) {x : Value} {m : Nat} {news : List Value} (hS : Src P s tx x m news w)
    (h63 : n + m ≤ maxLen) (hbound : (n + m) * by' ≤ 140737488355328) :
    ∃ v' w' sp', (Builtin.append_ #[tS, tx] ty #[v, x]).run P w = .ok v' w' ∧ Own T s w' v' (n + m) (xs ++ news) sp' ∧ Frm (blk v) w w' ∧ (blk v' = blk v ∨ (blk v' = [w.heap.size] ∧ Frm [] w w')) ∧
      ∀ p : Value → Prop, (∀ u ∈ sp, p u) → (∀ u ∈ z.cells.toList, p u) → ∀ u ∈ sp', p u := by
  subst hs
  subst hb
  obtain ⟨h1, h2⟩ := hO
  have hnl := hS.newsLen
  have hlen : (xs ++ news).length = (n + m) * i.size := by rw [List.length_append, h1, hnl, Nat.add_mul]
  have hsmall : n + m ≤ 9223372036854775807 := by simp only [maxLen] at h63; omega
  by_cases hroom : ∃ g cap, v = .slice (some ⟨g, 0, none⟩) n cap ∧ n + m ≤ cap
  · obtain ⟨g, cap, rfl, hr⟩ := hroom
    rcases h2 with ⟨h2, _⟩ | ⟨g', cap', h2, h3, h4, h5, h6⟩
    · cases h2
    · cases h2
      have hspl : xs.length + sp.length = cap * i.size := by simpa using h5
      have hfit : n * i.size + news.length ≤ (xs ++ sp).toArray.size := by
        have : (n + m) * i.size ≤ cap * i.size := Nat.mul_le_mul_right _ hr
        simp only [List.size_toArray, h5]; rw [hnl, ← Nat.add_mul]; exact this
      have hst := run_storeCells_at P g (n * i.size) T news 0 (xs ++ sp).toArray w h6 (by simpa using hfit) hS.one
      simp only [Nat.add_zero] at hst
      have hcur : (xs ++ sp).take (n * i.size) ++ news ++ (xs ++ sp).drop (n * i.size + news.length) = (xs ++ news) ++ sp.drop news.length := by
        rw [← h1, List.take_left, List.drop_append]
        simp
      refine ⟨.slice (some ⟨g, 0, none⟩) (n + m) cap, w.setRow g ((xs ++ news) ++ sp.drop news.length).toArray, sp.drop news.length, ?_, ⟨hlen, .inr ⟨g, cap, rfl, hr, h4, ?_, ?_⟩⟩, ?_, .inl rfl, fun p hp _ u hu => hp u (List.mem_of_mem_drop hu)⟩
      · rw [← hcur]
        rcases hS.kind with ⟨e', hk⟩ | hk <;> simp [Builtin.append_, run_underlying ht, run_underlying hk, sizeOf, typeInfo, hi, hS.len, hr, hS.cells, Addr.add_lit, hst]
      · simp only [List.length_append, List.length_drop]
        simp only [List.size_toArray, List.length_append] at hfit
        omega
      · exact setRow_heap w g _ _ _ _ h6
      · exact ⟨rfl, rfl, rfl, by simp [World.setRow], fun k hk hn => setRow_other w g k _ (by simpa [blk] using hn)⟩
  · by_cases hnil : v = .slice none 0 0 ∧ m = 0
    · obtain ⟨rfl, rfl⟩ := hnil
      rcases h2 with ⟨_, rfl, rfl⟩ | ⟨_, _, h2, _⟩
      · obtain rfl : news = [] := List.eq_nil_of_length_eq_zero (by simpa using hnl)
        obtain rfl : xs = [] := List.eq_nil_of_length_eq_zero (by simpa using h1)
        refine ⟨.slice none 0 0, w, [], ?_, ⟨by simp, .inl ⟨rfl, rfl, rfl⟩⟩, Frm.refl _ _, .inl rfl, fun _ _ _ u hu => by cases hu⟩
        rcases hS.kind with ⟨e', hk⟩ | hk <;> simp [Builtin.append_, run_underlying ht, run_underlying hk, sizeOf, typeInfo, hi, hS.len, hS.cells]
      · cases h2
    · obtain ⟨base, cap, rfl, hcap, hold, hbl⟩ : ∃ base cap, v = .slice base n cap ∧ cap < n + m ∧ (Builtin.firstCells i.size n (.slice base n cap)).run P w.drew = .ok xs.toArray w.drew ∧ True := by
        rcases h2 with ⟨rfl, rfl, rfl⟩ | ⟨g, cap, rfl, h3, h4, h5, h6⟩
        · obtain rfl : xs = [] := List.eq_nil_of_length_eq_zero (by simpa using h1)
          exact ⟨none, 0, rfl, by have : m ≠ 0 := fun e => hnil ⟨rfl, e⟩; omega, run_firstCells_none w.drew i.size 0 0 0, trivial⟩
        · refine ⟨_, cap, rfl, ?_, run_firstCells_some w.drew i.size n _ n cap xs h1 (fun j u hu => ?_), trivial⟩
          · rcases Nat.lt_or_ge cap (n + m) with h | h
            · exact h
            · exact absurd ⟨g, cap, rfl, h⟩ hroom
          · have hj : j < xs.length := by
              rcases Nat.lt_or_ge j xs.length with h | h
              · exact h
              · simp [List.getElem?_eq_none h] at hu
            rw [add_plain, World.cell?_drew, cell_of_heap h6]
            simp only [Nat.zero_add, List.getElem?_toArray]
            rw [List.getElem?_append_left hj]; exact hu
      have hge := grownCap_ge w (n + m) cap T
      have hcm : grownCap w (n + m) cap T ≤ maxLen := grownCap_le_maxLen w (n + m) cap T h63
      have hr := run_append_grow_src (P := P) w tS tx ty T i z ht hi hz base n cap xs hold x m news hS hcap (by omega) (growslice_fits hcap hbound)
      refine ⟨_, _, (Builtin.zeroCells z.cells (grownCap w (n + m) cap T - (n + m))).toList, hr, ⟨hlen, .inr ⟨w.heap.size, _, rfl, hge, hcm, ?_, ?_⟩⟩, ?_, .inr ⟨rfl, ((Frm.refl _ _).drew).alloc _⟩, ?_⟩
      · rw [List.length_append, hlen, Array.length_toList, size_zeroCells, hzs, ← Nat.add_mul]
        congr 1
        omega
      · have := heap_alloc_new w.drew (.cells ((xs ++ news).toArray ++ Builtin.zeroCells z.cells (grownCap w (n + m) cap T - (n + m))) T)
        rw [show w.drew.heap.size = w.heap.size from rfl] at this
        rw [this]
        congr 2
        apply Array.ext'
        simp
      · exact ((Frm.refl _ _).drew).alloc _
      · intro p _ hp u hu
        simp only [Builtin.zeroCells, Array.toList_map, List.mem_map] at hu
        obtain ⟨j, hj, rfl⟩ := hu
        have hlt : j % z.cells.size < z.cells.size := Nat.mod_lt _ (by omega)
        rw [getElem!_pos z.cells _ hlt]
        exact hp _ (by simp)

end
/-- How an element lies in k cells. -/
structure Enco {α : Type} (enc : α → List Value) (k : Nat) : Prop where
  len : ∀ x, (enc x).length = k
  one : ∀ x, ∀ u ∈ enc x, u.oneCell' = true
  pos : 0 < k
  inj : ∀ x y, enc x = enc y → x = y
def flt {α : Type} (enc : α → List Value) (l : List α) : List Value := l.flatMap enc
section
variable {α : Type} {enc : α → List Value} {k : Nat}
theorem flt_nil : flt enc [] = [] := rfl
theorem flt_cons (x : α) (l : List α) : flt enc (x :: l) = enc x ++ flt enc l := rfl
theorem flt_append (l m : List α) : flt enc (l ++ m) = flt enc l ++ flt enc m := by simp [flt]
theorem flt_one (x : α) : flt enc [x] = enc x := by simp [flt]
theorem flt_length (E : Enco enc k) : ∀ l : List α, (flt enc l).length = l.length * k
  | [] => by simp [flt]
  | x :: l => by rw [flt_cons, List.length_append, E.len, flt_length E l, List.length_cons, Nat.add_mul]; omega
theorem flt_oneCell (E : Enco enc k) (l : List α) : ∀ u ∈ flt enc l, u.oneCell' = true := fun u hu => by
  obtain ⟨x, _, hx⟩ := List.mem_flatMap.1 hu
  exact E.one x u hx
theorem flt_get (E : Enco enc k) : ∀ (l : List α) (i : Nat) (h : i < l.length) (j : Nat), j < k → (flt enc l)[i * k + j]? = (enc l[i])[j]?
  | [], i, h, _, _ => by simp at h
  | x :: r, 0, h, j, hj => by
    rw [flt_cons, Nat.zero_mul, Nat.zero_add, List.getElem?_append_left (by rw [E.len]; exact hj)]; rfl
  | x :: r, i + 1, h, j, hj => by
    rw [flt_cons, List.getElem?_append_right (by rw [E.len, Nat.add_mul]; omega), E.len, show (i + 1) * k + j - k = i * k + j by rw [Nat.add_mul]; omega, flt_get E r i (by simpa using h) j hj]
    simp
/-- The cells with one of them written, as those of a list. -/
theorem flt_set (E : Enco enc k) : ∀ (l : List α) (i : Nat) (j : Nat) (h : i < l.length) (_ : j < k) (y : α) (v : Value), enc y = (enc l[i]).set j v → flt enc (l.set i y) = (flt enc l).set (i * k + j) v
  | [], i, j, h, _, _, _, _ => by simp at h
  | x :: r, 0, j, h, hj, y, v, he => by
    simp only [List.set_cons_zero, flt_cons, Nat.zero_mul, Nat.zero_add]
    rw [List.set_append_left _ _ (by rw [E.len]; exact hj), he]; rfl
  | x :: r, i + 1, j, h, hj, y, v, he => by
    simp only [List.set_cons_succ, flt_cons]
    rw [flt_set E r i j (by simpa using h) hj y v (by simpa using he), List.set_append_right _ _ (by rw [E.len, Nat.add_mul]; omega), E.len, show (i + 1) * k + j - k = i * k + j by rw [Nat.add_mul]; omega]

def OwnE (enc : α → List Value) (k : Nat) (T : TypeId) (w : World) (v : Value) (l : List α) (sp : List Value) : Prop := Own T k w v l.length (flt enc l) sp
def SlE (enc : α → List Value) (k : Nat) (w : World) (v : Value) (l : List α) (sp : List Value) : Prop := Sl k w v l.length (flt enc l) sp
variable {T : TypeId} {w : World} {v x : Value} {l m : List α} {sp msp : List Value}
theorem OwnE.sl (h : OwnE enc k T w v l sp) : SlE enc k w v l sp := Own.sl h
theorem SlE.form (h : SlE enc k w v l sp) : ∃ a cap, v = .slice a l.length cap ∧ l.length ≤ cap ∧ cap ≤ maxLen := Sl.form h
theorem OwnE.keep {w' : World} {L : List Nat} (h : OwnE enc k T w v l sp) (f : Frm L w w') (hn : ∀ k ∈ blk v, k ∉ L) : OwnE enc k T w' v l sp := Own.keep h f hn
theorem OwnE.keep0 {w' : World} (h : OwnE enc k T w v l sp) (f : Frm [] w w') : OwnE enc k T w' v l sp := Own.keep h f (by simp)
theorem SlE.keep {w' : World} {L : List Nat} (h : SlE enc k w v l sp) (f : Frm L w w') (hn : ∀ k ∈ blk v, k ∉ L) : SlE enc k w' v l sp := Sl.keep h f hn
theorem SlE.keep0 {w' : World} (h : SlE enc k w v l sp) (f : Frm [] w w') : SlE enc k w' v l sp := Sl.keep h f (by simp)
theorem OwnE.lt (h : OwnE enc k T w v l sp) : ∀ k ∈ blk v, k < w.heap.size := Own.lt h
theorem OwnE.nil (enc : α → List Value) (k : Nat) (T : TypeId) (w : World) : OwnE enc k T w (.slice none 0 0) [] [] := Own.nil T k w
theorem SlE.nil (enc : α → List Value) (k : Nat) (w : World) : SlE enc k w (.slice none 0 0) [] [] := Sl.nil k w
theorem OwnE.heap {g n cap : Nat} (h : OwnE enc k T w (.slice (some ⟨g, 0, none⟩) n cap) l sp) : w.heap[g]? = some (.cells (flt enc l ++ sp).toArray T (0, 0)) := by
  obtain ⟨h1, h2 | ⟨g', cap', h2, h3, h4, h5, h6⟩⟩ := h
  · cases h2.1
  · cases h2; exact h6
theorem OwnE.caps (E : Enco enc k) {g n cap : Nat} (h : OwnE enc k T w (.slice (some ⟨g, 0, none⟩) n cap) l sp) : n = l.length ∧ l.length ≤ cap ∧ l.length * k + sp.length = cap * k ∧ cap ≤ maxLen := by
  obtain ⟨h1, h2 | ⟨g', cap', h2, h3, h4, h5, h6⟩⟩ := h
  · cases h2.1
  · cases h2; rw [List.length_append, flt_length E] at h5; exact ⟨rfl, h3, h5, h4⟩
theorem OwnE.of_heap (E : Enco enc k) {g n cap : Nat} (h : w.heap[g]? = some (.cells (flt enc l ++ sp).toArray T (0, 0))) (hn : n = l.length) (hn2 : n ≤ cap) (hc : l.length * k + sp.length = cap * k) (hm : cap ≤ maxLen) :
    OwnE enc k T w (.slice (some ⟨g, 0, none⟩) n cap) l sp := by
  subst hn
  exact ⟨flt_length E l, .inr ⟨g, cap, rfl, hn2, hm, by rw [List.length_append, flt_length E]; exact hc, h⟩⟩
theorem SlE.cell (E : Enco enc k) {b off n cap : Nat} (h : SlE enc k w (.slice (some ⟨b, off, none⟩) n cap) l sp) (i : Nat) (hi : i < l.length) (j : Nat) {u : Value} (hu : (enc l[i])[j]? = some u) :
    w.cell? ⟨b, off + (i * k + j), none⟩ = some u := by
  have hj : j < k := by
    rcases Nat.lt_or_ge j k with h | h
    · exact h
    · rw [List.getElem?_eq_none (by rw [E.len]; exact h)] at hu; cases hu
  obtain ⟨h1, ⟨h2, h3, h4⟩ | ⟨a, h2, h3, h4⟩ | ⟨b', off', cap', h2, h3, h4, h5, h6⟩⟩ := h
  · omega
  · omega
  · cases h2
    have hl := flt_length E l
    have hb : i * k + j < l.length * k := by
      have := Nat.mul_le_mul_right k (show i + 1 ≤ l.length from hi)
      rw [Nat.add_mul] at this; omega
    exact h6 (i * k + j) _ (by rw [List.getElem?_append_left (by omega), flt_get E l i hi j hj, hu])
theorem SlE.at {n : Nat} {a : Option Addr} {cap : Nat} (h : SlE enc k w (.slice a n cap) l sp) (hp : 0 < l.length) : ∃ b off, a = some ⟨b, off, none⟩ := by
  obtain ⟨h1, ⟨h2, h3, h4⟩ | ⟨a', h2, h3, h4⟩ | ⟨b', off', cap', h2, h3, h4, h5, h6⟩⟩ := h
  · omega
  · omega
  · cases h2; exact ⟨_, _, rfl⟩
theorem SlE.src (E : Enco enc k) {P : Program} {tx e' : TypeId} (hk : P.underlying tx = some (.slice e')) (h : SlE enc k w v l sp) : Src P k tx v l.length (flt enc l) w := Sl.src hk h (flt_oneCell E l)
/-- What the table says of a slice of such elements. -/
structure RowTys (P : Program) (tS T : TypeId) (k by' : Nat) : Prop where
  sl : P.underlying tS = some (.slice T)
  info : ∃ z, z.cells.size = k ∧ (P.info? T).map (fun i => (i.zero, i.size, i.bytes)) = some (some z, k, by')
theorem append_e_src (E : Enco enc k) {P : Program} {tS : TypeId} {by' : Nat} (B : RowTys P tS T k by') (ty : TypeId) {tx : TypeId} (hO : OwnE enc k T w v l sp) (hS : Src P k tx x m.length (flt enc m) w) (hb : l.length + m.length ≤ 1000000000) (hby : by' ≤ 1000) :
    ∃ v' w' sp', (Builtin.append_ #[tS, tx] ty #[v, x]).run P w = .ok v' w' ∧ OwnE enc k T w' v' (l ++ m) sp' ∧ Frm (blk v) w w' ∧ (blk v' = blk v ∨ (blk v' = [w.heap.size] ∧ Frm [] w w')) := by
  obtain ⟨z, hzs, hinf⟩ := B.info
  obtain ⟨i, hi, hz, hs, hby'⟩ := info_parts hinf
  have hbb : (l.length + m.length) * by' ≤ 140737488355328 := by
    have := Nat.mul_le_mul hb hby
    omega
  obtain ⟨v', w', sp', h1, h2, h3, h4, h5⟩ := append_run2 (ty := ty) B.sl hi hz hs hby' hzs E.pos hO hS (by simp [maxLen]; omega) hbb
  refine ⟨v', w', sp', h1, ?_, h3, h4⟩
  unfold OwnE
  rw [flt_append, List.length_append]
  exact h2
theorem wpList_append_e (E : Enco enc k) {P : Program} {tS : TypeId} {by' : Nat} (B : RowTys P tS T k by') {ops : Array Oper} {rest : List Oper} {o : Oper} {a : Act} {Q : Exit → Act → World → Prop}
    {y : Value} (hO : OwnE enc k T w v l sp) (hS : SlE enc k w y m msp) (hb : l.length + m.length ≤ 1000000000) (hby : by' ≤ 1000)
    (hg : o.guard = none) (s x : Operand) (hop : o.op = Op.call { callee := Callee.builtin Builtin.append, args := #[s, x], argTypes := #[tS, tS] }) (hs : a.eval s = v) (hx : a.eval x = y)
    (kk : ∀ a' cap' w' sp', OwnE enc k T w' (.slice a' (l.length + m.length) cap') (l ++ m) sp' → Frm (blk v) w w' → (∀ i ∈ blk (.slice a' (l.length + m.length) cap'), i ∈ blk v ∨ w.heap.size ≤ i) →
      wpList P ops Q rest (a.put o.dst (.slice a' (l.length + m.length) cap')) w') :
    wpList P ops Q (o :: rest) a w := by
  obtain ⟨v', w', sp', h1, h2, h3, h4⟩ := append_e_src (x := y) E B o.type hO (SlE.src E B.sl hS) hb hby
  obtain ⟨a', cap', rfl, _, _⟩ := h2.sl.form
  rw [List.length_append] at h1 h2 h4
  refine wpList_val (w' := w') hg ?_ (kk a' cap' w' sp' h2 h3 ?_)
  · simp [execOp, hop, resolve, invoke, builtin, hs, hx, h1, Result.andThen]
  · intro i hi
    rcases h4 with h4 | ⟨h4, _⟩
    · exact .inl (h4 ▸ hi)
    · rw [h4] at hi; simp at hi; exact .inr (by omega)
/-- A store of one cell. -/
theorem OwnE.store (E : Enco enc k) {g n cap : Nat} (h : OwnE enc k T w (.slice (some ⟨g, 0, none⟩) n cap) l sp) (i j : Nat) (hi : i < l.length) (hj : j < k) (y : α) (u : Value) (he : enc y = (enc l[i]).set j u) :
    OwnE enc k T (w.setCell ⟨g, i * k + j, none⟩ u) (.slice (some ⟨g, 0, none⟩) n cap) (l.set i y) sp := by
  obtain ⟨h1, h2, h3, h4⟩ := h.caps E
  have hl := flt_length E l
  have hb : i * k + j < l.length * k := by
    have := Nat.mul_le_mul_right k (show i + 1 ≤ l.length from hi)
    rw [Nat.add_mul] at this; omega
  refine OwnE.of_heap E ?_ (by simpa using h1) (by omega) (by simpa using h3) h4
  rw [heap_setCell_same _ h.heap, flt_set E l i j hi hj y u he]
  congr 2
  apply Array.ext'
  simp only [Array.toList_setIfInBounds]
  rw [List.set_append_left _ _ (by omega)]
/-- A block of a list's cells, read as a slice. -/
theorem SlE.of_block (E : Enco enc k) {g n : Nat} {T : TypeId} (h : w.heap[g]? = some (.cells (flt enc l).toArray T (0, 0))) (hn : n = l.length) (hm : n ≤ 1000000000) : SlE enc k w (.slice (some ⟨g, 0, none⟩) n n) l [] := by
  subst hn
  exact OwnE.sl (OwnE.of_heap (T := T) E (by rw [List.append_nil]; exact h) rfl (Nat.le_refl _) (by simp) (by simp only [maxLen]; omega))
end
end Go.Proofs.YtljhanhipmnioaaGreat.Kr

namespace Go.Proofs.YtljhanhipmnioaaGreat.Rd
open Go.RowKit
set_option linter.unusedVariables false
set_option linter.unusedSimpArgs false
set_option maxRecDepth 100000

open Pt (Pt pc pv PtV SlA OwnA)
open Kr (OwnE SlE Enco RowTys)
/-- The cells of a record. -/
def rc (v : Value) (x : Rec) : List Value :=
  .int .i64 x.id :: .string x.name :: .int .i64 x.kind :: .int .i64 x.size :: (pc v x.root.b x.root.l x.root.s ++ [.int .i64 x.made, .int .i64 x.of, .int .i64 x.origin, .int .i64 x.quota, .int .i64 x.reserve])
def rv (v : Value) (x : Rec) : Value := .agg (rc v x).toArray
theorem rc_length {v : Value} {x : Rec} (h : x.root.s.length = 32) : (rc v x).length = 44 := by simp [rc, pc, bvs_length, h]
theorem rc_one (v : Value) (hv : v.oneCell' = true) (x : Rec) : ∀ u ∈ rc v x, u.oneCell' = true := by
  intro u hu
  simp only [rc, pc, List.mem_cons, List.mem_append, List.not_mem_nil, or_false] at hu
  rcases hu with rfl | rfl | rfl | rfl | ((rfl | rfl | rfl | hu) | (rfl | rfl | rfl | rfl | rfl))
  all_goals first | rfl | exact hv | exact bvs_one _ _ hu
theorem rc_pt {v : Value} {x : Rec} (h : x.root.s.length = 32) {j : Nat} {u : Value} (hu : (pc v x.root.b x.root.l x.root.s)[j]? = some u) : (rc v x)[j + 4]? = some u := by
  have hj : j < (pc v x.root.b x.root.l x.root.s).length := (List.getElem?_eq_some_iff.1 hu).1
  show (pc v x.root.b x.root.l x.root.s ++ _)[j]? = some u
  rw [List.getElem?_append_left hj, hu]
theorem rc_end {v : Value} {x : Rec} (h : x.root.s.length = 32) (j : Nat) : (rc v x)[j + 39]? = [Value.int .i64 x.made, .int .i64 x.of, .int .i64 x.origin, .int .i64 x.quota, .int .i64 x.reserve][j]? := by
  have hp : (pc v x.root.b x.root.l x.root.s).length = 35 := by simp [pc, bvs_length, h]
  show (pc v x.root.b x.root.l x.root.s ++ _)[j + 35]? = _
  rw [List.getElem?_append_right (by omega), hp]
  simp
/-- The cells of a record, as a row's element. -/
abbrev RowT := { c : List Value // c.length = 44 ∧ ∀ u ∈ c, u.oneCell' = true }
def eR (x : RowT) : List Value := x.1
theorem encRow : Enco eR 44 where
  len x := x.2.1
  one x u hu := x.2.2 u hu
  pos := by omega
  inj x y h := Subtype.ext h
def rowR (v : Value) (hv : v.oneCell' = true) (x : Rec) (h : x.root.s.length = 32) : RowT := ⟨rc v x, rc_length h, rc_one v hv x⟩
def zeroR : Rec := ⟨0, ⟨#[]⟩, 0, 0, Pt.zeroPt, 0, 0, 0, 0, 0⟩
def nilS : Value := .slice none 0 0
theorem d56 : (Tryz.prog.underlying 56).map (·.isRow) = some true := by kernel_rfl
theorem d54 : (Tryz.prog.underlying 54).map (·.isRow) = some true := by kernel_rfl
theorem i56 : (Tryz.prog.info? 56).map (·.size) = some 44 := by kernel_rfl
/-- A value that is a record, whose addresses can be read. -/
def RecV (w : World) (u : Value) (x : Rec) : Prop := ∃ a cap sp, u = rv (.slice a x.root.ads.length cap) x ∧ SlA w (.slice a x.root.ads.length cap) x.root.ads sp ∧ x.root.s.length = 32
/-- A row that is a record. -/
def RowV (w : World) (r : RowT) (x : Rec) : Prop := ∃ a cap sp, r.1 = rc (.slice a x.root.ads.length cap) x ∧ SlA w (.slice a x.root.ads.length cap) x.root.ads sp ∧ x.root.s.length = 32
/-- A slice that is a list of records. -/
def Rs (w : World) (v : Value) (l : List Rec) : Prop := ∃ rs sp, SlE eR 44 w v rs sp ∧ rs.length = l.length ∧ ∀ (i : Nat) r x, rs[i]? = some r → l[i]? = some x → RowV w r x
theorem Rs.keep0 {w w' : World} {v : Value} {l : List Rec} (h : Rs w v l) (f : Frm [] w w') : Rs w' v l := by
  obtain ⟨rs, sp, hs, hl, hr⟩ := h
  refine ⟨rs, sp, hs.keep0 f, hl, fun i r u h1 h2 => ?_⟩
  obtain ⟨a, cap, s, e, hA, hw⟩ := hr i r u h1 h2
  exact ⟨a, cap, s, e, hA.keep f (by simp), hw⟩
theorem Rs.form {w : World} {v : Value} {l : List Rec} (h : Rs w v l) : ∃ a cap, v = .slice a l.length cap := by
  obtain ⟨rs, sp, hs, hl, hr⟩ := h
  obtain ⟨a, cap, e, _, _⟩ := hs.form
  exact ⟨a, cap, by rw [← hl]; exact e⟩
theorem Rs.at {w : World} {v : Value} {l : List Rec} (h : Rs w v l) (hp : 0 < l.length) : ∃ b off cap, v = .slice (some ⟨b, off, none⟩) l.length cap := by
  obtain ⟨a, cap, rfl⟩ := h.form
  obtain ⟨rs, sp, hs, hl, hr⟩ := h
  obtain ⟨b, off, rfl⟩ := hs.at (by omega)
  exact ⟨b, off, cap, rfl⟩
theorem Rs.nil (w : World) : Rs w (.slice none 0 0) [] := ⟨[], [], SlE.nil _ _ _, rfl, fun i r u h => by simp at h⟩
/-- The cells of an element. -/
structure GetsR (w : World) (b o : Nat) (v : Value) (x : Rec) : Prop where
  id : w.cell? ⟨b, o, none⟩ = some (.int .i64 x.id)
  name : w.cell? ⟨b, o + 1, none⟩ = some (.string x.name)
  kind : w.cell? ⟨b, o + 2, none⟩ = some (.int .i64 x.kind)
  size : w.cell? ⟨b, o + 3, none⟩ = some (.int .i64 x.size)
  ads : w.cell? ⟨b, o + 4, none⟩ = some v
  birth : w.cell? ⟨b, o + 5, none⟩ = some (.int .i64 x.root.b)
  level : w.cell? ⟨b, o + 6, none⟩ = some (.int .i64 x.root.l)
  made : w.cell? ⟨b, o + 39, none⟩ = some (.int .i64 x.made)
  of : w.cell? ⟨b, o + 40, none⟩ = some (.int .i64 x.of)
  origin : w.cell? ⟨b, o + 41, none⟩ = some (.int .i64 x.origin)
  quota : w.cell? ⟨b, o + 42, none⟩ = some (.int .i64 x.quota)
  reserve : w.cell? ⟨b, o + 43, none⟩ = some (.int .i64 x.reserve)
  all : (Instr.loadAt 56 (.pointer (some ⟨b, o, none⟩))).run Tryz.prog w = .ok (rv v x) w
  root : (Instr.loadAt 54 (.pointer (some ⟨b, o + 4, none⟩))).run Tryz.prog w = .ok (pv v x.root.b x.root.l x.root.s) w
theorem gets_of {w : World} {b o : Nat} {v : Value} {x : Rec} (hs : x.root.s.length = 32) (hc : ∀ j u, (rc v x)[j]? = some u → w.cell? ⟨b, o + j, none⟩ = some u) : GetsR w b o v x := by
  have he := fun j => rc_end (v := v) hs j
  obtain ⟨d, h1, h2⟩ := Option.map_eq_some_iff.1 d56
  obtain ⟨d2, h3, h4⟩ := Option.map_eq_some_iff.1 d54
  exact ⟨hc 0 _ rfl, hc 1 _ rfl, hc 2 _ rfl, hc 3 _ rfl, hc 4 _ rfl, hc 5 _ rfl, hc 6 _ rfl, hc 39 _ (he 0), hc 40 _ (he 1), hc 41 _ (he 2), hc 42 _ (he 3), hc 43 _ (he 4),
    run_loadAt_mid w b o 56 _ d (fun j u hu => hc j u hu) h1 h2 (by rw [i56, rc_length hs]),
    run_loadAt_mid w b (o + 4) 54 _ d2 (fun j u hu => by have := hc (j + 4) u (rc_pt hs hu); rw [show o + 4 + j = o + (j + 4) by omega]; exact this) h3 h4 (by rw [Pt.i26]; simp [pc, bvs_length, hs])⟩
theorem Rs.gets {w : World} {b off n cap : Nat} {l : List Rec} (h : Rs w (.slice (some ⟨b, off, none⟩) n cap) l) (i : Nat) (hi : i < l.length) :
    ∃ a c, GetsR w b (off + i * 44) (.slice a (l[i]).root.ads.length c) l[i] ∧ RecV w (rv (.slice a (l[i]).root.ads.length c) l[i]) l[i] := by
  obtain ⟨rs, sp, hs, hl, hr⟩ := h
  have hi2 : i < rs.length := by omega
  obtain ⟨a, c, s, e, hA, hw⟩ := hr i rs[i] l[i] (List.getElem?_eq_getElem _) (List.getElem?_eq_getElem _)
  refine ⟨a, c, gets_of hw fun j u hu => ?_, a, c, s, rfl, hA, hw⟩
  have := SlE.cell encRow hs i hi2 j (u := u) (by rw [show eR rs[i] = (rs[i]).1 from rfl, e]; exact hu)
  rw [Nat.add_assoc]; exact this
end Go.Proofs.YtljhanhipmnioaaGreat.Rd

namespace Go.Proofs.YtljhanhipmnioaaGreat.Rd
open Go.RowKit
set_option linter.unusedVariables false
set_option linter.unusedSimpArgs false
set_option maxRecDepth 100000

open Pt (Pt may enc zeroPt be4 be1 pc pv PtV SlA OwnA BT)
open Kr (OwnE SlE Enco RowTys)

/-- A box of a record. -/
def RB (w : World) (g : Nat) (v : Value) (x : Rec) : Prop := w.heap[g]? = some (.cells (rc v x).toArray 56 (0, 0)) ∧ x.root.s.length = 32
theorem RB.keep {w w' : World} {L : List Nat} {g : Nat} {v : Value} {x : Rec} (h : RB w g v x) (f : Frm L w w') (hn : g ∉ L) : RB w' g v x := ⟨f.heap h.1 hn, h.2⟩
theorem RB.keep0 {w w' : World} {g : Nat} {v : Value} {x : Rec} (h : RB w g v x) (f : Frm [] w w') : RB w' g v x := h.keep f (by simp)
theorem RB.lt {w : World} {g : Nat} {v : Value} {x : Rec} (h : RB w g v x) : g < w.heap.size := lt_heap h.1
theorem RB.new {w : World} {v : Value} {x : Rec} (h : x.root.s.length = 32) : RB (w.alloc (.cells (rc v x).toArray 56)) w.heap.size v x := ⟨heap_alloc_new _ _, h⟩
structure BxR (w : World) (g : Nat) (v : Value) (x : Rec) : Prop where
  id : w.cell? ⟨g, 0, none⟩ = some (.int .i64 x.id)
  name : w.cell? ⟨g, 1, none⟩ = some (.string x.name)
  kind : w.cell? ⟨g, 2, none⟩ = some (.int .i64 x.kind)
  size : w.cell? ⟨g, 3, none⟩ = some (.int .i64 x.size)
  ads : w.cell? ⟨g, 4, none⟩ = some v
  birth : w.cell? ⟨g, 5, none⟩ = some (.int .i64 x.root.b)
  level : w.cell? ⟨g, 6, none⟩ = some (.int .i64 x.root.l)
  made : w.cell? ⟨g, 39, none⟩ = some (.int .i64 x.made)
  of : w.cell? ⟨g, 40, none⟩ = some (.int .i64 x.of)
  origin : w.cell? ⟨g, 41, none⟩ = some (.int .i64 x.origin)
  quota : w.cell? ⟨g, 42, none⟩ = some (.int .i64 x.quota)
  reserve : w.cell? ⟨g, 43, none⟩ = some (.int .i64 x.reserve)
  all : (Instr.loadAt 56 (.pointer (some ⟨g, 0, none⟩))).run Tryz.prog w = .ok (rv v x) w
  root : (Instr.loadAt 54 (.pointer (some ⟨g, 4, none⟩))).run Tryz.prog w = .ok (pv v x.root.b x.root.l x.root.s) w
theorem RB.gets {w : World} {g : Nat} {v : Value} {x : Rec} (h : RB w g v x) : BxR w g v x := by
  have G : GetsR w g 0 v x := gets_of h.2 (fun j u hu => by rw [Nat.zero_add, cell_of_heap h.1]; simpa using hu)
  exact ⟨G.id, by simpa using G.name, by simpa using G.kind, by simpa using G.size, by simpa using G.ads, by simpa using G.birth, by simpa using G.level, by simpa using G.made, by simpa using G.of, by simpa using G.origin, by simpa using G.quota, by simpa using G.reserve, G.all, by simpa using G.root⟩
/-- What a record's value gives. -/
theorem RecV.box {w : World} {u : Value} {x : Rec} (h : RecV w u x) : ∃ v, u = .agg (rc v x).toArray ∧ x.root.s.length = 32 ∧ PtV w (pv v x.root.b x.root.l x.root.s) x.root ∧ ∃ a cap, v = .slice a x.root.ads.length cap := by
  obtain ⟨a, cap, sp, rfl, hA, hs⟩ := h
  exact ⟨_, rfl, hs, ⟨a, cap, sp, rfl, hA, hs⟩, a, cap, rfl⟩
theorem RecV.keep0 {w w' : World} {u : Value} {x : Rec} (h : RecV w u x) (f : Frm [] w w') : RecV w' u x := by
  obtain ⟨a, cap, sp, rfl, hA, hs⟩ := h
  exact ⟨a, cap, sp, rfl, hA.keep f (by simp), hs⟩
theorem rv_size {v : Value} {x : Rec} (h : x.root.s.length = 32) : (rc v x).toArray.size = 44 := by simp [rc_length h]
def eI (n : Int) : List Value := [.int .i64 n]
theorem encI : Enco eI 1 where
  len x := rfl
  one x u hu := by simp [eI] at hu; subst hu; rfl
  pos := by omega
  inj x y h := by simpa [eI] using h
/-- The cells of a table. -/
def tc (vr vl : Value) (t : Tab) : List Value := [.int .i64 t.next, vr, .int .i64 t.cur.kind, .int .i64 t.cur.dev, .int .i64 t.cur.at_, .int .i64 t.cur.txg, vl]
def tv (vr vl : Value) (t : Tab) : Value := .agg (tc vr vl t).toArray
def cv (c : Cur) : Value := .agg #[.int .i64 c.kind, .int .i64 c.dev, .int .i64 c.at_, .int .i64 c.txg]
/-- A value that is a table, which can be read. -/
def TabV (w : World) (vr vl : Value) (t : Tab) : Prop := Rs w vr t.recs ∧ ∃ sp, SlE eI 1 w vl t.lives sp
theorem TabV.keep0 {w w' : World} {vr vl : Value} {t : Tab} (h : TabV w vr vl t) (f : Frm [] w w') : TabV w' vr vl t := by
  obtain ⟨h1, sp, h2⟩ := h
  exact ⟨h1.keep0 f, sp, h2.keep0 f⟩
theorem d24 : (Tryz.prog.underlying 24).map (·.isRow) = some true := by kernel_rfl
theorem d27 : (Tryz.prog.underlying 27).map (·.isRow) = some true := by kernel_rfl
theorem i24 : (Tryz.prog.info? 24).map (·.size) = some 4 := by kernel_rfl
theorem i27 : (Tryz.prog.info? 27).map (·.size) = some 7 := by kernel_rfl
/-- A box of a table. -/
def TB (w : World) (g : Nat) (vr vl : Value) (t : Tab) : Prop := w.heap[g]? = some (.cells (tc vr vl t).toArray 27 (0, 0))
theorem TB.keep {w w' : World} {L : List Nat} {g : Nat} {vr vl : Value} {t : Tab} (h : TB w g vr vl t) (f : Frm L w w') (hn : g ∉ L) : TB w' g vr vl t := f.heap h hn
theorem TB.keep0 {w w' : World} {g : Nat} {vr vl : Value} {t : Tab} (h : TB w g vr vl t) (f : Frm [] w w') : TB w' g vr vl t := h.keep f (by simp)
theorem TB.lt {w : World} {g : Nat} {vr vl : Value} {t : Tab} (h : TB w g vr vl t) : g < w.heap.size := lt_heap h
theorem TB.new (w : World) (vr vl : Value) (t : Tab) : TB (w.alloc (.cells (tc vr vl t).toArray 27)) w.heap.size vr vl t := heap_alloc_new _ _
structure BxT (w : World) (g : Nat) (vr vl : Value) (t : Tab) : Prop where
  next : w.cell? ⟨g, 0, none⟩ = some (.int .i64 t.next)
  recs : w.cell? ⟨g, 1, none⟩ = some vr
  kind : w.cell? ⟨g, 2, none⟩ = some (.int .i64 t.cur.kind)
  dev : w.cell? ⟨g, 3, none⟩ = some (.int .i64 t.cur.dev)
  at_ : w.cell? ⟨g, 4, none⟩ = some (.int .i64 t.cur.at_)
  txg : w.cell? ⟨g, 5, none⟩ = some (.int .i64 t.cur.txg)
  lives : w.cell? ⟨g, 6, none⟩ = some vl
  all : (Instr.loadAt 27 (.pointer (some ⟨g, 0, none⟩))).run Tryz.prog w = .ok (tv vr vl t) w
  cur : (Instr.loadAt 24 (.pointer (some ⟨g, 2, none⟩))).run Tryz.prog w = .ok (cv t.cur) w
theorem TB.gets {w : World} {g : Nat} {vr vl : Value} {t : Tab} (h : TB w g vr vl t) : BxT w g vr vl t := by
  have c : ∀ j u, (tc vr vl t)[j]? = some u → w.cell? ⟨g, j, none⟩ = some u := fun j u hu => by rw [cell_of_heap h]; simpa using hu
  obtain ⟨d, h1, h2⟩ := Option.map_eq_some_iff.1 d27
  obtain ⟨d2, h3, h4⟩ := Option.map_eq_some_iff.1 d24
  refine ⟨c 0 _ rfl, c 1 _ rfl, c 2 _ rfl, c 3 _ rfl, c 4 _ rfl, c 5 _ rfl, c 6 _ rfl, ?_, ?_⟩
  · exact run_loadAt_mid w g 0 27 _ d (fun j u hu => by rw [Nat.zero_add]; exact c j u hu) h1 h2 (by rw [i27]; rfl)
  · refine run_loadAt_mid w g 2 24 [.int .i64 t.cur.kind, .int .i64 t.cur.dev, .int .i64 t.cur.at_, .int .i64 t.cur.txg] d2 (fun j u hu => ?_) h3 h4 (by rw [i24]; rfl)
    match j, hu with
    | 0, hu => cases hu; exact c 2 _ rfl
    | 1, hu => cases hu; exact c 3 _ rfl
    | 2, hu => cases hu; exact c 4 _ rfl
    | 3, hu => cases hu; exact c 5 _ rfl
/-- How large a table is that the walks go through. -/
structure FitR (x : Rec) : Prop where
  ads : x.root.ads.length ≤ 1000000
  name : x.name.size ≤ 1000
structure FitT (t : Tab) : Prop where
  recs : t.recs.length ≤ 1000
  lives : t.lives.length ≤ 1000
  all : ∀ x ∈ t.recs, FitR x
theorem within_pr (n low high : Int) (w : World) : Calls Tryz.prog 129 #[.int .i64 n, .int .i64 low, .int .i64 high] w fun e w' => e = .returned (.bool (wi n low high)) ∧ w' = w := by
  unfold wi
  go_enter Tryz.func129, Tryz.ntmps129
  go_wp2_with fail
  all_goals go_ret
  · rename_i h
    exact ⟨by simp [h], rfl⟩
  · rename_i h
    exact ⟨by have : ¬ low ≤ n := by omega
              simp [this], rfl⟩
end Go.Proofs.YtljhanhipmnioaaGreat.Rd

namespace Go.Proofs.YtljhanhipmnioaaGreat.Rd
open Go.RowKit
set_option linter.unusedVariables false
set_option linter.unusedSimpArgs false
set_option maxRecDepth 100000

open Pt (Pt may enc zeroPt be4 be1 pc pv PtV SlA OwnA BT wpList_load_g heap_alloc_at Ext Grew)
open Kr (OwnE SlE Enco RowTys)
theorem SlEcut44 {w : World} {a : Option Addr} {n cap : Nat} {l : List RowT} {sp : List Value} (h : SlE eR 44 w (.slice a n cap) l sp) (lo hi : Nat) (h1 : lo ≤ hi) (h2 : hi ≤ l.length) :
    SlE eR 44 w (.slice (if cap = lo then a else a.map (·.add (lo * 44))) (hi - lo) (cap - lo)) ((l.drop lo).take (hi - lo)) (Kr.flt eR (l.drop hi) ++ sp) := by
  have hlen : ((l.drop lo).take (hi - lo)).length = hi - lo := by simp; omega
  have e1 := Kr.flt_length encRow l
  obtain ⟨k1, ⟨k2, k3, k4⟩ | ⟨a, k2, k3, k4⟩ | ⟨b, off, c, k2, k3, k4, k5, k6⟩⟩ := h
  · cases k2
    obtain rfl : l = [] := List.eq_nil_of_length_eq_zero k3
    subst k4
    simp at h2
    subst h2
    obtain rfl : lo = 0 := by omega
    simpa [Kr.flt] using SlE.nil eR 44 w
  · cases k2
    obtain rfl : l = [] := List.eq_nil_of_length_eq_zero k3
    subst k4
    simp at h2
    subst h2
    obtain rfl : lo = 0 := by omega
    exact ⟨rfl, .inr (.inl ⟨a, by simp, rfl, rfl⟩)⟩
  · cases k2
    rw [List.length_append] at k5
    have hl : l.drop lo = (l.drop lo).take (hi - lo) ++ l.drop hi := by
      conv => lhs; rw [← List.take_append_drop (hi - lo) (l.drop lo)]
      rw [List.drop_drop, show lo + (hi - lo) = hi by omega]
    have hsz : (Kr.flt eR ((l.drop lo).take (hi - lo)) ++ (Kr.flt eR (l.drop hi) ++ sp)).length = (cap - lo) * 44 := by
      rw [List.length_append, List.length_append, Kr.flt_length encRow, Kr.flt_length encRow, hlen, List.length_drop]
      omega
    by_cases hcl : cap = lo
    · rw [if_pos hcl]
      refine ⟨by rw [Kr.flt_length encRow], .inr (.inr ⟨b, off, cap - lo, by rw [hlen], by omega, by omega, hsz, fun i u hu => ?_⟩)⟩
      have : i < (Kr.flt eR ((l.drop lo).take (hi - lo)) ++ (Kr.flt eR (l.drop hi) ++ sp)).length := by
        rcases Nat.lt_or_ge i (Kr.flt eR ((l.drop lo).take (hi - lo)) ++ (Kr.flt eR (l.drop hi) ++ sp)).length with h | h
        · exact h
        · rw [List.getElem?_eq_none h] at hu; cases hu
      rw [hsz] at this
      omega
    · rw [if_neg hcl]
      refine ⟨by rw [Kr.flt_length encRow], .inr (.inr ⟨b, off + lo * 44, cap - lo, by simp [add_plain]; omega, by omega, by omega, hsz, fun i u hu => ?_⟩)⟩
      have := k6 (lo * 44 + i) u (by
        rw [← List.append_assoc, ← Kr.flt_append, ← hl] at hu
        have e : Kr.flt eR l = Kr.flt eR (l.take lo) ++ Kr.flt eR (l.drop lo) := by rw [← Kr.flt_append, List.take_append_drop]
        have e2 : (Kr.flt eR (l.take lo)).length = lo * 44 := by rw [Kr.flt_length encRow, List.length_take, Nat.min_eq_left (by omega)]
        rw [e, List.append_assoc, List.getElem?_append_right (by omega), e2]
        simpa using hu)
      rw [Nat.add_assoc]
      exact this

theorem Rs.drop {w : World} {a : Option Addr} {n cap : Nat} {l : List Rec} (h : Rs w (.slice a n cap) l) (lo : Nat) (h1 : lo ≤ l.length) :
    Rs w (.slice (if cap = lo then a else a.map (·.add (lo * 44))) (l.length - lo) (cap - lo)) (l.drop lo) := by
  obtain ⟨rs, sp, hs, hl, hr⟩ := h
  have hc := SlEcut44 hs lo rs.length (by omega) (Nat.le_refl _)
  rw [List.take_of_length_le (by simp), List.drop_length, show Kr.flt eR ([] : List RowT) ++ sp = sp from rfl, hl] at hc
  refine ⟨rs.drop lo, sp, hc, by simp [hl], fun i r x k1 k2 => ?_⟩
  rw [List.getElem?_drop] at k1 k2
  exact hr _ r x k1 k2
theorem Rs.caps {w : World} {a : Option Addr} {n cap : Nat} {l : List Rec} (h : Rs w (.slice a n cap) l) : l.length ≤ cap ∧ cap ≤ maxLen := by
  obtain ⟨rs, sp, hs, hl, hr⟩ := h
  obtain ⟨a, c, e, h1, h2⟩ := hs.form
  cases e
  omega
def idx (p : Rec → Bool) : List Rec → Int
  | [] => -1
  | x :: r => if p x = true then 0 else if idx p r < 0 then -1 else idx p r + 1
theorem idx_hit : ∀ {p : Rec → Bool} {l : List Rec} {k : Nat} (h : k < l.length), p l[k] = true → (∀ j (hj : j < l.length), j < k → p l[j] = false) → idx p l = k
  | p, x :: r, 0, h, h1, _ => by unfold idx; rw [if_pos (by simpa using h1)]; rfl
  | p, x :: r, k + 1, h, h1, h2 => by
    have e := idx_hit (p := p) (l := r) (k := k) (by simpa using h) (by simpa using h1) (fun j hj hk => h2 (j + 1) (by simpa using hj) (by omega))
    unfold idx
    rw [if_neg (by have := h2 0 (by simp) (by omega); simpa using this), e, if_neg (by omega)]
    omega
theorem idx_none : ∀ {p : Rec → Bool} {l : List Rec}, (∀ j (hj : j < l.length), p l[j] = false) → idx p l = -1
  | p, [], _ => rfl
  | p, x :: r, h => by
    have e := idx_none (p := p) (l := r) (fun j hj => h (j + 1) (by simpa using hj))
    unfold idx
    rw [if_neg (by have := h 0 (by simp); simpa using this), e, if_pos (by omega)]
theorem idx_cases : ∀ (p : Rec → Bool) (l : List Rec), (idx p l = -1 ∧ ∀ x ∈ l, p x = false) ∨ ∃ (k : Nat) (x : Rec), idx p l = k ∧ l[k]? = some x ∧ p x = true ∧ ∀ j y, j < k → l[j]? = some y → p y = false
  | p, [] => .inl ⟨rfl, by simp⟩
  | p, x :: r => by
    unfold idx
    by_cases hx : p x = true
    · rw [if_pos hx]
      exact .inr ⟨0, x, rfl, rfl, hx, fun j y hj => absurd hj (by omega)⟩
    · rw [if_neg hx]
      have hx' : p x = false := by simpa using hx
      rcases idx_cases p r with ⟨h1, h2⟩ | ⟨k, y, h1, h2, h3, h4⟩
      · rw [if_pos (by omega)]
        exact .inl ⟨rfl, fun y hy => by rcases List.mem_cons.1 hy with rfl | hy; exact hx'; exact h2 y hy⟩
      · rw [if_neg (by omega)]
        refine .inr ⟨k + 1, y, by omega, by simpa using h2, h3, fun j z hj hz => ?_⟩
        cases j with
        | zero => cases hz; exact hx'
        | succ j => exact h4 j z (by omega) (by simpa using hz)
theorem idx_any (p : Rec → Bool) (l : List Rec) : decide (0 ≤ idx p l) = l.any p := by
  rcases idx_cases p l with ⟨h1, h2⟩ | ⟨k, x, h1, h2, h3, _⟩
  · have : l.any p = false := by rw [List.any_eq_false]; intro x hx; rw [h2 x hx]; simp
    rw [this, h1]; rfl
  · have : l.any p = true := List.any_eq_true.2 ⟨x, List.mem_of_getElem? h2, h3⟩
    rw [this, h1]; simp
theorem idx_lo (p : Rec → Bool) (l : List Rec) : -1 ≤ idx p l ∧ idx p l < l.length := by
  rcases idx_cases p l with ⟨h1, h2⟩ | ⟨k, x, h1, h2, _⟩
  · omega
  · have := (List.getElem?_eq_some_iff.1 h2).1; omega
def IdxRel (p : Rec → Bool) (rs : List Rec) (w0 : World) (cv : Value) (wr : World) : Prop := ∃ k : Nat, k ≤ rs.length ∧ cv = .int .i64 k ∧ (∀ j (h : j < rs.length), j < k → p rs[j] = false) ∧ Frm [] w0 wr
/-- A function value that tells p of each record of a list. -/
structure Chk (w : World) (rs : List Rec) (F : FuncId) (cap : Array Value) (p : Rec → Bool) : Prop where
  enter : ∀ (u : Value) W, (callFunc F (#[u] ++ cap)).run Tryz.prog W = .ok (.enter F (#[u] ++ cap)) W
  calls : ∀ u x W, Frm [] w W → x ∈ rs → RecV W u x → Calls Tryz.prog F (#[u] ++ cap) W fun e w' => e = .returned (.bool (p x)) ∧ Frm [] W w'
theorem Chk.keep {w w' : World} {rs : List Rec} {F : FuncId} {cap : Array Value} {p : Rec → Bool} (h : Chk w rs F cap p) (f : Frm [] w w') : Chk w' rs F cap p := ⟨h.enter, fun u x W g => h.calls u x W (f.trans g (by simp))⟩
set_option maxHeartbeats 1000000 in
theorem IndexFunc_any (F : FuncId) (cap : Array Value) (p : Rec → Bool) (v : Value) (rs : List Rec) (w : World) (h : Rs w v rs) (hl : rs.length ≤ 1000) (hc : Chk w rs F cap p) :
    Calls Tryz.prog 66 #[v, .func (.func F) #[] cap] w fun e w' => e = .returned (.int .i64 (idx p rs)) ∧ Frm [] w w' := by
  have eg := hc.enter
  have HC := Lib.hid hc
  have H := Lib.hid h
  have hl9 : (rs.length : Int) ≤ 1000 := by omega
  obtain ⟨va, vc, rfl⟩ := h.form
  clear h hc
  go_enter Tryz.func66, Tryz.ntmps66
  go_wp2_with fail
  go_loopw [8] (IdxRel p rs w) (fun c _ => rs.length - (intOf c).toNat)
  case atStart => exact ⟨0, Nat.zero_le _, rfl, fun j _ hj => by omega, Frm.refl _ _⟩
  case round =>
    obtain ⟨k, hk, rfl, hz, f⟩ := hrel
    have HZ := Lib.hid hz
    have FW := Lib.hid f
    clear hz f
    by_cases hkl : k < rs.length
    · obtain ⟨b, off, cp, e⟩ := H.out.at (by omega)
      cases e
      obtain ⟨a, c, G, hv⟩ := (H.out.keep0 FW.out).gets k hkl
      have HG := Lib.hid G.all
      have HCC := Lib.hid (HC.out.calls _ rs[k] _ FW.out (List.getElem_mem hkl) hv)
      have hp0 : (∀ j (h : j < rs.length), j < k + 1 → p rs[j] = false) ∨ p rs[k] = true := by
        cases hp : p rs[k] with
        | true => exact .inr rfl
        | false =>
          left
          intro j hj hjk
          by_cases e : j = k
          · subst e; exact hp
          · exact HZ.out j hj (by omega)
      have HP := Lib.hid hp0
      clear hp0
      have HR := Lib.hid (fun (hb : p rs[k] = true) => idx_hit hkl hb HZ.out)
      have hn0 : p rs[k] = false → ∀ j (h : j < rs.length), j < k + 1 → p rs[j] = false := by
        intro hb
        rcases HP.out with h | h
        · exact h
        · rw [hb] at h; cases h
      have HN := Lib.hid hn0
      clear hn0
      generalize p rs[k] = pb at *
      clear G hv HP HZ
      generalize rs[k] = xk at *
      generalize rv (.slice a xk.root.ads.length c) xk = uk at *
      go_wp2_with (first
        | ((with_reducible (show wpList _ _ _ (Oper.mk _ (Op.load 56 _) _ _ _ _ :: _) _ _)); refine wpList_load_g (by rfl) 56 _ rfl _ rfl HG.out ?_))
      refine HCC.out.mono ?_
      rintro e w5 ⟨rfl, f5⟩
      cases pb with
      | true =>
        go_wp2_with fail
        go_ret
        exact ⟨by rw [HR.out (by simp)]; rfl, FW.out.trans f5 (by simp)⟩
      | false =>
        go_wp2_with fail
        go_roundw
        case rel => exact ⟨k + 1, by omega, by go_num, HN.out (by simp), FW.out.trans f5 (by simp)⟩
        case measure => simp [intOf]; omega
    · obtain rfl : k = rs.length := by omega
      have e := idx_none (fun j hj => HZ.out j hj hj)
      go_wp2_with fail
      go_ret
      exact ⟨by rw [e]; rfl, FW.out⟩
end Go.Proofs.YtljhanhipmnioaaGreat.Rd

namespace Go.Proofs.YtljhanhipmnioaaGreat.Rd
open Go.RowKit
set_option linter.unusedVariables false
set_option linter.unusedSimpArgs false
set_option maxRecDepth 100000

open Pt (Pt may enc zeroPt be4 be1 pc pv PtV SlA OwnA BT wpList_load_g heap_alloc_at Ext Grew)
open Kr (OwnE SlE Enco RowTys)

/-- A value that is such a function. -/
def ChkV (w : World) (rs : List Rec) (c : Value) (p : Rec → Bool) : Prop := ∃ F cap, c = .func (.func F) #[] cap ∧ Chk w rs F cap p
theorem ChkV.keep {w w' : World} {rs : List Rec} {c : Value} {p : Rec → Bool} (h : ChkV w rs c p) (f : Frm [] w w') : ChkV w' rs c p := by
  obtain ⟨F, cap, e, h⟩ := h
  exact ⟨F, cap, e, h.keep f⟩
def passB (ps : List (Rec → Bool)) (rs : List Rec) : Bool := ps.all fun p => !(rs.any p)
def PassRel (ps : List (Rec → Bool)) (rs : List Rec) (w0 : World) (cv : Value) (wr : World) : Prop := ∃ k : Nat, k ≤ ps.length ∧ cv = .int .i64 k ∧ (∀ j (h : j < ps.length), j < k → rs.any ps[j] = false) ∧ Frm [] w0 wr
set_option maxHeartbeats 1000000 in
theorem pass_any (S T : Nat) (cs : List Value) (ps : List (Rec → Bool)) (v : Value) (rs : List Rec) (w : World) (h : Rs w v rs) (hl : rs.length ≤ 1000) (hS : w.heap[S]? = some (.cells cs.toArray T (0, 0))) (hcl : cs.length = ps.length) (hpl : ps.length ≤ 10)
    (hc : ∀ (i : Nat) c p, cs[i]? = some c → ps[i]? = some p → ChkV w rs c p) :
    Calls Tryz.prog 132 #[v, .slice (some ⟨S, 0, none⟩) ps.length ps.length] w fun e w' => e = .returned (.bool (passB ps rs)) ∧ Frm [] w w' := by
  have HC := Lib.hid hc
  have H := Lib.hid h
  have HS := Lib.hid hS
  have HL := Lib.hid hl
  have HCL := Lib.hid hcl
  have hl9 : (ps.length : Int) ≤ 10 := by omega
  clear h hc hS hl hcl
  go_enter Tryz.func132, Tryz.ntmps132
  go_wp2_with fail
  go_loopw [9] (PassRel ps rs w) (fun c _ => ps.length - (intOf c).toNat)
  case atStart => exact ⟨0, Nat.zero_le _, rfl, fun j _ hj => by omega, Frm.refl _ _⟩
  case round =>
    obtain ⟨k, hk, rfl, hz, f⟩ := hrel
    have HZ := Lib.hid hz
    have FW := Lib.hid f
    clear hz f
    by_cases hkl : k < ps.length
    · have hkc : k < cs.length := by have := HCL.out; omega
      obtain ⟨F, cap, e, hchk⟩ := HC.out k _ _ (List.getElem?_eq_getElem hkc) (List.getElem?_eq_getElem hkl)
      have c0 : wr.cell? ⟨S, k, none⟩ = some (.func (.func F) #[] cap) := by
        rw [cell_of_heap (FW.out.heap HS.out (by simp)), List.getElem?_toArray, List.getElem?_eq_getElem hkc, e]
      have HIX := Lib.hid (IndexFunc_any F cap ps[k] v rs wr (H.out.keep0 FW.out) HL.out (hchk.keep FW.out))
      have HAN := Lib.hid (idx_any ps[k] rs)
      have hn0 : rs.any ps[k] = false → ∀ j (h : j < ps.length), j < k + 1 → rs.any ps[j] = false := by
        intro hb j hj hjk
        by_cases e : j = k
        · subst e; exact hb
        · exact HZ.out j hj (by omega)
      have HN := Lib.hid hn0
      have hr0 : rs.any ps[k] = true → passB ps rs = false := by
        intro hb
        unfold passB
        rw [List.all_eq_false]
        exact ⟨ps[k], List.getElem_mem hkl, by rw [hb]; simp⟩
      have HR := Lib.hid hr0
      clear hn0 hr0 hchk e HZ
      generalize idx ps[k] rs = ix at *
      generalize rs.any ps[k] = pb at *
      go_upto_region 4 with (fail)
      go_wp2_with (go_at_call 66; refine HIX.out.mono ?_; rintro e w5 ⟨rfl, f5⟩)
      · have hp : pb = true := by rw [← HAN.out]; simp; omega
        go_ret
        exact ⟨by rw [HR.out hp]; rfl, FW.out.trans f5 (by simp)⟩
      · have hp : pb = false := by rw [← HAN.out]; simp; omega
        go_wp2_with fail
        go_roundw
        case rel => exact ⟨k + 1, by omega, by go_num, HN.out hp, FW.out.trans f5 (by simp)⟩
        case measure => simp [intOf]; omega
    · obtain rfl : k = ps.length := by omega
      have e : passB ps rs = true := by
        unfold passB
        rw [List.all_eq_true]
        intro p hp
        obtain ⟨i, hi, rfl⟩ := List.getElem_of_mem hp
        rw [HZ.out i hi hi]; rfl
      go_wp2_with fail
      go_ret
      exact ⟨by rw [e]; rfl, FW.out⟩
end Go.Proofs.YtljhanhipmnioaaGreat.Rd

namespace Go.Proofs.YtljhanhipmnioaaGreat.Rd
open Go.RowKit
set_option linter.unusedVariables false
set_option linter.unusedSimpArgs false
set_option maxRecDepth 100000

open Pt (Pt pc pv PtV SlA OwnA)
open Kr (OwnE SlE Enco RowTys)

def fndV (n : ByteArray) (rs : List Rec) : Value := match fnd n rs with
  | some i => .tuple #[.int .i64 i, .bool true]
  | none => .tuple #[.int .i64 0, .bool false]
theorem str_eq {x n : ByteArray} : (x.toList == n.toList) = true ↔ x = n := by
  rw [ByteArray.toList_eq, ByteArray.toList_eq, beq_iff_eq]
  exact ⟨fun h => by cases x; cases n; simpa using h, fun h => by rw [h]⟩
end Go.Proofs.YtljhanhipmnioaaGreat.Rd

namespace Go.Proofs.YtljhanhipmnioaaGreat.Rd
open Go.RowKit
set_option linter.unusedVariables false
set_option linter.unusedSimpArgs false
set_option maxRecDepth 100000

open Pt (Pt may enc zeroPt be4 be1 pc pv PtV SlA OwnA BT wpList_load_g heap_alloc_at Ext Grew)
open Kr (OwnE SlE Enco RowTys)

theorem enter_of {P : Program} {f : FuncId} {fn : Func} (hf : P.funcs[f]? = some fn) (hname : (fn.name == "runtime.NumGoroutine") = false) (hb : fn.body.isSome = true) (args : Array Value) (w : World) :
    (callFunc f args).run P w = .ok (.enter f args) w := by
  have h1 : fn.name ≠ "runtime.NumGoroutine" := by simpa using hname
  obtain ⟨c, hc⟩ := Option.isSome_iff_exists.1 hb
  simp [callFunc, hf, h1, hc]
theorem idx_fnd (n : ByteArray) : ∀ rs : List Rec, idx (fun x => x.name.toList == n.toList) rs = (match fnd n rs with | some i => (i : Int) | none => -1)
  | [] => rfl
  | x :: r => by
    unfold idx fnd
    by_cases h : x.name = n
    · rw [if_pos h, if_pos (str_eq.2 h)]; rfl
    · rw [if_neg h, if_neg (fun e => h (str_eq.1 e)), idx_fnd n r]
      cases fnd n r with
      | none => rfl
      | some i =>
        show (if (i : Int) < 0 then (-1 : Int) else (i : Int) + 1) = ((i + 1 : Nat) : Int)
        rw [if_neg (by omega)]; omega
theorem fnd_lt {n : ByteArray} {rs : List Rec} {i : Nat} (h : fnd n rs = some i) : i < rs.length := by
  obtain ⟨x, hx, _⟩ := fnd_some h
  exact (List.getElem?_eq_some_iff.1 hx).1
set_option maxHeartbeats 1000000 in
theorem find1_any (u : Value) (x : Rec) (n : ByteArray) (g : Nat) (w : World) (h : RecV w u x) (hg : w.heap[g]? = some (.cells #[.string n] 9 (0, 0))) : Calls Tryz.prog 67 #[u, .pointer (some ⟨g, 0, none⟩)] w fun e w' => e = .returned (.bool (x.name.toList == n.toList)) ∧ Frm [] w w' := by
  obtain ⟨v, rfl, hs, _, _⟩ := h.box
  have f0 : Frm [] w (w.alloc (.cells (rc v x).toArray 56)) := (Frm.refl [] w).alloc _
  have c0 := (RB.new (w := w) (v := v) hs).gets.name
  have c1 : (w.alloc (.cells (rc v x).toArray 56)).cell? ⟨g, 0, none⟩ = some (.string n) := by rw [cell_of_heap (f0.heap hg (by simp))]; rfl
  generalize (rc v x).toArray = A at *
  clear h hs hg
  go_enter Tryz.func67, Tryz.ntmps67
  go_upto_region 1 with (fail)
  generalize w.alloc (.cells A 56) = W at *
  go_wp2_with fail
  go_ret
  exact ⟨rfl, f0⟩
set_option maxHeartbeats 1000000 in
theorem FindP_any (vr vl : Value) (t : Tab) (n : ByteArray) (w : World) (h : Rs w vr t.recs) (hl : t.recs.length ≤ 1000) :
    Calls Tryz.prog 19 #[tv vr vl t, .string n] w fun e w' => e = .returned (fndV n t.recs) ∧ Frm [] w w' := by
  unfold tv
  have f0 : Frm [] w (w.alloc (.cells (tc vr vl t).toArray 27)) := (Frm.refl [] w).alloc _
  have T0 := TB.new w vr vl t
  generalize (tc vr vl t).toArray = A at *
  have f1 : Frm [] w ((w.alloc (.cells A 27)).alloc (.cells #[.string n] 9)) := f0.alloc _
  have c1 := (T0.keep0 ((Frm.refl [] _).alloc (.cells #[.string n] 9))).gets.recs
  have hb : ((w.alloc (.cells A 27)).alloc (.cells #[.string n] 9)).heap[w.heap.size + 1]? = some (.cells #[.string n] 9 (0, 0)) := heap_alloc_at (by simp)
  clear T0 f0
  have F := Lib.hid f1
  have H := Lib.hid (h.keep0 f1)
  generalize hG : w.heap.size + 1 = g at *
  have HIX := Lib.hid (IndexFunc_any 67 #[.pointer (some ⟨g, 0, none⟩)] (fun x => x.name.toList == n.toList) vr t.recs _ (h.keep0 f1) hl ⟨fun u z => enter_of Tryz.func67 (by kernel_rfl) (by kernel_rfl) _ z, fun u x z f _ hv => find1_any u x n g z hv (f.heap hb (by simp))⟩)
  rw [idx_fnd] at HIX
  unfold fndV
  clear f1 hb h hl
  cases hq : fnd n t.recs with
  | none =>
    rw [hq] at HIX
    go_enter Tryz.func19, Tryz.ntmps19
    go_upto_region 1 with (fail)
    generalize (w.alloc (.cells A 27)).alloc (.cells #[.string n] 9) = W at *
    go_wp2_with (go_at_call 66; refine HIX.out.mono ?_; rintro e w5 ⟨rfl, f5⟩)
    go_ret2
    exact ⟨rfl, F.out.trans f5 (by simp)⟩
  | some i =>
    rw [hq] at HIX
    have e1 : max (i : Int) 0 = i := by omega
    have e2 : decide ((0 : Int) ≤ i) = true := by simp
    go_enter Tryz.func19, Tryz.ntmps19
    go_upto_region 1 with (fail)
    generalize (w.alloc (.cells A 27)).alloc (.cells #[.string n] 9) = W at *
    go_wp2_with (go_at_call 66; refine HIX.out.mono ?_; rintro e w5 ⟨rfl, f5⟩)
    go_ret2
    exact ⟨rfl, F.out.trans f5 (by simp)⟩
end Go.Proofs.YtljhanhipmnioaaGreat.Rd

namespace Go.Proofs.YtljhanhipmnioaaGreat
open Go.RowKit
set_option linter.unusedVariables false
set_option linter.unusedSimpArgs false
set_option maxRecDepth 100000

theorem letter_any (c : Int) (w : World) : Calls Tryz.prog 215 #[.int .i32 c] w fun e w' => e = .returned (.bool (decide (97 ≤ c) && decide (c ≤ 122))) ∧ w' = w := by
  by_cases h1 : 97 ≤ c <;> by_cases h2 : c ≤ 122
  all_goals
    go_enter Tryz.func215, Tryz.ntmps215
    go_wp2
    all_goals first | (exfalso; omega) | (go_ret; exact ⟨by simp [h1, h2], rfl⟩)
/-- What foreign tells of a rune. -/
def forR (r : Nat) : Bool := !(decide (97 ≤ r) && decide (r ≤ 122)) && (!(decide (48 ≤ r) && decide (r ≤ 57)) && (!(r == 46) && (!(r == 45) && !(r == 95))))
theorem forR_ok (b : UInt8) : forR b.toNat = !okB b := by
  unfold forR okB letB
  cases decide (97 ≤ b.toNat) <;> cases decide (b.toNat ≤ 122) <;> cases decide (48 ≤ b.toNat) <;> cases decide (b.toNat ≤ 57) <;> cases (b.toNat == 46) <;> cases (b.toNat == 45) <;> cases (b.toNat == 95) <;> rfl
theorem forR_big {r : Nat} (h : 128 ≤ r) : forR r = true := by
  unfold forR
  rw [show decide (r ≤ 122) = false by simp; omega, show decide (r ≤ 57) = false by simp; omega, show (r == 46) = false by simp; omega, show (r == 45) = false by simp; omega, show (r == 95) = false by simp; omega]
  simp
/-- A rune of a text. -/
theorem dec_small (s : ByteArray) (pos : Nat) (b : UInt8) (hb : s.data.toList[pos]? = some b) (h : b.toNat < 128) : Utf8.decode s pos = (b.toNat, 1) := by
  rw [Lib.decode_N]
  have e : s.data.toList.getD pos 0 = b := by simp [List.getD, hb]
  rw [e]
  unfold Lib.decodeN
  rw [if_pos h]
theorem dec_big (s : ByteArray) (pos : Nat) (b : UInt8) (hb : s.data.toList[pos]? = some b) (h : 128 ≤ b.toNat) : 128 ≤ (Utf8.decode s pos).1 := by
  rw [Lib.decode_N]
  have e : s.data.toList.getD pos 0 = b := by simp [List.getD, hb]
  rw [e]
  unfold Lib.decodeN
  rw [if_neg (by omega)]
  repeat' split
  all_goals (simp only; omega)
theorem okB_small {b : UInt8} (h : okB b = true) : b.toNat < 128 := by
  unfold okB letB at h
  simp only [Bool.or_eq_true, Bool.and_eq_true, decide_eq_true_eq, beq_iff_eq] at h
  omega
theorem dec_ok {s : ByteArray} {pos : Nat} {b : UInt8} (hb : s.data.toList[pos]? = some b) (h : okB b = true) : Utf8.decode s pos = (b.toNat, 1) ∧ forR b.toNat = false :=
  ⟨dec_small s pos b hb (okB_small h), by rw [forR_ok, h]; rfl⟩
theorem dec_no {s : ByteArray} {pos : Nat} {b : UInt8} (hb : s.data.toList[pos]? = some b) (h : okB b = false) : forR (Utf8.decode s pos).1 = true := by
  rcases Nat.lt_or_ge b.toNat 128 with h1 | h1
  · rw [dec_small s pos b hb h1, forR_ok, h]; rfl
  · exact forR_big (dec_big s pos b hb h1)
set_option maxHeartbeats 2000000 in
theorem foreign_any (r : Nat) (w : World) : Calls Tryz.prog 217 #[.int .i32 (r : Int)] w fun e w' => e = .returned (.bool (forR r)) ∧ w' = w := by
  have HL := Lib.hid (fun W => letter_any (r : Int) W)
  obtain ⟨lt, hlt⟩ : ∃ lt, (decide (97 ≤ (r : Int)) && decide ((r : Int) ≤ 122)) = lt := ⟨_, rfl⟩
  rw [hlt] at HL
  have hlt2 : (decide (97 ≤ r) && decide (r ≤ 122)) = lt := by rw [← hlt]; congr 1 <;> simp <;> omega
  have hf : forR r = (!lt && (!(decide (48 ≤ r) && decide (r ≤ 57)) && (!(r == 46) && (!(r == 45) && !(r == 95))))) := by unfold forR; rw [hlt2]
  rw [hf]
  clear hlt hlt2 hf
  cases lt
  all_goals
    go_enter Tryz.func217, Tryz.ntmps217
    go_wp2_with (go_at_call 215; refine (HL.out _).mono ?_; rintro e w' ⟨rfl, hw⟩; obtain rfl := hw.symm)
    all_goals (go_ret; refine ⟨congrArg (fun b => Ending.returned (.bool b)) ?_, rfl⟩; rw [Bool.eq_iff_iff]; simp; first | done | omega)
end Go.Proofs.YtljhanhipmnioaaGreat

namespace Go.Proofs.YtljhanhipmnioaaGreat
open Go.RowKit
set_option linter.unusedVariables false
set_option linter.unusedSimpArgs false
set_option maxRecDepth 100000

/-- All bytes ahead of a place are a part's. -/
def Ahead (s : ByteArray) (pos : Nat) : Prop := ∀ j b, j < pos → s.data.toList[j]? = some b → okB b = true
theorem Ahead.all {s : ByteArray} {pos : Nat} (h : Ahead s pos) (hp : ¬ pos < s.size) : s.data.toList.all okB = true := by
  rw [List.all_eq_true]
  intro b hb
  obtain ⟨j, hj⟩ := List.getElem?_of_mem hb
  have hl : j < s.data.toList.length := by
    rcases Nat.lt_or_ge j s.data.toList.length with h | h
    · exact h
    · rw [List.getElem?_eq_none h] at hj; cases hj
  rw [← Lib.size_eq] at hl
  exact h j b (by omega) hj
theorem all_no {s : ByteArray} {pos : Nat} {b : UInt8} (hb : s.data.toList[pos]? = some b) (h : okB b = false) : s.data.toList.all okB = false := by
  rw [Bool.eq_false_iff]
  intro ha
  rw [List.all_eq_true] at ha
  rw [ha b (List.mem_of_getElem? hb)] at h
  cases h
theorem at_text {s : ByteArray} {pos : Nat} (h : pos < s.size) : ∃ b, s.data.toList[pos]? = some b := ⟨_, List.getElem?_eq_getElem (by rw [← Lib.size_eq]; exact h)⟩
/-- What the search tells: a place, if there is a foreign byte. -/
def FindP (s : ByteArray) (w : World) (e : Ending) (w' : World) : Prop := (∃ k : Int, e = .returned (.int .i64 k) ∧ decide (0 ≤ k) = !(s.data.toList.all okB)) ∧ Frm [] w w'
set_option maxHeartbeats 2000000 in
theorem indexFunc_any (s : ByteArray) (w : World) : Calls Tryz.prog 239 #[.string s, .func (.func 217) #[] #[], .bool true] w (FindP s w) := by
  have HF := Lib.hid (fun r W => foreign_any r W)
  go_enter Tryz.func239, Tryz.ntmps239
  go_wp2
  go_loopg [] s.size (fun gf wx => ∃ pos : Nat, wx.heap[w.heap.size]? = some (.stringIter s pos) ∧ Below w.heap.size w wx ∧ Ahead s pos ∧ s.size ≤ pos + gf)
  case atStart => exact ⟨0, World.iter_heap w s 0, (Below.refl _ w).alloc (Nat.le_refl _) _, fun j b h => by omega, by omega⟩
  case round =>
    obtain ⟨pos, hit, hbw, hah, hfu⟩ := hrel
    by_cases hps : pos < s.size
    · obtain ⟨g', rfl⟩ : ∃ g', gk = g' + 1 := ⟨gk - 1, by omega⟩
      obtain ⟨b, hb⟩ := at_text hps
      have hnx : ∀ ty, (Instr.next (.pointer (some ⟨w.heap.size, 0, none⟩)) true ty).run Tryz.prog wr = _ := fun ty => Lib.run_next_any_at wr w.heap.size s pos ty hit hps
      obtain ⟨R, hR⟩ : ∃ R, (Utf8.decode s pos).1 = R := ⟨_, rfl⟩
      obtain ⟨K, hK⟩ : ∃ K, (Utf8.decode s pos).2 = K := ⟨_, rfl⟩
      rw [hR, hK] at hnx
      have hit2 := Lib.iterAt_heap wr w.heap.size s pos (pos + K) hit
      have hbw2 := Lib.below_iterAt hbw (k := w.heap.size) (Nat.le_refl _) s (pos + K)
      obtain ⟨W, hWd⟩ : ∃ W, wr.iterAt w.heap.size s (pos + K) = W := ⟨_, rfl⟩
      rw [hWd] at hnx hit2 hbw2
      have cS := Lib.hid (HF.out R W)
      cases hok : okB b with
      | true =>
        obtain ⟨hd, hr⟩ := dec_ok hb hok
        have hR1 : forR R = false := by rw [← hR, hd]; exact hr
        have hK1 : K = 1 := by rw [← hK, hd]
        rw [hR1] at cS
        have hah2 := Lib.hid (show Ahead s (pos + K) from fun j x hj hx => by
          rcases Nat.lt_or_ge j pos with h | h
          · exact hah j x h hx
          · obtain rfl : j = pos := by omega
            rw [hb] at hx; cases hx; exact hok)
        have F2 := Lib.hid (And.intro hit2 hbw2)
        clear hah hR hK hit hbw hit2 hbw2 hWd hb hd hr hR1
        go_wp2_with (go_at_call 217; refine cS.out.mono ?_; rintro e W' ⟨rfl, hw⟩; obtain rfl := hw.symm)
        go_roundg g'
        case measure => omega
        case rel => exact ⟨pos + K, F2.out.1, F2.out.2, hah2.out, by omega⟩
      | false =>
        have hR1 : forR R = true := by rw [← hR]; exact dec_no hb hok
        rw [hR1] at cS
        have hall := Lib.hid (all_no hb hok)
        have F2 := Lib.hid (Frm.of_below hbw2 [])
        clear hah hR hK hit hbw hit2 hbw2 hWd hb hR1
        go_wp2_with (go_at_call 217; refine cS.out.mono ?_; rintro e W' ⟨rfl, hw⟩; obtain rfl := hw.symm)
        go_ret
        exact ⟨⟨_, rfl, by rw [hall.out]; simp⟩, F2.out⟩
    · have hnx : ∀ ty, (Instr.next (.pointer (some ⟨w.heap.size, 0, none⟩)) true ty).run Tryz.prog wr = _ := fun ty => Lib.run_next_end_at wr w.heap.size s pos ty hit hps
      have hall := Lib.hid (hah.all hps)
      have F2 := Lib.hid (Frm.of_below hbw [])
      clear hah
      go_wp2
      go_ret
      exact ⟨⟨_, rfl, by rw [hall.out]; rfl⟩, F2.out⟩
theorem IndexFunc_any (s : ByteArray) (w : World) : Calls Tryz.prog 229 #[.string s, .func (.func 217) #[] #[]] w (FindP s w) := by
  have HI := Lib.hid (indexFunc_any s w)
  go_enter Tryz.func229, Tryz.ntmps229
  go_wp2_with (go_at_call 239; refine HI.out.mono ?_; rintro e w' ⟨⟨k, rfl, hk⟩, f⟩; have HK := Lib.hid hk; have F := Lib.hid f; clear hk f)
  go_ret
  exact ⟨⟨k, rfl, HK.out⟩, F.out⟩
theorem ContainsFunc_any (s : ByteArray) (w : World) : Calls Tryz.prog 216 #[.string s, .func (.func 217) #[] #[]] w fun e w' => e = .returned (.bool (!(s.data.toList.all okB))) ∧ Frm [] w w' := by
  have HI := Lib.hid (IndexFunc_any s w)
  go_enter Tryz.func216, Tryz.ntmps216
  go_wp2_with (go_at_call 229; refine HI.out.mono ?_; rintro e w' ⟨⟨k, rfl, hk⟩, f⟩; have HK := Lib.hid hk; have F := Lib.hid f; clear hk f)
  go_ret
  exact ⟨by rw [← HK.out]; rfl, F.out⟩
set_option maxHeartbeats 2000000 in
theorem Part_any (s : ByteArray) (w : World) : Calls Tryz.prog 173 #[.string s] w fun e w' => e = .returned (.bool (partS s)) ∧ Frm [] w w' := by
  have HL := Lib.hid (fun c W => letter_any c W)
  have HC := Lib.hid (fun W => ContainsFunc_any s W)
  unfold partS
  cases hl : s.data.toList with
  | nil =>
    obtain rfl : s = ⟨#[]⟩ := by rw [← sB_data s, hl]; rfl
    rw [show partL [] = false from rfl]
    clear hl
    go_enter Tryz.func173, Tryz.ntmps173
    go_wp2
    go_ret
    exact ⟨rfl, Frm.refl _ _⟩
  | cons c r =>
    rw [part_cons]
    have hs : s.size = (c :: r).length := by rw [Lib.size_eq, hl]
    have h0 : 0 < s.size := by rw [hs]; simp
    have hne : (s.toList == []) = false := by rw [Lib.toList_data, hl]; rfl
    have hem : s.toList.isEmpty = false := by rw [Lib.toList_data, hl]; rfl
    have hc : s[0] = c := by
      have : s.data.toList[0]? = some s[0] := by rw [List.getElem?_eq_getElem (by rw [← Lib.size_eq]; exact h0)]; rfl
      rw [hl] at this; simp at this; exact this.symm
    rw [hl] at HC
    by_cases h20 : (c :: r).length ≤ 20
    · have h20s : ((s.size : Nat) : Int) ≤ 20 := by omega
      have hlt : letB c = (decide ((97 : Int) ≤ ((s[0]).toNat : Int)) && decide (((s[0]).toNat : Int) ≤ (122 : Int))) := by rw [hc]; unfold letB; congr 1 <;> (rw [decide_eq_decide]; omega)
      have HLT := Lib.hid (HL.out ((s[0]).toNat : Int))
      rw [← hlt] at HLT
      rw [show decide ((c :: r).length ≤ 20) = true by simpa using h20, Bool.true_and]
      have hlt3 := UInt8.toNat_lt (s[0])
      have hwr : wrap32 ((s[0]).toNat : Int) = ((s[0]).toNat : Int) := IntWalk.wrap32_in _ (by omega)
      generalize (c :: r).all okB = al at *
      generalize letB c = lc at *
      clear hl hlt hs hc h20 hlt3
      cases lc
      · go_enter Tryz.func173, Tryz.ntmps173
        go_wp2_with (first
          | (go_at_call 215; refine (HLT.out _).mono ?_; rintro e w1 ⟨rfl, hw⟩; obtain rfl := hw.symm)
          | (go_at_call 216; refine (HC.out _).mono ?_; rintro e w1 ⟨rfl, f⟩; have F := Lib.hid f; clear f))
        go_ret
        exact ⟨rfl, Frm.refl _ _⟩
      · go_enter Tryz.func173, Tryz.ntmps173
        go_wp2_with (first
          | (go_at_call 215; refine (HLT.out _).mono ?_; rintro e w1 ⟨rfl, hw⟩; obtain rfl := hw.symm)
          | (go_at_call 216; refine (HC.out _).mono ?_; rintro e w1 ⟨rfl, f⟩; have F := Lib.hid f; clear f))
        go_ret
        exact ⟨by simp, F.out⟩
    · have h20s : ¬ ((s.size : Nat) : Int) ≤ 20 := by omega
      rw [show decide ((c :: r).length ≤ 20) = false by simpa using h20]
      simp only [Bool.false_and]
      clear hl hs hc h20
      go_enter Tryz.func173, Tryz.ntmps173
      go_wp2
      go_ret
      exact ⟨rfl, Frm.refl _ _⟩
theorem Volume_any (s : ByteArray) (w : World) : Calls Tryz.prog 112 #[.string s] w fun e w' => e = .returned (.bool (partS s)) ∧ Frm [] w w' := by
  have HP := Lib.hid (Part_any s w)
  go_enter Tryz.func112, Tryz.ntmps112
  go_wp2_with (go_at_call 173; refine HP.out.mono ?_; rintro e w' ⟨rfl, f⟩; have F := Lib.hid f; clear f)
  go_ret
  exact ⟨rfl, F.out⟩
end Go.Proofs.YtljhanhipmnioaaGreat

namespace Go.Proofs.YtljhanhipmnioaaGreat
open Go.RowKit
set_option linter.unusedVariables false
set_option linter.unusedSimpArgs false
set_option maxRecDepth 100000

theorem call43 (s : ByteArray) (c : Int) (w : World) : (callFunc 251 #[.string s, .int .u8 c]).run Tryz.prog w = .ok (.value (.int .i64 (Lib.indexByte s.data.toList c.toNat.toUInt8))) w := by
  rw [run_callFunc_extern Tryz.func251 (by kernel_rfl) (by kernel_rfl) (by kernel_rfl) (e := Extern.BytealgIndexByte.indexByte) (by kernel_rfl), Lib.run_indexByteString]
  rfl
theorem IndexByte_any (s : ByteArray) (c : Int) (w : World) : Calls Tryz.prog 240 #[.string s, .int .u8 c] w fun e w' => e = .returned (.int .i64 (Lib.indexByte s.data.toList c.toNat.toUInt8)) ∧ w' = w := by
  have hc := call43 s c w
  go_enter Tryz.func240, Tryz.ntmps240
  go_wp2
  go_ret
  exact ⟨rfl, rfl⟩
set_option maxHeartbeats 1000000 in
theorem Index_at (s : ByteArray) (w : World) : Calls Tryz.prog 230 #[.string s, .string ⟨#[64]⟩] w fun e w' => e = .returned (.int .i64 (Lib.indexByte s.data.toList 64)) ∧ w' = w := by
  have HI := Lib.hid (fun W => IndexByte_any s 64 W)
  rw [show ((64 : Int).toNat.toUInt8) = 64 from rfl] at HI
  go_enter Tryz.func230, Tryz.ntmps230
  go_wp2_with (go_at_call 240; refine (HI.out _).mono ?_; rintro e w' ⟨rfl, hw⟩; obtain rfl := hw.symm)
  · have h : ([64] == s.toList) = true := by assumption
    go_ret
    refine ⟨?_, rfl⟩
    have e : s.data.toList = [64] := by rw [← Lib.toList_data]; exact (beq_iff_eq.1 h).symm
    rw [e]
    rfl
  · go_ret
    exact ⟨rfl, rfl⟩
theorem ext_front (s : ByteArray) (i : Nat) : s.extract 0 i = sB (s.data.toList.take i) := by rw [Lib.extract_eq]; simp [sB]
theorem ext_back (s : ByteArray) (i : Nat) : s.extract i s.size = sB (s.data.toList.drop i) := by
  rw [Lib.extract_eq, List.take_of_length_le (by rw [List.length_drop, Lib.size_eq]; exact Nat.le_refl _)]; rfl
def CutE (s : ByteArray) (e : Ending) : Prop := e = .returned (.tuple #[.string (cut1 s), .string (cut2 s), .bool (cutIs s)])
theorem cut_hit_s {s : ByteArray} {i : Nat} (h : cutL s.data.toList = (s.data.toList.take i, s.data.toList.drop (i + 1), true)) : cut1 s = s.extract 0 i ∧ cut2 s = s.extract (i + 1) s.size ∧ cutIs s = true := by
  unfold cut1 cut2 cutIs
  rw [h, ext_front, ext_back]
  exact ⟨rfl, rfl, rfl⟩
theorem cut_no_s {s : ByteArray} (h : cutL s.data.toList = (s.data.toList, [], false)) : cut1 s = s ∧ cut2 s = ⟨#[]⟩ ∧ cutIs s = false := by
  unfold cut1 cut2 cutIs
  rw [h]
  exact ⟨sB_data s, rfl, rfl⟩
set_option maxHeartbeats 2000000 in
theorem sCut_any (s : ByteArray) (hs : s.size ≤ 1000) (w : World) : Calls Tryz.prog 218 #[.string s, .string ⟨#[64]⟩] w fun e w' => CutE s e ∧ Frm [] w w' := by
  have HI := Lib.hid (fun W => Index_at s W)
  unfold CutE
  rcases cut_index s.data.toList with ⟨h1, h2⟩ | ⟨i, h1, h3, h2⟩
  · obtain ⟨e1, e2, e3⟩ := cut_no_s h2
    rw [e1, e2, e3]
    rw [h1] at HI
    clear h1 h2 e1 e2 e3
    go_enter Tryz.func218, Tryz.ntmps218
    go_wp2_with (go_at_call 230; refine (HI.out _).mono ?_; rintro e w' ⟨rfl, hw⟩; obtain rfl := hw.symm)
    go_ret3
    exact ⟨rfl, Frm.refl _ _⟩
  · obtain ⟨e1, e2, e3⟩ := cut_hit_s h2
    rw [e1, e2, e3]
    rw [h1] at HI
    rw [← Lib.size_eq] at h3
    have c1 : (0 : Int) ≤ (i : Int) := by omega
    have c2 : (i : Int) ≤ (s.size : Int) := by omega
    have c3 : (0 : Int) ≤ (i : Int) + 1 := by omega
    have c4 : (i : Int) + 1 ≤ (s.size : Int) := by omega
    have hs9 : (s.size : Int) ≤ 1000 := by omega
    clear h1 h2 e1 e2 e3 h3 hs
    go_enter Tryz.func218, Tryz.ntmps218
    go_wp2_with (go_at_call 230; refine (HI.out _).mono ?_; rintro e w' ⟨rfl, hw⟩; obtain rfl := hw.symm)
    go_big_region
    go_wp2
    go_ret3
    exact ⟨rfl, (Frm.refl _ _).drew⟩
theorem Cut_any (s : ByteArray) (hs : s.size ≤ 1000) (w : World) : Calls Tryz.prog 178 #[.string s, .string ⟨#[64]⟩] w fun e w' => CutE s e ∧ Frm [] w w' := by
  have HC := Lib.hid (sCut_any s hs w)
  unfold CutE at HC ⊢
  go_enter Tryz.func178, Tryz.ntmps178
  go_wp2_with (go_at_call 218; refine HC.out.mono ?_; rintro e w' ⟨rfl, f⟩; have F := Lib.hid f; clear f)
  go_ret3
  exact ⟨rfl, F.out⟩
set_option maxHeartbeats 4000000 in
theorem sClone_any (s : ByteArray) (hs : s.size ≤ 1000) (w : World) : Calls Tryz.prog 211 #[.string s] w fun e w' => e = .returned (.string s) ∧ Frm [] w w' := by
  by_cases h0 : s.size = 0
  · have hs : s = ⟨#[]⟩ := by
      apply ByteArray.ext
      exact Array.eq_empty_of_size_eq_zero h0
    subst hs
    go_enter Tryz.func211, Tryz.ntmps211
    go_wp2
    go_ret
    exact ⟨rfl, Frm.refl _ _⟩
  · obtain ⟨i0, hi, hz0, hz1, hz2⟩ : ∃ i0, Tryz.prog.info? 5 = some i0 ∧ i0.zero = some (.int .u8 0) ∧ i0.size = 1 ∧ i0.bytes = 1 := ⟨_, rfl, by kernel_rfl, by kernel_rfl, by kernel_rfl⟩
    have hinfo : (Tryz.prog.info? 5).map (·.size) = some 1 := by rw [hi]; simp [hz1]
    have hco : Tryz.prog.cellsOf 5 = 1 := by kernel_rfl
    obtain ⟨M, hM⟩ : ∃ M, M = madeCells (Value.int .u8 0).cells (((s.size : Nat) : Int).toNat * i0.size) := ⟨_, rfl⟩
    have hMs : M.size = s.size := by rw [hM, size_madeCells, hz1]; simp
    have hmk : ∀ W : World, (Instr.makeSlice 31 (.int .i64 (s.size : Int)) (.int .i64 (s.size : Int))).run Tryz.prog W = .ok (.slice (some ⟨W.heap.size, 0, none⟩) s.size s.size) (W.alloc (.cells M 5)) := fun W => by
      have h := run_make (P := Tryz.prog) W 31 5 i0 (.int .u8 0) Tryz.underlying31 hi hz0 .i64 .i64 (s.size : Int) (s.size : Int) (by omega) (by omega) (by rw [hz2]; omega) (by omega)
      rw [← hM] at h
      simpa using h
    clear hM
    have hcp := Lib.run_copy_row_string (P := Tryz.prog) (w.alloc (.cells M 5)) 31 9 3 5 w.heap.size 0 s.size s.size s M 5 Tryz.underlying31 hinfo (heap_alloc_new w _) (Nat.le_refl _) (by omega)
    obtain ⟨Y, hY⟩ : ∃ Y, Y = (M.toList.take 0 ++ Lib.byteCells s.data.toList ++ M.toList.drop (0 + s.size)).toArray := ⟨_, rfl⟩
    rw [← hY] at hcp
    have hYl : Y.toList = Lib.byteCells s.data.toList := by
      rw [hY, List.toList_toArray, List.take_zero, List.nil_append, List.drop_of_length_le (by rw [Array.length_toList]; omega), List.append_nil]
    have hYs : Y.size = s.size := by rw [← Array.length_toList, hYl, Lib.byteCells_length, ← Lib.size_eq]
    have hgY : ((w.alloc (.cells M 5)).setRow w.heap.size Y).heap[w.heap.size]? = some (.cells Y 5 (0, 0)) := setRow_heap _ _ M _ 5 (0, 0) (heap_alloc_new w _)
    have hne : s.data.toList ≠ [] := fun e => h0 (by rw [Lib.size_eq, e]; rfl)
    have hUS := Lib.run_unsafeString_row (P := Tryz.prog) ((w.alloc (.cells M 5)).setRow w.heap.size Y) 198 3 9 5 Tryz.underlying198 hco w.heap.size Y.size (by unfold World.shape?; rw [hgY]) s.data.toList hne (by rw [← Lib.size_eq]; omega) (by rw [← Lib.size_eq]; omega)
      (fun j x hx => Lib.cells_of_row hgY Y.size j _ (by rw [List.take_of_length_le (by rw [Array.length_toList]; exact Nat.le_refl _), hYl]; simp [Lib.byteCells, hx]))
    rw [← Lib.size_eq] at hUS
    clear hY
    go_enter Tryz.func211, Tryz.ntmps211
    go_wp2
    go_ret
    have hb1 : Below w.heap.size w (w.alloc (.cells M 5)) := (Below.refl _ w).alloc (Nat.le_refl _) _
    have hb2 : Below w.heap.size (w.alloc (.cells M 5)) ((w.alloc (.cells M 5)).setRow w.heap.size Y) := ⟨rfl, rfl, rfl, by simp, fun k hk => setRow_other _ _ _ _ (by omega)⟩
    exact ⟨rfl, Frm.of_below (Lib.below_freeze (hb1.trans hb2) (p := ⟨w.heap.size, 0, none⟩) (Nat.le_refl _) _) []⟩
theorem Clone_any (s : ByteArray) (hs : s.size ≤ 1000) (w : World) : Calls Tryz.prog 170 #[.string s] w fun e w' => e = .returned (.string s) ∧ Frm [] w w' := by
  have HC := Lib.hid (sClone_any s hs w)
  go_enter Tryz.func170, Tryz.ntmps170
  go_wp2_with (go_at_call 211; refine HC.out.mono ?_; rintro e w' ⟨rfl, f⟩; have F := Lib.hid f; clear f)
  go_ret
  exact ⟨rfl, F.out⟩
end Go.Proofs.YtljhanhipmnioaaGreat
