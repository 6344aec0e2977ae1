/-
  Plain facts and small laws for the answer of the document to Read. No conditions but those that each theorem names.
-/
import Derived.Test.YtjdejhgfkjeeiaaGreatDoorPY
namespace Go.Proofs.YtjdejhgfkjeeiaaGreatDoor.Pt
open Go.RowKit
set_option linter.unusedVariables false
set_option linter.unusedSimpArgs false
set_option maxRecDepth 100000

/-- A pointer and a fault are stored into the variables of the results. -/
theorem wpList_fin {ops : Array Oper} {rest : List Oper} {o3 o4 : Oper} {a : Act} {V : World} {Q : Exit → Act → World → Prop} (g3 : o3.guard = none) (g4 : o4.guard = none)
    (p q x y : Operand) (h3 : o3.op = .store 26 p x) (h4 : o4.op = .store 101 q y) {g1 g2 : Nat} {v0 v : Option Addr} {n0 c0 n cap : Nat} {b0 l0 b l e0 f0 e f : Int} {s0 s : List UInt8}
    (B1 : PB V g1 (.slice v0 n0 c0) b0 l0 s0) (hs0 : s0.length = 32) (B2 : V.heap[g2]? = some (.cells #[.int .i64 e0, .int .i64 f0] 101 (0, 0))) (hne : g1 ≠ g2) (hs : s.length = 32)
    (e1 : a.eval p = .pointer (some ⟨g1, 0, none⟩)) (e2 : a.eval x = pv (.slice v n cap) b l s)
    (e3 : (a.put o3.dst undef).eval q = .pointer (some ⟨g2, 0, none⟩)) (e4 : (a.put o3.dst undef).eval y = .agg #[.int .i64 e, .int .i64 f])
    (k : ∀ V', PB V' g1 (.slice v n cap) b l s → V'.heap[g2]? = some (.cells #[.int .i64 e, .int .i64 f] 101 (0, 0)) → Frm [g1, g2] V V' → wpList Tryz.prog ops Q rest ((a.put o3.dst undef).put o4.dst undef) V') :
    wpList Tryz.prog ops Q (o3 :: o4 :: rest) a V := by
  refine wpList_store_row g3 26 p x h3 g1 (pc (.slice v n cap) b l s).toArray e1 e2 26 _ B1 (by rw [i26]; simp only [pc_size, hs]) (by simp only [pc_size, hs, hs0]) (pc_one _ _ _) ?_
  have f1 : Frm [g1] V (V.setRow g1 (pc (.slice v n cap) b l s).toArray) := ⟨rfl, rfl, rfl, by simp [World.setRow], fun k hk hn => setRow_other _ _ k _ (by simpa using hn)⟩
  have h1 := setRow_heap V g1 _ (pc (.slice v n cap) b l s).toArray 26 (0, 0) B1
  have B2' := f1.heap B2 (by simpa using hne.symm)
  generalize V.setRow g1 (pc (.slice v n cap) b l s).toArray = V1 at *
  refine wpList_store_row g4 101 q y h4 g2 #[.int .i64 e, .int .i64 f] e3 e4 101 #[.int .i64 e0, .int .i64 f0] B2' (by rw [d40]; rfl) (by simp) (by simp [Value.oneCell']) ?_
  have f2 : Frm [g2] V1 (V1.setRow g2 #[.int .i64 e, .int .i64 f]) := ⟨rfl, rfl, rfl, by simp [World.setRow], fun k hk hn => setRow_other _ _ k _ (by simpa using hn)⟩
  exact k _ (f2.heap h1 (by simpa using hne)) (setRow_heap V1 g2 _ #[.int .i64 e, .int .i64 f] 101 (0, 0) B2') ((f1.mono (by simp)).trans f2 (by simp))
/-- The pointer that bytes say, of three addresses at most. -/
def rawPt3 (l : List UInt8) : Pt := ⟨(List.range (min (rawN l) 3)).map (rawAd l), beNat ((l.drop 10).take 4), beNat ((l.drop 14).take 1), l.drop 15⟩
theorem rawPt3_eq {l : List UInt8} (h : rawN l ≤ 3) : rawPt3 l = rawPt l := by simp [rawPt3, rawPt, Nat.min_eq_left h]
/-- Bytes are a pointer's just if what they say has them. -/
theorem good_raw3 {l : List UInt8} (hl : l.length = 47) : goodB l = (decide (chk (rawPt3 l) = 0) && (outB (rawPt3 l) == l)) := by
  have hs3 : (rawPt3 l).s.length = 32 := by simp [rawPt3, hl]
  have h1 : goodB l = true ↔ (chk (rawPt3 l) = 0 ∧ outB (rawPt3 l) = l) := by
    rw [goodB_iff]
    constructor
    · rintro ⟨_, h2, h3, h4⟩
      rw [rawPt3_eq h2]
      rcases chk_cases (rawPt l) with ⟨m, e, o⟩ | ⟨m, e, o⟩
      · exact ⟨e, by rw [o, h4]⟩
      · exact absurd h3 m
    · rintro ⟨h2, h3⟩
      rcases chk_cases (rawPt3 l) with ⟨m, e, o⟩ | ⟨m, e, o⟩
      · have hn : rawN l ≤ 3 := by
          rcases Nat.lt_or_ge 3 (rawN l) with hlt | hge
          · exfalso
            rw [o] at h3
            have h4 := congrArg (fun x => beNat (x.take 1)) h3
            have h5 : beNat ((enc (rawPt3 l)).take 1) = 3 := by
              have hlen : (rawPt3 l).ads.length = 3 := by simp [rawPt3]; omega
              unfold enc
              rw [ptB_cons]
              simp only [List.length_map, hlen, List.take_succ_cons, List.take_zero]
              exact be1_nat 3 (by omega)
            have h6 : beNat (l.take 1) = rawN l := rfl
            simp only [h5, h6] at h4
            omega
          · exact hge
        rw [rawPt3_eq hn] at m h3 o
        rw [o] at h3
        exact ⟨hl, hn, m, h3⟩
      · rw [e] at h2; cases h2
  rw [Bool.eq_iff_iff, h1]
  simp
theorem pb_sum {w : World} {g : Nat} {v : Value} {b l : Int} {s : List UInt8} (h : PB w g v b l s) (k : Nat) (x : UInt8) : PB (w.setCell ⟨g, 3 + k, none⟩ (.int .u8 x.toNat)) g v b l (s.set k x) := by
  unfold PB at *
  rw [heap_setCell_same _ h]
  congr 2
  apply Array.ext'
  simp only [Array.toList_setIfInBounds, pc]
  rw [show 3 + k = k + 1 + 1 + 1 by omega, List.set_cons_succ, List.set_cons_succ, List.set_cons_succ]
  simp [bvs, bv, List.map_set]
theorem be1_get (l : List UInt8) (i : Nat) (h : i < l.length) : beNat ((l.drop i).take 1) = l[i].toNat := by
  rw [List.drop_eq_getElem_cons h]
  simp only [List.take_succ_cons, List.take_zero, beNat, List.foldl_cons, List.foldl_nil]
  omega
theorem be2_get (l : List UInt8) (i : Nat) (h : i + 1 < l.length) : beNat ((l.drop i).take 2) = l[i].toNat * 256 + l[i + 1].toNat := by
  rw [List.drop_eq_getElem_cons (by omega), List.drop_eq_getElem_cons (by omega)]
  simp only [List.take_succ_cons, List.take_zero, beNat, List.foldl_cons, List.foldl_nil]
  omega
theorem be4_get (l : List UInt8) (i : Nat) (h : i + 3 < l.length) : beNat ((l.drop i).take 4) = l[i].toNat * 16777216 + l[i + 1].toNat * 65536 + l[i + 2].toNat * 256 + l[i + 3].toNat := by
  rw [List.drop_eq_getElem_cons (by omega), List.drop_eq_getElem_cons (by omega), List.drop_eq_getElem_cons (by omega), List.drop_eq_getElem_cons (by omega)]
  change (((0 * 256 + l[i].toNat) * 256 + l[i + 1].toNat) * 256 + l[i + 2].toNat) * 256 + l[i + 3].toNat = _
  omega
end Go.Proofs.YtjdejhgfkjeeiaaGreatDoor.Pt
