/-
  Contract of long; Pick at large bounds. No conditions but those that each theorem names. Plain facts of those that come first, and how often; a list pushed to, appended to itself. No conditions but those that each theorem names. The walk of RingOrder. No conditions but those that each theorem names.
-/
import Derived.Test.YtjdejhgfkjeeiaaGreatDoorMA4
import Derived.Test.YtjdejhgfkjeeiaaGreatDoorMC8
namespace Go.Proofs.YtjdejhgfkjeeiaaGreatDoor
open Go.RowKit
set_option linter.unusedVariables false
set_option linter.unusedSimpArgs false
set_option maxRecDepth 100000

open Pt (Pt may enc readPt readE zeroPt pc pv PtV SlA OwnA)
open Kr (OwnE SlE Enco RowTys)
def SmallL (sl : List (List UInt8)) (l : List Ub) : Prop := (∀ b ∈ sl, b.length ≤ 600) ∧ (∀ u ∈ l, u.root.ads.length ≤ 20) ∧ sl.length ≤ 8 ∧ l.length ≤ 20
def LongP (sl : List (List UInt8)) (l : List Ub) (e : Ending) : Prop := e = .returned (.bool true) ∨ (e = .returned (.bool false) ∧ SmallL sl l)
theorem Us.max {w : World} {v : Value} {l : List Ub} (h : Us w v l) : (l.length : Int) ≤ 9223372036854775807 := by
  obtain ⟨rs, sp, hs, hl, _⟩ := h
  obtain ⟨a, cap, _, h1, h2⟩ := hs.form
  simp only [maxLen] at h2
  omega
theorem Ls.max {w : World} {v : Value} {l : List (List UInt8)} (h : Ls w v l) : (l.length : Int) ≤ 9223372036854775807 := by
  obtain ⟨rs, sp, hs, hl, _⟩ := h
  obtain ⟨a, cap, _, h1, h2⟩ := hs.form
  simp only [maxLen] at h2
  omega
set_option maxHeartbeats 4000000 in
theorem long_any (x v : Value) (sl : List (List UInt8)) (l : List Ub) (w : World) (hx : Ls w x sl) (hv : Us w v l) : Calls Tryz.prog 33 #[x, v] w fun e w' => LongP sl l e ∧ w' = w := by
  obtain ⟨a, cap, rfl⟩ := hx.form
  obtain ⟨a2, cap2, rfl⟩ := hv.form
  have HX := Lib.hid hx
  have HV := Lib.hid hv
  have hm1 := hx.max
  have hm2 := hv.max
  clear hx hv
  go_enter Tryz.func33, Tryz.ntmps33
  go_wp2_with fail
  go_loopw [5] (fun cv wr => wr = w ∧ ∃ k : Nat, k ≤ sl.length ∧ cv = .int .i64 k ∧ ∀ i (h : i < sl.length), i < k → (sl[i]).length ≤ 600) (fun cv _ => sl.length - (intOf cv).toNat)
  case atStart => exact ⟨rfl, 0, by omega, rfl, fun i h hi => by omega⟩
  case round =>
    obtain ⟨hwr, k, hk, rfl, hall⟩ := hrel
    subst hwr
    by_cases hlt : k < sl.length
    · have hlt' : (k : Int) < (sl.length : Int) := by omega
      obtain ⟨b, off, cp, e⟩ := HX.out.at (by omega)
      injection e with e1 e2 e3
      subst e1; subst e3
      obtain ⟨c, s, hc, hS⟩ := HX.out.cell k hlt
      obtain ⟨ca, cc, rfl, _, _⟩ := hS.form
      have hwk : IntKind.i64.wrap ((k : Int) + 1) = (k : Int) + 1 := IntWalk.i64_in _ (by omega)
      by_cases hbig : 600 < (sl[k]).length
      · have hbig' : (600 : Int) < ((sl[k]).length : Int) := by omega
        generalize (sl[k]).length = n at *
        clear hall hS
        go_wp2_with fail
        exact bodyPost_ret (v := .bool true) (by simp [results, Tryz.results33, go_sem]) rfl ⟨.inl rfl, rfl⟩
      · have hbig' : ¬ (600 : Int) < ((sl[k]).length : Int) := by omega
        have HN := Lib.hid (show ∀ i (h : i < sl.length), i < k + 1 → (sl[i]).length ≤ 600 from fun i h hi => by
          rcases Nat.lt_or_ge i k with h2 | h2
          · exact hall i h h2
          · obtain rfl : i = k := by omega
            omega)
        generalize (sl[k]).length = n at *
        clear hall hS hbig
        go_wp2_with fail
        go_roundw
        case rel => exact ⟨by first | trivial | rfl, k + 1, by omega, rfl, HN.out⟩
        case measure => simp [intOf]; omega
    · obtain rfl : k = sl.length := by omega
      have H1 := Lib.hid (show ∀ b ∈ sl, b.length ≤ 600 from fun b hb => by
        obtain ⟨i, hi, rfl⟩ := List.getElem_of_mem hb
        exact hall i hi hi)
      clear hall
      go_wp2_with fail
      go_loopw [6] (fun cv wr2 => wr2 = wr ∧ ∃ k : Nat, k ≤ l.length ∧ cv = .int .i64 k ∧ ∀ i (h : i < l.length), i < k → (l[i]).root.ads.length ≤ 20) (fun cv _ => l.length - (intOf cv).toNat)
      case atStart => exact ⟨rfl, 0, by omega, rfl, fun i h hi => by omega⟩
      case round =>
        obtain ⟨hwr, k, hk, rfl, hall⟩ := hrel
        subst hwr
        by_cases hlt : k < l.length
        · have hlt' : (k : Int) < (l.length : Int) := by omega
          obtain ⟨b2, off2, cp2, e⟩ := HV.out.at (by omega)
          injection e with e1 e2 e3
          subst e1; subst e3
          obtain ⟨xa, xc, _, _, _, hc⟩ := HV.out.load k hlt
          have hwk : IntKind.i64.wrap ((k : Int) + 1) = (k : Int) + 1 := IntWalk.i64_in _ (by omega)
          by_cases hbig : 20 < (l[k]).root.ads.length
          · have hbig' : (20 : Int) < ((l[k]).root.ads.length : Int) := by omega
            generalize (l[k]).root.ads.length = n at *
            clear hall
            go_wp2_with fail
            exact bodyPost_ret (v := .bool true) (by simp [results, Tryz.results33, go_sem]) rfl ⟨.inl rfl, rfl⟩
          · have hbig' : ¬ (20 : Int) < ((l[k]).root.ads.length : Int) := by omega
            have HN := Lib.hid (show ∀ i (h : i < l.length), i < k + 1 → (l[i]).root.ads.length ≤ 20 from fun i h hi => by
              rcases Nat.lt_or_ge i k with h2 | h2
              · exact hall i h h2
              · obtain rfl : i = k := by omega
                omega)
            generalize (l[k]).root.ads.length = n at *
            clear hall hbig
            go_wp2_with fail
            go_roundw
            case rel => exact ⟨by first | trivial | rfl, k + 1, by omega, rfl, HN.out⟩
            case measure => simp [intOf]; omega
        · obtain rfl : k = l.length := by omega
          have H2 := Lib.hid (show ∀ u ∈ l, u.root.ads.length ≤ 20 from fun u hu => by
            obtain ⟨i, hi, rfl⟩ := List.getElem_of_mem hu
            exact hall i hi hi)
          clear hall
          by_cases h8 : 8 < sl.length
          · have h8' : (8 : Int) < (sl.length : Int) := by omega
            clear h8
            go_wp2_with fail
            exact bodyPost_ret (v := .bool true) (by simp [results, Tryz.results33, go_sem]) rfl ⟨.inl rfl, rfl⟩
          · have h8' : ¬ (8 : Int) < (sl.length : Int) := by omega
            by_cases h20 : 20 < l.length
            · have h20' : (20 : Int) < (l.length : Int) := by omega
              clear h8 h20
              go_wp2_with fail
              exact bodyPost_ret (v := .bool true) (by simp [results, Tryz.results33, go_sem]) rfl ⟨.inl rfl, rfl⟩
            · have h20' : ¬ (20 : Int) < (l.length : Int) := by omega
              have HH := Lib.hid (And.intro h8 h20)
              clear h8 h20
              go_wp2_with fail
              exact bodyPost_ret (v := .bool false) (by simp [results, Tryz.results33, go_sem]) rfl ⟨.inr ⟨rfl, H1.out, H2.out, by have := HH.out; omega, by have := HH.out; omega⟩, rfl⟩
end Go.Proofs.YtjdejhgfkjeeiaaGreatDoor

namespace Go.Proofs.YtjdejhgfkjeeiaaGreatDoor
open Go.RowKit
set_option linter.unusedVariables false
set_option linter.unusedSimpArgs false
set_option maxRecDepth 100000

open Pt (Pt may enc readPt readE zeroPt pc pv PtV SlA OwnA)
open Kr (OwnE SlE Enco RowTys)
theorem best_step {l : List Ub} (hl : AllU l) {i : Nat} (h : i + 1 < (bestU l).length) : ltE (entU ((bestU l)[i]'(by omega))) (entU (bestU l)[i + 1]) = true := by
  have hr := (best_bestU hl).ris
  have := (List.pairwise_iff_getElem.1 hr) i (i + 1) (by simp; omega) (by simpa using h) (by omega)
  simpa using this
theorem step_txg {x y : Ub} (h : ltE (entU x) (entU y) = true) : ¬ x.txg < y.txg ∧ sameU y x = false := by
  constructor
  · rcases ltE_iff.1 h with h | ⟨h, _⟩
    · have : y.txg < x.txg := h; omega
    · have : x.txg = y.txg := h; omega
  · rw [Bool.eq_false_iff]
    intro hs
    rw [sameU_iff.1 hs, ltE_irrefl] at h
    cases h
def cntU (B : List Ub) (u : Ub) : Nat := (B.filter (fun x => sameU x u)).length
theorem cntU_take {B : List Ub} {u : Ub} {k : Nat} (h : k < B.length) : cntU (B.take (k + 1)) u = cntU (B.take k) u + (if sameU B[k] u = true then 1 else 0) := by
  unfold cntU
  rw [List.take_succ_eq_append_getElem h, List.filter_append, List.length_append]
  congr 1
  by_cases hs : sameU B[k] u = true
  · simp [hs]
  · simp [hs]
theorem cnt_of {u : Ub} : ∀ {B : List Ub}, B.Pairwise (fun x y => x ≠ y) → (u ∈ B → cntU B u = 1) ∧ (u ∉ B → cntU B u = 0)
  | [], _ => ⟨fun h => (by cases h), fun _ => rfl⟩
  | b :: r, hp => by
    obtain ⟨h1, h2⟩ := List.pairwise_cons.1 hp
    obtain ⟨i1, i2⟩ := cnt_of (u := u) h2
    have hc : cntU (b :: r) u = (if sameU b u = true then 1 else 0) + cntU r u := by
      unfold cntU
      by_cases hs : sameU b u = true
      · simp [hs]; omega
      · simp [hs]
    by_cases hb : b = u
    · subst hb
      have hn : b ∉ r := fun hm => h1 b hm rfl
      rw [hc, if_pos (sameU_iff.2 rfl), i2 hn]
      exact ⟨fun _ => rfl, fun h => absurd (List.mem_cons_self ..) h⟩
    · have hs : ¬ sameU b u = true := fun h => hb (sameU_iff.1 h)
      rw [hc, if_neg hs, Nat.zero_add]
      exact ⟨fun h => i1 (by rcases List.mem_cons.1 h with e | e; exact absurd e.symm hb; exact e), fun h => i2 (fun hm => h (List.mem_cons_of_mem _ hm))⟩
theorem best_count {l : List Ub} (hl : AllU l) {u : Ub} (hu : u ∈ l) : cntU (bestU l) u = if mayUB u = true then 1 else 0 := by
  have hb := best_bestU hl
  have hp : (bestU l).Pairwise (fun x y => x ≠ y) := by
    have := List.pairwise_map.1 hb.ris
    exact this.imp fun h e => by rw [e, ltE_irrefl] at h; cases h
  obtain ⟨h1, h2⟩ := cnt_of (u := u) hp
  by_cases hm : mayUB u = true
  · rw [if_pos hm]; exact h1 ((hb.mem u).2 ⟨hu, mayUB_iff.1 hm⟩)
  · rw [if_neg hm]; exact h2 (fun h => hm (mayUB_iff.2 ((hb.mem u).1 h).2))
theorem cntU_le (B : List Ub) (u : Ub) : cntU B u ≤ B.length := List.length_filter_le _ _
/-- An element, loaded whole in whatever later world. -/
theorem Us.loadw {w : World} {b off n cap : Nat} {l : List Ub} (h : Us w (.slice (some ⟨b, off, none⟩) n cap) l) (i : Nat) (hi : i < l.length) :
    ∃ a c, (∀ z, Frm [] w z → (Instr.loadAt 28 (.pointer (some ⟨b, off + i * 69, none⟩))).run Tryz.prog z = .ok (uv (.slice a (l[i]).root.ads.length c) l[i]) z) ∧ UbV w (uv (.slice a (l[i]).root.ads.length c) l[i]) l[i] ∧ ∀ z, Frm [] w z → z.cell? ⟨b, off + i * 69, none⟩ = some (.int .i64 (l[i]).txg) := by
  obtain ⟨rs, sp, hs, hl, hr⟩ := h
  have hi2 : i < rs.length := by omega
  obtain ⟨a, c, s, e, hA, hw⟩ := hr i rs[i] l[i] (List.getElem?_eq_getElem _) (List.getElem?_eq_getElem _)
  have hc : ∀ z, Frm [] w z → ∀ j u, (uc (.slice a (l[i]).root.ads.length c) l[i])[j]? = some u → z.cell? ⟨b, off + i * 69 + j, none⟩ = some u := fun z fz j u hu => by
    have := SlE.cell encR (hs.keep0 fz) i hi2 j (u := u) (by rw [show eR rs[i] = (rs[i]).1 from rfl, e]; exact hu)
    rw [Nat.add_assoc]; exact this
  refine ⟨a, c, fun z fz => ?_, ⟨a, c, s, rfl, hA, hw⟩, fun z fz => hc z fz 0 _ rfl⟩
  obtain ⟨d, h1, h2⟩ := Option.map_eq_some_iff.1 d28
  exact run_loadAt_mid z b (off + i * 69) 28 _ d (fun j u hu => hc z fz j u hu) h1 h2 (by rw [i28, uc_length hw])
/-- Rows that are uberblocks, in a world. -/
def RowsV (w : World) (rs : List RowT) (m : List Ub) : Prop := rs.length = m.length ∧ ∀ (i : Nat) r u, rs[i]? = some r → m[i]? = some u → RowV w r u
theorem RowsV.nil (w : World) : RowsV w [] [] := ⟨rfl, fun i r u h => by simp at h⟩
theorem RowsV.push {w : World} {rs : List RowT} {m : List Ub} {x : RowT} {u : Ub} (h : RowsV w rs m) (hx : RowV w x u) : RowsV w (rs ++ [x]) (m ++ [u]) := by
  refine ⟨by simp [h.1], fun i r v h1 h2 => ?_⟩
  rcases Nat.lt_or_ge i rs.length with hi | hi
  · rw [List.getElem?_append_left hi] at h1
    rw [List.getElem?_append_left (by have := h.1; omega)] at h2
    exact h.2 i r v h1 h2
  · rw [List.getElem?_append_right hi] at h1
    rw [List.getElem?_append_right (by have := h.1; omega), ← h.1] at h2
    rcases Nat.eq_or_lt_of_le hi with e | e
    · subst e; simp at h1 h2; subst h1; subst h2; exact hx
    · rw [List.getElem?_eq_none (by simp; omega)] at h1; cases h1
theorem RowsV.app {w : World} {rs rs2 : List RowT} {m m2 : List Ub} (h : RowsV w rs m) (h2 : RowsV w rs2 m2) : RowsV w (rs ++ rs2) (m ++ m2) := by
  refine ⟨by simp [h.1, h2.1], fun i r v k1 k2 => ?_⟩
  rcases Nat.lt_or_ge i rs.length with hi | hi
  · rw [List.getElem?_append_left hi] at k1
    rw [List.getElem?_append_left (by have := h.1; omega)] at k2
    exact h.2 i r v k1 k2
  · rw [List.getElem?_append_right hi] at k1
    rw [List.getElem?_append_right (by have := h.1; omega), ← h.1] at k2
    exact h2.2 _ r v k1 k2
theorem RowsV.us {w0 w : World} {v : Value} {rs : List RowT} {m : List Ub} {sp : List Value} (h : RowsV w0 rs m) (f : Frm [] w0 w) (ho : SlE eR 69 w v rs sp) : Us w v m :=
  ⟨rs, sp, ho, h.1, fun i r u h1 h2 => (h.2 i r u h1 h2).keep0 f⟩
theorem wpList_app_src {ops : Array Oper} {rest : List Oper} {o : Oper} {a : Act} {Q : Exit → Act → World → Prop} {w : World} {v y : Value} {l m : List RowT} {sp : List Value}
    (hO : OwnE eR 69 28 w v l sp) (hS : Src Tryz.prog 69 30 y m.length (Kr.flt eR m) w) (hb : l.length + m.length ≤ 1000000000)
    (hg : o.guard = none) (s x : Operand) (hop : o.op = Op.call { callee := Callee.builtin Builtin.append, args := #[s, x], argTypes := #[30, 30] }) (hs : a.eval s = v) (hx : a.eval x = y)
    (kk : ∀ v' w' sp', OwnE eR 69 28 w' v' (l ++ m) sp' → Frm (blk v) w w' → (blk v' = blk v ∨ (blk v' = [w.heap.size] ∧ Frm [] w w')) → wpList Tryz.prog ops Q rest (a.put o.dst v') w') :
    wpList Tryz.prog ops Q (o :: rest) a w := by
  obtain ⟨v', w', sp', h1, h2, h3, h4⟩ := Kr.append_e_src (x := y) encR tysU o.type hO hS hb (by decide)
  refine wpList_val (w' := w') hg ?_ (kk v' w' sp' h2 h3 h4)
  simp [execOp, hop, resolve, invoke, builtin, hs, hx, h1, Result.andThen]
/-- A list that was appended to, read as it was. -/
theorem src_after {w w' : World} {v v' : Value} {l m : List RowT} {sp sp' : List Value} (hO : OwnE eR 69 28 w v l sp) (h' : OwnE eR 69 28 w' v' (l ++ m) sp') (hc : blk v' = blk v ∨ (blk v' = [w.heap.size] ∧ Frm [] w w')) : Src Tryz.prog 69 30 v l.length (Kr.flt eR l) w' := by
  rcases hc with hc | ⟨_, f⟩
  · have hO2 := hO
    obtain ⟨h1, ⟨rfl, h2, h3⟩ | ⟨g, cap, rfl, h3, h4, h5, h6⟩⟩ := hO2
    · obtain rfl : l = [] := List.eq_nil_of_length_eq_zero h2
      exact Src.ofNil w' Tryz.underlying30 0
    · obtain ⟨k1, ⟨k2, _, _⟩ | ⟨g', cap', k2, k3, k4, k5, k6⟩⟩ := h'
      · rw [k2] at hc; simp [blk] at hc
      · rw [k2] at hc
        simp [blk] at hc
        subst hc
        refine Src.ofSlice w' Tryz.underlying30 _ l.length cap (Kr.flt eR l) (Kr.flt_length encR l) (fun j u hu => ?_) (Kr.flt_oneCell encR l)
        rw [add_plain, Nat.zero_add, cell_of_heap k6, List.getElem?_toArray, Kr.flt_append, List.append_assoc, List.getElem?_append_left]
        · exact hu
        · rcases Nat.lt_or_ge j (Kr.flt eR l).length with h | h
          · exact h
          · rw [List.getElem?_eq_none h] at hu; cases hu
  · exact Kr.SlE.src encR Tryz.underlying30 (OwnE.sl (hO.keep0 f))
/-- One more behind a list of the call's own. -/
theorem wpList_push {ops : Array Oper} {rest : List Oper} {o1 o2 : Oper} {a : Act} {Q : Exit → Act → World → Prop} {w : World} {v : Value} {rs : List RowT} {sp : List Value} {x : RowT} (h : OwnE eR 69 28 w v rs sp) (hb : rs.length ≤ 1000000)
    (g1 : o1.guard = none) (g2 : o2.guard = none) (p s y : Operand) (d : Nat) (hd : o1.dst = some d) (h1 : o1.op = .buildSlice 30 1 #[(0, p)]) (h2 : o2.op = Op.call { callee := Callee.builtin Builtin.append, args := #[s, y], argTypes := #[30, 30] })
    (ep : a.eval p = .agg x.1.toArray) (es : (a.put (some d) (.slice (some ⟨w.heap.size, 0, none⟩) 1 1)).eval s = v) (ey : (a.put (some d) (.slice (some ⟨w.heap.size, 0, none⟩) 1 1)).eval y = .slice (some ⟨w.heap.size, 0, none⟩) 1 1)
    (kk : ∀ v' w' sp', OwnE eR 69 28 w' v' (rs ++ [x]) sp' → Frm (blk v) w w' → (∀ i ∈ blk v', i ∈ blk v ∨ w.heap.size ≤ i) → wpList Tryz.prog ops Q rest ((a.put (some d) (.slice (some ⟨w.heap.size, 0, none⟩) 1 1)).put o2.dst v') w') :
    wpList Tryz.prog ops Q (o1 :: o2 :: rest) a w := by
  refine Great.wpList_buildSliceTo g1 30 28 1 #[(0, p)] h1 w.heap.size rfl (some d) hd Tryz.underlying30 x.1.toArray (by simp only [List.map_toArray, List.map_cons, List.map_nil, ep]; exact built28 x.2.1) ?_
  have f1 : Frm [] w (w.alloc (.cells x.1.toArray 28)) := (Frm.refl [] w).alloc _
  have hS : SlE eR 69 (w.alloc (.cells x.1.toArray 28)) (.slice (some ⟨w.heap.size, 0, none⟩) 1 1) [x] [] := Kr.SlE.of_block (T := 28) encR (by rw [Kr.flt_one]; exact heap_alloc_new _ _) rfl (by decide)
  refine Kr.wpList_append_e encR tysU (h.keep0 f1) hS (by simp; omega) (by decide) g2 s y h2 es ey ?_
  intro a2 cap2 w2 sp2 o2' f2 n2
  exact kk _ w2 sp2 o2' ((f1.mono (by simp)).trans f2 (fun i hi => .inl hi)) (fun i hi => by
    rcases n2 i hi with h | h
    · exact .inl h
    · simp at h; exact .inr (by omega))
end Go.Proofs.YtjdejhgfkjeeiaaGreatDoor

namespace Go.Proofs.YtjdejhgfkjeeiaaGreatDoor
open Go.RowKit
set_option linter.unusedVariables false
set_option linter.unusedSimpArgs false
set_option maxRecDepth 100000

open Pt (Pt may enc readPt readE zeroPt pc pv PtV SlA OwnA)
open Kr (OwnE SlE Enco RowTys)
theorem Ls.nil0 (w : World) : Ls w (.slice none 0 0) [] := ⟨[], [], SlE.nil _ _ _, rfl, fun i r u h => by simp at h⟩
theorem fits_best0 {l : List Ub} (hl : AllU l) (h : Fits l) : ∀ u ∈ bestU l, u.root.ads.length ≤ 1000000 := fun u hu => h.2 u (((best_bestU hl).mem u).1 hu).1
theorem bestU_le (l : List Ub) : (bestU l).length ≤ l.length := by
  have hh : ∀ (m B : List Ub), (m.foldl (fun B u => insU u B) B).length ≤ B.length + m.length := by
    intro m
    induction m with
    | nil => intro B; simp
    | cons u r ih =>
      intro B
      have h1 : (insU u B).length ≤ B.length + 1 := by
        clear ih
        induction B with
        | nil => exact Nat.le_refl _
        | cons b q ih2 =>
          unfold insU
          split
          · simp only [List.length_cons]; omega
          · split
            · simp only [List.length_cons]; omega
            · simp only [List.length_cons]; omega
      have := ih (insU u B)
      simp only [List.foldl_cons, List.length_cons]
      omega
  have h1 := hh (l.filter mayUB) []
  have h2 := List.length_filter_le mayUB l
  unfold bestU
  simp at h1
  omega
/-- The two heaps, one behind the other. -/
def FbRel (l : List Ub) (w : World) (fv bkv cv : Value) (wr : World) : Prop :=
  ∃ (i : Nat) (rF rB : List RowT) (mF mB : List Ub) (spF spB : List Value), cv = .int .i64 i ∧ i ≤ l.length ∧ OwnE eR 69 28 wr fv rF spF ∧ OwnE eR 69 28 wr bkv rB spB ∧ (∀ k ∈ blk fv, k ∉ blk bkv) ∧
    (∀ k ∈ blk fv, w.heap.size ≤ k) ∧ (∀ k ∈ blk bkv, w.heap.size ≤ k) ∧ RowsV w rF mF ∧ RowsV w rB mB ∧ Frm [] w wr ∧ (∀ x, x ∈ l.take i ↔ x ∈ mF ∨ x ∈ mB) ∧ mF.length + mB.length = i
theorem us_row {w : World} {a : Option Addr} {c : Nat} {u : Ub} (h : UbV w (uv (.slice a u.root.ads.length c) u) u) : ∃ x : RowT, uv (.slice a u.root.ads.length c) u = .agg x.1.toArray ∧ RowV w x u := by
  obtain ⟨a2, c2, sp, e, hA, hw⟩ := h
  exact ⟨rowU (.slice a2 u.root.ads.length c2) rfl u hw, e, a2, c2, sp, rfl, hA, hw⟩
set_option maxHeartbeats 16000000 in
theorem order_law (v : Value) (l : List Ub) (bv : Value) (bs : List Bool) (bsp : List Value) {w : World} (hv : Us w v l) (hb : SlE eBo 1 w bv bs bsp) {s0 s1 s2 : Addr} (hs : Sens w s0 s1 s2) (hG : Hs.Glob w) : Calls Tryz.prog 13 #[v, bv] w (YesR w) := by
  obtain ⟨a, cap, rfl⟩ := hv.form
  obtain ⟨ab, capb, rfl, hb1, hb2⟩ := hb.form
  have HV := Lib.hid hv
  have HBV := Lib.hid hb
  have HWF := Lib.hid hv.wf
  have HAW := Lib.hid (awakeR_any w hs hG)
  have HBE := Lib.hid (fun (c : Value) (m : List Ub) W (f : Frm [] w W) (h : Us W c m) (hf : Fits m) => Best_any c m W h hf (hs.keep0 f) (hG.keep f (by simp)))
  have HLG := Lib.hid (fun W (f : Frm [] w W) => long_any (.slice none 0 0) (.slice a l.length cap) [] l W (Ls.nil0 W) (hv.keep0 f))
  have hbm : (bs.length : Int) ≤ 9223372036854775807 := by simp only [maxLen] at hb2; omega
  unfold YesR at HAW
  unfold BestP at HBE
  clear hv hb hs hG hb1 hb2
  go_enter Tryz.func13, Tryz.ntmps13
  go_wp2_with (first
    | (go_at_call 34; refine HAW.out.mono ?_; rintro r w1 ⟨rfl, f1⟩; have F1 := Lib.hid f1; clear f1)
    | (go_at_call 33; refine (HLG.out _ F1.out).mono ?_; rintro r w2 ⟨hr, hw1⟩; obtain rfl := hw1.symm; unfold LongP at hr; rcases hr with rfl | ⟨rfl, hsm⟩))
  · go_ret
    exact ⟨rfl, F1.out⟩
  · obtain ⟨_, h20, _, hl20⟩ := hsm
    have HF20 := Lib.hid h20
    have hl9 : (l.length : Int) ≤ 20 := by omega
    have HL20 := Lib.hid hl20
    have HV1 := Lib.hid (HV.out.keep0 F1.out)
    have HBV1 := Lib.hid (HBV.out.keep0 F1.out)
    clear h20 hl20 HLG HV HBV
    go_wp2_with fail
    go_loopw [6, 7, 8] (FbRel l w1) (fun _ _ cv _ => l.length - (intOf cv).toNat)
    case atStart => exact ⟨0, [], [], [], [], [], [], rfl, by omega, OwnE.nil _ _ _ _, OwnE.nil _ _ _ _, by simp [blk], by simp [blk], by simp [blk], RowsV.nil _, RowsV.nil _, Frm.refl _ _, by simp, rfl⟩
    case round =>
      obtain ⟨i, rF, rB, mF, mB, spF, spB, rfl, hi, oF, oB, dj, bF, bB, vF, vB, f, hmem, hcnt⟩ := hrel
      by_cases hlt : i < l.length
      · have hlt' : (i : Int) < (l.length : Int) := by omega
        have hi9 : (i : Int) ≤ 20 := by omega
        obtain ⟨b, off, cp, e⟩ := HV1.out.at (by omega)
        injection e with e1 e2 e3
        subst e1; subst e3
        obtain ⟨xa, xc, ldz, hu, hcx⟩ := HV1.out.loadw i hlt
        have ld := ldz _ f
        obtain ⟨x0, hx0, rv0⟩ := us_row hu
        rw [hx0] at ld
        have LD := Lib.hid ld
        have HTK := Lib.hid (show l.take (i + 1) = l.take i ++ [l[i]] from List.take_succ_eq_append_getElem hlt)
        have HPF := Lib.hid (show ∀ v' w' sp', OwnE eR 69 28 w' v' (rF ++ [x0]) sp' → Frm (blk u6) wr w' → (∀ j ∈ blk v', j ∈ blk u6 ∨ wr.heap.size ≤ j) → FbRel l w1 v' u7 (.int .i64 ((i : Int) + 1)) w' from fun v' w' sp' o' f' n' => ⟨i + 1, rF ++ [x0], rB, mF ++ [l[i]], mB, sp', spB, by go_num, hlt, o', oB.keep f' (fun j hj hm => dj j hm hj), fun j hj hm => by
            rcases n' j hj with q | q
            · exact dj j q hm
            · have := oB.lt j hm; omega,
          fun j hj => by
            rcases n' j hj with q | q
            · exact bF j q
            · have := f.size; omega,
          bB, vF.push rv0, vB, f.trans f' (fun j hj => .inr (bF j hj)), fun x => by
            rw [HTK.out]; simp only [List.mem_append, List.mem_singleton, hmem]
            constructor
            · rintro ((q | q) | q) <;> simp [q]
            · rintro ((q | q) | q) <;> simp [q], by simp; omega⟩)
        have HPB := Lib.hid (show ∀ v' w' sp', OwnE eR 69 28 w' v' (rB ++ [x0]) sp' → Frm (blk u7) wr w' → (∀ j ∈ blk v', j ∈ blk u7 ∨ wr.heap.size ≤ j) → FbRel l w1 u6 v' (.int .i64 ((i : Int) + 1)) w' from fun v' w' sp' o' f' n' => ⟨i + 1, rF, rB ++ [x0], mF, mB ++ [l[i]], spF, sp', by go_num, hlt, oF.keep f' (fun j hj hm => dj j hj hm), o', fun j hj hm => by
            rcases n' j hm with q | q
            · exact dj j hj q
            · have := oF.lt j hj; omega,
          bF, fun j hj => by
            rcases n' j hj with q | q
            · exact bB j q
            · have := f.size; omega,
          vF, vB.push rv0, f.trans f' (fun j hj => .inr (bB j hj)), fun x => by
            rw [HTK.out]; simp only [List.mem_append, List.mem_singleton, hmem]
            constructor
            · rintro ((q | q) | q) <;> simp [q]
            · rintro (q | (q | q)) <;> simp [q], by simp; omega⟩)
        have HBF := Lib.hid (show rF.length ≤ 1000000 by have := vF.1; omega)
        have HBB := Lib.hid (show rB.length ≤ 1000000 by have := vB.1; omega)
        have OF := Lib.hid oF
        have OB := Lib.hid oB
        have HLT := Lib.hid hlt
        have HBW := Lib.hid (HBV1.out.keep0 f)
        clear hcx
        clear ld ldz hu hx0 rv0 oF oB dj bF bB vF vB f hmem hcnt hlt HTK
        by_cases hbl : i < bs.length
        · have hbl' : (i : Int) < (bs.length : Int) := by omega
          obtain ⟨bb, bo, eb⟩ := HBW.out.at (by omega)
          subst eb
          have hc := SlE.cell encBo HBW.out i hbl 0 (u := .bool bs[i]) rfl
          rw [Nat.add_zero, Nat.mul_one] at hc
          cases hbi : bs[i] with
          | true =>
            rw [hbi] at hc
            clear hbl hbi
            go_wp2_with (first
              | ((with_reducible (show wpList _ _ _ (Oper.mk _ (Op.load 28 _) _ _ _ _ :: _) _ _)); refine wpList_load_g (by rfl) 28 _ rfl _ rfl LD.out ?_)
              | ((with_reducible (show wpList _ _ _ (Oper.mk _ (Op.buildSlice _ _ _) _ _ _ _ :: _) _ _)); refine wpList_push (x := x0) OF.out HBF.out rfl rfl (.tmp 39) (.tmp 35) (.tmp 40) 40 rfl rfl rfl rfl rfl rfl ?_; intro v9 w9 sp9 o9 f9 n9))
            have HN := Lib.hid (HPF.out v9 w9 sp9 o9 f9 n9)
            clear o9 f9 n9
            go_roundw
            case rel => exact HN.out
            case measure => simp [intOf]; have := HLT.out; omega
          | false =>
            rw [hbi] at hc
            clear hbl hbi
            go_wp2_with (first
              | ((with_reducible (show wpList _ _ _ (Oper.mk _ (Op.load 28 _) _ _ _ _ :: _) _ _)); refine wpList_load_g (by rfl) 28 _ rfl _ rfl LD.out ?_)
              | ((with_reducible (show wpList _ _ _ (Oper.mk _ (Op.buildSlice _ _ _) _ _ _ _ :: _) _ _)); refine wpList_push (x := x0) OB.out HBB.out rfl rfl (.tmp 46) (.tmp 42) (.tmp 47) 47 rfl rfl rfl rfl rfl rfl ?_; intro v9 w9 sp9 o9 f9 n9))
            have HN := Lib.hid (HPB.out v9 w9 sp9 o9 f9 n9)
            clear o9 f9 n9
            go_roundw
            case rel => exact HN.out
            case measure => simp [intOf]; have := HLT.out; omega
        · have hbl' : ¬ (i : Int) < (bs.length : Int) := by omega
          clear hbl
          go_wp2_with (first
            | ((with_reducible (show wpList _ _ _ (Oper.mk _ (Op.load 28 _) _ _ _ _ :: _) _ _)); refine wpList_load_g (by rfl) 28 _ rfl _ rfl LD.out ?_)
            | ((with_reducible (show wpList _ _ _ (Oper.mk _ (Op.buildSlice _ _ _) _ _ _ _ :: _) _ _)); refine wpList_push (x := x0) OB.out HBB.out rfl rfl (.tmp 46) (.tmp 42) (.tmp 47) 47 rfl rfl rfl rfl rfl rfl ?_; intro v9 w9 sp9 o9 f9 n9))
          have HN := Lib.hid (HPB.out v9 w9 sp9 o9 f9 n9)
          clear o9 f9 n9
          go_roundw
          case rel => exact HN.out
          case measure => simp [intOf]; have := HLT.out; omega
      · obtain rfl : i = l.length := by omega
        rw [List.take_length] at hmem
        have HFL := Lib.hid (show Fits l from ⟨by omega, fun u hu => Nat.le_trans (HF20.out u hu) (by decide)⟩)
        have HFM := Lib.hid (show Fits ((mB ++ mF) ++ mB) from ⟨by simp; omega, fun u hu => HFL.out.2 u (by
          simp only [List.mem_append] at hu
          exact (hmem u).2 (by rcases hu with (q | q) | q <;> simp [q]))⟩)
        have HAM := Lib.hid (show AllU ((mB ++ mF) ++ mB) from fun u hu => HWF.out u (by
          simp only [List.mem_append] at hu
          exact (hmem u).2 (by rcases hu with (q | q) | q <;> simp [q])))
        have HBM := Lib.hid (show bestU ((mB ++ mF) ++ mB) = bestU l from bestU_same HAM.out HWF.out (fun x => by
          simp only [List.mem_append, hmem]
          constructor
          · rintro ((q | q) | q) <;> simp [q]
          · rintro (q | q) <;> simp [q]))
        have HRL := Lib.hid (show rB.length + rF.length ≤ 1000 ∧ (rB ++ rF).length + rB.length ≤ 1000 by have h1 := vF.1; have h2 := vB.1; simp; omega)
        have F := Lib.hid f
        have OF := Lib.hid oF
        have OB := Lib.hid oB
        have BB := Lib.hid bB
        have VM := Lib.hid ((vB.app vF).app vB)
        have HB1 := Lib.hid (HBE.out _ l wr (F1.out.trans f (by simp)) (HV1.out.keep0 f) HFL.out)
        clear f oF oB bF bB vF vB dj hmem hcnt
        go_upto_region 12 with (first
          | (go_at_call 45; with_reducible refine Calls.mono HB1.out ?_; rintro r w2 ⟨v9, rs9, B9, rfl, tl9, f2⟩; have TL9 := Lib.hid tl9; have F2 := Lib.hid f2; have OB2 := Lib.hid (OB.out.keep0 f2); have SF := Lib.hid (Kr.SlE.src encR Tryz.underlying30 (OwnE.sl (OF.out.keep0 f2))); clear tl9 f2 HB1)
          | (at_builtin; refine wpList_app_src OB2.out SF.out (Nat.le_trans HRL.out.1 (by decide)) rfl (.tmp 51) (.tmp 52) rfl rfl rfl ?_; intro v53 w3 sp3 o3 f3 d3; have SB3 := Lib.hid (src_after OB2.out o3 d3); have O3 := Lib.hid o3; have F3 := Lib.hid f3; have D3 := Lib.hid d3; clear o3 f3 d3 SF)
          | (at_builtin; refine wpList_app_src O3.out SB3.out (Nat.le_trans HRL.out.2 (by decide)) rfl (.tmp 53) (.tmp 54) rfl rfl rfl ?_; intro v55 w4 sp4 o4 f4 d4; have O4 := Lib.hid o4; have F4 := Lib.hid f4; clear o4 f4 d4 SB3)
          | (go_at_call 45; fail))
        have BV53 := Lib.hid (show ∀ j ∈ blk v53, j ∉ B9 ∧ w1.heap.size ≤ j from fun j hj => by
          have hq : j ∈ blk u7 ∨ j = w2.heap.size := by
            rcases D3.out with q | ⟨q, _⟩
            · rw [q] at hj; exact .inl hj
            · rw [q] at hj; simp at hj; exact .inr hj
          rcases hq with q | rfl
          · exact ⟨fun hm => by have h1 := (TL9.out.lo j hm).1; have h2 := OB.out.lt j q; omega, BB.out j q⟩
          · exact ⟨fun hm => by have h1 := (TL9.out.lo _ hm).2; omega, by have := F.out.size; have := F2.out.size; omega⟩)
        have F14 := Lib.hid (((F.out.trans F2.out (by simp)).trans F3.out (fun j hj => .inr (BB.out j hj))).trans F4.out (fun j hj => .inr (BV53.out j hj).2))
        have US4 := Lib.hid (VM.out.us F14.out (OwnE.sl O4.out))
        have HB2 := Lib.hid (HBE.out _ _ _ (F1.out.trans F14.out (by simp)) US4.out HFM.out)
        rw [HBM.out] at HB2
        have TL9b := Lib.hid ((TL9.out.keep F3.out (fun j hj hm => by have h1 := (TL9.out.lo j hm).1; have h2 := OB.out.lt j hj; omega)).keep F4.out (fun j hj => (BV53.out j hj).1))
        go_upto_region 12 with (go_at_call 45; with_reducible refine Calls.mono HB2.out ?_; rintro r w5 ⟨v10, rs10, B10, rfl, tl10, f5⟩)
        have F15 := Lib.hid (F14.out.trans f5 (by simp))
        have FW5 := Lib.hid (F1.out.trans F15.out (by simp))
        have U9 := Lib.hid (TL9b.out.keep0 f5).us
        have U10 := Lib.hid tl10.us
        have HBU := Lib.hid (fits_best0 HWF.out HFL.out)
        have HBLN := Lib.hid (show (bestU l).length ≤ 20 by have := bestU_le l; have := HL20.out; omega)
        have HFB := Lib.hid (show Fits (bestU l) from ⟨by have := HBLN.out; omega, HBU.out⟩)
        have HS := Lib.hid (SameUbs_true v9 v10 _ w5 U9.out U10.out HFB.out)
        clear tl10 f5 HB2 US4 F14 TL9b TL9 BV53 D3 F2 F3 F4 O3 O4 OB2 VM BB OB OF HRL HBM HAM HFM
        go_upto_region 14 with (go_at_call 38; with_reducible refine Calls.mono HS.out ?_; rintro r w6 ⟨rfl, f6⟩)
        have F16 := Lib.hid (F15.out.trans f6 (by simp))
        have FW16 := Lib.hid (F1.out.trans F16.out (by simp))
        have U6 := Lib.hid (U9.out.keep0 f6)
        obtain ⟨B, hB⟩ : ∃ B, B = bestU l := ⟨_, rfl⟩
        have HST := Lib.hid (show ∀ i (h : i + 1 < B.length), ltE (entU (B[i]'(by omega))) (entU B[i + 1]) = true by subst hB; exact fun i h => best_step HWF.out h)
        have HMB := Lib.hid (show ∀ u ∈ B, mayUB u = true by subst hB; exact fun u hu => mayUB_iff.2 (((best_bestU HWF.out).mem u).1 hu).2)
        have HCN := Lib.hid (show ∀ u ∈ l, cntU B u = if mayUB u = true then 1 else 0 by subst hB; exact fun u hu => best_count HWF.out hu)
        have UB6 := Lib.hid (show Us w6 v9 B by subst hB; exact U6.out)
        have HBA := Lib.hid (show ∀ u ∈ B, u.root.ads.length ≤ 1000000 by subst hB; exact HBU.out)
        have HBN := Lib.hid (show B.length ≤ 20 by subst hB; exact HBLN.out)
        clear f6 HS U10 U9 F15 U6 HBU HBLN HFB hB
        obtain ⟨a9, c9, e9⟩ := UB6.out.form
        subst e9
        have hB9 : (B.length : Int) ≤ 20 := by have := HBN.out; omega
        generalize wr = wA at *
        go_wp2_with fail
        go_loopw [11] (fun cv wr => ∃ i : Nat, cv = .int .i64 i ∧ i ≤ B.length ∧ Frm [] w6 wr) (fun cv _ => B.length - (intOf cv).toNat)
        case atStart => exact ⟨0, rfl, by omega, Frm.refl _ _⟩
        case round =>
          obtain ⟨i, rfl, hib, f7⟩ := hrel
          by_cases hlt : i < B.length
          · have hlt' : (i : Int) < (B.length : Int) := by omega
            have hi9 : (i : Int) ≤ 20 := by omega
            have U7 := Lib.hid (UB6.out.keep0 f7)
            obtain ⟨b9, o9, cp9, e⟩ := U7.out.at (by omega)
            injection e with e1 e2 e3
            subst e1; subst e3
            obtain ⟨ia, ic, ldi, hui, hci⟩ := U7.out.loadw i hlt
            have hmi : B[i] ∈ B := List.getElem_mem hlt
            have LDI := Lib.hid ldi
            have HCI := Lib.hid hci
            have HCK := Lib.hid (fun z (fz : Frm [] wr z) => Check_any _ B[i] z (hui.keep0 fz) (HBA.out _ hmi))
            rw [show mayE B[i] = 0 by unfold mayE; rw [if_pos (HMB.out _ hmi)]] at HCK
            have HNX := Lib.hid (show ∀ z, Frm [] wr z → ∃ q : Nat, Value.int .i64 ((i : Int) + 1) = .int .i64 (q : Int) ∧ q ≤ B.length ∧ Frm [] w6 z from fun z fz => ⟨i + 1, by go_num, hlt, f7.trans fz (by simp)⟩)
            have HLT := Lib.hid hlt
            rcases Nat.eq_zero_or_pos i with hz | hpos
            · subst hz
              generalize (B[0]).txg = t0 at *
              generalize B[0] = ub0 at *
              clear ldi hci hui hmi hib f7 hlt
              go_wp2_with fail
              refine wp_region_held_drew (S := fun z => Frm [] wr z) (by kernel_rfl) ((Frm.refl [] wr).drew) (fun hHeld => ?_)
              refine wpAnyH_take (i := 0) (oi := ⟨some 67, Op.move (Operand.tmp 9), 30, "outright.go:130", #[], none⟩) (v := ?_) rfl (by kernel_rfl) (by kernel_rfl) (by kernel_rfl) (fun _ _ _ h => h) (Or.inl ⟨by rfl, ?_⟩) hHeld ?_
              rotate_left
              focus (intro z hSw; clear hSw; go_simp; try with_reducible rfl)
              try simp only [Act.put, List.setIfInBounds_toArray, List.set_cons_zero, List.set_cons_succ]
              refine wpAnyH_take (i := 1) (oi := ⟨some 68, Op.move (Operand.tmp 11), 3, "outright.go:130", #[], none⟩) (v := ?_) rfl (by kernel_rfl) (by kernel_rfl) (by kernel_rfl) (fun _ _ _ h => h) (Or.inl ⟨by rfl, ?_⟩) hHeld ?_
              rotate_left
              focus (intro z hSw; clear hSw; go_simp; try with_reducible rfl)
              try simp only [Act.put, List.setIfInBounds_toArray, List.set_cons_zero, List.set_cons_succ]
              refine wpAnyH_take (i := 2) (oi := ⟨some 69, Op.indexAddr 30 (Operand.tmp 67) (Operand.tmp 68), 0, "outright.go:130", #[⟨0, .data⟩, ⟨1, .data⟩], none⟩) (v := ?_) rfl (by kernel_rfl) (by kernel_rfl) (by kernel_rfl) (fun _ _ _ h => h) (Or.inl ⟨by rfl, ?_⟩) hHeld ?_
              rotate_left
              focus (intro z hSw; clear hSw; go_simp; try with_reducible rfl)
              try simp only [Act.put, List.setIfInBounds_toArray, List.set_cons_zero, List.set_cons_succ]
              refine wpAnyH_take (i := 3) (oi := ⟨some 70, Op.load 28 (Operand.tmp 69), 28, "outright.go:130", #[⟨2, .data⟩], none⟩) rfl (by kernel_rfl) (by kernel_rfl) (by kernel_rfl) (fun _ _ _ h => h) (yieldsIf_ld (by rfl) 28 _ rfl _ rfl (fun z hSw => LDI.out z hSw)) hHeld ?_
              try simp only [Act.put, List.setIfInBounds_toArray, List.set_cons_zero, List.set_cons_succ]
              refine wpAnyH_ready (rs := [4]) (by kernel_rfl) (by simp) ?_
              refine AllReadyH.cons (o := ⟨some 71, Op.call { callee := Callee.value (Operand.func 19), args := #[Operand.tmp 70], argTypes := #[28] }, 33, "outright.go:130", #[⟨3, .data⟩], none⟩) rfl (fun K hK => ?_) AllReadyH.nil
              go_simp
              refine (HCK.out _ hHeld).mono ?_
              rintro r wn ⟨rfl, fn⟩
              refine hK.out _ _ ?_ (fun hNext => ?_)
              · exact hHeld.trans fn (by simp)
              clear hK K hHeld
              have hHeld := hNext
              clear hNext
              try simp only [Act.put, List.setIfInBounds_toArray, List.set_cons_zero, List.set_cons_succ]
              refine wpAnyH_take (i := 5) (oi := ⟨some 72, Op.binOp BinOp.neq 33 (Operand.tmp 71) (Operand.const (Value.int IntKind.i64 0)) 33, 4, "outright.go:130", #[⟨4, .data⟩], none⟩) (v := ?_) rfl (by kernel_rfl) (by kernel_rfl) (by kernel_rfl) (fun _ _ _ h => h) (Or.inl ⟨by rfl, ?_⟩) hHeld ?_
              rotate_left
              focus (intro z hSw; clear hSw; go_simp; try with_reducible rfl)
              try simp only [Act.put, List.setIfInBounds_toArray, List.set_cons_zero, List.set_cons_succ]
              refine wpAnyH_take (i := 6) (oi := ⟨some 73, Op.move (Operand.tmp 72), 4, "outright.go:130", #[⟨5, .data⟩, ⟨4, .chain⟩], none⟩) (v := ?_) rfl (by kernel_rfl) (by kernel_rfl) (by kernel_rfl) (fun _ _ _ h => h) (Or.inl ⟨by rfl, ?_⟩) hHeld ?_
              rotate_left
              focus (intro z hSw; clear hSw; go_simp; try with_reducible rfl)
              try simp only [Act.put, List.setIfInBounds_toArray, List.set_cons_zero, List.set_cons_succ]
              refine wpAnyH_take (i := 7) (oi := ⟨some 74, Op.move (Operand.tmp 11), 3, "outright.go:130", #[⟨6, .guard⟩], some (6, false)⟩) (v := ?_) rfl (by kernel_rfl) (by kernel_rfl) (by kernel_rfl) (fun _ _ _ h => h) (Or.inl ⟨by rfl, ?_⟩) hHeld ?_
              rotate_left
              focus (intro z hSw; clear hSw; go_simp; try with_reducible rfl)
              try simp only [Act.put, List.setIfInBounds_toArray, List.set_cons_zero, List.set_cons_succ]
              refine wpAnyH_take (i := 8) (oi := ⟨some 75, Op.binOp BinOp.gtr 3 (Operand.tmp 74) (Operand.const (Value.int IntKind.i64 0)) 3, 4, "outright.go:130", #[⟨7, .data⟩, ⟨6, .guard⟩], some (6, false)⟩) (v := ?_) rfl (by kernel_rfl) (by kernel_rfl) (by kernel_rfl) (fun _ _ _ h => h) (Or.inl ⟨by rfl, ?_⟩) hHeld ?_
              rotate_left
              focus (intro z hSw; clear hSw; go_simp; try with_reducible rfl)
              try simp only [Act.put, List.setIfInBounds_toArray, List.set_cons_zero, List.set_cons_succ]
              refine wpAnyH_take (i := 9) (oi := ⟨some 76, Op.move (Operand.tmp 75), 4, "outright.go:130", #[⟨8, .data⟩, ⟨6, .chain⟩, ⟨6, .guard⟩], some (6, false)⟩) (v := ?_) rfl (by kernel_rfl) (by kernel_rfl) (by kernel_rfl) (fun _ _ _ h => h) (Or.inl ⟨by rfl, ?_⟩) hHeld ?_
              rotate_left
              focus (intro z hSw; clear hSw; go_simp; try with_reducible rfl)
              try simp only [Act.put, List.setIfInBounds_toArray, List.set_cons_zero, List.set_cons_succ]
              refine wpAnyH_take (i := 10) (oi := ⟨some 77, Op.move (Operand.tmp 9), 30, "outright.go:130", #[⟨9, .guard⟩], some (9, true)⟩) (v := undef) rfl (by kernel_rfl) (by kernel_rfl) (by kernel_rfl) (fun _ _ _ h => h) (Or.inr ⟨by rfl, rfl⟩) hHeld ?_
              try simp only [Act.put, List.setIfInBounds_toArray, List.set_cons_zero, List.set_cons_succ]
              refine wpAnyH_take (i := 11) (oi := ⟨some 78, Op.move (Operand.tmp 11), 3, "outright.go:130", #[⟨9, .guard⟩], some (9, true)⟩) (v := undef) rfl (by kernel_rfl) (by kernel_rfl) (by kernel_rfl) (fun _ _ _ h => h) (Or.inr ⟨by rfl, rfl⟩) hHeld ?_
              try simp only [Act.put, List.setIfInBounds_toArray, List.set_cons_zero, List.set_cons_succ]
              refine wpAnyH_take (i := 12) (oi := ⟨some 79, Op.indexAddr 30 (Operand.tmp 77) (Operand.tmp 78), 0, "outright.go:130", #[⟨10, .data⟩, ⟨11, .data⟩, ⟨9, .guard⟩], some (9, true)⟩) (v := undef) rfl (by kernel_rfl) (by kernel_rfl) (by kernel_rfl) (fun _ _ _ h => h) (Or.inr ⟨by rfl, rfl⟩) hHeld ?_
              try simp only [Act.put, List.setIfInBounds_toArray, List.set_cons_zero, List.set_cons_succ]
              refine wpAnyH_take (i := 13) (oi := ⟨some 80, Op.fieldAddr 28 (Operand.tmp 79) 0, 0, "outright.go:130", #[⟨12, .data⟩, ⟨9, .guard⟩], some (9, true)⟩) (v := undef) rfl (by kernel_rfl) (by kernel_rfl) (by kernel_rfl) (fun _ _ _ h => h) (Or.inr ⟨by rfl, rfl⟩) hHeld ?_
              try simp only [Act.put, List.setIfInBounds_toArray, List.set_cons_zero, List.set_cons_succ]
              refine wpAnyH_take (i := 14) (oi := ⟨some 81, Op.load 3 (Operand.tmp 80), 3, "outright.go:130", #[⟨13, .data⟩, ⟨9, .guard⟩], some (9, true)⟩) (v := undef) rfl (by kernel_rfl) (by kernel_rfl) (by kernel_rfl) (fun _ _ _ h => h) (Or.inr ⟨by rfl, rfl⟩) hHeld ?_
              try simp only [Act.put, List.setIfInBounds_toArray, List.set_cons_zero, List.set_cons_succ]
              refine wpAnyH_take (i := 15) (oi := ⟨some 82, Op.move (Operand.tmp 9), 30, "outright.go:130", #[⟨9, .guard⟩], some (9, true)⟩) (v := undef) rfl (by kernel_rfl) (by kernel_rfl) (by kernel_rfl) (fun _ _ _ h => h) (Or.inr ⟨by rfl, rfl⟩) hHeld ?_
              try simp only [Act.put, List.setIfInBounds_toArray, List.set_cons_zero, List.set_cons_succ]
              refine wpAnyH_take (i := 16) (oi := ⟨some 83, Op.move (Operand.tmp 11), 3, "outright.go:130", #[⟨9, .guard⟩], some (9, true)⟩) (v := undef) rfl (by kernel_rfl) (by kernel_rfl) (by kernel_rfl) (fun _ _ _ h => h) (Or.inr ⟨by rfl, rfl⟩) hHeld ?_
              try simp only [Act.put, List.setIfInBounds_toArray, List.set_cons_zero, List.set_cons_succ]
              refine wpAnyH_take (i := 17) (oi := ⟨some 84, Op.binOp BinOp.sub 3 (Operand.tmp 83) (Operand.const (Value.int IntKind.i64 1)) 3, 3, "outright.go:130", #[⟨16, .data⟩, ⟨9, .guard⟩], some (9, true)⟩) (v := undef) rfl (by kernel_rfl) (by kernel_rfl) (by kernel_rfl) (fun _ _ _ h => h) (Or.inr ⟨by rfl, rfl⟩) hHeld ?_
              try simp only [Act.put, List.setIfInBounds_toArray, List.set_cons_zero, List.set_cons_succ]
              refine wpAnyH_take (i := 18) (oi := ⟨some 85, Op.indexAddr 30 (Operand.tmp 82) (Operand.tmp 84), 0, "outright.go:130", #[⟨15, .data⟩, ⟨17, .data⟩, ⟨9, .guard⟩], some (9, true)⟩) (v := undef) rfl (by kernel_rfl) (by kernel_rfl) (by kernel_rfl) (fun _ _ _ h => h) (Or.inr ⟨by rfl, rfl⟩) hHeld ?_
              try simp only [Act.put, List.setIfInBounds_toArray, List.set_cons_zero, List.set_cons_succ]
              refine wpAnyH_take (i := 19) (oi := ⟨some 86, Op.fieldAddr 28 (Operand.tmp 85) 0, 0, "outright.go:130", #[⟨18, .data⟩, ⟨9, .guard⟩], some (9, true)⟩) (v := undef) rfl (by kernel_rfl) (by kernel_rfl) (by kernel_rfl) (fun _ _ _ h => h) (Or.inr ⟨by rfl, rfl⟩) hHeld ?_
              try simp only [Act.put, List.setIfInBounds_toArray, List.set_cons_zero, List.set_cons_succ]
              refine wpAnyH_take (i := 20) (oi := ⟨some 87, Op.load 3 (Operand.tmp 86), 3, "outright.go:130", #[⟨19, .data⟩, ⟨9, .guard⟩], some (9, true)⟩) (v := undef) rfl (by kernel_rfl) (by kernel_rfl) (by kernel_rfl) (fun _ _ _ h => h) (Or.inr ⟨by rfl, rfl⟩) hHeld ?_
              try simp only [Act.put, List.setIfInBounds_toArray, List.set_cons_zero, List.set_cons_succ]
              refine wpAnyH_take (i := 21) (oi := ⟨some 88, Op.binOp BinOp.gtr 3 (Operand.tmp 81) (Operand.tmp 87) 3, 4, "outright.go:130", #[⟨14, .data⟩, ⟨20, .data⟩, ⟨9, .guard⟩], some (9, true)⟩) (v := undef) rfl (by kernel_rfl) (by kernel_rfl) (by kernel_rfl) (fun _ _ _ h => h) (Or.inr ⟨by rfl, rfl⟩) hHeld ?_
              try simp only [Act.put, List.setIfInBounds_toArray, List.set_cons_zero, List.set_cons_succ]
              refine wpAnyH_take (i := 22) (oi := ⟨some 89, Op.move (Operand.tmp 88), 4, "outright.go:130", #[⟨21, .data⟩, ⟨9, .chain⟩, ⟨9, .guard⟩], some (9, true)⟩) (v := undef) rfl (by kernel_rfl) (by kernel_rfl) (by kernel_rfl) (fun _ _ _ h => h) (Or.inr ⟨by rfl, rfl⟩) hHeld ?_
              try simp only [Act.put, List.setIfInBounds_toArray, List.set_cons_zero, List.set_cons_succ]
              refine wpAnyH_take (i := 23) (oi := ⟨some 90, Op.move (Operand.tmp 9), 30, "outright.go:130", #[⟨22, .guard⟩], some (22, false)⟩) (v := undef) rfl (by kernel_rfl) (by kernel_rfl) (by kernel_rfl) (fun _ _ _ h => h) (Or.inr ⟨by rfl, rfl⟩) hHeld ?_
              try simp only [Act.put, List.setIfInBounds_toArray, List.set_cons_zero, List.set_cons_succ]
              refine wpAnyH_take (i := 24) (oi := ⟨some 91, Op.move (Operand.tmp 11), 3, "outright.go:130", #[⟨22, .guard⟩], some (22, false)⟩) (v := undef) rfl (by kernel_rfl) (by kernel_rfl) (by kernel_rfl) (fun _ _ _ h => h) (Or.inr ⟨by rfl, rfl⟩) hHeld ?_
              try simp only [Act.put, List.setIfInBounds_toArray, List.set_cons_zero, List.set_cons_succ]
              refine wpAnyH_take (i := 25) (oi := ⟨some 92, Op.indexAddr 30 (Operand.tmp 90) (Operand.tmp 91), 0, "outright.go:130", #[⟨23, .data⟩, ⟨24, .data⟩, ⟨22, .guard⟩], some (22, false)⟩) (v := undef) rfl (by kernel_rfl) (by kernel_rfl) (by kernel_rfl) (fun _ _ _ h => h) (Or.inr ⟨by rfl, rfl⟩) hHeld ?_
              try simp only [Act.put, List.setIfInBounds_toArray, List.set_cons_zero, List.set_cons_succ]
              refine wpAnyH_take (i := 26) (oi := ⟨some 93, Op.load 28 (Operand.tmp 92), 28, "outright.go:130", #[⟨25, .data⟩, ⟨22, .guard⟩], some (22, false)⟩) (v := undef) rfl (by kernel_rfl) (by kernel_rfl) (by kernel_rfl) (fun _ _ _ h => h) (Or.inr ⟨by rfl, rfl⟩) hHeld ?_
              try simp only [Act.put, List.setIfInBounds_toArray, List.set_cons_zero, List.set_cons_succ]
              refine wpAnyH_take (i := 27) (oi := ⟨some 94, Op.move (Operand.tmp 9), 30, "outright.go:130", #[⟨22, .guard⟩], some (22, false)⟩) (v := undef) rfl (by kernel_rfl) (by kernel_rfl) (by kernel_rfl) (fun _ _ _ h => h) (Or.inr ⟨by rfl, rfl⟩) hHeld ?_
              try simp only [Act.put, List.setIfInBounds_toArray, List.set_cons_zero, List.set_cons_succ]
              refine wpAnyH_take (i := 28) (oi := ⟨some 95, Op.move (Operand.tmp 11), 3, "outright.go:130", #[⟨22, .guard⟩], some (22, false)⟩) (v := undef) rfl (by kernel_rfl) (by kernel_rfl) (by kernel_rfl) (fun _ _ _ h => h) (Or.inr ⟨by rfl, rfl⟩) hHeld ?_
              try simp only [Act.put, List.setIfInBounds_toArray, List.set_cons_zero, List.set_cons_succ]
              refine wpAnyH_take (i := 29) (oi := ⟨some 96, Op.binOp BinOp.sub 3 (Operand.tmp 95) (Operand.const (Value.int IntKind.i64 1)) 3, 3, "outright.go:130", #[⟨28, .data⟩, ⟨22, .guard⟩], some (22, false)⟩) (v := undef) rfl (by kernel_rfl) (by kernel_rfl) (by kernel_rfl) (fun _ _ _ h => h) (Or.inr ⟨by rfl, rfl⟩) hHeld ?_
              try simp only [Act.put, List.setIfInBounds_toArray, List.set_cons_zero, List.set_cons_succ]
              refine wpAnyH_take (i := 30) (oi := ⟨some 97, Op.indexAddr 30 (Operand.tmp 94) (Operand.tmp 96), 0, "outright.go:130", #[⟨27, .data⟩, ⟨29, .data⟩, ⟨22, .guard⟩], some (22, false)⟩) (v := undef) rfl (by kernel_rfl) (by kernel_rfl) (by kernel_rfl) (fun _ _ _ h => h) (Or.inr ⟨by rfl, rfl⟩) hHeld ?_
              try simp only [Act.put, List.setIfInBounds_toArray, List.set_cons_zero, List.set_cons_succ]
              refine wpAnyH_take (i := 31) (oi := ⟨some 98, Op.load 28 (Operand.tmp 97), 28, "outright.go:130", #[⟨30, .data⟩, ⟨22, .guard⟩], some (22, false)⟩) (v := undef) rfl (by kernel_rfl) (by kernel_rfl) (by kernel_rfl) (fun _ _ _ h => h) (Or.inr ⟨by rfl, rfl⟩) hHeld ?_
              try simp only [Act.put, List.setIfInBounds_toArray, List.set_cons_zero, List.set_cons_succ]
              refine wpAnyH_take (i := 32) (oi := ⟨some 99, Op.call { callee := Callee.value (Operand.func 21), args := #[Operand.tmp 93, Operand.tmp 98], argTypes := #[28, 28] }, 4, "outright.go:130", #[⟨26, .data⟩, ⟨31, .data⟩, ⟨22, .chain⟩, ⟨22, .guard⟩], some (22, false)⟩) (v := undef) rfl (by kernel_rfl) (by kernel_rfl) (by kernel_rfl) (fun _ _ _ h => h) (Or.inr ⟨by rfl, rfl⟩) hHeld ?_
              try simp only [Act.put, List.setIfInBounds_toArray, List.set_cons_zero, List.set_cons_succ]
              refine wpAnyH_take (i := 33) (oi := ⟨some 100, Op.pick (Operand.tmp 89) (Operand.const (Value.bool true)) (Operand.tmp 99), 4, "outright.go:130", #[⟨22, .data⟩, ⟨32, .data⟩, ⟨9, .guard⟩], some (9, true)⟩) (v := undef) rfl (by kernel_rfl) (by kernel_rfl) (by kernel_rfl) (fun _ _ _ h => h) (Or.inr ⟨by rfl, rfl⟩) hHeld ?_
              try simp only [Act.put, List.setIfInBounds_toArray, List.set_cons_zero, List.set_cons_succ]
              refine wpAnyH_take (i := 34) (oi := ⟨some 101, Op.pick (Operand.tmp 76) (Operand.tmp 100) (Operand.const (Value.bool false)), 4, "outright.go:130", #[⟨9, .data⟩, ⟨33, .data⟩, ⟨6, .guard⟩], some (6, false)⟩) (v := ?_) rfl (by kernel_rfl) (by kernel_rfl) (by kernel_rfl) (fun _ _ _ h => h) (Or.inl ⟨by rfl, ?_⟩) hHeld ?_
              rotate_left
              focus (intro z hSw; clear hSw; go_simp; try with_reducible rfl)
              try simp only [Act.put, List.setIfInBounds_toArray, List.set_cons_zero, List.set_cons_succ]
              refine wpAnyH_take (i := 35) (oi := ⟨some 102, Op.pick (Operand.tmp 73) (Operand.const (Value.bool true)) (Operand.tmp 101), 4, "outright.go:130", #[⟨6, .data⟩, ⟨34, .data⟩], none⟩) (v := ?_) rfl (by kernel_rfl) (by kernel_rfl) (by kernel_rfl) (fun _ _ _ h => h) (Or.inl ⟨by rfl, ?_⟩) hHeld ?_
              rotate_left
              focus (intro z hSw; clear hSw; go_simp; try with_reducible rfl)
              try simp only [Act.put, List.setIfInBounds_toArray, List.set_cons_zero, List.set_cons_succ]
              refine wpAnyH_done (by kernel_rfl) ?_ _
              go_wp2_with fail
              go_roundw
              case rel => exact HNX.out _ hHeld
              case measure => simp [intOf]; have := HLT.out; omega
            · obtain ⟨j, hij⟩ : ∃ j, j + 1 = i := ⟨i - 1, by omega⟩
              have hjl : j < B.length := by omega
              obtain ⟨ja, jc, ldj, huj, hcj⟩ := U7.out.loadw j hjl
              have hmj : B[j] ∈ B := List.getElem_mem hjl
              have hst : ¬ (B[j]).txg < (B[i]).txg ∧ sameU B[i] B[j] = false := by subst hij; exact step_txg (HST.out j hlt)
              have LDJ := Lib.hid ldj
              have HCJ := Lib.hid hcj
              have HSM := Lib.hid (fun z (fz : Frm [] wr z) => USame_any _ _ B[i] B[j] z (hui.keep0 fz) (huj.keep0 fz) (HBA.out _ hmi))
              rw [hst.2] at HSM
              have hst1 := hst.1
              have hwj : IntKind.i64.wrap ((i : Int) - 1) = (j : Int) := by rw [IntWalk.i64_in _ (by omega)]; omega
              have hjl' : (j : Int) < (B.length : Int) := by omega
              have hpos' : (0 : Int) < (i : Int) := by omega
              have hpd : 0 < i := hpos
              have HIJ := Lib.hid hij
              clear hst hij hpos ldj hcj huj hmj
              generalize (B[i]).txg = ti at *
              generalize (B[j]).txg = tj at *
              generalize B[i] = ubi at *
              generalize B[j] = ubj at *
              clear ldi hci hui hmi hib f7 hlt hjl
              go_wp2_with fail
              refine wp_region_held_drew (S := fun z => Frm [] wr z) (by kernel_rfl) ((Frm.refl [] wr).drew) (fun hHeld => ?_)
              refine wpAnyH_take (i := 0) (oi := ⟨some 67, Op.move (Operand.tmp 9), 30, "outright.go:130", #[], none⟩) (v := ?_) rfl (by kernel_rfl) (by kernel_rfl) (by kernel_rfl) (fun _ _ _ h => h) (Or.inl ⟨by rfl, ?_⟩) hHeld ?_
              rotate_left
              focus (intro z hSw; clear hSw; go_simp; try with_reducible rfl)
              try simp only [Act.put, List.setIfInBounds_toArray, List.set_cons_zero, List.set_cons_succ]
              refine wpAnyH_take (i := 1) (oi := ⟨some 68, Op.move (Operand.tmp 11), 3, "outright.go:130", #[], none⟩) (v := ?_) rfl (by kernel_rfl) (by kernel_rfl) (by kernel_rfl) (fun _ _ _ h => h) (Or.inl ⟨by rfl, ?_⟩) hHeld ?_
              rotate_left
              focus (intro z hSw; clear hSw; go_simp; try with_reducible rfl)
              try simp only [Act.put, List.setIfInBounds_toArray, List.set_cons_zero, List.set_cons_succ]
              refine wpAnyH_take (i := 2) (oi := ⟨some 69, Op.indexAddr 30 (Operand.tmp 67) (Operand.tmp 68), 0, "outright.go:130", #[⟨0, .data⟩, ⟨1, .data⟩], none⟩) (v := ?_) rfl (by kernel_rfl) (by kernel_rfl) (by kernel_rfl) (fun _ _ _ h => h) (Or.inl ⟨by rfl, ?_⟩) hHeld ?_
              rotate_left
              focus (intro z hSw; clear hSw; go_simp; try with_reducible rfl)
              try simp only [Act.put, List.setIfInBounds_toArray, List.set_cons_zero, List.set_cons_succ]
              refine wpAnyH_take (i := 3) (oi := ⟨some 70, Op.load 28 (Operand.tmp 69), 28, "outright.go:130", #[⟨2, .data⟩], none⟩) rfl (by kernel_rfl) (by kernel_rfl) (by kernel_rfl) (fun _ _ _ h => h) (yieldsIf_ld (by rfl) 28 _ rfl _ rfl (fun z hSw => LDI.out z hSw)) hHeld ?_
              try simp only [Act.put, List.setIfInBounds_toArray, List.set_cons_zero, List.set_cons_succ]
              refine wpAnyH_ready (rs := [4]) (by kernel_rfl) (by simp) ?_
              refine AllReadyH.cons (o := ⟨some 71, Op.call { callee := Callee.value (Operand.func 19), args := #[Operand.tmp 70], argTypes := #[28] }, 33, "outright.go:130", #[⟨3, .data⟩], none⟩) rfl (fun K hK => ?_) AllReadyH.nil
              go_simp
              refine (HCK.out _ hHeld).mono ?_
              rintro r wn ⟨rfl, fn⟩
              refine hK.out _ _ ?_ (fun hNext => ?_)
              · exact hHeld.trans fn (by simp)
              clear hK K hHeld
              have hHeld := hNext
              clear hNext
              try simp only [Act.put, List.setIfInBounds_toArray, List.set_cons_zero, List.set_cons_succ]
              refine wpAnyH_take (i := 5) (oi := ⟨some 72, Op.binOp BinOp.neq 33 (Operand.tmp 71) (Operand.const (Value.int IntKind.i64 0)) 33, 4, "outright.go:130", #[⟨4, .data⟩], none⟩) (v := ?_) rfl (by kernel_rfl) (by kernel_rfl) (by kernel_rfl) (fun _ _ _ h => h) (Or.inl ⟨by rfl, ?_⟩) hHeld ?_
              rotate_left
              focus (intro z hSw; clear hSw; go_simp; try with_reducible rfl)
              try simp only [Act.put, List.setIfInBounds_toArray, List.set_cons_zero, List.set_cons_succ]
              refine wpAnyH_take (i := 6) (oi := ⟨some 73, Op.move (Operand.tmp 72), 4, "outright.go:130", #[⟨5, .data⟩, ⟨4, .chain⟩], none⟩) (v := ?_) rfl (by kernel_rfl) (by kernel_rfl) (by kernel_rfl) (fun _ _ _ h => h) (Or.inl ⟨by rfl, ?_⟩) hHeld ?_
              rotate_left
              focus (intro z hSw; clear hSw; go_simp; try with_reducible rfl)
              try simp only [Act.put, List.setIfInBounds_toArray, List.set_cons_zero, List.set_cons_succ]
              refine wpAnyH_take (i := 7) (oi := ⟨some 74, Op.move (Operand.tmp 11), 3, "outright.go:130", #[⟨6, .guard⟩], some (6, false)⟩) (v := ?_) rfl (by kernel_rfl) (by kernel_rfl) (by kernel_rfl) (fun _ _ _ h => h) (Or.inl ⟨by rfl, ?_⟩) hHeld ?_
              rotate_left
              focus (intro z hSw; clear hSw; go_simp; try with_reducible rfl)
              try simp only [Act.put, List.setIfInBounds_toArray, List.set_cons_zero, List.set_cons_succ]
              refine wpAnyH_take (i := 8) (oi := ⟨some 75, Op.binOp BinOp.gtr 3 (Operand.tmp 74) (Operand.const (Value.int IntKind.i64 0)) 3, 4, "outright.go:130", #[⟨7, .data⟩, ⟨6, .guard⟩], some (6, false)⟩) (v := ?_) rfl (by kernel_rfl) (by kernel_rfl) (by kernel_rfl) (fun _ _ _ h => h) (Or.inl ⟨by rfl, ?_⟩) hHeld ?_
              rotate_left
              focus (intro z hSw; clear hSw; go_simp; try with_reducible rfl)
              try simp only [Act.put, List.setIfInBounds_toArray, List.set_cons_zero, List.set_cons_succ]
              refine wpAnyH_take (i := 9) (oi := ⟨some 76, Op.move (Operand.tmp 75), 4, "outright.go:130", #[⟨8, .data⟩, ⟨6, .chain⟩, ⟨6, .guard⟩], some (6, false)⟩) (v := ?_) rfl (by kernel_rfl) (by kernel_rfl) (by kernel_rfl) (fun _ _ _ h => h) (Or.inl ⟨by rfl, ?_⟩) hHeld ?_
              rotate_left
              focus (intro z hSw; clear hSw; go_simp; try with_reducible rfl)
              try simp only [Act.put, List.setIfInBounds_toArray, List.set_cons_zero, List.set_cons_succ]
              refine wpAnyH_take (i := 10) (oi := ⟨some 77, Op.move (Operand.tmp 9), 30, "outright.go:130", #[⟨9, .guard⟩], some (9, true)⟩) (v := ?_) rfl (by kernel_rfl) (by kernel_rfl) (by kernel_rfl) (fun _ _ _ h => h) (Or.inl ⟨by rfl, ?_⟩) hHeld ?_
              rotate_left
              focus (intro z hSw; clear hSw; go_simp; try with_reducible rfl)
              try simp only [Act.put, List.setIfInBounds_toArray, List.set_cons_zero, List.set_cons_succ]
              refine wpAnyH_take (i := 11) (oi := ⟨some 78, Op.move (Operand.tmp 11), 3, "outright.go:130", #[⟨9, .guard⟩], some (9, true)⟩) (v := ?_) rfl (by kernel_rfl) (by kernel_rfl) (by kernel_rfl) (fun _ _ _ h => h) (Or.inl ⟨by rfl, ?_⟩) hHeld ?_
              rotate_left
              focus (intro z hSw; clear hSw; go_simp; try with_reducible rfl)
              try simp only [Act.put, List.setIfInBounds_toArray, List.set_cons_zero, List.set_cons_succ]
              refine wpAnyH_take (i := 12) (oi := ⟨some 79, Op.indexAddr 30 (Operand.tmp 77) (Operand.tmp 78), 0, "outright.go:130", #[⟨10, .data⟩, ⟨11, .data⟩, ⟨9, .guard⟩], some (9, true)⟩) (v := ?_) rfl (by kernel_rfl) (by kernel_rfl) (by kernel_rfl) (fun _ _ _ h => h) (Or.inl ⟨by rfl, ?_⟩) hHeld ?_
              rotate_left
              focus (intro z hSw; clear hSw; go_simp; try with_reducible rfl)
              try simp only [Act.put, List.setIfInBounds_toArray, List.set_cons_zero, List.set_cons_succ]
              refine wpAnyH_take (i := 13) (oi := ⟨some 80, Op.fieldAddr 28 (Operand.tmp 79) 0, 0, "outright.go:130", #[⟨12, .data⟩, ⟨9, .guard⟩], some (9, true)⟩) (v := ?_) rfl (by kernel_rfl) (by kernel_rfl) (by kernel_rfl) (fun _ _ _ h => h) (Or.inl ⟨by rfl, ?_⟩) hHeld ?_
              rotate_left
              focus (intro z hSw; clear hSw; go_simp; try with_reducible rfl)
              try simp only [Act.put, List.setIfInBounds_toArray, List.set_cons_zero, List.set_cons_succ]
              refine wpAnyH_take (i := 14) (oi := ⟨some 81, Op.load 3 (Operand.tmp 80), 3, "outright.go:130", #[⟨13, .data⟩, ⟨9, .guard⟩], some (9, true)⟩) (v := ?_) rfl (by kernel_rfl) (by kernel_rfl) (by kernel_rfl) (fun _ _ _ h => h) (Or.inl ⟨by rfl, ?_⟩) hHeld ?_
              rotate_left
              focus (intro z hSw; have ct := HCI.out z hSw; have cq := HCJ.out z hSw; clear hSw; go_simp; try with_reducible rfl)
              try simp only [Act.put, List.setIfInBounds_toArray, List.set_cons_zero, List.set_cons_succ]
              refine wpAnyH_take (i := 15) (oi := ⟨some 82, Op.move (Operand.tmp 9), 30, "outright.go:130", #[⟨9, .guard⟩], some (9, true)⟩) (v := ?_) rfl (by kernel_rfl) (by kernel_rfl) (by kernel_rfl) (fun _ _ _ h => h) (Or.inl ⟨by rfl, ?_⟩) hHeld ?_
              rotate_left
              focus (intro z hSw; clear hSw; go_simp; try with_reducible rfl)
              try simp only [Act.put, List.setIfInBounds_toArray, List.set_cons_zero, List.set_cons_succ]
              refine wpAnyH_take (i := 16) (oi := ⟨some 83, Op.move (Operand.tmp 11), 3, "outright.go:130", #[⟨9, .guard⟩], some (9, true)⟩) (v := ?_) rfl (by kernel_rfl) (by kernel_rfl) (by kernel_rfl) (fun _ _ _ h => h) (Or.inl ⟨by rfl, ?_⟩) hHeld ?_
              rotate_left
              focus (intro z hSw; clear hSw; go_simp; try with_reducible rfl)
              try simp only [Act.put, List.setIfInBounds_toArray, List.set_cons_zero, List.set_cons_succ]
              refine wpAnyH_take (i := 17) (oi := ⟨some 84, Op.binOp BinOp.sub 3 (Operand.tmp 83) (Operand.const (Value.int IntKind.i64 1)) 3, 3, "outright.go:130", #[⟨16, .data⟩, ⟨9, .guard⟩], some (9, true)⟩) (v := ?_) rfl (by kernel_rfl) (by kernel_rfl) (by kernel_rfl) (fun _ _ _ h => h) (Or.inl ⟨by rfl, ?_⟩) hHeld ?_
              rotate_left
              focus (intro z hSw; clear hSw; go_simp; try with_reducible rfl)
              try simp only [Act.put, List.setIfInBounds_toArray, List.set_cons_zero, List.set_cons_succ]
              refine wpAnyH_take (i := 18) (oi := ⟨some 85, Op.indexAddr 30 (Operand.tmp 82) (Operand.tmp 84), 0, "outright.go:130", #[⟨15, .data⟩, ⟨17, .data⟩, ⟨9, .guard⟩], some (9, true)⟩) (v := ?_) rfl (by kernel_rfl) (by kernel_rfl) (by kernel_rfl) (fun _ _ _ h => h) (Or.inl ⟨by rfl, ?_⟩) hHeld ?_
              rotate_left
              focus (intro z hSw; clear hSw; go_simp; try with_reducible rfl)
              try simp only [Act.put, List.setIfInBounds_toArray, List.set_cons_zero, List.set_cons_succ]
              refine wpAnyH_take (i := 19) (oi := ⟨some 86, Op.fieldAddr 28 (Operand.tmp 85) 0, 0, "outright.go:130", #[⟨18, .data⟩, ⟨9, .guard⟩], some (9, true)⟩) (v := ?_) rfl (by kernel_rfl) (by kernel_rfl) (by kernel_rfl) (fun _ _ _ h => h) (Or.inl ⟨by rfl, ?_⟩) hHeld ?_
              rotate_left
              focus (intro z hSw; clear hSw; go_simp; try with_reducible rfl)
              try simp only [Act.put, List.setIfInBounds_toArray, List.set_cons_zero, List.set_cons_succ]
              refine wpAnyH_take (i := 20) (oi := ⟨some 87, Op.load 3 (Operand.tmp 86), 3, "outright.go:130", #[⟨19, .data⟩, ⟨9, .guard⟩], some (9, true)⟩) (v := ?_) rfl (by kernel_rfl) (by kernel_rfl) (by kernel_rfl) (fun _ _ _ h => h) (Or.inl ⟨by rfl, ?_⟩) hHeld ?_
              rotate_left
              focus (intro z hSw; have ct := HCI.out z hSw; have cq := HCJ.out z hSw; clear hSw; go_simp; try with_reducible rfl)
              try simp only [Act.put, List.setIfInBounds_toArray, List.set_cons_zero, List.set_cons_succ]
              refine wpAnyH_take (i := 21) (oi := ⟨some 88, Op.binOp BinOp.gtr 3 (Operand.tmp 81) (Operand.tmp 87) 3, 4, "outright.go:130", #[⟨14, .data⟩, ⟨20, .data⟩, ⟨9, .guard⟩], some (9, true)⟩) (v := ?_) rfl (by kernel_rfl) (by kernel_rfl) (by kernel_rfl) (fun _ _ _ h => h) (Or.inl ⟨by rfl, ?_⟩) hHeld ?_
              rotate_left
              focus (intro z hSw; clear hSw; go_simp; try with_reducible rfl)
              try simp only [Act.put, List.setIfInBounds_toArray, List.set_cons_zero, List.set_cons_succ]
              simp only [Int.not_lt.2 (show ti ≤ tj by omega), decide_false]
              refine wpAnyH_take (i := 22) (oi := ⟨some 89, Op.move (Operand.tmp 88), 4, "outright.go:130", #[⟨21, .data⟩, ⟨9, .chain⟩, ⟨9, .guard⟩], some (9, true)⟩) (v := ?_) rfl (by kernel_rfl) (by kernel_rfl) (by kernel_rfl) (fun _ _ _ h => h) (Or.inl ⟨by rfl, ?_⟩) hHeld ?_
              rotate_left
              focus (intro z hSw; clear hSw; go_simp; try with_reducible rfl)
              try simp only [Act.put, List.setIfInBounds_toArray, List.set_cons_zero, List.set_cons_succ]
              refine wpAnyH_take (i := 23) (oi := ⟨some 90, Op.move (Operand.tmp 9), 30, "outright.go:130", #[⟨22, .guard⟩], some (22, false)⟩) (v := ?_) rfl (by kernel_rfl) (by kernel_rfl) (by kernel_rfl) (fun _ _ _ h => h) (Or.inl ⟨by rfl, ?_⟩) hHeld ?_
              rotate_left
              focus (intro z hSw; clear hSw; go_simp; try with_reducible rfl)
              try simp only [Act.put, List.setIfInBounds_toArray, List.set_cons_zero, List.set_cons_succ]
              refine wpAnyH_take (i := 24) (oi := ⟨some 91, Op.move (Operand.tmp 11), 3, "outright.go:130", #[⟨22, .guard⟩], some (22, false)⟩) (v := ?_) rfl (by kernel_rfl) (by kernel_rfl) (by kernel_rfl) (fun _ _ _ h => h) (Or.inl ⟨by rfl, ?_⟩) hHeld ?_
              rotate_left
              focus (intro z hSw; clear hSw; go_simp; try with_reducible rfl)
              try simp only [Act.put, List.setIfInBounds_toArray, List.set_cons_zero, List.set_cons_succ]
              refine wpAnyH_take (i := 25) (oi := ⟨some 92, Op.indexAddr 30 (Operand.tmp 90) (Operand.tmp 91), 0, "outright.go:130", #[⟨23, .data⟩, ⟨24, .data⟩, ⟨22, .guard⟩], some (22, false)⟩) (v := ?_) rfl (by kernel_rfl) (by kernel_rfl) (by kernel_rfl) (fun _ _ _ h => h) (Or.inl ⟨by rfl, ?_⟩) hHeld ?_
              rotate_left
              focus (intro z hSw; clear hSw; go_simp; try with_reducible rfl)
              try simp only [Act.put, List.setIfInBounds_toArray, List.set_cons_zero, List.set_cons_succ]
              refine wpAnyH_take (i := 26) (oi := ⟨some 93, Op.load 28 (Operand.tmp 92), 28, "outright.go:130", #[⟨25, .data⟩, ⟨22, .guard⟩], some (22, false)⟩) rfl (by kernel_rfl) (by kernel_rfl) (by kernel_rfl) (fun _ _ _ h => h) (yieldsIf_ld (by rfl) 28 _ rfl _ rfl (fun z hSw => LDI.out z hSw)) hHeld ?_
              try simp only [Act.put, List.setIfInBounds_toArray, List.set_cons_zero, List.set_cons_succ]
              refine wpAnyH_take (i := 27) (oi := ⟨some 94, Op.move (Operand.tmp 9), 30, "outright.go:130", #[⟨22, .guard⟩], some (22, false)⟩) (v := ?_) rfl (by kernel_rfl) (by kernel_rfl) (by kernel_rfl) (fun _ _ _ h => h) (Or.inl ⟨by rfl, ?_⟩) hHeld ?_
              rotate_left
              focus (intro z hSw; clear hSw; go_simp; try with_reducible rfl)
              try simp only [Act.put, List.setIfInBounds_toArray, List.set_cons_zero, List.set_cons_succ]
              refine wpAnyH_take (i := 28) (oi := ⟨some 95, Op.move (Operand.tmp 11), 3, "outright.go:130", #[⟨22, .guard⟩], some (22, false)⟩) (v := ?_) rfl (by kernel_rfl) (by kernel_rfl) (by kernel_rfl) (fun _ _ _ h => h) (Or.inl ⟨by rfl, ?_⟩) hHeld ?_
              rotate_left
              focus (intro z hSw; clear hSw; go_simp; try with_reducible rfl)
              try simp only [Act.put, List.setIfInBounds_toArray, List.set_cons_zero, List.set_cons_succ]
              refine wpAnyH_take (i := 29) (oi := ⟨some 96, Op.binOp BinOp.sub 3 (Operand.tmp 95) (Operand.const (Value.int IntKind.i64 1)) 3, 3, "outright.go:130", #[⟨28, .data⟩, ⟨22, .guard⟩], some (22, false)⟩) (v := ?_) rfl (by kernel_rfl) (by kernel_rfl) (by kernel_rfl) (fun _ _ _ h => h) (Or.inl ⟨by rfl, ?_⟩) hHeld ?_
              rotate_left
              focus (intro z hSw; clear hSw; go_simp; try with_reducible rfl)
              try simp only [Act.put, List.setIfInBounds_toArray, List.set_cons_zero, List.set_cons_succ]
              refine wpAnyH_take (i := 30) (oi := ⟨some 97, Op.indexAddr 30 (Operand.tmp 94) (Operand.tmp 96), 0, "outright.go:130", #[⟨27, .data⟩, ⟨29, .data⟩, ⟨22, .guard⟩], some (22, false)⟩) (v := ?_) rfl (by kernel_rfl) (by kernel_rfl) (by kernel_rfl) (fun _ _ _ h => h) (Or.inl ⟨by rfl, ?_⟩) hHeld ?_
              rotate_left
              focus (intro z hSw; clear hSw; go_simp; try with_reducible rfl)
              try simp only [Act.put, List.setIfInBounds_toArray, List.set_cons_zero, List.set_cons_succ]
              refine wpAnyH_take (i := 31) (oi := ⟨some 98, Op.load 28 (Operand.tmp 97), 28, "outright.go:130", #[⟨30, .data⟩, ⟨22, .guard⟩], some (22, false)⟩) rfl (by kernel_rfl) (by kernel_rfl) (by kernel_rfl) (fun _ _ _ h => h) (yieldsIf_ld (by rfl) 28 _ rfl _ rfl (fun z hSw => LDJ.out z hSw)) hHeld ?_
              try simp only [Act.put, List.setIfInBounds_toArray, List.set_cons_zero, List.set_cons_succ]
              refine wpAnyH_ready (rs := [32]) (by kernel_rfl) (by simp) ?_
              refine AllReadyH.cons (o := ⟨some 99, Op.call { callee := Callee.value (Operand.func 21), args := #[Operand.tmp 93, Operand.tmp 98], argTypes := #[28, 28] }, 4, "outright.go:130", #[⟨26, .data⟩, ⟨31, .data⟩, ⟨22, .chain⟩, ⟨22, .guard⟩], some (22, false)⟩) rfl (fun K hK => ?_) AllReadyH.nil
              go_simp
              refine (HSM.out _ hHeld).mono ?_
              rintro r wn ⟨rfl, fn⟩
              refine hK.out _ _ ?_ (fun hNext => ?_)
              · exact hHeld.trans fn (by simp)
              clear hK K hHeld
              have hHeld := hNext
              clear hNext
              try simp only [Act.put, List.setIfInBounds_toArray, List.set_cons_zero, List.set_cons_succ]
              refine wpAnyH_take (i := 33) (oi := ⟨some 100, Op.pick (Operand.tmp 89) (Operand.const (Value.bool true)) (Operand.tmp 99), 4, "outright.go:130", #[⟨22, .data⟩, ⟨32, .data⟩, ⟨9, .guard⟩], some (9, true)⟩) (v := ?_) rfl (by kernel_rfl) (by kernel_rfl) (by kernel_rfl) (fun _ _ _ h => h) (Or.inl ⟨by rfl, ?_⟩) hHeld ?_
              rotate_left
              focus (intro z hSw; clear hSw; go_simp; try with_reducible rfl)
              try simp only [Act.put, List.setIfInBounds_toArray, List.set_cons_zero, List.set_cons_succ]
              refine wpAnyH_take (i := 34) (oi := ⟨some 101, Op.pick (Operand.tmp 76) (Operand.tmp 100) (Operand.const (Value.bool false)), 4, "outright.go:130", #[⟨9, .data⟩, ⟨33, .data⟩, ⟨6, .guard⟩], some (6, false)⟩) (v := ?_) rfl (by kernel_rfl) (by kernel_rfl) (by kernel_rfl) (fun _ _ _ h => h) (Or.inl ⟨by rfl, ?_⟩) hHeld ?_
              rotate_left
              focus (intro z hSw; clear hSw; go_simp; try with_reducible rfl)
              try simp only [Act.put, List.setIfInBounds_toArray, List.set_cons_zero, List.set_cons_succ]
              refine wpAnyH_take (i := 35) (oi := ⟨some 102, Op.pick (Operand.tmp 73) (Operand.const (Value.bool true)) (Operand.tmp 101), 4, "outright.go:130", #[⟨6, .data⟩, ⟨34, .data⟩], none⟩) (v := ?_) rfl (by kernel_rfl) (by kernel_rfl) (by kernel_rfl) (fun _ _ _ h => h) (Or.inl ⟨by rfl, ?_⟩) hHeld ?_
              rotate_left
              focus (intro z hSw; clear hSw; go_simp; try with_reducible rfl)
              try simp only [Act.put, List.setIfInBounds_toArray, List.set_cons_zero, List.set_cons_succ]
              refine wpAnyH_done (by kernel_rfl) ?_ _
              go_wp2_with fail
              go_roundw
              case rel => exact HNX.out _ hHeld
              case measure => simp [intOf]; have := HLT.out; omega
          · obtain rfl : i = B.length := by omega
            have F7 := Lib.hid f7
            clear f7 hlt hib
            generalize wr = wB at *
            go_wp2_with fail
            go_loopw [12] (fun cv wr => ∃ i : Nat, cv = .int .i64 i ∧ i ≤ l.length ∧ Frm [] wB wr) (fun cv _ => l.length - (intOf cv).toNat)
            case atStart => exact ⟨0, rfl, by omega, Frm.refl _ _⟩
            case round =>
              obtain ⟨i, rfl, hil, f8⟩ := hrel
              by_cases hlt : i < l.length
              · have hlt' : (i : Int) < (l.length : Int) := by omega
                have hi9 : (i : Int) ≤ 20 := by omega
                have U8 := Lib.hid (HV1.out.keep0 ((F16.out.trans F7.out (by simp)).trans f8 (by simp)))
                obtain ⟨b8, o8, cp8, e⟩ := U8.out.at (by omega)
                injection e with e1 e2 e3
                subst e1; subst e3
                obtain ⟨ia, ic, ldi, hui, hci⟩ := U8.out.loadw i hlt
                have hmi : l[i] ∈ l := List.getElem_mem hlt
                have HCT := Lib.hid (HCN.out _ hmi)
                have HAI := Lib.hid (HFL.out.2 _ hmi)
                have HNX := Lib.hid (show ∀ z, Frm [] wr z → ∃ q : Nat, Value.int .i64 ((i : Int) + 1) = .int .i64 (q : Int) ∧ q ≤ l.length ∧ Frm [] wB z from fun z fz => ⟨i + 1, by go_num, hlt, f8.trans fz (by simp)⟩)
                have HLT := Lib.hid hlt
                have LDI := Lib.hid ldi
                have HUI := Lib.hid hui
                have UB8 := Lib.hid (UB6.out.keep0 (F7.out.trans f8 (by simp)))
                clear hmi hci ldi hui hil f8
                generalize l[i] = u at *
                clear hlt
                generalize wr = wC at *
                go_wp2_with fail
                go_loopw [13, 14] (fun nv cv wr => ∃ k : Nat, cv = .int .i64 k ∧ k ≤ B.length ∧ nv = .int .i64 (cntU (B.take k) u : Nat) ∧ Frm [] wC wr) (fun _ cv _ => B.length - (intOf cv).toNat)
                case atStart => exact ⟨0, rfl, by omega, rfl, Frm.refl _ _⟩
                case round =>
                  obtain ⟨k, rfl, hkb, rfl, f9⟩ := hrel
                  by_cases hk : k < B.length
                  · have hk' : (k : Int) < (B.length : Int) := by omega
                    have hk9 : (k : Int) ≤ 20 := by omega
                    have U9 := Lib.hid (UB8.out.keep0 f9)
                    obtain ⟨b9, o9, cp9, e⟩ := U9.out.at (by omega)
                    injection e with e1 e2 e3
                    subst e1; subst e3
                    obtain ⟨ka, kc, ldk, huk, hck⟩ := U9.out.loadw k hk
                    have HSM := Lib.hid (fun z (fz : Frm [] wr z) => USame_any _ _ B[k] u z (huk.keep0 fz) (HUI.out.keep0 (f9.trans fz (by simp))) (HBA.out _ (List.getElem_mem hk)))
                    have HTK := Lib.hid (cntU_take (u := u) hk)
                    have LDK := Lib.hid ldk
                    have LDU := Lib.hid (show ∀ z, Frm [] wr z → (Instr.loadAt 28 (.pointer (some ⟨b8, o8 + i * 69, none⟩))).run Tryz.prog z = .ok (uv (.slice ia u.root.ads.length ic) u) z from fun z fz => LDI.out z (f9.trans fz (by simp)))
                    have HCL := cntU_le (B.take k) u
                    rw [List.length_take, Nat.min_eq_left hkb] at HCL
                    have F9 := Lib.hid f9
                    have HK := Lib.hid hk
                    have hcl : (cntU (B.take k) u : Int) ≤ 20 := by omega
                    obtain ⟨n1, hn1⟩ : ∃ n1, cntU (B.take (k + 1)) u = n1 := ⟨_, rfl⟩
                    have HCE := Lib.hid hn1
                    rw [hn1] at HTK
                    generalize cntU (B.take k) u = n0 at *
                    have hcl0 : (0 : Int) ≤ (n0 : Int) := by omega
                    have HN1 := Lib.hid HTK.out
                    clear hn1
                    have HNK := Lib.hid (show ∀ z, Frm [] wr z → ∃ q : Nat, Value.int .i64 ((k : Int) + 1) = .int .i64 (q : Int) ∧ q ≤ B.length ∧ Value.int .i64 (n1 : Int) = .int .i64 ((cntU (B.take q) u : Nat) : Int) ∧ Frm [] wC z from fun z fz => ⟨k + 1, by go_num, HK.out, by rw [HCE.out], F9.out.trans fz (by simp)⟩)
                    generalize sameU B[k] u = sm at *
                    generalize B[k] = bk at *
                    clear ldk huk hck f9 hk hkb HTK HCE
                    go_wp2_with fail
                    refine wp_region_held_drew (S := fun z => Frm [] wr z) (by kernel_rfl) ((Frm.refl [] wr).drew) (fun hHeld => ?_)
                    refine wpAnyH_take (i := 0) (oi := ⟨some 115, Op.move (Operand.tmp 9), 30, "outright.go:137", #[], none⟩) (v := ?_) rfl (by kernel_rfl) (by kernel_rfl) (by kernel_rfl) (fun _ _ _ h => h) (Or.inl ⟨by rfl, ?_⟩) hHeld ?_
                    rotate_left
                    focus (intro z hSw; clear hSw; go_simp; try with_reducible rfl)
                    try simp only [Act.put, List.setIfInBounds_toArray, List.set_cons_zero, List.set_cons_succ]
                    refine wpAnyH_take (i := 1) (oi := ⟨some 116, Op.move (Operand.tmp 14), 3, "outright.go:137", #[], none⟩) (v := ?_) rfl (by kernel_rfl) (by kernel_rfl) (by kernel_rfl) (fun _ _ _ h => h) (Or.inl ⟨by rfl, ?_⟩) hHeld ?_
                    rotate_left
                    focus (intro z hSw; clear hSw; go_simp; try with_reducible rfl)
                    try simp only [Act.put, List.setIfInBounds_toArray, List.set_cons_zero, List.set_cons_succ]
                    refine wpAnyH_take (i := 2) (oi := ⟨some 117, Op.indexAddr 30 (Operand.tmp 115) (Operand.tmp 116), 0, "outright.go:137", #[⟨0, .data⟩, ⟨1, .data⟩], none⟩) (v := ?_) rfl (by kernel_rfl) (by kernel_rfl) (by kernel_rfl) (fun _ _ _ h => h) (Or.inl ⟨by rfl, ?_⟩) hHeld ?_
                    rotate_left
                    focus (intro z hSw; clear hSw; go_simp; try with_reducible rfl)
                    try simp only [Act.put, List.setIfInBounds_toArray, List.set_cons_zero, List.set_cons_succ]
                    refine wpAnyH_take (i := 3) (oi := ⟨some 118, Op.load 28 (Operand.tmp 117), 28, "outright.go:137", #[⟨2, .data⟩], none⟩) rfl (by kernel_rfl) (by kernel_rfl) (by kernel_rfl) (fun _ _ _ h => h) (yieldsIf_ld (by rfl) 28 _ rfl _ rfl (fun z hSw => LDK.out z hSw)) hHeld ?_
                    try simp only [Act.put, List.setIfInBounds_toArray, List.set_cons_zero, List.set_cons_succ]
                    refine wpAnyH_take (i := 4) (oi := ⟨some 119, Op.move (Operand.tmp 0), 30, "outright.go:137", #[], none⟩) (v := ?_) rfl (by kernel_rfl) (by kernel_rfl) (by kernel_rfl) (fun _ _ _ h => h) (Or.inl ⟨by rfl, ?_⟩) hHeld ?_
                    rotate_left
                    focus (intro z hSw; clear hSw; go_simp; try with_reducible rfl)
                    try simp only [Act.put, List.setIfInBounds_toArray, List.set_cons_zero, List.set_cons_succ]
                    refine wpAnyH_take (i := 5) (oi := ⟨some 120, Op.move (Operand.tmp 12), 3, "outright.go:137", #[], none⟩) (v := ?_) rfl (by kernel_rfl) (by kernel_rfl) (by kernel_rfl) (fun _ _ _ h => h) (Or.inl ⟨by rfl, ?_⟩) hHeld ?_
                    rotate_left
                    focus (intro z hSw; clear hSw; go_simp; try with_reducible rfl)
                    try simp only [Act.put, List.setIfInBounds_toArray, List.set_cons_zero, List.set_cons_succ]
                    refine wpAnyH_take (i := 6) (oi := ⟨some 121, Op.indexAddr 30 (Operand.tmp 119) (Operand.tmp 120), 0, "outright.go:137", #[⟨4, .data⟩, ⟨5, .data⟩], none⟩) (v := ?_) rfl (by kernel_rfl) (by kernel_rfl) (by kernel_rfl) (fun _ _ _ h => h) (Or.inl ⟨by rfl, ?_⟩) hHeld ?_
                    rotate_left
                    focus (intro z hSw; clear hSw; go_simp; try with_reducible rfl)
                    try simp only [Act.put, List.setIfInBounds_toArray, List.set_cons_zero, List.set_cons_succ]
                    refine wpAnyH_take (i := 7) (oi := ⟨some 122, Op.load 28 (Operand.tmp 121), 28, "outright.go:137", #[⟨6, .data⟩], none⟩) rfl (by kernel_rfl) (by kernel_rfl) (by kernel_rfl) (fun _ _ _ h => h) (yieldsIf_ld (by rfl) 28 _ rfl _ rfl (fun z hSw => LDU.out z hSw)) hHeld ?_
                    try simp only [Act.put, List.setIfInBounds_toArray, List.set_cons_zero, List.set_cons_succ]
                    refine wpAnyH_ready (rs := [8]) (by kernel_rfl) (by simp) ?_
                    refine AllReadyH.cons (o := ⟨some 123, Op.call { callee := Callee.value (Operand.func 21), args := #[Operand.tmp 118, Operand.tmp 122], argTypes := #[28, 28] }, 4, "outright.go:137", #[⟨3, .data⟩, ⟨7, .data⟩], none⟩) rfl (fun K hK => ?_) AllReadyH.nil
                    go_simp
                    refine (HSM.out _ hHeld).mono ?_
                    rintro r wn ⟨rfl, fn⟩
                    refine hK.out _ _ ?_ (fun hNext => ?_)
                    · exact hHeld.trans fn (by simp)
                    clear hK K hHeld
                    have hHeld := hNext
                    clear hNext
                    try simp only [Act.put, List.setIfInBounds_toArray, List.set_cons_zero, List.set_cons_succ]
                    refine wpAnyH_done (by kernel_rfl) ?_ _
                    cases sm with
                    | true =>
                      have hn1 : (n1 : Int) = (n0 : Int) + 1 := by have := HN1.out; simp at this; omega
                      have hwn : IntKind.i64.wrap ((n0 : Int) + 1) = (n0 : Int) + 1 := IntWalk.i64_in _ (by omega)
                      rw [hn1] at HNK
                      clear hn1
                      go_wp2_with fail
                      go_roundw
                      case rel => exact HNK.out _ hHeld
                      case measure => simp [intOf]; have := HK.out; omega
                    | false =>
                      have hn1 : (n1 : Int) = (n0 : Int) := by have := HN1.out; simp at this; omega
                      rw [hn1] at HNK
                      clear hn1
                      go_wp2_with fail
                      go_roundw
                      case rel => exact HNK.out _ hHeld
                      case measure => simp [intOf]; have := HK.out; omega
                  · obtain rfl : k = B.length := by omega
                    have F9 := Lib.hid f9
                    rw [List.take_length, HCT.out]
                    clear f9 hk hkb
                    have HCK := Lib.hid (Check_any _ u wr (HUI.out.keep0 F9.out) HAI.out)
                    have LDR := Lib.hid (LDI.out wr F9.out)
                    by_cases hm : mayUB u = true
                    · rw [if_pos hm, show mayE u = 0 by unfold mayE; rw [if_pos hm]] at *
                      clear hm HCT
                      go_wp2_with (first
                        | ((with_reducible (show wpList _ _ _ (Oper.mk _ (Op.load 28 _) _ _ _ _ :: _) _ _)); refine wpList_load_g (by rfl) 28 _ rfl _ rfl LDR.out ?_)
                        | (go_at_call 19; with_reducible refine Calls.mono HCK.out ?_; rintro r w9 ⟨rfl, f9⟩; have FZ := Lib.hid (F9.out.trans f9 (by simp)); clear f9))
                      go_roundw
                      case rel => exact HNX.out _ FZ.out
                      case measure => simp [intOf]; have := HLT.out; omega
                    · rw [if_neg hm, show mayE u = 2 by unfold mayE; rw [if_neg hm]] at *
                      clear hm HCT
                      go_wp2_with (first
                        | ((with_reducible (show wpList _ _ _ (Oper.mk _ (Op.load 28 _) _ _ _ _ :: _) _ _)); refine wpList_load_g (by rfl) 28 _ rfl _ rfl LDR.out ?_)
                        | (go_at_call 19; with_reducible refine Calls.mono HCK.out ?_; rintro r w9 ⟨rfl, f9⟩; have FZ := Lib.hid (F9.out.trans f9 (by simp)); clear f9))
                      go_roundw
                      case rel => exact HNX.out _ FZ.out
                      case measure => simp [intOf]; have := HLT.out; omega
              · obtain rfl : i = l.length := by omega
                have F8 := Lib.hid (FW16.out.trans (F7.out.trans f8 (by simp)) (by simp))
                clear f8
                go_wp2_with fail
                go_ret
                exact ⟨rfl, F8.out⟩
end Go.Proofs.YtjdejhgfkjeeiaaGreatDoor
