/-
  errors.Join of two errors. No conditions but those that each theorem names.
-/
import Derived.Test.YtjdejhgfkjeeiaaGreatDoorUE
import Derived.Test.YtjdejhgfkjeeiaaGreatDoorFB
namespace Go.Proofs.YtjdejhgfkjeeiaaGreatDoor
open Go.RowKit
set_option linter.unusedVariables false
set_option linter.unusedSimpArgs false
set_option maxRecDepth 100000

open Kr (OwnE SlE Enco RowTys)
abbrev Er := { v : Value // ∃ u x, v = .iface u x }
def eE (x : Er) : List Value := [x.1]
theorem encE : Enco eE 1 where
  len x := rfl
  one x u hu := by
    obtain ⟨v, a, b, rfl⟩ := x
    simp [eE] at hu; subst hu; rfl
  pos := by omega
  inj x y h := Subtype.ext (by simpa [eE] using h)
theorem tysE : RowTys Tryz.prog 185 93 1 16 := ⟨Tryz.underlying185, .nilIface, by kernel_rfl, by kernel_rfl⟩
theorem make147a (W : World) : (Instr.makeSlice 185 (.int .i64 0) (.int .i64 1)).run Tryz.prog W = .ok (.slice (some ⟨W.heap.size, 0, none⟩) 0 1) (W.alloc (.cells #[.nilIface] 93)) := by kernel_rfl
theorem make147b (W : World) : (Instr.makeSlice 185 (.int .i64 0) (.int .i64 2)).run Tryz.prog W = .ok (.slice (some ⟨W.heap.size, 0, none⟩) 0 2) (W.alloc (.cells #[.nilIface, .nilIface] 93)) := by kernel_rfl
/-- What two errors are joined to. -/
def JoinP (X : List Nat) (L : List Addr) (w : World) (r : Ending) (w' : World) : Prop := ∃ E, r = .returned E ∧ ErrT w' X E L ∧ Frm [] w w'
/-- A joined error as it is put together. -/
def JRel (w0 : World) (B : Nat) (es : List Er) (w : World) : Prop := ∃ a cap sp, w.heap[B]? = some (.cells #[.slice a es.length cap] 188 (0, 0)) ∧ OwnE eE 1 93 w (.slice a es.length cap) es sp ∧ (∀ i ∈ blk (.slice a es.length cap), w0.heap.size ≤ i ∧ i ≠ B) ∧ Frm [] w0 w ∧ w0.heap.size ≤ B
theorem JRel.start (w : World) (n : Nat) (hn : n ≤ 9) : JRel w (w.heap.size + 1) [] ((w.alloc (.cells (Array.replicate n .nilIface) 93)).alloc (.cells #[.slice (some ⟨w.heap.size, 0, none⟩) 0 n] 188)) := by
  refine ⟨some ⟨w.heap.size, 0, none⟩, n, List.replicate n .nilIface, heap_alloc_at (by simp), OwnE.of_heap encE ?_ rfl (by simp) (by simp) (by simp only [maxLen]; omega), ?_, ((Frm.refl [] w).alloc _).alloc _, by omega⟩
  · refine heap_alloc_lt ?_
    rw [show Kr.flt eE [] ++ List.replicate n Value.nilIface = List.replicate n Value.nilIface from rfl, List.toArray_replicate]
    exact heap_alloc_new _ _
  · intro i hi
    simp [blk] at hi
    omega
theorem JRel.one {w0 w : World} {B : Nat} {X : List Nat} {S : Er} {L : List Addr} (h : JRel w0 B [S] w) (hX : ∀ i ∈ X, i < w0.heap.size) (hS : ErrT w X S.1 L) : ErrT w X (.iface 186 (.pointer (some ⟨B, 0, none⟩))) L := by
  obtain ⟨a, cap, sp, h1, ⟨h2, h3 | ⟨g, cap', h4, h5, h6, h7, h8⟩⟩, hb, _, hB0⟩ := h
  · simp at h3
  · simp only [List.length_singleton] at h4
    cases h4
    have hg := (hb g (by simp [blk])).1
    refine .one B g cap S.1 L ⟨fun k => by have := hX B k; omega, fun k => by have := hX g k; omega⟩ (by rw [cell_of_heap h1]; rfl) ?_ hS
    rw [cell_of_heap h8]; rfl
theorem JRel.two {w0 w : World} {B : Nat} {X : List Nat} {S S2 : Er} {L L2 : List Addr} (h : JRel w0 B [S, S2] w) (hX : ∀ i ∈ X, i < w0.heap.size) (hS : ErrT w X S.1 L) (hS2 : ErrT w X S2.1 L2) : ErrT w X (.iface 186 (.pointer (some ⟨B, 0, none⟩))) (L ++ L2) := by
  obtain ⟨a, cap, sp, h1, ⟨h2, h3 | ⟨g, cap', h4, h5, h6, h7, h8⟩⟩, hb, _, hB0⟩ := h
  · simp at h3
  · simp only [List.length_cons, List.length_nil, Nat.zero_add, Nat.reduceAdd] at h4
    cases h4
    have hg := (hb g (by simp [blk])).1
    refine .two B g cap S.1 S2.1 L L2 ⟨fun k => by have := hX B k; omega, fun k => by have := hX g k; omega⟩ (by rw [cell_of_heap h1]; rfl) ?_ ?_ hS hS2
    · rw [cell_of_heap h8]; rfl
    · rw [cell_of_heap h8]; rfl
theorem JRel.frm {w0 w : World} {B : Nat} {es : List Er} (h : JRel w0 B es w) : Frm [] w0 w := by
  obtain ⟨_, _, _, _, _, _, f, _⟩ := h
  exact f
/-- Behind an append and a store. -/
theorem JRel.step {w0 w w' : World} {B : Nat} {es : List Er} {x : Er} {a a' : Option Addr} {cap cap' n : Nat} {sp' : List Value} (hB : w.heap[B]? = some (.cells #[.slice a es.length cap] 188 (0, 0))) (hb : ∀ i ∈ blk (.slice a es.length cap), w0.heap.size ≤ i ∧ i ≠ B) (f0 : Frm [] w0 w) (hB0 : w0.heap.size ≤ B)
    (o : OwnE eE 1 93 w' (.slice a' n cap') (es ++ [x]) sp') (hn : n = (es ++ [x]).length) (f : Frm (blk (.slice a es.length cap)) w w') (hb2 : ∀ i ∈ blk (.slice a' n cap'), i ∈ blk (.slice a es.length cap) ∨ w.heap.size ≤ i) :
    JRel w0 B (es ++ [x]) (w'.setCell ⟨B, 0, none⟩ (.slice a' n cap')) := by
  subst hn
  have h1 := f.heap hB (fun h => (hb B h).2 rfl)
  have hlt := lt_heap hB
  have hs := f0.size
  have fs : Frm [B] w' (w'.setCell ⟨B, 0, none⟩ (.slice a' (es ++ [x]).length cap')) := (Frm.refl _ _).setCell _ _ (by simp)
  have hnB : ∀ i ∈ blk (.slice a' (es ++ [x]).length cap'), w0.heap.size ≤ i ∧ i ≠ B := fun i hi => by
    rcases hb2 i hi with h | h
    · exact hb i h
    · exact ⟨by omega, by omega⟩
  refine ⟨a', cap', sp', by rw [heap_setCell_same _ h1]; rfl, o.keep fs (fun i hi => by have := (hnB i hi).2; simpa using this), hnB, ?_, hB0⟩
  exact (f0.trans f (fun i hi => .inr (hb i hi).1)).trans fs (fun i hi => .inr (by simp at hi; omega))
set_option maxHeartbeats 2000000 in
theorem Join_one (X : List Nat) (g : Nat) (S : Er) (L : List Addr) (w : World) (hX : ∀ i ∈ X, i < w.heap.size) (hg : w.heap[g]? = some (.cells #[.nilIface, S.1] 93 (0, 0))) (hS : ErrT w X S.1 L) :
    Calls Tryz.prog 145 #[.slice (some ⟨g, 0, none⟩) 2 2] w (JoinP X L w) := by
  have C0 := Lib.hid (show w.cell? ⟨g, 0, none⟩ = some .nilIface by rw [cell_of_heap hg]; rfl)
  have C1 := Lib.hid (show w.cell? ⟨g, 1, none⟩ = some S.1 by rw [cell_of_heap hg]; rfl)
  obtain ⟨u, x, hux⟩ := S.2
  have HUX := Lib.hid hux
  rw [hux] at C1
  have HS := Lib.hid hS
  have HX := Lib.hid hX
  clear hg hS hX hux
  go_enter Tryz.func145, Tryz.ntmps145
  go_wp2_with fail
  go_loopw [3, 11] (fun n c wr => ∃ k : Nat, k ≤ 2 ∧ c = .int .i64 k ∧ n = .int .i64 (if k = 2 then 1 else 0) ∧ Frm [] w wr) (fun _ c _ => 2 - (intOf c).toNat)
  case atStart => exact ⟨0, by omega, rfl, rfl, Frm.refl _ _⟩
  case round =>
    obtain ⟨k, hk, rfl, rfl, fr⟩ := hrel
    generalize wr = wA at *
    match k, hk with
    | 0, _ =>
      have k0 := fr.cell C0.out (by simp)
      go_wp2_with fail
      go_roundw
      case rel => exact ⟨1, by omega, rfl, rfl, fr⟩
      case measure => simp [intOf]
    | 1, _ =>
      have k1 := fr.cell C1.out (by simp)
      go_wp2_with fail
      go_roundw
      case rel => exact ⟨2, by omega, rfl, rfl, fr⟩
      case measure => simp [intOf]
    | 2, _ =>
      simp only [if_true]
      have hm := make147a
      have J0 := Lib.hid (JRel.start wA 1 (by omega))
      have FR := Lib.hid fr
      clear fr
      go_wp2_with fail
      rw [show Array.replicate 1 Value.nilIface = #[.nilIface] from rfl] at J0
      generalize (wA.alloc (.cells #[.nilIface] 93)).alloc (.cells #[.slice (some ⟨wA.heap.size, 0, none⟩) 0 1] 188) = W0 at *
      generalize wA.heap.size + 1 = B at *
      go_loopw [28] (fun c wr => ∃ k : Nat, k ≤ 2 ∧ c = .int .i64 k ∧ JRel wA B (if k = 2 then [S] else []) wr) (fun c _ => 2 - (intOf c).toNat)
      case atStart => exact ⟨0, by omega, rfl, J0.out⟩
      case round =>
        obtain ⟨k, hk, rfl, hj⟩ := hrel
        generalize wr = wB at *
        match k, hk with
        | 0, _ =>
          have k0 := (FR.out.trans hj.frm (by simp)).cell C0.out (by simp)
          have HJ := Lib.hid hj
          clear hj
          go_wp2_with fail
          go_roundw
          case rel => exact ⟨1, by omega, rfl, HJ.out⟩
          case measure => simp [intOf]
        | 1, _ =>
          have k1 := (FR.out.trans hj.frm (by simp)).cell C1.out (by simp)
          simp only [show ¬ ((1 : Nat) = 2) by omega, if_false] at hj
          obtain ⟨a, cap, sp, hB, o, hb, f0, hB0⟩ := hj
          have kB : wB.cell? ⟨B, 0, none⟩ = some (.slice a 0 cap) := by rw [cell_of_heap hB]; rfl
          have fa : Frm [] wB (wB.alloc (.cells #[.iface u x] 93)) := (Frm.refl [] wB).alloc _
          have hs1 : SlE eE 1 (wB.alloc (.cells #[.iface u x] 93)) (.slice (some ⟨wB.heap.size, 0, none⟩) 1 1) [S] [] := SlE.of_block (T := 93) encE (by rw [Kr.flt_one, eE, HUX.out]; exact heap_alloc_new _ _) rfl (by decide)
          have HB := Lib.hid hB
          have HO := Lib.hid o
          have Hb := Lib.hid hb
          have HF0 := Lib.hid f0
          have HB0 := Lib.hid hB0
          have FA := Lib.hid fa
          have HS1 := Lib.hid hs1
          clear hB o hb f0 hB0 fa hs1 k1
          have k1 := (FR.out.trans HF0.out (by simp)).cell C1.out (by simp)
          go_wp2_with (at_builtin; refine Kr.wpList_append_e encE tysE (HO.out.keep0 FA.out) HS1.out (by simp) (by decide) rfl (.tmp 38) (.tmp 40) rfl rfl rfl ?_; intro a' cap' w' sp' o' f' b'; have hB1 := f'.heap (FA.out.heap HB.out (by simp)) (fun h => (Hb.out B h).2 rfl); have kB1 : w'.cell? ⟨B, 0, none⟩ = some (.slice a 0 cap) := (by rw [cell_of_heap hB1]; rfl); have kZ : w'.frozen? ⟨B, 0, none⟩ = false := frozen_of_heap hB1 0)
          go_roundw
          case rel =>
            repeat apply Exists.intro
            refine ⟨⟨2, by omega, rfl, ?_⟩, rfl⟩
            exact JRel.step (es := []) (FA.out.heap HB.out (by simp)) Hb.out (HF0.out.trans FA.out (by simp)) HB0.out o' rfl f' b'
          case measure => simp [intOf]
        | 2, _ =>
          simp only [if_true] at hj
          have f := FR.out.trans hj.frm (by simp)
          have e := hj.one (fun i hi => by have := HX.out i hi; have := FR.out.size; omega) (HS.out.keep0 f)
          go_wp2_with fail
          exact bodyPost_ret (v := .iface 186 (.pointer (some ⟨B, 0, none⟩))) (by simp [results, Tryz.results145, go_sem]) rfl ⟨_, rfl, e, f⟩
set_option maxHeartbeats 2000000 in
theorem Join_two (X : List Nat) (g : Nat) (S S2 : Er) (L L2 : List Addr) (w : World) (hX : ∀ i ∈ X, i < w.heap.size) (hg : w.heap[g]? = some (.cells #[S.1, S2.1] 93 (0, 0))) (hS : ErrT w X S.1 L) (hS2 : ErrT w X S2.1 L2) :
    Calls Tryz.prog 145 #[.slice (some ⟨g, 0, none⟩) 2 2] w (JoinP X (L ++ L2) w) := by
  have C0 := Lib.hid (show w.cell? ⟨g, 0, none⟩ = some S.1 by rw [cell_of_heap hg]; rfl)
  have C1 := Lib.hid (show w.cell? ⟨g, 1, none⟩ = some S2.1 by rw [cell_of_heap hg]; rfl)
  obtain ⟨u, x, hux⟩ := S.2
  obtain ⟨u2, x2, hux2⟩ := S2.2
  have HUX := Lib.hid hux
  have HUX2 := Lib.hid hux2
  rw [hux] at C0
  rw [hux2] at C1
  have HS := Lib.hid hS
  have HX := Lib.hid hX
  have HS2 := Lib.hid hS2
  clear hg hS hX hux hS2 hux2
  go_enter Tryz.func145, Tryz.ntmps145
  go_wp2_with fail
  go_loopw [3, 11] (fun n c wr => ∃ k : Nat, k ≤ 2 ∧ c = .int .i64 k ∧ n = .int .i64 k ∧ Frm [] w wr) (fun _ c _ => 2 - (intOf c).toNat)
  case atStart => exact ⟨0, by omega, rfl, rfl, Frm.refl _ _⟩
  case round =>
    obtain ⟨k, hk, rfl, rfl, fr⟩ := hrel
    generalize wr = wA at *
    match k, hk with
    | 0, _ =>
      have k0 := fr.cell C0.out (by simp)
      go_wp2_with fail
      go_roundw
      case rel => exact ⟨1, by omega, rfl, rfl, fr⟩
      case measure => simp [intOf]
    | 1, _ =>
      have k1 := fr.cell C1.out (by simp)
      go_wp2_with fail
      go_roundw
      case rel => exact ⟨2, by omega, rfl, rfl, fr⟩
      case measure => simp [intOf]
    | 2, _ =>
      have hm := make147b
      have J0 := Lib.hid (JRel.start wA 2 (by omega))
      have FR := Lib.hid fr
      clear fr
      go_wp2_with fail
      rw [show Array.replicate 2 Value.nilIface = #[.nilIface, .nilIface] from rfl] at J0
      generalize (wA.alloc (.cells #[.nilIface, .nilIface] 93)).alloc (.cells #[.slice (some ⟨wA.heap.size, 0, none⟩) 0 2] 188) = W0 at *
      generalize wA.heap.size + 1 = B at *
      go_loopw [28] (fun c wr => ∃ k : Nat, k ≤ 2 ∧ c = .int .i64 k ∧ JRel wA B ([S, S2].take k) wr) (fun c _ => 2 - (intOf c).toNat)
      case atStart => exact ⟨0, by omega, rfl, J0.out⟩
      case round =>
        obtain ⟨k, hk, rfl, hj⟩ := hrel
        generalize wr = wB at *
        match k, hk with
        | 0, _ =>
          rw [show [S, S2].take 0 = [] from rfl] at hj
          obtain ⟨a, cap, sp, hB, o, hb, f0, hB0⟩ := hj
          have kB : wB.cell? ⟨B, 0, none⟩ = some (.slice a 0 cap) := by rw [cell_of_heap hB]; rfl
          have fa : Frm [] wB (wB.alloc (.cells #[.iface u x] 93)) := (Frm.refl [] wB).alloc _
          have hs1 : SlE eE 1 (wB.alloc (.cells #[.iface u x] 93)) (.slice (some ⟨wB.heap.size, 0, none⟩) 1 1) [S] [] := SlE.of_block (T := 93) encE (by rw [Kr.flt_one, eE, HUX.out]; exact heap_alloc_new _ _) rfl (by decide)
          have HB := Lib.hid hB
          have HO := Lib.hid o
          have Hb := Lib.hid hb
          have HF0 := Lib.hid f0
          have HB0 := Lib.hid hB0
          have FA := Lib.hid fa
          have HS1 := Lib.hid hs1
          clear hB o hb f0 hB0 fa hs1
          have k1 := (FR.out.trans HF0.out (by simp)).cell C0.out (by simp)
          go_wp2_with (at_builtin; refine Kr.wpList_append_e encE tysE (HO.out.keep0 FA.out) HS1.out (by simp) (by decide) rfl (.tmp 38) (.tmp 40) rfl rfl rfl ?_; intro a' cap' w' sp' o' f' b'; have hB1 := f'.heap (FA.out.heap HB.out (by simp)) (fun h => (Hb.out B h).2 rfl); have kB1 : w'.cell? ⟨B, 0, none⟩ = some (.slice a 0 cap) := (by rw [cell_of_heap hB1]; rfl); have kZ : w'.frozen? ⟨B, 0, none⟩ = false := frozen_of_heap hB1 0)
          go_roundw
          case rel =>
            repeat apply Exists.intro
            refine ⟨⟨1, by omega, rfl, ?_⟩, rfl⟩
            exact JRel.step (es := []) (x := S) (FA.out.heap HB.out (by simp)) Hb.out (HF0.out.trans FA.out (by simp)) HB0.out o' rfl f' b'
          case measure => simp [intOf]
        | 1, _ =>
          rw [show [S, S2].take 1 = [S] from rfl] at hj
          obtain ⟨a, cap, sp, hB, o, hb, f0, hB0⟩ := hj
          have kB : wB.cell? ⟨B, 0, none⟩ = some (.slice a 1 cap) := by rw [cell_of_heap hB]; rfl
          have fa : Frm [] wB (wB.alloc (.cells #[.iface u2 x2] 93)) := (Frm.refl [] wB).alloc _
          have hs1 : SlE eE 1 (wB.alloc (.cells #[.iface u2 x2] 93)) (.slice (some ⟨wB.heap.size, 0, none⟩) 1 1) [S2] [] := SlE.of_block (T := 93) encE (by rw [Kr.flt_one, eE, HUX2.out]; exact heap_alloc_new _ _) rfl (by decide)
          have HB := Lib.hid hB
          have HO := Lib.hid o
          have Hb := Lib.hid hb
          have HF0 := Lib.hid f0
          have HB0 := Lib.hid hB0
          have FA := Lib.hid fa
          have HS1 := Lib.hid hs1
          clear hB o hb f0 hB0 fa hs1
          have k1 := (FR.out.trans HF0.out (by simp)).cell C1.out (by simp)
          go_wp2_with (at_builtin; refine Kr.wpList_append_e encE tysE (HO.out.keep0 FA.out) HS1.out (by simp) (by decide) rfl (.tmp 38) (.tmp 40) rfl rfl rfl ?_; intro a' cap' w' sp' o' f' b'; have hB1 := f'.heap (FA.out.heap HB.out (by simp)) (fun h => (Hb.out B h).2 rfl); have kB1 : w'.cell? ⟨B, 0, none⟩ = some (.slice a 1 cap) := (by rw [cell_of_heap hB1]; rfl); have kZ : w'.frozen? ⟨B, 0, none⟩ = false := frozen_of_heap hB1 0)
          go_roundw
          case rel =>
            repeat apply Exists.intro
            refine ⟨⟨2, by omega, rfl, ?_⟩, rfl⟩
            exact JRel.step (es := [S]) (x := S2) (FA.out.heap HB.out (by simp)) Hb.out (HF0.out.trans FA.out (by simp)) HB0.out o' rfl f' b'
          case measure => simp [intOf]
        | 2, _ =>
          rw [show [S, S2].take 2 = [S, S2] from rfl] at hj
          have f := FR.out.trans hj.frm (by simp)
          have e := hj.two (fun i hi => by have := HX.out i hi; have := FR.out.size; omega) (HS.out.keep0 f) (HS2.out.keep0 f)
          go_wp2_with fail
          exact bodyPost_ret (v := .iface 186 (.pointer (some ⟨B, 0, none⟩))) (by simp [results, Tryz.results145, go_sem]) rfl ⟨_, rfl, e, f⟩
end Go.Proofs.YtjdejhgfkjeeiaaGreatDoor
