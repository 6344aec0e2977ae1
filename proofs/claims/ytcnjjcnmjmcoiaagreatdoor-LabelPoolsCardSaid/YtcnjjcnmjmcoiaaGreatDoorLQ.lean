/-
  Contracts of the keys of a map of none. No conditions but those that each theorem names.
-/
import Derived.Test.YtcnjjcnmjmcoiaaGreatDoorLZ
import Derived.Test.YtcnjjcnmjmcoiaaGreatDoorHZ
import Derived.Sort.MapsRangeIn
import Derived.RangeFuncStops
import Derived.Carry
import Derived.DeepKeys4
import Derived.MapViews
namespace Go.Proofs.YtcnjjcnmjmcoiaaGreatDoor
open Go.RowKit Go.Maps
set_option linter.unusedVariables false
set_option linter.unusedSimpArgs false
set_option maxRecDepth 100000

theorem wide26 : (match Tryz.prog.underlying 26 with | some (.array _ _) | some (.struct _) => true | _ => false) = true := by kernel_rfl
theorem law26 : Keyed Tryz.prog 26 := Keyed.of_law (deep_law_laid (by kernel_rfl : laidOutB Tryz.prog = true) (m := 2) (by omega) (of_decide_eq_true (by kernel_rfl)) (by kernel_rfl) wide26)
def KpM (Bm b : Nat) (W W' : World) : Prop := W'.heap[Bm]? = W.heap[Bm]? ∧ W'.heap[b]? = W.heap[b]?
/-- The keys of a map that has none. -/
theorem keys_none (n : Nat) (hn : 1 ≤ n) (Bm b : Nat) (w : World) (hBm : Bm < w.heap.size) (hb : b < w.heap.size) (hm : w.heap[Bm]? = some (.cells #[.map (some b)] 53 (0, 0))) (hown : w.ownsMap Tryz.prog 26 (plainElem (H := Unit) Tryz.prog 3) b 0 (.map [])) :
    SeqStopsK Fence.wide n Tryz.prog 57 #[.pointer (some ⟨Bm, 0, none⟩)] (fun j : Hs.Idx 0 => #[Value.int .i64 0]) (KpM Bm b) (fun xs => xs = []) (fun _ => True) 0 w := fun l J Jx W hW hJ _ hY h0 => by
  have hown' : W.ownsMap Tryz.prog 26 (plainElem (H := Unit) Tryz.prog 3) b 0 (.map []) := by
    obtain ⟨es, clock, h1, rest⟩ := hown
    exact ⟨es, clock, (hW.block b hb).trans h1, rest⟩
  have hc : W.cell? ⟨Bm, 0, none⟩ = some (.map (some b)) := by rw [cell_of_heap ((hW.block Bm hBm).trans hm)]; rfl
  have HOWN := Lib.hid hown'
  have HJ := Lib.hid hJ
  have H0 := Lib.hid h0
  clear hown hown' hJ h0 hY hW hm
  refine callsIn_of_wp Tryz.func57 rfl trivial ?_ rfl
  simp only [Tryz.ntmps57, List.size_toArray, List.length_cons, List.length_nil, Nat.reduceAdd, Nat.reduceSub, Array.replicate_succ, Array.replicate_zero, List.push_toArray, List.append_toArray, List.nil_append, List.cons_append]
  gi_wp2_with (first
    | (gi_at_range; refine wpListIn_range_own _ rfl _ 53 rfl 26 3 law26 Tryz.underlying53 (plainElem (H := Unit) Tryz.prog 3) b 0 (.map []) rfl HOWN.out ?_; intro w0 hrg0 hg0 hs0)
    | gi_in)
  go_frame
  gi_loopw [3] (fun _ wr => wr.ranges Tryz.prog 26 (plainElem (H := Unit) Tryz.prog 3) b W.heap.size 0 (.map []) (Maps.has (.map [])) 0 ∧ J [] wr)
    (fun _ wr => wr.rangeLeft b W.heap.size)
  case atStart => exact ⟨hrg0, HJ.out [] W w0 none H0.out hg0 (fun r e => by cases e)⟩
  case round =>
    obtain ⟨hrg, hJs⟩ := hrel
    gi_wp2_with (first
      | (gi_at_next; refine wpListIn_next_ranges _ rfl _ rfl 26 law26 (plainElem (H := Unit) Tryz.prog 3) id id (fun key kl hk => ⟨key, rfl⟩) (fun v _ _ => ⟨v, rfl⟩) b W.heap.size 0 _ _ _ rfl hrg ?_ ?_)
      | gi_in)
    intro hl0
    gi_wp2
    go_end0
    exact ⟨⟨_, rfl⟩, .inl ⟨[], rfl, hJs⟩⟩
set_option maxHeartbeats 2000000 in
theorem AppendSeq_none (Bm b : Nat) (w : World) (hBm : Bm < w.heap.size) (hb : b < w.heap.size) (hm : w.heap[Bm]? = some (.cells #[.map (some b)] 53 (0, 0))) (hown : w.ownsMap Tryz.prog 26 (plainElem (H := Unit) Tryz.prog 3) b 0 (.map [])) :
    Calls Tryz.prog 90 #[.slice none 0 0, .func (.func 57) #[] #[.pointer (some ⟨Bm, 0, none⟩)]] w fun r w' => r = .returned (.slice none 0 0) ∧ Frm [] w w' := by
  have f0 : Frm [] w (w.alloc (.cells #[.slice none 0 0] 55)) := (Frm.refl [] w).alloc _
  have hs0 : (w.alloc (.cells #[.slice none 0 0] 55)).heap[w.heap.size]? = some (.cells #[.slice none 0 0] 55 (0, 0)) := heap_alloc_new _ _
  have hm0 := f0.heap hm (by simp)
  have hown0 : (w.alloc (.cells #[.slice none 0 0] 55)).ownsMap Tryz.prog 26 (plainElem (H := Unit) Tryz.prog 3) b 0 (.map []) := by
    obtain ⟨es, clock, h1, rest⟩ := hown
    exact ⟨es, clock, f0.heap h1 (by simp), rest⟩
  have hsz0 : (w.alloc (.cells #[.slice none 0 0] 55)).heap.size = w.heap.size + 1 := by simp
  have F0 := Lib.hid f0
  have S0 := Lib.hid hs0
  have M0 := Lib.hid hm0
  have OW := Lib.hid hown0
  clear f0 hs0 hm0 hown0 hm hown
  refine (callsIn_wide (n := 5)).1 ?_
  refine callsIn_of_wp_marks Tryz.func90 rfl trivial ?_ rfl
  simp only [Tryz.ntmps90, List.size_toArray, List.length_cons, List.length_nil, Nat.reduceAdd, Nat.reduceSub, Array.replicate_succ, Array.replicate_zero, List.push_toArray, List.append_toArray, List.nil_append, List.cons_append]
  refine wpIn_wide.2 ?_
  go_wp2_with fail
  generalize w.alloc (.cells #[.slice none 0 0] 55) = W at *
  refine (wpIn_wide (n := 5)).1 ?_
  refine wpIn_rangeFunc_ownF rfl (by decide) (gf := 57) (lb := #[.pointer (some ⟨Bm, 0, none⟩)]) rfl trivial (Go.Proofs.enters_of Tryz.func57 (by kernel_rfl) rfl)
    (keys_none (5 - 1) (by decide) Bm b W (by omega) (by omega) M0.out OW.out)
    ?kt ?kb (Below.refl _ _) (fun _ => rfl) (fun pre W' => W'.heap[w.heap.size]? = some (.cells #[.slice none 0 0] 55 (0, 0)) ∧ Frm [] W W') (fun _ _ _ => False) ?own (fun _ _ _ _ _ hs _ _ => hs) ⟨S0.out, Frm.refl _ _⟩
    (fun x : Hs.Idx 0 => { tmps := #[], defers := [] }) ?assign ?body ?done ?stop
  case kt => intro A B C h k; exact ⟨k.1.trans h.1, k.2.trans h.2⟩
  case kb => intro W' l o o' hl h ho hw; exact ⟨World.putObj_heap_other (by omega), World.putObj_heap_other (by omega)⟩
  case own =>
    intro pre W1 W2 row ⟨h1, h2⟩ hg hr
    have hf : Frm row.toList W1 W2 := Frm.of_grown hg (fun k hk => by simp [hk])
    refine ⟨hf.heap h1 (fun hm => ?_), h2.trans hf (fun i hi => ?_)⟩
    · have := hr w.heap.size (by simpa using hm)
      omega
    · exact .inr (hr i (by simpa using hi)).1
  case assign => intro l x; exact absurd x.2 (Nat.not_lt_zero _)
  case body => rintro l pre x; exact absurd x.2 (Nat.not_lt_zero _)
  case stop =>
    rintro D c pre W' _ _ h _
    exact h.elim
  case done =>
    rintro D xs W' hD hxs ⟨h1, h2⟩ hK
    have hDW : D < W'.heap.size := (Array.getElem?_eq_some_iff.1 hK).1
    have hc : W'.cell? ⟨w.heap.size, 0, none⟩ = some (.slice none 0 0) := by rw [cell_of_heap h1]; rfl
    have HK := Lib.hid hK
    have HD := Lib.hid (show w.heap.size < D by omega)
    have HF := Lib.hid (F0.out.trans h2 (by simp))
    clear h1 h2 hK hD hDW
    simp only [Exit.inBlock, Exit.then]
    go_wp2_with fail
    have hF7 : Frm [] w (W'.putObj D (.deferred none)) := HF.out.trans (Frm.of_grown (L := [D]) (grownBy_putObj' W' D (.deferred none)) (fun k e => by cases e; simp)) (fun i hi => by simp at hi; subst hi; exact .inr (by have := HD.out; omega))
    refine ⟨by simp, .inl ⟨_, _, rfl, run_takeDeferred HK.out, ?_⟩⟩
    exact ⟨_, by simp [results, Tryz.results90, go_sem], ⟨rfl, hF7⟩⟩
end Go.Proofs.YtcnjjcnmjmcoiaaGreatDoor
