/-
  The keys of a map of IDs, gathered in a slice. No conditions but those that each theorem names.
-/
import Derived.Test.YtcnjjcnmjmcoiaaGreatDoorLU
import Derived.RangeFuncNested
import Derived.Great.Walk
namespace Go.Proofs.YtcnjjcnmjmcoiaaGreatDoor
open Go.RowKit Go.Maps Go.MapKept
set_option linter.unusedVariables false
set_option linter.unusedSimpArgs false
set_option maxRecDepth 100000

open Kr (OwnE SlE)
/-- What the keys of a map are, in some order. -/
def KeysOf (D0 : DataW Unit) (ss : List IdT) : Prop := ss.Nodup ∧ ∀ x, x ∈ ss ↔ Maps.has D0 (kI x) = true
theorem keys_stops (n : Nat) (hn : 1 ≤ n) (Bm b nn : Nat) (D0 : DataW Unit) (w : World) (hBm : Bm < w.heap.size) (hm : w.heap[Bm]? = some (.cells #[.map (some b)] 53 (0, 0))) (hown : w.ownsMap Tryz.prog 26 (plainElem (H := Unit) Tryz.prog 3) b nn D0) :
    SeqStopsK Fence.wide n Tryz.prog 57 #[.pointer (some ⟨Bm, 0, none⟩)] (fun x : IdT => #[vI x]) KeepsWalks (KeysOf D0) (fun _ => True) (Maps.size D0) w := fun l J Jx W hW hJ _ hY h0 => by
  have hown' : W.ownsMap Tryz.prog 26 (plainElem (H := Unit) Tryz.prog 3) b nn D0 := by
    have hbl := hown.lt
    obtain ⟨es, clock, hb, Ft, hs, hD⟩ := hown
    exact ⟨es, clock, (hW.block b hbl).trans hb, Ft, hs, hD⟩
  have hc : W.cell? ⟨Bm, 0, none⟩ = some (.map (some b)) := by rw [cell_of_heap ((hW.block Bm hBm).trans hm)]; rfl
  refine (keys_in n hn l Bm b nn D0 J Jx hY W hJ hc hown' h0).mono ?_
  rintro e W' ⟨hv, ⟨ss, ⟨left, ⟨h1, h2⟩, h3⟩, h4⟩ | ⟨pre, h⟩⟩
  · exact ⟨hv, .inl ⟨ss, ⟨h1, fun x => by rw [h2 x, h3]; simp⟩, h4⟩⟩
  · exact ⟨hv, .inr ⟨pre, trivial, h⟩⟩
theorem fold_set : ∀ (vs : List Value) (pre suf : List Value), suf.length = vs.length → (vs.zipIdx pre.length).foldl (fun (cs : Array Value) (x : Value × Nat) => cs.setIfInBounds (0 + x.2) x.1) (pre ++ suf).toArray = (pre ++ vs).toArray
  | [], pre, suf, h => by
    obtain rfl : suf = [] := List.eq_nil_of_length_eq_zero (by simpa using h)
    rfl
  | v :: vs, pre, [], h => by simp at h
  | v :: vs, pre, s :: suf, h => by
    have ih := fold_set vs (pre ++ [v]) suf (by simpa using h)
    simp only [List.zipIdx_cons, List.foldl_cons]
    have e : (pre ++ s :: suf).toArray.setIfInBounds (0 + pre.length) v = (pre ++ [v] ++ suf).toArray := by
      apply Array.ext'
      simp [Array.toList_setIfInBounds]
    rw [e]
    simpa using ih
theorem built26 {s : List UInt8} (hs : s.length = 32) : Tryz.prog.builtSlice 26 1 [(0, idv s)] = some (bvs s).toArray := by
  obtain ⟨i, hi, hz, hsz, _⟩ := info_parts (show (Tryz.prog.info? 26).map (fun i => (i.zero, i.size, i.bytes)) = some (some (.agg (bvs (List.replicate 32 0)).toArray), 32, 32) by kernel_rfl)
  unfold Program.builtSlice
  simp only [hi, hz, hsz]
  have hc : (idv s).cells = (bvs s).toArray := rfl
  have hz2 : (Value.agg (bvs (List.replicate 32 0)).toArray).cells = (bvs (List.replicate 32 0)).toArray := rfl
  have h0 : (Array.range (1 * 32)).map ((Value.agg (bvs (List.replicate 32 0)).toArray).cells[· % (Value.agg (bvs (List.replicate 32 0)).toArray).cells.size]!) = (bvs (List.replicate 32 0)).toArray := by kernel_rfl
  rw [if_neg (by decide), h0]
  simp only [Instr.fill, hc]
  rw [if_neg (by simp [bvs_length, hs])]
  have := fold_set (bvs s) [] (bvs (List.replicate 32 0)) (by simp [bvs_length, hs])
  simp only [List.nil_append, List.length_nil] at this
  simpa [← Array.foldl_toList] using this

theorem ownPostG_lets {α : Type} {B : Nat} {Kp : World → World → Prop} {I : List α → World → Prop} {Ix : Code → List α → World → Prop} {xs : List α} {W : World} : ¬ LetsOut (ownPostG B Kp I Ix xs W) := fun ⟨_, _, h⟩ => h
/-- A slice of IDs of one's own, from a place on. -/
def OwnI (lo : Nat) (w : World) (v : Value) (l : List IdT) : Prop := ∃ a cap sp, v = .slice a l.length cap ∧ OwnE eI 32 26 w v l sp ∧ ∀ i ∈ blk v, lo ≤ i
/-- Between two rounds. -/
def ApI (W : World) (Bs : Nat) (pre : List IdT) (W' : World) : Prop := ∃ v, W'.heap[Bs]? = some (.cells #[v] 55 (0, 0)) ∧ OwnI W.heap.size W' v pre ∧ Frm [Bs] W W'
theorem own_blk {T k : Nat} {w : World} {v : Value} {n : Nat} {xs sp : List Value} (h : Own T k w v n xs sp) : ∀ i ∈ blk v, ∃ cs, w.heap[i]? = some (.cells cs T (0, 0)) := by
  obtain ⟨_, ⟨rfl, _, _⟩ | ⟨g, cap, rfl, _, _, _, hh⟩⟩ := h
  · intro i hi; simp [blk] at hi
  · intro i hi
    simp [blk] at hi
    subst hi
    exact ⟨_, hh⟩
theorem apI_own (W : World) (Bs : Nat) (hB : Bs < W.heap.size) : OwnFrom W.heap.size (ApI W Bs) := by
  intro pre W1 W2 row ⟨v, h1, ⟨a, cap, sp, hv, h2, h3⟩, h4⟩ hg hr
  have hf : Frm row.toList W1 W2 := Frm.of_grown hg (fun k hk => by simp [hk])
  refine ⟨v, hf.heap h1 (fun hm => ?_), ⟨a, cap, sp, hv, h2.keep hf (fun i hi hm => ?_), h3⟩, h4.trans hf (fun i hi => ?_)⟩
  · have := hr Bs (by simpa using hm)
    omega
  · obtain ⟨_, o, ho, hc⟩ := hr i (by simpa using hm)
    obtain ⟨cs, hcs⟩ := own_blk h2 i hi
    rw [hcs] at ho; cases ho; cases hc
  · exact .inr (hr i (by simpa using hi)).1
set_option maxHeartbeats 2000000 in
theorem AppendSeq_any (Bm b nn : Nat) (D0 : DataW Unit) (hN : Maps.size D0 ≤ 100000000) (w : World) (hBm : Bm < w.heap.size) (hm : w.heap[Bm]? = some (.cells #[.map (some b)] 53 (0, 0))) (hown : w.ownsMap Tryz.prog 26 (plainElem (H := Unit) Tryz.prog 3) b nn D0) :
    Calls Tryz.prog 90 #[.slice none 0 0, .func (.func 57) #[] #[.pointer (some ⟨Bm, 0, none⟩)]] w fun r w' => ∃ v ss, r = .returned v ∧ KeysOf D0 ss ∧ OwnI w.heap.size w' v ss ∧ Frm [] w w' := by
  have f0 : Frm [] w (w.alloc (.cells #[.slice none 0 0] 55)) := (Frm.refl [] w).alloc _
  have hs0 : (w.alloc (.cells #[.slice none 0 0] 55)).heap[w.heap.size]? = some (.cells #[.slice none 0 0] 55 (0, 0)) := heap_alloc_new _ _
  have hm0 := f0.heap hm (by simp)
  have hown0 : (w.alloc (.cells #[.slice none 0 0] 55)).ownsMap Tryz.prog 26 (plainElem (H := Unit) Tryz.prog 3) b nn D0 := by
    obtain ⟨es, clock, h1, rest⟩ := hown
    exact ⟨es, clock, f0.heap h1 (by simp), rest⟩
  have hsz0 : (w.alloc (.cells #[.slice none 0 0] 55)).heap.size = w.heap.size + 1 := by simp
  have F0 := Lib.hid f0
  have S0 := Lib.hid hs0
  have M0 := Lib.hid hm0
  have OW := Lib.hid hown0
  clear f0 hs0 hm0 hown0 hm hown
  refine (callsIn_wide (n := 5)).1 ?_
  refine callsIn_of_wp_marks Tryz.func90 rfl trivial ?_ rfl
  simp only [Tryz.ntmps90, List.size_toArray, List.length_cons, List.length_nil, Nat.reduceAdd, Nat.reduceSub, Array.replicate_succ, Array.replicate_zero, List.push_toArray, List.append_toArray, List.nil_append, List.cons_append]
  refine wpIn_wide.2 ?_
  go_wp2_with fail
  generalize w.alloc (.cells #[.slice none 0 0] 55) = W at *
  refine (wpIn_wide (n := 5)).1 ?_
  refine wpIn_rangeFunc_ownH rfl (by decide) (gf := 57) (lb := #[.pointer (some ⟨Bm, 0, none⟩)]) rfl trivial (Go.Proofs.enters_of Tryz.func57 (by kernel_rfl) rfl)
    (keys_stops (5 - 1) (by decide) Bm b nn D0 W (by omega) M0.out OW.out)
    ?kt ?kb (Below.refl _ _) (fun _ => rfl) (ApI W w.heap.size) (fun _ _ _ => False) (apI_own W w.heap.size (by omega)) (fun _ _ _ _ _ hs _ _ => hs) ⟨_, S0.out, ⟨none, 0, [], rfl, OwnE.nil _ _ _ _, by simp [blk]⟩, Frm.refl _ _⟩
    (fun (x : IdT) a' W' => ∃ g, a' = { tmps := #[.slice none 0 0, .func (.func 57) #[] #[.pointer (some ⟨Bm, 0, none⟩)], .pointer (some ⟨w.heap.size, 0, none⟩), undef, .slice none 0 0, .pointer (some ⟨g, 0, none⟩), .func (.func 57) #[] #[.pointer (some ⟨Bm, 0, none⟩)], vI x, undef, undef, undef, undef, undef], defers := [] } ∧ W'.heap[g]? = some (.cells (bvs x.1).toArray 26 (0, 0))) ?ax ?assign ?body ?done ?stop
  case kt => intro A B C h k; exact h.trans k
  case kb => intro W' l o o' hl h ho hw; exact KeepsWalks.putObj _ h hw
  case ax =>
    rintro x a' _ W1 W2 row ⟨g, h1, h2⟩ hg hr
    have hf : Frm row.toList W1 W2 := Frm.of_grown hg (fun k hk => by simp [hk])
    refine ⟨g, h1, hf.heap h2 (fun hm => ?_)⟩
    obtain ⟨_, o, ho, hc⟩ := hr g (by simpa using hm)
    rw [h2] at ho; cases ho; cases hc
  case assign =>
    intro l pre x W' K hI hK
    have hx := x.2
    refine wpIn_region_lit ?_
    rw [show (#[7].zip #[vI x] : Array (Tmp × Value)) = #[(7, vI x)] by simp]
    simp only [List.foldl_toArray', List.size_toArray, List.foldl_cons, List.foldl_nil, List.setIfInBounds_toArray, List.set_cons_succ, List.set_cons_zero, List.length_cons, List.length_nil, Nat.zero_add]
    refine wpListIn_lay26 rfl rfl rfl _ _ rfl (s := x.1) hx rfl rfl ?_
    refine wpListIn_nil ?_
    have f1 : Frm [] W' (W'.alloc (.cells (bvs x.1).toArray 26)) := (Frm.refl [] W').alloc _
    refine hK _ _ ((KeepsOthers.alloc W' _).from _) (KeepsWalks.alloc _ _) (OwnFrom.alloc (apI_own W w.heap.size (by omega)) _ hI) ⟨W'.heap.size, rfl, heap_alloc_new _ _⟩
  case body =>
    rintro l pre x a' W' hl ⟨r, hr⟩ ⟨v, h1, ⟨a, cap, sp, rfl, h2, h3⟩, h4⟩ ⟨g, rfl, h5⟩ hlen
    have hx := x.2
    refine wpIn_block ?_
    refine Hs.wpIn_round_region (by kernel_rfl) (Hs.inBlock_lets ownPostG_lets) ?_
    have hlt := h2.lt
    have hsz := h4.size
    have hWlt : w.heap.size < W'.heap.size := by omega
    have hb : W'.heap[w.heap.size]? = some (.cells #[.slice a pre.length cap] 55 (0, 0)) := h1
    have hgl : g < W'.heap.size := (Array.getElem?_eq_some_iff.1 h5).1
    have f1 : Frm [] W' (W'.alloc (.cells (bvs x.1).toArray 26)) := (Frm.refl [] W').alloc _
    have hS : SlE eI 32 (W'.alloc (.cells (bvs x.1).toArray 26)) (.slice (some ⟨W'.heap.size, 0, none⟩) 1 1) [x] [] := SlE.of_block (T := 26) encID (by rw [Kr.flt_one]; exact heap_alloc_new _ _) rfl (by decide)
    have hc : W'.cell? ⟨w.heap.size, 0, none⟩ = some (.slice a pre.length cap) := by rw [cell_of_heap h1]; rfl
    go_step
    go_step
    go_step
    refine wpList_val rfl (exec_load26 (x := .tmp 5) rfl rfl hx h5) ?_
    refine Great.wpList_buildSliceTo rfl 55 26 1 #[(0, .tmp 9)] rfl W'.heap.size rfl (some 10) rfl Tryz.underlying55 (bvs x.1).toArray (by simp only [List.map_toArray, List.map_cons, List.map_nil]; exact built26 hx) ?_
    refine Kr.wpList_append_e encID tysID (h2.keep0 f1) hS (by simp; omega) (by decide) rfl (.tmp 8) (.tmp 10) rfl rfl rfl ?_
    intro a2 cap2 w2 sp2 o2 f2 n2
    have hbn : ∀ i ∈ blk (.slice a pre.length cap), W.heap.size ≤ i := h3
    have hb2 : w2.heap[w.heap.size]? = some (.cells #[.slice a pre.length cap] 55 (0, 0)) := f2.heap (f1.heap h1 (by simp)) (fun hm => by have := hbn _ hm; omega)
    have f12 : Frm (blk (.slice a pre.length cap)) W' w2 := (f1.mono (by simp)).trans f2 (fun i hi => .inl hi)
    have hbc : ∀ i ∈ blk (.slice a pre.length cap), ∃ cs, W'.heap[i]? = some (.cells cs 26 (0, 0)) := own_blk h2
    have HA := Lib.hid (And.intro o2 (And.intro n2 (And.intro f12 (And.intro hbn hbc))))
    have hc2 : w2.cell? ⟨w.heap.size, 0, none⟩ = some (.slice a pre.length cap) := by rw [cell_of_heap hb2]; rfl
    have hz2 : w2.frozen? ⟨w.heap.size, 0, none⟩ = false := frozen_of_heap hb2 0
    clear o2 f2 n2 f12 hbn hbc hS hc h3 hlt f1
    have HH4 := Lib.hid h4
    have HB2 := Lib.hid hb2
    have HB1 := Lib.hid h1
    clear h4 hb2 h1 hb
    go_wp2_with fail
    obtain ⟨o2, n2, f12, hbn, hbc⟩ := HA.out
    have f13 : Frm (w.heap.size :: blk (.slice a pre.length cap)) W' (w2.setCell ⟨w.heap.size, 0, none⟩ (.slice a2 (pre.length + 1) cap2)) := (f12.mono (fun i hi => .inl (by simp [hi]))).setCell _ _ (.inl (by simp))
    have hb3 := heap_setCell_same (i := 0) (.slice a2 (pre.length + 1) cap2) HB2.out
    have h2c : ∀ i ∈ blk (.slice a2 (pre.length + 1) cap2), W.heap.size ≤ i := fun i hi => by
      rcases n2 i hi with h | h
      · exact hbn i h
      · simp at h; omega
    have o3 : OwnE eI 32 26 (w2.setCell ⟨w.heap.size, 0, none⟩ (.slice a2 (pre.length + 1) cap2)) (.slice a2 (pre.length + 1) cap2) (pre ++ [x]) sp2 := OwnE.keep (L := [w.heap.size]) o2 ((Frm.refl _ _).setCell _ _ (.inl (by simp))) (fun i hi hm => by
      have := h2c i hi
      simp at hm
      omega)
    have hko : KeepsOthers W' (w2.setCell ⟨w.heap.size, 0, none⟩ (.slice a2 (pre.length + 1) cap2)) := ⟨f13.size, fun k o hk ho => f13.heap hk (fun hm => by
      rcases List.mem_cons.1 hm with rfl | hm
      · rw [HB1.out] at hk; cases hk; cases ho
      · obtain ⟨cs, hcs⟩ := hbc k hm
        rw [hcs] at hk; cases hk; cases ho)⟩
    refine ⟨hko.from _, hko.walks, _, by simpa using hb3, ⟨a2, cap2, sp2, by simp, o3, h2c⟩, HH4.out.trans f13 (fun i hi => ?_)⟩
    rcases List.mem_cons.1 hi with rfl | hi
    · exact .inl (by simp)
    · exact .inr (hbn i hi)
  case done =>
    rintro D xs W' hD hxs ⟨v, h1, ⟨a, cap, sp, rfl, h2, h3⟩, h4⟩ hK
    have hDW : D < W'.heap.size := (Array.getElem?_eq_some_iff.1 hK).1
    have hc : W'.cell? ⟨w.heap.size, 0, none⟩ = some (.slice a xs.length cap) := by rw [cell_of_heap h1]; rfl
    have HK := Lib.hid hK
    have HD := Lib.hid (show w.heap.size < D by omega)
    have HF := Lib.hid (F0.out.trans h4 (fun i hi => .inr (by simp at hi; omega)))
    have HO := Lib.hid h2
    have HO3 := Lib.hid h3
    clear h1 h2 h3 h4 hK hD hDW
    simp only [Exit.inBlock, Exit.then]
    go_wp2_with fail
    have fD : Frm [D] W' (W'.putObj D (.deferred none)) := Frm.of_grown (L := [D]) (grownBy_putObj' W' D (.deferred none)) (fun k e => by cases e; simp)
    have hF7 : Frm [] w (W'.putObj D (.deferred none)) := HF.out.trans fD (fun i hi => by simp at hi; subst hi; exact .inr (by have := HD.out; omega))
    have hO7 : OwnE eI 32 26 (W'.putObj D (.deferred none)) (.slice a xs.length cap) xs sp := OwnE.keep HO.out fD (fun i hi hm => by
      simp at hm; subst hm
      obtain ⟨cs, hcs⟩ := own_blk HO.out i hi
      rw [HK.out] at hcs; cases hcs)
    refine ⟨by simp, .inl ⟨_, _, rfl, run_takeDeferred HK.out, ?_⟩⟩
    exact ⟨_, by simp [results, Tryz.results90, go_sem], ⟨_, xs, rfl, hxs, ⟨a, cap, sp, rfl, hO7, fun i hi => by have := HO3.out i hi; omega⟩, hF7⟩⟩
  case stop =>
    rintro D c pre W' _ _ h _
    exact h.elim
end Go.Proofs.YtcnjjcnmjmcoiaaGreatDoor
