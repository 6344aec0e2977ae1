/-
  The keys of a map of IDs, in their order. No conditions but those that each theorem names.
-/
import Derived.Test.YtcnjjcnmjmcoiaaGreatDoorLX
namespace Go.Proofs.YtcnjjcnmjmcoiaaGreatDoor
open Go.RowKit Go.Maps
set_option linter.unusedVariables false
set_option linter.unusedSimpArgs false
set_option maxRecDepth 100000

open Kr (OwnE SlE)
theorem Collect_any (Bm b nn : Nat) (D0 : DataW Unit) (hN : Maps.size D0 ≤ 100000000) (w : World) (hBm : Bm < w.heap.size) (hm : w.heap[Bm]? = some (.cells #[.map (some b)] 53 (0, 0))) (hown : w.ownsMap Tryz.prog 26 (plainElem (H := Unit) Tryz.prog 3) b nn D0) :
    Calls Tryz.prog 55 #[.func (.func 57) #[] #[.pointer (some ⟨Bm, 0, none⟩)]] w fun r w' => ∃ v ss, r = .returned v ∧ KeysOf D0 ss ∧ OwnI w.heap.size w' v ss ∧ Frm [] w w' := by
  have HA := Lib.hid (AppendSeq_any Bm b nn D0 hN w hBm hm hown)
  clear hm hown
  go_enter Tryz.func55, Tryz.ntmps55
  go_wp2_with (go_at_call 90; refine HA.out.mono ?_; rintro r w1 ⟨v, ss, rfl, h1⟩)
  go_ret
  exact ⟨v, ss, rfl, h1⟩
theorem OwnI.bound {lo : Nat} {w : World} {v : Value} {l : List IdT} (h : OwnI lo w v l) : True := trivial
theorem SortedFunc_any (Bm b nn : Nat) (D0 : DataW Unit) (hN : Maps.size D0 ≤ 100000000) (S : List IdT) (hS : KeysOf D0 S) (hSl : S.length ≤ 100000000) (w : World) (hBm : Bm < w.heap.size) (hm : w.heap[Bm]? = some (.cells #[.map (some b)] 53 (0, 0))) (hown : w.ownsMap Tryz.prog 26 (plainElem (H := Unit) Tryz.prog 3) b nn D0) :
    Calls Tryz.prog 31 #[.func (.func 57) #[] #[.pointer (some ⟨Bm, 0, none⟩)], .func (.func 33) #[] #[]] w fun r w' => ∃ v, r = .returned v ∧ OwnI w.heap.size w' v (srtI S) ∧ Frm [] w w' := by
  have HA := Lib.hid (Collect_any Bm b nn D0 hN w hBm hm hown)
  clear hm hown
  go_enter Tryz.func31, Tryz.ntmps31
  go_wp2_with (first
    | (go_at_call 55; refine HA.out.mono ?_; rintro r w1 ⟨v, ss, rfl, hk, ⟨a, cap, sp, rfl, ho, hb⟩, f1⟩
       have hp : ss.Perm S := (List.perm_ext_iff_of_nodup hk.1 hS.1).2 (fun x => (hk.2 x).trans (hS.2 x).symm)
       have HS := Lib.hid (SortFunc_any (.slice a ss.length cap) ss sp w1 ho (by rw [hp.length_eq]; exact hSl))
       have HP := Lib.hid (And.intro hp (And.intro hb f1))
       clear hk ho hb f1 hp)
    | (go_at_call 56; refine HS.out.mono ?_; rintro r w2 ⟨rfl, o2, f2⟩))
  go_ret
  obtain ⟨hp, hb, f1⟩ := HP.out
  have e : srtI ss = srtI S := by
    refine List.Perm.eq_of_pairwise (le := fun x y => ltI y x = false) (fun x y _ _ h1 h2 => ltI_total h2 h1) (srtI_sorted ss) (srtI_sorted S) ((srtI_perm ss).trans (hp.trans (srtI_perm S).symm))
  have hl : ss.length = (srtI S).length := by rw [← e]; simp [srtI]
  rw [e] at o2
  refine ⟨_, rfl, ⟨a, cap, sp, by rw [hl]; rfl, o2, hb⟩, f1.trans f2 (fun i hi => .inr (hb i hi))⟩
end Go.Proofs.YtcnjjcnmjmcoiaaGreatDoor
