/-
  For every input that can be read, in every memory and in every order that Go leaves open, the law DirKnown returns true, and nothing that was there is changed. It has no other conditions.
-/
import Derived.Test.YtljhanhipmnioaaGreatDKa1
import Derived.Test.YtljhanhipmnioaaGreatDKa2
import Derived.Test.YtljhanhipmnioaaGreatDKa3
import Derived.Test.YtljhanhipmnioaaGreatDKa4
import Derived.Test.YtljhanhipmnioaaGreatDKa5
import Derived.Test.YtljhanhipmnioaaGreatDKa6
import Derived.Test.YtljhanhipmnioaaGreatDKa7
import Derived.Test.YtljhanhipmnioaaGreatDKa8
import Derived.Test.YtljhanhipmnioaaGreatDKa9
import Derived.Test.YtljhanhipmnioaaGreatDKa10
import Derived.Test.YtljhanhipmnioaaGreatDKa11
import Derived.Test.YtljhanhipmnioaaGreatDKa12
import Derived.Test.YtljhanhipmnioaaGreatRows
import Derived.JoinedOf
import Derived.JoinedAt
import Derived.ProofKit
import Derived.OpenShut
namespace Go.Proofs.YtljhanhipmnioaaGreat.dirKnown
open Go.ChangeShapes Go.WideShapes Go.ChangeAt Go.RowKit
open Go.ChangeMaps (open_string)
open Rd (own laidOut open_table open_bytes)
set_option linter.unusedVariables false
set_option linter.unusedSimpArgs false

set_option maxRecDepth 100000 in
theorem lifted (os : Os) (started : os.Started) (H : Type) (enc : TypeId × Value → H) :
    ReturnsInHanded {} Tryz.checked os 10 .any (Rows.dirKnownSpec.pre6 enc Tryz.prog Tryz.f10 Rows.dirKnownRow.domain false) (Rows.dirKnownSpec.post enc Tryz.prog Tryz.f10 false true false false) := by
  refine returnsInHanded_of_change (C := Tryz.checked) own started (by kernel_rfl) Tryz.func10
    (ChangeSpec.witness6 (enc := enc) (C := Tryz.checked) false ⟨#[], #[], []⟩ 8 (by kernel_rfl) (by kernel_rfl) (by kernel_rfl) (by kernel_rfl)) ?_
  intro W base args ds gs before hval0 hW hcnd _
  have hW' := hW
  obtain ⟨p, q, hA0, hV, rfl, hfz, hnd⟩ := hW
  have hA : DataW.TrodAll enc Tryz.prog W 0 (fun _ => true) true Tryz.f10.params.toList args.toList ds p := hA0
  rw [Tryz.params10] at hA
  obtain ⟨rfl, rfl, rfl⟩ := trodAll_none hA
  obtain ⟨rfl, rfl⟩ := trodVars_none hV
  clear hA0 hval0
  refine (Rd.knownD_any W).mono fun e W' ⟨he, f⟩ => ?_
  have bel : Below W.heap.size W W' := f.below (fun i hi => by cases hi) (Nat.le_refl _)
  subst he
  exact ⟨_, rfl, _, _, _, [], [], [], hW', trodAll_mk1 (shut_bool Tryz.underlying4 _), trodAll_mk0, rfl, bel.frame _, fun h => by cases h⟩

theorem over : Rows.dirKnownRow.holds Tryz.pinned (OpenSpec.ofChange Rows.dirKnownSpec) :=
  OpenClaim.holds_of_wide 10 Tryz.f10 rfl rfl rfl rfl rfl rfl rfl ⟨rfl, rfl, rfl, rfl, rfl⟩ rfl rfl rfl rfl rfl (by kernel_rfl) Tryz.func10 (by kernel_rfl)
    (of_decide_eq_true (by kernel_rfl)) (by unfold Func.isWrapper; first | (rw [if_pos (by decide +kernel)]; kernel_rfl) | (rw [if_neg (by decide +kernel)]; exact ⟨rfl, rfl⟩))
    (fun os started H enc _ => lifted os started H enc)

/-- The statement. -/
theorem proved : Rows.DirKnownSaid := over
#print axioms proved
end Go.Proofs.YtljhanhipmnioaaGreat.dirKnown
