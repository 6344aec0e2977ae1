/-
  Contract of room: where one of the pointers stands in a sector. No conditions but those that each theorem names.
-/
import Derived.Test.YtjjcjocomanohaaNC
namespace Go.Proofs.Ytjjcjocomanohaa
open Go.RowKit
set_option linter.unusedVariables false
set_option linter.unusedSimpArgs false
set_option maxRecDepth 100000

theorem sl74 (g o : Nat) (h0 : 0 < o) (ho : o < 256) (W : World) : (Instr.sliceAt 74 (.pointer (some ⟨g, 0, none⟩)) (some (.int .i64 (o : Int))) none none).run Try.prog W = .ok (.slice (some ⟨g, o, none⟩) (256 - o) (256 - o)) W := by
  have hu : Try.prog.underlying 74 = some (.array (Try.prog.arrayLen 74) (Try.prog.elem 74)) := by kernel_rfl
  have hl : Try.prog.arrayLen 74 = 256 := by kernel_rfl
  have he : Try.prog.elem 74 = 5 := by kernel_rfl
  have hs : (sizeOf 5).run Try.prog W = .ok 1 W := by kernel_rfl
  rw [run_sliceAt_array_l (P := Try.prog) W 74 _ hu .i64 (o : Int) (by omega) (by rw [hl]; omega), he, hs, hl]
  have e1 : ¬ 256 = o := by omega
  have e2 : ¬ o = 0 := by omega
  simp [Result.andThen, slicedAt, Addr.add, e1, e2]
theorem sl74all (g : Nat) (W : World) : (Instr.sliceAt 74 (.pointer (some ⟨g, 0, none⟩)) none none none).run Try.prog W = .ok (.slice (some ⟨g, 0, none⟩) 256 256) W := by
  have hu : Try.prog.underlying 74 = some (.array (Try.prog.arrayLen 74) (Try.prog.elem 74)) := by kernel_rfl
  have hl : Try.prog.arrayLen 74 = 256 := by kernel_rfl
  have he : Try.prog.elem 74 = 5 := by kernel_rfl
  have hs : (sizeOf 5).run Try.prog W = .ok 1 W := by kernel_rfl
  rw [run_sliceAt_array_all (P := Try.prog) W 74 _ hu, he, hs, hl]
  rfl
set_option maxHeartbeats 4000000 in
theorem room_any (g i : Nat) (w : World) (hi : i < 4) :
    Calls Try.prog 76 #[.pointer (some ⟨g, 0, none⟩), .int .i64 i] w fun e w' => e = .returned (.slice (some ⟨g, 1 + i * 47, none⟩) 47 (255 - i * 47)) ∧ w' = w := by
  have h1 : IntKind.i64.wrap ((i : Int) * 47) = (i : Int) * 47 := IntWalk.i64_in _ (by omega)
  have h2 : IntKind.i64.wrap (1 + (i : Int) * 47) = ((1 + i * 47 : Nat) : Int) := by rw [IntWalk.i64_in _ (by omega)]; omega
  have h3 : 1 + i * 47 ≤ 142 := by omega
  obtain ⟨o, ho⟩ : ∃ o, o = 1 + i * 47 := ⟨_, rfl⟩
  rw [← ho] at h2 h3
  rw [← ho, show 255 - i * 47 = 256 - o by omega]
  have hs := sl74 g o (by omega) (by omega)
  have hz : ∀ W, (sizeOf (Try.prog.elem 29)).run Try.prog W = .ok 1 W := fun W => by kernel_rfl
  have ht : Try.prog.underlying 29 = some (.slice (Try.prog.elem 29)) := by kernel_rfl
  have hs2 : ∀ W, (Instr.slice 29 (.slice (some ⟨g, o, none⟩) (256 - o) (256 - o)) none (some (.int .i64 47)) none).run Try.prog W = .ok (.slice (some ⟨g, o, none⟩) 47 (256 - o)) W := fun W => by
    rw [run_slice_h (P := Try.prog) W 29 _ _ _ ht .i64 47 (by omega) (by omega), hz]
    simp [Result.andThen, sliced, Addr.add]
  generalize 256 - o = c at *
  clear ho h3 hi hz ht
  go_enter Try.func76, Try.ntmps76
  go_wp2
  go_ret
  exact ⟨rfl, rfl⟩
end Go.Proofs.Ytjjcjocomanohaa
