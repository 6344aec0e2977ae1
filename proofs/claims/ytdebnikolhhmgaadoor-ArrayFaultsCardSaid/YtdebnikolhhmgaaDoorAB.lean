/-
  errors.Is at refusals; number; made; what makes needs; demand of what New did not make. No conditions but those that each theorem names.
-/
import Derived.Test.YtdebnikolhhmgaaDoorAA
namespace Go.Proofs.YtdebnikolhhmgaaDoor
open Go.RowKit
set_option linter.unusedVariables false
set_option linter.unusedSimpArgs false
set_option maxRecDepth 100000

open Kr (OwnE SlE Enco RowTys)
open Go.Extern.Stop Go.Stop Go.Extern
theorem isSize : (Tryd.prog.info? 151).map (·.size) = some 1 := by kernel_rfl
def mE : Value → Nat
  | .iface 102 _ => 1
  | _ => 0
set_option maxHeartbeats 2000000 in
theorem is_ref (tx : ByteArray) (p t : Addr) (c c2 : Array Value) (ty ty2 : TypeId) (W : World) (hp : W.heap[p.block]? = some (.cells c ty (0, 0))) (ht : W.heap[t.block]? = some (.cells c2 ty2 (0, 0))) :
    Calls Tryd.prog 74 #[.iface 102 (.agg #[.string tx, .iface 126 (.pointer (some p))]), .iface 126 (.pointer (some t)), .bool true] W fun r w' => r = .returned (.bool (decide (p = t))) ∧ Frm [] W w' := by
  obtain ⟨i, hi, hcmp⟩ := Option.map_eq_some_iff.1 isComp
  obtain ⟨j, hj, hjs⟩ := Option.map_eq_some_iff.1 isSize
  have nE := noIsE
  have uE := noUnwrapE
  have vE := noUnwrapsE
  have nR := noIsR
  have uR := hasUnwrapR
  have mR := methodUnwrapR
  have hty := run_eql_iface_types (P := Tryd.prog) 102 126 (.agg #[.string tx, .iface 126 (.pointer (some p))]) (.pointer (some t)) Tryd.underlying70 (by decide)
  have HU := Lib.hid (fun W => Unwrap_any tx (.iface 126 (.pointer (some p))) rfl W)
  have HP := Lib.hid hp
  have HT := Lib.hid ht
  clear hp ht
  go_enter Tryd.func74, Tryd.ntmps74
  go_wp2
  go_loopw [0] (fun E' wl => Frm [] W wl ∧ (E' = .iface 102 (.agg #[.string tx, .iface 126 (.pointer (some p))]) ∨ E' = .iface 126 (.pointer (some p)))) (fun E' _ => mE E')
  case atStart => exact ⟨Frm.refl _ _, .inl rfl⟩
  case round =>
    obtain ⟨f, rfl | rfl⟩ := hrel
    · have F := Lib.hid f
      clear f
      go_wp2_with (go_at_call 92; refine (HU.out _).mono ?_; rintro r w2 ⟨rfl, f2⟩)
      go_roundw
      case rel => exact ⟨F.out.trans f2 (by simp), .inr rfl⟩
      case measure => simp [mE]
    · have hp1 := f.heap HP.out (by simp)
      have ht1 := f.heap HT.out (by simp)
      by_cases hab : p = t
      · subst hab
        have heq := run_eql_iface_ptr_same (P := Tryd.prog) wr p Tryd.underlying70 Tryd.underlying126 hi hcmp hj
        go_wp2
        go_ret
        exact ⟨by simp, f⟩
      · have heq := run_eql_iface_ptr_other (P := Tryd.prog) wr Tryd.underlying70 Tryd.underlying126 hi hcmp hj (by rw [hjs]; decide) hab hp1 ht1
        go_wp2
        go_ret
        exact ⟨by rw [decide_eq_false hab]; rfl, f⟩
end Go.Proofs.YtdebnikolhhmgaaDoor
