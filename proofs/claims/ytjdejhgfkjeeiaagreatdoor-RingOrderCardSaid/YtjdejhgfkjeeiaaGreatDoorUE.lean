/-
  errors.Join of two, errors.Is at what is joined so. No conditions but those that each theorem names.
-/
import Derived.Test.YtjdejhgfkjeeiaaGreatDoorKR
import Derived.Test.YtjdejhgfkjeeiaaGreatDoorChecked
import Derived.Stop.Asserts
import Derived.LaidEql
import Derived.RowKitTokens
import Derived.WalkHide
import Derived.StillTailTactics
namespace Go.Proofs.YtjdejhgfkjeeiaaGreatDoor
open Go.RowKit Go.Extern.Stop Go.Stop Go.Extern
set_option linter.unusedVariables false
set_option linter.unusedSimpArgs false
set_option maxRecDepth 100000

open Kr (OwnE SlE Enco RowTys)
theorem isTypeOf (v : Value) (w : World) : (Extern.ReflectliteType.typeOf #[.iface 212 v]).run Tryz.prog w = .ok (.iface 200 (.agg #[.pointer (some ⟨5, 212, none⟩)])) w := by kernel_rfl
theorem isComparable (w : World) : ((Extern.ReflectliteType.method fun t => do Extern.Rtype.noPackHeld "Comparable" t; (fun a => Value.bool a.comparable) <$> typeInfo t) #[.agg #[.pointer (some ⟨5, 212, none⟩)]]).run Tryz.prog w = .ok (.bool true) w := by kernel_rfl
theorem isMethodComparable (v : Value) (w : World) : (Go.method 352 200 v "Comparable").run Tryz.prog w = .ok (214, v) w := by kernel_rfl
theorem isComp : (Tryz.prog.info? 212).map (·.comparable) = some true := by kernel_rfl
theorem isSize : (Tryz.prog.info? 240).map (·.size) = some 1 := by kernel_rfl
theorem noIsE (v : Value) (xT : TypeId) (w : World) : (Instr.typeAssert (.iface 212 v) xT 202 true).run Tryz.prog w = .ok (.tuple #[.nilIface, .bool false]) w := run_typeAssert_lacksB Tryz.underlying202 (by kernel_rfl) (by kernel_rfl) v xT w
theorem noUnwrapE (v : Value) (xT : TypeId) (w : World) : (Instr.typeAssert (.iface 212 v) xT 205 true).run Tryz.prog w = .ok (.tuple #[.nilIface, .bool false]) w := run_typeAssert_lacksB Tryz.underlying205 (by kernel_rfl) (by kernel_rfl) v xT w
theorem noUnwrapsE (v : Value) (xT : TypeId) (w : World) : (Instr.typeAssert (.iface 212 v) xT 207 true).run Tryz.prog w = .ok (.tuple #[.nilIface, .bool false]) w := run_typeAssert_lacksB Tryz.underlying207 (by kernel_rfl) (by kernel_rfl) v xT w
theorem noIsJ (v : Value) (xT : TypeId) (w : World) : (Instr.typeAssert (.iface 186 v) xT 202 true).run Tryz.prog w = .ok (.tuple #[.nilIface, .bool false]) w := run_typeAssert_lacksB Tryz.underlying202 (by kernel_rfl) (by kernel_rfl) v xT w
theorem noUnwrapJ (v : Value) (xT : TypeId) (w : World) : (Instr.typeAssert (.iface 186 v) xT 205 true).run Tryz.prog w = .ok (.tuple #[.nilIface, .bool false]) w := run_typeAssert_lacksB Tryz.underlying205 (by kernel_rfl) (by kernel_rfl) v xT w
theorem hasUnwrapsJ (v : Value) (xT : TypeId) (w : World) : (Instr.typeAssert (.iface 186 v) xT 207 true).run Tryz.prog w = .ok (.tuple #[.iface 186 v, .bool true]) w := run_typeAssert_hasB Tryz.underlying207 (by kernel_rfl) v xT w
theorem methodUnwrapJ (v : Value) (w : World) : (Go.method 352 186 v "Unwrap").run Tryz.prog w = .ok (210, v) w := by kernel_rfl
/-- What errors are joined of, as a tree of sentinels; none of it lies in the blocks X. -/
inductive ErrT (W : World) (X : List Nat) : Value → List Addr → Prop
  | leaf (p : Addr) (c : Array Value) (t : TypeId) : p.block ∉ X → W.heap[p.block]? = some (.cells c t (0, 0)) → ErrT W X (.iface 212 (.pointer (some p))) [p]
  | one (b g cap : Nat) (E : Value) (L : List Addr) : b ∉ X ∧ g ∉ X → W.cell? ⟨b, 0, none⟩ = some (.slice (some ⟨g, 0, none⟩) 1 cap) → W.cell? ⟨g, 0, none⟩ = some E → ErrT W X E L → ErrT W X (.iface 186 (.pointer (some ⟨b, 0, none⟩))) L
  | two (b g cap : Nat) (E E2 : Value) (L L2 : List Addr) : b ∉ X ∧ g ∉ X → W.cell? ⟨b, 0, none⟩ = some (.slice (some ⟨g, 0, none⟩) 2 cap) → W.cell? ⟨g, 0, none⟩ = some E → W.cell? ⟨g, 1, none⟩ = some E2 → ErrT W X E L → ErrT W X E2 L2 → ErrT W X (.iface 186 (.pointer (some ⟨b, 0, none⟩))) (L ++ L2)
theorem ErrT.keep {w w' : World} {X : List Nat} {E : Value} {L : List Addr} (h : ErrT w X E L) (f : Frm X w w') : ErrT w' X E L := by
  induction h with
  | leaf p c t hx h => exact .leaf p c t hx (f.heap h hx)
  | one b g cap E L hx h1 h2 _ ih => exact .one b g cap E L hx (f.cell h1 hx.1) (f.cell h2 hx.2) ih
  | two b g cap E E2 L L2 hx h1 h2 h3 _ _ ih ih2 => exact .two b g cap E E2 L L2 hx (f.cell h1 hx.1) (f.cell h2 hx.2) (f.cell h3 hx.2) ih ih2
theorem ErrT.keep0 {w w' : World} {X : List Nat} {E : Value} {L : List Addr} (h : ErrT w X E L) (f : Frm [] w w') : ErrT w' X E L := h.keep (f.mono (by simp))
theorem ErrT.form {w : World} {X : List Nat} {E : Value} {L : List Addr} (h : ErrT w X E L) : ∃ u v, E = .iface u v := by cases h <;> exact ⟨_, _, rfl⟩
theorem Unwrap_any (b : Nat) (v : Value) (w : World) (h : w.cell? ⟨b, 0, none⟩ = some v) : Calls Tryz.prog 210 #[.pointer (some ⟨b, 0, none⟩)] w fun r w' => r = .returned v ∧ w' = w := by
  go_enter Tryz.func210, Tryz.ntmps210
  go_wp2
  go_ret
  exact ⟨rfl, rfl⟩
theorem is_leaf (p t : Addr) (c c2 : Array Value) (ty ty2 : TypeId) (W : World) (hp : W.heap[p.block]? = some (.cells c ty (0, 0))) (ht : W.heap[t.block]? = some (.cells c2 ty2 (0, 0))) :
    Calls Tryz.prog 161 #[.iface 212 (.pointer (some p)), .iface 212 (.pointer (some t)), .bool true] W fun r w' => r = .returned (.bool (decide (t ∈ [p]))) ∧ Frm [] W w' := by
  obtain ⟨i, hi, hcmp⟩ := Option.map_eq_some_iff.1 isComp
  obtain ⟨j, hj, hjs⟩ := Option.map_eq_some_iff.1 isSize
  have nE := noIsE
  have uE := noUnwrapE
  have vE := noUnwrapsE
  go_enter Tryz.func161, Tryz.ntmps161
  go_wp2
  go_loopw [0] (fun E' wl => wl = W ∧ E' = .iface 212 (.pointer (some p))) (fun _ _ => 0)
  case atStart => exact ⟨rfl, rfl⟩
  case round =>
    obtain ⟨rfl, rfl⟩ := hrel
    by_cases hab : p = t
    · subst hab
      have heq := run_eql_iface_ptr_same (P := Tryz.prog) wr p Tryz.underlying93 Tryz.underlying212 hi hcmp hj
      go_wp2
      go_ret
      exact ⟨by simp, Frm.refl _ _⟩
    · have heq := run_eql_iface_ptr_other (P := Tryz.prog) wr Tryz.underlying93 Tryz.underlying212 hi hcmp hj (by rw [hjs]; decide) hab hp ht
      go_wp2
      go_ret
      exact ⟨by rw [show decide (t ∈ [p]) = false by simp; exact fun e => hab e.symm]; rfl, Frm.refl _ _⟩
set_option maxHeartbeats 2000000 in
theorem is_any (t : Addr) (c2 : Array Value) (ty2 : TypeId) {W : World} {X : List Nat} {E : Value} {L : List Addr} (h : ErrT W X E L) : ∀ W', Frm [] W W' → W'.heap[t.block]? = some (.cells c2 ty2 (0, 0)) →
    Calls Tryz.prog 161 #[E, .iface 212 (.pointer (some t)), .bool true] W' fun r w' => r = .returned (.bool (decide (t ∈ L))) ∧ Frm [] W' w' := by
  have nJ := noIsJ
  have uJ := noUnwrapJ
  have vJ := hasUnwrapsJ
  have mJ := methodUnwrapJ
  induction h with
  | leaf p c ty hx hp => exact fun W' f ht => is_leaf p t c c2 ty ty2 W' (f.heap hp (by simp)) ht
  | one b g cap E L hx h1 h2 h3 ih =>
    intro W' f ht
    have k1 := f.cell h1 (by simp)
    have K2 := Lib.hid (f.cell h2 (by simp))
    have IH := Lib.hid ih
    obtain ⟨u, v, rfl⟩ := h3.form
    have HT := Lib.hid ht
    have F := Lib.hid f
    clear ih h3 ht h1 h2 f
    have hty := run_eql_iface_types (P := Tryz.prog) 186 212 (.pointer (some ⟨b, 0, none⟩)) (.pointer (some t)) Tryz.underlying93 (by decide)
    have HU := Lib.hid (Unwrap_any b _ W' k1)
    obtain ⟨q, hq⟩ : ∃ q, decide (t ∈ L) = q := ⟨_, rfl⟩
    rw [hq] at IH ⊢
    clear hq k1
    go_enter Tryz.func161, Tryz.ntmps161
    go_wp2
    go_loopw [0] (fun E' wl => wl = W' ∧ E' = .iface 186 (.pointer (some ⟨b, 0, none⟩))) (fun _ _ => 0)
    case atStart => exact ⟨rfl, rfl⟩
    case round =>
      obtain ⟨hw, rfl⟩ := hrel
      obtain rfl := hw.symm
      go_wp2_with (go_at_call 210; refine HU.out.mono ?_; rintro r w2 ⟨rfl, hw2⟩; obtain rfl := hw2.symm)
      go_loopw [45] (fun c wr => ∃ k : Nat, k ≤ 1 ∧ c = .int .i64 k ∧ (k = 1 → q = false) ∧ Frm [] W' wr) (fun c _ => 1 - (intOf c).toNat)
      case atStart => exact ⟨0, by omega, rfl, fun h => by omega, Frm.refl _ _⟩
      case round =>
        obtain ⟨k, hk, rfl, hkq, fr⟩ := hrel
        generalize wr = wB at *
        match k, hk with
        | 0, _ =>
          have k2 := fr.cell K2.out (by simp)
          have HC := Lib.hid (IH.out wB (F.out.trans fr (by simp)) (fr.heap HT.out (by simp)))
          have FR := Lib.hid fr
          clear fr hkq
          cases q with
          | true =>
            go_wp2_with (go_at_call 161; refine HC.out.mono ?_; rintro r w3 ⟨rfl, f3⟩)
            go_ret
            exact ⟨rfl, FR.out.trans f3 (by simp)⟩
          | false =>
            go_wp2_with (go_at_call 161; refine HC.out.mono ?_; rintro r w3 ⟨rfl, f3⟩)
            go_roundw
            case rel => exact ⟨1, by omega, rfl, by simp, FR.out.trans f3 (by simp)⟩
            case measure => simp [intOf]
        | 1, _ =>
          obtain rfl := hkq rfl
          go_wp2_with fail
          go_ret
          exact ⟨rfl, fr⟩
  | two b g cap E E2 L L2 hx h1 h2 h3 h4 h5 ih ih2 =>
    intro W' f ht
    have k1 := f.cell h1 (by simp)
    have K2 := Lib.hid (f.cell h2 (by simp))
    have K3 := Lib.hid (f.cell h3 (by simp))
    have IH := Lib.hid ih
    have IH2 := Lib.hid ih2
    obtain ⟨u, v, rfl⟩ := h4.form
    obtain ⟨u2, v2, rfl⟩ := h5.form
    have HT := Lib.hid ht
    have F := Lib.hid f
    clear ih ih2 h3 ht h1 h2 f h4 h5
    have hty := run_eql_iface_types (P := Tryz.prog) 186 212 (.pointer (some ⟨b, 0, none⟩)) (.pointer (some t)) Tryz.underlying93 (by decide)
    have HU := Lib.hid (Unwrap_any b _ W' k1)
    rw [show decide (t ∈ L ++ L2) = (decide (t ∈ L) || decide (t ∈ L2)) by simp [List.mem_append]]
    obtain ⟨q, hq⟩ : ∃ q, decide (t ∈ L) = q := ⟨_, rfl⟩
    obtain ⟨q2, hq2⟩ : ∃ q, decide (t ∈ L2) = q := ⟨_, rfl⟩
    rw [hq] at IH ⊢
    rw [hq2] at IH2 ⊢
    clear hq hq2 k1
    go_enter Tryz.func161, Tryz.ntmps161
    go_wp2
    go_loopw [0] (fun E' wl => wl = W' ∧ E' = .iface 186 (.pointer (some ⟨b, 0, none⟩))) (fun _ _ => 0)
    case atStart => exact ⟨rfl, rfl⟩
    case round =>
      obtain ⟨hw, rfl⟩ := hrel
      obtain rfl := hw.symm
      go_wp2_with (go_at_call 210; refine HU.out.mono ?_; rintro r w2 ⟨rfl, hw2⟩; obtain rfl := hw2.symm)
      go_loopw [45] (fun c wr => ∃ k : Nat, k ≤ 2 ∧ c = .int .i64 k ∧ (1 ≤ k → q = false) ∧ (k = 2 → q2 = false) ∧ Frm [] W' wr) (fun c _ => 2 - (intOf c).toNat)
      case atStart => exact ⟨0, by omega, rfl, fun h => by omega, fun h => by omega, Frm.refl _ _⟩
      case round =>
        obtain ⟨k, hk, rfl, hkq, hkq2, fr⟩ := hrel
        generalize wr = wB at *
        match k, hk with
        | 0, _ =>
          have k2 := fr.cell K2.out (by simp)
          have HC := Lib.hid (IH.out wB (F.out.trans fr (by simp)) (fr.heap HT.out (by simp)))
          have FR := Lib.hid fr
          clear fr hkq hkq2
          cases q with
          | true =>
            go_wp2_with (go_at_call 161; refine HC.out.mono ?_; rintro r w3 ⟨rfl, f3⟩)
            go_ret
            exact ⟨rfl, FR.out.trans f3 (by simp)⟩
          | false =>
            go_wp2_with (go_at_call 161; refine HC.out.mono ?_; rintro r w3 ⟨rfl, f3⟩)
            go_roundw
            case rel => exact ⟨1, by omega, rfl, by simp, fun h => by omega, FR.out.trans f3 (by simp)⟩
            case measure => simp [intOf]
        | 1, _ =>
          obtain rfl := hkq (by omega)
          have k2 := fr.cell K3.out (by simp)
          have HC := Lib.hid (IH2.out wB (F.out.trans fr (by simp)) (fr.heap HT.out (by simp)))
          have FR := Lib.hid fr
          clear fr hkq hkq2
          cases q2 with
          | true =>
            go_wp2_with (go_at_call 161; refine HC.out.mono ?_; rintro r w3 ⟨rfl, f3⟩)
            go_ret
            exact ⟨rfl, FR.out.trans f3 (by simp)⟩
          | false =>
            go_wp2_with (go_at_call 161; refine HC.out.mono ?_; rintro r w3 ⟨rfl, f3⟩)
            go_roundw
            case rel => exact ⟨2, by omega, rfl, by simp, by simp, FR.out.trans f3 (by simp)⟩
            case measure => simp [intOf]
        | 2, _ =>
          obtain rfl := hkq (by omega)
          obtain rfl := hkq2 rfl
          go_wp2_with fail
          go_ret
          exact ⟨rfl, fr⟩
/-- errors.Is at nil, and at what is joined. -/
theorem Is_nil (t : Addr) (W : World) : Calls Tryz.prog 117 #[.nilIface, .iface 212 (.pointer (some t))] W fun r w' => r = .returned (.bool false) ∧ Frm [] W w' := by
  have h1 := run_eql_iface_nil_left (P := Tryz.prog) W 212 (.pointer (some t)) Tryz.underlying93
  go_enter Tryz.func117, Tryz.ntmps117
  go_wp2_with fail
  exact bodyPost_ret (v := .bool false) (by simp [results, Tryz.results117, go_sem]) rfl ⟨rfl, Frm.refl _ _⟩
theorem Is_any (t : Addr) (c2 : Array Value) (ty2 : TypeId) {W : World} {X : List Nat} {E : Value} {L : List Addr} (h : ErrT W X E L) (ht : W.heap[t.block]? = some (.cells c2 ty2 (0, 0))) :
    Calls Tryz.prog 117 #[E, .iface 212 (.pointer (some t))] W fun r w' => r = .returned (.bool (decide (t ∈ L))) ∧ Frm [] W w' := by
  have HI := Lib.hid (fun W' f => is_any t c2 ty2 h W' f (f.heap ht (by simp)))
  obtain ⟨u, v, rfl⟩ := h.form
  have h10 := @run_callFunc_extern Tryz.prog 160 _ Extern.ReflectliteType.typeOf Tryz.func160 (by kernel_rfl) (by kernel_rfl) (by kernel_rfl) (by kernel_rfl)
  have h30 := @run_callFunc_extern Tryz.prog 214 _ (Extern.ReflectliteType.method fun t => do Extern.Rtype.noPackHeld "Comparable" t; pure (.bool (← typeInfo t).comparable)) Tryz.func214 (by kernel_rfl) (by kernel_rfl) (by kernel_rfl) (by kernel_rfl)
  have e1 := isTypeOf
  have e2 := isComparable
  have e3 := isMethodComparable
  clear h ht
  go_enter Tryz.func117, Tryz.ntmps117
  go_wp2_with (go_at_call 161; refine (HI.out _ (Frm.refl _ _)).mono ?_; rintro r w3 ⟨rfl, f3⟩)
  go_ret
  exact ⟨rfl, f3⟩
end Go.Proofs.YtjdejhgfkjeeiaaGreatDoor
