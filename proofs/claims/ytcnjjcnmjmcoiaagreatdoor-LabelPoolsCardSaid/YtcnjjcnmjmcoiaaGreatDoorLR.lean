/-
  Contracts of Pool of none. No conditions but those that each theorem names.
-/
import Derived.Test.YtcnjjcnmjmcoiaaGreatDoorLQ

namespace Go.Proofs.YtcnjjcnmjmcoiaaGreatDoor
open Go.RowKit Go.Maps
set_option linter.unusedVariables false
set_option linter.unusedSimpArgs false
set_option maxRecDepth 100000

theorem Collect_none (Bm b : Nat) (w : World) (hBm : Bm < w.heap.size) (hb : b < w.heap.size) (hm : w.heap[Bm]? = some (.cells #[.map (some b)] 53 (0, 0))) (hown : w.ownsMap Tryz.prog 26 (plainElem (H := Unit) Tryz.prog 3) b 0 (.map [])) :
    Calls Tryz.prog 55 #[.func (.func 57) #[] #[.pointer (some ⟨Bm, 0, none⟩)]] w fun r w' => r = .returned (.slice none 0 0) ∧ Frm [] w w' := by
  have HA := Lib.hid (AppendSeq_none Bm b w hBm hb hm hown)
  clear hm hown
  go_enter Tryz.func55, Tryz.ntmps55
  go_wp2_with (go_at_call 90; refine HA.out.mono ?_; rintro r w1 ⟨rfl, f1⟩)
  go_ret
  exact ⟨rfl, f1⟩
theorem Len64_none (w : World) : Calls Tryz.prog 118 #[.int .u64 0] w fun r w' => r = .returned (.int .i64 0) ∧ w' = w := by
  go_enter Tryz.func118, Tryz.ntmps118
  go_wp2
  go_ret
  exact ⟨by kernel_rfl, rfl⟩
theorem Len_none (w : World) : Calls Tryz.prog 92 #[.int .u64 0] w fun r w' => r = .returned (.int .i64 0) ∧ w' = w := by
  go_enter Tryz.func92, Tryz.ntmps92
  go_wp2_with (go_at_call 118; refine (Len64_none _).mono ?_; rintro r w1 ⟨rfl, rfl⟩)
  go_ret
  exact ⟨rfl, rfl⟩
theorem Insertion_none (f : Value) (w : World) : Calls Tryz.prog 109 #[.slice none 0 0, .int .i64 0, .int .i64 0, f] w fun r w' => r = .returned (.tuple #[]) ∧ w' = w := by
  go_enter Tryz.func109, Tryz.ntmps109
  go_wp2_with fail
  go_loopw [8] (fun c wr => c = .int .i64 1 ∧ wr = w) (fun _ _ => 0)
  case atStart => exact ⟨rfl, rfl⟩
  case round =>
    obtain ⟨rfl, rfl⟩ := hrel
    go_wp2_with fail
    go_end0
    exact ⟨rfl, rfl⟩
theorem Pdq_none (f : Value) (w : World) : Calls Tryz.prog 91 #[.slice none 0 0, .int .i64 0, .int .i64 0, .int .i64 0, f] w fun r w' => r = .returned (.tuple #[]) ∧ w' = w := by
  go_enter Tryz.func91, Tryz.ntmps91
  go_wp2_with fail
  go_loopw [1, 2, 3, 10, 11] (fun a b c _ _ wr => a = .int .i64 0 ∧ b = .int .i64 0 ∧ c = .int .i64 0 ∧ wr = w) (fun _ _ _ _ _ _ => 0)
  case atStart => exact ⟨rfl, rfl, rfl, rfl⟩
  case round =>
    obtain ⟨rfl, rfl, rfl, rfl⟩ := hrel
    go_wp2_with (go_at_call 109; refine (Insertion_none _ _).mono ?_; rintro r w1 ⟨rfl, rfl⟩)
    exact bodyPost_ret (results_none rfl _ _ _) rfl ⟨rfl, rfl⟩
theorem SortFunc_none (w : World) : Calls Tryz.prog 56 #[.slice none 0 0, .func (.func 33) #[] #[]] w fun r w' => r = .returned (.tuple #[]) ∧ w' = w := by
  go_enter Tryz.func56, Tryz.ntmps56
  go_wp2_with (first | (go_at_call 92; refine (Len_none _).mono ?_; rintro r w1 ⟨rfl, rfl⟩) | (go_at_call 91; refine (Pdq_none _ _).mono ?_; rintro r w1 ⟨rfl, rfl⟩))
  go_end0
  exact ⟨rfl, rfl⟩
theorem SortedFunc_none (Bm b : Nat) (w : World) (hBm : Bm < w.heap.size) (hb : b < w.heap.size) (hm : w.heap[Bm]? = some (.cells #[.map (some b)] 53 (0, 0))) (hown : w.ownsMap Tryz.prog 26 (plainElem (H := Unit) Tryz.prog 3) b 0 (.map [])) :
    Calls Tryz.prog 31 #[.func (.func 57) #[] #[.pointer (some ⟨Bm, 0, none⟩)], .func (.func 33) #[] #[]] w fun r w' => r = .returned (.slice none 0 0) ∧ Frm [] w w' := by
  have HA := Lib.hid (Collect_none Bm b w hBm hb hm hown)
  clear hm hown
  go_enter Tryz.func31, Tryz.ntmps31
  go_wp2_with (first | (go_at_call 55; refine HA.out.mono ?_; rintro r w1 ⟨rfl, f1⟩) | (go_at_call 56; refine (SortFunc_none _).mono ?_; rintro r w2 ⟨rfl, rfl⟩))
  go_ret
  exact ⟨rfl, f1⟩
theorem Keys_any (b : Option Nat) (w : World) : Calls Tryz.prog 32 #[.map b] w fun r w' => r = .returned (.func (.func 57) #[] #[.pointer (some ⟨w.heap.size, 0, none⟩)]) ∧ w' = w.alloc (.cells #[.map b] 53) := by
  have hmf : ∀ (fn : Fn) (first cap : Array Value) (w : World), (Instr.makeFunc fn first cap).run Tryz.prog w = .ok (.func fn first cap) w := fun _ _ _ _ => rfl
  go_enter Tryz.func32, Tryz.ntmps32
  go_wp2
  go_ret
  exact ⟨rfl, rfl⟩
def ids0 : List UInt8 := List.replicate 32 0
theorem alloc26' {o : Oper} {a : Act} (hop : o.op = Op.alloc 26) (W : World) : (execOp a.eval o).run Tryz.prog W = .ok (.value (.pointer (some ⟨W.heap.size, 0, none⟩))) (W.alloc (.cells (bvs ids0).toArray 26)) := exec_alloc26 hop W
/-- Of no labels there is no pool. -/
theorem Pool_none (w : World) : Calls Tryz.prog 13 #[.slice none 0 0] w fun r w' => r = .returned (.tuple #[idv ids0, .bool false]) ∧ Frm [] w w' := by
  have hmm := @run_makeMap Tryz.prog
  have f0 : Frm [] w (w.alloc (.cells (bvs ids0).toArray 26)) := (Frm.refl [] w).alloc _
  have h0 := heap_alloc_new w (.cells (bvs ids0).toArray 26)
  go_enter Tryz.func13, Tryz.ntmps13
  go_upto_region 1 with ((with_reducible (show wpList _ _ _ (Oper.mk _ (Op.alloc 26) _ _ _ _ :: _) _ _)); refine wpList_val rfl (alloc26' rfl _) ?_)
  have F0 := Lib.hid f0
  have H0 := Lib.hid h0
  clear f0 h0
  generalize w.alloc (.cells (bvs ids0).toArray 26) = W0 at *
  obtain ⟨R, hR⟩ : ∃ R, w.heap.size = R := ⟨_, rfl⟩
  rw [hR] at H0 ⊢
  have HR := Lib.hid hR
  have ZR := Lib.hid (lt_heap H0.out)
  clear hR
  have f1 : Frm [] W0 (W0.alloc (.map #[] 0)) := (Frm.refl [] W0).alloc _
  have OW := Lib.hid (World.ownsMap_made W0 Tryz.prog 26 (plainElem (H := Unit) Tryz.prog 3))
  have F1 := Lib.hid (F0.out.trans f1 (by simp))
  have H1 := Lib.hid (f1.heap H0.out (by simp))
  have hz : (W0.alloc (.map #[] 0)).heap.size = W0.heap.size + 1 := by simp
  go_wp2_with fail
  generalize W0.alloc (.map #[] 0) = W1 at *
  obtain ⟨b, hb⟩ : ∃ b, W0.heap.size = b := ⟨_, rfl⟩
  have ZB0 := Lib.hid hb
  rw [hb] at OW hz ZR ⊢
  clear hb f1 F0 H0
  go_loopw [14] (fun c wr => c = .int .i64 0 ∧ wr = W1) (fun _ _ => 0)
  case atStart => exact ⟨rfl, rfl⟩
  case round =>
    obtain ⟨rfl, rfl⟩ := hrel
    go_upto_region 9 with ((with_reducible (show wpList _ _ _ (Oper.mk _ (Op.alloc 26) _ _ _ _ :: _) _ _)); refine wpList_val rfl (alloc26' rfl _) ?_)
    have h0 := heap_alloc_new wr (.cells (bvs ids0).toArray 26)
    have f2 : Frm [] wr (wr.alloc (.cells (bvs ids0).toArray 26)) := (Frm.refl [] wr).alloc _
    have B0 := Lib.hid h0
    have F2 := Lib.hid (F1.out.trans f2 (by simp))
    have H2 := Lib.hid (f2.heap H1.out (by simp))
    have OW2 := Lib.hid (show (wr.alloc (.cells (bvs ids0).toArray 26)).ownsMap Tryz.prog 26 (plainElem (H := Unit) Tryz.prog 3) b 0 (.map []) by
      obtain ⟨es, clock, h1, rest⟩ := OW.out
      exact ⟨es, clock, f2.heap h1 (by simp), rest⟩)
    have hz2 : (wr.alloc (.cells (bvs ids0).toArray 26)).heap.size = wr.heap.size + 1 := by simp
    have ZB := Lib.hid (show wr.heap.size = b + 1 by rw [hz, ← ZB0.out])
    clear h0 f2 F1 H1 OW
    generalize wr.alloc (.cells (bvs ids0).toArray 26) = W2 at *
    generalize wr.heap.size = B at *
    go_wp2_with fail
    refine (Keys_any _ _).mono ?_
    rintro r w3 ⟨rfl, hw3⟩
    have f3 : Frm [] W2 w3 := by rw [hw3]; exact (Frm.refl [] W2).alloc _
    have k1 : w3.heap[W2.heap.size]? = some (.cells #[.map (some b)] 53 (0, 0)) := by rw [hw3]; exact heap_alloc_new _ _
    have k2 : w3.ownsMap Tryz.prog 26 (plainElem (H := Unit) Tryz.prog 3) b 0 (.map []) := by
      obtain ⟨es, clock, h1, rest⟩ := OW2.out
      exact ⟨es, clock, f3.heap h1 (by simp), rest⟩
    have HS := Lib.hid (SortedFunc_none W2.heap.size b w3 (lt_heap k1) (by obtain ⟨es, clock, h1, rest⟩ := k2; exact lt_heap h1) k1 k2)
    have F3 := Lib.hid (F2.out.trans f3 (by simp))
    have B3 := Lib.hid (f3.heap B0.out (by simp))
    have H3 := Lib.hid (f3.heap H2.out (by simp))
    clear hw3 f3 k1 k2 F2 B0 H2 OW2
    rw [show W2.heap.size = b + 1 + 1 by rw [hz2, ZB.out]] at HS
    go_wp2_with fail
    refine HS.out.mono ?_
    rintro r w4 ⟨rfl, f4⟩
    have F4 := Lib.hid (F3.out.trans f4 (by simp))
    have B4 := Lib.hid (f4.heap B3.out (by simp))
    have H4 := Lib.hid (f4.heap H3.out (by simp))
    clear f4 F3 B3 H3 HS
    go_wp2_with fail
    go_loopw [32, 8] (fun c d wr => c = .int .i64 0 ∧ d = .int .i64 0 ∧ wr = w4) (fun _ _ _ => 0)
    case atStart => exact ⟨rfl, rfl, rfl⟩
    case round =>
      obtain ⟨rfl, rfl, rfl⟩ := hrel
      rw [ZB.out] at B4
      have G4 := Lib.hid (show (Instr.loadAt 26 (.pointer (some ⟨b + 1, 0, none⟩))).run Tryz.prog wr = .ok (idv ids0) wr from run_loadAt_mid wr (b + 1) 0 26 (bvs ids0) _ (fun j u hu => by rw [cell_of_heap B4.out]; simpa using hu) d26 rfl (by rw [i26]; rfl))
      go_wp2_with (first
        | ((with_reducible (show wpList _ _ _ (Oper.mk _ (Op.load 26 _) _ _ _ _ :: _) _ _)); refine wpList_load_g (by rfl) 26 _ rfl _ rfl G4.out ?_)
        | ((with_reducible (show wpList _ _ _ (Oper.mk _ (Op.store 26 _ _) _ _ _ _ :: _) _ _)); refine wpList_store_row rfl 26 (.tmp 2) (.tmp 46) rfl R (bvs ids0).toArray rfl rfl 26 _ H4.out (by rw [i26]; rfl) rfl (all_oneCell_toArray (bvs_one ids0)) ?_))
      have hr := setRow_heap wr R _ (bvs ids0).toArray 26 (0, 0) H4.out
      have fr : Frm [] w (wr.setRow R (bvs ids0).toArray) := F4.out.trans (show Frm [R] wr _ from ⟨rfl, rfl, rfl, by simp [World.setRow], fun k hk hn => setRow_other wr R k _ (by simpa using hn)⟩) (fun i hi => .inr (by have := HR.out; simp at hi; omega))
      exact bodyPost_ret (v := .tuple #[idv ids0, .bool false]) (results_cell_slot rfl _ _ rfl rfl (run_loadVar_row _ R 26 26 _ (0, 0) _ hr d26 rfl (by rw [i26]; rfl))) rfl ⟨rfl, fr⟩
end Go.Proofs.YtcnjjcnmjmcoiaaGreatDoor
