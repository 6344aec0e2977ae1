/-
  A write settles. No conditions but those that each theorem names.
-/
import Derived.Test.YtdebnikolhhmgaaDoorBJ
import Derived.Test.YtdebnikolhhmgaaDoorKL
namespace Go.Proofs.YtdebnikolhhmgaaDoor
open Go.RowKit
set_option linter.unusedVariables false
set_option linter.unusedSimpArgs false
set_option maxRecDepth 100000

open Kr (OwnE SlE Enco RowTys)
def mixB (f b : FB) (n : Nat) : FB := ⟨b.1.take n ++ f.1.drop n, by simp [f.2, b.2]; omega⟩
def settleS (s : St) (x : Wt) (n : Nat) : St := setSec s x.dev x.at' fun c => ⟨mixB c.firm x.b n, none⟩
theorem slB_part {w : World} {b o n : Nat} {l : FB} (hn : n ≤ 256) (h : ∀ j u, (bvs l.1)[j]? = some u → w.cell? ⟨b, o + j, none⟩ = some u) : SlB w (.slice (some ⟨b, o, none⟩) n 256) (l.1.take n) (l.1.drop n) := by
  have hl := l.2
  have e : bvs (l.1.take n) ++ bvs (l.1.drop n) = bvs l.1 := by rw [← bvs_append, List.take_append_drop]
  refine ⟨by rw [bvs_length]; omega, .inr (.inr ⟨b, o, 256, by rw [List.length_take, hl, Nat.min_eq_left hn], by rw [List.length_take, hl]; omega, by simp only [maxLen]; omega, by rw [e, bvs_length, hl], fun j u hu => h j u (by rwa [e] at hu)⟩)⟩
theorem flt_split (scs : List Sr) (j : Nat) (hj : j < scs.length) (y : Sr) : Kr.flt eS (scs.set j y) = Kr.flt eS (scs.take j) ++ (eS y ++ Kr.flt eS (scs.drop (j + 1))) := by
  rw [List.set_eq_take_append_cons_drop, if_pos hj, Kr.flt_append, Kr.flt_cons]
theorem copy_sec (ty : TypeId) {w : World} {gs N cap : Nat} {scs : List Sr} {csp : List Value} (ho : OwnE eS 257 96 w (.slice (some ⟨gs, 0, none⟩) N cap) scs csp) (j : Nat) (hj : j < scs.length) (m : List UInt8) (hm : m.length ≤ 256) {x : Value} (hS : Src Tryd.prog 1 22 x m.length (bvs m) w) (f' : FB) (hf : f'.1 = m ++ scs[j].1.1.drop m.length) :
    ∃ w', (Builtin.copy_ #[22, 22] ty #[.slice (some ⟨gs, j * 257, none⟩) m.length 256, x]).run Tryd.prog w = .ok (goInt m.length) w' ∧ OwnE eS 257 96 w' (.slice (some ⟨gs, 0, none⟩) N cap) (scs.set j (f', scs[j].2)) csp ∧ Frm [gs] w w' := by
  obtain ⟨i, hi, hz, hs, hby⟩ := info_parts BT.info
  obtain ⟨c1, c2, c3, c4⟩ := OwnE.caps encS ho
  have hcells := hS.cells
  have hmin : Nat.min m.length m.length = m.length := Nat.min_self _
  have e0 : Kr.flt eS scs = Kr.flt eS (scs.take j) ++ (eS scs[j] ++ Kr.flt eS (scs.drop (j + 1))) := by
    have := flt_split scs j hj scs[j]
    rwa [List.set_getElem_self] at this
  have hlt : (Kr.flt eS (scs.take j)).length = j * 257 := by rw [Kr.flt_length encS]; simp [List.length_take, Nat.min_eq_left (Nat.le_of_lt hj)]
  have hle : (eS scs[j]).length = 257 := encS.len _
  have hst := run_storeCells_at Tryd.prog gs (j * 257) 96 (bvs m) 0 (Kr.flt eS scs ++ csp).toArray w ho.heap (by rw [e0]; simp [bvs_length, hlt, hle]; omega) (bvs_one m)
  simp only [Nat.add_zero] at hst
  refine ⟨w.setRow gs (Kr.flt eS (scs.set j (f', scs[j].2)) ++ csp).toArray, ?_, OwnE.of_heap encS (setRow_heap w gs _ _ _ _ ho.heap) (by simpa using c1) (by rw [c1]; exact c2) (by simpa using c3) c4, ?_⟩
  · have hb : (bvs scs[j].1.1).drop m.length = bvs (scs[j].1.1.drop m.length) := by simp [bvs, List.map_drop]
    have hcur : (Kr.flt eS scs ++ csp).take (j * 257) ++ bvs m ++ (Kr.flt eS scs ++ csp).drop (j * 257 + (bvs m).length) = Kr.flt eS (scs.set j (f', scs[j].2)) ++ csp := by
      rw [flt_split scs j hj, e0]
      simp only [List.append_assoc]
      rw [List.take_left' hlt, ← List.drop_drop, List.drop_left' hlt, bvs_length]
      unfold eS
      simp only [List.append_assoc]
      rw [List.drop_append_of_le_length (by rw [bvs_length, scs[j].1.2]; exact hm), hb]
      simp only [hf, bvs_append, List.append_assoc]
    rw [← hcur]
    simp [Builtin.copy_, run_underlying BT.sl, sizeOf, typeInfo, hi, hs, hS.len, hmin, hcells, goInt, hst, bvs_length]
  · exact ⟨rfl, rfl, rfl, by simp [World.setRow], fun k hk hn => setRow_other w gs k _ (by simpa using hn)⟩
section
variable {lo : Nat} {w : World} {sn : Nat → Addr} {g : Nat} {s : St}
set_option maxHeartbeats 8000000 in
theorem settle_any (x : Wt) (gw n : Nat) (hn : n ≤ 256) (h : Arr lo w g s) (hw : WtB w gw x) (hd : 0 ≤ x.dev ∧ x.dev < s.devs.length) (hi : x.dev.toNat < s.devs.length) (ha : 0 ≤ x.at' ∧ x.at' < s.devs[x.dev.toNat].secs.length) :
    Calls Tryd.prog 52 #[ptr g, .pointer (some ⟨gw, 0, none⟩), .int .i64 n] w fun e w' => e = .returned (.tuple #[]) ∧ Arr lo w' g (settleS s x n) ∧ Fa lo w w' ∧ ∃ L, Frm L w w' ∧ ∀ k ∈ L, ∃ cs, w.heap[k]? = some (.cells cs 96 (0, 0)) := by
  have hln : s.devs.length ≤ 9223372036854775807 := h.len
  obtain ⟨dv, rv, drs, dsp, rcs, rsp, h⟩ := h
  have hj : x.at'.toNat < s.devs[x.dev.toNat].secs.length := by omega
  have hi2 : x.dev.toNat < drs.length := by rw [h.dlen]; exact hi
  obtain ⟨gd, dcap, gs, cap2, lv, c2, c3, hsv, cl, hmx, hz⟩ := h.sec2 hi hi2 hj
  obtain ⟨e1, e2, e3, scs, csp, o1, o2, o3, o4⟩ := h.dat x.dev.toNat drs[x.dev.toNat] s.devs[x.dev.toNat] (List.getElem?_eq_getElem hi2) (List.getElem?_eq_getElem hi)
  rw [hsv] at o1
  have hj2 : x.at'.toNat < scs.length := by omega
  have q0 : w.cell? ⟨gw, 0, none⟩ = some (.int .i64 x.dev) := by rw [cell_of_heap hw]; rfl
  have q1 : w.cell? ⟨gw, 1, none⟩ = some (.int .i64 x.at') := by rw [cell_of_heap hw]; rfl
  have SA := sector_any g gd gs _ dcap _ cap2 x.dev x.at' hd ha hln hmx w.drew c2 c3
  have HNL := Lib.hid (show (x.b.1.take n).length = n by rw [List.length_take, x.b.2]; omega)
  have SR := Lib.hid (fun W (f : Frm [] w W) => show Src Tryd.prog 1 22 (.slice (some ⟨gw, 2, none⟩) n 256) (x.b.1.take n).length (bvs (x.b.1.take n)) W from by
    have hb := hw.keepF f (by simp)
    have := slB_part (w := W) (b := gw) (o := 2) (n := n) (l := x.b) hn (fun j u hu => by
      rw [cell_of_heap hb, List.getElem?_toArray, show 2 + j = j + 1 + 1 by omega, List.getElem?_cons_succ, List.getElem?_cons_succ]
      exact hu)
    have h2 := Sl.src Tryd.underlying22 this (bvs_one _)
    rw [List.length_take, x.b.2, Nat.min_eq_left hn] at h2 ⊢
    exact h2)
  have O := Lib.hid o1
  have H := Lib.hid h
  have HSV := Lib.hid hsv
  have O2 := Lib.hid o2
  have O3 := Lib.hid o3
  have O4 := Lib.hid o4
  have hn9 : (n : Int) ≤ 256 := by omega
  unfold ptr at SA ⊢
  clear h hw c2 c3 hsv cl hmx hz e1 e2 e3 o1 o2 o3 o4 hln
  go_enter Tryd.func52, Tryd.ntmps52
  go_upto_region 0 with (fail)
  refine wp_region_still_lit (by kernel_rfl) (by kernel_rfl) ?_
  change wpStill _ _ (World.drew _) _ _ _
  repeat still_step
  still_call SA
  repeat still_step
  refine wpStill_nil ?_
  change Exit.then _ _ _ _ (World.drew _)
  have OD := Lib.hid (O.out.keep0 (Frm.refl [] w).drew)
  have FD := Lib.hid ((Frm.refl [] w).drew)
  clear SA q0 q1
  generalize w.drew = D at *
  go_upto_region 1 with (fail)
  refine wp_region_held_drew (S := fun _ => True) (by kernel_rfl) (trivial) (fun hHeld => ?_)
  refine wpAnyH_take (i := 0) (oi := { dst := some 17, op := Op.move (Operand.tmp 6), type := 78, pos := "row.go:21", after := #[], guard := none }) (v := ?_) rfl (by kernel_rfl) (by kernel_rfl) (by kernel_rfl) (fun _ _ _ h => h) (Or.inl ⟨by rfl, ?_⟩) hHeld ?_
  rotate_left
  focus (intro z hSw; clear hSw; go_simp; try with_reducible rfl)
  try simp only [Act.put, List.setIfInBounds_toArray, List.set_cons_zero, List.set_cons_succ]
  refine wpAnyH_take (i := 1) (oi := { dst := some 18, op := Op.nilCheck (Operand.tmp 17), type := 0, pos := "row.go:21", after := #[{ on := 0, ground := Ground.data }], guard := none }) (v := ?_) rfl (by kernel_rfl) (by kernel_rfl) (by kernel_rfl) (fun _ _ _ h => h) (Or.inl ⟨by rfl, ?_⟩) hHeld ?_
  rotate_left
  focus (intro z hSw; clear hSw; go_simp; try with_reducible rfl)
  try simp only [Act.put, List.setIfInBounds_toArray, List.set_cons_zero, List.set_cons_succ]
  refine wpAnyH_take (i := 2) (oi := { dst := some 19, op := Op.fieldAddr 96 (Operand.tmp 18) 0, type := 0, pos := "row.go:21", after := #[{ on := 1, ground := Ground.data }], guard := none }) (v := ?_) rfl (by kernel_rfl) (by kernel_rfl) (by kernel_rfl) (fun _ _ _ h => h) (Or.inl ⟨by rfl, ?_⟩) hHeld ?_
  rotate_left
  focus (intro z hSw; clear hSw; go_simp; try with_reducible rfl)
  try simp only [Act.put, List.setIfInBounds_toArray, List.set_cons_zero, List.set_cons_succ]
  refine wpAnyH_take (i := 3) (oi := { dst := some 20, op := Op.move (Operand.tmp 2), type := 3, pos := "row.go:21", after := #[], guard := none }) (v := ?_) rfl (by kernel_rfl) (by kernel_rfl) (by kernel_rfl) (fun _ _ _ h => h) (Or.inl ⟨by rfl, ?_⟩) hHeld ?_
  rotate_left
  focus (intro z hSw; clear hSw; go_simp; try with_reducible rfl)
  try simp only [Act.put, List.setIfInBounds_toArray, List.set_cons_zero, List.set_cons_succ]
  refine wpAnyH_take (i := 4) (oi := { dst := some 21, op := Op.slice 94 (Operand.tmp 19) none (some (Operand.tmp 20)) none, type := 22, pos := "row.go:21", after := #[{ on := 2, ground := Ground.data }, { on := 3, ground := Ground.data }], guard := none }) (v := ?_) rfl (by kernel_rfl) (by kernel_rfl) (by kernel_rfl) (fun _ _ _ h => h) (Or.inl ⟨by rfl, ?_⟩) hHeld ?_
  rotate_left
  focus (intro z hSw; clear hSw; go_simp; try with_reducible rfl)
  try simp only [Act.put, List.setIfInBounds_toArray, List.set_cons_zero, List.set_cons_succ]
  refine wpAnyH_take (i := 5) (oi := { dst := some 22, op := Op.move (Operand.tmp 1), type := 90, pos := "row.go:21", after := #[], guard := none }) (v := ?_) rfl (by kernel_rfl) (by kernel_rfl) (by kernel_rfl) (fun _ _ _ h => h) (Or.inl ⟨by rfl, ?_⟩) hHeld ?_
  rotate_left
  focus (intro z hSw; clear hSw; go_simp; try with_reducible rfl)
  try simp only [Act.put, List.setIfInBounds_toArray, List.set_cons_zero, List.set_cons_succ]
  refine wpAnyH_take (i := 6) (oi := { dst := some 23, op := Op.nilCheck (Operand.tmp 22), type := 0, pos := "row.go:21", after := #[{ on := 5, ground := Ground.data }], guard := none }) (v := ?_) rfl (by kernel_rfl) (by kernel_rfl) (by kernel_rfl) (fun _ _ _ h => h) (Or.inl ⟨by rfl, ?_⟩) hHeld ?_
  rotate_left
  focus (intro z hSw; clear hSw; go_simp; try with_reducible rfl)
  try simp only [Act.put, List.setIfInBounds_toArray, List.set_cons_zero, List.set_cons_succ]
  refine wpAnyH_take (i := 7) (oi := { dst := some 24, op := Op.fieldAddr 105 (Operand.tmp 23) 2, type := 0, pos := "row.go:21", after := #[{ on := 6, ground := Ground.data }], guard := none }) (v := ?_) rfl (by kernel_rfl) (by kernel_rfl) (by kernel_rfl) (fun _ _ _ h => h) (Or.inl ⟨by rfl, ?_⟩) hHeld ?_
  rotate_left
  focus (intro z hSw; clear hSw; go_simp; try with_reducible rfl)
  try simp only [Act.put, List.setIfInBounds_toArray, List.set_cons_zero, List.set_cons_succ]
  refine wpAnyH_take (i := 8) (oi := { dst := some 25, op := Op.move (Operand.tmp 2), type := 3, pos := "row.go:21", after := #[], guard := none }) (v := ?_) rfl (by kernel_rfl) (by kernel_rfl) (by kernel_rfl) (fun _ _ _ h => h) (Or.inl ⟨by rfl, ?_⟩) hHeld ?_
  rotate_left
  focus (intro z hSw; clear hSw; go_simp; try with_reducible rfl)
  try simp only [Act.put, List.setIfInBounds_toArray, List.set_cons_zero, List.set_cons_succ]
  refine wpAnyH_take (i := 9) (oi := { dst := some 26, op := Op.slice 94 (Operand.tmp 24) none (some (Operand.tmp 25)) none, type := 22, pos := "row.go:21", after := #[{ on := 7, ground := Ground.data }, { on := 8, ground := Ground.data }], guard := none }) (v := ?_) rfl (by kernel_rfl) (by kernel_rfl) (by kernel_rfl) (fun _ _ _ h => h) (Or.inl ⟨by rfl, ?_⟩) hHeld ?_
  rotate_left
  focus (intro z hSw; clear hSw; go_simp; try with_reducible rfl)
  try simp only [Act.put, List.setIfInBounds_toArray, List.set_cons_zero, List.set_cons_succ]
  refine wpAnyH_ready (rs := [10]) (by kernel_rfl) (by simp) ?_
  refine AllReadyH.cons (o := { dst := some 27, op := Op.call { callee := Callee.builtin Builtin.copy, args := #[Operand.tmp 21, Operand.tmp 26], argTypes := #[22, 22] }, type := 3, pos := "row.go:21", after := #[{ on := 4, ground := Ground.data }, { on := 9, ground := Ground.data }], guard := none }) rfl (fun K hK => ?_) AllReadyH.nil
  obtain ⟨w3, r3, o3, f3⟩ := copy_sec 3 (OD.out.keep0 ((Frm.refl [] _).drew)) x.at'.toNat hj2 (x.b.1.take n) (by have := HNL.out; omega) (SR.out _ (FD.out.trans ((Frm.refl [] _).drew) (by simp))) (mixB scs[x.at'.toNat].1 x.b n) (by have := HNL.out; unfold mixB; simp only [this])
  rw [HNL.out] at r3
  refine step_val (v := goInt n) (w' := w3) rfl (by simp [execOp, resolve, invoke, builtin, r3, Result.andThen, go_sem]) ?_
  refine hK.out _ _ ?_ (fun hNext => ?_)
  · trivial
  clear hK K hHeld
  have hHeld := hNext
  clear hNext
  try simp only [Act.put, List.setIfInBounds_toArray, List.set_cons_zero, List.set_cons_succ]
  refine wpAnyH_done (by kernel_rfl) ?_ _
  have b3 := o3.heap
  have z3 := frozen_of_heap b3 (x.at'.toNat * 257 + 256)
  have hl6 : (Kr.flt eS (scs.set x.at'.toNat (mixB scs[x.at'.toNat].1 x.b n, scs[x.at'.toNat].2)) ++ csp).length > x.at'.toNat * 257 + 256 := by
    rw [List.length_append, Kr.flt_length encS, List.length_set]
    omega
  have c6 : w3.cell? ⟨gs, x.at'.toNat * 257 + 256, none⟩ = some ((Kr.flt eS (scs.set x.at'.toNat (mixB scs[x.at'.toNat].1 x.b n, scs[x.at'.toNat].2)) ++ csp)[x.at'.toNat * 257 + 256]'hl6) := by
    rw [cell_of_heap b3, List.getElem?_toArray, List.getElem?_eq_getElem hl6]
  have O33 := Lib.hid o3
  have F33 := Lib.hid f3
  clear o3 f3 b3 r3
  go_wp2_with fail
  go_end0
  have h := H.out
  have fs : Frm [gs] w3 (w3.setCell ⟨gs, x.at'.toNat * 257 + 256, none⟩ (.pointer none)) := (Frm.refl [gs] w3).setCell _ _ (.inl (by simp))
  have f : Frm (blk drs[x.dev.toNat].2.2.2.1) w (w3.setCell ⟨gs, x.at'.toNat * 257 + 256, none⟩ (.pointer none)) := by
    rw [HSV.out]
    exact ((((FD.out.trans ((Frm.refl [] D).drew) (by simp)).mono (by simp)).trans F33.out (fun i hi => .inl (by simpa [blk] using hi))).trans fs (fun i hi => .inl (by simpa [blk] using hi)))
  have hbk : ∀ k ∈ blk drs[x.dev.toNat].2.2.2.1, ∃ cs, w.heap[k]? = some (.cells cs 96 (0, 0)) := fun k hk => by
    rw [HSV.out] at hk
    exact own_blk O.out k hk
  have hfa := Fa.of_frm f (fun k hk => ⟨O2.out k hk, by obtain ⟨cs, hc⟩ := hbk k hk; exact ⟨cs, 96, _, hc, by decide⟩⟩ : ∀ k ∈ blk drs[x.dev.toNat].2.2.2.1, lo ≤ k ∧ ∃ (cs : Array Value) (T : TypeId) (fr : Nat × Nat), w.heap[k]? = some (.cells cs T fr) ∧ okT T = false)
  have hfl : (mixB scs[x.at'.toNat].1 x.b n).1.length = 256 := (mixB scs[x.at'.toNat].1 x.b n).2
  have o5 := OwnE.store encS O33.out x.at'.toNat 256 (by simpa using hj2) (by omega) (mixB scs[x.at'.toNat].1 x.b n, ⟨.pointer none, rfl⟩) (.pointer none) (by
    rw [List.getElem_set_self]
    unfold eS
    simp only
    rw [List.set_append_right _ _ (by rw [bvs_length]; omega), bvs_length, hfl]
    rfl)
  rw [List.set_set] at o5
  have hsec : SecP lo (w3.setCell ⟨gs, x.at'.toNat * 257 + 256, none⟩ (.pointer none)) drs[x.dev.toNat].2.2.2.1 (s.devs[x.dev.toNat].secs.set x.at'.toNat ⟨mixB s.devs[x.dev.toNat].secs[x.at'.toNat].firm x.b n, none⟩) := by
    refine ⟨_, csp, by rw [HSV.out]; exact o5, O2.out, by simp [O3.out], fun i q c hq hc => ?_⟩
    obtain ⟨e1, _⟩ := O4.out x.at'.toNat scs[x.at'.toNat] s.devs[x.dev.toNat].secs[x.at'.toNat] (List.getElem?_eq_getElem hj2) (List.getElem?_eq_getElem hj)
    by_cases e : i = x.at'.toNat
    · subst e
      rw [List.getElem?_set_self hj2] at hq
      rw [List.getElem?_set_self hj] at hc
      cases hq; cases hc
      exact ⟨by rw [e1], .inl ⟨rfl, rfl⟩⟩
    · rw [List.getElem?_set_ne (fun h => e h.symm)] at hq hc
      obtain ⟨e1, e2⟩ := O4.out i q c hq hc
      exact ⟨e1, e2.fa hfa⟩
  obtain ⟨h6, fa6⟩ := h.sect x.dev.toNat hi hi2 _ f hsec
  refine ⟨rfl, ?_, hfa, _, f, hbk⟩
  unfold settleS
  rw [setSec_nat hi hj]
  exact ⟨_, _, _, _, _, _, h6⟩
end
end Go.Proofs.YtdebnikolhhmgaaDoor

