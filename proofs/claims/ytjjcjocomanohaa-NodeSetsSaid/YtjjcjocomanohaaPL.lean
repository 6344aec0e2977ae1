/-
  Contract of addr. No conditions but those that each theorem names.
-/
import Derived.Test.YtjjcjocomanohaaPK
namespace Go.Proofs.Ytjjcjocomanohaa
open Go.RowKit
set_option linter.unusedVariables false
set_option linter.unusedSimpArgs false
set_option maxRecDepth 100000

theorem slice_h {P : Program} {tS T : TypeId} (B : ByteTys P tS T) {w : World} {a : Option Addr} {n cap : Nat} {l sp : List UInt8} (h : SlB w (.slice a n cap) l sp) (hi : Nat) (h2 : hi ≤ l.length) :
    ∃ a' c', (∀ (y : Int) (wx : World), y = hi → (Instr.slice tS (.slice a n cap) none (some (.int .i64 y)) none).run P wx = .ok (.slice a' hi c') wx) ∧ SlB w (.slice a' hi c') (l.take hi) (l.drop hi ++ sp) := by
  obtain ⟨a2, c2, e, hle, hm⟩ := h.form
  cases e
  have hc := h.cut 0 hi (Nat.zero_le _) h2
  simp only [List.drop_zero, Nat.sub_zero] at hc
  refine ⟨_, _, fun y wx hy => ?_, hc⟩
  subst hy
  obtain ⟨i, hi', hz, hs, hby⟩ := info_parts B.info
  have he : P.elem tS = T := by simp [Program.elem, B.sl]
  have hsz : (sizeOf (P.elem tS)).run P wx = .ok 1 wx := by rw [he]; simp [sizeOf, typeInfo, hi', hs]
  rw [run_slice_h (P := P) wx tS a l.length cap (by rw [he]; exact B.sl) .i64 hi (by omega) (by omega), hsz]
  simp [Result.andThen, sliced]
set_option maxHeartbeats 4000000 in
theorem addrOf_any (v : Value) (l sp : List UInt8) (w : World) (hS : SlB w v l sp) (hl : l.length = 3) :
    Calls Try.prog 75 #[v] w fun e w' => e = .returned (av ((beNat (l.take 1) : Int), (beNat (l.drop 1) : Int))) ∧ Frm [] w w' := by
  obtain ⟨a, cap, rfl, _, _⟩ := hS.form
  obtain ⟨a1, c1, hs1, S1⟩ := slice_h BT hS 1 (by omega)
  obtain ⟨a2, c2, hs2, S2⟩ := slice_l BT hS 1 (by omega)
  rw [hl] at hs1 hs2 S2 ⊢
  have hs1' := fun wx => hs1 1 wx rfl
  have hs2' := fun wx => hs2 1 wx rfl
  have H1 := Lib.hid hs1'
  have H2 := Lib.hid hs2'
  have HS1 := Lib.hid S1
  have HS2 := Lib.hid S2
  have q1 : (l.take 1).length ≤ 7 := by simp; omega
  have q2 : (l.drop 1).length ≤ 7 := by simp; omega
  have Q1 := Lib.hid q1
  have Q2 := Lib.hid q2
  have f0 : Frm [] w (w.alloc (.cells #[.int .i64 0, .int .i64 0] 46)) := (Frm.refl [] w).alloc _
  have F0 := Lib.hid f0
  clear hs1 hs2 hs1' hs2' S1 S2 q1 q2 hS f0
  have hN1 := fun W (f : Frm [] w W) => numberOf_any (.slice a1 1 c1) (l.take 1) _ W (HS1.out.keep f (by simp)) Q1.out
  have hN2 := fun W (f : Frm [] w W) => numberOf_any (.slice a2 (3 - 1) c2) (l.drop 1) _ W (HS2.out.keep f (by simp)) Q2.out
  generalize beNat (l.take 1) = n1 at *
  generalize beNat (l.drop 1) = n2 at *
  have HN1 := Lib.hid hN1
  have HN2 := Lib.hid hN2
  clear hN1 hN2
  go_enter Try.func75, Try.ntmps75
  go_upto_region 1 with (fail)
  refine wp_region_held_drew (S := fun z => Frm [] w z) (by kernel_rfl) (F0.out.drew) (fun hHeld => ?_)
  refine wpAnyH_take (i := 0) (oi := { dst := some 3, op := Op.move (Operand.tmp 0), type := 29, pos := "fields.go:58", after := #[], guard := none }) (v := ?_) rfl (by kernel_rfl) (by kernel_rfl) (by kernel_rfl) (fun _ _ _ h => h) (Or.inl ⟨by rfl, ?_⟩) hHeld ?_
  rotate_left
  focus (intro z hSw; clear hSw; go_simp; try with_reducible rfl)
  try simp only [Act.put, List.setIfInBounds_toArray, List.set_cons_zero, List.set_cons_succ]
  refine wpAnyH_take (i := 1) (oi := { dst := some 4, op := Op.slice 29 (Operand.tmp 3) none (some (Operand.const (Value.int IntKind.i64 1))) none, type := 29, pos := "fields.go:58", after := #[{ on := 0, ground := Ground.data }], guard := none }) rfl (by kernel_rfl) (by kernel_rfl) (by kernel_rfl) (fun _ _ _ h => h) (Or.inl ⟨by rfl, fun z hSw => exec_slice_hA (.tmp 3) (.const (.int .i64 1)) rfl rfl rfl BT.sl (H1.out z)⟩) hHeld ?_
  try simp only [Act.put, List.setIfInBounds_toArray, List.set_cons_zero, List.set_cons_succ]
  refine wpAnyH_take (i := 3) (oi := { dst := some 6, op := Op.move (Operand.tmp 0), type := 29, pos := "fields.go:58", after := #[], guard := none }) (v := ?_) rfl (by kernel_rfl) (by kernel_rfl) (by kernel_rfl) (fun _ _ _ h => h) (Or.inl ⟨by rfl, ?_⟩) hHeld ?_
  rotate_left
  focus (intro z hSw; clear hSw; go_simp; try with_reducible rfl)
  try simp only [Act.put, List.setIfInBounds_toArray, List.set_cons_zero, List.set_cons_succ]
  refine wpAnyH_take (i := 4) (oi := { dst := some 7, op := Op.slice 29 (Operand.tmp 6) (some (Operand.const (Value.int IntKind.i64 1))) none none, type := 29, pos := "fields.go:58", after := #[{ on := 3, ground := Ground.data }], guard := none }) rfl (by kernel_rfl) (by kernel_rfl) (by kernel_rfl) (fun _ _ _ h => h) (Or.inl ⟨by rfl, fun z hSw => exec_slice_lA (.tmp 6) (.const (.int .i64 1)) rfl rfl rfl BT.sl (H2.out z)⟩) hHeld ?_
  try simp only [Act.put, List.setIfInBounds_toArray, List.set_cons_zero, List.set_cons_succ]
  refine wpAnyH_ready (rs := [2]) (by kernel_rfl) (by simp) ?_
  refine AllReadyH.cons (o := { dst := some 5, op := Op.call { callee := Callee.value (Operand.func 74), args := #[Operand.tmp 4], argTypes := #[29] }, type := 3, pos := "fields.go:58", after := #[{ on := 1, ground := Ground.data }], guard := none }) rfl (fun K hK => ?_) AllReadyH.nil
  go_simp
  refine (HN1.out _ hHeld).mono ?_
  rintro r w1 ⟨rfl, rfl⟩
  refine hK.out _ _ ?_ (fun hNext => ?_)
  · exact hHeld
  clear hK K hHeld
  have hHeld := hNext
  clear hNext
  try simp only [Act.put, List.setIfInBounds_toArray, List.set_cons_zero, List.set_cons_succ]
  refine wpAnyH_ready (rs := [5]) (by kernel_rfl) (by simp) ?_
  refine AllReadyH.cons (o := { dst := some 8, op := Op.call { callee := Callee.value (Operand.func 74), args := #[Operand.tmp 7], argTypes := #[29] }, type := 3, pos := "fields.go:58", after := #[{ on := 4, ground := Ground.data }, { on := 2, ground := Ground.chain }], guard := none }) rfl (fun K hK => ?_) AllReadyH.nil
  go_simp
  refine (HN2.out _ hHeld).mono ?_
  rintro r w1 ⟨rfl, rfl⟩
  refine hK.out _ _ ?_ (fun hNext => ?_)
  · exact hHeld
  clear hK K hHeld
  have hHeld := hNext
  clear hNext
  try simp only [Act.put, List.setIfInBounds_toArray, List.set_cons_zero, List.set_cons_succ]
  refine wpAnyH_take (i := 6) (oi := { dst := some 9, op := Op.build 46 #[(0, Operand.tmp 5), (1, Operand.tmp 8)], type := 46, pos := "fields.go:58", after := #[{ on := 2, ground := Ground.data }, { on := 5, ground := Ground.data }], guard := none }) (v := ?_) rfl (by kernel_rfl) (by kernel_rfl) (by kernel_rfl) (fun _ _ _ h => h) (Or.inl ⟨by rfl, ?_⟩) hHeld ?_
  rotate_left
  focus (intro z hSw; clear hSw; go_simp; try with_reducible rfl)
  try simp only [Act.put, List.setIfInBounds_toArray, List.set_cons_zero, List.set_cons_succ]
  refine wpAnyH_ready (rs := [7]) (by kernel_rfl) (by simp) ?_
  refine AllReadyH.cons (o := { dst := none, op := Op.store 46 (Operand.tmp 2) (Operand.tmp 9), type := 0, pos := "fields.go:58", after := #[{ on := 6, ground := Ground.data }, { on := 5, ground := Ground.chain }, { on := 0, ground := Ground.phase }, { on := 1, ground := Ground.phase }, { on := 2, ground := Ground.phase }, { on := 3, ground := Ground.phase }, { on := 4, ground := Ground.phase }, { on := 5, ground := Ground.phase }, { on := 6, ground := Ground.phase }], guard := none }) rfl (fun K hK => ?_) AllReadyH.nil
  go_simp
  refine hK.out _ _ ?_ (fun hNext => ?_)
  · first | exact (hHeld.setCell _ _ (.inr (Nat.le_refl w.heap.size))).setCell _ _ (.inr (Nat.le_refl w.heap.size)) | exact ((Frm.refl [] w).alloc _).drew | exact ((Frm.refl [] w).drew).alloc _
  clear hK K hHeld
  have hHeld := hNext
  clear hNext
  try simp only [Act.put, List.setIfInBounds_toArray, List.set_cons_zero, List.set_cons_succ]
  refine wpAnyH_done (by kernel_rfl) ?_ _
  go_wp2_with fail
  refine bodyPost_ret (v := av ((n1 : Int), (n2 : Int))) ?_ rfl ⟨rfl, hHeld⟩
  simp [results, Try.results75, go_sem, av]
end Go.Proofs.Ytjjcjocomanohaa
