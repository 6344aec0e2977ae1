/-
  Contracts of the writing of fields: an address, a sum. No conditions but those that each theorem names.
-/
import Derived.Test.YtjjcjocomanohaaP7
namespace Go.Proofs.Ytjjcjocomanohaa
open Go.RowKit
set_option linter.unusedVariables false
set_option linter.unusedSimpArgs false
set_option maxRecDepth 100000

/-- An address's three bytes. -/
def adB (x : Nat × Nat) : List UInt8 := be1 x.1 ++ be2 x.2
set_option maxHeartbeats 2000000 in
theorem addr_any (v : Value) (l sp : List UInt8) (d n : Nat) (w : World) (hO : OwnB 5 w v l sp) (hl : l.length ≤ 100000) (hd : d < 1099511627776) (hn : n < 1099511627776) :
    Calls Try.prog 77 #[v, .agg #[.int .i64 d, .int .i64 n]] w (Ext w v (l ++ adB (d, n))) := by
  obtain ⟨a0, cap0, rfl, _, _⟩ := hO.sl.form
  have hlt := hO.lt
  have HO := Lib.hid hO
  have c0 : (w.alloc (.cells #[.int .i64 d, .int .i64 n] 46)).cell? ⟨w.heap.size, 0, none⟩ = some (.int .i64 d) := by simp [go_sem]
  have c1 : (w.alloc (.cells #[.int .i64 d, .int .i64 n] 46)).cell? ⟨w.heap.size, 1, none⟩ = some (.int .i64 n) := by simp [go_sem]
  have f0 : Frm [] w (w.alloc (.cells #[.int .i64 d, .int .i64 n] 46)) := (Frm.refl [] w).alloc _
  have hnb : w.heap.size ∉ blk (.slice a0 l.length cap0) := fun h => Nat.lt_irrefl _ (hlt _ h)
  clear hO hlt
  go_enter Try.func77, Try.ntmps77
  go_upto_region 1 with (fail)
  have HNB := Lib.hid hnb
  have HL := Lib.hid hl
  have HD := Lib.hid hd
  have HN := Lib.hid hn
  have C0 := Lib.hid c0
  have C1 := Lib.hid c1
  clear hnb hl hd hn c0 c1
  generalize w.alloc (.cells #[.int .i64 d, .int .i64 n] 46) = W at *
  refine wp_region_held_drew (S := fun z => Frm (blk (.slice a0 l.length cap0)) W z) (by kernel_rfl) (((Frm.refl _ W).drew)) (fun hHeld => ?_)
  refine wpAnyH_take (i := 0) (oi := { dst := some 5, op := Op.move (Operand.tmp 0), type := 64, pos := "fields.go:26", after := #[], guard := none }) (v := ?_) rfl (by kernel_rfl) (by kernel_rfl) (by kernel_rfl) (fun _ _ _ h => h) (Or.inl ⟨by rfl, ?_⟩) hHeld ?_
  rotate_left
  focus (intro z hSw; clear hSw; go_simp; try with_reducible rfl)
  try simp only [Act.put, List.setIfInBounds_toArray, List.set_cons_zero, List.set_cons_succ]
  refine wpAnyH_take (i := 1) (oi := { dst := some 6, op := Op.fieldAddr 46 (Operand.tmp 3) 0, type := 0, pos := "fields.go:26", after := #[], guard := none }) (v := ?_) rfl (by kernel_rfl) (by kernel_rfl) (by kernel_rfl) (fun _ _ _ h => h) (Or.inl ⟨by rfl, ?_⟩) hHeld ?_
  rotate_left
  focus (intro z hSw; clear hSw; go_simp; try with_reducible rfl)
  try simp only [Act.put, List.setIfInBounds_toArray, List.set_cons_zero, List.set_cons_succ]
  refine wpAnyH_take (i := 2) (oi := { dst := some 7, op := Op.load 3 (Operand.tmp 6), type := 3, pos := "fields.go:26", after := #[{ on := 1, ground := Ground.data }], guard := none }) (v := ?_) rfl (by kernel_rfl) (by kernel_rfl) (by kernel_rfl) (fun _ _ _ h => h) (Or.inl ⟨by rfl, ?_⟩) hHeld ?_
  rotate_left
  focus (intro z hSw; have c0 := hSw.cell C0.out HNB.out; have c1 := hSw.cell C1.out HNB.out; clear hSw; go_simp; try with_reducible rfl)
  try simp only [Act.put, List.setIfInBounds_toArray, List.set_cons_zero, List.set_cons_succ]
  refine wpAnyH_take (i := 4) (oi := { dst := some 9, op := Op.fieldAddr 46 (Operand.tmp 3) 1, type := 0, pos := "fields.go:26", after := #[], guard := none }) (v := ?_) rfl (by kernel_rfl) (by kernel_rfl) (by kernel_rfl) (fun _ _ _ h => h) (Or.inl ⟨by rfl, ?_⟩) hHeld ?_
  rotate_left
  focus (intro z hSw; clear hSw; go_simp; try with_reducible rfl)
  try simp only [Act.put, List.setIfInBounds_toArray, List.set_cons_zero, List.set_cons_succ]
  refine wpAnyH_take (i := 5) (oi := { dst := some 10, op := Op.load 3 (Operand.tmp 9), type := 3, pos := "fields.go:26", after := #[{ on := 4, ground := Ground.data }], guard := none }) (v := ?_) rfl (by kernel_rfl) (by kernel_rfl) (by kernel_rfl) (fun _ _ _ h => h) (Or.inl ⟨by rfl, ?_⟩) hHeld ?_
  rotate_left
  focus (intro z hSw; have c0 := hSw.cell C0.out HNB.out; have c1 := hSw.cell C1.out HNB.out; clear hSw; go_simp; try with_reducible rfl)
  try simp only [Act.put, List.setIfInBounds_toArray, List.set_cons_zero, List.set_cons_succ]
  refine wpAnyH_ready (rs := [3]) (by kernel_rfl) (by simp) ?_
  refine AllReadyH.cons (o := { dst := some 8, op := Op.call { callee := Callee.value (Operand.func 70), args := #[Operand.tmp 5, Operand.tmp 7, Operand.const (Value.int IntKind.i64 1)], argTypes := #[64, 3, 3] }, type := 64, pos := "fields.go:26", after := #[{ on := 0, ground := Ground.data }, { on := 2, ground := Ground.data }], guard := none }) rfl (fun K hK => ?_) AllReadyH.nil
  go_simp
  refine (number1 _ l sp d _ (HO.out.keep f0.drew (by simp)) (by have := HL.out; omega) HD.out).mono ?_
  rintro r w1 ⟨a1, cap1, sp1, rfl, o1, g1⟩
  have hl1 : (l ++ be1 d).length = l.length + 1 := by simp [be1]
  generalize hy1 : l ++ be1 d = l1 at *
  have HY1 := Lib.hid hy1
  have HL1 := Lib.hid hl1
  clear hy1 hl1
  refine hK.out _ _ ?_ (fun hNext => ?_)
  · exact hHeld.trans g1.1 (fun i hi => .inl hi)
  clear hK K hHeld
  have hHeld := hNext
  clear hNext
  try simp only [Act.put, List.setIfInBounds_toArray, List.set_cons_zero, List.set_cons_succ]
  refine wpAnyH_ready (rs := [6]) (by kernel_rfl) (by simp) ?_
  refine AllReadyH.cons (o := { dst := some 11, op := Op.call { callee := Callee.value (Operand.func 70), args := #[Operand.tmp 8, Operand.tmp 10, Operand.const (Value.int IntKind.i64 2)], argTypes := #[64, 3, 3] }, type := 64, pos := "fields.go:26", after := #[{ on := 3, ground := Ground.data }, { on := 5, ground := Ground.data }, { on := 3, ground := Ground.chain }], guard := none }) rfl (fun K hK => ?_) AllReadyH.nil
  go_simp
  refine (number2 _ _ sp1 n _ o1 (by have := HL.out; have := HL1.out; omega) HN.out).mono ?_
  rintro r w2 ⟨a2, cap2, sp2, rfl, o2, g2⟩
  generalize hy2 : l1 ++ be2 n = l2 at *
  have HY2 := Lib.hid hy2
  clear hy2
  refine hK.out _ _ ?_ (fun hNext => ?_)
  · exact (((Frm.refl _ W).drew).trans g1.1 (fun i hi => .inl hi)).trans g2.1 (fun i hi => by rcases g1.2 i hi with h | h; exact .inl h; exact .inr h)
  clear hK K hHeld
  have hHeld := hNext
  clear hNext
  try simp only [Act.put, List.setIfInBounds_toArray, List.set_cons_zero, List.set_cons_succ]
  refine wpAnyH_take (i := 7) (oi := { dst := some 4, op := Op.assign (Operand.tmp 11), type := 64, pos := "fields.go:26", after := #[{ on := 6, ground := Ground.data }, { on := 6, ground := Ground.chain }, { on := 0, ground := Ground.phase }, { on := 1, ground := Ground.phase }, { on := 2, ground := Ground.phase }, { on := 3, ground := Ground.phase }, { on := 4, ground := Ground.phase }, { on := 5, ground := Ground.phase }, { on := 6, ground := Ground.phase }], guard := none }) (v := ?_) rfl (by kernel_rfl) (by kernel_rfl) (by kernel_rfl) (fun _ _ _ h => h) (Or.inl ⟨by rfl, ?_⟩) hHeld ?_
  rotate_left
  focus (intro z hSw; clear hSw; go_simp; try with_reducible rfl)
  try simp only [Act.put, List.setIfInBounds_toArray, List.set_cons_zero, List.set_cons_succ]
  refine wpAnyH_done (by kernel_rfl) ?_ _
  go_wp2_with fail
  go_ret
  have g := Grew.pre f0.drew (g1.trans g2)
  have e : l ++ adB (d, n) = l2 := by rw [← HY2.out, ← HY1.out]; simp [adB]
  rw [e]
  exact ⟨a2, cap2, sp2, rfl, o2, g⟩
/-- A slice of an array of bytes in a block of its own. -/
theorem arr_slB {w : World} {g n : Nat} {s : List UInt8} {T : TypeId} (hn : n = s.length) (hs : s.length ≤ 1000000) (hg : w.heap[g]? = some (.cells (bvs s).toArray T (0, 0))) : SlB w (.slice (some ⟨g, 0, none⟩) n n) s [] := by
  subst hn
  exact (OwnB.of_heap (T := T) (l := s) (sp := []) (by simpa using hg) rfl (by simp) (by simp [maxLen]; omega)).sl
set_option maxHeartbeats 2000000 in
theorem sum_any (v : Value) (l sp s : List UInt8) (w : World) (hO : OwnB 5 w v l sp) (hl : l.length ≤ 100000) (hs : s.length = 32) :
    Calls Try.prog 71 #[v, idv s] w (Ext w v (l ++ s)) := by
  obtain ⟨a0, cap0, rfl, _, _⟩ := hO.sl.form
  have HO := Lib.hid hO
  have HG := Lib.hid (heap_alloc_new w (.cells (bvs s).toArray 24))
  have hl9 : (l.length : Int) ≤ 1000000 := by omega
  clear hO hl
  unfold idv
  have HB := Lib.hid (show (bvs s).toArray.size = 32 by simp [bvs_length, hs])
  go_enter Try.func71, Try.ntmps71
  go_upto_region 1 with (fail)
  have f0 : Frm [] w (w.alloc (.cells (bvs s).toArray 24)) := (Frm.refl [] w).alloc _
  generalize w.alloc (.cells (bvs s).toArray 24) = W at *
  have S1 := Lib.hid (arr_slB (w := W) (n := 32) hs.symm (by omega) HG.out)
  have HO1 := Lib.hid (HO.out.keep f0 (by simp))
  go_wp2_with (at_builtin; refine wpList_append_src BF HO1.out (Sl.src BT.sl S1.out (bvs_one s)) (by omega) rfl (.tmp 5) (.tmp 6) rfl rfl rfl ?_; intro a1 cap1 w1 sp1 o1 f1 b1)
  go_ret
  exact ⟨a1, cap1, sp1, by simp [hs], by simpa [hs] using o1, by simpa [hs] using Grew.pre f0 ⟨f1, b1⟩⟩
end Go.Proofs.Ytjjcjocomanohaa
