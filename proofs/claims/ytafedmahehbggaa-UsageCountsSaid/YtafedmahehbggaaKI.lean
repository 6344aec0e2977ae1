/-
  Rows of numbers; the kit's functions over them. No conditions but those that each theorem names.
-/
import Derived.Test.YtafedmahehbggaaSM
import Derived.Test.YtafedmahehbggaaCC
namespace Go.Proofs.Ytafedmahehbggaa
open Go.RowKit Go.Sort Go.Maps
set_option linter.unusedVariables false
set_option linter.unusedSimpArgs false
set_option maxRecDepth 100000

open Kr (OwnE SlE Enco RowTys flt_cons flt_nil flt_length flt_oneCell flt_append flt_get)
def iE (n : Int) : List Value := [.int .i64 n]
theorem encI : Enco iE 1 := ⟨fun _ => rfl, fun x u hu => by simp [iE] at hu; subst hu; rfl, by omega, fun x y h => by
  simp only [iE, List.cons.injEq, Value.int.injEq, true_and, and_true] at h
  exact h⟩
abbrev OwnI (w : World) (v : Value) (l : List Int) (sp : List Value) : Prop := OwnE iE 1 3 w v l sp
abbrev SlI (w : World) (v : Value) (l : List Int) (sp : List Value) : Prop := SlE iE 1 w v l sp
theorem cellI {w : World} {b off n cap : Nat} {l : List Int} {sp : List Value} (h : SlI w (.slice (some ⟨b, off, none⟩) n cap) l sp) (i : Nat) (hi : i < l.length) :
    w.cell? ⟨b, off + i, none⟩ = some (.int .i64 l[i]) := by
  have := SlE.cell encI h i hi 0 rfl
  simpa using this
theorem tysI : RowTys Try.prog 23 3 1 8 := ⟨Try.underlying23, .int .i64 0, rfl, by kernel_rfl⟩
def CntI (n : Nat) (w0 : World) (cv : Value) (wr : World) : Prop := ∃ k : Nat, k ≤ n ∧ cv = .int .i64 k ∧ Frm [] w0 wr
set_option maxHeartbeats 1000000 in
theorem SameI_true (v x : Value) (l : List Int) (sp sp2 : List Value) (w : World) (h1 : SlI w v l sp) (h2 : SlI w x l sp2) (hl : l.length ≤ 1000000) :
    Calls Try.prog 24 #[v, x] w fun e w' => e = .returned (.bool true) ∧ Frm [] w w' := by
  obtain ⟨a, cap, rfl, _, _⟩ := h1.form
  obtain ⟨a2, cap2, rfl, _, _⟩ := h2.form
  have hl9 : ((l.length : Nat) : Int) ≤ 1000000 := by omega
  have H1 := Lib.hid h1
  have H2 := Lib.hid h2
  clear h1 h2 hl
  go_enter Try.func24, Try.ntmps24
  go_wp2_with fail
  go_loopw [5] (CntI l.length w) (fun cv _ => l.length - (intOf cv).toNat)
  case atStart => exact ⟨0, by omega, rfl, Frm.refl _ _⟩
  case round =>
    obtain ⟨k, hk, rfl, f⟩ := hrel
    by_cases hlt : k < l.length
    · obtain ⟨b0, off, rfl⟩ := H1.out.at (by omega)
      obtain ⟨b1, off1, rfl⟩ := H2.out.at (by omega)
      have c0 := cellI (H1.out.keep0 f) k hlt
      have d0 := cellI (H2.out.keep0 f) k hlt
      generalize l[k] = y at *
      have F := Lib.hid f
      clear f
      go_wp2_with fail
      go_quiet (fail)
      go_wp2_with fail
      go_roundw
      case rel => exact ⟨k + 1, by omega, by go_num, F.out.drewN _⟩
      case measure => simp [intOf]; omega
    · obtain rfl : k = l.length := by omega
      have F := Lib.hid f
      clear f
      go_wp2_with fail
      go_ret
      exact ⟨rfl, F.out⟩
/-- What a call tells as one list: new memory. -/
theorem flt_iE (l : List Int) : Kr.flt iE l = l.map (Value.int .i64) := by
  induction l with
  | nil => rfl
  | cons x r ih => rw [flt_cons, ih]; rfl
theorem OwnI.heap {w : World} {g n cap : Nat} {l : List Int} {sp : List Value} (h : OwnI w (.slice (some ⟨g, 0, none⟩) n cap) l sp) : w.heap[g]? = some (.cells (l.map (Value.int .i64) ++ sp).toArray 3 (0, 0)) := by
  rw [← flt_iE]; exact OwnE.heap h
theorem OwnI.of_heap {w : World} {g n cap : Nat} {l : List Int} {sp : List Value} (h : w.heap[g]? = some (.cells (l.map (Value.int .i64) ++ sp).toArray 3 (0, 0))) (hn : n = l.length) (hc : l.length + sp.length = cap) (hm : cap ≤ maxLen) :
    OwnI w (.slice (some ⟨g, 0, none⟩) n cap) l sp := OwnE.of_heap encI (by rw [flt_iE]; exact h) hn (by omega) (by omega) hm
/-- make([]int, n). -/
theorem make_ints (w : World) (kl kc : IntKind) (n : Nat) (hn : n ≤ 1000000000) :
    ∃ w', (Instr.makeSlice 23 (.int kl (n : Int)) (.int kc (n : Int))).run Try.prog w = .ok (.slice (some ⟨w.heap.size, 0, none⟩) n n) w' ∧ OwnI w' (.slice (some ⟨w.heap.size, 0, none⟩) n n) (List.replicate n 0) [] ∧ Frm [] w w' := by
  obtain ⟨z, hzs, hinf⟩ : ∃ z : Value, z = .int .i64 0 ∧ (Try.prog.info? 3).map (fun i => (i.zero, i.size, i.bytes)) = some (some z, 1, 8) := ⟨_, rfl, by kernel_rfl⟩
  obtain ⟨i, hi, hz, hs, hby⟩ := info_parts hinf
  obtain ⟨w', h1, h2, h3⟩ := run_make_full (P := Try.prog) w 0 23 3 i _ 1 Try.underlying23 hi hz hs kl kc n (by rw [hby]; omega) (by simp [maxLen]; omega) (Nat.zero_le _)
  refine ⟨w', h1, ?_, Frm.of_grown h3 (by simp)⟩
  obtain ⟨k1, k2 | ⟨g, cap, cur, k2, _, k3, k4, k5, k6, k7⟩⟩ := h2
  · cases k2.1
  · simp only [Value.slice.injEq, Option.some.injEq, Addr.mk.injEq] at k2
    obtain ⟨⟨rfl, _⟩, _, rfl⟩ := k2
    have e1 : cur.toList = (List.replicate n (0 : Int)).map (Value.int .i64) := by
      have : cur.toList.take (n * 1) = cur.toList := List.take_of_length_le (by simp [k6])
      rw [← this, k7, hzs]
      simp [Value.cells, toList_madeCells_one]
    refine OwnI.of_heap ?_ (by simp) (by simp) k5
    rw [k3]
    congr 2
    apply Array.ext'
    simp [e1]
theorem wpList_make_ints {w : World} {ops : Array Oper} {rest : List Oper} {o : Oper} {a : Act} {Q : Exit → Act → World → Prop}
    (n : Nat) (hn : n ≤ 1000000000) (hg : o.guard = none) (x y : Operand) (hop : o.op = Op.makeSlice 23 x y) {kl kc : IntKind} {X Y : Int} (hx : a.eval x = .int kl X) (hy : a.eval y = .int kc Y) (hX : X = n) (hY : Y = n)
    (k : ∀ w', OwnI w' (.slice (some ⟨w.heap.size, 0, none⟩) n n) (List.replicate n 0) [] → Frm [] w w' → wpList Try.prog ops Q rest (a.put o.dst (.slice (some ⟨w.heap.size, 0, none⟩) n n)) w') :
    wpList Try.prog ops Q (o :: rest) a w := by
  subst hX
  subst hY
  obtain ⟨w', h1, h2, h3⟩ := make_ints w kl kc n hn
  refine wpList_val (v := .slice (some ⟨w.heap.size, 0, none⟩) n n) (w' := w') hg ?_ (k w' h2 h3)
  simp [execOp, hop, hx, hy, h1, Result.andThen]
/-- copy(d, x), d a row of the call's own, x no longer. -/
theorem copy_ints (ty : TypeId) {w : World} {g n cap : Nat} {l m : List Int} {sp : List Value} (hO : OwnI w (.slice (some ⟨g, 0, none⟩) n cap) l sp) {x : Value} (hS : Src Try.prog 1 23 x m.length (Kr.flt iE m) w) (hm : m.length ≤ l.length) :
    ∃ w', (Builtin.copy_ #[23, 23] ty #[.slice (some ⟨g, 0, none⟩) n cap, x]).run Try.prog w = .ok (goInt m.length) w' ∧ OwnI w' (.slice (some ⟨g, 0, none⟩) n cap) (m ++ l.drop m.length) sp ∧ Frm [g] w w' := by
  obtain ⟨z, hzs, hinf⟩ : ∃ z : Value, z = .int .i64 0 ∧ (Try.prog.info? 3).map (fun i => (i.zero, i.size, i.bytes)) = some (some z, 1, 8) := ⟨_, rfl, by kernel_rfl⟩
  obtain ⟨i, hi, hz, hs, hby⟩ := info_parts hinf
  obtain ⟨c1, c2, c3, c4⟩ := OwnE.caps encI hO
  have hmin : Nat.min m.length n = m.length := Nat.min_eq_left (by omega)
  have hcells := hS.cells
  have hst := run_storeCells_at Try.prog g 0 3 (Kr.flt iE m) 0 (Kr.flt iE l ++ sp).toArray w (OwnE.heap hO) (by simp [flt_length encI]; omega) (flt_oneCell encI m)
  simp only [Nat.add_zero, List.take_zero, List.nil_append, Nat.zero_add, flt_length encI, Nat.mul_one] at hst
  have e1 : Kr.flt iE m ++ (Kr.flt iE l ++ sp).drop m.length = Kr.flt iE (m ++ l.drop m.length) ++ sp := by
    simp only [flt_iE, List.map_append, List.map_drop]
    rw [List.drop_append_of_le_length (by simp; omega)]
    simp
  rw [e1] at hst
  refine ⟨w.setRow g (Kr.flt iE (m ++ l.drop m.length) ++ sp).toArray, ?_, OwnE.of_heap encI (setRow_heap w g _ _ _ _ (OwnE.heap hO)) (by simp; omega) (by omega) (by simp; omega) c4, ⟨rfl, rfl, rfl, by simp [World.setRow], fun k hk hn => setRow_other w g k _ (by simpa using hn)⟩⟩
  simp [Builtin.copy_, run_underlying Try.underlying23, sizeOf, typeInfo, hi, hs, hS.len, hmin, hcells, goInt, hst]
theorem wpList_copy_ints {w : World} {ops : Array Oper} {rest : List Oper} {o : Oper} {a : Act} {Q : Exit → Act → World → Prop} {g n cap : Nat} {l m : List Int} {sp msp : List Value} {y : Value} (hO : OwnI w (.slice (some ⟨g, 0, none⟩) n cap) l sp)
    (hS : SlI w y m msp) (hm : m.length ≤ l.length)
    (hg : o.guard = none) (d x : Operand) (hop : o.op = Op.call { callee := Callee.builtin Builtin.copy, args := #[d, x], argTypes := #[23, 23] }) (hd : a.eval d = .slice (some ⟨g, 0, none⟩) n cap) (hx : a.eval x = y)
    (k : ∀ w', OwnI w' (.slice (some ⟨g, 0, none⟩) n cap) (m ++ l.drop m.length) sp → Frm [g] w w' → wpList Try.prog ops Q rest (a.put o.dst (goInt m.length)) w') :
    wpList Try.prog ops Q (o :: rest) a w := by
  obtain ⟨w', h1, h2, h3⟩ := copy_ints o.type hO (SlE.src encI Try.underlying23 hS) hm
  refine wpList_val (w' := w') hg ?_ (k w' h2 h3)
  simp [execOp, hop, resolve, invoke, builtin, hd, hx, h1, Result.andThen]
/-- The marks behind a list that is lent. -/
def marks (n k : Nat) : List Int := (List.range k).map fun (i : Nat) => -77 - ((n : Int) + (i : Int))
theorem marks_length (n k : Nat) : (marks n k).length = k := by simp [marks]
theorem marks_succ (n k : Nat) : marks n (k + 1) = marks n k ++ [-77 - ((n : Int) + (k : Int))] := by simp [marks, List.range_succ]
def LentRel (l : List Int) (g : Nat) (w0 : World) (cv : Value) (wr : World) : Prop := ∃ k : Nat, k ≤ 3 ∧ cv = .int .i64 ((l.length : Int) + k) ∧ OwnI wr (.slice (some ⟨g, 0, none⟩) (l.length + 3) (l.length + 3)) (l ++ marks l.length k ++ List.replicate (3 - k) 0) [] ∧ Frm [] w0 wr ∧ w0.heap.size ≤ g
set_option maxHeartbeats 2000000 in
theorem Lent_any (v : Value) (l : List Int) (sp : List Value) (w : World) (hS : SlI w v l sp) (hl : l.length ≤ 1000000) :
    Calls Try.prog 10 #[v] w fun e w' => ∃ g, e = .returned (.slice (some ⟨g, 0, none⟩) l.length (l.length + 3)) ∧ OwnI w' (.slice (some ⟨g, 0, none⟩) l.length (l.length + 3)) l ((marks l.length 3).map (Value.int .i64)) ∧ Frm [] w w' ∧ w.heap.size ≤ g := by
  obtain ⟨a, cap, rfl, _, _⟩ := hS.form
  have HS := Lib.hid hS
  have HL := Lib.hid hl
  have hl9 : ((l.length : Nat) : Int) ≤ 1000000 := by omega
  have hw3 : IntKind.i64.wrap ((l.length : Int) + 3) = (l.length : Int) + 3 := IntWalk.i64_in _ (by omega)
  clear hS hl
  go_enter Try.func10, Try.ntmps10
  go_wp2_with (first
    | (at_make; refine wpList_make_ints (l.length + 3) (by have := HL.out; omega) rfl (.tmp 7) (.tmp 7) rfl rfl rfl (by omega) (by omega) ?_; intro w1 o1 f1)
    | ((with_reducible (show wpList _ _ _ (Oper.mk _ (Op.call (Call.mk (Callee.builtin Builtin.copy) _ _)) _ _ _ _ :: _) _ _)); refine wpList_copy_ints o1 (HS.out.keep0 f1) (by simp) rfl (.tmp 9) (.tmp 10) rfl rfl rfl ?_; intro w2 o2 f2))
  have f3 : Frm [] w w2 := f1.trans f2 (by simp)
  have o3 : OwnI w2 (.slice (some ⟨w.heap.size, 0, none⟩) (l.length + 3) (l.length + 3)) (l ++ marks l.length 0 ++ List.replicate (3 - 0) 0) [] := by
    have : List.drop l.length (List.replicate (l.length + 3) (0 : Int)) = List.replicate 3 0 := by simp
    rw [this] at o2
    simpa [marks] using o2
  clear o1 o2 f1 f2
  generalize hg : w.heap.size = g at *
  have O3 := Lib.hid o3
  have F3 := Lib.hid f3
  have HG := Lib.hid hg
  clear o3 f3 hg
  go_loopw [4] (LentRel l g w) (fun cv _ => l.length + 3 - (intOf cv).toNat)
  case atStart => exact ⟨0, by omega, by go_num, O3.out, F3.out, by have := HG.out; omega⟩
  case round =>
    obtain ⟨k, hk, rfl, o, f, hgs⟩ := hrel
    have e0 : ((l.length : Int) + (k : Int)).toNat = l.length + k := by omega
    have p0 : (0 : Int) ≤ (l.length : Int) + (k : Int) := by omega
    have F := Lib.hid f
    have HGS := Lib.hid hgs
    by_cases hlt : k < 3
    · have hlen : (l ++ marks l.length k ++ List.replicate (3 - k) 0).length = l.length + 3 := by simp [marks_length]; omega
      have c0 := cellI o.sl (l.length + k) (by rw [hlen]; omega)
      have z0 := frozen_of_heap (OwnE.heap o) (0 + (l.length + k))
      have hst := OwnE.store encI o (l.length + k) 0 (by rw [hlen]; omega) (by omega) (-77 - ((l.length : Int) + (k : Int))) (.int .i64 (-77 - ((l.length : Int) + (k : Int)))) rfl
      have e1 : (l ++ marks l.length k ++ List.replicate (3 - k) 0).set (l.length + k) (-77 - ((l.length : Int) + (k : Int))) = l ++ marks l.length (k + 1) ++ List.replicate (3 - (k + 1)) 0 := by
        rw [List.set_append_right _ _ (by simp [marks_length]), marks_succ, show 3 - k = 3 - (k + 1) + 1 by omega, List.replicate_succ]
        simp [marks_length]
      rw [e1] at hst
      simp only [Nat.add_zero, Nat.mul_one] at hst
      rw [Nat.zero_add] at c0 z0
      generalize (l ++ marks l.length k ++ List.replicate (3 - k) 0)[l.length + k]'_ = y at *
      have hk9 : (l.length : Int) + (k : Int) < (l.length : Int) + 3 := by omega
      have hw0 : IntKind.i64.wrap (-77 - ((l.length : Int) + (k : Int))) = -77 - ((l.length : Int) + (k : Int)) := IntWalk.i64_in _ (by omega)
      have hw1 : IntKind.i64.wrap ((l.length : Int) + (k : Int) + 1) = (l.length : Int) + (k : Int) + 1 := IntWalk.i64_in _ (by omega)
      have ST := Lib.hid hst
      clear hst o f hgs e1 hlen
      go_wp2_with fail
      go_roundw
      case rel => exact ⟨k + 1, by omega, by go_num, ST.out, F.out.setCell _ _ (.inr HGS.out), HGS.out⟩
      case measure => simp [intOf]; omega
    · obtain rfl : k = 3 := by omega
      have O := Lib.hid (OwnI.heap o)
      have hk9 : ¬ (l.length : Int) + 3 < (l.length : Int) + 3 := by omega
      clear f o hgs
      go_wp2_with fail
      go_ret
      refine ⟨g, rfl, OwnI.of_heap ?_ rfl (by simp [marks_length]) (by simp only [maxLen]; have := HL.out; omega), F.out, HGS.out⟩
      have := O.out
      simpa using this
theorem OwnI.whole {w : World} {g n cap : Nat} {l m : List Int} (h : OwnI w (.slice (some ⟨g, 0, none⟩) n cap) l (m.map (Value.int .i64))) : OwnI w (.slice (some ⟨g, 0, none⟩) cap cap) (l ++ m) [] := by
  obtain ⟨c1, c2, c3, c4⟩ := OwnE.caps encI h
  refine OwnI.of_heap ?_ (by simp at c3; simp; omega) (by simp at c3; simp; omega) c4
  have := OwnI.heap h
  simpa using this
theorem Kept_true (g n cap : Nat) (x : Value) (l : List Int) (msp : List Value) (w : World) (hO : OwnI w (.slice (some ⟨g, 0, none⟩) n cap) l ((marks l.length 3).map (Value.int .i64))) (hS : SlI w x l msp) (hl : l.length ≤ 100000) :
    Calls Try.prog 27 #[.slice (some ⟨g, 0, none⟩) n cap, x] w fun r w' => r = .returned (.bool true) ∧ Frm [] w w' := by
  obtain ⟨a, cap2, rfl, hc1, hc2⟩ := hS.form
  obtain ⟨k1, _, k2, k3⟩ := OwnE.caps encI hO
  simp only [List.length_map, marks_length] at k2
  have k2' : cap = l.length + 3 := by omega
  subst k1
  have Hw := Lib.hid (OwnI.whole hO)
  clear k3 hO k2
  have HN := Lib.hid k2'
  have hg : ((l.length : Int) == (l.length : Int)) = true := by simp
  have hn0 : (0 : Int) ≤ (cap : Int) := by omega
  have hle : (cap : Int) ≤ (cap : Int) := by omega
  have hsum : IntKind.i64.wrap ((l.length : Int) + 3) = (cap : Int) := by rw [IntWalk.i64_in _ (by omega)]; omega
  have HLN := Lib.hid (show (l ++ marks l.length 3).length ≤ 1000000 by simp [marks_length]; omega)
  clear k2'
  go_enter Try.func27, Try.ntmps27
  go_wp2
  go_region_held3 (fun _ => True)
    (first | trivial | go_keep)
    (first | (go_at_call 10; refine (Lent_any _ l msp _ (hS.keep0 ((Frm.refl [] _).drewN _)) (by omega)).mono ?_; rw [← HN.out]; rintro r w1 ⟨gg, rfl, o1, f1, n1⟩) | (go_at_call 24; refine (SameI_true _ _ _ [] [] _ (Hw.out.keep0 (((Frm.refl [] _).drewN _).trans f1 (by simp))).sl (OwnI.whole o1).sl HLN.out).mono ?_; rintro r w2 ⟨rfl, f2⟩))
  go_wp2
  go_ret
  exact ⟨by simp, (((Frm.refl [] _).drewN _).trans f1 (by simp)).trans f2 (by simp)⟩
end Go.Proofs.Ytafedmahehbggaa
