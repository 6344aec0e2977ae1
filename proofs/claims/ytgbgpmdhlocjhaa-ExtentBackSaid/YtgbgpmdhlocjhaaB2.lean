/-
  Contract of what joiner tells first: sectors are put behind a list. No conditions but those that each theorem names.
-/
import Derived.Test.YtgbgpmdhlocjhaaB1
namespace Go.Proofs.Ytgbgpmdhlocjhaa
open Go.RowKit
set_option linter.unusedVariables false
set_option linter.unusedSimpArgs false
set_option maxRecDepth 100000

theorem putE_same (l : List Ex) (a : Int) : putE l a a = l := by simp [putE]
theorem putE_nil {a b : Int} (h : a ≠ b) : putE [] a b = [(a, b - a)] := by simp [putE, h]
theorem putE_join {l : List Ex} {n : Nat} {a b : Int} (h : a ≠ b) (hn : l.length = n + 1) (h2 : (l[n]'(by omega)).1 + (l[n]'(by omega)).2 = a) : putE l a b = l.set n ((l[n]'(by omega)).1, (l[n]'(by omega)).2 + (b - a)) := by
  have e : l.getLast? = some (l[n]'(by omega)) := by
    have hi : l.length - 1 = n := by omega
    simp only [List.getLast?_eq_getElem?, hi]
    exact List.getElem?_eq_getElem _
  simp only [putE, if_neg h, e, h2, if_true, hn, Nat.add_sub_cancel]
theorem putE_new {l : List Ex} {n : Nat} {a b : Int} (h : a ≠ b) (hn : l.length = n + 1) (h2 : (l[n]'(by omega)).1 + (l[n]'(by omega)).2 ≠ a) : putE l a b = l ++ [(a, b - a)] := by
  have e : l.getLast? = some (l[n]'(by omega)) := by
    have hi : l.length - 1 = n := by omega
    simp only [List.getLast?_eq_getElem?, hi]
    exact List.getElem?_eq_getElem _
  simp only [putE, if_neg h, e, if_neg h2]
theorem Chg.set {S R : Nat} {w w1 : World} (h : Chg S R w w1) (u : Value) : Chg S R w (w1.setCell ⟨R, 0, none⟩ u) :=
  h.trans ⟨[], (Frm.refl _ _).setCell _ _ (.inl (by simp)), by simp⟩
/-- The variable's cell written, a row of its own laid anew. -/
theorem Jn.next {S R : Nat} {w w1 : World} {l' : List Ex} {v v' : Value} {sp' : List Value} (h1 : w.heap[R]? = some (.cells #[v] 22 (0, 0))) (hv : ∀ i ∈ blk v, S ≤ i) (hR : R < S) (hSw : S ≤ w.heap.size) (f : Frm (blk v) w w1) (o : OwnX w1 v' l' sp') (hn : ∀ i ∈ blk v', i ∈ blk v ∨ w.heap.size ≤ i) :
    Jn S R (w1.setCell ⟨R, 0, none⟩ v') l' ∧ Chg S R w (w1.setCell ⟨R, 0, none⟩ v') := by
  have g1 := f.heap h1 (fun hm => by have := hv R hm; omega)
  have hn' : ∀ i ∈ blk v', S ≤ i := fun i hi => by
    rcases hn i hi with h | h
    · exact hv i h
    · omega
  refine ⟨⟨v', sp', by rw [heap_setCell_same _ g1]; rfl, o.keep (L := [R]) ((Frm.refl _ _).setCell _ _ (.inl (by simp))) (fun i hi hm => by simp at hm; have := hn' i hi; omega), hn', hR⟩, Chg.set ⟨blk v, f.mono (fun i hi => .inl (List.mem_cons_of_mem _ hi)), hv⟩ _⟩
/-- append's step, where a slice's length has a name of its own. -/
theorem wpList_append_n {α : Type} {enc : α → List Value} {k : Nat} {T : TypeId} {w : World} {l m : List α} {sp msp : List Value} {n nn : Nat} {p : Option Addr} {cap : Nat} (E : Enco enc k) {P : Program} {tS : TypeId} {by' : Nat} (B : RowTys P tS T k by') {ops : Array Oper} {rest : List Oper} {o : Oper} {a : Act} {Q : Exit → Act → World → Prop}
    {y : Value} (hO : OwnE enc k T w (.slice p n cap) l sp) (hS : SlE enc k w y m msp) (hnn : n + m.length = nn) (hb : nn ≤ 1000000000) (hby : by' ≤ 1000)
    (hg : o.guard = none) (s x : Operand) (hop : o.op = Op.call { callee := Callee.builtin Builtin.append, args := #[s, x], argTypes := #[tS, tS] }) (hs : a.eval s = .slice p n cap) (hx : a.eval x = y)
    (kk : ∀ a' cap' w' sp', OwnE enc k T w' (.slice a' nn cap') (l ++ m) sp' → Frm (blk (.slice p n cap)) w w' → (∀ i ∈ blk (.slice a' nn cap'), i ∈ blk (.slice p n cap) ∨ w.heap.size ≤ i) →
      wpList P ops Q rest (a.put o.dst (.slice a' nn cap')) w') :
    wpList P ops Q (o :: rest) a w := by
  obtain ⟨a3, cap3, h3, _, _⟩ := hO.sl.form
  cases h3
  subst hnn
  exact wpList_append_e E B hO hS hb hby hg s x hop hs hx kk
set_option maxHeartbeats 4000000 in
theorem put_any (S R : Nat) (l : List Ex) (a b : Int) (w : World) (h : Jn S R w l) (hl : l.length ≤ 100000) (hx : ∀ x ∈ l, 0 ≤ x.1 + x.2 ∧ x.1 + x.2 ≤ 4096) (h0 : 0 ≤ a) (hab : a ≤ b) (hb : b ≤ 4096) (hx2 : ∀ x ∈ l, 0 ≤ x.2 ∧ x.2 ≤ 4096) (hSw : S ≤ w.heap.size) :
    Calls Try.prog 50 #[.int .i64 a, .int .i64 b, .pointer (some ⟨R, 0, none⟩)] w fun e w' => e = .returned (.tuple #[]) ∧ Jn S R w' (putE l a b) ∧ Chg S R w w' := by
  obtain ⟨v, sp, h1, h2, h3, h4⟩ := id h
  have c0 : w.cell? ⟨R, 0, none⟩ = some v := by rw [cell_of_heap h1]; rfl
  have z0 := frozen_of_heap h1 0
  by_cases e : a = b
  · subst e
    rw [putE_same]
    have H := Lib.hid h
    obtain ⟨a2, cap, rfl, _, _⟩ := h2.sl.form
    clear h h1 h2 h3
    have hl9 : (l.length : Int) ≤ 100000 := by omega
    have hw : IntKind.i64.wrap ((l.length : Int) - 1) = (l.length : Int) - 1 := IntWalk.i64_in _ (by omega)
    have hbb : (a == a) = true := by simp
    go_enter Try.func50, Try.ntmps50
    go_wp2_with fail
    go_end0
    exact ⟨rfl, H.out, Chg.refl _ _ _⟩
  · have heb : (a == b) = false := by simpa using e
    have hwab : IntKind.i64.wrap (b - a) = b - a := IntWalk.i64_in _ (by omega)
    by_cases hnil : l = []
    · subst hnil
      rw [putE_nil e]
      obtain ⟨a2, cap, rfl, _, _⟩ := h2.sl.form
      have H1 := Lib.hid h1
      have H2 := Lib.hid h2
      have H3 := Lib.hid h3
      clear h h1 h2 h3 hx hx2 hl
      go_enter Try.func50, Try.ntmps50
      have F1 := Lib.hid (((Frm.refl [] w).alloc (.cells #[.int .i64 a, .int .i64 (b - a)] 47)))
      have o1 := H2.out.keep0 F1.out
      have s1 := slx_new (x := (a, b - a)) (heap_alloc_new w (.cells #[.int .i64 a, .int .i64 (b - a)] 47))
      have c1 := F1.out.cell c0 (by simp)
      have z1 := frozen_of_heap (F1.out.heap H1.out (by simp)) 0
      go_wp2_with (at_builtin; refine wpList_append_e encE tysX o1 s1 (by simp) (by omega) rfl (.tmp 9) (.tmp 15) rfl rfl rfl ?_; intro a' cap' w' sp' o2 f2 b2; have g2 := f2.heap (F1.out.heap H1.out (by simp)) (fun hm => by have := H3.out R hm; omega); have z2 := frozen_of_heap g2 0; have c2 := f2.cell c1 (fun hm => by have := H3.out R hm; omega))
      go_end0
      have hj := Jn.next (F1.out.heap H1.out (by simp)) H3.out h4 (by simp; omega) f2 (by simpa using o2) b2
      exact ⟨rfl, hj.1, (Chg.of F1.out).trans hj.2⟩
    · obtain ⟨n, hn⟩ : ∃ n, l.length = n + 1 := ⟨l.length - 1, by have := List.length_pos_iff.2 hnil; omega⟩
      obtain ⟨g, cap, rfl⟩ : ∃ g cap, v = .slice (some ⟨g, 0, none⟩) l.length cap := by
        obtain ⟨q1, ⟨rfl, q3, q4⟩ | ⟨g, cap, q2, q3, q4, q5, q6⟩⟩ := id h2
        · omega
        · exact ⟨g, cap, q2⟩
      obtain ⟨d0, d1⟩ := cellsX h2.sl n (by omega)
      rw [Nat.zero_add] at d0 d1
      have hxn := hx l[n] (List.getElem_mem _)
      have hxn2 := hx2 l[n] (List.getElem_mem _)
      have hl9 : (n : Int) + 1 ≤ 100000 := by omega
      have hw : IntKind.i64.wrap ((l.length : Int) - 1) = (n : Int) := by rw [IntWalk.i64_in _ (by omega)]; omega
      have hlt : (n : Int) < (l.length : Int) := by omega
      have hneR : g ≠ R := by have := h3 g (by simp [blk]); omega
      by_cases hj : l[n].1 + l[n].2 = a
      · rw [putE_join e hn hj]
        have hst := fun W (f : Frm [] w W) => OwnE.store encE (h2.keep0 f) n 1 (by omega) (by omega) (l[n].1, l[n].2 + (b - a)) (.int .i64 (l[n].2 + (b - a))) rfl
        have HH2 := Lib.hid (OwnE.heap h2)
        have z1 := frozen_of_heap (OwnE.heap h2) (n * 2 + 1)
        generalize l.set n (l[n].1, l[n].2 + (b - a)) = l' at *
        generalize hxx : l[n] = x at *
        have hbh := behind_any x w (by omega)
        rw [hj] at hbh
        have haa : (a == a) = true := by simp
        have hwx : IntKind.i64.wrap (x.2 + (b - a)) = x.2 + (b - a) := IntWalk.i64_in _ (by omega)
        have H1 := Lib.hid h1
        have ST := Lib.hid hst
        have H3 := Lib.hid h3
        have HN := Lib.hid hn
        have H9 := Lib.hid hl9
        have HE := Lib.hid e
        have HNIL := Lib.hid hnil
        have hlp : 0 < l.length := by omega
        clear hxx
        clear hnil hn hl9 e hl
        generalize hm : l.length = m at *
        clear hm
        have HBH := Lib.hid hbh
        clear h h1 h2 h3 hst hbh hx hx2 hj hxn hxn2
        go_enter Try.func50, Try.ntmps50
        go_upto_region 4 with (first | (go_at_call 40; refine (HBH.out).mono ?_; rintro r w1 ⟨rfl, rfl⟩))
        have f1 : Frm [] w (w.alloc (.cells #[.int .i64 x.1, .int .i64 x.2] 47)) := (Frm.refl _ _).alloc _
        generalize w.alloc (.cells #[.int .i64 x.1, .int .i64 x.2] 47) = W at *
        have d2 := f1.cell d1 (by simp)
        have c2 := f1.cell c0 (by simp)
        have z2 := frozen_of_heap (f1.heap HH2.out (by simp)) (n * 2 + 1)
        have ST2 := Lib.hid (ST.out W f1)
        have F1 := Lib.hid f1
        clear c0 d0 d1 z0 z1 f1
        go_wp2_with fail
        go_end0
        have g1 := F1.out.heap H1.out (by simp)
        have f2 : Frm [g] W (W.setCell ⟨g, n * 2 + 1, none⟩ (.int .i64 (x.2 + (b - a)))) := (Frm.refl _ _).setCell _ _ (.inl (by simp))
        refine ⟨rfl, ⟨_, sp, f2.heap g1 (by simp; omega), ST2.out, H3.out, h4⟩, (Chg.of F1.out).trans ⟨[g], f2.mono (by simp), fun i hi => H3.out i (by simpa [blk] using hi)⟩⟩
      · rw [putE_new e hn hj]
        generalize hxx : l[n] = x at *
        have hbh := behind_any x w (by omega)
        have hja : (x.1 + x.2 == a) = false := by simpa using hj
        have H1 := Lib.hid h1
        have H2 := Lib.hid h2
        have H3 := Lib.hid h3
        have HL := Lib.hid hl
        clear hxx
        clear h h1 h2 h3 hx hx2 hxn hxn2
        clear hnil hn hl9 e hl
        generalize hm : l.length = m at *
        have HM := Lib.hid hm
        clear hm
        have HBH := Lib.hid hbh
        clear hbh
        generalize x.1 + x.2 = y at *
        go_enter Try.func50, Try.ntmps50
        go_upto_region 1 with (first | (go_at_call 40; refine (HBH.out).mono ?_; rintro r w1 ⟨rfl, rfl⟩))
        have f0 : Frm [] w (w.alloc (.cells #[.int .i64 x.1, .int .i64 x.2] 47)) := (Frm.refl _ _).alloc _
        generalize w.alloc (.cells #[.int .i64 x.1, .int .i64 x.2] 47) = W at *
        have F1 := Lib.hid (f0.alloc (.cells #[.int .i64 a, .int .i64 (b - a)] 47))
        have o1 := H2.out.keep0 F1.out
        have s1 := slx_new (x := (a, b - a)) (heap_alloc_new W (.cells #[.int .i64 a, .int .i64 (b - a)] 47))
        have c1 := F1.out.cell c0 (by simp)
        have z1 := frozen_of_heap (F1.out.heap H1.out (by simp)) 0
        have c3 := f0.cell c0 (by simp)
        have HSW := Lib.hid (show S ≤ W.heap.size by have := f0.size; omega)
        clear c0 z0 d0 d1 f0
        have hb5 : m + 1 ≤ 1000000000 := by have := HL.out; have := HM.out; omega
        go_wp2_with (at_builtin; refine wpList_append_n encE tysX o1 s1 (nn := m + 1) (by simp) hb5 (by omega) rfl (.tmp 9) (.tmp 15) rfl rfl rfl ?_; intro a' cap' w' sp' o2 f2 b2; have g2 := f2.heap (F1.out.heap H1.out (by simp)) (fun hm => by have := H3.out R (by simpa [blk] using hm); omega); have z2 := frozen_of_heap g2 0; have c2 := f2.cell c1 (fun hm => by have := H3.out R (by simpa [blk] using hm); omega))
        go_end0
        have hjn := Jn.next (F1.out.heap H1.out (by simp)) H3.out h4 (by simp; have := HSW.out; omega) f2 o2 b2
        exact ⟨rfl, hjn.1, (Chg.of F1.out).trans hjn.2⟩
end Go.Proofs.Ytgbgpmdhlocjhaa
