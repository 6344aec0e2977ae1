/-
  Parts of rows of addresses. No conditions but those that each law names.
-/
import Derived.Test.YtafedmahehbggaaCU
namespace Go.Proofs.Ytafedmahehbggaa
open Go.RowKit
set_option linter.unusedVariables false
set_option linter.unusedSimpArgs false

theorem SlA.cut {w : World} {a : Option Addr} {n cap : Nat} {l sp : List Ad} (h : SlA w (.slice a n cap) l sp) (lo hi : Nat) (h1 : lo ≤ hi) (h2 : hi ≤ l.length) :
    SlA w (.slice (if cap = lo then a else a.map (·.add (lo * 2))) (hi - lo) (cap - lo)) ((l.drop lo).take (hi - lo)) (l.drop hi ++ sp) := by
  have hlen : ((l.drop lo).take (hi - lo)).length = hi - lo := by simp; omega
  obtain ⟨k1, ⟨k2, k3, k4⟩ | ⟨a, k2, k3, k4⟩ | ⟨b, off, c, k2, k3, k4, k5, k6⟩⟩ := h
  · cases k2
    obtain rfl : l = [] := List.eq_nil_of_length_eq_zero k3
    obtain rfl : sp = [] := eas_inj (by rw [k4]; rfl)
    simp at h2
    subst h2
    obtain rfl : lo = 0 := by omega
    simpa using SlA.nil w
  · cases k2
    obtain rfl : l = [] := List.eq_nil_of_length_eq_zero k3
    obtain rfl : sp = [] := eas_inj (by rw [k4]; rfl)
    simp at h2
    subst h2
    obtain rfl : lo = 0 := by omega
    exact ⟨rfl, .inr (.inl ⟨a, rfl, rfl, rfl⟩)⟩
  · cases k2
    have hc : cap = l.length + sp.length := by
      have e1 := eas_length l
      have e2 := eas_length sp
      rw [List.length_append] at k5
      omega
    have hl : l.drop lo = (l.drop lo).take (hi - lo) ++ l.drop hi := by
      conv => lhs; rw [← List.take_append_drop (hi - lo) (l.drop lo)]
      rw [List.drop_drop, show lo + (hi - lo) = hi by omega]
    have hsz : (eas ((l.drop lo).take (hi - lo)) ++ eas (l.drop hi ++ sp)).length = (cap - lo) * 2 := by
      rw [List.length_append, eas_length, eas_length, hlen, List.length_append, List.length_drop]
      omega
    by_cases hcl : cap = lo
    · rw [if_pos hcl]
      have e1 : hi = lo := by omega
      have e2 : lo = l.length := by omega
      refine ⟨by rw [eas_length], .inr (.inr ⟨b, off, cap - lo, by rw [hlen], by omega, by omega, hsz, fun i u hu => ?_⟩)⟩
      have : i < (eas ((l.drop lo).take (hi - lo)) ++ eas (l.drop hi ++ sp)).length := by
        rcases Nat.lt_or_ge i (eas ((l.drop lo).take (hi - lo)) ++ eas (l.drop hi ++ sp)).length with h | h
        · exact h
        · rw [List.getElem?_eq_none h] at hu; cases hu
      rw [hsz] at this
      omega
    · rw [if_neg hcl]
      refine ⟨by rw [eas_length], .inr (.inr ⟨b, off + lo * 2, cap - lo, by simp [add_plain]; omega, by omega, by omega, hsz, fun i u hu => ?_⟩)⟩
      have := k6 (lo * 2 + i) u (by
        rw [← eas_append] at hu ⊢
        rw [← List.append_assoc, ← hl, ← List.drop_append_of_le_length (by omega)] at hu
        have e : eas (l ++ sp) = eas ((l ++ sp).take lo) ++ eas ((l ++ sp).drop lo) := by rw [← eas_append, List.take_append_drop]
        have e2 : (eas ((l ++ sp).take lo)).length = lo * 2 := by rw [eas_length, List.length_take, List.length_append]; congr 1; omega
        rw [e, List.getElem?_append_right (by omega), e2]
        simpa using hu)
      rw [Nat.add_assoc]
      exact this
theorem slice_lA {P : Program} {tS T : TypeId} (B : AdTys P tS T) {w : World} {a : Option Addr} {n cap : Nat} {l sp : List Ad} (h : SlA w (.slice a n cap) l sp) (lo : Nat) (h1 : lo ≤ l.length) :
    ∃ a' c', (∀ (x : Int) (wx : World), x = lo → (Instr.slice tS (.slice a n cap) (some (.int .i64 x)) none none).run P wx = .ok (.slice a' (l.length - lo) c') wx) ∧
      SlA w (.slice a' (l.length - lo) c') (l.drop lo) sp := by
  obtain ⟨a2, c2, e, hle, hm⟩ := h.form
  cases e
  have hc := h.cut lo l.length h1 (Nat.le_refl _)
  rw [List.take_of_length_le (by simp), List.drop_length, List.nil_append] at hc
  refine ⟨_, _, fun x wx hx => ?_, hc⟩
  subst hx
  obtain ⟨i, hi', hz, hs, hby⟩ := info_parts B.info
  have he : P.elem tS = T := by simp [Program.elem, B.sl]
  have hsz : (sizeOf (P.elem tS)).run P wx = .ok 2 wx := by rw [he]; simp [sizeOf, typeInfo, hi', hs]
  rw [run_slice_l (P := P) wx tS a l.length cap (by rw [he]; exact B.sl) .i64 lo (by omega) (by omega), hsz]
  simp [Result.andThen, sliced]
theorem slice_hA {P : Program} {tS T : TypeId} (B : AdTys P tS T) {w : World} {a : Option Addr} {n cap : Nat} {l sp : List Ad} (h : SlA w (.slice a n cap) l sp) (hi : Nat) (h2 : hi ≤ l.length) :
    ∃ a' c', (∀ (y : Int) (wx : World), y = hi → (Instr.slice tS (.slice a n cap) none (some (.int .i64 y)) none).run P wx = .ok (.slice a' hi c') wx) ∧ SlA w (.slice a' hi c') (l.take hi) (l.drop hi ++ sp) := by
  obtain ⟨a2, c2, e, hle, hm⟩ := h.form
  cases e
  have hc := h.cut 0 hi (Nat.zero_le _) h2
  simp only [List.drop_zero, Nat.sub_zero] at hc
  refine ⟨_, _, fun y wx hy => ?_, hc⟩
  subst hy
  obtain ⟨i, hi', hz, hs, hby⟩ := info_parts B.info
  have he : P.elem tS = T := by simp [Program.elem, B.sl]
  have hsz : (sizeOf (P.elem tS)).run P wx = .ok 2 wx := by rw [he]; simp [sizeOf, typeInfo, hi', hs]
  rw [run_slice_h (P := P) wx tS a l.length cap (by rw [he]; exact B.sl) .i64 hi (by omega) (by omega), hsz]
  simp [Result.andThen, sliced]
theorem exec_slice_lA {P : Program} {o : Oper} {a : Act} {w : World} {t : TypeId} {v u : Value} {x : Int} (s lo : Operand) (hop : o.op = Op.slice t s (some lo) none none) (hs : a.eval s = v) (h1 : a.eval lo = .int .i64 x)
    (ht : P.underlying t = some (.slice (P.elem t))) (h : (Instr.slice t v (some (.int .i64 x)) none none).run P w = .ok u w) : (execOp a.eval o).run P w = .ok (.value u) w := by
  simp [execOp, hop, hs, h1, run_sliceAt_slice w t _ _ _ _ ht, h, Result.andThen]
theorem exec_slice_hA {P : Program} {o : Oper} {a : Act} {w : World} {t : TypeId} {v u : Value} {y : Int} (s hi : Operand) (hop : o.op = Op.slice t s none (some hi) none) (hs : a.eval s = v) (h2 : a.eval hi = .int .i64 y)
    (ht : P.underlying t = some (.slice (P.elem t))) (h : (Instr.slice t v none (some (.int .i64 y)) none).run P w = .ok u w) : (execOp a.eval o).run P w = .ok (.value u) w := by
  simp [execOp, hop, hs, h2, run_sliceAt_slice w t _ _ _ _ ht, h, Result.andThen]
end Go.Proofs.Ytafedmahehbggaa
