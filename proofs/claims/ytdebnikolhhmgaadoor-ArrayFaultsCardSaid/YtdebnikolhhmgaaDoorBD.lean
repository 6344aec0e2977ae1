/-
  Rows and sectors set. No conditions but those that each theorem names.
-/
import Derived.Test.YtdebnikolhhmgaaDoorBC
namespace Go.Proofs.YtdebnikolhhmgaaDoor
open Go.RowKit
set_option linter.unusedVariables false
set_option linter.unusedSimpArgs false
set_option maxRecDepth 100000

open Kr (OwnE SlE Enco RowTys)
/-- A device's sectors changed. -/
theorem ArrL.sect {lo : Nat} {w w' : World} {g : Nat} {s : St} {dv rv : Value} {drs : List Dr} {dsp : List Value} {rcs : List CelT} {rsp : List Value} (h : ArrL lo w g s dv rv drs dsp rcs rsp) (i : Nat) (hi : i < s.devs.length) (hi2 : i < drs.length) (secs' : List Sc)
    (f : Frm (blk drs[i].2.2.2.1) w w') (hs : SecP lo w' drs[i].2.2.2.1 secs') : ArrL lo w' g { s with devs := s.devs.set i { s.devs[i] with secs := secs' } } dv rv drs dsp rcs rsp ∧ Fa lo w w' := by
  obtain ⟨d1, d2, d3, scs, csp, o1, o2, _, _⟩ := h.dat i drs[i] s.devs[i] (List.getElem?_eq_getElem hi2) (List.getElem?_eq_getElem hi)
  have hob := own_blk o1
  have hfa : Fa lo w w' := Fa.of_frm f fun k hk => by obtain ⟨cs, hc⟩ := hob k hk; exact ⟨o2 k hk, cs, 96, _, hc, by decide⟩
  have hno : ∀ {T k : Nat} {n : Nat} {v : Value} {xs sp : List Value}, Own T k w v n xs sp → T ≠ 96 → ∀ j ∈ blk v, j ∉ blk drs[i].2.2.2.1 := fun ho ht j hj hm => by
    obtain ⟨cs, hc⟩ := hob j hm
    obtain ⟨cs', hc'⟩ := own_blk ho j hj
    rw [hc] at hc'; cases hc'; exact ht rfl
  have hg : g ∉ blk drs[i].2.2.2.1 := fun hm => by obtain ⟨cs, hc⟩ := hob g hm; rw [h.rcd] at hc; cases hc
  refine ⟨⟨f.heap h.rcd hg, h.glo, h.own.keep f (hno h.own (by decide)), h.dlo, by simp [h.dlen], fun j q d hq hd => ?_, fun d hd => ?_, h.dis, h.row.keep f (hno h.row (by decide)), h.rlo, h.rlen, fun j c x hc hx => by obtain ⟨gw, e1, e2⟩ := h.rat j c x hc hx; exact ⟨gw, e1, hfa.typ _ _ _ _ e2 (by decide)⟩⟩, hfa⟩
  · simp only at hd
    by_cases e : j = i
    · subst e
      rw [List.getElem?_eq_getElem hi2] at hq
      rw [List.getElem?_set_self hi] at hd
      cases hq; cases hd
      exact ⟨d1, d2, d3, hs⟩
    · rw [List.getElem?_set_ne (fun h => e h.symm)] at hd
      obtain ⟨k1, k2, k3, k4⟩ := h.dat j q d hq hd
      exact ⟨k1, k2, k3, k4.apart f hfa (h.dis j i q drs[i] e hq (List.getElem?_eq_getElem hi2))⟩
  · simp only at hd
    rcases List.mem_or_eq_of_mem_set hd with hd | rfl
    · exact h.fb d hd
    · have := h.fb s.devs[i] (List.getElem_mem hi); exact this
theorem ArrL.lo_le {lo : Nat} {w : World} {g : Nat} {s : St} {dv rv : Value} {drs : List Dr} {dsp : List Value} {rcs : List CelT} {rsp : List Value} (h : ArrL lo w g s dv rv drs dsp rcs rsp) : lo ≤ w.heap.size := by
  have := h.glo
  have := lt_heap h.rcd
  omega
/-- The row of loose writes changed. -/
theorem ArrL.setRow {lo : Nat} {w w' : World} {g : Nat} {s : St} {dv rv : Value} {drs : List Dr} {dsp : List Value} {rcs : List CelT} {rsp : List Value} (h : ArrL lo w g s dv rv drs dsp rcs rsp) (s' : St) (rv' : Value) (rcs' : List CelT) (rsp' : List Value) (hd : s'.devs = s.devs)
    (f : Frm (g :: blk rv) w w') (hr : w'.heap[g]? = some (.cells (arc g s' dv rv').toArray 35 (0, 0))) (ho : OwnE eC 1 90 w' rv' rcs' rsp') (hb : ∀ k ∈ blk rv', k ∈ blk rv ∨ w.heap.size ≤ k) (hl : rcs'.length = s'.row.length)
    (ha : ∀ (i : Nat) (c : CelT) (x : Wt), rcs'[i]? = some c → s'.row[i]? = some x → ∃ gw, c.1 = .pointer (some ⟨gw, 0, none⟩) ∧ WtB w' gw x) : ArrL lo w' g s' dv rv' drs dsp rcs' rsp' ∧ Fa lo w w' := by
  have hob := own_blk h.row
  have hall : ∀ k ∈ g :: blk rv, ∃ cs T, w.heap[k]? = some (.cells cs T (0, 0)) ∧ (T = 35 ∨ T = 90) := fun k hk => by
    rcases List.mem_cons.1 hk with rfl | hk
    · exact ⟨_, _, h.rcd, .inl rfl⟩
    · obtain ⟨cs, hc⟩ := hob k hk; exact ⟨cs, 90, hc, .inr rfl⟩
  have hfa : Fa lo w w' := Fa.of_frm f fun k hk => by
    obtain ⟨cs, T, hc, ht⟩ := hall k hk
    refine ⟨?_, cs, T, _, hc, by rcases ht with rfl | rfl <;> decide⟩
    rcases List.mem_cons.1 hk with rfl | hk
    · exact h.glo
    · exact h.rlo k hk
  have hno : ∀ {T k : Nat} {n : Nat} {v : Value} {xs sp : List Value}, Own T k w v n xs sp → T ≠ 35 → T ≠ 90 → ∀ j ∈ blk v, j ∉ g :: blk rv := fun ho h1 h2 j hj hm => by
    obtain ⟨cs, T', hc, ht⟩ := hall j hm
    obtain ⟨cs', hc'⟩ := own_blk ho j hj
    rw [hc] at hc'; cases hc'
    rcases ht with rfl | rfl
    · exact h1 rfl
    · exact h2 rfl
  refine ⟨⟨hr, h.glo, h.own.keep f (hno h.own (by decide) (by decide)), h.dlo, by rw [hd]; exact h.dlen, fun j q d hq hd2 => ?_, fun d hd2 => h.fb d (by rw [← hd]; exact hd2), h.dis, ho, fun k hk => ?_, hl, ha⟩, hfa⟩
  · rw [hd] at hd2
    obtain ⟨k1, k2, k3, k4⟩ := h.dat j q d hq hd2
    refine ⟨k1, k2, k3, ?_⟩
    obtain ⟨scs, csp, o1, o2, o3, o4⟩ := id k4
    exact k4.apart f hfa (hno o1 (by decide) (by decide))
  · rcases hb k hk with hk | hk
    · exact h.rlo k hk
    · have := h.lo_le; omega
/-- A sector's loose write set. -/
theorem SecP.setLast {lo : Nat} {w : World} {gs cap n : Nat} {l : List Sc} (h : SecP lo w (.slice (some ⟨gs, 0, none⟩) n cap) l) (j : Nat) (hj : j < l.length) (v : CelT) (o : Option FB) (hv : LaV (w.setCell ⟨gs, j * 257 + 256, none⟩ v.1) v.1 o) (hfa : Fa lo w (w.setCell ⟨gs, j * 257 + 256, none⟩ v.1)) :
    SecP lo (w.setCell ⟨gs, j * 257 + 256, none⟩ v.1) (.slice (some ⟨gs, 0, none⟩) n cap) (l.set j { l[j] with last := o }) := by
  obtain ⟨scs, csp, h1, h2, h3, h4⟩ := h
  have hj2 : j < scs.length := by omega
  have hl : (bvs scs[j].1.1).length = 256 := by rw [bvs_length, scs[j].1.2]
  refine ⟨_, csp, OwnE.store encS h1 j 256 hj2 (by omega) (scs[j].1, v) v.1 (by unfold eS; rw [List.set_append_right _ _ (by omega), hl]; rfl), h2, by simp [h3], fun i q c hq hc => ?_⟩
  by_cases e : i = j
  · subst e
    rw [List.getElem?_set_self hj2] at hq
    rw [List.getElem?_set_self hj] at hc
    cases hq; cases hc
    obtain ⟨e1, _⟩ := h4 i scs[i] l[i] (List.getElem?_eq_getElem hj2) (List.getElem?_eq_getElem hj)
    exact ⟨e1, hv⟩
  · rw [List.getElem?_set_ne (fun h => e h.symm)] at hq hc
    obtain ⟨e1, e2⟩ := h4 i q c hq hc
    exact ⟨e1, e2.fa hfa⟩
def setSec (s : St) (d a : Int) (u : Sc → Sc) : St := setD s d fun q => { q with secs := match q.secs[a.toNat]? with
  | some c => q.secs.set a.toNat (u c)
  | none => q.secs }
theorem setSec_nat {s : St} {d a : Int} (hi : d.toNat < s.devs.length) (hj : a.toNat < s.devs[d.toNat].secs.length) (u : Sc → Sc) : setSec s d a u = { s with devs := s.devs.set d.toNat { s.devs[d.toNat] with secs := s.devs[d.toNat].secs.set a.toNat (u s.devs[d.toNat].secs[a.toNat]) } } := by
  unfold setSec
  rw [setD_nat hi, List.getElem?_eq_getElem hj]
end Go.Proofs.YtdebnikolhhmgaaDoor

