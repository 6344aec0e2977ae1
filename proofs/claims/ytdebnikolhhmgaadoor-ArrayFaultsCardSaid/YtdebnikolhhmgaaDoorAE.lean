/-
  An array as it lies in memory. No conditions but those that each theorem names.
-/
import Derived.Test.YtdebnikolhhmgaaDoorAC
namespace Go.Proofs.YtdebnikolhhmgaaDoor
open Go.RowKit
set_option linter.unusedVariables false
set_option linter.unusedSimpArgs false
set_option maxRecDepth 100000

open Kr (OwnE SlE Enco RowTys)
open Kr (flt flt_cons flt_nil flt_length flt_oneCell flt_append flt_get)
abbrev FB := { l : List UInt8 // l.length = 256 }
abbrev CelT := { v : Value // v.oneCell' = true }
def eC (x : CelT) : List Value := [x.1]
theorem encC : Enco eC 1 := ⟨fun _ => rfl, fun x u hu => by simp [eC] at hu; subst hu; exact x.2, by omega, fun x y h => Subtype.ext (by simpa [eC] using h)⟩
abbrev Dr := Nat × Int × Int × CelT
def eD (x : Dr) : List Value := [.int .u8 (x.1 : Int), .int .i64 x.2.1, .int .i64 x.2.2.1, x.2.2.2.1]
theorem encD : Enco eD 4 := ⟨fun _ => rfl, fun x u hu => by
    simp [eD] at hu
    rcases hu with rfl | rfl | rfl | rfl
    · rfl
    · rfl
    · rfl
    · exact x.2.2.2.2, by omega, fun x y h => by
    obtain ⟨a, b, c, d⟩ := x
    obtain ⟨a', b', c', d'⟩ := y
    simp only [eD, List.cons.injEq, Value.int.injEq, true_and, and_true] at h
    obtain ⟨h1, h2, h3, h4⟩ := h
    have h1' : a = a' := by omega
    subst h1'; subst h2; subst h3
    rw [Subtype.ext h4]⟩
abbrev Sr := FB × CelT
def eS (x : Sr) : List Value := bvs x.1.1 ++ [x.2.1]
theorem encS : Enco eS 257 := ⟨fun x => by simp [eS, bvs_length, x.1.2], fun x u hu => by
    rcases List.mem_append.1 hu with h | h
    · exact bvs_one _ u h
    · simp at h; subst h; exact x.2.2, by omega, fun x y h => by
    obtain ⟨a, b⟩ := x
    obtain ⟨a', b'⟩ := y
    have h2 := List.append_inj h (by rw [bvs_length, bvs_length, a.2, a'.2])
    have e1 : a = a' := Subtype.ext (bvs_inj h2.1)
    have e2 : b = b' := Subtype.ext (by simpa using h2.2)
    rw [e1, e2]⟩
structure Sc where
  firm : FB
  last : Option FB
structure Dv where
  f : Nat
  str : Int
  fl : Int
  secs : List Sc
structure Wt where
  dev : Int
  at' : Int
  b : FB
structure St where
  n : Nat
  devs : List Dv
  row : List Wt
  set : Bool
  left : Int
  out : Bool
  steps : Int
def arc (g : Nat) (s : St) (dv rv : Value) : List Value := [.pointer (some ⟨g, 0, none⟩), .int .i64 s.n, dv, rv, .bool s.set, .int .i64 s.left, .bool s.out, .int .i64 s.steps]
def WtB (w : World) (g : Nat) (x : Wt) : Prop := w.heap[g]? = some (.cells (.int .i64 x.dev :: .int .i64 x.at' :: bvs x.b.1).toArray 105 (0, 0))
def LaV (w : World) (v : Value) (o : Option FB) : Prop := (o = none ∧ v = .pointer none) ∨ ∃ gw x, o = some x.b ∧ v = .pointer (some ⟨gw, 0, none⟩) ∧ WtB w gw x
def SecP (lo : Nat) (w : World) (v : Value) (l : List Sc) : Prop :=
  ∃ scs csp, OwnE eS 257 96 w v scs csp ∧ (∀ k ∈ blk v, lo ≤ k) ∧ scs.length = l.length ∧ ∀ (i : Nat) (q : Sr) (c : Sc), scs[i]? = some q → l[i]? = some c → q.1 = c.firm ∧ LaV w q.2.1 c.last
structure ArrL (lo : Nat) (w : World) (g : Nat) (s : St) (dv rv : Value) (drs : List Dr) (dsp : List Value) (rcs : List CelT) (rsp : List Value) : Prop where
  rcd : w.heap[g]? = some (.cells (arc g s dv rv).toArray 35 (0, 0))
  glo : lo ≤ g
  own : OwnE eD 4 86 w dv drs dsp
  dlo : ∀ k ∈ blk dv, lo ≤ k
  dlen : drs.length = s.devs.length
  dat : ∀ (i : Nat) (q : Dr) (d : Dv), drs[i]? = some q → s.devs[i]? = some d → q.1 = d.f ∧ q.2.1 = d.str ∧ q.2.2.1 = d.fl ∧ SecP lo w q.2.2.2.1 d.secs
  fb : ∀ d ∈ s.devs, d.f < 256 ∧ 0 ≤ d.fl ∧ d.fl ≤ 9223372036854775807 ∧ ((d.f &&& 8) ≠ 0 → 0 < d.fl)
  dis : ∀ (i j : Nat) (p q : Dr), i ≠ j → drs[i]? = some p → drs[j]? = some q → ∀ k ∈ blk p.2.2.2.1, k ∉ blk q.2.2.2.1
  row : OwnE eC 1 90 w rv rcs rsp
  rlo : ∀ k ∈ blk rv, lo ≤ k
  rlen : rcs.length = s.row.length
  rat : ∀ (i : Nat) (c : CelT) (x : Wt), rcs[i]? = some c → s.row[i]? = some x → ∃ gw, c.1 = .pointer (some ⟨gw, 0, none⟩) ∧ WtB w gw x
/-- A device's record changed where it stands. -/
theorem ArrL.put {lo : Nat} {w w' : World} {g : Nat} {s : St} {dv rv : Value} {drs : List Dr} {dsp : List Value} {rcs : List CelT} {rsp : List Value} (h : ArrL lo w g s dv rv drs dsp rcs rsp) (i : Nat) (hi : i < s.devs.length) (hi2 : i < drs.length) (q' : Dr) (d' : Dv)
    (own' : OwnE eD 4 86 w' dv (drs.set i q') dsp) (f : Frm (blk dv) w w') (h1 : q'.1 = d'.f) (h2 : q'.2.1 = d'.str) (h3 : q'.2.2.1 = d'.fl) (h4 : q'.2.2.2 = drs[i].2.2.2) (h5 : d'.secs = s.devs[i].secs)
    (h6 : d'.f < 256 ∧ 0 ≤ d'.fl ∧ d'.fl ≤ 9223372036854775807 ∧ ((d'.f &&& 8) ≠ 0 → 0 < d'.fl)) : ArrL lo w' g { s with devs := s.devs.set i d' } dv rv (drs.set i q') dsp rcs rsp ∧ Fa lo w w' := by
  have hob := own_blk h.own
  have hfa : Fa lo w w' := Fa.of_frm f fun k hk => by obtain ⟨cs, hc⟩ := hob k hk; exact ⟨h.dlo k hk, cs, 86, _, hc, by decide⟩
  have hno : ∀ {T k : Nat} {n : Nat} {v : Value} {xs sp : List Value}, Own T k w v n xs sp → T ≠ 86 → ∀ j ∈ blk v, j ∉ blk dv := fun ho ht j hj hm => by
    obtain ⟨cs, hc⟩ := hob j hm
    obtain ⟨cs', hc'⟩ := own_blk ho j hj
    rw [hc] at hc'; cases hc'; exact ht rfl
  have hsec : ∀ {v : Value} {l : List Sc}, SecP lo w v l → SecP lo w' v l := fun hs => by
    obtain ⟨scs, csp, k1, k2, k3, k4⟩ := hs
    exact ⟨scs, csp, k1.keep f (hno k1 (by decide)), k2, k3, fun i q c hq hc => by
      obtain ⟨e1, e2⟩ := k4 i q c hq hc
      refine ⟨e1, ?_⟩
      rcases e2 with e2 | ⟨gw, x, e2, e3, e4⟩
      · exact .inl e2
      · exact .inr ⟨gw, x, e2, e3, hfa.typ _ _ _ _ e4 (by decide)⟩⟩
  have hg : g ∉ blk dv := fun hm => by obtain ⟨cs, hc⟩ := hob g hm; rw [h.rcd] at hc; cases hc
  refine ⟨⟨f.heap h.rcd hg, h.glo, own', h.dlo, by simp [h.dlen], fun j q d hq hd => ?_, fun d hd => ?_, fun a b p q hab hp hq => ?_, h.row.keep f (hno h.row (by decide)), h.rlo, h.rlen, fun j c x hc hx => by obtain ⟨gw, e1, e2⟩ := h.rat j c x hc hx; exact ⟨gw, e1, hfa.typ _ _ _ _ e2 (by decide)⟩⟩, hfa⟩
  · simp only at hd
    by_cases e : j = i
    · subst e
      rw [List.getElem?_set_self hi2] at hq
      rw [List.getElem?_set_self hi] at hd
      cases hq; cases hd
      obtain ⟨_, _, _, k4⟩ := h.dat j drs[j] s.devs[j] (List.getElem?_eq_getElem hi2) (List.getElem?_eq_getElem hi)
      refine ⟨h1, h2, h3, ?_⟩
      rw [h4, h5]
      exact hsec k4
    · rw [List.getElem?_set_ne (fun h => e h.symm)] at hq hd
      obtain ⟨k1, k2, k3, k4⟩ := h.dat j q d hq hd
      exact ⟨k1, k2, k3, hsec k4⟩
  · simp only at hd
    rcases List.mem_or_eq_of_mem_set hd with hd | rfl
    · exact h.fb d hd
    · exact h6
  · have key : ∀ (j : Nat) (p : Dr), (drs.set i q')[j]? = some p → ∃ p', drs[j]? = some p' ∧ p'.2.2.2 = p.2.2.2 := fun j p hp => by
      by_cases e : j = i
      · subst e
        rw [List.getElem?_set_self hi2] at hp
        cases hp
        exact ⟨drs[j], List.getElem?_eq_getElem hi2, h4.symm⟩
      · rw [List.getElem?_set_ne (fun h => e h.symm)] at hp
        exact ⟨p, hp, rfl⟩
    obtain ⟨p', hp', ep⟩ := key a p hp
    obtain ⟨q'', hq'', eq⟩ := key b q hq
    rw [← ep, ← eq]
    exact h.dis a b p' q'' hab hp' hq''
/-- An array of this state, at block g. -/
def Arr (lo : Nat) (w : World) (g : Nat) (s : St) : Prop := ∃ dv rv drs dsp rcs rsp, ArrL lo w g s dv rv drs dsp rcs rsp
/-- Blocks that no array is made of. -/
def Other (w : World) (L : List Nat) : Prop := ∀ k ∈ L, ∃ (cs : Array Value) (T : TypeId) (fr : Nat × Nat), w.heap[k]? = some (.cells cs T fr) ∧ okT T = true ∧ T ≠ 105
section
variable {lo : Nat} {w w' : World} {L : List Nat}
theorem Other.nil (w : World) : Other w [] := fun k hk => by cases hk
theorem Other.no {k : Nat} {cs : Array Value} {T : TypeId} {fr : Nat × Nat} (h : Other w L) (hc : w.heap[k]? = some (.cells cs T fr)) (ht : okT T = false ∨ T = 105) : k ∉ L := fun hm => by
  obtain ⟨cs', T', fr', h1, h2, h3⟩ := h k hm
  rw [hc] at h1
  cases h1
  rcases ht with h | h
  · rw [h] at h2; cases h2
  · exact h3 h
theorem WtB.keep {g : Nat} {x : Wt} (h : WtB w g x) (f : Frm L w w') (hL : Other w L) : WtB w' g x := f.heap h (hL.no h (.inr rfl))
theorem WtB.fa {g : Nat} {x : Wt} (h : WtB w g x) (f : Fa lo w w') : WtB w' g x := f.typ _ _ _ _ h (by decide)
theorem LaV.keep {v : Value} {o : Option FB} (h : LaV w v o) (f : Frm L w w') (hL : Other w L) : LaV w' v o := by
  rcases h with h | ⟨gw, x, h1, h2, h3⟩
  · exact .inl h
  · exact .inr ⟨gw, x, h1, h2, h3.keep f hL⟩
theorem LaV.fa {v : Value} {o : Option FB} (h : LaV w v o) (f : Fa lo w w') : LaV w' v o := by
  rcases h with h | ⟨gw, x, h1, h2, h3⟩
  · exact .inl h
  · exact .inr ⟨gw, x, h1, h2, h3.fa f⟩
theorem own_other {T k : Nat} {v : Value} {n : Nat} {xs sp : List Value} (h : Own T k w v n xs sp) (hL : Other w L) (ht : okT T = false) : ∀ i ∈ blk v, i ∉ L := fun i hi => by
  obtain ⟨cs, hc⟩ := own_blk h i hi
  exact hL.no hc (.inl ht)
theorem SecP.keep {v : Value} {l : List Sc} (h : SecP lo w v l) (f : Frm L w w') (hL : Other w L) : SecP lo w' v l := by
  obtain ⟨scs, csp, h1, h2, h3, h4⟩ := h
  exact ⟨scs, csp, h1.keep f (own_other h1 hL (by decide)), h2, h3, fun i q c hq hc => by obtain ⟨e1, e2⟩ := h4 i q c hq hc; exact ⟨e1, e2.keep f hL⟩⟩
/-- A device's sectors, when others' are written. -/
theorem SecP.apart {v : Value} {l : List Sc} (h : SecP lo w v l) (f : Frm L w w') (hf : Fa lo w w') (hn : ∀ k ∈ blk v, k ∉ L) : SecP lo w' v l := by
  obtain ⟨scs, csp, h1, h2, h3, h4⟩ := h
  exact ⟨scs, csp, h1.keep f hn, h2, h3, fun i q c hq hc => by obtain ⟨e1, e2⟩ := h4 i q c hq hc; exact ⟨e1, e2.fa hf⟩⟩
theorem ArrL.keep {g : Nat} {s : St} {dv rv : Value} {drs : List Dr} {dsp : List Value} {rcs : List CelT} {rsp : List Value} (h : ArrL lo w g s dv rv drs dsp rcs rsp) (f : Frm L w w') (hL : Other w L) : ArrL lo w' g s dv rv drs dsp rcs rsp :=
  ⟨f.heap h.rcd (hL.no h.rcd (.inl (by decide))), h.glo, h.own.keep f (own_other h.own hL (by decide)), h.dlo, h.dlen, fun i q d hq hd => by obtain ⟨e1, e2, e3, e4⟩ := h.dat i q d hq hd; exact ⟨e1, e2, e3, e4.keep f hL⟩, h.fb, h.dis,
    h.row.keep f (own_other h.row hL (by decide)), h.rlo, h.rlen, fun i c x hc hx => by obtain ⟨gw, e1, e2⟩ := h.rat i c x hc hx; exact ⟨gw, e1, e2.keep f hL⟩⟩
theorem Arr.keep {g : Nat} {s : St} (h : Arr lo w g s) (f : Frm L w w') (hL : Other w L) : Arr lo w' g s := by
  obtain ⟨dv, rv, drs, dsp, rcs, rsp, h⟩ := h
  exact ⟨dv, rv, drs, dsp, rcs, rsp, h.keep f hL⟩
theorem Arr.keep0 {g : Nat} {s : St} (h : Arr lo w g s) (f : Frm [] w w') : Arr lo w' g s := h.keep f (Other.nil w)
theorem Arr.drew {g : Nat} {s : St} (h : Arr lo w g s) : Arr lo w.drew g s := h.keep0 ((Frm.refl [] w).drew)
/-- The record's cells. -/
theorem ArrL.cells {g : Nat} {s : St} {dv rv : Value} {drs : List Dr} {dsp : List Value} {rcs : List CelT} {rsp : List Value} (h : ArrL lo w g s dv rv drs dsp rcs rsp) :
    w.cell? ⟨g, 0, none⟩ = some (.pointer (some ⟨g, 0, none⟩)) ∧ w.cell? ⟨g, 1, none⟩ = some (.int .i64 s.n) ∧ w.cell? ⟨g, 2, none⟩ = some dv ∧ w.cell? ⟨g, 3, none⟩ = some rv ∧ w.cell? ⟨g, 4, none⟩ = some (.bool s.set) ∧
      w.cell? ⟨g, 5, none⟩ = some (.int .i64 s.left) ∧ w.cell? ⟨g, 6, none⟩ = some (.bool s.out) ∧ w.cell? ⟨g, 7, none⟩ = some (.int .i64 s.steps) ∧ ∀ i, w.frozen? ⟨g, i, none⟩ = false := by
  refine ⟨by rw [cell_of_heap h.rcd]; rfl, by rw [cell_of_heap h.rcd]; rfl, by rw [cell_of_heap h.rcd]; rfl, by rw [cell_of_heap h.rcd]; rfl, by rw [cell_of_heap h.rcd]; rfl, by rw [cell_of_heap h.rcd]; rfl, by rw [cell_of_heap h.rcd]; rfl, by rw [cell_of_heap h.rcd]; rfl, fun i => frozen_of_heap h.rcd i⟩
/-- A device's cells. -/
theorem ArrL.dev {g : Nat} {s : St} {dv rv : Value} {drs : List Dr} {dsp : List Value} {rcs : List CelT} {rsp : List Value} (h : ArrL lo w g s dv rv drs dsp rcs rsp) (i : Nat) (hi : i < s.devs.length) :
    ∃ gd cap sv, dv = .slice (some ⟨gd, 0, none⟩) s.devs.length cap ∧ w.cell? ⟨gd, i * 4, none⟩ = some (.int .u8 (s.devs[i].f : Int)) ∧ w.cell? ⟨gd, i * 4 + 1, none⟩ = some (.int .i64 s.devs[i].str) ∧ w.cell? ⟨gd, i * 4 + 2, none⟩ = some (.int .i64 s.devs[i].fl) ∧
      w.cell? ⟨gd, i * 4 + 3, none⟩ = some sv ∧ SecP lo w sv s.devs[i].secs ∧ (∀ j, w.frozen? ⟨gd, j, none⟩ = false) := by
  have hi2 : i < drs.length := by rw [h.dlen]; exact hi
  obtain ⟨e1, e2, e3, e4⟩ := h.dat i drs[i] s.devs[i] (List.getElem?_eq_getElem hi2) (List.getElem?_eq_getElem hi)
  obtain ⟨h1, ⟨_, h2, _⟩ | ⟨gd, cap, h2, h3, h4, h5, h6⟩⟩ := id h.own
  · omega
  · have hs := h.own.sl
    rw [h2] at hs
    have c0 := SlE.cell encD hs i hi2 0 (u := .int .u8 (drs[i].1 : Int)) rfl
    have c1 := SlE.cell encD hs i hi2 1 (u := .int .i64 drs[i].2.1) rfl
    have c2 := SlE.cell encD hs i hi2 2 (u := .int .i64 drs[i].2.2.1) rfl
    have c3 := SlE.cell encD hs i hi2 3 (u := drs[i].2.2.2.1) rfl
    rw [Nat.zero_add] at c0 c1 c2 c3
    rw [e1] at c0
    rw [e2] at c1
    rw [e3] at c2
    exact ⟨gd, cap, drs[i].2.2.2.1, by rw [h2, h.dlen], c0, c1, c2, c3, e4, fun j => frozen_of_heap h6 j⟩
/-- A sector's cells. -/
theorem SecP.at {v : Value} {l : List Sc} (h : SecP lo w v l) (i : Nat) (hi : i < l.length) :
    ∃ gs cap lv, v = .slice (some ⟨gs, 0, none⟩) l.length cap ∧ (∀ j u, (bvs l[i].firm.1)[j]? = some u → w.cell? ⟨gs, i * 257 + j, none⟩ = some u) ∧ w.cell? ⟨gs, i * 257 + 256, none⟩ = some lv ∧ LaV w lv l[i].last ∧ ∀ j, w.frozen? ⟨gs, j, none⟩ = false := by
  obtain ⟨scs, csp, h1, h2, h3, h4⟩ := h
  have hi2 : i < scs.length := by omega
  obtain ⟨e1, e2⟩ := h4 i scs[i] l[i] (List.getElem?_eq_getElem hi2) (List.getElem?_eq_getElem hi)
  obtain ⟨q1, ⟨_, q2, _⟩ | ⟨gs, cap, q2, q3, q4, q5, q6⟩⟩ := id h1
  · omega
  · have hs := h1.sl
    rw [q2] at hs
    refine ⟨gs, cap, scs[i].2.1, by rw [q2, h3], fun j u hu => ?_, ?_, e2, fun j => frozen_of_heap q6 j⟩
    · rw [← e1] at hu
      have hj : j < (bvs scs[i].1.1).length := by
        rcases Nat.lt_or_ge j (bvs scs[i].1.1).length with h | h
        · exact h
        · rw [List.getElem?_eq_none h] at hu; cases hu
      have := SlE.cell encS hs i hi2 j (u := u) (by unfold eS; rw [List.getElem?_append_left hj]; exact hu)
      rwa [Nat.zero_add] at this
    · have hl : (bvs scs[i].1.1).length = 256 := by rw [bvs_length, scs[i].1.2]
      have := SlE.cell encS hs i hi2 256 (u := scs[i].2.1) (by unfold eS; rw [List.getElem?_append_right (by omega), hl]; rfl)
      rwa [Nat.zero_add] at this
end
end Go.Proofs.YtdebnikolhhmgaaDoor
