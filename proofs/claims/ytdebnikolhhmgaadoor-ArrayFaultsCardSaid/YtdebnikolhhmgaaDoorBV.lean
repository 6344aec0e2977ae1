/-
  New refused; Pull, Fit. No conditions but those that each theorem names.
-/
import Derived.Test.YtdebnikolhhmgaaDoorBS
import Derived.OrdersHeld
import Derived.Deep.RegionLaw
namespace Go.Proofs.YtdebnikolhhmgaaDoor
open Go.RowKit
set_option linter.unusedVariables false
set_option linter.unusedSimpArgs false
set_option maxRecDepth 100000

open Kr (OwnE SlE Enco RowTys)
theorem OwnE.store4 {w : World} {gd n cap : Nat} {drs : List Dr} {dsp : List Value} (ho : OwnE eD 4 86 w (.slice (some ⟨gd, 0, none⟩) n cap) drs dsp) (i : Nat) (hi : i < drs.length) (q' : Dr) :
    OwnE eD 4 86 ((((w.setCell ⟨gd, i * 4, none⟩ (.int .u8 (q'.1 : Int))).setCell ⟨gd, i * 4 + 1, none⟩ (.int .i64 q'.2.1)).setCell ⟨gd, i * 4 + 2, none⟩ (.int .i64 q'.2.2.1)).setCell ⟨gd, i * 4 + 3, none⟩ q'.2.2.2.1) (.slice (some ⟨gd, 0, none⟩) n cap) (drs.set i q') dsp := by
  have o1 := OwnE.store encD ho i 0 hi (by omega) (q'.1, drs[i].2.1, drs[i].2.2.1, drs[i].2.2.2) (.int .u8 (q'.1 : Int)) rfl
  have o2 := OwnE.store encD o1 i 1 (by simpa using hi) (by omega) (q'.1, q'.2.1, drs[i].2.2.1, drs[i].2.2.2) (.int .i64 q'.2.1) (by simp [eD])
  rw [List.set_set] at o2
  have o3 := OwnE.store encD o2 i 2 (by simpa using hi) (by omega) (q'.1, q'.2.1, q'.2.2.1, drs[i].2.2.2) (.int .i64 q'.2.2.1) (by simp [eD])
  rw [List.set_set] at o3
  have o4 := OwnE.store encD o3 i 3 (by simpa using hi) (by omega) q' q'.2.2.2.1 (by simp [eD])
  rw [List.set_set] at o4
  exact o4
/-- A device in another's place. -/
theorem ArrL.swap {lo : Nat} {w w' : World} {g : Nat} {s : St} {dv rv : Value} {drs : List Dr} {dsp : List Value} {rcs : List CelT} {rsp : List Value} (h : ArrL lo w g s dv rv drs dsp rcs rsp) (i : Nat) (hi : i < s.devs.length) (hi2 : i < drs.length) (q' : Dr) (d' : Dv)
    (own' : OwnE eD 4 86 w' dv (drs.set i q') dsp) (f : Frm (blk dv) w w') (h1 : q'.1 = d'.f) (h2 : q'.2.1 = d'.str) (h3 : q'.2.2.1 = d'.fl) (hS : SecP lo w' q'.2.2.2.1 d'.secs) (hfr : ∀ k ∈ blk q'.2.2.2.1, w.heap.size ≤ k)
    (h6 : d'.f < 256 ∧ 0 ≤ d'.fl ∧ d'.fl ≤ 9223372036854775807 ∧ ((d'.f &&& 8) ≠ 0 → 0 < d'.fl)) : ArrL lo w' g { s with devs := s.devs.set i d' } dv rv (drs.set i q') dsp rcs rsp ∧ Fa lo w w' := by
  have hob := own_blk h.own
  have hfa : Fa lo w w' := Fa.of_frm f fun k hk => by obtain ⟨cs, hc⟩ := hob k hk; exact ⟨h.dlo k hk, cs, 86, _, hc, by decide⟩
  have hno : ∀ {T k : Nat} {n : Nat} {v : Value} {xs sp : List Value}, Own T k w v n xs sp → T ≠ 86 → ∀ j ∈ blk v, j ∉ blk dv := fun ho ht j hj hm => by
    obtain ⟨cs, hc⟩ := hob j hm
    obtain ⟨cs', hc'⟩ := own_blk ho j hj
    rw [hc] at hc'; cases hc'; exact ht rfl
  have hg : g ∉ blk dv := fun hm => by obtain ⟨cs, hc⟩ := hob g hm; rw [h.rcd] at hc; cases hc
  have hold : ∀ (j : Nat) (p : Dr), drs[j]? = some p → ∀ k ∈ blk p.2.2.2.1, k < w.heap.size := fun j p hp k hk => by
    have hj : j < s.devs.length := by rw [← h.dlen]; exact (List.getElem?_eq_some_iff.1 hp).1
    obtain ⟨_, _, _, scs, csp, o1, _⟩ := h.dat j p _ hp (List.getElem?_eq_getElem hj)
    exact o1.lt k hk
  refine ⟨⟨f.heap h.rcd hg, h.glo, own', h.dlo, by simp [h.dlen], fun j q d hq hd => ?_, fun d hd => ?_, fun a b p q hab hp hq => ?_, h.row.keep f (hno h.row (by decide)), h.rlo, h.rlen, fun j c x hc hx => by obtain ⟨gw, e1, e2⟩ := h.rat j c x hc hx; exact ⟨gw, e1, hfa.typ _ _ _ _ e2 (by decide)⟩⟩, hfa⟩
  · simp only at hd
    by_cases e : j = i
    · subst e
      rw [List.getElem?_set_self hi2] at hq
      rw [List.getElem?_set_self hi] at hd
      cases hq; cases hd
      exact ⟨h1, h2, h3, hS⟩
    · rw [List.getElem?_set_ne (fun h => e h.symm)] at hq hd
      obtain ⟨k1, k2, k3, k4⟩ := h.dat j q d hq hd
      refine ⟨k1, k2, k3, ?_⟩
      obtain ⟨scs, csp, o1, o2, o3, o4⟩ := id k4
      exact k4.apart f hfa (hno o1 (by decide))
  · simp only at hd
    rcases List.mem_or_eq_of_mem_set hd with hd | rfl
    · exact h.fb d hd
    · exact h6
  · have key : ∀ (j : Nat) (p : Dr), (drs.set i q')[j]? = some p → (j ≠ i ∧ drs[j]? = some p) ∨ (j = i ∧ p = q') := fun j p hp => by
      by_cases e : j = i
      · subst e
        rw [List.getElem?_set_self hi2] at hp
        cases hp
        exact .inr ⟨rfl, rfl⟩
      · rw [List.getElem?_set_ne (fun h => e h.symm)] at hp
        exact .inl ⟨e, hp⟩
    rcases key a p hp with ⟨a1, a2⟩ | ⟨a1, rfl⟩
    · rcases key b q hq with ⟨b1, b2⟩ | ⟨b1, rfl⟩
      · exact h.dis a b p q hab a2 b2
      · intro k hk hm
        have := hold a p a2 k hk
        have := hfr k hm
        omega
    · rcases key b q hq with ⟨b1, b2⟩ | ⟨b1, rfl⟩
      · intro k hk hm
        have := hold b q b2 k hm
        have := hfr k hk
        omega
      · omega
def goneDv : Dv := ⟨1, 0, 0, []⟩
def pullS (s : St) (d : Int) : St := setD (takenS s d) d fun _ => goneDv
def fitS (s : St) (d : Int) : St := setD (takenS s d) d fun _ => zDv s.n
section
variable {lo : Nat} {w : World} {sn : Nat → Addr} {g : Nat} {s : St}
theorem New_no (d n : Int) (hs : Sn w lo sn) (hd : ¬ (2 ≤ d ∧ d ≤ 8)) :
    Calls Tryd.prog 31 #[.int .i64 d, .int .i64 n] w fun e w' => e = .returned (.tuple #[.pointer none, .int .i64 (code 0)]) ∧ Frm [] w w' := by
  have cg := hs.v 0 (by omega)
  have hu := unless_false txA (sn 0) w
  unfold txA at hu
  have hwi : ∀ W, Calls Tryd.prog 53 #[.int .i64 d, .int .i64 2, .int .i64 8] W fun e w' => e = .returned (.bool false) ∧ w' = W := fun W => (within_any d 2 8 W).mono (by
    rintro e w' ⟨rfl, rfl⟩
    exact ⟨by rw [decide_eq_false hd], rfl⟩)
  have HWI := Lib.hid hwi
  have NU := Lib.hid (number_any hs txA 0 (by omega))
  unfold rfu txA at NU
  clear hwi hd hs
  go_enter Tryd.func31, Tryd.ntmps31
  go_wp2_with (first
    | (go_at_call 53; refine (HWI.out _).mono ?_; rintro e w1 ⟨rfl, hw1⟩; obtain rfl := hw1.symm; clear HWI)
    | (go_at_call 60; refine hu.mono ?_; rintro e w1 ⟨rfl, hw1⟩; obtain rfl := hw1.symm)
    | (go_at_call 42; refine NU.out.mono ?_; rintro e w2 ⟨rfl, f2⟩; have F2 := Lib.hid f2; clear f2))
  go_ret2
  exact ⟨rfl, F2.out⟩
set_option maxHeartbeats 4000000 in
theorem Pull_any (d : Int) (hs : Sn w lo sn) (h : Arr lo w g s) (hrow : s.row.length ≤ 100000000) :
    Calls Tryd.prog 21 #[ptr g, .int .i64 d] w (MP lo g (mRes (dCons (nD s d, s) (nT s d, s)) fun s => pullS s d) w) := by
  have HS := Lib.hid hs
  have AR := Lib.hid h
  have F := Lib.hid (Frm.refl [] w)
  unfold ptr
  clear h hs
  go_enter Tryd.func21, Tryd.ntmps21
  go_wp2_with (first
    | (go_at_call 50; refine (deviceOf_any _ _).mono ?_; rintro e w5 ⟨bd, rfl, hd1, f1⟩; have F := Lib.hid (F.out.trans f1 (by simp)); have LD := Lib.hid hd1;  clear hd1 f1)
    | (go_at_call 40; refine (there_any _ _).mono ?_; rintro e w2 ⟨bt, rfl, ht1, f1⟩; have F := Lib.hid (F.out.trans f1 (by simp)); have LT := Lib.hid ht1; have LD := Lib.hid (f1.heap LD.out (by simp)); clear ht1 f1))
  refine (demand_any (r := (dCons (nD s d, s) (nT s d, s))) _ [_, _] _ 2 (HS.out.keep0 (F.out.alloc _)) (AR.out.keep0 (F.out.alloc _)) (Fa.refl lo _) (heap_alloc_new _ _) rfl (by simp) (Dem.cons (needD (HS.out.keep0 (F.out.alloc _)) ((Frm.refl [] _).alloc _ |>.heap LD.out (by simp))) fun hq0 => Dem.last (needT (HS.out.keep0 (F.out.alloc _)) ((Frm.refl [] _).alloc _ |>.heap LT.out (by simp)) (nD_ok hq0)))).mono ?_
  rintro e w9 ⟨h1, h2, h3⟩
  have HS9 := Lib.hid ((HS.out.keep0 (F.out.alloc _)).fa h3)
  have F9 := Lib.hid ((Fa.of0 (F.out.alloc _) lo).trans h3)
  have A9 := Lib.hid h2
  clear h2 h3
  rcases h1 with ⟨hq, rfl⟩ | ⟨k2, tx, hq, hk6, rfl⟩
  rotate_left
  · unfold rfu
    have HQ := Lib.hid hq
    have NU := Lib.hid (number_any HS9.out tx k2 hk6)
    clear hq
    go_wp2_with (go_at_call 42; refine NU.out.mono ?_; rintro e w10 ⟨rfl, f10⟩; have F10 := Lib.hid f10; clear f10)
    go_ret
    have hq := HQ.out
    rw [mRes_some hq]
    exact ⟨rfl, A9.out.keep0 F10.out, F9.out.trans (Fa.of0 F10.out lo)⟩
  · obtain ⟨q0, q1⟩ := dCons_of hq
    obtain ⟨hi, hd0, hd9⟩ := okD_at (nD_ok q0)
    have e2 : dCons (nD s d, s) (nT s d, s) = (none, s) := by rw [dCons_none q0]; exact Prod.ext q1 rfl
    rw [e2] at A9
    have A9 := Lib.hid (show Arr lo w9 g s from A9.out)
    have E2 := Lib.hid e2
    have TK := Lib.hid (takeLoose_any d A9.out hrow)
    clear hq q0 q1 e2 hrow
    go_upto_region 5 with (go_at_call 51; refine TK.out.mono ?_; rintro e w10 ⟨vt, rfl, r1, n1, a1, f1⟩; have A10 := Lib.hid a1; have F10 := Lib.hid (F9.out.trans f1); clear r1 n1 a1 f1 TK)
    obtain ⟨dv, rv, drs, dsp, rcs, rsp, h⟩ := A10.out
    have hiT : d.toNat < (takenS s d).devs.length := hi
    have hi2 : d.toNat < drs.length := by rw [h.dlen]; exact hiT
    obtain ⟨-, -, c2, -⟩ := h.cells
    obtain ⟨gd, cap, sv, hdv, d0, d1, d2, d3, -, dz⟩ := h.dev _ hiT
    rw [hdv] at c2
    have ho := h.own
    rw [hdv] at ho
    have o4 := OwnE.store4 ho d.toNat hi2 (1, 0, 0, ⟨.slice none 0 0, rfl⟩)
    have f4 : Frm (blk dv) w10 ((((w10.setCell ⟨gd, d.toNat * 4, none⟩ (.int .u8 1)).setCell ⟨gd, d.toNat * 4 + 1, none⟩ (.int .i64 0)).setCell ⟨gd, d.toNat * 4 + 2, none⟩ (.int .i64 0)).setCell ⟨gd, d.toNat * 4 + 3, none⟩ (.slice none 0 0)) := by
      rw [hdv]
      exact ((((Frm.refl _ w10).setCell _ _ (by simp [blk])).setCell _ _ (by simp [blk])).setCell _ _ (by simp [blk])).setCell _ _ (by simp [blk])
    obtain ⟨h6, fa6⟩ := h.swap d.toNat hiT hi2 (1, 0, 0, ⟨.slice none 0 0, rfl⟩) goneDv (by rw [hdv]; exact o4) f4 rfl rfl rfl ⟨[], [], OwnE.nil _ _ _ _, by simp [blk], rfl, fun i q c hq => by simp at hq⟩ (by simp [blk]) ⟨by decide, by decide, by decide, by decide⟩
    have H6 := Lib.hid h6
    have FA6 := Lib.hid fa6
    have SD := Lib.hid (setD_nat (s := takenS s d) hiT fun _ => goneDv)
    have z0 := dz (d.toNat * 4)
    have z1 := dz (d.toNat * 4 + 1)
    have z2 := dz (d.toNat * 4 + 2)
    have z3 := dz (d.toNat * 4 + 3)
    have hd9T : d < ((takenS s d).devs.length : Int) := hd9
    clear h ho o4 f4 h6 fa6 hdv dz
    go_wp2_with fail
    go_ret
    rw [E2.out]
    exact ⟨rfl, show Arr lo _ g (pullS s d) from by unfold pullS; rw [SD.out]; exact ⟨_, _, _, _, _, _, H6.out⟩, F10.out.trans FA6.out⟩
end
end Go.Proofs.YtdebnikolhhmgaaDoor

