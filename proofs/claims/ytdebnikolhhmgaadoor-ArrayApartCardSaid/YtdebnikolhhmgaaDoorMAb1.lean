/-
  What befalls a device; what an array tells of itself. No conditions but those that each theorem names. New refused; Pull, Fit. No conditions but those that each theorem names. Fit. No conditions but those that each theorem names. What is kept by the other calls; as a law calls them. No conditions but those that each theorem names. A list of acts, a list of bools as they are handed in. No conditions but those that each theorem names. Boxes of two rows of eight bytes; Pick. No conditions but those that each theorem names. lays. No conditions but those that each theorem names. ArrayFirm: the walk. No conditions but those that each theorem names. What acts of the device 0 leave of the device 1. Plain. No conditions but those that each theorem names.
-/
import Derived.Test.YtdebnikolhhmgaaDoorMAa1
import Derived.Test.YtdebnikolhhmgaaDoorMAa2
import Derived.Test.YtdebnikolhhmgaaDoorMAa3
import Derived.Test.YtdebnikolhhmgaaDoorMAa4
import Derived.OrdersHeld
import Derived.Deep.RegionLaw
import Derived.Deep.MidRow
import Derived.WalkKit
import Derived.WalkSpells
import Derived.WalkLawsBesides
import Derived.Deep.AppendSrc
import Derived.Laws.CopyOwn
import Derived.Laws.BytesArg
import Derived.Carry
import Derived.Laws.BytesString
import Derived.Lib.Hide
import Derived.Test.YtdebnikolhhmgaaDoorChecked
import Derived.Stop.Asserts
import Derived.LaidEql
import Derived.RowKitTokens
import Derived.WalkHide
import Derived.StillTailTactics
import Derived.OpenShut
import Derived.BigQuiet
import Derived.Deep.QuietTactic
import Derived.Deep.RegionHeld3
import Derived.Deep.RegionWith
import Derived.LaidEqlPtr
import Derived.Deep.CutBlock
import Derived.Deep.DeepCutAuto
import Derived.Deep.Slices
import Derived.Shelf.Abstract
import Derived.Laws.Tables
import Derived.Deep.RegionHeld
import Derived.OwnWalk
import Derived.Test.YtdebnikolhhmgaaDoorTie
import Derived.Test.YtdebnikolhhmgaaDoorCards
import Derived.ProofKit
import Derived.ShutString
import Derived.ChangeOld
import Derived.LaidMore
import Derived.Stop.Joined
import Derived.SevenTiedAt
import Derived.Stop.LaidTwo
import Derived.ChangeSame
namespace Go.Proofs.YtdebnikolhhmgaaDoor
open Go.RowKit
set_option linter.unusedVariables false
set_option linter.unusedSimpArgs false
set_option maxRecDepth 100000

open Kr (OwnE SlE Enco RowTys)

/-- A device's flags changed, and where its writes stray to. -/
theorem ArrL.strayed {lo : Nat} {w : World} {g : Nat} {s : St} {dv rv : Value} {drs : List Dr} {dsp : List Value} {rcs : List CelT} {rsp : List Value} (h : ArrL lo w g s dv rv drs dsp rcs rsp) (i : Nat) (hi : i < s.devs.length) (f : Nat) (at' : Int) (gd cap : Nat) (hdv : dv = .slice (some ⟨gd, 0, none⟩) s.devs.length cap)
    (hf : f < 256) (h8 : (f &&& 8) ≠ 0 → 0 < s.devs[i].fl) :
    Arr lo ((w.setCell ⟨gd, i * 4, none⟩ (.int .u8 (f : Nat))).setCell ⟨gd, i * 4 + 1, none⟩ (.int .i64 at')) g { s with devs := s.devs.set i { s.devs[i] with f := f, str := at' } } ∧ Fa lo w ((w.setCell ⟨gd, i * 4, none⟩ (.int .u8 (f : Nat))).setCell ⟨gd, i * 4 + 1, none⟩ (.int .i64 at')) := by
  have hi2 : i < drs.length := by rw [h.dlen]; exact hi
  obtain ⟨e1, e2, e3, e4⟩ := h.dat i drs[i] s.devs[i] (List.getElem?_eq_getElem hi2) (List.getElem?_eq_getElem hi)
  have ho := h.own
  rw [hdv] at ho
  have o1 := OwnE.store encD ho i 0 hi2 (by omega) (f, drs[i].2.1, drs[i].2.2.1, drs[i].2.2.2) (.int .u8 (f : Nat)) rfl
  have o2 := OwnE.store encD o1 i 1 (by simpa using hi2) (by omega) (f, at', drs[i].2.2.1, drs[i].2.2.2) (.int .i64 at') (by simp [eD])
  rw [List.set_set] at o2
  obtain ⟨k1, k2⟩ := h.put i hi hi2 (f, at', drs[i].2.2.1, drs[i].2.2.2) { s.devs[i] with f := f, str := at' } (by rw [hdv]; exact o2) (by rw [hdv]; exact ((Frm.refl _ w).setCell _ _ (by simp [blk])).setCell _ _ (by simp [blk])) rfl rfl e3 rfl rfl
    ⟨hf, (h.fb _ (List.getElem_mem hi)).2.1, (h.fb _ (List.getElem_mem hi)).2.2.1, h8⟩
  exact ⟨⟨_, _, _, _, _, _, k1⟩, k2⟩
section
variable {lo : Nat} {w : World} {sn : Nat → Addr} {g : Nat} {s : St}
set_option maxHeartbeats 4000000 in
theorem Stray_any (d a : Int) (hs : Sn w lo sn) (h : Arr lo w g s) (WF : WfS s) :
    Calls Tryd.prog 19 #[ptr g, .int .i64 d, .int .i64 a] w (MP lo g (mRes (dCons (nS s d a, s) (nT s d, s)) fun s => devS s d a) w) := by
  have HS := Lib.hid hs
  have AR := Lib.hid h
  have F := Lib.hid (Frm.refl [] w)
  unfold ptr
  clear h hs
  go_enter Tryd.func19, Tryd.ntmps19
  go_wp2_with (first
    | (go_at_call 39; refine (sectorOf_any _ _ _).mono ?_; rintro e w1 ⟨bs1, bs2, rfl, hs1, hs2, f1⟩; have F := Lib.hid (F.out.trans f1 (by simp)); have LS1 := Lib.hid hs1; have LS2 := Lib.hid hs2;  clear hs1 hs2 f1)
    | (go_at_call 40; refine (there_any _ _).mono ?_; rintro e w2 ⟨bt, rfl, ht1, f1⟩; have F := Lib.hid (F.out.trans f1 (by simp)); have LT := Lib.hid ht1; have LS1 := Lib.hid (f1.heap LS1.out (by simp)); have LS2 := Lib.hid (f1.heap LS2.out (by simp)); clear ht1 f1))
  refine (demand_any (r := (dCons (nS s d a, s) (nT s d, s))) _ [_, _] _ 2 (HS.out.keep0 (F.out.alloc _)) (AR.out.keep0 (F.out.alloc _)) (Fa.refl lo _) (heap_alloc_new _ _) rfl (by simp) (Dem.cons (needS (HS.out.keep0 (F.out.alloc _)) WF ((Frm.refl [] _).alloc _ |>.heap LS1.out (by simp)) ((Frm.refl [] _).alloc _ |>.heap LS2.out (by simp))) fun hq0 => Dem.last (needT (HS.out.keep0 (F.out.alloc _)) ((Frm.refl [] _).alloc _ |>.heap LT.out (by simp)) (nS_ok hq0).1))).mono ?_
  rintro e w9 ⟨h1, h2, h3⟩
  have HS9 := Lib.hid ((HS.out.keep0 (F.out.alloc _)).fa h3)
  have F9 := Lib.hid ((Fa.of0 (F.out.alloc _) lo).trans h3)
  have A9 := Lib.hid h2
  clear h2 h3
  rcases h1 with ⟨hq, rfl⟩ | ⟨k2, tx, hq, hk6, rfl⟩
  rotate_left
  · unfold rfu
    have HQ := Lib.hid hq
    have NU := Lib.hid (number_any HS9.out tx k2 hk6)
    clear hq
    go_wp2_with (go_at_call 42; refine NU.out.mono ?_; rintro e w10 ⟨rfl, f10⟩; have F10 := Lib.hid f10; clear f10)
    go_ret
    have hq := HQ.out
    rw [mRes_some hq]
    exact ⟨rfl, A9.out.keep0 F10.out, F9.out.trans (Fa.of0 F10.out lo)⟩
  · obtain ⟨q0, q1⟩ := dCons_of hq
    obtain ⟨hi, hd0, hd9⟩ := okD_at (nS_ok q0).1
    have e2 : dCons (nS s d a, s) (nT s d, s) = (none, s) := by rw [dCons_none q0]; exact Prod.ext q1 rfl
    rw [e2] at A9
    obtain ⟨dv, rv, drs, dsp, rcs, rsp, h⟩ := A9.out
    obtain ⟨_, _, c2, _⟩ := h.cells
    obtain ⟨gd, cap, sv, hdv, d0, _, _, _, _, dz⟩ := h.dev _ hi
    have hfb := h.fb _ (List.getElem_mem hi)
    rw [hdv] at c2
    have BF := Lib.hid (befall_any gd (d.toNat * 4) s.devs[d.toNat].f 4 hfb.1 (by omega) w9 d0 (dz _))
    have FL := Lib.hid (h.strayed d.toNat hi (s.devs[d.toNat].f ||| 4) a gd cap hdv (or_lt _ _ hfb.1 (by omega)) (fun e => hfb.2.2.2 (or8 _ 4 (by decide) e)))
    have E2 := Lib.hid e2
    have SD := Lib.hid (setD_nat hi fun q => { q with f := q.f ||| 4, str := a })
    have z1 : (w9.setCell ⟨gd, d.toNat * 4, none⟩ (.int .u8 ((s.devs[d.toNat].f ||| 4 : Nat) : Int))).frozen? ⟨gd, d.toNat * 4 + 1, none⟩ = false := by rw [World.frozen?_setCell]; exact dz _
    clear h hq q0 q1 e2 hdv d0 dz hfb
    go_wp2_with (go_at_call 56; refine BF.out.mono ?_; rintro e w11 ⟨rfl, rfl⟩)
    go_ret
    rw [E2.out]
    exact ⟨rfl, show Arr lo _ g (devS s d a) from by unfold devS; rw [SD.out]; exact FL.out.1, F9.out.trans FL.out.2⟩
set_option maxHeartbeats 4000000 in
theorem Fail_any (d n : Int) (hn : -9223372036854775808 ≤ n ∧ n ≤ 9223372036854775807) (hs : Sn w lo sn) (h : Arr lo w g s) :
    Calls Tryd.prog 20 #[ptr g, .int .i64 d, .int .i64 n] w (MP lo g (mRes (dCons (nD s d, s) (dCons (nA (decide (0 ≤ n)), s) (nT s d, s))) fun s => setD s d fun q => failD q n) w) := by
  have HS := Lib.hid hs
  have AR := Lib.hid h
  have F := Lib.hid (Frm.refl [] w)
  unfold ptr
  clear h hs
  go_enter Tryd.func20, Tryd.ntmps20
  go_wp2_with (first
    | (go_at_call 50; refine (deviceOf_any _ _).mono ?_; rintro e w5 ⟨bd, rfl, hd1, f1⟩; have F := Lib.hid (F.out.trans f1 (by simp)); have LD := Lib.hid hd1;  clear hd1 f1)
    | (go_at_call 46; refine (argument_any _ _).mono ?_; rintro e w4 ⟨ba, rfl, ha1, f1⟩; have F := Lib.hid (F.out.trans f1 (by simp)); have LA := Lib.hid ha1; have LD := Lib.hid (f1.heap LD.out (by simp)); clear ha1 f1)
    | (go_at_call 40; refine (there_any _ _).mono ?_; rintro e w2 ⟨bt, rfl, ht1, f1⟩; have F := Lib.hid (F.out.trans f1 (by simp)); have LT := Lib.hid ht1; have LD := Lib.hid (f1.heap LD.out (by simp)); have LA := Lib.hid (f1.heap LA.out (by simp)); clear ht1 f1))
  refine (demand_any (r := (dCons (nD s d, s) (dCons (nA (decide (0 ≤ n)), s) (nT s d, s)))) _ [_, _, _] _ 3 (HS.out.keep0 (F.out.alloc _)) (AR.out.keep0 (F.out.alloc _)) (Fa.refl lo _) (heap_alloc_new _ _) rfl (by simp) (Dem.cons (needD (HS.out.keep0 (F.out.alloc _)) ((Frm.refl [] _).alloc _ |>.heap LD.out (by simp))) fun hq0 => Dem.cons (needA (HS.out.keep0 (F.out.alloc _)) ((Frm.refl [] _).alloc _ |>.heap LA.out (by simp))) fun hq1 => Dem.last (needT (HS.out.keep0 (F.out.alloc _)) ((Frm.refl [] _).alloc _ |>.heap LT.out (by simp)) (nD_ok hq0)))).mono ?_
  rintro e w9 ⟨h1, h2, h3⟩
  have HS9 := Lib.hid ((HS.out.keep0 (F.out.alloc _)).fa h3)
  have F9 := Lib.hid ((Fa.of0 (F.out.alloc _) lo).trans h3)
  have A9 := Lib.hid h2
  clear h2 h3
  rcases h1 with ⟨hq, rfl⟩ | ⟨k2, tx, hq, hk6, rfl⟩
  rotate_left
  · unfold rfu
    have HQ := Lib.hid hq
    have NU := Lib.hid (number_any HS9.out tx k2 hk6)
    clear hq
    go_wp2_with (go_at_call 42; refine NU.out.mono ?_; rintro e w10 ⟨rfl, f10⟩; have F10 := Lib.hid f10; clear f10)
    go_ret
    have hq := HQ.out
    rw [mRes_some hq]
    exact ⟨rfl, A9.out.keep0 F10.out, F9.out.trans (Fa.of0 F10.out lo)⟩
  · obtain ⟨q0, q1⟩ := dCons_of hq
    obtain ⟨q1, q2⟩ := dCons_of q1
    obtain ⟨hi, hd0, hd9⟩ := okD_at (nD_ok q0)
    have hn0 : 0 ≤ n := by
      cases e : decide (0 ≤ n)
      · rw [e] at q1; cases q1
      · exact of_decide_eq_true e
    have e2 : dCons (nD s d, s) (dCons (nA (decide (0 ≤ n)), s) (nT s d, s)) = (none, s) := by rw [dCons_none q0, dCons_none q1]; exact Prod.ext q2 rfl
    rw [e2] at A9
    obtain ⟨dv, rv, drs, dsp, rcs, rsp, h⟩ := A9.out
    obtain ⟨_, _, c2, _⟩ := h.cells
    obtain ⟨gd, cap, sv, hdv, d0, _, d2, _, _, dz⟩ := h.dev _ hi
    have hfb := h.fb _ (List.getElem_mem hi)
    rw [hdv] at c2
    have BF := Lib.hid (fail_any gd (d.toNat * 4) s.devs[d.toNat].f _ n hfb.1 w9 d0 d2 dz)
    have FL := Lib.hid (h.fail d.toNat hi n ⟨hn0, hn.2⟩ gd cap hdv)
    have E2 := Lib.hid e2
    have SD := Lib.hid (setD_nat hi fun q => failD q n)
    clear h hq q0 q1 q2 e2 hdv d0 d2 dz hfb
    go_wp2_with (go_at_call 57; refine BF.out.mono ?_; rintro e w11 ⟨rfl, rfl⟩)
    go_ret
    rw [E2.out]
    exact ⟨rfl, show Arr lo _ g (setD s d fun q => failD q n) from by rw [SD.out]; exact FL.out.1, F9.out.trans FL.out.2⟩
end
end Go.Proofs.YtdebnikolhhmgaaDoor

namespace Go.Proofs.YtdebnikolhhmgaaDoor
open Go.RowKit
set_option linter.unusedVariables false
set_option linter.unusedSimpArgs false
set_option maxRecDepth 100000

open Kr (OwnE SlE Enco RowTys)
theorem OwnE.store4 {w : World} {gd n cap : Nat} {drs : List Dr} {dsp : List Value} (ho : OwnE eD 4 86 w (.slice (some ⟨gd, 0, none⟩) n cap) drs dsp) (i : Nat) (hi : i < drs.length) (q' : Dr) :
    OwnE eD 4 86 ((((w.setCell ⟨gd, i * 4, none⟩ (.int .u8 (q'.1 : Int))).setCell ⟨gd, i * 4 + 1, none⟩ (.int .i64 q'.2.1)).setCell ⟨gd, i * 4 + 2, none⟩ (.int .i64 q'.2.2.1)).setCell ⟨gd, i * 4 + 3, none⟩ q'.2.2.2.1) (.slice (some ⟨gd, 0, none⟩) n cap) (drs.set i q') dsp := by
  have o1 := OwnE.store encD ho i 0 hi (by omega) (q'.1, drs[i].2.1, drs[i].2.2.1, drs[i].2.2.2) (.int .u8 (q'.1 : Int)) rfl
  have o2 := OwnE.store encD o1 i 1 (by simpa using hi) (by omega) (q'.1, q'.2.1, drs[i].2.2.1, drs[i].2.2.2) (.int .i64 q'.2.1) (by simp [eD])
  rw [List.set_set] at o2
  have o3 := OwnE.store encD o2 i 2 (by simpa using hi) (by omega) (q'.1, q'.2.1, q'.2.2.1, drs[i].2.2.2) (.int .i64 q'.2.2.1) (by simp [eD])
  rw [List.set_set] at o3
  have o4 := OwnE.store encD o3 i 3 (by simpa using hi) (by omega) q' q'.2.2.2.1 (by simp [eD])
  rw [List.set_set] at o4
  exact o4
/-- A device in another's place. -/
theorem ArrL.swap {lo : Nat} {w w' : World} {g : Nat} {s : St} {dv rv : Value} {drs : List Dr} {dsp : List Value} {rcs : List CelT} {rsp : List Value} (h : ArrL lo w g s dv rv drs dsp rcs rsp) (i : Nat) (hi : i < s.devs.length) (hi2 : i < drs.length) (q' : Dr) (d' : Dv)
    (own' : OwnE eD 4 86 w' dv (drs.set i q') dsp) (f : Frm (blk dv) w w') (h1 : q'.1 = d'.f) (h2 : q'.2.1 = d'.str) (h3 : q'.2.2.1 = d'.fl) (hS : SecP lo w' q'.2.2.2.1 d'.secs) (hfr : ∀ k ∈ blk q'.2.2.2.1, w.heap.size ≤ k)
    (h6 : d'.f < 256 ∧ 0 ≤ d'.fl ∧ d'.fl ≤ 9223372036854775807 ∧ ((d'.f &&& 8) ≠ 0 → 0 < d'.fl)) : ArrL lo w' g { s with devs := s.devs.set i d' } dv rv (drs.set i q') dsp rcs rsp ∧ Fa lo w w' := by
  have hob := own_blk h.own
  have hfa : Fa lo w w' := Fa.of_frm f fun k hk => by obtain ⟨cs, hc⟩ := hob k hk; exact ⟨h.dlo k hk, cs, 86, _, hc, by decide⟩
  have hno : ∀ {T k : Nat} {n : Nat} {v : Value} {xs sp : List Value}, Own T k w v n xs sp → T ≠ 86 → ∀ j ∈ blk v, j ∉ blk dv := fun ho ht j hj hm => by
    obtain ⟨cs, hc⟩ := hob j hm
    obtain ⟨cs', hc'⟩ := own_blk ho j hj
    rw [hc] at hc'; cases hc'; exact ht rfl
  have hg : g ∉ blk dv := fun hm => by obtain ⟨cs, hc⟩ := hob g hm; rw [h.rcd] at hc; cases hc
  have hold : ∀ (j : Nat) (p : Dr), drs[j]? = some p → ∀ k ∈ blk p.2.2.2.1, k < w.heap.size := fun j p hp k hk => by
    have hj : j < s.devs.length := by rw [← h.dlen]; exact (List.getElem?_eq_some_iff.1 hp).1
    obtain ⟨_, _, _, scs, csp, o1, _⟩ := h.dat j p _ hp (List.getElem?_eq_getElem hj)
    exact o1.lt k hk
  refine ⟨⟨f.heap h.rcd hg, h.glo, own', h.dlo, by simp [h.dlen], fun j q d hq hd => ?_, fun d hd => ?_, fun a b p q hab hp hq => ?_, h.row.keep f (hno h.row (by decide)), h.rlo, h.rlen, fun j c x hc hx => by obtain ⟨gw, e1, e2⟩ := h.rat j c x hc hx; exact ⟨gw, e1, hfa.typ _ _ _ _ e2 (by decide)⟩⟩, hfa⟩
  · simp only at hd
    by_cases e : j = i
    · subst e
      rw [List.getElem?_set_self hi2] at hq
      rw [List.getElem?_set_self hi] at hd
      cases hq; cases hd
      exact ⟨h1, h2, h3, hS⟩
    · rw [List.getElem?_set_ne (fun h => e h.symm)] at hq hd
      obtain ⟨k1, k2, k3, k4⟩ := h.dat j q d hq hd
      refine ⟨k1, k2, k3, ?_⟩
      obtain ⟨scs, csp, o1, o2, o3, o4⟩ := id k4
      exact k4.apart f hfa (hno o1 (by decide))
  · simp only at hd
    rcases List.mem_or_eq_of_mem_set hd with hd | rfl
    · exact h.fb d hd
    · exact h6
  · have key : ∀ (j : Nat) (p : Dr), (drs.set i q')[j]? = some p → (j ≠ i ∧ drs[j]? = some p) ∨ (j = i ∧ p = q') := fun j p hp => by
      by_cases e : j = i
      · subst e
        rw [List.getElem?_set_self hi2] at hp
        cases hp
        exact .inr ⟨rfl, rfl⟩
      · rw [List.getElem?_set_ne (fun h => e h.symm)] at hp
        exact .inl ⟨e, hp⟩
    rcases key a p hp with ⟨a1, a2⟩ | ⟨a1, rfl⟩
    · rcases key b q hq with ⟨b1, b2⟩ | ⟨b1, rfl⟩
      · exact h.dis a b p q hab a2 b2
      · intro k hk hm
        have := hold a p a2 k hk
        have := hfr k hm
        omega
    · rcases key b q hq with ⟨b1, b2⟩ | ⟨b1, rfl⟩
      · intro k hk hm
        have := hold b q b2 k hm
        have := hfr k hk
        omega
      · omega
def goneDv : Dv := ⟨1, 0, 0, []⟩
def pullS (s : St) (d : Int) : St := setD (takenS s d) d fun _ => goneDv
def fitS (s : St) (d : Int) : St := setD (takenS s d) d fun _ => zDv s.n
section
variable {lo : Nat} {w : World} {sn : Nat → Addr} {g : Nat} {s : St}
set_option maxHeartbeats 4000000 in
theorem Pull_any (d : Int) (hs : Sn w lo sn) (h : Arr lo w g s) (hrow : s.row.length ≤ 100000000) :
    Calls Tryd.prog 21 #[ptr g, .int .i64 d] w (MP lo g (mRes (dCons (nD s d, s) (nT s d, s)) fun s => pullS s d) w) := by
  have HS := Lib.hid hs
  have AR := Lib.hid h
  have F := Lib.hid (Frm.refl [] w)
  unfold ptr
  clear h hs
  go_enter Tryd.func21, Tryd.ntmps21
  go_wp2_with (first
    | (go_at_call 50; refine (deviceOf_any _ _).mono ?_; rintro e w5 ⟨bd, rfl, hd1, f1⟩; have F := Lib.hid (F.out.trans f1 (by simp)); have LD := Lib.hid hd1;  clear hd1 f1)
    | (go_at_call 40; refine (there_any _ _).mono ?_; rintro e w2 ⟨bt, rfl, ht1, f1⟩; have F := Lib.hid (F.out.trans f1 (by simp)); have LT := Lib.hid ht1; have LD := Lib.hid (f1.heap LD.out (by simp)); clear ht1 f1))
  refine (demand_any (r := (dCons (nD s d, s) (nT s d, s))) _ [_, _] _ 2 (HS.out.keep0 (F.out.alloc _)) (AR.out.keep0 (F.out.alloc _)) (Fa.refl lo _) (heap_alloc_new _ _) rfl (by simp) (Dem.cons (needD (HS.out.keep0 (F.out.alloc _)) ((Frm.refl [] _).alloc _ |>.heap LD.out (by simp))) fun hq0 => Dem.last (needT (HS.out.keep0 (F.out.alloc _)) ((Frm.refl [] _).alloc _ |>.heap LT.out (by simp)) (nD_ok hq0)))).mono ?_
  rintro e w9 ⟨h1, h2, h3⟩
  have HS9 := Lib.hid ((HS.out.keep0 (F.out.alloc _)).fa h3)
  have F9 := Lib.hid ((Fa.of0 (F.out.alloc _) lo).trans h3)
  have A9 := Lib.hid h2
  clear h2 h3
  rcases h1 with ⟨hq, rfl⟩ | ⟨k2, tx, hq, hk6, rfl⟩
  rotate_left
  · unfold rfu
    have HQ := Lib.hid hq
    have NU := Lib.hid (number_any HS9.out tx k2 hk6)
    clear hq
    go_wp2_with (go_at_call 42; refine NU.out.mono ?_; rintro e w10 ⟨rfl, f10⟩; have F10 := Lib.hid f10; clear f10)
    go_ret
    have hq := HQ.out
    rw [mRes_some hq]
    exact ⟨rfl, A9.out.keep0 F10.out, F9.out.trans (Fa.of0 F10.out lo)⟩
  · obtain ⟨q0, q1⟩ := dCons_of hq
    obtain ⟨hi, hd0, hd9⟩ := okD_at (nD_ok q0)
    have e2 : dCons (nD s d, s) (nT s d, s) = (none, s) := by rw [dCons_none q0]; exact Prod.ext q1 rfl
    rw [e2] at A9
    have A9 := Lib.hid (show Arr lo w9 g s from A9.out)
    have E2 := Lib.hid e2
    have TK := Lib.hid (takeLoose_any d A9.out hrow)
    clear hq q0 q1 e2 hrow
    go_upto_region 5 with (go_at_call 51; refine TK.out.mono ?_; rintro e w10 ⟨vt, rfl, r1, n1, a1, f1⟩; have A10 := Lib.hid a1; have F10 := Lib.hid (F9.out.trans f1); clear r1 n1 a1 f1 TK)
    obtain ⟨dv, rv, drs, dsp, rcs, rsp, h⟩ := A10.out
    have hiT : d.toNat < (takenS s d).devs.length := hi
    have hi2 : d.toNat < drs.length := by rw [h.dlen]; exact hiT
    obtain ⟨-, -, c2, -⟩ := h.cells
    obtain ⟨gd, cap, sv, hdv, d0, d1, d2, d3, -, dz⟩ := h.dev _ hiT
    rw [hdv] at c2
    have ho := h.own
    rw [hdv] at ho
    have o4 := OwnE.store4 ho d.toNat hi2 (1, 0, 0, ⟨.slice none 0 0, rfl⟩)
    have f4 : Frm (blk dv) w10 ((((w10.setCell ⟨gd, d.toNat * 4, none⟩ (.int .u8 1)).setCell ⟨gd, d.toNat * 4 + 1, none⟩ (.int .i64 0)).setCell ⟨gd, d.toNat * 4 + 2, none⟩ (.int .i64 0)).setCell ⟨gd, d.toNat * 4 + 3, none⟩ (.slice none 0 0)) := by
      rw [hdv]
      exact ((((Frm.refl _ w10).setCell _ _ (by simp [blk])).setCell _ _ (by simp [blk])).setCell _ _ (by simp [blk])).setCell _ _ (by simp [blk])
    obtain ⟨h6, fa6⟩ := h.swap d.toNat hiT hi2 (1, 0, 0, ⟨.slice none 0 0, rfl⟩) goneDv (by rw [hdv]; exact o4) f4 rfl rfl rfl ⟨[], [], OwnE.nil _ _ _ _, by simp [blk], rfl, fun i q c hq => by simp at hq⟩ (by simp [blk]) ⟨by decide, by decide, by decide, by decide⟩
    have H6 := Lib.hid h6
    have FA6 := Lib.hid fa6
    have SD := Lib.hid (setD_nat (s := takenS s d) hiT fun _ => goneDv)
    have z0 := dz (d.toNat * 4)
    have z1 := dz (d.toNat * 4 + 1)
    have z2 := dz (d.toNat * 4 + 2)
    have z3 := dz (d.toNat * 4 + 3)
    have hd9T : d < ((takenS s d).devs.length : Int) := hd9
    clear h ho o4 f4 h6 fa6 hdv dz
    go_wp2_with fail
    go_ret
    rw [E2.out]
    exact ⟨rfl, show Arr lo _ g (pullS s d) from by unfold pullS; rw [SD.out]; exact ⟨_, _, _, _, _, _, H6.out⟩, F10.out.trans FA6.out⟩
end
end Go.Proofs.YtdebnikolhhmgaaDoor

namespace Go.Proofs.YtdebnikolhhmgaaDoor
open Go.RowKit
set_option linter.unusedVariables false
set_option linter.unusedSimpArgs false
set_option maxRecDepth 100000

open Kr (OwnE SlE Enco RowTys)
section
variable {lo : Nat} {w : World} {sn : Nat → Addr} {g : Nat} {s : St}
set_option maxHeartbeats 8000000 in
theorem Fit_any (d : Int) (hs : Sn w lo sn) (h : Arr lo w g s) (hrow : s.row.length ≤ 100000000) (hn : s.n ≤ 1000000) :
    Calls Tryd.prog 22 #[ptr g, .int .i64 d] w (MP lo g (mRes (nD s d, s) fun s => fitS s d) w) := by
  have HS := Lib.hid hs
  have AR := Lib.hid h
  have F := Lib.hid (Frm.refl [] w)
  unfold ptr
  clear h hs
  go_enter Tryd.func22, Tryd.ntmps22
  go_wp2_with (first
    | (go_at_call 50; refine (deviceOf_any _ _).mono ?_; rintro e w5 ⟨bd, rfl, hd1, f1⟩; have F := Lib.hid (F.out.trans f1 (by simp)); have LD := Lib.hid hd1;  clear hd1 f1))
  refine (demand_any (r := (nD s d, s)) _ [_] _ 1 (HS.out.keep0 (F.out.alloc _)) (AR.out.keep0 (F.out.alloc _)) (Fa.refl lo _) (heap_alloc_new _ _) rfl (by simp) (Dem.last (needD (HS.out.keep0 (F.out.alloc _)) ((Frm.refl [] _).alloc _ |>.heap LD.out (by simp))))).mono ?_
  rintro e w9 ⟨h1, h2, h3⟩
  have HS9 := Lib.hid ((HS.out.keep0 (F.out.alloc _)).fa h3)
  have F9 := Lib.hid ((Fa.of0 (F.out.alloc _) lo).trans h3)
  have A9 := Lib.hid h2
  clear h2 h3
  rcases h1 with ⟨hq, rfl⟩ | ⟨k2, tx, hq, hk6, rfl⟩
  rotate_left
  · unfold rfu
    have HQ := Lib.hid hq
    have NU := Lib.hid (number_any HS9.out tx k2 hk6)
    clear hq
    go_wp2_with (go_at_call 42; refine NU.out.mono ?_; rintro e w10 ⟨rfl, f10⟩; have F10 := Lib.hid f10; clear f10)
    go_ret
    have hq := HQ.out
    rw [mRes_some hq]
    exact ⟨rfl, A9.out.keep0 F10.out, F9.out.trans (Fa.of0 F10.out lo)⟩
  · obtain ⟨hi, hd0, hd9⟩ := okD_at (nD_ok hq)
    have e2 : (nD s d, s) = ((none, s) : Option Nat × St) := Prod.ext hq rfl
    rw [e2] at A9
    have A9 := Lib.hid (show Arr lo w9 g s from A9.out)
    have E2 := Lib.hid e2
    have TK := Lib.hid (takeLoose_any d A9.out hrow)
    clear hq e2 hrow
    go_upto_region 5 with (go_at_call 51; refine TK.out.mono ?_; rintro e w10 ⟨vt, rfl, r1, n1, a1, f1⟩; have A10 := Lib.hid a1; have F10 := Lib.hid (F9.out.trans f1); clear r1 n1 a1 f1 TK)
    obtain ⟨dv, rv, drs, dsp, rcs, rsp, h⟩ := A10.out
    have hiT : d.toNat < (takenS s d).devs.length := hi
    have hi2 : d.toNat < drs.length := by rw [h.dlen]; exact hiT
    obtain ⟨-, c1, c2, -⟩ := h.cells
    obtain ⟨gd, cap, sv, hdv, d0, d1, d2, d3, -, dz⟩ := h.dev _ hiT
    rw [hdv] at c2
    have c1 : w10.cell? ⟨g, 1, none⟩ = some (.int .i64 s.n) := c1
    have H := Lib.hid h
    have HDV := Lib.hid hdv
    have SD := Lib.hid (setD_nat (s := takenS s d) hiT fun _ => zDv s.n)
    have hd9T : d < ((takenS s d).devs.length : Int) := hd9
    have hn9 := hn
    have hlT : (takenS s d).devs.length ≤ 9223372036854775807 := A10.out.len
    have CC := Lib.hid (And.intro d0 (And.intro d1 (And.intro d2 (And.intro d3 dz))))
    clear h hdv d0 d1 d2 d3 dz
    refine wp_region_late 11 (S := fun z => z.cell? ⟨g, 2, none⟩ = some (.slice (some ⟨gd, 0, none⟩) (takenS s d).devs.length cap) ∧ z.cell? ⟨g, 1, none⟩ = some (.int .i64 s.n)) (by kernel_rfl) (⟨c2, c1⟩) (fun hHeld => ?_)
    refine wpAnyL_takeP (i := 0) (oi := ⟨some 18, .move (.tmp 0), _, _, _, none⟩) (v := ?_) rfl (by kernel_rfl) (by kernel_rfl) (by kernel_rfl) (fun _ _ _ h => h) (Or.inl ⟨by rfl, ?_⟩) hHeld ?_
    rotate_left
    focus (intro z hSw; clear hSw; go_simp; try with_reducible rfl)
    try simp only [Act.put, List.setIfInBounds_toArray, List.set_cons_zero, List.set_cons_succ]
    refine wpAnyL_takeP (i := 1) (oi := ⟨some 19, .nilCheck (.tmp 18), _, _, _, none⟩) (v := ?_) rfl (by kernel_rfl) (by kernel_rfl) (by kernel_rfl) (fun _ _ _ h => h) (Or.inl ⟨by rfl, ?_⟩) hHeld ?_
    rotate_left
    focus (intro z hSw; clear hSw; go_simp; try with_reducible rfl)
    try simp only [Act.put, List.setIfInBounds_toArray, List.set_cons_zero, List.set_cons_succ]
    refine wpAnyL_takeP (i := 2) (oi := ⟨some 20, .fieldAddr 35 (.tmp 19) 2, _, _, _, none⟩) (v := ?_) rfl (by kernel_rfl) (by kernel_rfl) (by kernel_rfl) (fun _ _ _ h => h) (Or.inl ⟨by rfl, ?_⟩) hHeld ?_
    rotate_left
    focus (intro z hSw; clear hSw; go_simp; try with_reducible rfl)
    try simp only [Act.put, List.setIfInBounds_toArray, List.set_cons_zero, List.set_cons_succ]
    refine wpAnyL_take (i := 3) (oi := ⟨some 21, .load 30 (.tmp 20), _, _, _, none⟩) (v := ?_) rfl (by kernel_rfl) (by kernel_rfl) (by kernel_rfl) (fun _ _ _ h => h) (Or.inl ⟨by rfl, ?_⟩) hHeld ?_
    rotate_left
    focus (intro z hSw; obtain ⟨q1, q2⟩ := hSw; go_simp; try with_reducible rfl)
    try simp only [Act.put, List.setIfInBounds_toArray, List.set_cons_zero, List.set_cons_succ]
    refine wpAnyL_takeP (i := 4) (oi := ⟨some 22, .move (.tmp 1), _, _, _, none⟩) (v := ?_) rfl (by kernel_rfl) (by kernel_rfl) (by kernel_rfl) (fun _ _ _ h => h) (Or.inl ⟨by rfl, ?_⟩) hHeld ?_
    rotate_left
    focus (intro z hSw; clear hSw; go_simp; try with_reducible rfl)
    try simp only [Act.put, List.setIfInBounds_toArray, List.set_cons_zero, List.set_cons_succ]
    refine wpAnyL_takeP (i := 5) (oi := ⟨some 23, .move (.tmp 0), _, _, _, none⟩) (v := ?_) rfl (by kernel_rfl) (by kernel_rfl) (by kernel_rfl) (fun _ _ _ h => h) (Or.inl ⟨by rfl, ?_⟩) hHeld ?_
    rotate_left
    focus (intro z hSw; clear hSw; go_simp; try with_reducible rfl)
    try simp only [Act.put, List.setIfInBounds_toArray, List.set_cons_zero, List.set_cons_succ]
    refine wpAnyL_takeP (i := 6) (oi := ⟨some 24, .nilCheck (.tmp 23), _, _, _, none⟩) (v := ?_) rfl (by kernel_rfl) (by kernel_rfl) (by kernel_rfl) (fun _ _ _ h => h) (Or.inl ⟨by rfl, ?_⟩) hHeld ?_
    rotate_left
    focus (intro z hSw; clear hSw; go_simp; try with_reducible rfl)
    try simp only [Act.put, List.setIfInBounds_toArray, List.set_cons_zero, List.set_cons_succ]
    refine wpAnyL_takeP (i := 7) (oi := ⟨some 25, .fieldAddr 35 (.tmp 24) 1, _, _, _, none⟩) (v := ?_) rfl (by kernel_rfl) (by kernel_rfl) (by kernel_rfl) (fun _ _ _ h => h) (Or.inl ⟨by rfl, ?_⟩) hHeld ?_
    rotate_left
    focus (intro z hSw; clear hSw; go_simp; try with_reducible rfl)
    try simp only [Act.put, List.setIfInBounds_toArray, List.set_cons_zero, List.set_cons_succ]
    refine wpAnyL_take (i := 8) (oi := ⟨some 26, .load 3 (.tmp 25), _, _, _, none⟩) (v := ?_) rfl (by kernel_rfl) (by kernel_rfl) (by kernel_rfl) (fun _ _ _ h => h) (Or.inl ⟨by rfl, ?_⟩) hHeld ?_
    rotate_left
    focus (intro z hSw; obtain ⟨q1, q2⟩ := hSw; go_simp; try with_reducible rfl)
    try simp only [Act.put, List.setIfInBounds_toArray, List.set_cons_zero, List.set_cons_succ]
    refine wpAnyL_one (i := 9) (o := ⟨some 27, .call { callee := .value (.func 58), args := #[.tmp 26], argTypes := #[3] }, _, _, _, none⟩) (by kernel_rfl) rfl (fun K hK => ?_)
    go_simp
    refine (blank_any s.n hn9 _).mono ?_
    rintro e w2 ⟨gs, rfl, hos, hgs, fb⟩
    unfold bv0
    refine hK.out _ _ ?_ (fun hNext => ?_)
    · exact ⟨fb.cell hHeld.1 (by simp), fb.cell hHeld.2 (by simp)⟩
    clear hK K hHeld
    have hHeld := hNext
    clear hNext
    try simp only [Act.put, List.setIfInBounds_toArray, List.set_cons_zero, List.set_cons_succ]
    refine wpAnyL_takeP (i := 10) (oi := ⟨some 28, .indexAddr 30 (.tmp 21) (.tmp 22), _, _, _, none⟩) (v := ?_) rfl (by kernel_rfl) (by kernel_rfl) (by kernel_rfl) (fun _ _ _ h => h) (Or.inl ⟨by rfl, ?_⟩) hHeld ?_
    rotate_left
    focus (intro z hSw; clear hSw; go_simp; try with_reducible rfl)
    try simp only [Act.put, List.setIfInBounds_toArray, List.set_cons_zero, List.set_cons_succ]
    refine wpAnyL_last (o := ⟨none, .store 86 (.tmp 28) (.tmp 27), _, _, _, none⟩) (by kernel_rfl) rfl (by simp) (fun K hK => ?_)
    have fD0 := ((Frm.refl [] w10).drew).trans fb (by simp)
    have x0 := fD0.cell CC.out.1 (by simp)
    have x1 := fD0.cell CC.out.2.1 (by simp)
    have x2 := fD0.cell CC.out.2.2.1 (by simp)
    have x3 := fD0.cell CC.out.2.2.2.1 (by simp)
    have hFZ := H.out.own.keep fD0 (by simp)
    rw [HDV.out] at hFZ
    have hz := frozen_of_heap hFZ.heap
    have z0 := hz (d.toNat * 4)
    have z1 := hz (d.toNat * 4 + 1)
    have z2 := hz (d.toNat * 4 + 2)
    have z3 := hz (d.toNat * 4 + 3)
    clear hz hFZ fD0
    go_simp
    refine hK.out _ _ ?_
    clear hK K hHeld
    try simp only [Act.put, List.setIfInBounds_toArray, List.set_cons_zero, List.set_cons_succ]
    refine wpAny_done (by kernel_rfl) ?_ _
    have HB := Lib.hid fb
    have HO := Lib.hid hos
    have HG := Lib.hid hgs
    clear hos hgs fb c1 c2 x0 x1 x2 x3 z0 z1 z2 z3
    go_wp2_with fail
    go_ret
    have h := H.out
    have fD : Frm [] w10 w2 := ((Frm.refl [] w10).drew).trans HB.out (by simp)
    have hgs : w10.heap.size ≤ gs := HG.out
    have ho := h.own.keep fD (by simp)
    rw [HDV.out] at ho
    have o4 := OwnE.store4 ho d.toNat hi2 (bDr gs s.n)
    have fs : Frm (blk dv) w2 ((((w2.setCell ⟨gd, d.toNat * 4, none⟩ (.int .u8 0)).setCell ⟨gd, d.toNat * 4 + 1, none⟩ (.int .i64 0)).setCell ⟨gd, d.toNat * 4 + 2, none⟩ (.int .i64 0)).setCell ⟨gd, d.toNat * 4 + 3, none⟩ (.slice (some ⟨gs, 0, none⟩) s.n s.n)) := by
      rw [HDV.out]
      exact ((((Frm.refl _ w2).setCell _ _ (by simp [blk])).setCell _ _ (by simp [blk])).setCell _ _ (by simp [blk])).setCell _ _ (by simp [blk])
    have hlt : ∀ k ∈ blk dv, k < w10.heap.size := h.own.lt
    have hsec : SecP lo ((((w2.setCell ⟨gd, d.toNat * 4, none⟩ (.int .u8 0)).setCell ⟨gd, d.toNat * 4 + 1, none⟩ (.int .i64 0)).setCell ⟨gd, d.toNat * 4 + 2, none⟩ (.int .i64 0)).setCell ⟨gd, d.toNat * 4 + 3, none⟩ (.slice (some ⟨gs, 0, none⟩) s.n s.n)) (.slice (some ⟨gs, 0, none⟩) s.n s.n) (List.replicate s.n zSc) :=
      SecP.blank (HO.out.keep fs (fun j hj hm => by simp [blk] at hj; subst hj; have := hlt _ hm; omega)) (by have := h.lo_le; omega)
    obtain ⟨h6, fa6⟩ := h.swap d.toNat hiT hi2 (bDr gs s.n) (zDv s.n) (by rw [HDV.out]; exact o4) ((fD.mono (by simp)).trans fs (fun i hi => .inl hi)) rfl rfl rfl hsec (by simp [bDr, blk]; exact hgs) ⟨by simp [zDv], by simp [zDv], by simp [zDv], fun h => absurd (by simp [zDv]) h⟩
    rw [E2.out]
    exact ⟨rfl, show Arr lo _ g (fitS s d) from by unfold fitS; rw [SD.out]; exact ⟨_, _, _, _, _, _, h6⟩, F10.out.trans fa6⟩
end
end Go.Proofs.YtdebnikolhhmgaaDoor

namespace Go.Proofs.YtdebnikolhhmgaaDoor
open Go.RowKit
set_option linter.unusedVariables false
set_option linter.unusedSimpArgs false
set_option maxRecDepth 100000

open Kr (OwnE SlE Enco RowTys)
theorem Wf.swap {K : Nat} {s : St} (h : Wf K s) (d : Int) (hd : 0 ≤ d) (q' : Dv) (h1 : (q'.f &&& 1) = 0 → q'.secs.length = s.n) (h4 : (q'.f &&& 4) = 0) : Wf K (YtdebnikolhhmgaaDoor.setD (takenS s d) d fun _ => q') := by
  have ht : Wf K (takenS s d) := h.rows _ (Nat.le_refl _) (Nat.le_trans (List.length_filter_le _ _) h.rw) fun x hx => h.fr x (List.mem_filter.1 hx).1
  unfold YtdebnikolhhmgaaDoor.setD
  cases e : (takenS s d).devs[d.toNat]? with
  | none => exact ht
  | some q =>
    refine ⟨ht.l0, ht.l1, ht.s0, ht.s1, ht.n1, ht.rw, fun p hp hf => ?_, fun p hp hf => ?_, fun x hx => ?_⟩
    · rcases List.mem_or_eq_of_mem_set hp with hp | rfl
      · exact ht.fd p hp hf
      · exact h1 hf
    · rcases List.mem_or_eq_of_mem_set hp with hp | rfl
      · exact ht.fx p hp hf
      · exact absurd h4 hf
    · obtain ⟨x1, x2, m, x3, x4⟩ := ht.fr x hx
      have hne : x.dev ≠ d := by
        have := (List.mem_filter.1 hx).2
        simpa using this
      refine ⟨x1, x2, m, ?_, x4⟩
      unfold szs at x3 ⊢
      simp only
      rw [List.map_set, List.getElem?_set_ne (by omega)]
      exact x3
def puR (s : St) (d : Int) : Int × St := mRes (dCons (nD s d, s) (nT s d, s)) fun s => pullS s d
def fiR (s : St) (d : Int) : Int × St := mRes (nD s d, s) fun s => fitS s d
def faR (s : St) (d n : Int) : Int × St := mRes (dCons (nD s d, s) (dCons (nA (decide (0 ≤ n)), s) (nT s d, s))) fun s => setD s d fun q => failD q n
theorem Wf.puR {K : Nat} {s : St} (h : Wf K s) (d : Int) : Wf K (puR s d).2 :=
  mRes_ind (dCons_ind h h) fun e => by
    obtain ⟨q0, _⟩ := dCons_of e
    rw [show (dCons (nD s d, s) (nT s d, s)).2 = s from dCons_ind (P := fun x => x = s) rfl rfl]
    exact h.swap d (okD_at (nD_ok q0)).2.1 goneDv (fun e => absurd e (by decide)) rfl
theorem Wf.fiR {K : Nat} {s : St} (h : Wf K s) (d : Int) : Wf K (fiR s d).2 :=
  mRes_ind h fun e => h.swap d (okD_at (nD_ok e)).2.1 (zDv s.n) (fun _ => by simp [zDv]) (by simp [zDv])
theorem failF_1 (f : Nat) (n : Int) (h : (failF f n &&& 1) = 0) : (f &&& 1) = 0 := by
  unfold failF at h
  split at h
  · rw [Nat.and_or_distrib_right, show (8 &&& 1 : Nat) = 0 from by decide, Nat.or_zero] at h; exact h
  · rw [Nat.and_assoc, show (255 - 8 &&& 1 : Nat) = 1 from by decide] at h; exact h
theorem failF_4 (f : Nat) (n : Int) (h : (failF f n &&& 4) ≠ 0) : (f &&& 4) ≠ 0 := by
  unfold failF at h
  split at h
  · rw [Nat.and_or_distrib_right, show (8 &&& 4 : Nat) = 0 from by decide, Nat.or_zero] at h; exact h
  · rw [Nat.and_assoc, show (255 - 8 &&& 4 : Nat) = 4 from by decide] at h; exact h
theorem Wf.faR {K : Nat} {s : St} (h : Wf K s) (d n : Int) : Wf K (faR s d n).2 :=
  mRes_ind (dCons_ind h (dCons_ind h h)) fun e => by
    rw [show (dCons (nD s d, s) (dCons (nA (decide (0 ≤ n)), s) (nT s d, s))).2 = s from dCons_ind (P := fun x => x = s) rfl (dCons_ind (P := fun x => x = s) rfl rfl)]
    exact h.setD d _ (fun q hq => rfl) (fun q hq e => failF_1 _ _ e) (fun q hq e => h.fx q hq (failF_4 _ _ e))
section
variable {lo : Nat} {w : World} {sn : Nat → Addr} {g K : Nat} {s : St}
theorem pu_at (hs : Sn w lo sn) (h : Arr lo w g s) (wf : Wf K s) (hK : K ≤ 100000000) (d : Int) :
    Calls Tryd.prog 21 #[.pointer (some ⟨g, 0, none⟩), .int .i64 d] w fun e w' => e = .returned (.int .i64 (puR s d).1) ∧ Arr lo w' g (puR s d).2 ∧ Fa lo w w' := Pull_any d hs h (wf.row hK)
theorem fi_at (hs : Sn w lo sn) (h : Arr lo w g s) (wf : Wf K s) (hK : K ≤ 100000000) (d : Int) :
    Calls Tryd.prog 22 #[.pointer (some ⟨g, 0, none⟩), .int .i64 d] w fun e w' => e = .returned (.int .i64 (fiR s d).1) ∧ Arr lo w' g (fiR s d).2 ∧ Fa lo w w' := Fit_any d hs h (wf.row hK) wf.n1
theorem st_at (hs : Sn w lo sn) (h : Arr lo w g s) (wf : Wf K s) (hK : K ≤ 100000000) (d a : Int) :
    Calls Tryd.prog 19 #[.pointer (some ⟨g, 0, none⟩), .int .i64 d, .int .i64 a] w fun e w' => e = .returned (.int .i64 (stR s d a).1) ∧ Arr lo w' g (stR s d a).2 ∧ Fa lo w w' := Stray_any d a hs h (wf.wfs hK)
theorem fa_at (hs : Sn w lo sn) (h : Arr lo w g s) (d n : Int) (hn : -9223372036854775808 ≤ n ∧ n ≤ 9223372036854775807) :
    Calls Tryd.prog 20 #[.pointer (some ⟨g, 0, none⟩), .int .i64 d, .int .i64 n] w fun e w' => e = .returned (.int .i64 (faR s d n).1) ∧ Arr lo w' g (faR s d n).2 ∧ Fa lo w w' := Fail_any d n hn hs h
end
end Go.Proofs.YtdebnikolhhmgaaDoor

namespace Go.Proofs.YtdebnikolhhmgaaDoor
open Go.ChangeShapes Go.WideShapes Go.ChangeAt Go.RowKit Go.Deep
set_option linter.unusedVariables false
set_option linter.unusedSimpArgs false
set_option maxRecDepth 100000
open Kr (OwnE SlE Enco RowTys)
open Kr (flt_length flt_append flt_get)
theorem bool_of_trod {H : Type} {enc : TypeId × Value → H} {W : World} (fuel : Nat) (cs : List Value) (x : DataW H × List MemPlace) (h : DataW.trod enc Tryd.prog W 0 (fun _ => true) true fuel 4 cs = some x) : ∃ y : Bool, cs = eB y ∧ True := by
  obtain ⟨z, e, _⟩ := DataW.trod_bool Tryd.underlying4 h
  exact ⟨z, e, trivial⟩
end Go.Proofs.YtdebnikolhhmgaaDoor

namespace Go.Proofs.YtdebnikolhhmgaaDoor
open Go.RowKit
set_option linter.unusedVariables false
set_option linter.unusedSimpArgs false
set_option maxRecDepth 100000

open Kr (OwnE SlE Enco RowTys)
section
variable {w w' : World} {b : Nat} {f : Nat → Nat → UInt8} {lo : Nat} {L : List Nat}
theorem Bx.rangeAll (h : Bx w b f) : w.rangeAt b 0 (cel f) := fun j v hv => by
  rw [Nat.zero_add, cell_of_heap h, List.getElem?_toArray]
  exact hv
theorem Bx.thereAll (h : Bx w b f) : w.there b 0 16 := fun j hj => ⟨by
  rw [Nat.zero_add, cell_of_heap h, List.getElem?_toArray, List.getElem?_eq_getElem (show j < (cel f).length from hj)]
  rfl, h.frozen _⟩
theorem cel_all (f g : Nat → Nat → UInt8) : setL (cel f).toArray 0 (cel g) = (cel g).toArray := by kernel_rfl
theorem Bx.setAll (h : Bx w b f) (g : Nat → Nat → UInt8) : Bx (w.setCells b 0 (cel g)) b g := by
  have := heap_setCells (cel g) 0 w _ h
  rw [cel_all] at this
  exact this
end
theorem i57 : (Tryd.prog.info? 57).map (·.size) = some 16 := by kernel_rfl
theorem one_cel (f : Nat → Nat → UInt8) : (cel f).toArray.all (·.oneCell') = true := by kernel_rfl
theorem step_store57 {ops : Array Oper} {o : Oper} {a : Act} {w : World} {K : Act → World → Prop} {Q : Exit → Act → World → Prop} {E : Prop} (hg : o.guard = none)
    (p x : Operand) (h3 : o.op = .store 57 p x) {f f0 : Nat → Nat → UInt8} {b : Nat} (h0 : Bx w b f0) (e1 : a.eval p = .pointer (some ⟨b, 0, none⟩)) (e2 : a.eval x = .agg (cel f).toArray)
    (k : ∀ w', Bx w' b f → Frm [b] w w' → K (a.put o.dst undef) w') : if Region.wanted o (yielded ops a.tmps) = true then Oper.wp Tryd.prog o a w K Q else E := by
  rw [if_pos (by simp [Region.wanted, hg])]
  refine wp_store_mid 57 p x h3 b 0 (cel f).toArray e1 e2 h0.thereAll i57 (one_cel f) ?_
  exact k _ (h0.setAll f) (frm_setCells _ _ _ _ _ (Frm.refl _ _) (by simp))
theorem results_cells2t {P : Program} {fn : Func} {p q u : Tmp} {t1 t2 : TypeId} (h : fn.results = #[.cell p t1, .cell q t2, .tmp u]) (tmps : Array Value) (w : World) (g1 g2 : Nat) (T1 T2 : TypeId) (cs1 cs2 : Array Value) (fr1 fr2 : Nat × Nat) (d1 d2 : TypeDesc)
    (hp : tmps.getD p undef = .pointer (some ⟨g1, 0, none⟩)) (hq : tmps.getD q undef = .pointer (some ⟨g2, 0, none⟩)) {v : Value} (hv : tmps.getD u undef = v) (hg1 : w.heap[g1]? = some (.cells cs1 T1 fr1)) (hg2 : w.heap[g2]? = some (.cells cs2 T2 fr2))
    (hu1 : P.underlying t1 = some d1) (hd1 : (match d1 with | .struct _ | .array _ _ => true | _ => false) = true) (hi1 : (P.info? t1).map (·.size) = some cs1.size)
    (hu2 : P.underlying t2 = some d2) (hd2 : (match d2 with | .struct _ | .array _ _ => true | _ => false) = true) (hi2 : (P.info? t2).map (·.size) = some cs2.size) :
    (results fn tmps).run P w = .ok (.tuple #[.agg cs1, .agg cs2, v]) w := by
  have hp' : tmps[p]?.getD undef = .pointer (some ⟨g1, 0, none⟩) := by simpa using hp
  have hq' : tmps[q]?.getD undef = .pointer (some ⟨g2, 0, none⟩) := by simpa using hq
  have hv' : tmps[u]?.getD undef = v := by simpa using hv
  simp [results, h, hp', hq', hv', asAddr, run_loadVar_row w g1 T1 t1 cs1 fr1 d1 hg1 hu1 hd1 hi1, run_loadVar_row w g2 T2 t2 cs2 fr2 d2 hg2 hu2 hd2 hi2]
theorem yieldsIf_ld {P : Program} {ops : Array Oper} {S : World → Prop} {op : Oper} {a : Act} (hw : Region.wanted op (yielded ops a.tmps) = true) (ty : TypeId) (x : Operand) (ho : op.op = .load ty x)
    (p : Addr) (hx : a.eval x = .pointer (some p)) {v : Value} (hl : ∀ w, S w → (Instr.loadAt ty (.pointer (some p))).run P w = .ok v w) : YieldsIf P ops S op v a :=
  .inl ⟨hw, fun w hS => by simp [execOp, ho, hx, hl w hS, Result.andThen]⟩
end Go.Proofs.YtdebnikolhhmgaaDoor

namespace Go.Proofs.YtdebnikolhhmgaaDoor
open Go.RowKit
set_option linter.unusedVariables false
set_option linter.unusedSimpArgs false
set_option maxRecDepth 100000

open Kr (OwnE SlE Enco RowTys)
/-- A byte that was laid there. -/
def AL (l : List LayT) (d a : Nat) (b : UInt8) : Prop := ∃ (j : Nat) (h : j < l.length), pkN l[j].1 2 = d ∧ pkN l[j].2.1 8 = a ∧ l[j].2.2.1 = (b.toNat : Int)
def LyRel (lo g b4 b5 b7 b8 : Nat) (l : List LayT) (w0 : World) (cv : Value) (wr : World) : Prop :=
  ∃ (k : Nat) (s : St) (firm last : Nat → Nat → UInt8), k ≤ l.length ∧ cv = .int .i64 k ∧ Lz s firm last (AL l) ∧ Wf (2 * k) s ∧ Arr lo wr g s ∧ Bx wr b7 firm ∧ Bx wr b8 last ∧ Bx wr b4 zf ∧ Bx wr b5 zf ∧ Fa lo w0 wr
section
variable {lo : Nat} {w : World} {sn : Nat → Addr} {g : Nat}
set_option maxHeartbeats 16000000 in
theorem lays_any (l : List LayT) (v : Value) (sp : List Value) (hs : Sn w lo sn) (hlo : lo ≤ w.heap.size) (h : Arr lo w g (newS 8 2)) (hS : ∀ w', Fa lo w w' → SlE eL 4 w' v l sp) (hl : l.length ≤ 60) (hw : ∀ x ∈ l, WfLay x) :
    Calls Tryd.prog 32 #[.pointer (some ⟨g, 0, none⟩), v] w fun e w' => ∃ s firm last, e = .returned (.tuple #[.agg (cel firm).toArray, .agg (cel last).toArray, .bool true]) ∧ Lz s firm last (AL l) ∧ Wf 200 s ∧ Arr lo w' g s ∧ Fa lo w w' := by
  obtain ⟨ad, vcap, rfl, _, _⟩ := (hS w (Fa.refl lo w)).form
  have HSL := Lib.hid hS
  have S := Lib.hid hs
  have A := Lib.hid h
  have HW := Lib.hid hw
  clear hS hs h hw
  go_enter Tryd.func32, Tryd.ntmps32
  go_upto_region 3 with (fail)
  have z0 : (#[Value.int IntKind.u8 0, Value.int IntKind.u8 0, Value.int IntKind.u8 0, Value.int IntKind.u8 0, Value.int IntKind.u8 0, Value.int IntKind.u8 0, Value.int IntKind.u8 0, Value.int IntKind.u8 0, Value.int IntKind.u8 0, Value.int IntKind.u8 0, Value.int IntKind.u8 0, Value.int IntKind.u8 0, Value.int IntKind.u8 0, Value.int IntKind.u8 0, Value.int IntKind.u8 0, Value.int IntKind.u8 0] : Array Value) = (cel zf).toArray := by kernel_rfl
  rw [z0]
  obtain ⟨W, hW⟩ : ∃ W, (((w.alloc (.cells (cel zf).toArray 57)).alloc (.cells (cel zf).toArray 57)).alloc (.cells (cel zf).toArray 57)).alloc (.cells (cel zf).toArray 57) = W := ⟨_, rfl⟩
  have es : ∀ (w : World) (o : Obj), (w.alloc o).heap.size = w.heap.size + 1 := fun w o => Array.size_push _
  have hn : ∀ (w : World) (o : Obj) (n : Nat), w.heap.size = n → (w.alloc o).heap[n]? = some o := fun w o n e => by subst e; exact heap_alloc_new _ _
  obtain ⟨b, hb⟩ : ∃ b, w.heap.size = b := ⟨_, rfl⟩
  rw [hW, hb]
  have k4 : Bx W b zf := by rw [← hW]; exact heap_alloc_lt (heap_alloc_lt (heap_alloc_lt (hn _ _ _ hb)))
  have k5 : Bx W (b + 1) zf := by rw [← hW]; exact heap_alloc_lt (heap_alloc_lt (hn _ _ _ (by rw [es, hb])))
  have k7 : Bx W (b + 1 + 1) zf := by rw [← hW]; exact heap_alloc_lt (hn _ _ _ (by rw [es, es, hb]))
  have k8 : Bx W (b + 1 + 1 + 1) zf := by rw [← hW]; exact hn _ _ _ (by rw [es, es, es, hb])
  have F := Lib.hid (show Frm [] w W by rw [← hW]; exact ((((Frm.refl [] w).alloc _).alloc _).alloc _).alloc _)
  have K := Lib.hid (And.intro k4 (And.intro k5 (And.intro k7 k8)))
  clear k4 k5 k7 k8 hn es z0 hW
  have hl63 : (l.length : Int) ≤ 60 := by omega
  go_loopw [9] (LyRel lo g b (b + 1) (b + 1 + 1) (b + 1 + 1 + 1) l w) (fun c _ => l.length - (intOf c).toNat)
  case atStart => exact ⟨0, newS 8 2, zf, zf, by omega, rfl, Lz.begin _, new_wf 8 2 (by omega), A.out.keep0 F.out, K.out.2.2.1, K.out.2.2.2, K.out.1, K.out.2.1, Fa.of0 F.out lo⟩
  case round =>
    obtain ⟨k, s, firm, last, hk, rfl, hz, wf, ha, h7, h8, h4, h5, fa⟩ := hrel
    have SR := Lib.hid (S.out.fa fa)
    have sl := HSL.out wr fa
    have FA := Lib.hid fa
    have AR := Lib.hid ha
    have HZ := Lib.hid hz
    have WF := Lib.hid wf
    have H7 := Lib.hid h7
    have H8 := Lib.hid h8
    have H45 := Lib.hid (And.intro h4 h5)
    clear fa ha hz wf h7 h8 h4 h5
    by_cases hlt : k < l.length
    · obtain ⟨bb, off, rfl⟩ := sl.at (by omega)
      have c0 := sl.cell encL k hlt 0 (u := .int .i64 l[k].1) rfl
      have c1 := sl.cell encL k hlt 1 (u := .int .i64 l[k].2.1) rfl
      have c2 := sl.cell encL k hlt 2 (u := .int .u8 l[k].2.2.1) rfl
      have c3 := sl.cell encL k hlt 3 (u := .bool l[k].2.2.2) rfl
      have hb0 := HW.out _ (List.getElem_mem hlt)
      obtain ⟨x, Hx⟩ : ∃ x, l[k] = x := ⟨_, rfl⟩
      rw [Hx] at c0 c1 c2 c3 hb0
      obtain ⟨xd, xa, xb, xf⟩ := x
      obtain ⟨bt, Hbt⟩ : ∃ bt : UInt8, xb = (bt.toNat : Int) := ⟨UInt8.ofNat xb.toNat, by rw [UInt8.toNat_ofNat']; have := hb0.1; have := hb0.2; simp only at *; omega⟩
      simp only at c0 c1 c2 c3
      rw [Nat.add_zero] at c0
      rw [← Nat.add_assoc] at c1 c2 c3
      have hp1 := Pick_pk xd 2 (by omega) (by omega) wr.drew
      have hp2 := Pick_pk xa 8 (by omega) (by omega) wr.drew
      have hd2 := pkN_lt xd (show (0 : Int) < 2 by omega)
      have ha8 := pkN_lt xa (show (0 : Int) < 8 by omega)
      have HX := Lib.hid (And.intro Hx Hbt)
      have HSLr := Lib.hid sl
      clear sl hb0 Hx Hbt
      go_upto_region 5 with (fail)
      refine wp_region_still_lit (by kernel_rfl) (by kernel_rfl) ?_
      change wpStill _ _ (World.drew _) _ _ _
      repeat still_step
      still_call hp1
      repeat still_step
      still_call hp2
      repeat still_step
      refine wpStill_nil ?_
      change Exit.then _ _ _ _ (World.drew wr)
      have SD := Lib.hid (SR.out.fa ((Fa.refl lo wr).drew))
      have AD := Lib.hid AR.out.drew
      obtain ⟨d, Hd⟩ : ∃ d, pkN xd 2 = d := ⟨_, rfl⟩
      obtain ⟨a, Ha⟩ : ∃ a, pkN xa 8 = a := ⟨_, rfl⟩
      rw [Hd] at hd2 ⊢
      rw [Ha] at ha8 ⊢
      have hd2' : d < 2 := by omega
      have ha8' : a < 8 := by omega
      have HWR := Lib.hid (HZ.out.write hd2' ha8' bt ⟨k, hlt, by rw [HX.out.1]; exact Hd, by rw [HX.out.1]; exact Ha, by rw [HX.out.1]; exact HX.out.2⟩)
      clear hp1 hp2 Hd Ha
      go_upto_region 8 with (first
        | (go_at_call 29; refine (of_at (lo := lo) bt _ HX.out.2).mono ?_; rintro e w1 ⟨v1, rfl, hv, f0⟩; have F1 := Lib.hid f0; have V := Lib.hid hv; clear f0 hv)
        | (go_at_call 13; refine (wr_at (SD.out.keep0 F1.out) (AD.out.keep0 F1.out) WF.out (by omega) d a _ (ofL bt) _ V.out).mono ?_; rintro e w2 ⟨rfl, a2, f2⟩; rw [HWR.out.1]; have A2 := Lib.hid a2; have F2 := Lib.hid f2; clear a2 f2))
      have FD := Lib.hid (((FA.out.drew).trans (Fa.of0 F1.out lo)).trans F2.out)
      have G2 := Lib.hid (((Fa.refl lo wr).drew.trans (Fa.of0 F1.out lo)).trans F2.out)
      have sl := HSL.out w2 FD.out
      have c2 := sl.cell encL k hlt 2 (u := .int .u8 l[k].2.2.1) rfl
      have c3 := sl.cell encL k hlt 3 (u := .bool l[k].2.2.2) rfl
      rw [HX.out.1] at c2 c3
      rw [← Nat.add_assoc] at c2 c3
      simp only at c2 c3
      have z8 := (H8.out.fa G2.out).frozen (d * 8 + a)
      have e8 := (H8.out.fa G2.out).at hd2' ha8'
      have SL2 := Lib.hid sl
      clear sl c0 c1
      refine wp_region_still_tail 9 (by kernel_rfl) (by kernel_rfl) ?_
      simp only [List.take_succ_cons, List.take_zero, List.drop_succ_cons, List.drop_zero]
      repeat still_step
      refine wpStill_nil ?_
      go_upto_region 9 with (fail)
      have FS2 : Frm [b + 1 + 1 + 1] w2 (w2.setCell ⟨b + 1 + 1 + 1, d * 8 + a, none⟩ (.int .u8 xb)).drew := ((Frm.refl _ w2).setCell _ _ (.inl (by simp))).drew
      have HB8 : Bx (w2.setCell ⟨b + 1 + 1 + 1, d * 8 + a, none⟩ (.int .u8 xb)).drew (b + 1 + 1 + 1) (upd last d a bt) := by
        rw [HX.out.2]
        exact Bx.set (show Bx w2 _ _ from H8.out.fa G2.out) hd2' ha8' bt
      obtain ⟨w3, H3⟩ : ∃ w3, (w2.setCell ⟨b + 1 + 1 + 1, d * 8 + a, none⟩ (.int .u8 xb)).drew = w3 := ⟨_, rfl⟩
      rw [H3] at FS2 HB8 ⊢
      have o8 : Other w2 [b + 1 + 1 + 1] := fun j hj => by
        rw [List.mem_singleton.1 hj]
        exact ⟨_, 57, _, (show Bx w2 _ _ from H8.out.fa G2.out), by decide, by decide⟩
      have A3 := Lib.hid (A2.out.keep FS2 o8)
      have B8 := Lib.hid HB8
      have B7 := Lib.hid ((H7.out.fa G2.out).frm FS2 (by simp))
      have B45 := Lib.hid (And.intro ((H45.out.1.fa G2.out).frm FS2 (by simp <;> omega)) ((H45.out.2.fa G2.out).frm FS2 (by simp <;> omega)))
      have FA3 := Lib.hid (FD.out.frmN FS2 (fun i hi => by rw [List.mem_singleton.1 hi]; omega))
      have S3 := Lib.hid (S.out.fa FA3.out)
      have WF3 := Lib.hid (WF.out.wrR d a (ofL bt))
      have sl := HSL.out w3 FA3.out
      have c3 := sl.cell encL k hlt 3 (u := .bool l[k].2.2.2) rfl
      rw [HX.out.1] at c3
      rw [← Nat.add_assoc] at c3
      simp only at c3
      clear sl HB8 o8 FS2 H3 z8 e8 c2
      cases xf
      · go_wp2_with fail
        go_roundw
        case rel => exact ⟨k + 1, _, firm, _, by omega, by go_num, HWR.out.2, WF3.out.mono (by omega), A3.out, B7.out, B8.out, B45.out.1, B45.out.2, FA3.out⟩
        case measure => simp [intOf]; omega
      · have HFL := Lib.hid (HWR.out.2.flush hd2')
        go_upto_region 12 with (go_at_call 14; refine (fl_at S3.out A3.out WF3.out (by omega) d).mono ?_; rintro e w4 ⟨rfl, a4, f4⟩; rw [HFL.out.1]; have A4 := Lib.hid a4; have F4 := Lib.hid f4; clear a4 f4)
        have e8 := (B8.out.fa F4.out).range hd2'
        have t7 := (B7.out.fa F4.out).there hd2'
        have u56 := Tryd.underlying56
        go_upto_region 4 with (first
          | ((with_reducible (show wpList _ _ _ (Oper.mk _ (Op.load 56 _) _ _ _ _ :: _) _ _)); refine wpList_load_mid rfl 56 _ rfl (b + 1 + 1 + 1) (d * 8) rfl _ _ e8 u56 rfl i56 ?_)
          | ((with_reducible (show wpList _ _ _ (Oper.mk _ (Op.store 56 _ _) _ _ _ _ :: _) _ _)); refine wpList_store_mid rfl 56 _ _ rfl (b + 1 + 1) (d * 8) (rw8 (upd last d a bt d)).toArray rfl rfl t7 i56 (one_rw8 _) ?_))
        have FR : Frm [b + 1 + 1] w4 (w4.setCells (b + 1 + 1) (d * 8) (rw8 (upd last d a bt d))) := frm_setCells _ _ _ _ _ (Frm.refl _ _) (by simp)
        have HB7 := (B7.out.fa F4.out).setRow hd2' (upd last d a bt d)
        have o7 : Other w4 [b + 1 + 1] := fun j hj => by
          rw [List.mem_singleton.1 hj]
          exact ⟨_, 57, _, (show Bx w4 _ _ from B7.out.fa F4.out), by decide, by decide⟩
        obtain ⟨w5, H5⟩ : ∃ w5, w4.setCells (b + 1 + 1) (d * 8) (rw8 (upd last d a bt d)) = w5 := ⟨_, rfl⟩
        rw [H5] at FR HB7 ⊢
        have A5 := Lib.hid (A4.out.keep FR o7)
        have B75 := Lib.hid HB7
        have B85 := Lib.hid ((B8.out.fa F4.out).frm FR (by simp))
        have B455 := Lib.hid (And.intro ((B45.out.1.fa F4.out).frm FR (by simp <;> omega)) ((B45.out.2.fa F4.out).frm FR (by simp <;> omega)))
        have FA5 := Lib.hid ((FA3.out.trans F4.out).frmN FR (fun i hi => by rw [List.mem_singleton.1 hi]; omega))
        have efm : (fun d' a' => if d' = d then upd last d a bt d' a' else firm d' a') = (fun d' a' => if d' = d then upd last d a bt d a' else firm d' a') := by
          funext d' a'
          by_cases e : d' = d
          · rw [e]
          · rw [if_neg e, if_neg e]
        have HFL2 := Lib.hid (efm ▸ HFL.out.2)
        clear FR HB7 o7 H5 e8 t7 u56 efm
        go_wp2_with fail
        go_roundw
        case rel => exact ⟨k + 1, _, _, _, by omega, by go_num, HFL2.out, (WF3.out.flR d).mono (by omega), A5.out, B75.out, B85.out, B455.out.1, B455.out.2, FA5.out⟩
        case measure => simp [intOf]; omega
    · obtain rfl : k = l.length := by omega
      go_upto_region 13 with (fail)
      have h4 := H45.out.1
      have h5 := H45.out.2
      refine wp_region_held_drew (S := fun z => Frm [b, b + 1] wr z ∧ (∃ f, Bx z b f) ∧ ∃ f, Bx z (b + 1) f) (by kernel_rfl) (⟨(Frm.refl _ _).drew, ⟨_, h4⟩, ⟨_, h5⟩⟩) (fun hHeld => ?_)
      refine wpAnyH_take (i := 0) (oi := ⟨some 68, .load 57 (.tmp 7), _, _, _, none⟩) rfl (by kernel_rfl) (by kernel_rfl) (by kernel_rfl) (fun _ _ _ h => h) (yieldsIf_ld (by rfl) 57 _ rfl _ rfl (fun z hSw => run_loadAt_mid z (b + 1 + 1) 0 57 _ _ ((H7.out.frm hSw.1 (by simp <;> omega)).rangeAll) Tryd.underlying57 rfl i57)) hHeld ?_
      try simp only [Act.put, List.setIfInBounds_toArray, List.set_cons_zero, List.set_cons_succ]
      refine wpAnyH_take (i := 1) (oi := ⟨some 69, .load 57 (.tmp 8), _, _, _, none⟩) rfl (by kernel_rfl) (by kernel_rfl) (by kernel_rfl) (fun _ _ _ h => h) (yieldsIf_ld (by rfl) 57 _ rfl _ rfl (fun z hSw => run_loadAt_mid z (b + 1 + 1 + 1) 0 57 _ _ ((H8.out.frm hSw.1 (by simp <;> omega)).rangeAll) Tryd.underlying57 rfl i57)) hHeld ?_
      try simp only [Act.put, List.setIfInBounds_toArray, List.set_cons_zero, List.set_cons_succ]
      refine wpAnyH_ready (rs := [2]) (by kernel_rfl) (by simp) ?_
      refine AllReadyH.cons (o := ⟨none, .store 57 (.tmp 4) (.tmp 68), _, _, _, none⟩) rfl (fun K hK => ?_) ?_
      · obtain ⟨q1, ⟨f4, q4⟩, f5, q5⟩ := id hHeld
        refine step_store57 rfl (.tmp 4) (.tmp 68) rfl q4 rfl rfl ?_
        intro wa ba fa
        refine hK.out _ _ ?_ (fun hNext => ?_)
        · exact ⟨q1.trans fa (by simp), ⟨_, ba⟩, f5, q5.frm fa (by simp)⟩
        clear hK K hHeld
        have hHeld := hNext
        clear hNext
        try simp only [Act.put, List.setIfInBounds_toArray, List.set_cons_zero, List.set_cons_succ]
        refine wpAnyH_ready (rs := [3]) (by kernel_rfl) (by simp) ?_
        refine AllReadyH.cons (o := ⟨none, .store 57 (.tmp 5) (.tmp 69), _, _, _, none⟩) rfl (fun K hK => ?_) ?_
        · obtain ⟨r1, ⟨f6, r4⟩, f7, r5⟩ := id hHeld
          refine step_store57 rfl (.tmp 5) (.tmp 69) rfl r5 rfl rfl ?_
          intro wb bb' fb
          refine hK.out _ _ ?_ (fun hNext => ?_)
          · exact ⟨r1.trans fb (by simp), ⟨f6, r4.frm fb (by simp)⟩, _, bb'⟩
          clear hK K hHeld
          have hHeld := hNext
          clear hNext
          try simp only [Act.put, List.setIfInBounds_toArray, List.set_cons_zero, List.set_cons_succ]
          refine wpAnyH_take (i := 4) (oi := ⟨some 6, .assign (.const (.bool true)), _, _, _, none⟩) (v := ?_) rfl (by kernel_rfl) (by kernel_rfl) (by kernel_rfl) (fun _ _ _ h => h) (Or.inl ⟨by rfl, ?_⟩) hHeld ?_
          rotate_left
          focus (intro z hSw; clear hSw; go_simp; try with_reducible rfl)
          try simp only [Act.put, List.setIfInBounds_toArray, List.set_cons_zero, List.set_cons_succ]
          refine wpAnyH_done (by kernel_rfl) ?_ _
          have fin := hHeld.1
          clear hHeld
          go_wp2_with fail
          first
            | (have k4 := ba.frm fb (by simp); refine bodyPost_ret (v := .tuple #[.agg (cel firm).toArray, .agg (cel last).toArray, .bool true]) (results_cells2t rfl _ _ b (b + 1) 57 57 _ _ (0, 0) (0, 0) _ _ rfl rfl rfl k4 bb' Tryd.underlying57 rfl i57 Tryd.underlying57 rfl i57) rfl ?_)
            | (have k5 := bb'.frm fa (by simp); refine bodyPost_ret (v := .tuple #[.agg (cel firm).toArray, .agg (cel last).toArray, .bool true]) (results_cells2t rfl _ _ b (b + 1) 57 57 _ _ (0, 0) (0, 0) _ _ rfl rfl rfl ba k5 Tryd.underlying57 rfl i57 Tryd.underlying57 rfl i57) rfl ?_)
          have oo : Other wr [b, b + 1] := fun j hj => by
            rcases List.mem_cons.1 hj with rfl | hj
            · exact ⟨_, 57, _, H45.out.1, by decide, by decide⟩
            · rw [List.mem_singleton.1 hj]; exact ⟨_, 57, _, H45.out.2, by decide, by decide⟩
          exact ⟨s, firm, last, rfl, HZ.out, WF.out.mono (by omega), AR.out.keep fin oo, FA.out.frmN fin (fun i hi => by simp at hi; rcases hi with rfl | rfl <;> omega)⟩
        exact AllReadyH.nil
      exact AllReadyH.nil
end
end Go.Proofs.YtdebnikolhhmgaaDoor

namespace Go.Proofs.YtdebnikolhhmgaaDoor
open Go.RowKit
set_option linter.unusedVariables false
set_option linter.unusedSimpArgs false
set_option maxRecDepth 100000

open Kr (OwnE SlE Enco RowTys)
theorem wpList_store57 {ops : Array Oper} {rest : List Oper} {op : Oper} {a : Act} {w : World} {Q : Exit → Act → World → Prop} (hg : op.guard = none) (p x : Operand) (ho : op.op = .store 57 p x) {f f0 : Nat → Nat → UInt8} {b : Nat} (h0 : Bx w b f0)
    (hx : a.eval p = .pointer (some ⟨b, 0, none⟩)) (hy : a.eval x = .agg (cel f).toArray) (k : ∀ w', Bx w' b f → Frm [b] w w' → wpList Tryd.prog ops Q rest (a.put op.dst undef) w') : wpList Tryd.prog ops Q (op :: rest) a w :=
  wpList_store_mid hg 57 p x ho b 0 (cel f).toArray hx hy h0.thereAll i57 (one_cel f) (k _ (h0.setAll f) (frm_setCells _ _ _ _ _ (Frm.refl _ _) (by simp)))
section
variable {lo : Nat} {w : World} {sn : Nat → Addr}
end
end Go.Proofs.YtdebnikolhhmgaaDoor

namespace Go.Proofs.YtdebnikolhhmgaaDoor
open Go.RowKit
set_option linter.unusedVariables false
set_option linter.unusedSimpArgs false
set_option maxRecDepth 100000

open Kr (OwnE SlE Enco RowTys)
section
variable {s s' : St} {firm last : Nat → UInt8}
theorem Ap.faR (h : Ap s firm last) (n : Int) : Ap (faR s 0 n).2 firm last := by
  have h2 := dCons_ind (P := fun s => Ap s firm last) (r1 := (nD s 0, s)) (r := dCons (nA (decide (0 ≤ n)), s) (nT s 0, s)) h (dCons_ind (P := fun s => Ap s firm last) h h)
  exact mRes_ind (P := fun s => Ap s firm last) h2 fun _ => h2.setD0 _
theorem Ap.puR (h : Ap s firm last) : Ap (puR s 0).2 firm last := by
  have h2 := dCons_ind (P := fun s => Ap s firm last) (r1 := (nD s 0, s)) (r := (nT s 0, s)) h h
  exact mRes_ind (P := fun s => Ap s firm last) h2 fun _ => h2.taken0.setD0 _
theorem Ap.fiR (h : Ap s firm last) : Ap (fiR s 0).2 firm last := mRes_ind (P := fun s => Ap s firm last) h fun _ => h.taken0.setD0 _
end
section
variable {s s' : St} {firm last : Nat → UInt8}
end
end Go.Proofs.YtdebnikolhhmgaaDoor
