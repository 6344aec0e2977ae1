/-
  Reads that fail; demand. No conditions but those that each theorem names.
-/
import Derived.Test.YtdebnikolhhmgaaDoorAI
namespace Go.Proofs.YtdebnikolhhmgaaDoor
open Go.RowKit
set_option linter.unusedVariables false
set_option linter.unusedSimpArgs false
set_option maxRecDepth 100000

open Kr (OwnE SlE Enco RowTys)
def failD (q : Dv) (n : Int) : Dv := { q with fl := n, f := failF q.f n }
def setD (s : St) (d : Int) (u : Dv → Dv) : St := match s.devs[d.toNat]? with
  | some q => { s with devs := s.devs.set d.toNat (u q) }
  | none => s
def flOf (s : St) (d : Int) : Int := match s.devs[d.toNat]? with
  | some q => q.fl
  | none => 0
def nFail (s : St) (d : Int) : Option Nat × St := if hasF s d 8 = true then (some 5, setD s d fun q => failD q (q.fl - 1)) else (none, s)
theorem failF_lt {f : Nat} (hf : f < 256) (n : Int) : failF f n < 256 := by
  unfold failF
  split
  · exact Nat.or_lt_two_pow (n := 8) hf (by decide)
  · exact Nat.lt_of_le_of_lt Nat.and_le_left hf
theorem failF_bit {f : Nat} {n : Int} (h : (failF f n &&& 8) ≠ 0) : 0 < n := by
  unfold failF at h
  by_cases hn : 0 < n
  · exact hn
  · rw [if_neg hn, Nat.and_assoc] at h
    exact absurd (by rw [show (255 - 8 &&& 8 : Nat) = 0 from by decide, Nat.and_zero]) h
section
variable {lo : Nat} {w : World} {sn : Nat → Addr} {g : Nat} {s : St}
/-- Failures set where a device stands. -/
theorem ArrL.fail {dv rv : Value} {drs : List Dr} {dsp : List Value} {rcs : List CelT} {rsp : List Value} (h : ArrL lo w g s dv rv drs dsp rcs rsp) (i : Nat) (hi : i < s.devs.length) (n : Int) (hn : 0 ≤ n ∧ n ≤ 9223372036854775807) (gd cap : Nat) (hdv : dv = .slice (some ⟨gd, 0, none⟩) s.devs.length cap) :
    Arr lo ((w.setCell ⟨gd, i * 4 + 2, none⟩ (.int .i64 n)).setCell ⟨gd, i * 4, none⟩ (.int .u8 (failF s.devs[i].f n : Nat))) g { s with devs := s.devs.set i (failD s.devs[i] n) } ∧
      Fa lo w ((w.setCell ⟨gd, i * 4 + 2, none⟩ (.int .i64 n)).setCell ⟨gd, i * 4, none⟩ (.int .u8 (failF s.devs[i].f n : Nat))) := by
  have hi2 : i < drs.length := by rw [h.dlen]; exact hi
  obtain ⟨e1, e2, e3, e4⟩ := h.dat i drs[i] s.devs[i] (List.getElem?_eq_getElem hi2) (List.getElem?_eq_getElem hi)
  have ho := h.own
  rw [hdv] at ho
  have o1 := OwnE.store encD ho i 2 hi2 (by omega) (drs[i].1, drs[i].2.1, n, drs[i].2.2.2) (.int .i64 n) rfl
  have o2 := OwnE.store encD o1 i 0 (by simpa using hi2) (by omega) (failF s.devs[i].f n, drs[i].2.1, n, drs[i].2.2.2) (.int .u8 (failF s.devs[i].f n : Nat)) (by simp [eD])
  rw [List.set_set] at o2
  obtain ⟨k1, k2⟩ := h.put i hi hi2 (failF s.devs[i].f n, drs[i].2.1, n, drs[i].2.2.2) (failD s.devs[i] n) (by rw [hdv]; exact o2) (by rw [hdv]; exact ((Frm.refl _ w).setCell _ _ (by simp [blk])).setCell _ _ (by simp [blk])) rfl e2 rfl rfl rfl
    ⟨failF_lt (h.fb _ (List.getElem_mem hi)).1 n, hn.1, hn.2, failF_bit⟩
  exact ⟨⟨_, _, _, _, _, _, k1⟩, k2⟩
theorem setD_at {i : Nat} (hi : i < s.devs.length) (u : Dv → Dv) : setD s (i : Int) u = { s with devs := s.devs.set i (u s.devs[i]) } := by
  unfold setD
  rw [show (i : Int).toNat = i from Int.toNat_natCast i, List.getElem?_eq_getElem hi]
theorem noFailure1_any (d : Int) (b1 : Nat) (hs : Sn w lo sn) (h : Arr lo w g s) (hd : okD s d = true) (hb : w.cell? ⟨b1, 0, none⟩ = some (.int .i64 d)) :
    Calls Tryd.prog 64 #[ptr g, ptr b1] w (StepP sn lo g (nFail s d) w) := by
  obtain ⟨i, hi, rfl, hg⟩ := hasF_at (x := 8) hd
  obtain ⟨dv, rv, drs, dsp, rcs, rsp, h⟩ := h
  obtain ⟨_, _, c2, _⟩ := h.cells
  obtain ⟨gd, cap, sv, hdv, d0, d1, d2, d3, _, dz⟩ := h.dev i hi
  have hfb := h.fb _ (List.getElem_mem hi)
  have cg := hs.v 5 (by omega)
  have DN := Lib.hid (fun m => (Frm.refl [] w).drewN m)
  have HF := Lib.hid (fun m n => fail_any gd (i * 4) s.devs[i].f s.devs[i].fl n hfb.1 (w.drewN m) d0 d2 dz)
  have HH := Lib.hid (fun m => has_any gd (i * 4) s.devs[i].f 8 hfb.1 (by omega) (w.drewN m) d0)
  have HA := Lib.hid (fun m n hn => (h.keep (DN.out m) (Other.nil w)).fail i hi n hn gd cap hdv)
  have AR := Lib.hid (fun m => show Arr lo (w.drewN m) g s from Arr.keep0 ⟨_, _, _, _, _, _, h⟩ (DN.out m))
  have hi9 : (i : Int) < (s.devs.length : Int) := by omega
  have hi8 : (0 : Int) ≤ (i : Int) := by omega
  have hw1 : 0 < s.devs[i].fl → IntKind.i64.wrap (s.devs[i].fl - 1) = s.devs[i].fl - 1 := fun _ => IntWalk.i64_in _ (by have := hfb.2.1; have := hfb.2.2.1; omega)
  unfold nFail
  rw [hg, setD_at hi]
  rw [hdv] at c2
  have HS := Lib.hid (Sn.keep0 hs ((Frm.refl [] w).drew))
  have HL := Lib.hid h.glo
  have HG6 := Lib.hid hs.l
  unfold ptr
  obtain ⟨q, hq⟩ : ∃ q, ((s.devs[i].f &&& 8) != 0) = q := ⟨_, rfl⟩
  have hpos : q = true → 0 < s.devs[i].fl := fun e => hfb.2.2.2 (by rw [e] at hq; simpa using hq)
  have HB := Lib.hid hfb
  rw [hq] at HH ⊢
  clear h hs hd hg hq hdv d0 d1 d3 dz hfb
  cases q
  · clear d2 hpos hw1
    go_enter Tryd.func64, Tryd.ntmps64
    go_wp2_with fail
    go_quiet (fail)
    go_wp2_with (go_at_call 63; refine (HH.out _).mono ?_; rintro e w1 ⟨rfl, hw1⟩; obtain rfl := hw1.symm)
    go_ret
    exact ⟨Ans.none sn, AR.out _, Fa.of0 (DN.out _) lo⟩
  · have hw2 := hw1 (hpos rfl)
    have HP := Lib.hid (hpos rfl)
    clear hw1 hpos
    have cgn := fun m => (DN.out m).cell cg (by simp)
    go_enter Tryd.func64, Tryd.ntmps64
    go_wp2_with fail
    go_quiet (fail)
    have d2' : (w.drewN nq).cell? ⟨gd, i * 4 + 2, none⟩ = some (.int .i64 s.devs[i].fl) := d2
    have hfa := HA.out nq (s.devs[i].fl - 1) ⟨by have := HP.out; omega, by have := HB.out.2.2.1; omega⟩
    have cg5 := ((Fa.of0 (DN.out nq) lo).trans hfa.2).cell cg (by have := HG6.out; simp; omega)
    have HFA := Lib.hid hfa
    clear cgn hfa
    go_wp2_with (first
      | (go_at_call 63; refine (HH.out _).mono ?_; rintro e w1 ⟨rfl, hw1⟩; obtain rfl := hw1.symm)
      | (go_at_call 57; refine (HF.out _ _).mono ?_; rintro e w2 ⟨rfl, rfl⟩))
    go_ret
    exact ⟨Ans.some sn _ (by omega), HFA.out.1, (Fa.of0 (DN.out nq) lo).trans HFA.out.2⟩
end
end Go.Proofs.YtdebnikolhhmgaaDoor
