/-
  What befalls a device. No conditions but those that each theorem names.
-/
import Derived.Test.YtdebnikolhhmgaaDoorAL
namespace Go.Proofs.YtdebnikolhhmgaaDoor
open Go.RowKit
set_option linter.unusedVariables false
set_option linter.unusedSimpArgs false
set_option maxRecDepth 100000

open Kr (OwnE SlE Enco RowTys)

/-- A device's flags changed where it stands. -/
theorem ArrL.flag {lo : Nat} {w : World} {g : Nat} {s : St} {dv rv : Value} {drs : List Dr} {dsp : List Value} {rcs : List CelT} {rsp : List Value} (h : ArrL lo w g s dv rv drs dsp rcs rsp) (i : Nat) (hi : i < s.devs.length) (f : Nat) (gd cap : Nat) (hdv : dv = .slice (some ⟨gd, 0, none⟩) s.devs.length cap)
    (hf : f < 256) (h8 : (f &&& 8) ≠ 0 → 0 < s.devs[i].fl) :
    Arr lo (w.setCell ⟨gd, i * 4, none⟩ (.int .u8 (f : Nat))) g { s with devs := s.devs.set i { s.devs[i] with f := f } } ∧ Fa lo w (w.setCell ⟨gd, i * 4, none⟩ (.int .u8 (f : Nat))) := by
  have hi2 : i < drs.length := by rw [h.dlen]; exact hi
  obtain ⟨e1, e2, e3, e4⟩ := h.dat i drs[i] s.devs[i] (List.getElem?_eq_getElem hi2) (List.getElem?_eq_getElem hi)
  have ho := h.own
  rw [hdv] at ho
  have o1 := OwnE.store encD ho i 0 hi2 (by omega) (f, drs[i].2.1, drs[i].2.2.1, drs[i].2.2.2) (.int .u8 (f : Nat)) rfl
  obtain ⟨k1, k2⟩ := h.put i hi hi2 (f, drs[i].2.1, drs[i].2.2.1, drs[i].2.2.2) { s.devs[i] with f := f } (by rw [hdv]; exact o1) (by rw [hdv]; exact (Frm.refl _ w).setCell _ _ (by simp [blk])) rfl e2 e3 rfl rfl
    ⟨hf, (h.fb _ (List.getElem_mem hi)).2.1, (h.fb _ (List.getElem_mem hi)).2.2.1, h8⟩
  exact ⟨⟨_, _, _, _, _, _, k1⟩, k2⟩
/-- Where a device stands. -/
def devF (s : St) (d : Int) (x : Nat) : St := setD s d fun q => { q with f := q.f ||| x }
theorem or_lt (f x : Nat) (hf : f < 256) (hx : x < 256) : f ||| x < 256 := Nat.or_lt_two_pow (n := 8) hf hx
theorem or8 (f x : Nat) (hx : x &&& 8 = 0) (h : ((f ||| x) &&& 8) ≠ 0) : (f &&& 8) ≠ 0 := by
  rw [Nat.and_or_distrib_right, hx, Nat.or_zero] at h; exact h
section
variable {lo : Nat} {w : World} {sn : Nat → Addr} {g : Nat} {s : St}
theorem okD_at {d : Int} (hd : okD s d = true) : d.toNat < s.devs.length ∧ 0 ≤ d ∧ d < s.devs.length := by
  simp only [okD, decide_eq_true_eq] at hd
  omega
theorem setD_nat {d : Int} (hi : d.toNat < s.devs.length) (u : Dv → Dv) : setD s d u = { s with devs := s.devs.set d.toNat (u s.devs[d.toNat]) } := by
  unfold setD
  rw [List.getElem?_eq_getElem hi]
set_option maxHeartbeats 4000000 in
theorem Lose_any (d : Int) (hs : Sn w lo sn) (h : Arr lo w g s) :
    Calls Tryd.prog 18 #[ptr g, .int .i64 d] w (MP lo g (mRes (dCons (nD s d, s) (nT s d, s)) fun s => devF s d 2) w) := by
  have HS := Lib.hid hs
  have AR := Lib.hid h
  have F := Lib.hid (Frm.refl [] w)
  unfold ptr
  clear h hs
  go_enter Tryd.func18, Tryd.ntmps18
  go_wp2_with (first
    | (go_at_call 50; refine (deviceOf_any _ _).mono ?_; rintro e w5 ⟨bd, rfl, hd1, f1⟩; have F := Lib.hid (F.out.trans f1 (by simp)); have LD := Lib.hid hd1;  clear hd1 f1)
    | (go_at_call 40; refine (there_any _ _).mono ?_; rintro e w2 ⟨bt, rfl, ht1, f1⟩; have F := Lib.hid (F.out.trans f1 (by simp)); have LT := Lib.hid ht1; have LD := Lib.hid (f1.heap LD.out (by simp)); clear ht1 f1))
  refine (demand_any (r := (dCons (nD s d, s) (nT s d, s))) _ [_, _] _ 2 (HS.out.keep0 (F.out.alloc _)) (AR.out.keep0 (F.out.alloc _)) (Fa.refl lo _) (heap_alloc_new _ _) rfl (by simp) (Dem.cons (needD (HS.out.keep0 (F.out.alloc _)) ((Frm.refl [] _).alloc _ |>.heap LD.out (by simp))) fun hq0 => Dem.last (needT (HS.out.keep0 (F.out.alloc _)) ((Frm.refl [] _).alloc _ |>.heap LT.out (by simp)) (nD_ok hq0)))).mono ?_
  rintro e w9 ⟨h1, h2, h3⟩
  have HS9 := Lib.hid ((HS.out.keep0 (F.out.alloc _)).fa h3)
  have F9 := Lib.hid ((Fa.of0 (F.out.alloc _) lo).trans h3)
  have A9 := Lib.hid h2
  clear h2 h3
  rcases h1 with ⟨hq, rfl⟩ | ⟨k2, tx, hq, hk6, rfl⟩
  rotate_left
  · unfold rfu
    have HQ := Lib.hid hq
    have NU := Lib.hid (number_any HS9.out tx k2 hk6)
    clear hq
    go_wp2_with (go_at_call 42; refine NU.out.mono ?_; rintro e w10 ⟨rfl, f10⟩; have F10 := Lib.hid f10; clear f10)
    go_ret
    have hq := HQ.out
    rw [mRes_some hq]
    exact ⟨rfl, A9.out.keep0 F10.out, F9.out.trans (Fa.of0 F10.out lo)⟩
  · obtain ⟨q0, q1⟩ := dCons_of hq
    obtain ⟨hi, hd0, hd9⟩ := okD_at (nD_ok q0)
    have e2 : dCons (nD s d, s) (nT s d, s) = (none, s) := by rw [dCons_none q0]; exact Prod.ext q1 rfl
    rw [e2] at A9
    obtain ⟨dv, rv, drs, dsp, rcs, rsp, h⟩ := A9.out
    obtain ⟨_, _, c2, _⟩ := h.cells
    obtain ⟨gd, cap, sv, hdv, d0, _, _, _, _, dz⟩ := h.dev _ hi
    have hfb := h.fb _ (List.getElem_mem hi)
    rw [hdv] at c2
    have BF := Lib.hid (befall_any gd (d.toNat * 4) s.devs[d.toNat].f 2 hfb.1 (by omega) w9 d0 (dz _))
    have FL := Lib.hid (h.flag d.toNat hi (s.devs[d.toNat].f ||| 2) gd cap hdv (or_lt _ _ hfb.1 (by omega)) (fun e => hfb.2.2.2 (or8 _ 2 (by decide) e)))
    have E2 := Lib.hid e2
    have SD := Lib.hid (setD_nat hi fun q => { q with f := q.f ||| 2 })
    clear h hq q0 q1 e2 hdv d0 dz hfb
    go_wp2_with (go_at_call 56; refine BF.out.mono ?_; rintro e w11 ⟨rfl, rfl⟩)
    go_ret
    rw [E2.out]
    exact ⟨rfl, show Arr lo _ g (devF s d 2) from by unfold devF; rw [SD.out]; exact FL.out.1, F9.out.trans FL.out.2⟩
end
end Go.Proofs.YtdebnikolhhmgaaDoor
