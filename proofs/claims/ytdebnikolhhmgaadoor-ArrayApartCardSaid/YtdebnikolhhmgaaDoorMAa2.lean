/-
  Reads that fail; demand. No conditions but those that each theorem names. demand. No conditions but those that each theorem names. Each need at a state; what a call answers that is refused. No conditions but those that each theorem names. What befalls a device. No conditions but those that each theorem names. What befalls a device; what an array tells of itself. No conditions but those that each theorem names. What a sector tells; reads. No conditions but those that each theorem names. Rows and sectors set. No conditions but those that each theorem names. A write laid. No conditions but those that each theorem names. A write laid: the call. No conditions but those that each theorem names. Write. No conditions but those that each theorem names. New: a blank device. No conditions but those that each theorem names. Regions that draw their order: loads are taken first, and their condition is asked only till a store comes up that waits for each of them. Of no program. No conditions but those that each theorem names.
-/
import Derived.Test.YtdebnikolhhmgaaDoorMAa1
import Derived.Deep.RegionHeld3
import Derived.OpenShut
import Derived.Deep.MidRow
import Derived.Laws.Tables
import Derived.OrdersHeld
import Derived.Deep.RegionHeld
import Derived.WalkKit
import Derived.WalkSpells
import Derived.WalkLawsBesides
import Derived.Deep.AppendSrc
import Derived.Laws.CopyOwn
import Derived.Laws.BytesArg
import Derived.Carry
import Derived.Laws.BytesString
import Derived.Lib.Hide
import Derived.Test.YtdebnikolhhmgaaDoorChecked
import Derived.Stop.Asserts
import Derived.LaidEql
import Derived.RowKitTokens
import Derived.WalkHide
import Derived.StillTailTactics
import Derived.BigQuiet
import Derived.Deep.QuietTactic
import Derived.Deep.RegionLaw
import Derived.Deep.RegionWith
import Derived.LaidEqlPtr
import Derived.Deep.CutBlock
import Derived.Deep.DeepCutAuto
import Derived.Deep.Slices
import Derived.Shelf.Abstract
namespace Go.Proofs.YtdebnikolhhmgaaDoor
open Go.RowKit
set_option linter.unusedVariables false
set_option linter.unusedSimpArgs false
set_option maxRecDepth 100000

open Kr (OwnE SlE Enco RowTys)
def failD (q : Dv) (n : Int) : Dv := { q with fl := n, f := failF q.f n }
def setD (s : St) (d : Int) (u : Dv → Dv) : St := match s.devs[d.toNat]? with
  | some q => { s with devs := s.devs.set d.toNat (u q) }
  | none => s
def nFail (s : St) (d : Int) : Option Nat × St := if hasF s d 8 = true then (some 5, setD s d fun q => failD q (q.fl - 1)) else (none, s)
theorem failF_lt {f : Nat} (hf : f < 256) (n : Int) : failF f n < 256 := by
  unfold failF
  split
  · exact Nat.or_lt_two_pow (n := 8) hf (by decide)
  · exact Nat.lt_of_le_of_lt Nat.and_le_left hf
theorem failF_bit {f : Nat} {n : Int} (h : (failF f n &&& 8) ≠ 0) : 0 < n := by
  unfold failF at h
  by_cases hn : 0 < n
  · exact hn
  · rw [if_neg hn, Nat.and_assoc] at h
    exact absurd (by rw [show (255 - 8 &&& 8 : Nat) = 0 from by decide, Nat.and_zero]) h
section
variable {lo : Nat} {w : World} {sn : Nat → Addr} {g : Nat} {s : St}
/-- Failures set where a device stands. -/
theorem ArrL.fail {dv rv : Value} {drs : List Dr} {dsp : List Value} {rcs : List CelT} {rsp : List Value} (h : ArrL lo w g s dv rv drs dsp rcs rsp) (i : Nat) (hi : i < s.devs.length) (n : Int) (hn : 0 ≤ n ∧ n ≤ 9223372036854775807) (gd cap : Nat) (hdv : dv = .slice (some ⟨gd, 0, none⟩) s.devs.length cap) :
    Arr lo ((w.setCell ⟨gd, i * 4 + 2, none⟩ (.int .i64 n)).setCell ⟨gd, i * 4, none⟩ (.int .u8 (failF s.devs[i].f n : Nat))) g { s with devs := s.devs.set i (failD s.devs[i] n) } ∧
      Fa lo w ((w.setCell ⟨gd, i * 4 + 2, none⟩ (.int .i64 n)).setCell ⟨gd, i * 4, none⟩ (.int .u8 (failF s.devs[i].f n : Nat))) := by
  have hi2 : i < drs.length := by rw [h.dlen]; exact hi
  obtain ⟨e1, e2, e3, e4⟩ := h.dat i drs[i] s.devs[i] (List.getElem?_eq_getElem hi2) (List.getElem?_eq_getElem hi)
  have ho := h.own
  rw [hdv] at ho
  have o1 := OwnE.store encD ho i 2 hi2 (by omega) (drs[i].1, drs[i].2.1, n, drs[i].2.2.2) (.int .i64 n) rfl
  have o2 := OwnE.store encD o1 i 0 (by simpa using hi2) (by omega) (failF s.devs[i].f n, drs[i].2.1, n, drs[i].2.2.2) (.int .u8 (failF s.devs[i].f n : Nat)) (by simp [eD])
  rw [List.set_set] at o2
  obtain ⟨k1, k2⟩ := h.put i hi hi2 (failF s.devs[i].f n, drs[i].2.1, n, drs[i].2.2.2) (failD s.devs[i] n) (by rw [hdv]; exact o2) (by rw [hdv]; exact ((Frm.refl _ w).setCell _ _ (by simp [blk])).setCell _ _ (by simp [blk])) rfl e2 rfl rfl rfl
    ⟨failF_lt (h.fb _ (List.getElem_mem hi)).1 n, hn.1, hn.2, failF_bit⟩
  exact ⟨⟨_, _, _, _, _, _, k1⟩, k2⟩
theorem setD_at {i : Nat} (hi : i < s.devs.length) (u : Dv → Dv) : setD s (i : Int) u = { s with devs := s.devs.set i (u s.devs[i]) } := by
  unfold setD
  rw [show (i : Int).toNat = i from Int.toNat_natCast i, List.getElem?_eq_getElem hi]
theorem noFailure1_any (d : Int) (b1 : Nat) (hs : Sn w lo sn) (h : Arr lo w g s) (hd : okD s d = true) (hb : w.cell? ⟨b1, 0, none⟩ = some (.int .i64 d)) :
    Calls Tryd.prog 64 #[ptr g, ptr b1] w (StepP sn lo g (nFail s d) w) := by
  obtain ⟨i, hi, rfl, hg⟩ := hasF_at (x := 8) hd
  obtain ⟨dv, rv, drs, dsp, rcs, rsp, h⟩ := h
  obtain ⟨_, _, c2, _⟩ := h.cells
  obtain ⟨gd, cap, sv, hdv, d0, d1, d2, d3, _, dz⟩ := h.dev i hi
  have hfb := h.fb _ (List.getElem_mem hi)
  have cg := hs.v 5 (by omega)
  have DN := Lib.hid (fun m => (Frm.refl [] w).drewN m)
  have HF := Lib.hid (fun m n => fail_any gd (i * 4) s.devs[i].f s.devs[i].fl n hfb.1 (w.drewN m) d0 d2 dz)
  have HH := Lib.hid (fun m => has_any gd (i * 4) s.devs[i].f 8 hfb.1 (by omega) (w.drewN m) d0)
  have HA := Lib.hid (fun m n hn => (h.keep (DN.out m) (Other.nil w)).fail i hi n hn gd cap hdv)
  have AR := Lib.hid (fun m => show Arr lo (w.drewN m) g s from Arr.keep0 ⟨_, _, _, _, _, _, h⟩ (DN.out m))
  have hi9 : (i : Int) < (s.devs.length : Int) := by omega
  have hi8 : (0 : Int) ≤ (i : Int) := by omega
  have hw1 : 0 < s.devs[i].fl → IntKind.i64.wrap (s.devs[i].fl - 1) = s.devs[i].fl - 1 := fun _ => IntWalk.i64_in _ (by have := hfb.2.1; have := hfb.2.2.1; omega)
  unfold nFail
  rw [hg, setD_at hi]
  rw [hdv] at c2
  have HS := Lib.hid (Sn.keep0 hs ((Frm.refl [] w).drew))
  have HL := Lib.hid h.glo
  have HG6 := Lib.hid hs.l
  unfold ptr
  obtain ⟨q, hq⟩ : ∃ q, ((s.devs[i].f &&& 8) != 0) = q := ⟨_, rfl⟩
  have hpos : q = true → 0 < s.devs[i].fl := fun e => hfb.2.2.2 (by rw [e] at hq; simpa using hq)
  have HB := Lib.hid hfb
  rw [hq] at HH ⊢
  clear h hs hd hg hq hdv d0 d1 d3 dz hfb
  cases q
  · clear d2 hpos hw1
    go_enter Tryd.func64, Tryd.ntmps64
    go_wp2_with fail
    go_quiet (fail)
    go_wp2_with (go_at_call 63; refine (HH.out _).mono ?_; rintro e w1 ⟨rfl, hw1⟩; obtain rfl := hw1.symm)
    go_ret
    exact ⟨Ans.none sn, AR.out _, Fa.of0 (DN.out _) lo⟩
  · have hw2 := hw1 (hpos rfl)
    have HP := Lib.hid (hpos rfl)
    clear hw1 hpos
    have cgn := fun m => (DN.out m).cell cg (by simp)
    go_enter Tryd.func64, Tryd.ntmps64
    go_wp2_with fail
    go_quiet (fail)
    have d2' : (w.drewN nq).cell? ⟨gd, i * 4 + 2, none⟩ = some (.int .i64 s.devs[i].fl) := d2
    have hfa := HA.out nq (s.devs[i].fl - 1) ⟨by have := HP.out; omega, by have := HB.out.2.2.1; omega⟩
    have cg5 := ((Fa.of0 (DN.out nq) lo).trans hfa.2).cell cg (by have := HG6.out; simp; omega)
    have HFA := Lib.hid hfa
    clear cgn hfa
    go_wp2_with (first
      | (go_at_call 63; refine (HH.out _).mono ?_; rintro e w1 ⟨rfl, hw1⟩; obtain rfl := hw1.symm)
      | (go_at_call 57; refine (HF.out _ _).mono ?_; rintro e w2 ⟨rfl, rfl⟩))
    go_ret
    exact ⟨Ans.some sn _ (by omega), HFA.out.1, (Fa.of0 (DN.out nq) lo).trans HFA.out.2⟩
end
end Go.Proofs.YtdebnikolhhmgaaDoor

namespace Go.Proofs.YtdebnikolhhmgaaDoor
open Go.RowKit
set_option linter.unusedVariables false
set_option linter.unusedSimpArgs false
set_option maxRecDepth 100000

open Kr (OwnE SlE Enco RowTys)
/-- A need, at this state of an array: what it answers, and what the array is then. -/
def NeedAt (sn : Nat → Addr) (lo g : Nat) (W0 : World) (f : Value) (s : St) (r : Option Nat × St) : Prop :=
  ∃ gf caps, f = .func (.func gf) #[] caps ∧ (∀ W : World, (callFunc gf (#[.pointer (some ⟨g, 0, none⟩)] ++ caps)).run Tryd.prog W = .ok (.enter gf (#[.pointer (some ⟨g, 0, none⟩)] ++ caps)) W) ∧
    ∀ W, Fa lo W0 W → Arr lo W g s → Calls Tryd.prog gf (#[.pointer (some ⟨g, 0, none⟩)] ++ caps) W (StepP sn lo g r W)
inductive Dem (sn : Nat → Addr) (lo g : Nat) (W0 : World) : List Value → St → Option Nat × St → Prop
  | nil (s : St) : Dem sn lo g W0 [] s (none, s)
  | stop (f : Value) (fs : List Value) (s s' : St) (k : Nat) : NeedAt sn lo g W0 f s (some k, s') → Dem sn lo g W0 (f :: fs) s (some k, s')
  | step (f : Value) (fs : List Value) (s s1 : St) (r : Option Nat × St) : NeedAt sn lo g W0 f s (none, s1) → Dem sn lo g W0 fs s1 r → Dem sn lo g W0 (f :: fs) s r
theorem Dem.inv {sn : Nat → Addr} {lo g : Nat} {W0 : World} {f : Value} {fs : List Value} {s : St} {r : Option Nat × St} (h : Dem sn lo g W0 (f :: fs) s r) :
    (∃ k s', r = (some k, s') ∧ NeedAt sn lo g W0 f s (some k, s')) ∨ ∃ s1, NeedAt sn lo g W0 f s (none, s1) ∧ Dem sn lo g W0 fs s1 r := by
  cases h with
  | stop _ _ _ s' k h => exact .inl ⟨k, s', rfl, h⟩
  | step _ _ _ s1 _ h1 h2 => exact .inr ⟨s1, h1, h2⟩
theorem Dem.end {sn : Nat → Addr} {lo g : Nat} {W0 : World} {s : St} {r : Option Nat × St} (h : Dem sn lo g W0 [] s r) : r = (none, s) := by cases h; rfl
section
variable {lo : Nat} {w : World} {sn : Nat → Addr} {g : Nat} {s : St}
def DmRel (sn : Nat → Addr) (lo g : Nat) (W0 : World) (fs : List Value) (r : Option Nat × St) (w : World) (cv : Value) (wr : World) : Prop :=
  ∃ (k : Nat) (s : St), k ≤ fs.length ∧ cv = .int .i64 k ∧ Dem sn lo g W0 (fs.drop k) s r ∧ Arr lo wr g s ∧ Fa lo w wr
set_option maxHeartbeats 4000000 in
theorem demand_any (W0 : World) (fs : List Value) (gn n : Nat) (r : Option Nat × St) (hs : Sn w lo sn) (h : Arr lo w g s) (hf : Fa lo W0 w) (hb : w.heap[gn]? = some (.cells fs.toArray 73 (0, 0))) (hn : n = fs.length) (hl : fs.length ≤ 10) (hD : Dem sn lo g W0 fs s r) :
    Calls Tryd.prog 37 #[.pointer (some ⟨g, 0, none⟩), .slice (some ⟨gn, 0, none⟩) n n] w (StepP sn lo g r w) := by
  subst hn
  have hm2 : Calls Tryd.prog 59 #[.pointer (some ⟨g, 0, none⟩)] w.drew fun e w' => e = .returned (.bool true) ∧ w' = w.drew := by
    obtain ⟨dv, rv, drs, dsp, rcs, rsp, h⟩ := h
    exact made_yes g w.drew h.cells.1
  have c1 := hs.v 1 (by omega)
  have hu := unless_true txA (.iface 126 (.pointer (some (sn 1)))) w.drew
  unfold txA at hu
  have HF := Lib.hid hf
  have HD := Lib.hid hD
  have AR := Lib.hid h.drew
  have HB := Lib.hid hb
  have hl9 : (fs.length : Int) ≤ 10 := by omega
  clear h hs hf hD hb
  go_enter Tryd.func37, Tryd.ntmps37
  go_upto_region 1 with (fail)
  refine wp_region_still_lit (by kernel_rfl) (by kernel_rfl) ?_
  change wpStill _ _ (World.drew _) _ _ _
  repeat still_step
  still_call hm2
  repeat still_step
  still_call hu
  repeat still_step
  refine wpStill_nil ?_
  change Exit.then _ _ _ _ (World.drew _)
  go_wp2_with fail
  go_loopw [18] (DmRel sn lo g W0 fs r w) (fun c _ => fs.length - (intOf c).toNat)
  case atStart => exact ⟨0, s, by omega, rfl, HD.out, AR.out, Fa.of0 ((Frm.refl [] w).drew) lo⟩
  case round =>
    obtain ⟨k, sk, hk, rfl, hd, ha, fa⟩ := hrel
    by_cases hlt : k < fs.length
    · rw [List.drop_eq_getElem_cons hlt] at hd
      have hcell : wr.cell? ⟨gn, k, none⟩ = some fs[k] := by
        rw [cell_of_heap (fa.typ _ _ _ _ HB.out (by decide)), List.getElem?_toArray, List.getElem?_eq_getElem hlt]
      have AK := Lib.hid ha
      have FK := Lib.hid fa
      rcases hd.inv with ⟨kk, s', hr, hN⟩ | ⟨s1, hN, hd2⟩
      · obtain ⟨gf, caps, he, hen, hc⟩ := hN
        rw [he] at hcell
        have HC := Lib.hid (hc wr (HF.out.trans fa) ha)
        have HR := Lib.hid hr
        clear hc he hr ha fa hd
        go_wp2_with fail
        refine HC.out.mono ?_
        rintro e w2 ⟨h1, h2, h3⟩
        rcases h1 with ⟨h1, _⟩ | ⟨k2, tx, h1, hk6, rfl⟩
        · cases h1
        · have H2 := Lib.hid (And.intro h1 (And.intro hk6 (And.intro h2 h3)))
          clear h1 hk6 h2 h3
          unfold rfu
          go_wp2_with fail
          go_ret
          have hz := H2.out
          rw [HR.out]
          exact ⟨.inr ⟨k2, tx, hz.1, hz.2.1, rfl⟩, hz.2.2.1, FK.out.trans hz.2.2.2⟩
      · obtain ⟨gf, caps, he, hen, hc⟩ := hN
        rw [he] at hcell
        have HC := Lib.hid (hc wr (HF.out.trans fa) ha)
        have D2 := Lib.hid hd2
        clear hc he ha fa hd hd2
        go_wp2_with fail
        refine HC.out.mono ?_
        rintro e w2 ⟨h1, h2, h3⟩
        rcases h1 with ⟨_, rfl⟩ | ⟨k2, tx, h1, hk6, rfl⟩
        · have H2 := Lib.hid (And.intro h2 h3)
          clear h2 h3
          go_wp2_with fail
          go_roundw
          case rel => exact ⟨k + 1, s1, by omega, by go_num, D2.out, H2.out.1, FK.out.trans H2.out.2⟩
          case measure => simp [intOf]; omega
        · cases h1
    · obtain rfl : k = fs.length := by omega
      rw [List.drop_length] at hd
      have hr := hd.end
      have AK := Lib.hid ha
      have FK := Lib.hid fa
      have HR := Lib.hid hr
      clear hd hr ha fa
      go_wp2_with fail
      go_ret
      rw [HR.out]
      exact ⟨Ans.none sn, AK.out, FK.out⟩
end
end Go.Proofs.YtdebnikolhhmgaaDoor

namespace Go.Proofs.YtdebnikolhhmgaaDoor
open Go.RowKit
set_option linter.unusedVariables false
set_option linter.unusedSimpArgs false
set_option maxRecDepth 100000

open Kr (OwnE SlE Enco RowTys)
def dCons (r1 r : Option Nat × St) : Option Nat × St := if r1.1 = none then r else r1
theorem dCons_none {r1 r : Option Nat × St} (h : r1.1 = none) : dCons r1 r = r := by unfold dCons; rw [if_pos h]
theorem dCons_of {r1 r : Option Nat × St} (h : (dCons r1 r).1 = none) : r1.1 = none ∧ r.1 = none := by
  unfold dCons at h
  by_cases e : r1.1 = none
  · rw [if_pos e] at h; exact ⟨e, h⟩
  · rw [if_neg e] at h; exact absurd h e
theorem Dem.cons {sn : Nat → Addr} {lo g : Nat} {W0 : World} {f : Value} {fs : List Value} {s : St} {r1 r : Option Nat × St} (h1 : NeedAt sn lo g W0 f s r1) (h : r1.1 = none → Dem sn lo g W0 fs r1.2 r) : Dem sn lo g W0 (f :: fs) s (dCons r1 r) := by
  obtain ⟨o, s1⟩ := r1
  cases o with
  | none => exact .step f fs s s1 r h1 (h rfl)
  | some k => exact .stop f fs s s1 k h1
theorem Dem.last {sn : Nat → Addr} {lo g : Nat} {W0 : World} {f : Value} {s : St} {r1 : Option Nat × St} (h1 : NeedAt sn lo g W0 f s r1) : Dem sn lo g W0 [f] s r1 := by
  obtain ⟨o, s1⟩ := r1
  cases o with
  | none => exact .step f [] s s1 _ h1 (.nil s1)
  | some k => exact .stop f [] s s1 k h1
def nR (s : St) : Option Nat := if s.out = true then some 2 else none
def nA (q : Bool) : Option Nat := if q = true then none else some 0
theorem nD_ok {s : St} {d : Int} (h : nD s d = none) : okD s d = true := by
  unfold nD at h
  cases hq : okD s d
  · rw [hq] at h; cases h
  · rfl
theorem nS_ok {s : St} {d a : Int} (h : nS s d a = none) : okD s d = true ∧ okA s a = true := by
  unfold nS at h
  cases hq : okD s d
  · rw [hq] at h; cases h
  · rw [hq] at h
    cases hq2 : okA s a
    · rw [hq2] at h; cases h
    · exact ⟨rfl, rfl⟩
section
variable {lo : Nat} {W0 : World} {sn : Nat → Addr} {g : Nat} {s : St}
theorem need_of {gf : Nat} {fn : Func} {caps : Array Value} {o : Option Nat} (hf : Tryd.prog.funcs[gf]? = some fn) (hname : (fn.name == "runtime.NumGoroutine") = false) (hb : fn.body.isSome = true)
    (h : ∀ W, Fa lo W0 W → Arr lo W g s → Calls Tryd.prog gf (#[.pointer (some ⟨g, 0, none⟩)] ++ caps) W (fun e w' => Ans sn o e ∧ Frm [] W w')) : NeedAt sn lo g W0 (.func (.func gf) #[] caps) s (o, s) := by
  obtain ⟨c, hc⟩ := Option.isSome_iff_exists.1 hb
  refine ⟨gf, caps, rfl, fun W => Go.Proofs.enters_of hf hname hc _ W, fun W f ha => (h W f ha).mono ?_⟩
  rintro e w' ⟨h1, h2⟩
  exact ⟨h1, ha.keep0 h2, Fa.of0 h2 lo⟩
theorem need_step {gf : Nat} {fn : Func} {caps : Array Value} {r : Option Nat × St} (hf : Tryd.prog.funcs[gf]? = some fn) (hname : (fn.name == "runtime.NumGoroutine") = false) (hb : fn.body.isSome = true)
    (h : ∀ W, Fa lo W0 W → Arr lo W g s → Calls Tryd.prog gf (#[.pointer (some ⟨g, 0, none⟩)] ++ caps) W (StepP sn lo g r W)) : NeedAt sn lo g W0 (.func (.func gf) #[] caps) s r := by
  obtain ⟨c, hc⟩ := Option.isSome_iff_exists.1 hb
  exact ⟨gf, caps, rfl, fun W => Go.Proofs.enters_of hf hname hc _ W, fun W f ha => h W f ha⟩
theorem needR (hs : Sn W0 lo sn) : NeedAt sn lo g W0 (.func (.func 38) #[] #[]) s (nR s, s) :=
  need_of Tryd.func38 (by kernel_rfl) (by kernel_rfl) fun W f ha => running_any (hs.fa f) ha
theorem cell_of {W : World} {b : Nat} {v : Value} (h : W0.heap[b]? = some (.cells #[v] 3 (0, 0))) (f : Fa lo W0 W) : W.cell? ⟨b, 0, none⟩ = some v := by rw [cell_of_heap (f.typ _ _ _ _ h (by decide))]; rfl
theorem cell_of4 {W : World} {b : Nat} {v : Value} (h : W0.heap[b]? = some (.cells #[v] 4 (0, 0))) (f : Fa lo W0 W) : W.cell? ⟨b, 0, none⟩ = some v := by rw [cell_of_heap (f.typ _ _ _ _ h (by decide))]; rfl
theorem needD (hs : Sn W0 lo sn) {d : Int} {b : Nat} (h : W0.heap[b]? = some (.cells #[.int .i64 d] 3 (0, 0))) : NeedAt sn lo g W0 (.func (.func 69) #[] #[.pointer (some ⟨b, 0, none⟩)]) s (nD s d, s) :=
  need_of Tryd.func69 (by kernel_rfl) (by kernel_rfl) fun W f ha => deviceOf1_any d b (hs.fa f) ha (cell_of h f)
theorem needS (hs : Sn W0 lo sn) (hw : WfS s) {d a : Int} {b b2 : Nat} (h : W0.heap[b]? = some (.cells #[.int .i64 d] 3 (0, 0))) (h2 : W0.heap[b2]? = some (.cells #[.int .i64 a] 3 (0, 0))) :
    NeedAt sn lo g W0 (.func (.func 61) #[] #[.pointer (some ⟨b, 0, none⟩), .pointer (some ⟨b2, 0, none⟩)]) s (nS s d a, s) :=
  need_of Tryd.func61 (by kernel_rfl) (by kernel_rfl) fun W f ha => sectorOf1_any d a b b2 (hs.fa f) ha hw.n1 (f.typ _ _ _ _ h (by decide)) (f.typ _ _ _ _ h2 (by decide))
theorem needT (hs : Sn W0 lo sn) {d : Int} {b : Nat} (h : W0.heap[b]? = some (.cells #[.int .i64 d] 3 (0, 0))) (hd : okD s d = true) : NeedAt sn lo g W0 (.func (.func 62) #[] #[.pointer (some ⟨b, 0, none⟩)]) s (nT s d, s) :=
  need_of Tryd.func62 (by kernel_rfl) (by kernel_rfl) fun W f ha => there1_any d b (hs.fa f) ha hd (cell_of h f)
theorem needF (hs : Sn W0 lo sn) {d : Int} {b : Nat} (h : W0.heap[b]? = some (.cells #[.int .i64 d] 3 (0, 0))) (hd : okD s d = true) : NeedAt sn lo g W0 (.func (.func 64) #[] #[.pointer (some ⟨b, 0, none⟩)]) s (nFail s d) :=
  need_step Tryd.func64 (by kernel_rfl) (by kernel_rfl) fun W f ha => noFailure1_any d b (hs.fa f) ha hd (cell_of h f)
theorem needA (hs : Sn W0 lo sn) {q : Bool} {b : Nat} (h : W0.heap[b]? = some (.cells #[.bool q] 4 (0, 0))) : NeedAt sn lo g W0 (.func (.func 66) #[] #[.pointer (some ⟨b, 0, none⟩)]) s (nA q, s) :=
  need_of Tryd.func66 (by kernel_rfl) (by kernel_rfl) fun W f ha => argument1_any q b (hs.fa f) (cell_of4 h f)
theorem needStep (hs : Sn W0 lo sn) (hw : WfS s) : NeedAt sn lo g W0 (.func (.func 47) #[] #[]) s (nStep s) :=
  need_step Tryd.func47 (by kernel_rfl) (by kernel_rfl) fun W f ha => nextStep_any (hs.fa f) ha hw
end
/-- What a call answers, and what the array is then: refused, or done by k. -/
def mRes (r : Option Nat × St) (k : St → St) : Int × St := match r.1 with
  | none => (0, k r.2)
  | some c => (code c, r.2)
def MP (lo g : Nat) (r : Int × St) (w : World) (e : Ending) (w' : World) : Prop := e = .returned (.int .i64 r.1) ∧ Arr lo w' g r.2 ∧ Fa lo w w'
theorem mRes_none {r : Option Nat × St} (h : r.1 = none) (k : St → St) : mRes r k = (0, k r.2) := by unfold mRes; rw [h]
theorem mRes_some {r : Option Nat × St} {c : Nat} (h : r.1 = some c) (k : St → St) : mRes r k = (code c, r.2) := by unfold mRes; rw [h]
end Go.Proofs.YtdebnikolhhmgaaDoor

namespace Go.Proofs.YtdebnikolhhmgaaDoor
open Go.RowKit
set_option linter.unusedVariables false
set_option linter.unusedSimpArgs false
set_option maxRecDepth 100000

open Kr (OwnE SlE Enco RowTys)

/-- A device's flags changed where it stands. -/
theorem ArrL.flag {lo : Nat} {w : World} {g : Nat} {s : St} {dv rv : Value} {drs : List Dr} {dsp : List Value} {rcs : List CelT} {rsp : List Value} (h : ArrL lo w g s dv rv drs dsp rcs rsp) (i : Nat) (hi : i < s.devs.length) (f : Nat) (gd cap : Nat) (hdv : dv = .slice (some ⟨gd, 0, none⟩) s.devs.length cap)
    (hf : f < 256) (h8 : (f &&& 8) ≠ 0 → 0 < s.devs[i].fl) :
    Arr lo (w.setCell ⟨gd, i * 4, none⟩ (.int .u8 (f : Nat))) g { s with devs := s.devs.set i { s.devs[i] with f := f } } ∧ Fa lo w (w.setCell ⟨gd, i * 4, none⟩ (.int .u8 (f : Nat))) := by
  have hi2 : i < drs.length := by rw [h.dlen]; exact hi
  obtain ⟨e1, e2, e3, e4⟩ := h.dat i drs[i] s.devs[i] (List.getElem?_eq_getElem hi2) (List.getElem?_eq_getElem hi)
  have ho := h.own
  rw [hdv] at ho
  have o1 := OwnE.store encD ho i 0 hi2 (by omega) (f, drs[i].2.1, drs[i].2.2.1, drs[i].2.2.2) (.int .u8 (f : Nat)) rfl
  obtain ⟨k1, k2⟩ := h.put i hi hi2 (f, drs[i].2.1, drs[i].2.2.1, drs[i].2.2.2) { s.devs[i] with f := f } (by rw [hdv]; exact o1) (by rw [hdv]; exact (Frm.refl _ w).setCell _ _ (by simp [blk])) rfl e2 e3 rfl rfl
    ⟨hf, (h.fb _ (List.getElem_mem hi)).2.1, (h.fb _ (List.getElem_mem hi)).2.2.1, h8⟩
  exact ⟨⟨_, _, _, _, _, _, k1⟩, k2⟩
/-- Where a device stands. -/
def devF (s : St) (d : Int) (x : Nat) : St := setD s d fun q => { q with f := q.f ||| x }
theorem or_lt (f x : Nat) (hf : f < 256) (hx : x < 256) : f ||| x < 256 := Nat.or_lt_two_pow (n := 8) hf hx
theorem or8 (f x : Nat) (hx : x &&& 8 = 0) (h : ((f ||| x) &&& 8) ≠ 0) : (f &&& 8) ≠ 0 := by
  rw [Nat.and_or_distrib_right, hx, Nat.or_zero] at h; exact h
section
variable {lo : Nat} {w : World} {sn : Nat → Addr} {g : Nat} {s : St}
theorem okD_at {d : Int} (hd : okD s d = true) : d.toNat < s.devs.length ∧ 0 ≤ d ∧ d < s.devs.length := by
  simp only [okD, decide_eq_true_eq] at hd
  omega
theorem setD_nat {d : Int} (hi : d.toNat < s.devs.length) (u : Dv → Dv) : setD s d u = { s with devs := s.devs.set d.toNat (u s.devs[d.toNat]) } := by
  unfold setD
  rw [List.getElem?_eq_getElem hi]
set_option maxHeartbeats 4000000 in
theorem Lose_any (d : Int) (hs : Sn w lo sn) (h : Arr lo w g s) :
    Calls Tryd.prog 18 #[ptr g, .int .i64 d] w (MP lo g (mRes (dCons (nD s d, s) (nT s d, s)) fun s => devF s d 2) w) := by
  have HS := Lib.hid hs
  have AR := Lib.hid h
  have F := Lib.hid (Frm.refl [] w)
  unfold ptr
  clear h hs
  go_enter Tryd.func18, Tryd.ntmps18
  go_wp2_with (first
    | (go_at_call 50; refine (deviceOf_any _ _).mono ?_; rintro e w5 ⟨bd, rfl, hd1, f1⟩; have F := Lib.hid (F.out.trans f1 (by simp)); have LD := Lib.hid hd1;  clear hd1 f1)
    | (go_at_call 40; refine (there_any _ _).mono ?_; rintro e w2 ⟨bt, rfl, ht1, f1⟩; have F := Lib.hid (F.out.trans f1 (by simp)); have LT := Lib.hid ht1; have LD := Lib.hid (f1.heap LD.out (by simp)); clear ht1 f1))
  refine (demand_any (r := (dCons (nD s d, s) (nT s d, s))) _ [_, _] _ 2 (HS.out.keep0 (F.out.alloc _)) (AR.out.keep0 (F.out.alloc _)) (Fa.refl lo _) (heap_alloc_new _ _) rfl (by simp) (Dem.cons (needD (HS.out.keep0 (F.out.alloc _)) ((Frm.refl [] _).alloc _ |>.heap LD.out (by simp))) fun hq0 => Dem.last (needT (HS.out.keep0 (F.out.alloc _)) ((Frm.refl [] _).alloc _ |>.heap LT.out (by simp)) (nD_ok hq0)))).mono ?_
  rintro e w9 ⟨h1, h2, h3⟩
  have HS9 := Lib.hid ((HS.out.keep0 (F.out.alloc _)).fa h3)
  have F9 := Lib.hid ((Fa.of0 (F.out.alloc _) lo).trans h3)
  have A9 := Lib.hid h2
  clear h2 h3
  rcases h1 with ⟨hq, rfl⟩ | ⟨k2, tx, hq, hk6, rfl⟩
  rotate_left
  · unfold rfu
    have HQ := Lib.hid hq
    have NU := Lib.hid (number_any HS9.out tx k2 hk6)
    clear hq
    go_wp2_with (go_at_call 42; refine NU.out.mono ?_; rintro e w10 ⟨rfl, f10⟩; have F10 := Lib.hid f10; clear f10)
    go_ret
    have hq := HQ.out
    rw [mRes_some hq]
    exact ⟨rfl, A9.out.keep0 F10.out, F9.out.trans (Fa.of0 F10.out lo)⟩
  · obtain ⟨q0, q1⟩ := dCons_of hq
    obtain ⟨hi, hd0, hd9⟩ := okD_at (nD_ok q0)
    have e2 : dCons (nD s d, s) (nT s d, s) = (none, s) := by rw [dCons_none q0]; exact Prod.ext q1 rfl
    rw [e2] at A9
    obtain ⟨dv, rv, drs, dsp, rcs, rsp, h⟩ := A9.out
    obtain ⟨_, _, c2, _⟩ := h.cells
    obtain ⟨gd, cap, sv, hdv, d0, _, _, _, _, dz⟩ := h.dev _ hi
    have hfb := h.fb _ (List.getElem_mem hi)
    rw [hdv] at c2
    have BF := Lib.hid (befall_any gd (d.toNat * 4) s.devs[d.toNat].f 2 hfb.1 (by omega) w9 d0 (dz _))
    have FL := Lib.hid (h.flag d.toNat hi (s.devs[d.toNat].f ||| 2) gd cap hdv (or_lt _ _ hfb.1 (by omega)) (fun e => hfb.2.2.2 (or8 _ 2 (by decide) e)))
    have E2 := Lib.hid e2
    have SD := Lib.hid (setD_nat hi fun q => { q with f := q.f ||| 2 })
    clear h hq q0 q1 e2 hdv d0 dz hfb
    go_wp2_with (go_at_call 56; refine BF.out.mono ?_; rintro e w11 ⟨rfl, rfl⟩)
    go_ret
    rw [E2.out]
    exact ⟨rfl, show Arr lo _ g (devF s d 2) from by unfold devF; rw [SD.out]; exact FL.out.1, F9.out.trans FL.out.2⟩
end
end Go.Proofs.YtdebnikolhhmgaaDoor

namespace Go.Proofs.YtdebnikolhhmgaaDoor
open Go.RowKit
set_option linter.unusedVariables false
set_option linter.unusedSimpArgs false
set_option maxRecDepth 100000

open Kr (OwnE SlE Enco RowTys)

def devS (s : St) (d at' : Int) : St := setD s d fun q => { q with f := q.f ||| 4, str := at' }
section
variable {lo : Nat} {w : World} {sn : Nat → Addr} {g : Nat} {s : St}
set_option maxHeartbeats 4000000 in
theorem Up_any (d : Int) (hs : Sn w lo sn) (h : Arr lo w g s) :
    Calls Tryd.prog 27 #[ptr g, .int .i64 d] w fun e w' => e = .returned (.bool (dCons (nR s, s) (dCons (nD s d, s) (nT s d, s))).1.isNone) ∧ Arr lo w' g s ∧ Fa lo w w' := by
  have HS := Lib.hid hs
  have AR := Lib.hid h
  have F := Lib.hid (Frm.refl [] w)
  unfold ptr
  have e2 : (dCons (nR s, s) (dCons (nD s d, s) (nT s d, s))).2 = s := by unfold dCons; split; (split; rfl; rfl); rfl
  clear h hs
  go_enter Tryd.func27, Tryd.ntmps27
  go_wp2_with (first
    | (go_at_call 50; refine (deviceOf_any _ _).mono ?_; rintro e w5 ⟨bd, rfl, hd1, f1⟩; have F := Lib.hid (F.out.trans f1 (by simp)); have LD := Lib.hid hd1;  clear hd1 f1)
    | (go_at_call 40; refine (there_any _ _).mono ?_; rintro e w2 ⟨bt, rfl, ht1, f1⟩; have F := Lib.hid (F.out.trans f1 (by simp)); have LT := Lib.hid ht1; have LD := Lib.hid (f1.heap LD.out (by simp)); clear ht1 f1))
  refine (demand_any (r := (dCons (nR s, s) (dCons (nD s d, s) (nT s d, s)))) _ [_, _, _] _ 3 (HS.out.keep0 (F.out.alloc _)) (AR.out.keep0 (F.out.alloc _)) (Fa.refl lo _) (heap_alloc_new _ _) rfl (by simp) (Dem.cons (needR (HS.out.keep0 (F.out.alloc _))) fun hq0 => Dem.cons (needD (HS.out.keep0 (F.out.alloc _)) ((Frm.refl [] _).alloc _ |>.heap LD.out (by simp))) fun hq1 => Dem.last (needT (HS.out.keep0 (F.out.alloc _)) ((Frm.refl [] _).alloc _ |>.heap LT.out (by simp)) (nD_ok hq1)))).mono ?_
  rintro e w9 ⟨h1, h2, h3⟩
  have HS9 := Lib.hid ((HS.out.keep0 (F.out.alloc _)).fa h3)
  have F9 := Lib.hid ((Fa.of0 (F.out.alloc _) lo).trans h3)
  have A9 := Lib.hid h2
  clear h2 h3
  rw [e2] at A9
  rcases h1 with ⟨hq, rfl⟩ | ⟨k2, tx, hq, hk6, rfl⟩
  · have HQ := Lib.hid hq
    clear hq e2
    go_wp2_with fail
    go_ret
    exact ⟨by rw [HQ.out]; rfl, A9.out, F9.out⟩
  · unfold rfu
    have HQ := Lib.hid hq
    clear hq e2
    go_wp2_with fail
    go_ret
    exact ⟨by rw [HQ.out]; rfl, A9.out, F9.out⟩
theorem Loose_any (h : Arr lo w g s) : Calls Tryd.prog 25 #[ptr g] w fun e w' => e = .returned (.int .i64 (s.row.length : Int)) ∧ w' = w := by
  obtain ⟨dv, rv, drs, dsp, rcs, rsp, h⟩ := h
  obtain ⟨c0, c1, c2, c3, c4, c5, c6, c7, cz⟩ := h.cells
  have hm := made_yes g w c0
  unfold ptr
  obtain ⟨ga, cap, hv, hcap, hmx⟩ := h.row.sl.form
  rw [hv, h.rlen] at c3
  clear hv hcap hmx
  clear h c0 c1 c2 c4 c5 c6 c7 cz
  go_enter Tryd.func25, Tryd.ntmps25
  go_wp2_with (go_at_call 59; refine hm.mono ?_; rintro e w8 ⟨rfl, hw8⟩; obtain rfl := hw8.symm)
  go_ret
  exact ⟨rfl, rfl⟩
theorem Steps_any (h : Arr lo w g s) : Calls Tryd.prog 26 #[ptr g] w fun e w' => e = .returned (.int .i64 s.steps) ∧ w' = w := by
  obtain ⟨dv, rv, drs, dsp, rcs, rsp, h⟩ := h
  obtain ⟨c0, c1, c2, c3, c4, c5, c6, c7, cz⟩ := h.cells
  have hm := made_yes g w c0
  unfold ptr
  clear h c0 c1 c2 c3 c4 c5 c6 cz
  go_enter Tryd.func26, Tryd.ntmps26
  go_wp2_with (go_at_call 59; refine hm.mono ?_; rintro e w8 ⟨rfl, hw8⟩; obtain rfl := hw8.symm)
  go_ret
  exact ⟨rfl, rfl⟩
end
end Go.Proofs.YtdebnikolhhmgaaDoor

namespace Go.Proofs.YtdebnikolhhmgaaDoor
open Go.RowKit
set_option linter.unusedVariables false
set_option linter.unusedSimpArgs false
set_option maxRecDepth 100000

open Kr (OwnE SlE Enco RowTys)
theorem BT : ByteTys Tryd.prog 22 5 := ⟨Tryd.underlying22, Tryd.underlying5, by kernel_rfl⟩
theorem eqSl (w : World) (a : Option Addr) (n c : Nat) : (binOp .eql 22 (.slice a n c) (.slice none 0 0)).run Tryd.prog w = .ok (.bool a.isNone) w := Lib.run_eql_slice_nil w 22 5 a n c 0 0 Tryd.underlying22
def Cloned (w : World) (l : List UInt8) (r : Ending) (w' : World) : Prop := ∃ a cap sp', r = .returned (.slice a l.length cap) ∧ OwnB 5 w' (.slice a l.length cap) l sp' ∧ Frm [] w w'
theorem Clone_any (v : Value) (l sp : List UInt8) (w : World) (hS : SlB w v l sp) (hl : l.length ≤ 140737488355328) :
    Calls Tryd.prog 43 #[v] w fun r w' => Cloned w l r w' := by
  have hS' := hS
  have he := eqSl
  have hS3 := hS
  obtain ⟨h1, ⟨rfl, h2, h3⟩ | ha⟩ := hS'
  · obtain rfl : l = [] := List.eq_nil_of_length_eq_zero h2
    go_enter Tryd.func43, Tryd.ntmps43
    go_wp2_with fail
    go_ret
    exact ⟨none, 0, [], rfl, OwnB.nil _ _, Frm.refl _ _⟩
  · have hS2 := Lib.hid hS
    obtain ⟨ad, cap, rfl⟩ : ∃ ad cap, v = .slice (some ad) l.length cap := by
      rcases ha with ⟨a, rfl, h2, h3⟩ | ⟨b, off, cap, rfl, _⟩
      · exact ⟨a, 0, by rw [h2]⟩
      · exact ⟨_, cap, rfl⟩
    clear hS h1 ha hS3
    have o0 : OwnB 5 (w.alloc (.cells #[] 5)) (.slice (some ⟨w.heap.size, 0, none⟩) 0 0) [] [] := OwnB.of_heap (heap_alloc_new _ _) rfl rfl (by simp)
    have f0 : Frm [] w (w.alloc (.cells #[] 5)) := (Frm.refl _ _).alloc _
    go_enter Tryd.func43, Tryd.ntmps43
    go_wp2_with (at_builtin; refine wpList_append_bytes BT o0 (hS2.out.keep f0 (by simp)) (by simp; omega) rfl (.tmp 5) (.tmp 6) rfl rfl rfl ?_; intro a' cap' w' sp' o1 f1 b1)
    go_ret
    exact ⟨a', cap', sp', by simp, by simpa using o1, f0.trans f1 (by simp [blk])⟩
theorem sector_any (g gd gs n cap m cap2 : Nat) (d a : Int) (hd : 0 ≤ d ∧ d < n) (ha : 0 ≤ a ∧ a < m) (hn : n ≤ 9223372036854775807) (hm : m ≤ 9223372036854775807) (w : World) (c2 : w.cell? ⟨g, 2, none⟩ = some (.slice (some ⟨gd, 0, none⟩) n cap)) (c3 : w.cell? ⟨gd, d.toNat * 4 + 3, none⟩ = some (.slice (some ⟨gs, 0, none⟩) m cap2)) :
    Calls Tryd.prog 44 #[ptr g, .int .i64 d, .int .i64 a] w fun e w' => e = .returned (.pointer (some ⟨gs, a.toNat * 257, none⟩)) ∧ w' = w := by
  unfold ptr
  obtain ⟨hd0, hd9⟩ := hd
  obtain ⟨ha0, ha9⟩ := ha
  go_enter Tryd.func44, Tryd.ntmps44
  go_wp2_with fail
  go_ret
  exact ⟨rfl, rfl⟩
theorem slB_at {w : World} {b o : Nat} {l : FB} (h : ∀ j u, (bvs l.1)[j]? = some u → w.cell? ⟨b, o + j, none⟩ = some u) : SlB w (.slice (some ⟨b, o, none⟩) 256 256) l.1 [] := by
  refine ⟨by rw [bvs_length]; omega, .inr (.inr ⟨b, o, 256, by rw [l.2], by rw [l.2]; omega, by simp only [maxLen]; omega, by rw [show bvs [] = [] from rfl, List.append_nil, bvs_length, l.2], fun j u hu => h j u (by rwa [show bvs [] = [] from rfl, List.append_nil] at hu)⟩)⟩
/-- What a sector tells. -/
def tell (c : Sc) : FB := match c.last with
  | some x => x
  | none => c.firm
theorem tells_any (gs o : Nat) (c : Sc) (lv : Value) (w : World) (T : TypeId) (cs : Array Value) (hh : w.heap[gs]? = some (.cells cs T (0, 0))) (hc : ∀ j u, (bvs c.firm.1)[j]? = some u → w.cell? ⟨gs, o + j, none⟩ = some u) (hl : w.cell? ⟨gs, o + 256, none⟩ = some lv) (hv : LaV w lv c.last) :
    Calls Tryd.prog 45 #[.pointer (some ⟨gs, o, none⟩)] w fun e w' => ∃ v, e = .returned v ∧ SlB w v (tell c).1 [] ∧ w' = w := by
  have H := Lib.hid hc
  have HH := Lib.hid hh
  have e0 : ∀ p : Addr, (binOp .neq 90 (.pointer (some p)) (.pointer none)).run Tryd.prog w = .ok (.bool true) w := fun p => rfl
  rcases hv with ⟨e1, rfl⟩ | ⟨gw, x, e1, rfl, hb⟩
  · have E1 := Lib.hid e1
    clear hc hh e1
    go_enter Tryd.func45, Tryd.ntmps45
    go_wp2_with fail
    go_ret
    refine ⟨_, rfl, ?_, rfl⟩
    rw [show tell c = c.firm by unfold tell; rw [E1.out]]
    exact slB_at H.out
  · have E1 := Lib.hid e1
    have HB := Lib.hid hb
    clear hc hh e1 hb
    go_enter Tryd.func45, Tryd.ntmps45
    go_wp2_with fail
    go_ret
    refine ⟨_, rfl, ?_, rfl⟩
    rw [show tell c = x.b by unfold tell; rw [E1.out]]
    exact slB_at fun j u hu => by
      rw [cell_of_heap HB.out, List.getElem?_toArray, show 2 + j = j + 1 + 1 by omega, List.getElem?_cons_succ, List.getElem?_cons_succ]
      exact hu
/-- Devices that are there have their sectors. -/
def WfD (s : St) : Prop := ∀ q ∈ s.devs, (q.f &&& 1) = 0 → q.secs.length = s.n
def secAt (s : St) (d a : Int) : Sc := match s.devs[d.toNat]? with
  | some q => q.secs.getD a.toNat ⟨⟨List.replicate 256 0, by simp⟩, none⟩
  | none => ⟨⟨List.replicate 256 0, by simp⟩, none⟩
def tellAt (s : St) (d a : Int) : List UInt8 := (tell (secAt s d a)).1
section
variable {lo : Nat} {w : World} {sn : Nat → Addr} {g : Nat} {s : St}
theorem okA_at {a : Int} (ha : okA s a = true) : a.toNat < s.n ∧ 0 ≤ a ∧ a < s.n := by
  simp only [okA, decide_eq_true_eq] at ha
  omega
theorem nT_len {d : Int} (hw : WfD s) (hi : d.toNat < s.devs.length) (h : nT s d = none) : s.devs[d.toNat].secs.length = s.n := by
  refine hw _ (List.getElem_mem hi) ?_
  unfold nT gone hasF at h
  rw [List.getElem?_eq_getElem hi] at h
  by_cases e : (s.devs[d.toNat].f &&& 1) = 0
  · exact e
  · have e' : ((s.devs[d.toNat].f &&& 1) != 0) = true := by simpa using e
    simp only [e'] at h
    cases h
theorem secAt_at {d a : Int} (hi : d.toNat < s.devs.length) (ha : a.toNat < s.devs[d.toNat].secs.length) : secAt s d a = s.devs[d.toNat].secs[a.toNat] := by
  unfold secAt
  rw [List.getElem?_eq_getElem hi]
  simp [ha]
/-- A sector where it stands. -/
theorem ArrL.sec {dv rv : Value} {drs : List Dr} {dsp : List Value} {rcs : List CelT} {rsp : List Value} (h : ArrL lo w g s dv rv drs dsp rcs rsp) {d a : Int} (hi : d.toNat < s.devs.length) (ha : a.toNat < s.devs[d.toNat].secs.length) :
    ∃ gd cap gs cap2 lv, w.cell? ⟨g, 2, none⟩ = some (.slice (some ⟨gd, 0, none⟩) s.devs.length cap) ∧ w.cell? ⟨gd, d.toNat * 4 + 3, none⟩ = some (.slice (some ⟨gs, 0, none⟩) s.devs[d.toNat].secs.length cap2) ∧
      (∀ j u, (bvs s.devs[d.toNat].secs[a.toNat].firm.1)[j]? = some u → w.cell? ⟨gs, a.toNat * 257 + j, none⟩ = some u) ∧ w.cell? ⟨gs, a.toNat * 257 + 256, none⟩ = some lv ∧ LaV w lv s.devs[d.toNat].secs[a.toNat].last ∧ s.devs[d.toNat].secs.length ≤ 9223372036854775807 ∧ (∃ cs T, w.heap[gs]? = some (.cells cs T (0, 0))) := by
  obtain ⟨_, _, c2, _⟩ := h.cells
  obtain ⟨gd, cap, sv, hdv, _, _, _, d3, hs, dz⟩ := h.dev _ hi
  rw [hdv] at c2
  obtain ⟨gs, cap2, lv, hsv, h1, h2, h3, _⟩ := hs.at _ ha
  obtain ⟨scs, csp, k1, k2, k3, _⟩ := hs
  rw [hsv] at d3
  refine ⟨gd, cap, gs, cap2, lv, c2, d3, h1, h2, h3, ?_, ?_⟩
  · obtain ⟨_, _, e, e1, e2⟩ := k1.sl.form
    rw [k3] at e1
    simp only [maxLen] at e2
    omega
  · rw [hsv] at k1
    exact ⟨_, _, k1.heap⟩
def RdP (lo g : Nat) (r : Option Nat × St) (l : List UInt8) (w : World) (e : Ending) (w' : World) : Prop :=
  ((r.1 = none ∧ ∃ a cap sp, e = .returned (.tuple #[.slice a 256 cap, .int .i64 0]) ∧ OwnB 5 w' (.slice a 256 cap) l sp) ∨ ∃ k, r.1 = some k ∧ e = .returned (.tuple #[.slice none 0 0, .int .i64 (code k)])) ∧ Arr lo w' g r.2 ∧ Fa lo w w'
set_option maxHeartbeats 4000000 in
theorem Read_any (d a : Int) (hs : Sn w lo sn) (h : Arr lo w g s) (WF : WfS s) (WD : WfD s) :
    Calls Tryd.prog 11 #[ptr g, .int .i64 d, .int .i64 a] w (RdP lo g (dCons (nR s, s) (dCons (nS s d a, s) (dCons (nT s d, s) (nFail s d)))) (tellAt s d a) w) := by
  have HS := Lib.hid hs
  have AR := Lib.hid h
  have F := Lib.hid (Frm.refl [] w)
  unfold ptr
  clear h hs
  go_enter Tryd.func11, Tryd.ntmps11
  go_wp2_with (first
    | (go_at_call 39; refine (sectorOf_any _ _ _).mono ?_; rintro e w1 ⟨bs1, bs2, rfl, hs1, hs2, f1⟩; have F := Lib.hid (F.out.trans f1 (by simp)); have LS1 := Lib.hid hs1; have LS2 := Lib.hid hs2;  clear hs1 hs2 f1)
    | (go_at_call 40; refine (there_any _ _).mono ?_; rintro e w2 ⟨bt, rfl, ht1, f1⟩; have F := Lib.hid (F.out.trans f1 (by simp)); have LT := Lib.hid ht1; have LS1 := Lib.hid (f1.heap LS1.out (by simp)); have LS2 := Lib.hid (f1.heap LS2.out (by simp)); clear ht1 f1)
    | (go_at_call 41; refine (noFailure_any _ _).mono ?_; rintro e w3 ⟨bf, rfl, hf1, f1⟩; have F := Lib.hid (F.out.trans f1 (by simp)); have LF := Lib.hid hf1; have LS1 := Lib.hid (f1.heap LS1.out (by simp)); have LS2 := Lib.hid (f1.heap LS2.out (by simp)); have LT := Lib.hid (f1.heap LT.out (by simp)); clear hf1 f1))
  refine (demand_any (r := (dCons (nR s, s) (dCons (nS s d a, s) (dCons (nT s d, s) (nFail s d))))) _ [_, _, _, _] _ 4 (HS.out.keep0 (F.out.alloc _)) (AR.out.keep0 (F.out.alloc _)) (Fa.refl lo _) (heap_alloc_new _ _) rfl (by simp) (Dem.cons (needR (HS.out.keep0 (F.out.alloc _))) fun hq0 => Dem.cons (needS (HS.out.keep0 (F.out.alloc _)) WF ((Frm.refl [] _).alloc _ |>.heap LS1.out (by simp)) ((Frm.refl [] _).alloc _ |>.heap LS2.out (by simp))) fun hq1 => Dem.cons (needT (HS.out.keep0 (F.out.alloc _)) ((Frm.refl [] _).alloc _ |>.heap LT.out (by simp)) (nS_ok hq1).1) fun hq2 => Dem.last (needF (HS.out.keep0 (F.out.alloc _)) ((Frm.refl [] _).alloc _ |>.heap LF.out (by simp)) (nS_ok hq1).1))).mono ?_
  rintro e w9 ⟨h1, h2, h3⟩
  have HS9 := Lib.hid ((HS.out.keep0 (F.out.alloc _)).fa h3)
  have F9 := Lib.hid ((Fa.of0 (F.out.alloc _) lo).trans h3)
  have A9 := Lib.hid h2
  clear h2 h3
  rcases h1 with ⟨hq, rfl⟩ | ⟨k2, tx, hq, hk6, rfl⟩
  rotate_left
  · unfold rfu
    have HQ := Lib.hid hq
    have NU := Lib.hid (number_any HS9.out tx k2 hk6)
    clear hq
    go_wp2_with (go_at_call 42; refine NU.out.mono ?_; rintro e w10 ⟨rfl, f10⟩; have F10 := Lib.hid f10; clear f10)
    go_ret2
    exact ⟨.inr ⟨k2, HQ.out, rfl⟩, A9.out.keep0 F10.out, F9.out.trans (Fa.of0 F10.out lo)⟩
  · obtain ⟨q0, q1⟩ := dCons_of hq
    obtain ⟨q1, q2⟩ := dCons_of q1
    obtain ⟨q2, q3⟩ := dCons_of q2
    obtain ⟨hi, hd0, hd9⟩ := okD_at (nS_ok q1).1
    obtain ⟨hj, ha0, ha9⟩ := okA_at (nS_ok q1).2
    have e2 : dCons (nR s, s) (dCons (nS s d a, s) (dCons (nT s d, s) (nFail s d))) = (none, s) := by
      rw [dCons_none q0, dCons_none q1, dCons_none q2]
      unfold nFail at q3 ⊢
      split at q3
      · cases q3
      · rename_i h; rw [if_neg h]
    rw [e2] at A9
    have A9 := Lib.hid (show Arr lo w9 g s from A9.out)
    have hlen := nT_len WD hi q2
    obtain ⟨dv, rv, drs, dsp, rcs, rsp, h⟩ := A9.out
    rw [← hlen] at hj
    obtain ⟨gd, cap, gs, cap2, lv, c2, c3, hby, hla, hlv, hmx, cs, T, hh⟩ := h.sec hi hj
    have hln : s.devs.length ≤ 9223372036854775807 := A9.out.len
    have SA := Lib.hid (sector_any g gd gs _ cap _ cap2 d a ⟨hd0, hd9⟩ ⟨ha0, by omega⟩ hln hmx w9 c2 c3)
    have TA := Lib.hid (tells_any gs (a.toNat * 257) _ lv w9 T cs hh hby hla hlv)
    have E2 := Lib.hid e2
    have SE := Lib.hid (secAt_at hi hj)
    clear h hq q0 q1 q2 q3 e2 c2 c3 hby hla hlv hmx hh WD WF
    go_wp2_with (first
      | (go_at_call 44; refine SA.out.mono ?_; rintro e w11 ⟨rfl, hw11⟩; obtain rfl := hw11.symm)
      | (go_at_call 45; refine TA.out.mono ?_; rintro e w12 ⟨v, rfl, hv, hw12⟩; obtain rfl := hw12.symm; have cl := Clone_any v _ _ w9 hv (by rw [(tell s.devs[d.toNat].secs[a.toNat]).2]; omega); unfold Cloned at cl; rw [(tell s.devs[d.toNat].secs[a.toNat]).2] at cl; have CL := Lib.hid cl; clear hv cl)
      | (go_at_call 43; refine CL.out.mono ?_; rintro e w13 ⟨ca, ccap, csp, rfl, ho, f13⟩; have OW := Lib.hid ho; have F13 := Lib.hid f13; clear ho f13))
    go_ret2
    rw [E2.out]
    have ho := OW.out
    refine ⟨.inl ⟨rfl, ca, ccap, csp, rfl, ?_⟩, A9.out.keep0 F13.out, F9.out.trans (Fa.of0 F13.out lo)⟩
    unfold tellAt
    rw [SE.out]
    exact ho
end
end Go.Proofs.YtdebnikolhhmgaaDoor

namespace Go.Proofs.YtdebnikolhhmgaaDoor
open Go.RowKit
set_option linter.unusedVariables false
set_option linter.unusedSimpArgs false
set_option maxRecDepth 100000

open Kr (OwnE SlE Enco RowTys)
/-- A device's sectors changed. -/
theorem ArrL.sect {lo : Nat} {w w' : World} {g : Nat} {s : St} {dv rv : Value} {drs : List Dr} {dsp : List Value} {rcs : List CelT} {rsp : List Value} (h : ArrL lo w g s dv rv drs dsp rcs rsp) (i : Nat) (hi : i < s.devs.length) (hi2 : i < drs.length) (secs' : List Sc)
    (f : Frm (blk drs[i].2.2.2.1) w w') (hs : SecP lo w' drs[i].2.2.2.1 secs') : ArrL lo w' g { s with devs := s.devs.set i { s.devs[i] with secs := secs' } } dv rv drs dsp rcs rsp ∧ Fa lo w w' := by
  obtain ⟨d1, d2, d3, scs, csp, o1, o2, _, _⟩ := h.dat i drs[i] s.devs[i] (List.getElem?_eq_getElem hi2) (List.getElem?_eq_getElem hi)
  have hob := own_blk o1
  have hfa : Fa lo w w' := Fa.of_frm f fun k hk => by obtain ⟨cs, hc⟩ := hob k hk; exact ⟨o2 k hk, cs, 96, _, hc, by decide⟩
  have hno : ∀ {T k : Nat} {n : Nat} {v : Value} {xs sp : List Value}, Own T k w v n xs sp → T ≠ 96 → ∀ j ∈ blk v, j ∉ blk drs[i].2.2.2.1 := fun ho ht j hj hm => by
    obtain ⟨cs, hc⟩ := hob j hm
    obtain ⟨cs', hc'⟩ := own_blk ho j hj
    rw [hc] at hc'; cases hc'; exact ht rfl
  have hg : g ∉ blk drs[i].2.2.2.1 := fun hm => by obtain ⟨cs, hc⟩ := hob g hm; rw [h.rcd] at hc; cases hc
  refine ⟨⟨f.heap h.rcd hg, h.glo, h.own.keep f (hno h.own (by decide)), h.dlo, by simp [h.dlen], fun j q d hq hd => ?_, fun d hd => ?_, h.dis, h.row.keep f (hno h.row (by decide)), h.rlo, h.rlen, fun j c x hc hx => by obtain ⟨gw, e1, e2⟩ := h.rat j c x hc hx; exact ⟨gw, e1, hfa.typ _ _ _ _ e2 (by decide)⟩⟩, hfa⟩
  · simp only at hd
    by_cases e : j = i
    · subst e
      rw [List.getElem?_eq_getElem hi2] at hq
      rw [List.getElem?_set_self hi] at hd
      cases hq; cases hd
      exact ⟨d1, d2, d3, hs⟩
    · rw [List.getElem?_set_ne (fun h => e h.symm)] at hd
      obtain ⟨k1, k2, k3, k4⟩ := h.dat j q d hq hd
      exact ⟨k1, k2, k3, k4.apart f hfa (h.dis j i q drs[i] e hq (List.getElem?_eq_getElem hi2))⟩
  · simp only at hd
    rcases List.mem_or_eq_of_mem_set hd with hd | rfl
    · exact h.fb d hd
    · have := h.fb s.devs[i] (List.getElem_mem hi); exact this
theorem ArrL.lo_le {lo : Nat} {w : World} {g : Nat} {s : St} {dv rv : Value} {drs : List Dr} {dsp : List Value} {rcs : List CelT} {rsp : List Value} (h : ArrL lo w g s dv rv drs dsp rcs rsp) : lo ≤ w.heap.size := by
  have := h.glo
  have := lt_heap h.rcd
  omega
/-- The row of loose writes changed. -/
theorem ArrL.setRow {lo : Nat} {w w' : World} {g : Nat} {s : St} {dv rv : Value} {drs : List Dr} {dsp : List Value} {rcs : List CelT} {rsp : List Value} (h : ArrL lo w g s dv rv drs dsp rcs rsp) (s' : St) (rv' : Value) (rcs' : List CelT) (rsp' : List Value) (hd : s'.devs = s.devs)
    (f : Frm (g :: blk rv) w w') (hr : w'.heap[g]? = some (.cells (arc g s' dv rv').toArray 35 (0, 0))) (ho : OwnE eC 1 90 w' rv' rcs' rsp') (hb : ∀ k ∈ blk rv', k ∈ blk rv ∨ w.heap.size ≤ k) (hl : rcs'.length = s'.row.length)
    (ha : ∀ (i : Nat) (c : CelT) (x : Wt), rcs'[i]? = some c → s'.row[i]? = some x → ∃ gw, c.1 = .pointer (some ⟨gw, 0, none⟩) ∧ WtB w' gw x) : ArrL lo w' g s' dv rv' drs dsp rcs' rsp' ∧ Fa lo w w' := by
  have hob := own_blk h.row
  have hall : ∀ k ∈ g :: blk rv, ∃ cs T, w.heap[k]? = some (.cells cs T (0, 0)) ∧ (T = 35 ∨ T = 90) := fun k hk => by
    rcases List.mem_cons.1 hk with rfl | hk
    · exact ⟨_, _, h.rcd, .inl rfl⟩
    · obtain ⟨cs, hc⟩ := hob k hk; exact ⟨cs, 90, hc, .inr rfl⟩
  have hfa : Fa lo w w' := Fa.of_frm f fun k hk => by
    obtain ⟨cs, T, hc, ht⟩ := hall k hk
    refine ⟨?_, cs, T, _, hc, by rcases ht with rfl | rfl <;> decide⟩
    rcases List.mem_cons.1 hk with rfl | hk
    · exact h.glo
    · exact h.rlo k hk
  have hno : ∀ {T k : Nat} {n : Nat} {v : Value} {xs sp : List Value}, Own T k w v n xs sp → T ≠ 35 → T ≠ 90 → ∀ j ∈ blk v, j ∉ g :: blk rv := fun ho h1 h2 j hj hm => by
    obtain ⟨cs, T', hc, ht⟩ := hall j hm
    obtain ⟨cs', hc'⟩ := own_blk ho j hj
    rw [hc] at hc'; cases hc'
    rcases ht with rfl | rfl
    · exact h1 rfl
    · exact h2 rfl
  refine ⟨⟨hr, h.glo, h.own.keep f (hno h.own (by decide) (by decide)), h.dlo, by rw [hd]; exact h.dlen, fun j q d hq hd2 => ?_, fun d hd2 => h.fb d (by rw [← hd]; exact hd2), h.dis, ho, fun k hk => ?_, hl, ha⟩, hfa⟩
  · rw [hd] at hd2
    obtain ⟨k1, k2, k3, k4⟩ := h.dat j q d hq hd2
    refine ⟨k1, k2, k3, ?_⟩
    obtain ⟨scs, csp, o1, o2, o3, o4⟩ := id k4
    exact k4.apart f hfa (hno o1 (by decide) (by decide))
  · rcases hb k hk with hk | hk
    · exact h.rlo k hk
    · have := h.lo_le; omega
/-- A sector's loose write set. -/
theorem SecP.setLast {lo : Nat} {w : World} {gs cap n : Nat} {l : List Sc} (h : SecP lo w (.slice (some ⟨gs, 0, none⟩) n cap) l) (j : Nat) (hj : j < l.length) (v : CelT) (o : Option FB) (hv : LaV (w.setCell ⟨gs, j * 257 + 256, none⟩ v.1) v.1 o) (hfa : Fa lo w (w.setCell ⟨gs, j * 257 + 256, none⟩ v.1)) :
    SecP lo (w.setCell ⟨gs, j * 257 + 256, none⟩ v.1) (.slice (some ⟨gs, 0, none⟩) n cap) (l.set j { l[j] with last := o }) := by
  obtain ⟨scs, csp, h1, h2, h3, h4⟩ := h
  have hj2 : j < scs.length := by omega
  have hl : (bvs scs[j].1.1).length = 256 := by rw [bvs_length, scs[j].1.2]
  refine ⟨_, csp, OwnE.store encS h1 j 256 hj2 (by omega) (scs[j].1, v) v.1 (by unfold eS; rw [List.set_append_right _ _ (by omega), hl]; rfl), h2, by simp [h3], fun i q c hq hc => ?_⟩
  by_cases e : i = j
  · subst e
    rw [List.getElem?_set_self hj2] at hq
    rw [List.getElem?_set_self hj] at hc
    cases hq; cases hc
    obtain ⟨e1, _⟩ := h4 i scs[i] l[i] (List.getElem?_eq_getElem hj2) (List.getElem?_eq_getElem hj)
    exact ⟨e1, hv⟩
  · rw [List.getElem?_set_ne (fun h => e h.symm)] at hq hc
    obtain ⟨e1, e2⟩ := h4 i q c hq hc
    exact ⟨e1, e2.fa hfa⟩
def setSec (s : St) (d a : Int) (u : Sc → Sc) : St := setD s d fun q => { q with secs := match q.secs[a.toNat]? with
  | some c => q.secs.set a.toNat (u c)
  | none => q.secs }
theorem setSec_nat {s : St} {d a : Int} (hi : d.toNat < s.devs.length) (hj : a.toNat < s.devs[d.toNat].secs.length) (u : Sc → Sc) : setSec s d a u = { s with devs := s.devs.set d.toNat { s.devs[d.toNat] with secs := s.devs[d.toNat].secs.set a.toNat (u s.devs[d.toNat].secs[a.toNat]) } } := by
  unfold setSec
  rw [setD_nat hi, List.getElem?_eq_getElem hj]
end Go.Proofs.YtdebnikolhhmgaaDoor

namespace Go.Proofs.YtdebnikolhhmgaaDoor
open Go.RowKit
set_option linter.unusedVariables false
set_option linter.unusedSimpArgs false
set_option maxRecDepth 100000

open Kr (OwnE SlE Enco RowTys)
theorem u94 : Tryd.prog.underlying 94 = some (.array 256 5) := by kernel_rfl
theorem i94 : (Tryd.prog.info? 94).map (·.size) = some 256 := by kernel_rfl
theorem arr94 (a : Addr) (cap : Nat) (W : World) : (Instr.arrayAt 94 (.slice (some a) 256 cap)).run Tryd.prog W = .ok (.pointer (some a)) W := by
  simp [Instr.arrayAt, Sem.run_bind, run_underlying u94, Result.andThen]
theorem exec_arr94 {o : Oper} {ac : Act} (s : Operand) (hop : o.op = Op.sliceToArrayPointer 94 s) {a : Addr} {cap : Nat} (h1 : ac.eval s = .slice (some a) 256 cap) (W : World) : (execOp ac.eval o).run Tryd.prog W = .ok (.value (.pointer (some a))) W := by
  have h := arr94 a cap W
  simp only [execOp, hop, h1, Sem.run_bind, Sem.run_pure, h, Result.andThen_ok]
theorem SlB.cellAt {w : World} {b off n cap : Nat} {l sp : List UInt8} (h : SlB w (.slice (some ⟨b, off, none⟩) n cap) l sp) (k : Nat) (hk : k < l.length) : w.cell? ⟨b, off + k, none⟩ = some (.int .u8 l[k].toNat) := by
  obtain ⟨h1, h2 | ⟨a, h2, h3, h4⟩ | ⟨b', off', cap', h2, h3, h4, h5, h6⟩⟩ := h
  · cases h2.1
  · omega
  · cases h2
    refine h6 k _ ?_
    rw [List.getElem?_append_left (by rw [bvs_length]; exact hk)]
    simp [bvs, bv, List.getElem?_map, List.getElem?_eq_getElem hk]
theorem SlB.load94 {w : World} {b off cap : Nat} {l sp : List UInt8} (h : SlB w (.slice (some ⟨b, off, none⟩) 256 cap) l sp) (hl : l.length = 256) : (Instr.loadAt 94 (.pointer (some ⟨b, off, none⟩))).run Tryd.prog w = .ok (.agg (bvs l).toArray) w := by
  refine run_loadAt_mid w b off 94 (bvs l) _ (fun j u hu => ?_) Tryd.underlying94 rfl (by rw [i94]; simp [bvs_length, hl])
  have hj : j < l.length := by have := (List.getElem?_eq_some_iff.1 hu).1; simpa [bvs_length] using this
  have hc := SlB.cellAt h j hj
  rw [hc]
  rw [← hu]
  simp [bvs, bv, List.getElem?_map, List.getElem?_eq_getElem hj]
theorem wpList_load_g {P : Program} {ops : Array Oper} {rest : List Oper} {op : Oper} {a : Act} {w : World} {Q : Exit → Act → World → Prop} (hw : Region.wanted op (yielded ops a.tmps) = true) (ty : TypeId) (x : Operand) (ho : op.op = .load ty x)
    (p : Addr) (hx : a.eval x = .pointer (some p)) {v : Value} (hl : (Instr.loadAt ty (.pointer (some p))).run P w = .ok v w)
    (h : wpList P ops Q rest (a.put op.dst v) w) : wpList P ops Q (op :: rest) a w :=
  wpList_step fun K hK => by
    have he : (execOp a.eval op).run P w = .ok (.value v) w := by simp [execOp, ho, hx, hl, Result.andThen]
    rw [if_pos hw]
    unfold Oper.wp
    rw [he]
    exact hK _ _ h
theorem fold_set2 (off : Nat) (post : List Value) : ∀ (vs : List Value) (k : Nat) (pre mid : List Value), mid.length = vs.length → pre.length = off + k → (vs.zipIdx k).foldl (fun (cs : Array Value) (x : Value × Nat) => cs.setIfInBounds (off + x.2) x.1) (pre ++ (mid ++ post)).toArray = (pre ++ (vs ++ post)).toArray
  | [], k, pre, mid, h, _ => by
    obtain rfl : mid = [] := List.eq_nil_of_length_eq_zero (by simpa using h)
    rfl
  | v :: vs, k, pre, [], h, _ => by simp at h
  | v :: vs, k, pre, s :: mid, h, hp => by
    have ih := fold_set2 off post vs (k + 1) (pre ++ [v]) mid (by simpa using h) (by simp; omega)
    simp only [List.zipIdx_cons, List.foldl_cons]
    have e : (pre ++ (s :: mid ++ post)).toArray.setIfInBounds (off + k) v = (pre ++ [v] ++ (mid ++ post)).toArray := by
      apply Array.ext'
      rw [Array.toList_setIfInBounds, ← hp]
      simp
    rw [e]
    simpa using ih
theorem fill_cons {place : Nat → Option (Nat × Nat)} {cells : Array Value} {i : Nat} {v : Value} {rest : List (Nat × Value)} {off size : Nat} (hp : place i = some (off, size)) (h1 : v.cells.size = size) (h2 : off + size ≤ cells.size) :
    Instr.fill place cells ((i, v) :: rest) = Instr.fill place (v.cells.zipIdx.foldl (fun (cs : Array Value) (x : Value × Nat) => cs.setIfInBounds (off + x.2) x.1) cells) rest := by
  subst h1
  rw [Instr.fill, hp]
  simp only
  rw [if_neg (by simp; omega)]
def wtc (d a : Int) (l : List UInt8) : List Value := .int .i64 d :: .int .i64 a :: bvs l
theorem fill105 (place : Nat → Option (Nat × Nat)) (p0 : place 0 = some (0, 1)) (p1 : place 1 = some (1, 1)) (p2 : place 2 = some (2, 256)) (d a : Int) (l : List UInt8) (hl : l.length = 256) :
    Instr.fill place (wtc 0 0 (List.replicate 256 0)).toArray [(0, .int .i64 d), (1, .int .i64 a), (2, .agg (bvs l).toArray)] = some (wtc d a l).toArray := by
  rw [fill_cons p0 rfl (by simp [wtc, bvs_length]), fill_cons p1 rfl (by simp [wtc, bvs_length, go_sem]), fill_cons p2 (by simp [go_sem, bvs_length, hl]) (by simp [wtc, bvs_length, go_sem]), Instr.fill]
  have e : ((Value.int .i64 a).cells.zipIdx.foldl (fun (cs : Array Value) (x : Value × Nat) => cs.setIfInBounds (1 + x.2) x.1) ((Value.int .i64 d).cells.zipIdx.foldl (fun (cs : Array Value) (x : Value × Nat) => cs.setIfInBounds (0 + x.2) x.1) (wtc 0 0 (List.replicate 256 0)).toArray)) = ([Value.int .i64 d, Value.int .i64 a] ++ (bvs (List.replicate 256 0) ++ [])).toArray := by
    simp [go_sem, wtc]
  rw [e, show (Value.agg (bvs l).toArray).cells = (bvs l).toArray from rfl]
  have := fold_set2 2 [] (bvs l) 0 [Value.int .i64 d, Value.int .i64 a] (bvs (List.replicate 256 0)) (by simp [bvs_length, hl]) rfl
  simpa [← Array.foldl_toList, wtc] using this
theorem bld105 (d a : Int) (l : List UInt8) (hl : l.length = 256) (W : World) : (Instr.build 105 #[(0, .int .i64 d), (1, .int .i64 a), (2, .agg (bvs l).toArray)]).run Tryd.prog W = .ok (.agg (wtc d a l).toArray) W := by
  refine run_build W 105 _ _ ?_
  obtain ⟨i, hi, hz⟩ : ∃ i, Tryd.prog.info? 105 = some i ∧ i.zero = some (.agg (wtc 0 0 (List.replicate 256 0)).toArray) := by
    cases h : Tryd.prog.info? 105 with
    | none => exact absurd h (by have : (Tryd.prog.info? 105).isSome = true := by kernel_rfl
                                 intro e; rw [e] at this; cases this)
    | some i =>
      refine ⟨i, rfl, ?_⟩
      have : (Tryd.prog.info? 105).bind (·.zero) = some (.agg (wtc 0 0 (List.replicate 256 0)).toArray) := by kernel_rfl
      rw [h] at this
      exact this
  obtain ⟨fs, hf, hp⟩ : ∃ fs, Tryd.prog.underlying 105 = some (.struct fs) ∧ fs.toList.mapM (fun f => (Tryd.prog.info? f.type).map fun i => (f.offset, i.size)) = some [(0, 1), (1, 1), (2, 256)] := ⟨_, Tryd.underlying105, by kernel_rfl⟩
  unfold Program.built
  rw [hi, hf]
  simp only [hz, hp]
  exact fill105 _ rfl rfl rfl d a l hl
theorem exec_bld105 {o : Oper} {ac : Act} {d a : Int} {l : List UInt8} (p q r : Operand) (hl : l.length = 256) (hop : o.op = Op.build 105 #[(0, p), (1, q), (2, r)]) (h1 : ac.eval p = .int .i64 d) (h2 : ac.eval q = .int .i64 a) (h3 : ac.eval r = .agg (bvs l).toArray) (W : World) : (execOp ac.eval o).run Tryd.prog W = .ok (.value (.agg (wtc d a l).toArray)) W := by
  have hb := bld105 d a l hl W
  have hm : (#[(0, p), (1, q), (2, r)].map fun ((i, x) : Nat × Operand) => (i, ac.eval x)) = #[(0, .int .i64 d), (1, .int .i64 a), (2, .agg (bvs l).toArray)] := by simp [h1, h2, h3]
  simp only [execOp, hop, hm, Sem.run_bind, Sem.run_pure, hb, Result.andThen_ok]
end Go.Proofs.YtdebnikolhhmgaaDoor

namespace Go.Proofs.YtdebnikolhhmgaaDoor
open Go.RowKit
set_option linter.unusedVariables false
set_option linter.unusedSimpArgs false
set_option maxRecDepth 100000

open Kr (OwnE SlE Enco RowTys)
theorem tysW : RowTys Tryd.prog 31 90 1 8 := ⟨Tryd.underlying31, .pointer none, by kernel_rfl, by kernel_rfl⟩
def layS (s : St) (d a : Int) (b : FB) : St := setSec { s with row := s.row ++ [⟨d, a, b⟩] } d a fun c => { c with last := some b }
section
variable {lo : Nat} {w : World} {sn : Nat → Addr} {g : Nat} {s : St}
/-- A sector where it stands, and the value that the device has of its sectors. -/
theorem ArrL.sec2 {dv rv : Value} {drs : List Dr} {dsp : List Value} {rcs : List CelT} {rsp : List Value} (h : ArrL lo w g s dv rv drs dsp rcs rsp) {d a : Int} (hi : d.toNat < s.devs.length) (hi2 : d.toNat < drs.length) (ha : a.toNat < s.devs[d.toNat].secs.length) :
    ∃ gd cap gs cap2 lv, w.cell? ⟨g, 2, none⟩ = some (.slice (some ⟨gd, 0, none⟩) s.devs.length cap) ∧ w.cell? ⟨gd, d.toNat * 4 + 3, none⟩ = some (.slice (some ⟨gs, 0, none⟩) s.devs[d.toNat].secs.length cap2) ∧ drs[d.toNat].2.2.2.1 = .slice (some ⟨gs, 0, none⟩) s.devs[d.toNat].secs.length cap2 ∧
      w.cell? ⟨gs, a.toNat * 257 + 256, none⟩ = some lv ∧ s.devs[d.toNat].secs.length ≤ 9223372036854775807 ∧ ∀ j, w.frozen? ⟨gs, j, none⟩ = false := by
  obtain ⟨_, _, c2, _⟩ := h.cells
  obtain ⟨e1, e2, e3, e4⟩ := h.dat d.toNat drs[d.toNat] s.devs[d.toNat] (List.getElem?_eq_getElem hi2) (List.getElem?_eq_getElem hi)
  obtain ⟨gs, cap2, lv, hsv, _, h2, _, h4⟩ := e4.at _ ha
  obtain ⟨scs, csp, k1, k2, k3, _⟩ := e4
  obtain ⟨h1, ⟨_, h2', _⟩ | ⟨gd, cap, q2, q3, q4, q5, q6⟩⟩ := id h.own
  · omega
  · have hs := h.own.sl
    rw [q2] at hs c2
    have c3 := SlE.cell encD hs _ hi2 3 (u := drs[d.toNat].2.2.2.1) rfl
    rw [Nat.zero_add, hsv] at c3
    rw [h.dlen] at c2
    refine ⟨gd, cap, gs, cap2, lv, c2, c3, hsv, h2, ?_, h4⟩
    obtain ⟨_, _, e, e1, e2⟩ := k1.sl.form
    rw [k3] at e1
    simp only [maxLen] at e2
    omega
theorem WtB.keepF {w w' : World} {L : List Nat} {gw : Nat} {x : Wt} (h : WtB w gw x) (f : Frm L w w') (hL : ∀ k ∈ L, ∃ cs T fr, w.heap[k]? = some (.cells cs T fr) ∧ T ≠ 105) : WtB w' gw x :=
  f.heap h fun hm => by
    obtain ⟨cs, T, fr, hc, ht⟩ := hL gw hm
    rw [h] at hc
    cases hc
    exact ht rfl
set_option maxHeartbeats 4000000 in
theorem lay_any (d a : Int) (l : FB) (b off cap : Nat) (sp : List UInt8) (h : Arr lo w g s) (hd : 0 ≤ d ∧ d < s.devs.length) (hi : d.toNat < s.devs.length) (ha : 0 ≤ a ∧ a < s.devs[d.toNat].secs.length) (hrow : s.row.length ≤ 100000000) (hS : SlB w (.slice (some ⟨b, off, none⟩) 256 cap) l.1 sp) :
    Calls Tryd.prog 49 #[ptr g, .int .i64 d, .int .i64 a, .slice (some ⟨b, off, none⟩) 256 cap] w fun e w' => e = .returned (.tuple #[]) ∧ Arr lo w' g (layS s d a l) ∧ Fa lo w w' := by
  have hln : s.devs.length ≤ 9223372036854775807 := h.len
  have LD := Lib.hid (SlB.load94 hS l.2)
  have HL := Lib.hid l.2
  have hj : a.toNat < s.devs[d.toNat].secs.length := by omega
  have f1 : Frm [] w (w.alloc (.cells (wtc d a l.1).toArray 105)) := (Frm.refl [] w).alloc _
  have hw1 : WtB (w.alloc (.cells (wtc d a l.1).toArray 105)) w.heap.size ⟨d, a, l⟩ := heap_alloc_new _ _
  have A1 := h.keep0 f1
  unfold ptr
  clear h hS
  go_enter Tryd.func49, Tryd.ntmps49
  go_upto_region 1 with (first
      | ((with_reducible (show wpList _ _ _ (Oper.mk _ (Op.sliceToArrayPointer 94 _) _ _ _ _ :: _) _ _)); refine wpList_val rfl (exec_arr94 (.tmp 11) rfl rfl _) ?_)
      | ((with_reducible (show wpList _ _ _ (Oper.mk _ (Op.load 94 _) _ _ _ _ :: _) _ _)); refine wpList_load_g (by rfl) 94 _ rfl _ rfl LD.out ?_)
      | ((with_reducible (show wpList _ _ _ (Oper.mk _ (Op.build 105 _) _ _ _ _ :: _) _ _)); refine wpList_val rfl (exec_bld105 (.tmp 9) (.tmp 10) (.tmp 13) HL.out rfl rfl rfl rfl _) ?_))
  generalize w.alloc (.cells (wtc d a l.1).toArray 105) = W1 at *
  generalize w.heap.size = gw at *
  obtain ⟨dv, rv, drs, dsp, rcs, rsp, h1⟩ := A1
  obtain ⟨_, _, _, c3, _⟩ := h1.cells
  obtain ⟨ra, rcap, hrv, _, _⟩ := h1.row.sl.form
  have hgv : g ∉ blk rv := fun hm => by obtain ⟨cs, hc⟩ := own_blk h1.row g hm; rw [h1.rcd] at hc; cases hc
  have f2 : Frm [] W1 (W1.alloc (.cells #[.pointer (some ⟨gw, 0, none⟩)] 90)) := (Frm.refl [] W1).alloc _
  have hsl : SlE eC 1 (W1.alloc (.cells #[.pointer (some ⟨gw, 0, none⟩)] 90)) (.slice (some ⟨W1.heap.size, 0, none⟩) 1 1) [⟨.pointer (some ⟨gw, 0, none⟩), rfl⟩] [] := SlE.of_block encC (T := 90) (heap_alloc_new _ _) rfl (by omega)
  have HSL := Lib.hid hsl
  have RO := Lib.hid (h1.row.keep0 f2)
  have R1 := Lib.hid (f2.heap h1.rcd (by simp))
  have RL := Lib.hid h1.rlen
  have HRW := Lib.hid hrow
  rw [hrv] at c3 RO hgv
  have HG := Lib.hid hgv
  have H1 := Lib.hid h1
  have F1 := Lib.hid f1
  have F2 := Lib.hid f2
  have HRV := Lib.hid hrv
  have HW1 := Lib.hid hw1
  clear hsl h1 hrow hgv f1 f2 hrv hw1
  go_upto_region 2 with (at_builtin; go_loud (refine Kr.wpList_append_e encC tysW RO.out HSL.out (by have := RL.out; have := HRW.out; simp; omega) (by omega) rfl (.tmp 20) (.tmp 22) rfl rfl rfl ?_); intro a' cap' w3 sp' o3 f3 b3; have r3 := f3.heap R1.out HG.out; have z3 := frozen_of_heap r3 3; have c33 : w3.cell? ⟨g, 3, none⟩ = some rv := (by rw [cell_of_heap r3]; rfl); have O3 := Lib.hid o3; have F3 := Lib.hid f3; have B3 := Lib.hid b3; have R3 := Lib.hid r3; clear o3 f3 b3 r3)
  have h1 := H1.out
  have hall : ∀ k ∈ g :: blk rv, ∃ cs T fr, W1.heap[k]? = some (.cells cs T fr) ∧ T ≠ 105 := fun k hk => by
    rcases List.mem_cons.1 hk with rfl | hk
    · exact ⟨_, _, _, h1.rcd, by decide⟩
    · obtain ⟨cs, hc⟩ := own_blk h1.row k hk; exact ⟨cs, 90, _, hc, by decide⟩
  have f3 : Frm (g :: blk rv) W1 w3 := (F2.out.mono (L' := g :: blk rv) (by simp)).trans F3.out (fun i hi => .inl (List.mem_cons_of_mem _ (by rw [HRV.out]; exact hi)))
  have f4 : Frm (g :: blk rv) W1 (w3.setCell ⟨g, 3, none⟩ (.slice a' (rcs.length + 1) cap')) := f3.setCell _ _ (.inl (by simp))
  have hgl : g < W1.heap.size := lt_heap h1.rcd
  have hgb : g ∉ blk (.slice a' (rcs.length + 1) cap') := fun hm => by
    rcases B3.out g hm with hm | hm
    · exact HG.out hm
    · have := F2.out.size; omega
  obtain ⟨h4, fa4⟩ := h1.setRow { s with row := s.row ++ [⟨d, a, l⟩] } (.slice a' (rcs.length + 1) cap') (rcs ++ [⟨.pointer (some ⟨gw, 0, none⟩), rfl⟩]) sp' rfl f4 (by rw [heap_setCell_same _ R3.out]; rfl)
    (O3.out.keep ((Frm.refl [g] w3).setCell _ _ (.inl (by simp))) (fun k hk hm => by simp at hm; subst hm; exact hgb hk))
    (fun k hk => by
      rcases B3.out k hk with hk | hk
      · exact .inl (by rw [HRV.out]; exact hk)
      · exact .inr (by have := F2.out.size; omega))
    (by simp [RL.out]) (fun i c x hc hx => by
      by_cases hir : i < rcs.length
      · rw [List.getElem?_append_left hir] at hc
        rw [List.getElem?_append_left (by rw [← RL.out]; exact hir)] at hx
        obtain ⟨gw', e1, e2⟩ := h1.rat i c x hc hx
        exact ⟨gw', e1, e2.keepF f4 hall⟩
      · have hi3 : i = rcs.length := by
          have := (List.getElem?_eq_some_iff.1 hc).1
          simp at this
          omega
        subst hi3
        rw [List.getElem?_append_right (Nat.le_refl _), Nat.sub_self] at hc
        have hx2 := hx
        simp only [RL.out] at hx2
        rw [List.getElem?_append_right (Nat.le_refl _), Nat.sub_self] at hx2
        cases hc; cases hx2
        exact ⟨gw, rfl, HW1.out.keepF f4 hall⟩)
  have hwb : WtB (w3.setCell ⟨g, 3, none⟩ (.slice a' (rcs.length + 1) cap')) gw ⟨d, a, l⟩ := HW1.out.keepF f4 hall
  generalize w3.setCell ⟨g, 3, none⟩ (.slice a' (rcs.length + 1) cap') = W4 at *
  have hi2 : d.toNat < drs.length := by rw [h1.dlen]; exact hi
  obtain ⟨gd, dcap, gs, cap2, lv, c2, c3, hsv, cl, hmx, hz⟩ := h4.sec2 hi hi2 hj
  have SA := Lib.hid (sector_any g gd gs _ dcap _ cap2 d a hd ha hln hmx W4 c2 c3)
  have HZ := Lib.hid hz
  have hz6 := hz (a.toNat * 257 + 256)
  have H4 := Lib.hid h4
  have FA4 := Lib.hid (F1.out)
  have FB4 := Lib.hid fa4
  have HWB := Lib.hid hwb
  have HSV := Lib.hid hsv
  clear h1 h4 fa4 f3 f4 hall hgl hgb c2 c3 hz z3 c33 hmx hwb hsv
  go_wp2_with (go_at_call 44; refine SA.out.mono ?_; rintro e w11 ⟨rfl, hw11⟩; obtain rfl := hw11.symm)
  go_end0
  have h4 := H4.out
  have hob : ∀ k ∈ blk drs[d.toNat].2.2.2.1, lo ≤ k ∧ ∃ (cs : Array Value) (T : TypeId) (fr : Nat × Nat), W4.heap[k]? = some (.cells cs T fr) ∧ okT T = false := fun k hk => by
    obtain ⟨_, _, _, scs, csp, o1, o2, _, _⟩ := h4.dat _ drs[d.toNat] s.devs[d.toNat] (List.getElem?_eq_getElem hi2) (List.getElem?_eq_getElem hi)
    obtain ⟨cs, hc⟩ := own_blk o1 k hk
    exact ⟨o2 k hk, cs, 96, _, hc, by decide⟩
  have f5 : Frm (blk drs[d.toNat].2.2.2.1) W4 (W4.setCell ⟨gs, a.toNat * 257 + 256, none⟩ (.pointer (some ⟨gw, 0, none⟩))) := (Frm.refl _ W4).setCell _ _ (.inl (by rw [HSV.out]; simp [blk]))
  have hfa := Fa.of_frm f5 hob
  obtain ⟨_, _, _, hsp⟩ := h4.dat _ drs[d.toNat] s.devs[d.toNat] (List.getElem?_eq_getElem hi2) (List.getElem?_eq_getElem hi)
  have hsp' := hsp
  rw [HSV.out] at hsp'
  have hs' := hsp'.setLast a.toNat hj ⟨.pointer (some ⟨gw, 0, none⟩), rfl⟩ (some l) (.inr ⟨gw, ⟨d, a, l⟩, rfl, rfl, HWB.out.fa hfa⟩) hfa
  obtain ⟨h6, fa6⟩ := h4.sect d.toNat hi hi2 _ f5 (by rw [HSV.out]; exact hs')
  refine ⟨rfl, ?_, ((Fa.of0 F1.out lo).trans FB4.out).trans fa6⟩
  unfold layS
  rw [setSec_nat (s := { s with row := s.row ++ [⟨d, a, l⟩] }) hi hj]
  exact ⟨_, _, _, _, _, _, h6⟩
end
end Go.Proofs.YtdebnikolhhmgaaDoor

namespace Go.Proofs.YtdebnikolhhmgaaDoor
open Go.RowKit
set_option linter.unusedVariables false
set_option linter.unusedSimpArgs false
set_option maxRecDepth 100000

open Kr (OwnE SlE Enco RowTys)
/-- A device's flags changed where it stands. -/
theorem ArrL.flag' {lo : Nat} {w : World} {g : Nat} {s : St} {dv rv : Value} {drs : List Dr} {dsp : List Value} {rcs : List CelT} {rsp : List Value} (h : ArrL lo w g s dv rv drs dsp rcs rsp) (i : Nat) (hi : i < s.devs.length) (f : Nat) (gd cap : Nat) (hdv : dv = .slice (some ⟨gd, 0, none⟩) s.devs.length cap)
    (hf : f < 256) (h8 : (f &&& 8) ≠ 0 → 0 < s.devs[i].fl) :
    (∃ drs', ArrL lo (w.setCell ⟨gd, i * 4, none⟩ (.int .u8 (f : Nat))) g { s with devs := s.devs.set i { s.devs[i] with f := f } } dv rv drs' dsp rcs rsp) ∧ Fa lo w (w.setCell ⟨gd, i * 4, none⟩ (.int .u8 (f : Nat))) := by
  have hi2 : i < drs.length := by rw [h.dlen]; exact hi
  obtain ⟨e1, e2, e3, e4⟩ := h.dat i drs[i] s.devs[i] (List.getElem?_eq_getElem hi2) (List.getElem?_eq_getElem hi)
  have ho := h.own
  rw [hdv] at ho
  have o1 := OwnE.store encD ho i 0 hi2 (by omega) (f, drs[i].2.1, drs[i].2.2.1, drs[i].2.2.2) (.int .u8 (f : Nat)) rfl
  obtain ⟨k1, k2⟩ := h.put i hi hi2 (f, drs[i].2.1, drs[i].2.2.1, drs[i].2.2.2) { s.devs[i] with f := f } (by rw [hdv]; exact o1) (by rw [hdv]; exact (Frm.refl _ w).setCell _ _ (by simp [blk])) rfl e2 e3 rfl rfl
    ⟨hf, (h.fb _ (List.getElem_mem hi)).2.1, (h.fb _ (List.getElem_mem hi)).2.2.1, h8⟩
  exact ⟨⟨_, k1⟩, k2⟩
/-- Writes that stray lie within. -/
def WfX (s : St) : Prop := ∀ q ∈ s.devs, (q.f &&& 4) ≠ 0 → 0 ≤ q.str ∧ q.str < s.n
def strayAt (s : St) (d a : Int) : Int := match s.devs[d.toNat]? with
  | some q => if ((q.f &&& 253) &&& 4) != 0 then q.str else a
  | none => a
def usedS (s : St) (d : Int) : St := setD s d fun q => { q with f := (q.f &&& 253) &&& 251 }
def wrS (s : St) (d a : Int) (b : FB) : St := if hasF s d 2 = true then setD s d fun q => { q with f := q.f &&& 253 } else layS (usedS s d) d (strayAt s d a) b
def wrK (s : St) (d a : Int) (l : List UInt8) : St := if h : l.length = 256 then wrS s d a ⟨l, h⟩ else s
theorem nStep_none {s : St} (h : (nStep s).1 = none) : (nStep s).2.devs = s.devs ∧ (nStep s).2.row = s.row ∧ (nStep s).2.n = s.n := by
  unfold nStep at h ⊢
  split at h
  · cases h
  · rename_i h2; rw [if_neg h2]; exact ⟨rfl, rfl, rfl⟩
theorem and8 (f x : Nat) (h : ((f &&& x) &&& 8) ≠ 0) : (f &&& 8) ≠ 0 := fun e => h (by rw [Nat.and_assoc, Nat.and_comm x, ← Nat.and_assoc, e, Nat.zero_and])
theorem and_lt (f x : Nat) (h : f < 256) : f &&& x < 256 := Nat.lt_of_le_of_lt Nat.and_le_left h
section
variable {lo : Nat} {w : World} {sn : Nat → Addr} {g : Nat} {s : St}
set_option maxHeartbeats 8000000 in
theorem Write_any (d a : Int) (v : Value) (l sp : List UInt8) (hs : Sn w lo sn) (h : Arr lo w g s) (WF : WfS s) (WD : WfD s) (WX : WfX s) (hrow : s.row.length ≤ 100000000) (hS : ∀ w', Fa lo w w' → SlB w' v l sp) :
    Calls Tryd.prog 13 #[ptr g, .int .i64 d, .int .i64 a, v] w (MP lo g (mRes (dCons (nR s, s) (dCons (nS s d a, s) (dCons (nA ((l.length : Int) == 256), s) (dCons (nT s d, s) (nStep s))))) fun s => wrK s d a l) w) := by
  obtain ⟨ad, vcap, rfl, _, _⟩ := (hS w (Fa.refl lo w)).form
  have HSL := Lib.hid hS
  clear hS
  obtain ⟨n, hn⟩ : ∃ n, l.length = n := ⟨_, rfl⟩
  rw [hn] at HSL ⊢
  have HS := Lib.hid hs
  have AR := Lib.hid h
  have F := Lib.hid (Frm.refl [] w)
  unfold ptr
  clear h hs
  go_enter Tryd.func13, Tryd.ntmps13
  go_wp2_with (first
    | (go_at_call 39; refine (sectorOf_any _ _ _).mono ?_; rintro e w1 ⟨bs1, bs2, rfl, hs1, hs2, f1⟩; have F := Lib.hid (F.out.trans f1 (by simp)); have LS1 := Lib.hid hs1; have LS2 := Lib.hid hs2;  clear hs1 hs2 f1)
    | (go_at_call 46; refine (argument_any _ _).mono ?_; rintro e w4 ⟨ba, rfl, ha1, f1⟩; have F := Lib.hid (F.out.trans f1 (by simp)); have LA := Lib.hid ha1; have LS1 := Lib.hid (f1.heap LS1.out (by simp)); have LS2 := Lib.hid (f1.heap LS2.out (by simp)); clear ha1 f1)
    | (go_at_call 40; refine (there_any _ _).mono ?_; rintro e w2 ⟨bt, rfl, ht1, f1⟩; have F := Lib.hid (F.out.trans f1 (by simp)); have LT := Lib.hid ht1; have LS1 := Lib.hid (f1.heap LS1.out (by simp)); have LS2 := Lib.hid (f1.heap LS2.out (by simp)); have LA := Lib.hid (f1.heap LA.out (by simp)); clear ht1 f1))
  refine (demand_any (r := (dCons (nR s, s) (dCons (nS s d a, s) (dCons (nA ((n : Int) == 256), s) (dCons (nT s d, s) (nStep s)))))) _ [_, _, _, _, _] _ 5 (HS.out.keep0 (F.out.alloc _)) (AR.out.keep0 (F.out.alloc _)) (Fa.refl lo _) (heap_alloc_new _ _) rfl (by simp) (Dem.cons (needR (HS.out.keep0 (F.out.alloc _))) fun hq0 => Dem.cons (needS (HS.out.keep0 (F.out.alloc _)) WF ((Frm.refl [] _).alloc _ |>.heap LS1.out (by simp)) ((Frm.refl [] _).alloc _ |>.heap LS2.out (by simp))) fun hq1 => Dem.cons (needA (HS.out.keep0 (F.out.alloc _)) ((Frm.refl [] _).alloc _ |>.heap LA.out (by simp))) fun hq2 => Dem.cons (needT (HS.out.keep0 (F.out.alloc _)) ((Frm.refl [] _).alloc _ |>.heap LT.out (by simp)) (nS_ok hq1).1) fun hq3 => Dem.last (needStep (HS.out.keep0 (F.out.alloc _)) WF))).mono ?_
  rintro e w9 ⟨h1, h2, h3⟩
  have HS9 := Lib.hid ((HS.out.keep0 (F.out.alloc _)).fa h3)
  have F9 := Lib.hid ((Fa.of0 (F.out.alloc _) lo).trans h3)
  have A9 := Lib.hid h2
  clear h2 h3
  rcases h1 with ⟨hq, rfl⟩ | ⟨k2, tx, hq, hk6, rfl⟩
  rotate_left
  · unfold rfu
    have HQ := Lib.hid hq
    have NU := Lib.hid (number_any HS9.out tx k2 hk6)
    clear hq
    go_wp2_with (go_at_call 42; refine NU.out.mono ?_; rintro e w10 ⟨rfl, f10⟩; have F10 := Lib.hid f10; clear f10)
    go_ret
    have hq := HQ.out
    rw [mRes_some hq]
    exact ⟨rfl, A9.out.keep0 F10.out, F9.out.trans (Fa.of0 F10.out lo)⟩
  · obtain ⟨q0, q1⟩ := dCons_of hq
    obtain ⟨q1, q2⟩ := dCons_of q1
    obtain ⟨q2, q3⟩ := dCons_of q2
    obtain ⟨q3, q4⟩ := dCons_of q3
    have e2 : dCons (nR s, s) (dCons (nS s d a, s) (dCons (nA ((n : Int) == 256), s) (dCons (nT s d, s) (nStep s)))) = (none, (nStep s).2) := by
      rw [dCons_none q0, dCons_none q1, dCons_none q2, dCons_none q3]
      exact Prod.ext q4 rfl
    rw [e2] at A9
    obtain ⟨t1, t2, t3⟩ := nStep_none q4
    have E2 := Lib.hid e2
    have A9 := Lib.hid (show Arr lo w9 g (nStep s).2 from A9.out)
    generalize (nStep s).2 = s1 at *
    have hl : n = 256 := by
      unfold nA at q2
      by_cases e : n = 256
      · exact e
      · rw [if_neg (by simp; omega)] at q2; cases q2
    obtain ⟨hi, hd0, hd9⟩ := okD_at (nS_ok q1).1
    obtain ⟨hj, ha0, ha9⟩ := okA_at (nS_ok q1).2
    have hlen := nT_len WD hi q3
    subst hl
    have hlen1 : s1.devs[d.toNat]'(by rw [t1]; exact hi) = s.devs[d.toNat] := by simp only [t1]
    have hi1 : d.toNat < s1.devs.length := by rw [t1]; exact hi
    have hd1 : 0 ≤ d ∧ d < s1.devs.length := ⟨hd0, by rw [t1]; exact hd9⟩
    have hr1 : s1.row.length ≤ 100000000 := by rw [t2]; exact hrow
    have hln1 : s1.devs[d.toNat].secs.length = s.n := by rw [hlen1]; exact hlen
    have hx1 : (s1.devs[d.toNat].f &&& 4) ≠ 0 → 0 ≤ s1.devs[d.toNat].str ∧ s1.devs[d.toNat].str < s.n := by rw [hlen1]; exact WX _ (List.getElem_mem hi)
    obtain ⟨b, off, had⟩ : ∃ b off, ad = some ⟨b, off, none⟩ := by
      obtain ⟨h1, ⟨e, _⟩ | ⟨_, e, e2, _⟩ | ⟨b, off, cap, e, _⟩⟩ := HSL.out w9 F9.out
      · cases e
      · rw [hn] at e2; cases e2
      · simp only [Value.slice.injEq] at e; exact ⟨b, off, e.1⟩
    subst had
    have SL := Lib.hid (fun w' f => HSL.out w' (F9.out.trans f))
    have HF2 := Lib.hid (show wrK s1 d a l = wrS s1 d a ⟨l, hn⟩ from by unfold wrK; rw [dif_pos hn])
    obtain ⟨dv, rv, drs, dsp, rcs, rsp, h⟩ := A9.out
    obtain ⟨-, -, c2, -⟩ := h.cells
    obtain ⟨gd, cap, sv, hdv, d0, -, -, -, -, dz⟩ := h.dev _ hi1
    have hfb := h.fb _ (List.getElem_mem hi1)
    have hln9 : s1.devs.length ≤ 9223372036854775807 := A9.out.len
    rw [hdv] at c2
    obtain ⟨k1, k2⟩ := h.flag' d.toNat hi1 (s1.devs[d.toNat].f &&& 253) gd cap hdv (and_lt _ _ hfb.1) (fun e => hfb.2.2.2 (and8 _ _ e))
    have UB := use_any gd (d.toNat * 4) s1.devs[d.toNat].f 2 hfb.1 (by omega) w9 d0 (dz _)
    rw [show (255 - 2 : Nat) = 253 from rfl] at UB
    obtain ⟨b2, hb2⟩ : ∃ b, ((s1.devs[d.toNat].f &&& 2) != 0) = b := ⟨_, rfl⟩
    have hF : hasF s1 d 2 = b2 := by unfold hasF; rw [List.getElem?_eq_getElem hi1]; exact hb2
    rw [hb2] at UB
    have SD := Lib.hid (setD_nat hi1)
    cases b2
    · obtain ⟨drs', h10⟩ := k1
      obtain ⟨gd', cap', -, hdv', e0, e1, -, -, -, ez⟩ := h10.dev d.toNat (by simpa using hi1)
      obtain rfl : gd = gd' := by
        have e := hdv.symm.trans hdv'
        simp only [Value.slice.injEq, Option.some.injEq, Addr.mk.injEq] at e
        exact e.1.1
      simp only [List.getElem_set_self] at e0 e1
      have hw := Lib.hid k2
      generalize w9.setCell ⟨gd, d.toNat * 4, none⟩ (.int .u8 ((s1.devs[d.toNat].f &&& 253 : Nat) : Int)) = W10 at *
      have hi10 : d.toNat < (s1.devs.set d.toNat { s1.devs[d.toNat] with f := s1.devs[d.toNat].f &&& 253 }).length := by simpa using hi1
      obtain ⟨⟨drs3, h11⟩, k3⟩ := h10.flag' d.toNat hi10 ((s1.devs[d.toNat].f &&& 253) &&& 251) gd cap (by simpa using hdv) (and_lt _ _ (and_lt _ _ hfb.1)) (fun e => by simp only [List.getElem_set_self]; exact hfb.2.2.2 (and8 _ _ (and8 _ _ e)))
      have UB2 := use_any gd (d.toNat * 4) (s1.devs[d.toNat].f &&& 253) 4 (and_lt _ _ hfb.1) (by omega) W10 e0 (ez _)
      rw [show (255 - 4 : Nat) = 251 from rfl] at UB2
      obtain ⟨gd', cap', -, hdv', -, e3, -, -, -, -⟩ := h11.dev d.toNat (by simpa using hi1)
      obtain rfl : gd = gd' := by
        have e := hdv.symm.trans hdv'
        simp only [Value.slice.injEq, Option.some.injEq, Addr.mk.injEq] at e
        exact e.1.1
      simp only [List.getElem_set_self] at e3
      have eU : ({ s1 with devs := (s1.devs.set d.toNat { s1.devs[d.toNat] with f := s1.devs[d.toNat].f &&& 253 }).set d.toNat { (s1.devs.set d.toNat { s1.devs[d.toNat] with f := s1.devs[d.toNat].f &&& 253 })[d.toNat] with f := (s1.devs[d.toNat].f &&& 253) &&& 251 } } : St) = usedS s1 d := by
        unfold usedS
        rw [SD.out, List.set_set]
        simp only [List.getElem_set_self]
      have A11 : Arr lo (W10.setCell ⟨gd, d.toNat * 4, none⟩ (.int .u8 (((s1.devs[d.toNat].f &&& 253) &&& 251 : Nat) : Int))) g (usedS s1 d) := by rw [← eU]; exact ⟨_, _, _, _, _, _, h11⟩
      generalize W10.setCell ⟨gd, d.toNat * 4, none⟩ (.int .u8 (((s1.devs[d.toNat].f &&& 253) &&& 251 : Nat) : Int)) = W11 at *
      have hiU : d.toNat < (usedS s1 d).devs.length := by unfold usedS; rw [SD.out]; simpa using hi1
      have hsU : (usedS s1 d).devs[d.toNat].secs.length = s.n := by
        have e : (usedS s1 d).devs = s1.devs.set d.toNat { s1.devs[d.toNat] with f := (s1.devs[d.toNat].f &&& 253) &&& 251 } := by unfold usedS; rw [SD.out]
        simp only [e, List.getElem_set_self]
        exact hln1
      have hdU : d < (usedS s1 d).devs.length := by omega
      have hrU : (usedS s1 d).row.length ≤ 100000000 := by unfold usedS; rw [SD.out]; exact hr1
      have e4 : (((s1.devs[d.toNat].f &&& 253) &&& 4) != 0) = ((s1.devs[d.toNat].f &&& 4) != 0) := by rw [Nat.and_assoc, show (253 &&& 4 : Nat) = 4 from by decide]
      obtain ⟨b4, hb4⟩ : ∃ b, ((s1.devs[d.toNat].f &&& 253) &&& 4 != 0) = b := ⟨_, rfl⟩
      have hst : strayAt s1 d a = if b4 = true then s1.devs[d.toNat].str else a := by unfold strayAt; rw [List.getElem?_eq_getElem hi1]; simp only [hb4]
      rw [hb4] at UB2 e4
      have eW : wrS s1 d a ⟨l, hn⟩ = layS (usedS s1 d) d (strayAt s1 d a) ⟨l, hn⟩ := by unfold wrS; rw [if_neg (by rw [hF]; exact Bool.false_ne_true)]
      have FF := Lib.hid (F9.out.trans (hw.out.trans k3))
      have LY := fun (x : Int) (hx : 0 ≤ x ∧ x < s.n) => lay_any d x ⟨l, hn⟩ b off vcap sp A11 ⟨hd0, hdU⟩ hiU (by rw [hsU]; exact hx) hrU (SL.out W11 (hw.out.trans k3))
      rw [hst] at eW
      have HU := Lib.hid UB
      have HU2 := Lib.hid UB2
      have EW := Lib.hid eW
      cases b4
      · have HLY := Lib.hid (LY a ⟨ha0, ha9⟩)
        clear hw hb2 hF hb4 hi10 hlen hr1 hrow hj h hlen1 t1 t2 t3 hln1 h10 h11 LY eW UB UB2 e3 k2 k3 A11 hiU hsU hrU e4 hst eU e0 e1 ez hdv hdv' q0 q1 q2 q3 q4 WD WX WF hq e2 d0 dz hx1
        go_wp2_with (first
          | (go_at_call 48; refine HU.out.mono ?_; rintro e w11 ⟨rfl, rfl⟩; clear HU)
          | (go_at_call 48; refine HU2.out.mono ?_; rintro e w11 ⟨rfl, rfl⟩)
          | (go_at_call 49; refine HLY.out.mono ?_; rintro e w12 ⟨rfl, h12, f12⟩; have H12 := Lib.hid h12; have F12 := Lib.hid f12; clear h12 f12))
        go_ret
        rw [E2.out]
        exact ⟨rfl, show Arr lo _ g (wrK s1 d a l) from by rw [HF2.out, EW.out]; exact H12.out, FF.out.trans F12.out⟩
      · have HLY := Lib.hid (LY s1.devs[d.toNat].str (hx1 (by simpa using e4.symm)))
        clear hw hb2 hF hb4 hi10 hlen hr1 hrow hj h hlen1 t1 t2 t3 hln1 h10 h11 LY eW UB UB2 k2 k3 A11 hiU hsU hrU e4 hst eU e0 e1 ez hdv hdv' q0 q1 q2 q3 q4 WD WX WF hq e2 d0 dz hx1
        go_wp2_with (first
          | (go_at_call 48; refine HU.out.mono ?_; rintro e w11 ⟨rfl, rfl⟩; clear HU)
          | (go_at_call 48; refine HU2.out.mono ?_; rintro e w11 ⟨rfl, rfl⟩)
          | (go_at_call 49; refine HLY.out.mono ?_; rintro e w12 ⟨rfl, h12, f12⟩; have H12 := Lib.hid h12; have F12 := Lib.hid f12; clear h12 f12))
        go_ret
        rw [E2.out]
        exact ⟨rfl, show Arr lo _ g (wrK s1 d a l) from by rw [HF2.out, EW.out]; exact H12.out, FF.out.trans F12.out⟩
    · have eW : wrS s1 d a ⟨l, hn⟩ = setD s1 d fun q => { q with f := q.f &&& 253 } := by unfold wrS; rw [if_pos hF]
      have EW := Lib.hid eW
      have HU := Lib.hid UB
      have K1 := Lib.hid k1
      have FF := Lib.hid (F9.out.trans k2)
      clear h hlen1 t1 t2 t3 hln1 k1 k2 UB eW hdv d0 dz q0 q1 q2 q3 q4 WD WX WF hq e2 hx1
      go_wp2_with (go_at_call 48; refine HU.out.mono ?_; rintro e w11 ⟨rfl, rfl⟩; clear HU)
      go_ret
      rw [E2.out]
      refine ⟨rfl, show Arr lo _ g (wrK s1 d a l) from ?_, FF.out⟩
      rw [HF2.out, EW.out, SD.out]
      obtain ⟨drs', h⟩ := K1.out
      exact ⟨_, _, _, _, _, _, h⟩
end
end Go.Proofs.YtdebnikolhhmgaaDoor

namespace Go.Proofs.YtdebnikolhhmgaaDoor
open Go.RowKit
set_option linter.unusedVariables false
set_option linter.unusedSimpArgs false
set_option maxRecDepth 100000

open Kr (OwnE SlE Enco RowTys)
def zFB : FB := ⟨List.replicate 256 0, by simp⟩
def zS : Sr := (zFB, ⟨.pointer none, rfl⟩)
def zSc : Sc := ⟨zFB, none⟩
theorem eS_z : (Value.agg (eS zS).toArray).cells = (eS zS).toArray := rfl
theorem eS_len : (eS zS).length = 257 := by kernel_rfl
theorem made_secs (n : Nat) : (madeCells (eS zS).toArray (n * 257)).toList = Kr.flt eS (List.replicate n zS) := by
  apply List.ext_getElem?
  intro k
  rcases Nat.lt_or_ge k (n * 257) with h | h
  · have hk : k / 257 < n := by omega
    have hm : k % 257 < 257 := Nat.mod_lt _ (by omega)
    have h1 := Kr.flt_get encS (List.replicate n zS) (k / 257) (by simpa using hk) (k % 257) hm
    rw [show k / 257 * 257 + k % 257 = k by omega, List.getElem_replicate] at h1
    rw [h1]
    unfold madeCells
    rw [Array.toList_map, List.getElem?_map, Array.toList_range, List.getElem?_range h]
    simp only [Option.map_some, List.size_toArray, eS_len]
    have h2 : k % 257 < (eS zS).length := by rw [eS_len]; exact hm
    rw [List.getElem?_eq_getElem h2]
    simp [h2]
  · rw [List.getElem?_eq_none (by unfold madeCells; simpa using h), List.getElem?_eq_none (by rw [Kr.flt_length encS]; simpa using h)]
theorem make_secs (w : World) (kl kc : IntKind) (n : Nat) (hn : n ≤ 1000000) :
    ∃ w', (Instr.makeSlice 84 (.int kl (n : Int)) (.int kc (n : Int))).run Tryd.prog w = .ok (.slice (some ⟨w.heap.size, 0, none⟩) n n) w' ∧ OwnE eS 257 96 w' (.slice (some ⟨w.heap.size, 0, none⟩) n n) (List.replicate n zS) [] ∧ Frm [] w w' := by
  obtain ⟨z, hzs, hinf⟩ : ∃ z : Value, z = .agg (eS zS).toArray ∧ (Tryd.prog.info? 96).map (fun i => (i.zero, i.size, i.bytes)) = some (some z, 257, 264) := ⟨_, rfl, by kernel_rfl⟩
  obtain ⟨i, hi, hz, hs, hby⟩ := info_parts hinf
  obtain ⟨w', h1, h2, h3⟩ := run_make_full (P := Tryd.prog) w 0 84 96 i _ 257 Tryd.underlying84 hi hz hs kl kc n (by rw [hby]; omega) (by simp [maxLen]; omega) (Nat.zero_le _)
  refine ⟨w', h1, ?_, Frm.of_grown h3 (by simp)⟩
  obtain ⟨k1, k2 | ⟨g, cap, cur, k2, _, k3, k4, k5, k6, k7⟩⟩ := h2
  · cases k2.1
  · simp only [Value.slice.injEq, Option.some.injEq, Addr.mk.injEq] at k2
    obtain ⟨⟨rfl, _⟩, _, rfl⟩ := k2
    have e1 : cur.toList = Kr.flt eS (List.replicate n zS) := by
      have : cur.toList.take (n * 257) = cur.toList := List.take_of_length_le (by simp [k6])
      rw [← this, k7, hzs, eS_z, made_secs]
    refine OwnE.of_heap encS ?_ (by simp) (by simp) (by simp) k5
    rw [k3]
    congr 2
    apply Array.ext'
    simp [e1]
theorem wpList_make_secs {w : World} {ops : Array Oper} {rest : List Oper} {o : Oper} {a : Act} {Q : Exit → Act → World → Prop}
    (n : Nat) (hn : n ≤ 1000000) (hg : o.guard = none) (x y : Operand) (hop : o.op = Op.makeSlice 84 x y) {kl kc : IntKind} {X Y : Int} (hx : a.eval x = .int kl X) (hy : a.eval y = .int kc Y) (hX : X = n) (hY : Y = n)
    (k : ∀ w', OwnE eS 257 96 w' (.slice (some ⟨w.heap.size, 0, none⟩) n n) (List.replicate n zS) [] → Frm [] w w' → wpList Tryd.prog ops Q rest (a.put o.dst (.slice (some ⟨w.heap.size, 0, none⟩) n n)) w') :
    wpList Tryd.prog ops Q (o :: rest) a w := by
  subst hX
  subst hY
  obtain ⟨w', h1, h2, h3⟩ := make_secs w kl kc n hn
  refine wpList_val (v := .slice (some ⟨w.heap.size, 0, none⟩) n n) (w' := w') hg ?_ (k w' h2 h3)
  simp [execOp, hop, hx, hy, h1, Result.andThen]
/-- A device's value: blank. -/
def bv0 (gs n : Nat) : Value := .agg #[.int .u8 0, .int .i64 0, .int .i64 0, .slice (some ⟨gs, 0, none⟩) n n]
def BlankP (n : Nat) (w : World) (e : Ending) (w' : World) : Prop := ∃ gs, e = .returned (bv0 gs n) ∧ OwnE eS 257 96 w' (.slice (some ⟨gs, 0, none⟩) n n) (List.replicate n zS) [] ∧ w.heap.size ≤ gs ∧ Frm [] w w'
theorem blank_any (n : Nat) (hn : n ≤ 1000000) (w : World) : Calls Tryd.prog 58 #[.int .i64 n] w (BlankP n w) := by
  have i86 : (Tryd.prog.info? 86).map (·.size) = some 4 := by kernel_rfl
  go_enter Tryd.func58, Tryd.ntmps58
  go_wp2_with (at_make; refine wpList_make_secs n hn rfl (.tmp 3) (.tmp 3) rfl rfl rfl rfl rfl ?_; intro w1 o1 f1; have b1 := f1.heap (heap_alloc_new _ _) (by simp); have q0 := (cell_of_heap b1 0).trans rfl; have q1 := (cell_of_heap b1 1).trans rfl; have q2 := (cell_of_heap b1 2).trans rfl; have q3 := (cell_of_heap b1 3).trans rfl; have z0 := frozen_of_heap b1 0; have z1 := frozen_of_heap b1 1; have z2 := frozen_of_heap b1 2; have z3 := frozen_of_heap b1 3; have B1 := Lib.hid b1; have O1 := Lib.hid o1; have F1 := Lib.hid f1; clear o1 f1 b1)
  have hR : ((((w1.setCell ⟨w.heap.size, 0, none⟩ (.int .u8 0)).setCell ⟨w.heap.size, 1, none⟩ (.int .i64 0)).setCell ⟨w.heap.size, 2, none⟩ (.int .i64 0)).setCell ⟨w.heap.size, 3, none⟩ (.slice (some ⟨w.heap.size + 1, 0, none⟩) n n)).heap[w.heap.size]? = some (.cells #[.int .u8 0, .int .i64 0, .int .i64 0, .slice (some ⟨w.heap.size + 1, 0, none⟩) n n] 86 (0, 0)) := by
    rw [heap_setCell_same _ (heap_setCell_same _ (heap_setCell_same _ (heap_setCell_same _ B1.out)))]
    rfl
  have f0 : Frm [w.heap.size] w1 ((((w1.setCell ⟨w.heap.size, 0, none⟩ (.int .u8 0)).setCell ⟨w.heap.size, 1, none⟩ (.int .i64 0)).setCell ⟨w.heap.size, 2, none⟩ (.int .i64 0)).setCell ⟨w.heap.size, 3, none⟩ (.slice (some ⟨w.heap.size + 1, 0, none⟩) n n)) :=
    ((((Frm.refl _ w1).setCell _ _ (.inl (by simp))).setCell _ _ (.inl (by simp))).setCell _ _ (.inl (by simp))).setCell _ _ (.inl (by simp))
  have o1 := O1.out
  rw [World.size_alloc] at o1
  refine bodyPost_ret (v := bv0 (w.heap.size + 1) n) (results_cell_row rfl _ _ w.heap.size 86 _ (0, 0) _ rfl hR Tryd.underlying86 rfl (by exact i86)) rfl ⟨w.heap.size + 1, rfl, o1.keep f0 (by simp [blk]), by omega, ?_⟩
  exact (((Frm.refl [] w).alloc _).trans F1.out (by simp)).trans f0 (fun i hi => .inr (by simp at hi; omega))
end Go.Proofs.YtdebnikolhhmgaaDoor

namespace Go.Proofs.YtdebnikolhhmgaaDoor
open Go.RowKit
set_option linter.unusedVariables false
set_option linter.unusedSimpArgs false
set_option maxRecDepth 100000

open Kr (OwnE SlE Enco RowTys)

section
variable {P : Program} {ops : Array Oper} {Q : Exit → Act → World → Prop} {md : Region.Mode} {S : World → Prop} {d : Nat}
def wpAnyL (P : Program) (md : Region.Mode) (ops : Array Oper) (Q : Exit → Act → World → Prop) (d : Nat) (S : World → Prop) : Nat → Array Bool → Act → World → Prop
  | 0, listed, a, w => Region.ready md ops listed = [] ∧ Q .normal a w
  | fuel + 1, listed, a, w =>
    (Region.ready md ops listed = [] → Q .normal a w) ∧
    ∀ i ∈ Region.ready md ops listed, wpOp P ops Q i (fun a' w' => ((listed.setIfInBounds i true)[d]? = some true ∨ S w') ∧ wpAnyL P md ops Q d S fuel (listed.setIfInBounds i true) a' w') a w
theorem wpAny_of_late : ∀ (fuel : Nat) (listed : Array Bool) (a : Act) (w : World), wpAnyL P md ops Q d S fuel listed a w → wpAny P md ops Q fuel listed a w
  | 0, _, _, _, h => h
  | fuel + 1, _, _, _, h => ⟨h.1, fun i hi => wpOp_mono (fun a' w' h' => wpAny_of_late fuel _ a' w' h'.2) (h.2 i hi)⟩
theorem late_set {listed : Array Bool} {i : Nat} (h : listed[d]? = some true) : (listed.setIfInBounds i true)[d]? = some true := by
  rcases Nat.lt_or_ge d listed.size with hd | hd
  · rw [Array.getElem?_setIfInBounds]
    split
    · rename_i e; subst e; simp [hd]
    · exact h
  · rw [Array.getElem?_eq_none hd] at h; cases h
theorem wpAnyL_late : ∀ (fuel : Nat) (listed : Array Bool) (a : Act) (w : World), listed[d]? = some true → wpAny P md ops Q fuel listed a w → wpAnyL P md ops Q d S fuel listed a w
  | 0, _, _, _, _, h => h
  | fuel + 1, _, _, _, hd, h => ⟨h.1, fun i hi => wpOp_mono (fun a' w' h' => ⟨.inl (late_set hd), wpAnyL_late fuel _ a' w' (late_set hd) h'⟩) (h.2 i hi)⟩
theorem wpAnyL_first {i : Nat} {oi : Oper} {v : Value} (hi : ops[i]? = some oi) (hsel : ∀ (j : Nat) (o : Oper) cs b, ops[j]? = some o → o.op ≠ .select cs b)
    (hQ : ∀ c a w, Q (.panic c) (a.put oi.dst v) w → Q (.panic c) a w) (hdi : d ≠ i) (hwait : ∀ od, ops[d]? = some od → ∃ e ∈ od.after, Region.binds md e = true ∧ e.on = i) :
    ∀ (fuel : Nat) (listed : Array Bool) (a : Act) (w : World),
      (∀ j oj, ops[j]? = some oj → j ≠ i → listed.getD j true = false → (∀ e ∈ oj.after, Region.binds md e = true → e.on ≠ i) → oi.apart ops oj = true) →
      i ∈ Region.ready md ops listed → listed[d]? ≠ some true → YieldsIf P ops S oi v a → S w →
      wpAnyL P md ops Q d S fuel (listed.setIfInBounds i true) (a.put oi.dst v) w → wpAnyL P md ops Q d S (fuel + 1) listed a w := by
  intro fuel
  induction fuel with
  | zero =>
    intro listed a w _ hr _ hy hS H
    refine ⟨fun h => (by rw [h] at hr; cases hr), fun j hj => ?_⟩
    by_cases hji : j = i
    · subst hji; exact hy.wpOp hi hS ⟨.inr hS, H⟩
    · have := ready_mono hj hji
      rw [H.1] at this
      cases this
  | succ fuel ih =>
    intro listed a w hfree hr hnl hy hS H
    refine ⟨fun h => (by rw [h] at hr; cases hr), fun j hj => ?_⟩
    by_cases hji : j = i
    · subst hji; exact hy.wpOp hi hS ⟨.inr hS, H⟩
    · have h1 := H.2 j (ready_mono hj hji)
      obtain ⟨hjun, oj, hoj, hall⟩ := mem_ready.1 hj
      have hnot : ∀ e ∈ oj.after, Region.binds md e = true → e.on ≠ i := fun e he hb heq => by
        have h1 := hall e he hb
        have h0 := (mem_ready.1 hr).1
        rw [heq] at h1
        rcases Nat.lt_or_ge i listed.size with h' | h'
        · simp [h'] at h0 h1; rw [h0] at h1; cases h1
        · simp [Array.getElem?_eq_none h'] at h1
      have hjd : j ≠ d := fun e => by
        subst e
        obtain ⟨e, he, hb, ho⟩ := hwait oj hoj
        exact hnot e he hb ho
      have h2 := wpOp_putIf hoj (hfree j oj hoj hji hjun hnot) (fun cs b => hsel i oi cs b hi) (fun cs b => hsel j oj cs b hoj) hQ hy h1
      have hfree' : ∀ k ok, ops[k]? = some ok → k ≠ i → (listed.setIfInBounds j true).getD k true = false →
          (∀ e ∈ ok.after, Region.binds md e = true → e.on ≠ i) → oi.apart ops ok = true := fun k ok hk hki hun hno => by
        refine hfree k ok hk hki ?_ hno
        by_cases hjk : j = k
        · subst hjk; exact hjun
        · rw [getD_set_ne true hjk] at hun; exact hun
      have hnl2 : (listed.setIfInBounds j true)[d]? ≠ some true := by rw [Array.getElem?_setIfInBounds_ne (by omega)]; exact hnl
      have hnl3 : ((listed.setIfInBounds i true).setIfInBounds j true)[d]? ≠ some true := by rw [Array.getElem?_setIfInBounds_ne (by omega), Array.getElem?_setIfInBounds_ne (by omega)]; exact hnl
      refine wpOp_mono (fun a' w' h3 => ?_) h2
      have hS' : S w' := h3.2.1.resolve_left hnl3
      refine ⟨.inr hS', ih (listed.setIfInBounds j true) a' w' hfree' (ready_mono hr (Ne.symm hji)) hnl2 h3.1 hS' ?_⟩
      rw [Array.setIfInBounds_comm _ _ hji]
      exact h3.2.2
/-- The store d has not come up, and waits for i. -/
def lateOk (md : Region.Mode) (ops : Array Oper) (listed : Array Bool) (d i : Nat) : Bool :=
  (listed[d]? != some true) && d != i && (match ops[d]? with | some od => od.after.any (fun e => Region.binds md e && e.on == i) | none => true)
theorem wpAnyL_take {i : Nat} {oi : Oper} {v : Value} {fuel : Nat} {listed : Array Bool} {a : Act} {w : World} (hi : ops[i]? = some oi)
    (hs : Region.noSelect ops = true) (hf : Region.free md ops listed i = true) (hr : (Region.ready md ops listed).contains i = true)
    (hQ : ∀ c a w, Q (.panic c) (a.put oi.dst v) w → Q (.panic c) a w) (hy : YieldsIf P ops S oi v a) (hS : S w)
    (h : wpAnyL P md ops Q d S fuel (listed.setIfInBounds i true) (a.put oi.dst v) w) (hl : lateOk md ops listed d i = true := by kernel_rfl) : wpAnyL P md ops Q d S (fuel + 1) listed a w := by
  simp only [lateOk, Bool.and_eq_true, bne_iff_ne, ne_eq] at hl
  obtain ⟨⟨h1, h2⟩, h3⟩ := hl
  refine wpAnyL_first hi (Region.noSelect_spec hs) hQ h2 (fun od ho => ?_) fuel listed a w (Region.free_spec hi hf) (by simpa using hr) h1 hy hS h
  rw [ho] at h3
  simp only [Array.any_eq_true', Bool.and_eq_true, beq_iff_eq] at h3
  obtain ⟨e, he, hb, ho⟩ := h3
  exact ⟨e, he, hb, ho⟩
theorem wpAnyL_firstP {i : Nat} {oi : Oper} {v : Value} (hi : ops[i]? = some oi) (hsel : ∀ (j : Nat) (o : Oper) cs b, ops[j]? = some o → o.op ≠ .select cs b)
    (hQ : ∀ c a w, Q (.panic c) (a.put oi.dst v) w → Q (.panic c) a w) (hdi : d ≠ i) :
    ∀ (fuel : Nat) (listed : Array Bool) (a : Act) (w : World),
      (∀ j oj, ops[j]? = some oj → j ≠ i → listed.getD j true = false → (∀ e ∈ oj.after, Region.binds md e = true → e.on ≠ i) → oi.apart ops oj = true) →
      i ∈ Region.ready md ops listed → (listed[d]? = some true ∨ S w) → YieldsIf P ops (fun _ => True) oi v a →
      wpAnyL P md ops Q d S fuel (listed.setIfInBounds i true) (a.put oi.dst v) w → wpAnyL P md ops Q d S (fuel + 1) listed a w := by
  intro fuel
  induction fuel with
  | zero =>
    intro listed a w _ hr hl hy H
    refine ⟨fun h => (by rw [h] at hr; cases hr), fun j hj => ?_⟩
    by_cases hji : j = i
    · subst hji; exact hy.wpOp hi trivial ⟨hl.imp late_set id, H⟩
    · have := ready_mono hj hji
      rw [H.1] at this
      cases this
  | succ fuel ih =>
    intro listed a w hfree hr hl hy H
    refine ⟨fun h => (by rw [h] at hr; cases hr), fun j hj => ?_⟩
    by_cases hji : j = i
    · subst hji; exact hy.wpOp hi trivial ⟨hl.imp late_set id, H⟩
    · have h1 := H.2 j (ready_mono hj hji)
      obtain ⟨hjun, oj, hoj, hall⟩ := mem_ready.1 hj
      have hnot : ∀ e ∈ oj.after, Region.binds md e = true → e.on ≠ i := fun e he hb heq => by
        have h1 := hall e he hb
        have h0 := (mem_ready.1 hr).1
        rw [heq] at h1
        rcases Nat.lt_or_ge i listed.size with h' | h'
        · simp [h'] at h0 h1; rw [h0] at h1; cases h1
        · simp [Array.getElem?_eq_none h'] at h1
      have h2 := wpOp_putIf hoj (hfree j oj hoj hji hjun hnot) (fun cs b => hsel i oi cs b hi) (fun cs b => hsel j oj cs b hoj) hQ hy h1
      have hfree' : ∀ k ok, ops[k]? = some ok → k ≠ i → (listed.setIfInBounds j true).getD k true = false →
          (∀ e ∈ ok.after, Region.binds md e = true → e.on ≠ i) → oi.apart ops ok = true := fun k ok hk hki hun hno => by
        refine hfree k ok hk hki ?_ hno
        by_cases hjk : j = k
        · subst hjk; exact hjun
        · rw [getD_set_ne true hjk] at hun; exact hun
      refine wpOp_mono (fun a' w' h3 => ?_) h2
      have hL : (listed.setIfInBounds j true)[d]? = some true ∨ S w' := h3.2.1.imp (fun h => by
        rw [← Array.setIfInBounds_comm _ _ hji, Array.getElem?_setIfInBounds_ne (by omega)] at h; exact h) id
      refine ⟨hL, ih (listed.setIfInBounds j true) a' w' hfree' (ready_mono hr (Ne.symm hji)) hL h3.1 ?_⟩
      rw [Array.setIfInBounds_comm _ _ hji]
      exact h3.2.2
theorem wpAnyL_takeP {i : Nat} {oi : Oper} {v : Value} {fuel : Nat} {listed : Array Bool} {a : Act} {w : World} (hi : ops[i]? = some oi)
    (hs : Region.noSelect ops = true) (hf : Region.free md ops listed i = true) (hr : (Region.ready md ops listed).contains i = true)
    (hQ : ∀ c a w, Q (.panic c) (a.put oi.dst v) w → Q (.panic c) a w) (hy : YieldsIf P ops (fun _ => True) oi v a) (hS : S w)
    (h : wpAnyL P md ops Q d S fuel (listed.setIfInBounds i true) (a.put oi.dst v) w) (hdi : d ≠ i := by decide) : wpAnyL P md ops Q d S (fuel + 1) listed a w :=
  wpAnyL_firstP hi (Region.noSelect_spec hs) hQ hdi fuel listed a w (Region.free_spec hi hf) (by simpa using hr) (.inr hS) hy h
theorem wpAnyL_one {fuel i : Nat} {o : Oper} {listed : Array Bool} {a : Act} {w : World} (hr : Region.ready md ops listed = [i]) (ho : ops[i]? = some o)
    (h : ∀ K' : Act → World → Prop, Shut (∀ a w, S w → (S w → wpAnyL P md ops Q d S fuel (listed.setIfInBounds i true) a w) → K' a w) → if Region.wanted o (yielded ops a.tmps) = true then Oper.wp P o a w K' Q else K' (a.put o.dst undef) w) :
    wpAnyL P md ops Q d S (fuel + 1) listed a w := by
  refine ⟨fun h0 => (by rw [hr] at h0; cases h0), fun j hj => ?_⟩
  rw [hr, List.mem_singleton] at hj
  subst hj
  exact wpOp_step ho (fun K' hK => h K' (fun a w hS hW => hK a w ⟨.inr hS, hW hS⟩))
/-- The store itself: behind it no condition is asked. -/
theorem wpAnyL_last {fuel : Nat} {o : Oper} {listed : Array Bool} {a : Act} {w : World} (hr : Region.ready md ops listed = [d]) (ho : ops[d]? = some o) (hd : d < listed.size)
    (h : ∀ K' : Act → World → Prop, Shut (∀ a w, wpAny P md ops Q fuel (listed.setIfInBounds d true) a w → K' a w) → if Region.wanted o (yielded ops a.tmps) = true then Oper.wp P o a w K' Q else K' (a.put o.dst undef) w) :
    wpAnyL P md ops Q d S (fuel + 1) listed a w := by
  have hl : (listed.setIfInBounds d true)[d]? = some true := by rw [Array.getElem?_setIfInBounds]; simp [hd]
  refine ⟨fun h0 => (by rw [hr] at h0; cases h0), fun j hj => ?_⟩
  rw [hr, List.mem_singleton] at hj
  subst hj
  exact wpOp_step ho (fun K' hK => h K' (fun a w hW => hK a w ⟨.inl hl, wpAnyL_late _ _ _ _ hl hW⟩))
theorem wp_region_late (d : Nat) {id : Nat} {a : Act} {w : World} (hm : P.follows .mixedOrders = true) (hS : S w.drew)
    (h : S w.drew → wpAnyL P .any ops Q d S ops.size (Array.replicate ops.size false) a w.drew) : (Code.region id ops true).wp P Q a w :=
  wp_region_any hm (wpAny_of_late _ _ _ _ (h hS))
end
end Go.Proofs.YtdebnikolhhmgaaDoor
