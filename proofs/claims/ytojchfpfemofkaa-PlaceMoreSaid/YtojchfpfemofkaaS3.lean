/-
  Contract of lay. No conditions but those that each theorem names.
-/
import Derived.Test.YtojchfpfemofkaaS2
import Derived.Lib.MinMax
import Derived.WalkMore
namespace Go.Proofs.Ytojchfpfemofkaa
open Go.RowKit
set_option linter.unusedVariables false
set_option linter.unusedSimpArgs false
set_option maxRecDepth 100000

/-- What Check lets pass. -/
structure Fine (f : List Int) (t : List Bool) (c : Int) : Prop where
  n2 : 2 ≤ f.length
  n8 : f.length ≤ 8
  tl : t.length = f.length
  c1 : 1 ≤ c
  c3 : c ≤ 3
  rng : ∀ i, 0 ≤ gt f i ∧ gt f i ≤ 4096
/-- How many copies are wanted. -/
def wt (c : Int) (t : List Bool) : Nat := min c.toNat (upN t)
theorem Fine.rm {f : List Int} {t : List Bool} {c : Int} (h : Fine f t c) (i : Nat) : 0 ≤ gt (rm f t) i ∧ gt (rm f t) i ≤ 4096 := by
  rw [gt_rm]
  have := h.rng i
  split <;> omega
/-- Devices that are told. -/
def DevR (w0 : World) (g w : Nat) (r : List Int) (k : Nat) (dv : Value) (wr : World) : Prop :=
  (k = 0 ∧ dv = .slice none 0 0) ∨ ∃ j r' l g2 cap sp, k = j + 1 ∧ aft w r j = some r' ∧ cho r' w = some l ∧ dv = .slice (some ⟨g2, 0, none⟩) w cap ∧ OwnI wr dv (cz l) sp ∧ w0.heap.size ≤ g2 ∧ g2 ≠ g
/-- Rooms that come of rooms by taking. -/
structure RoomR (r : List Int) (w k : Nat) (rk : List Int) : Prop where
  af : aft w r k = some rk
  len : rk.length = r.length
  rng : ∀ i, 0 ≤ gt rk i ∧ gt rk i ≤ 4096
theorem RoomR.zero {r : List Int} {w : Nat} (h : ∀ i, 0 ≤ gt r i ∧ gt r i ≤ 4096) : RoomR r w 0 r := ⟨rfl, rfl, h⟩
theorem RoomR.succ {r rk : List Int} {w k : Nat} {l : List Nat} (h : RoomR r w k rk) (hl : cho rk w = some l) : RoomR r w (k + 1) (decL rk l) := by
  have hc := (cho_spec hl).2
  refine ⟨aft_last w k r rk l h.af hl, by rw [decL_length]; exact h.len, fun i => ?_⟩
  have h1 := decL_nn hc (fun i => (h.rng i).1) i
  have h2 := h.rng i
  rw [gt_decL l rk hc.nd fun x hx => gt_pos (hc.pos x hx)] at h1 ⊢
  split at h1 <;> simp_all <;> omega
theorem RoomR.le {r rk : List Int} {w k : Nat} (h : RoomR r w k rk) (hw : 0 < w) (h0 : ∀ i, 0 ≤ gt r i ∧ gt r i ≤ 4096) (hn : r.length ≤ 8) : (k : Int) ≤ 32768 := by
  have h1 := aft_sum_le hw (fun i => (h0 i).1) h.af
  have h2 : sumN r.length (gt r) ≤ sumN r.length (fun i => 4096 * 1) := sumN_le fun i _ => by have := h0 i; omega
  rw [sumN_mul] at h2
  have h3 : ∀ n : Nat, sumN n (fun _ => 1) = n := fun n => by
    induction n with
    | zero => rfl
    | succ n ih => simp only [sumN, ih]; omega
  rw [h3] at h2
  omega
theorem cntK_succ (r : List Int) (j : Nat) : cntK r (j + 1) = cntK r j + if 0 < gt r j then 1 else 0 := rfl
/-- The first part of a list of its own. -/
theorem OwnI.front {w : World} {g n cap : Nat} {l : List Int} {sp : List Value} (h : OwnI w (.slice (some ⟨g, 0, none⟩) n cap) l sp) (k : Nat) (hk : k ≤ l.length) : OwnI w (.slice (some ⟨g, 0, none⟩) k cap) (l.take k) ((l.drop k).map (Value.int .i64) ++ sp) := by
  obtain ⟨c1, c2, c3, c4⟩ := OwnE.caps encI h
  refine OwnI.of_heap ?_ (by simp; omega) (by simp; omega) c4
  rw [OwnI.heap h, ← List.append_assoc, ← List.map_append, List.take_append_drop]
theorem cho_chs {r : List Int} {w : Nat} {l : List Nat} (h : cho r w = some l) : chs r w = some l := by
  unfold cho at h
  split at h
  · cases h
  · exact h
def LayRel (g w : Nat) (r : List Int) (most : Int) (w0 : World) (kv dv : Value) (wr : World) : Prop :=
  ∃ (k : Nat) (rk : List Int), kv = .int .i64 k ∧ (k : Int) ≤ most ∧ k ≤ 32768 ∧ RoomR r w k rk ∧ OwnI wr (.slice (some ⟨g, 0, none⟩) r.length r.length) rk [] ∧ DevR w0 g w r k dv wr ∧ Frm [] w0 wr
def AblRel (w : Nat) (rk : List Int) (k0 : Value) (D : Value → Prop) (w1 : World) (kv dv av jv : Value) (wr : World) : Prop :=
  kv = k0 ∧ D dv ∧ ∃ j : Nat, j ≤ rk.length ∧ jv = .int .i64 j ∧ av = .int .i64 (cntK rk j) ∧ (w = 0 ∨ cntK rk j < w) ∧ wr = w1
/-- What lay tells. -/
def LayP (w : Nat) (r : List Int) (most : Int) (w0 : World) (e : Ending) (w' : World) : Prop :=
  ∃ (k : Nat) (rk : List Int) (dv : Value) (g : Nat), e = .returned (.tuple #[.int .i64 k, dv]) ∧ (k : Int) ≤ most ∧ aft w r k = some rk ∧ ((k : Int) = most ∨ cho rk w = none) ∧ DevR w0 g w r k dv w' ∧ Frm [] w0 w'
set_option maxHeartbeats 4000000 in
theorem lay_any (v d : Value) (f : List Int) (t : List Bool) (c most : Int) (sp dsp : List Value) (w : World) (hS : SlI w v f sp) (hT : SlO w d t dsp) (hF : Fine f t c) (hm : 1 ≤ most ∧ most ≤ 9223372036854775807) :
    Calls Try.prog 25 #[v, d, .int .i64 c, .int .i64 most] w (LayP (wt c t) (rm f t) most w) := by
  have HU := Lib.hid (usable_any v d f t sp dsp w hS hT (by have := hF.n8; omega) hF.tl)
  have HF := Lib.hid hF
  have HM := Lib.hid hm
  have hwt : min c (upN t : Int) = ((wt c t : Nat) : Int) := by
    have := hF.c1
    unfold wt
    omega
  have hw3 : wt c t ≤ 3 ∧ wt c t ≤ f.length := by
    have h1 := hF.c3
    have h2 := upN_le t
    have h3 := hF.tl
    unfold wt
    omega
  obtain ⟨a, cap, rfl, _, _⟩ := hS.form
  obtain ⟨a2, cap2, rfl, _, _⟩ := hT.form
  clear hS hT hF hm
  have HW := Lib.hid hwt
  have HW3 := Lib.hid hw3
  clear hwt hw3
  go_enter Try.func25, Try.ntmps25
  go_wp2_with (first | go_step3 | (go_at_call 28; refine Calls.mono (HU.out) ?_; rintro ee W1 ⟨g, rfl, o1, f1, n1⟩))
  rw [HW.out]
  have hfl := HF.out.n8
  have hf2 := HF.out.n2
  have hrl := rm_length f t
  have RG := Lib.hid HF.out.rm
  have o1' : OwnI W1 (.slice (some ⟨g, 0, none⟩) (rm f t).length (rm f t).length) (rm f t) [] := by rw [hrl]; exact o1
  have hw3' : wt c t ≤ 3 ∧ wt c t ≤ (rm f t).length := by rw [hrl]; exact HW3.out
  rw [← hrl] at hfl hf2 ⊢
  clear o1 HW HW3 HU
  generalize wt c t = wn at *
  generalize rm f t = r at *
  have O1 := Lib.hid o1'
  have F1 := Lib.hid f1
  have N1 := Lib.hid n1
  have HWN := Lib.hid hw3'
  clear o1' f1 n1 hw3' hrl HF
  have hr9 : ((r.length : Nat) : Int) ≤ 8 := by omega
  go_loopw [8, 9] (LayRel g wn r most w) (fun kv _ _ => 32769 - (intOf kv).toNat)
  case atStart => exact ⟨0, r, rfl, by have := HM.out; omega, by omega, RoomR.zero RG.out, O1.out, .inl ⟨rfl, rfl⟩, F1.out⟩
  case round =>
    clear O1 F1 W1
    obtain ⟨k, rk, rfl, hkm, hk3, hrr, o, dv, fr⟩ := hrel
    have RR := Lib.hid hrr
    have hlen := hrr.len
    by_cases hlt : (k : Int) < most
    · have o' := o
      rw [← hlen] at o'
      have O := Lib.hid o'
      have GL := Lib.hid (show g < wr.heap.size from o.lt g (by simp [blk]))
      clear o'
      have DV := Lib.hid dv
      have FR := Lib.hid fr
      clear o dv fr
      rw [← hlen] at hr9
      go_wp2_with fail
      rw [← hlen]
      clear hlen
      go_loopw [8, 9, 13, 29] (AblRel wn rk (.int .i64 k) (fun dv => DevR w g wn r k dv wr) wr) (fun _ _ _ jv _ => rk.length - (intOf jv).toNat)
      case atStart => exact ⟨rfl, DV.out, 0, by omega, rfl, rfl, by simp [cntK, sumN]; omega, rfl⟩
      case round =>
        clear DV
        obtain ⟨rfl, dv, j, hj, rfl, rfl, hab, rfl⟩ := hrel
        have DV := Lib.hid dv
        clear dv
        by_cases hlj : j < rk.length
        · have c0 := cellI O.out.sl j hlj
          rw [Nat.zero_add, ← gt_lt] at c0
          have hst := cntK_succ rk j
          have hle := cntK_le rk j
          have hng := (RR.out.rng j).1
          by_cases h0 : gt rk j = 0
          · rw [h0, if_neg (by omega), Int.add_zero] at hst
            rw [h0] at c0
            have HAB := Lib.hid (show wn = 0 ∨ cntK rk (j + 1) < (wn : Int) by rw [hst]; exact hab)
            have HST := Lib.hid hst
            clear h0 hst hab hng hle
            go_wp2_with fail
            go_roundw
            case rel => exact ⟨rfl, DV.out, j + 1, by omega, by go_num, by rw [HST.out], HAB.out, rfl⟩
            case measure => simp [intOf]; omega
          · rw [if_pos (by omega)] at hst
            have hb0 : (gt rk j == 0) = false := by simpa using h0
            have hw1 : IntKind.i64.wrap (cntK rk j + 1) = cntK rk j + 1 := IntWalk.i64_in _ (by omega)
            by_cases hf : cntK rk j + 1 = (wn : Int)
            · have hmo := cntK_mono rk (show j + 1 ≤ rk.length by omega)
              rw [hst, hf] at hmo
              obtain ⟨l, hl⟩ := cho_ge (by omega) hmo
              have HL := Lib.hid hl
              have hbe : (cntK rk j + 1 == (wn : Int)) = true := by simpa using hf
              have HFU := Lib.hid (fullest_any _ rk [] wr O.out.sl (by omega) (by omega))
              have HSO := Lib.hid (fun S (h : InOrder rk S) => chs_sorted h.2.1 h.2.2 wn l (cho_chs hl))
              have hwc := HWN.out.2
              have HC := Lib.hid (show Can rk l from ⟨(cho_spec hl).2.nd, fun x hx => ⟨(cho_spec hl).2.pos x hx, by have := RR.out.rng x; omega⟩⟩)
              have HLL := Lib.hid (cho_spec hl).2.len
              have HL12 := Lib.hid (show rk.length ≤ 12 ∧ wn ≤ 12 by have := HWN.out.1; omega)
              generalize gt rk j = y at *
              generalize cntK rk j = q at *
              have hwr : wn ≤ rk.length := by rw [RR.out.len]; exact hwc
              have hwr9 : (wn : Int) ≤ (rk.length : Int) := by omega
              clear hst hle hng hab hf hmo hl hwc
              go_wp2_with (first | (go_at_call 29; refine Calls.mono (HFU.out) ?_; rintro ee W2 ⟨S, g2, i2, rfl, o2, f2, n2⟩))
              have hlS := HSO.out S i2
              have o3 := OwnI.front o2 wn (by rw [cz_length, i2.1]; exact hwr)
              have e3 : (cz S).take wn = cz l := by rw [hlS]; simp [cz]
              rw [e3] at o3
              have o4 := O.out.keep0 f2
              have HN2 := Lib.hid (show g2 ≠ g by have := GL.out; omega)
              have hW2 : w.heap.size ≤ W2.heap.size := (FR.out.trans f2 (by simp)).size
              have HG2 := Lib.hid (show w.heap.size ≤ g2 from Nat.le_trans FR.out.size n2)
              have HT := Lib.hid (take_any _ _ rk l _ _ W2 o4 o3.sl HC.out HL12.out.1 (by rw [HLL.out]; exact HL12.out.2) (by simp [blk]; exact HN2.out))
              have O3 := Lib.hid o3
              have F3 := Lib.hid (FR.out.trans f2 (by simp))
              clear o2 o3 o4 f2 n2 hW2 e3 hlS i2
              have hk9 : IntKind.i64.wrap ((k : Int) + 1) = (k : Int) + 1 := IntWalk.i64_in _ (by omega)
              go_wp2_with (first | (go_at_call 30; refine Calls.mono (HT.out) ?_; rintro ee W3 ⟨rfl, o5, f5⟩))
              have R2 := RR.out.succ HL.out
              have hkk := R2.le (by have := (cho_spec HL.out).1; exact this) RG.out (by have := RR.out.len; omega)
              rw [RR.out.len] at o5
              have o6 := O3.out.keep f5 (by simp [blk]; exact HN2.out)
              rw [RR.out.len] at o6 ⊢
              go_roundw
              case rel => exact ⟨k + 1, decL rk l, by go_num, by omega, by omega, R2, o5, .inr ⟨k, rk, l, g2, r.length, _, rfl, RR.out.af, HL.out, rfl, o6, HG2.out, HN2.out⟩, F3.out.trans f5 (by intro i hi; simp [blk] at hi; subst hi; exact .inr N1.out)⟩
              case measure => simp [intOf]; omega
            · have hbe : (cntK rk j + 1 == (wn : Int)) = false := by simpa using hf
              have HAB := Lib.hid (show wn = 0 ∨ cntK rk (j + 1) < (wn : Int) by rw [hst]; omega)
              have HST := Lib.hid hst
              generalize gt rk j = y at *
              clear h0 hst hab hng
              generalize cntK rk j = q at *
              go_wp2_with fail
              go_roundw
              case rel => exact ⟨rfl, DV.out, j + 1, by omega, by go_num, by rw [HST.out], HAB.out, rfl⟩
              case measure => simp [intOf]; omega
        · obtain rfl : j = rk.length := by omega
          have HNO := Lib.hid (cho_lt (r := rk) (w := wn) hab)
          clear hab
          go_wp2_with fail
          go_ret2
          exact ⟨k, rk, _, g, rfl, hkm, RR.out.af, .inr HNO.out, DV.out, FR.out⟩
    · have HKE := Lib.hid (show (k : Int) = most by omega)
      have DV := Lib.hid dv
      have FR := Lib.hid fr
      clear o dv fr hlen
      go_wp2_with fail
      go_ret2
      exact ⟨k, rk, _, g, rfl, hkm, RR.out.af, .inl HKE.out, DV.out, FR.out⟩
end Go.Proofs.Ytojchfpfemofkaa
