/-
  Contracts of has and rising. No conditions but those that each theorem names.
-/
import Derived.Test.YtafedmahehbggaaCE
namespace Go.Proofs.Ytafedmahehbggaa
open Go.RowKit Go.Sort Go.Maps
set_option linter.unusedVariables false
set_option linter.unusedSimpArgs false
set_option maxRecDepth 100000

theorem zero51 (w : World) : (zeroValue 70).run Try.prog w = .ok (.agg #[]) w := by kernel_rfl
theorem has_any (b n : Nat) (S : List Ad) (x : Ad) (w : World) (hS : SetW w b n S) (hx : WfA x) :
    Calls Try.prog 52 #[.map (some b), av x] w fun e w' => e = .returned (.bool (decide (x ∈ S))) ∧ Frm [] w w' := by
  obtain ⟨D, hown, hD⟩ := hS
  have hown1 := ownsMap_frm hown ((Frm.refl [] w).alloc (.cells #[.int .i64 x.1, .int .i64 x.2] 25)) (by simp)
  have hkey := key_A hx
  have hh := hD.has hx
  rw [← hh]
  have HO := Lib.hid hown1
  have HK := Lib.hid hkey
  clear hown hD hkey hx hown1 hh
  unfold av at *
  go_enter Try.func52, Try.ntmps52
  go_wp2_with (at_lookup; refine wpList_lookup_own_unit _ rfl _ _ 63 rfl 25 70 law23 Try.underlying63 (zero51 _) b n D rfl HO.out _ _ rfl HK.out ?_)
  go_ret
  exact ⟨rfl, ((Frm.refl [] w).alloc _).alloc _⟩
def RisRel (D : DataW Unit) (b r n : Nat) (w0 : World) (v : Value) (wr : World) : Prop :=
  ∃ (left : Lit → Bool) (cnt : Nat) (ss sp : List Ad), wr.ranges Try.prog 25 unitElem b r n D left cnt ∧ Met D left ss ∧ ss.length + cnt ≤ n ∧ OwnA 25 wr v ss sp ∧ (∀ i ∈ blk v, w0.heap.size ≤ i) ∧ Frm [r] w0 wr
theorem AT : AdTys Try.prog 30 25 := ⟨Try.underlying30, by kernel_rfl⟩
theorem sla_one {w : World} {g : Nat} {x : Ad} (h : w.heap[g]? = some (.cells #[.int .i64 x.1, .int .i64 x.2] 25 (0, 0))) : SlA w (.slice (some ⟨g, 0, none⟩) 1 1) [x] [] := by
  refine OwnA.sl (T := 25) (OwnA.of_heap (n := 1) (cap := 1) ?_ rfl rfl (by decide))
  rw [h]
  rfl
set_option maxHeartbeats 2000000 in
theorem rising_any (b n : Nat) (S : List Ad) (w : World) (hS : SetW w b n S) (hn : n ≤ 1000000) :
    Calls Try.prog 54 #[.map (some b)] w fun e w' => ∃ v sp, e = .returned v ∧ OwnA 25 w' v (srt S) sp ∧ Frm [] w w' ∧ ∀ i ∈ blk v, w.heap.size ≤ i := by
  obtain ⟨D, hown, hD⟩ := hS
  have hsz := hown.size_le
  have HO := Lib.hid hown
  have HD := Lib.hid hD
  have HZ := Lib.hid hsz
  have HN := Lib.hid hn
  clear hown hD hsz hn
  go_enter Try.func54, Try.ntmps54
  go_wp2_with (at_range; refine wpList_range_own _ rfl _ 63 rfl 25 70 law23 Try.underlying63 unitElem b n D rfl HO.out ?_; intro w1 hr1 hg1 hs1)
  have HS1 := Lib.hid hs1
  clear hs1
  go_frame
  obtain ⟨r, hr⟩ : ∃ r, w.heap.size = r := ⟨_, rfl⟩
  rw [hr] at hr1 ⊢
  have HR := Lib.hid hr
  have R1 := Lib.hid hr1
  have F1 := Lib.hid (Frm.of_grown hg1 (L := []) (by simp))
  clear hr hr1 hg1
  go_loopw [3] (RisRel D b r n w1) (fun _ wr => wr.rangeLeft b r)
  case atStart => exact ⟨_, _, [], [], R1.out, Met.start D, by have := HZ.out; simpa using this, OwnA.nil 25 _, by simp [blk], Frm.refl _ _⟩
  case round =>
    obtain ⟨left, cnt, ss, sp, hrg, hm, hcnt, ho, hfr, f⟩ := hrel
    obtain ⟨a3, c3, rfl, _, _⟩ := ho.sl.form
    have RG := Lib.hid hrg
    have M := Lib.hid hm
    have C := Lib.hid hcnt
    have O := Lib.hid ho
    have FR := Lib.hid hfr
    have F := Lib.hid f
    clear hrg hm hcnt ho hfr f
    go_wp2_with (at_next; refine wpList_next_ranges _ rfl _ rfl 25 law23 unitElem av (fun _ : Unit => Value.agg #[]) (fun key kl hk => by obtain ⟨x, hx, _⟩ := key_inv hk; exact ⟨x, hx⟩) (fun v y hv => ⟨(), (unitElem_inv hv).1⟩) b r n D left cnt rfl RG.out ?_ ?_)
    · intro hc0 hl0
      have HL0 := Lib.hid hl0
      clear hc0 hl0
      go_wp2_with fail
      refine (SortFunc_any _ ss sp _ O.out (by have := C.out; have := HN.out; omega)).mono ?_
      rintro q w5 ⟨rfl, o5, f5⟩
      have O5 := Lib.hid o5
      have F5 := Lib.hid f5
      clear o5 f5
      go_wp2_with fail
      go_ret
      refine ⟨_, sp, rfl, ?_, ?_, ?_⟩
      · have h := O5.out; rwa [M.out.srt HD.out HL0.out] at h
      · have hr := HR.out
        have hz := F1.out.size
        exact (F1.out.trans F.out (fun i hi => by simp at hi; omega)).trans F5.out (fun i hi => by have := FR.out i hi; omega)
      · intro i hi; have := FR.out i hi; have := F1.out.size; omega
    · intro x1 x2 kl yd yp w2 cnt2 hkey hlk hv hat hrg2 hlt hg2 hs2 hen
      clear hs2
      obtain ⟨x, hx, hwx, rfl⟩ := key_inv hkey
      obtain rfl := av_inj hx
      have hst := M.out.step hwx hlk (has_true_of_atKey hat)
      have ho2 := O.out.keep (Frm.of_grown hg2 (L := [r]) (by simp)) (fun i hi => by have := FR.out i hi; have := HS1.out; have := HR.out; simp; omega)
      have ST := Lib.hid hst
      have RG2 := Lib.hid hrg2
      have O2 := Lib.hid ho2
      have F2 := Lib.hid (F.out.trans (Frm.of_grown hg2 (L := [r]) (by simp)) (by simp))
      have LT := Lib.hid hlt
      clear hst hrg2 ho2 hg2 hlt hkey hlk hv hat hwx hx
      unfold av at hen
      go_wp2_with (at_builtin; refine wpList_append_ads AT (O2.out.keep (((Frm.refl [] _).alloc _).alloc _) (by simp)) (sla_one (x := (x1, x2)) (heap_alloc_at (by simp))) (by have := C.out; have := HN.out; simp; omega) rfl (.tmp 11) (.tmp 13) rfl rfl rfl ?_; intro a4 cap4 w4 sp4 o4 f4 n4)
      have hf4 : Frm (blk (.slice a3 ss.length c3)) w2 w4 := (((Frm.refl _ _).alloc _).alloc _).trans f4 (fun i hi => .inl hi)
      have hbr : ∀ i ∈ blk (.slice a3 ss.length c3), w1.heap.size ≤ i := FR.out
      have hrl : r < w1.heap.size := by have := HS1.out; have := HR.out; omega
      have hbl : b < r := by have := HO.out.lt; have := HR.out; omega
      have hr4 := ranges_frm RG2.out hf4 (fun h => by have := hbr _ h; omega) (fun h => by have := hbr _ h; omega)
      have hnew : RisRel D b r n w1 (.slice a4 (ss.length + 1) cap4) w4 := ⟨_, cnt2, ss ++ [(x1, x2)], sp4, hr4, ST.out, by have := C.out; have := LT.out; simp; omega, by simpa using o4, fun i hi => by
        rcases n4 i (by simpa using hi) with h | h
        · exact hbr i h
        · have := F2.out.size; simp at h; omega, F2.out.trans hf4 (fun i hi => .inr (hbr i hi))⟩
      have hme : w4.rangeLeft b r < wr.rangeLeft b r := by rw [hr4.left_eq, RG.out.left_eq]; exact LT.out
      have HNW := Lib.hid hnew
      have HME := Lib.hid hme
      clear hf4 hbr hrl hbl hr4 hnew hme o4 f4 n4
      go_wp2_with fail
      go_roundw
      case rel => exact HNW.out
      case measure => exact HME.out
end Go.Proofs.Ytafedmahehbggaa
