/-
  Contracts of the document's reader's Raw, Rest, Left, End, and of its Open; no conditions but those that each theorem names.
-/
import Derived.Test.YtappmjophnhdaaaCF
namespace Go.Proofs.Ytappmjophnhdaaa
open Go.RowKit
set_option linter.unusedVariables false
set_option linter.unusedSimpArgs false

def RawV (w : World) (b : Nat) (v : Value) (l sp m : List UInt8) (s : Nat × Int × Int) (r : Ending) (w' : World) : Prop :=
  ∃ a cap sp', r = .returned (.slice a m.length cap) ∧ OwnB 5 w' (.slice a m.length cap) m sp' ∧ Fresh w (.slice a m.length cap) ∧ RvTo w b v l sp s w'
set_option maxRecDepth 100000 in
set_option maxHeartbeats 2000000 in
theorem VRaw_any (b : Nat) (v : Value) (l sp : List UInt8) (s : Nat × Int × Int) (n : Int) (w : World) (hR : Rv w b v l sp s) (hp : s.1 ≤ l.length) (hl : l.length ≤ 1000000000) :
    Calls Try.prog 52 #[.pointer (some ⟨b, 0, none⟩), .int .i64 n] w fun r w' => RawV w b v l sp (rRaw l s n).1 (rRaw l s n).2 r w' := by
  obtain ⟨p, fe, fa⟩ := s
  simp only at hp
  obtain ⟨c0, c1, c2, c3, z⟩ := hR.cells
  have HR := Lib.hid hR
  by_cases hn : n < 0
  · have hr : rRaw l (p, fe, fa) n = ([], failS (p, fe, fa) 2 p) := by
      by_cases hfe : fe = 0
      · simp [rRaw, stepR, failS, rawRead, hfe, hn]
      · simp [rRaw, stepR, failS, hfe]
    rw [hr]
    clear hr hR z
    go_enter Try.func52, Try.ntmps52
    go_wp2_with fail
    refine (vfail_any b v l sp (p, fe, fa) 2 p _ HR.out).mono ?_
    rintro r w1 ⟨rfl, h1⟩
    have hne : (failS (p, fe, fa) 2 p).2.1 ≠ 0 := by
      unfold failS
      split
      · simp
      · assumption
    have HN := Lib.hid hne
    clear hne
    go_wp2_with fail
    refine (vsome_bad b v _ l sp _ _ h1.1 HN.out).mono ?_
    rintro r w2 ⟨rfl, kk, rfl⟩
    go_wp2
    go_ret
    exact ⟨none, 0, [], rfl, OwnB.nil _ _, by simp [Fresh, blk], h1.drewN kk⟩
  · by_cases hfe : fe = 0
    · subst hfe
      obtain ⟨k, rfl⟩ := Int.eq_ofNat_of_zero_le (show 0 ≤ n by omega)
      by_cases hlt : l.length < p + k
      · have hk0 : ¬ (k : Int) < 0 := by omega
        have hr : rRaw l (p, 0, fa) k = ([], p, 4, (l.length : Int)) := by simp [rRaw, stepR, rawRead, hlt, hk0]
        have hd : decide ((k : Int) ≤ (l.length : Int) - p) = false := by simp; omega
        have hs4 : someS l (p, 0, fa) k = (p, 4, (l.length : Int)) := by unfold someS; rw [if_pos (by simp; omega)]; simp [failS]
        rw [hr]
        have H4 := Lib.hid hs4
        clear hr hlt hR hs4 z
        go_enter Try.func52, Try.ntmps52
        go_wp2_with fail
        refine (vsome_ok b v l sp p fa k _ HR.out hp hl).mono ?_
        rw [hd, H4.out]
        rintro r w1 ⟨rfl, h1⟩
        go_wp2
        go_ret
        exact ⟨none, 0, [], rfl, OwnB.nil _ _, by simp [Fresh, blk], h1⟩
      · have hlen : ((l.drop p).take k).length = k := by simp; omega
        have hr : rRaw l (p, 0, fa) k = ((l.drop p).take k, p + k, 0, fa) := by
          have : ¬ (k : Int) < 0 := by omega
          simp [rRaw, stepR, rawRead, hlt, this]
        have hd : decide ((k : Int) ≤ (l.length : Int) - p) = true := by simp; omega
        have hs4 : someS l (p, 0, fa) k = (p, 0, fa) := by unfold someS; rw [if_neg (by simp; omega)]
        rw [hr]
        have H4 := Lib.hid hs4
        have HLN := Lib.hid hlen
        have hpk : p + k ≤ l.length := by omega
        have hkk : (0 : Int) ≤ (k : Int) := by omega
        clear hr hlt hR hs4 z hlen hn
        generalize hm : (l.drop p).take k = m at *
        have HMM := Lib.hid hm
        clear hm
        go_enter Try.func52, Try.ntmps52
        go_wp2_with fail
        refine (vsome_ok b v l sp p fa k _ HR.out hp hl).mono ?_
        rw [hd, H4.out]
        rintro r w1 ⟨rfl, h1⟩
        obtain ⟨a, cap, rfl, hc1, hc2⟩ := h1.1.2.1.form
        obtain ⟨q, hq⟩ : ∃ q, q = p + k := ⟨_, rfl⟩
        have hpq : (p : Int) + (k : Int) = (q : Int) := by omega
        obtain ⟨a', c', hsl, hS', hbl⟩ := slice_lhB BT h1.1.2.1 p q (by omega) (by omega)
        rw [show q - p = k by omega] at hsl hS' hbl
        rw [HMM.out] at hS'
        have hP := h1.1.place q (.int .i64 q) rfl
        have w1' : IntKind.i64.wrap ((q : Int) - (k : Int)) = (p : Int) := by rw [IntWalk.i64_in _ (by omega)]; omega
        have hsl2 := fun wx => hsl p q wx rfl rfl
        have hb1 : (p : Int) ≤ (q : Int) := by omega
        have hb2 : (q : Int) ≤ (cap : Int) := by omega
        obtain ⟨g0, g1, g2, g3, gz⟩ := hP.1.cells
        obtain ⟨k0, k1, k2, k3, kz⟩ := h1.1.cells
        have HP := Lib.hid hP
        have H1 := Lib.hid h1
        have HS := Lib.hid hS'
        have W1 := Lib.hid w1'
        have HB := Lib.hid hbl
        have HQ := Lib.hid hq
        clear hP h1 hS' w1' hbl hsl hq
        have o0 : OwnB 5 ((w1.setCell ⟨b, 1, none⟩ (.int .i64 q)).alloc (.cells #[] 5)) (.slice (some ⟨w1.heap.size, 0, none⟩) 0 0) [] [] := OwnB.of_heap (heap_alloc_at (by simp)) rfl rfl (by simp)
        have hblt : b < w1.heap.size := lt_heap H1.out.1.1
        have hnb : b ∉ blk (.slice (some ⟨w1.heap.size, 0, none⟩) 0 0) := by simp [blk]; omega
        have HNB := Lib.hid hnb
        clear hnb
        have O0 := Lib.hid o0
        have hSA : ∀ W, Frm [b] w1 W → SlB W (.slice a' k c') m (l.drop q ++ sp) := fun W f => HS.out.keepR f (fun i hi => by simp; rintro rfl; exact H1.out.1.2.2 (HB.out _ hi))
        have hbn : ([] : List UInt8).length + m.length ≤ 140737488355328 := by rw [HLN.out]; simp; omega
        have HSA := Lib.hid hSA
        have HBN := Lib.hid hbn
        clear hSA hbn
        clear o0
        go_wp2_with fail
        have w1' := W1.out
        go_region_held3 (fun y => y.cell? ⟨b, 0, none⟩ = some (.slice a l.length cap) ∧ y.cell? ⟨b, 1, none⟩ = some (.int .i64 q))
          (first | go_keep | (go_split_ands; exact ⟨f2.cell ‹_› HNB.out, f2.cell ‹_› HNB.out⟩))
          ((refine step_append_bytes BT (O0.out.keep ((Frm.refl [] _).drew) (by simp)) (HSA.out _ ((((Frm.refl [b] _).setCell _ _ (by simp)).alloc _).drew)) HBN.out (by rfl) (.tmp 26) (.tmp 41) (by rfl) (by rfl) (by rfl) ?_; intro a2 cap2 w2 sp2 o2 f2 b2))
        go_wp2_with fail
        go_ret
        refine ⟨a2, cap2, sp2, ?_, ?_, ?_, ?_, ?_⟩
        · simp
        · simpa using o2
        · intro i hi
          rcases b2 i (by simpa using hi) with h | h
          · simp [blk] at h
            have := H1.out.2.size
            omega
          · simp at h
            have := H1.out.2.size
            omega
        · have := HP.out.1.keep (((Frm.refl [] _).alloc _).drew.trans f2 (L := []) (by simp [blk])) (by simp) (by simp)
          rw [HQ.out] at this
          exact this
        · exact H1.out.2.trans (HP.out.2.trans (((Frm.refl [] _).alloc _).drew.trans f2 (L := []) (by simp [blk])) (by simp)) (by simp)
    · have hr : rRaw l (p, fe, fa) n = ([], p, fe, fa) := by simp [rRaw, stepR, hfe]
      rw [hr]
      have HFE := Lib.hid hfe
      clear hr hfe hR z
      go_enter Try.func52, Try.ntmps52
      go_wp2_with fail
      refine (vsome_bad b v _ l sp _ _ HR.out HFE.out).mono ?_
      rintro r w2 ⟨rfl, kk, rfl⟩
      go_wp2
      go_ret
      exact ⟨none, 0, [], rfl, OwnB.nil _ _, by simp [Fresh, blk], RvTo.same HR.out ((Frm.refl [] _).drewN kk)⟩
end Go.Proofs.Ytappmjophnhdaaa
