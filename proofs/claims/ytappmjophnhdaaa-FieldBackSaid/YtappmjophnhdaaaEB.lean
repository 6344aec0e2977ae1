/-
  Contracts of the law's room and back; no conditions but those that each theorem names.
-/
import Derived.Test.YtappmjophnhdaaaEA
import Derived.Test.YtappmjophnhdaaaCI
namespace Go.Proofs.Ytappmjophnhdaaa
open Go.RowKit
set_option linter.unusedVariables false
set_option linter.unusedSimpArgs false

set_option maxHeartbeats 1000000 in
theorem room_any (y : Act0) (a : Option Addr) (cap : Nat) (w : World) (hr : RightAct y) : Calls Try.prog 36 #[actVal y a cap] w fun r w' => r = .returned (.int .i64 (roomI y)) ∧ Frm [] w w' := by
  obtain ⟨kind, n, size, s, m⟩ := y
  unfold actVal
  have f0 : ∀ o, Frm [] w (w.alloc o) := fun o => (Frm.refl _ _).alloc o
  have HF := Lib.hid f0
  clear f0
  rcases hr with ⟨h, h1, h2, _⟩ | ⟨h, h1, h2, _⟩ | h
  · simp only at h h1 h2
    subst h
    have hv : roomI ⟨0, n, size, s, m⟩ = size := by simp [roomI]
    rw [hv]
    clear hv
    go_enter Try.func36, Try.ntmps36
    go_wp2
    go_ret
    exact ⟨rfl, HF.out _⟩
  · simp only at h h1 h2
    subst h
    have hv : roomI ⟨1, n, size, s, m⟩ = 1 + size := by simp [roomI]
    rw [hv]
    clear hv
    go_enter Try.func36, Try.ntmps36
    go_wp2
    go_ret
    exact ⟨rfl, HF.out _⟩
  · simp only at h
    subst h
    have hv : roomI ⟨2, n, size, s, m⟩ = m.length := by simp [roomI]
    rw [hv]
    clear hv
    go_enter Try.func36, Try.ntmps36
    go_wp2
    go_ret
    exact ⟨rfl, HF.out _⟩
set_option maxRecDepth 100000 in
set_option maxHeartbeats 2000000 in
theorem back_any (br : Nat) (vr : Value) (L sp : List UInt8) (p : Nat) (y : Act0) (a : Option Addr) (cap : Nat) (msp : List UInt8) (w : World) (hR : Rd w br vr L sp (p : Nat) 0 0) (hL : L.length ≤ 1000000000) (hr : RightAct y) (hS : SlB w (.slice a y.m.length cap) y.m msp)
    (hd : br ∉ blkR (.slice a y.m.length cap)) (hp : p + (wrA y).length ≤ L.length) (hx : (L.drop p).take (wrA y).length = wrA y) :
    Calls Try.prog 39 #[.pointer (some ⟨br, 0, none⟩), actVal y a cap] w fun r w' => r = .returned (.bool true) ∧ RdTo w br vr L sp (p + (wrA y).length, 0, 0) w' := by
  have hrm := wrA_room hr
  obtain ⟨kind, n, size, s, m⟩ := y
  unfold actVal
  have f0 : ∀ o, Frm [] w (w.alloc o) := fun o => (Frm.refl _ _).alloc o
  have hlb := hR.lt br (by simp)
  have HF := Lib.hid f0
  have HR := Lib.hid (fun o => hR.keep (f0 o) (by simp) (by simp))
  have hpl : p ≤ L.length := by omega
  have hnb : w.heap.size ∉ [br] := by simp; omega
  have HNB := Lib.hid hnb
  clear f0 hR hnb
  rcases hr with ⟨h, h1, h2, h3, h4⟩ | ⟨h, h1, h2, h3⟩ | h
  · simp only at h h1 h2 h3 h4
    subst h
    simp only [wrA, if_true, beBytes_length] at hp hx
    have ho := num_back h1 h2 h3 h4 hp hx
    have hw : (wrA ⟨0, n, size, s, m⟩).length = size.toNat := by simp [wrA, beBytes_length]
    rw [hw]
    have HO := Lib.hid ho
    clear ho hw hp hx h1 h2 h3 h4 hrm hS hd
    go_enter Try.func39, Try.ntmps39
    go_wp2_with fail
    go_region_held3 (fun x => x.cell? ⟨w.heap.size, 1, none⟩ = some (.int .i64 n) ∧ x.cell? ⟨w.heap.size, 2, none⟩ = some (.int .i64 size))
      (first | go_keep | (go_split_ands; exact ⟨f1.2.cell ‹_› HNB.out, f1.2.cell ‹_› HNB.out⟩))
      ((go_at_call 30; refine (RNumR_eq HO.out ((HR.out _).keep (Frm.refl [] _).drew (by simp) (by simp)) hpl hL).mono ?_; rintro r w1 ⟨rfl, f1⟩))
    go_wp2_with fail
    go_ret
    exact ⟨rfl, f1.1, (((HF.out _).drew.mono (by simp)).trans f1.2 (by simp))⟩
  · simp only at h h1 h2 h3
    subst h
    have hlen : (wrA ⟨1, n, size, s, m⟩).length = 1 + size.toNat := by
      simp only [wrA]
      rw [if_neg (by decide)]
      simp only [if_true]
      rw [textBytes_length _ _ (by omega)]
    have hwr : wrA ⟨1, n, size, s, m⟩ = textBytes s.data.toList size.toNat := by simp [wrA]
    rw [hlen] at hp hx ⊢
    rw [hwr] at hx
    have ho := text_back h1 h2 h3 hp hx
    have HO := Lib.hid ho
    clear ho hlen hwr hp hx h1 h2 h3 hrm hS hd
    go_enter Try.func39, Try.ntmps39
    go_wp2_with fail
    go_region_held3 (fun x => x.cell? ⟨w.heap.size, 2, none⟩ = some (.int .i64 size) ∧ x.cell? ⟨w.heap.size, 3, none⟩ = some (.string s))
      (first | go_keep | (go_split_ands; exact ⟨f1.2.cell ‹_› HNB.out, f1.2.cell ‹_› HNB.out⟩))
      ((go_at_call 31; refine (RTextR_eq HO.out ((HR.out _).keep (Frm.refl [] _).drew (by simp) (by simp)) hpl hL).mono ?_; rintro r w1 ⟨rfl, f1⟩))
    go_wp2_with fail
    go_ret
    exact ⟨rfl, f1.1, (((HF.out _).drew.mono (by simp)).trans f1.2 (by simp))⟩
  · simp only at h
    subst h
    have hwr : wrA ⟨2, n, size, s, m⟩ = m := by simp [wrA]
    rw [hwr] at hp hx ⊢
    have ho := raw_back hp hx
    simp only at hS hd
    have HO := Lib.hid ho
    have HS := Lib.hid (fun W (f : Frm [br] w W) => hS.keepR f (fun k hk => by simp; rintro rfl; exact hd hk))
    clear ho hwr hp hx hrm hS hd
    go_enter Try.func39, Try.ntmps39
    go_wp2_with fail
    go_region_held3 (fun x => x.cell? ⟨w.heap.size, 4, none⟩ = some (.slice a m.length cap))
      (first | go_keep | exact f1.2.cell ‹_› HNB.out)
      ((first | (go_at_call 32; refine (RRawR_eq HO.out ((HR.out _).keep (Frm.refl [] _).drew (by simp) (by simp)) hpl hL).mono ?_; rintro r w1 ⟨a1, cap1, sp1, rfl, o1, g1, f1⟩) | (go_at_call 17; refine (Same_any _ _ m _ m _ _ o1.sl (HS.out _ (((HF.out _).drew.mono (by simp)).trans f1.2 (by simp)))).mono ?_; rintro r w2 ⟨rfl, hw2⟩; subst hw2)))
    go_wp2_with fail
    go_ret
    exact ⟨by simp, f1.1, (((HF.out _).drew.mono (by simp)).trans f1.2 (by simp))⟩
end Go.Proofs.Ytappmjophnhdaaa
