/-
  Contracts of CopyBytes, OverBytes (what it leaves) and SameLists; no conditions but those that each theorem names.
-/
import Derived.Test.YtopjbiccipgnjaaDoorHT
import Derived.Test.YtopjbiccipgnjaaDoorHL
namespace Go.Proofs.YtopjbiccipgnjaaDoor
open Go.RowKit
set_option linter.unusedVariables false
set_option linter.unusedSimpArgs false
set_option maxRecDepth 100000

theorem CopyB_any (v : Value) (l sp : List UInt8) (w : World) (hS : SlB w v l sp) (hl : l.length ≤ 140737488355328) :
    Calls Tryd.prog 32 #[v] w fun r w' => Cloned w l r w' := by
  have o0 : OwnB 5 (w.alloc (.cells #[] 5)) (.slice (some ⟨w.heap.size, 0, none⟩) 0 0) [] [] := OwnB.of_heap (heap_alloc_new _ _) rfl rfl (by simp)
  have f0 : Frm [] w (w.alloc (.cells #[] 5)) := (Frm.refl _ _).alloc _
  obtain ⟨ad, cap, rfl, _, _⟩ := hS.form
  have hS2 := Lib.hid hS
  clear hS
  go_enter Tryd.func32, Tryd.ntmps32
  go_wp2_with (at_builtin; refine wpList_append_bytes BT o0 (hS2.out.keep f0 (by simp)) (by simp; omega) rfl (.tmp 3) (.tmp 4) rfl rfl rfl ?_; intro a' cap' w' sp' o1 f1 b1)
  go_ret
  refine ⟨a', cap', sp', by simp, by simpa using o1, f0.trans f1 (by simp [blk]), ?_⟩
  intro k hk
  rcases b1 k (by simpa using hk) with h | h
  · simp [blk] at h; omega
  · simp at h; omega
def x90 (b : UInt8) : UInt8 := b ^^^ 90
theorem x90_x90 (b : UInt8) : x90 (x90 b) = b := by
  have : ∀ b : Fin 256, x90 (x90 (UInt8.ofNat b.val)) = UInt8.ofNat b.val := by decide +kernel
  simpa using this ⟨b.toNat, b.toNat_lt⟩
theorem x90_val (b : UInt8) : bits .xor .u8 (b.toNat : Int) 90 = ((x90 b).toNat : Int) := by
  have : ∀ b : Fin 256, bits .xor .u8 (b.val : Int) 90 = ((x90 (UInt8.ofNat b.val)).toNat : Int) := by decide +kernel
  simpa using this ⟨b.toNat, b.toNat_lt⟩
def ovK (L : List UInt8) : Nat → List UInt8
  | 0 => L
  | k + 1 => (ovK L k).set k (x90 ((ovK L k).getD k 0))
theorem ovK_length (L : List UInt8) (k : Nat) : (ovK L k).length = L.length := by induction k <;> simp [ovK, *]
theorem ovK_eq (L : List UInt8) : ∀ k, k ≤ L.length → ovK L k = (L.take k).map x90 ++ L.drop k
  | 0, _ => by simp [ovK]
  | k + 1, h => by
    rw [ovK, ovK_eq L k (by omega)]
    have hk : k < L.length := by omega
    have e : ((L.take k).map x90 ++ L.drop k).getD k 0 = L[k] := by
      simp only [List.getD_eq_getElem?_getD]
      rw [List.getElem?_append_right (by simp; omega)]
      simp [List.getElem?_drop, List.getElem?_eq_getElem hk, show min k L.length = k by omega]
    have hlen : ((L.take k).map x90).length = k := by simp; omega
    rw [e, List.drop_eq_getElem_cons hk, List.set_append_right _ _ (by omega), hlen, Nat.sub_self, List.set_cons_zero, List.take_succ_eq_append_getElem hk, List.map_append]
    simp only [List.map_cons, List.map_nil, List.append_assoc, List.cons_append, List.nil_append]
theorem ovK_all (L : List UInt8) : ovK L L.length = L.map x90 := by rw [ovK_eq L _ (Nat.le_refl _)]; simp
def OvRel (w : World) (g cap : Nat) (L : List UInt8) (c : Value) (wr : World) : Prop :=
  ∃ k : Nat, k ≤ cap ∧ c = .int .i64 k ∧ OwnB 5 wr (.slice (some ⟨g, 0, none⟩) cap cap) (ovK L k) [] ∧ Frm [g] w wr
set_option maxHeartbeats 1000000 in
theorem Over_xor (g n cap : Nat) (l sp : List UInt8) (w : World) (hO : OwnB 5 w (.slice (some ⟨g, 0, none⟩) n cap) l sp) :
    Calls Tryd.prog 17 #[.slice (some ⟨g, 0, none⟩) n cap] w fun r w' => r = .returned (.tuple #[]) ∧ OwnB 5 w' (.slice (some ⟨g, 0, none⟩) n cap) (l.map x90) (sp.map x90) ∧ Frm [g] w w' := by
  obtain ⟨k1, k2, k3⟩ := hO.caps
  have o1 : OwnB 5 w (.slice (some ⟨g, 0, none⟩) cap cap) (l ++ sp) [] := hO.whole
  have hcap : (cap : Int) ≤ 9223372036854775807 := by simp [maxLen] at k3; omega
  have hn : (n : Int) ≤ (cap : Int) := by omega
  have hlen : (l ++ sp).length = cap := by simp; omega
  have HL := Lib.hid hlen
  have HK := Lib.hid (And.intro k1 k2)
  have H3 := Lib.hid k3
  have HO := Lib.hid o1
  clear hO k1 k2 hlen o1
  go_enter Tryd.func17, Tryd.ntmps17
  go_wp2
  go_loopw [3] (OvRel w g cap (l ++ sp)) (fun c _ => cap - (intOf c).toNat)
  case atStart => exact ⟨0, Nat.zero_le _, rfl, HO.out, Frm.refl _ _⟩
  case round =>
    obtain ⟨k, hk, rfl, o2, f2⟩ := hrel
    by_cases hlt : k < cap
    · have hkl : k < (ovK (l ++ sp) k).length := by rw [ovK_length, HL.out]; exact hlt
      have hc := o2.cell k (by simp; omega)
      have hf := o2.frozen k
      rw [List.append_nil, getElem!_pos _ k hkl] at hc
      have hst := o2.store k hkl (x90 ((ovK (l ++ sp) k).getD k 0)) (u := bv (x90 ((ovK (l ++ sp) k).getD k 0))) rfl
      have hgd : (ovK (l ++ sp) k).getD k 0 = (ovK (l ++ sp) k)[k] := by simp [List.getD_eq_getElem?_getD, List.getElem?_eq_getElem hkl]
      have hnext : ovK (l ++ sp) (k + 1) = (ovK (l ++ sp) k).set k (x90 ((ovK (l ++ sp) k).getD k 0)) := rfl
      rw [← hnext] at hst
      rw [hgd] at hst
      unfold bv at hc hst
      have hx := x90_val (ovK (l ++ sp) k)[k]
      generalize (ovK (l ++ sp) k)[k] = x at *
      have HST := Lib.hid hst
      have F2 := Lib.hid f2
      clear hst f2 o2 hnext hgd hkl
      go_wp2
      exact ⟨⟨k + 1, by omega, by go_num, HST.out, F2.out.setCell _ _ (by simp)⟩, by simp [intOf]; omega⟩
    · obtain rfl : k = cap := by omega
      have O2 := Lib.hid o2
      have F2 := Lib.hid f2
      clear o2 f2
      go_wp2
      go_end0
      refine ⟨rfl, ?_, F2.out⟩
      have h9 := O2.out
      have hk : k = (l ++ sp).length := HL.out.symm
      have hall : ovK (l ++ sp) k = (l ++ sp).map x90 := by rw [hk]; exact ovK_all _
      rw [hall] at h9
      have := h9.heap
      refine OwnB.of_heap ?_ (by simpa using HK.out.1) (by simpa using HK.out.2) H3.out
      simpa using this
set_option maxHeartbeats 1000000 in
theorem SameL_true (lo lo2 : Nat) (v x : Value) (ls : List (List UInt8)) (w : World) (h1 : OwnL lo w v ls) (h2 : OwnL lo2 w x ls) (hne : ∀ l ∈ ls, l ≠ []) (hn : ls.length ≤ 1000000) :
    Calls Tryd.prog 13 #[v, x] w fun r w' => r = .returned (.bool true) ∧ Frm [] w w' := by
  obtain ⟨a1, c1, rfl, _, _⟩ := h1.form
  obtain ⟨a2, c2, rfl, _, _⟩ := h2.form
  have H1 := Lib.hid h1
  have H2 := Lib.hid h2
  have HN := Lib.hid hne
  have hn9 : (ls.length : Int) ≤ 1000000 := by omega
  clear h1 h2 hne
  go_enter Tryd.func13, Tryd.ntmps13
  go_wp2_with fail
  go_loopw [5] (fun c wr => ∃ k : Nat, k ≤ ls.length ∧ c = .int .i64 k ∧ Frm [] w wr) (fun c _ => ls.length - (intOf c).toNat)
  case atStart => exact ⟨0, Nat.zero_le _, rfl, Frm.refl _ _⟩
  case round =>
    obtain ⟨k, hk, rfl, f⟩ := hrel
    have F := Lib.hid f
    clear f
    by_cases hlt : k < ls.length
    · obtain ⟨g, cap, gu, capu, spu, e1, d1, o1⟩ := H1.out.row k hlt (HN.out _ (List.getElem_mem _))
      obtain ⟨g', cap', gu', capu', spu', e2, d2, o2⟩ := H2.out.row k hlt (HN.out _ (List.getElem_mem _))
      cases e1
      cases e2
      have d1' := F.out.cell d1 (by simp)
      have d2' := F.out.cell d2 (by simp)
      have hs := fun W (f : Frm [] wr W) => Same_any _ _ _ _ _ _ W (((o1.keep F.out (by simp)).keep f (by simp)).sl) (((o2.keep F.out (by simp)).keep f (by simp)).sl)
      have hb : (ls[k] == ls[k]) = true := by simp
      rw [hb] at hs
      have HS := Lib.hid hs
      generalize ls[k].length = nk at *
      clear o1 o2 d1 d2 hs hb
      go_wp2_with fail
      go_quiet ((go_at_call 33; exact Calls.quiet_of_same (HS.out _ ((Frm.refl [] wr).drewN _))))
      go_wp2_with fail
      refine ⟨⟨k + 1, by omega, by go_num, F.out.drewN _⟩, by simp [intOf]; omega⟩
    · obtain rfl : k = ls.length := by omega
      go_wp2_with fail
      go_ret
      exact ⟨rfl, F.out⟩
end Go.Proofs.YtopjbiccipgnjaaDoor
