/-
  Contract of the closure of a reader's Text where a text is read; no conditions but those that the theorem names.
-/
import Derived.Test.YtappmjophnhdaaaS
namespace Go.Proofs.Ytappmjophnhdaaa
open Go.RowKit
set_option linter.unusedVariables false
set_option linter.unusedSimpArgs false

/-- What reading a text comes to: a fault, or the text. -/
def textRead (l : List UInt8) (p : Nat) (most : Int) : (Int × Int) ⊕ List UInt8 :=
  if isMostB most = false then .inl (2, p) else if l.length < p + (1 + most.toNat) then .inl (4, l.length) else
  match (l.drop p).take (1 + most.toNat) with
  | [] => .inl (4, l.length)
  | b :: r => if most < b.toNat then .inl (3, p) else if 0 ≤ firstNot (r.drop b.toNat) then .inl (4, ((p + 1 + b.toNat : Nat) : Int) + firstNot (r.drop b.toNat)) else .inr (r.take b.toNat)
set_option maxRecDepth 100000 in
set_option maxHeartbeats 2000000 in
theorem rtext_ok (bs bq br bn : Nat) (v : Value) (l sp : List UInt8) (p : Nat) (fe fa most : Int) (m : List UInt8) (w : World) (hR : Rd w br v l sp p fe fa) (hp : p ≤ l.length) (hl : l.length ≤ 1000000000)
    (cs : w.cell? ⟨bs, 0, none⟩ = some (.int .i64 most)) (cr : w.cell? ⟨bq, 0, none⟩ = some (.pointer (some ⟨br, 0, none⟩))) (hx : textRead l p most = .inr m)
    (cn : w.heap[bn]? = some (.cells #[.string ByteArray.empty] 9 (0, 0))) (n1 : bq ≠ bn) (n2 : bs ≠ bn) (n3 : br ≠ bn) (n4 : bn ∉ blk v) :
    Calls Try.prog 61 #[.pointer (some ⟨bs, 0, none⟩), .pointer (some ⟨bq, 0, none⟩), .pointer (some ⟨bn, 0, none⟩)] w fun r w' => r = .returned (.tuple #[]) ∧
      Rd w' br v l sp (p + (1 + most)) fe fa ∧ w'.cell? ⟨bn, 0, none⟩ = some (.string ⟨m.toArray⟩) ∧ Frm [br, bn] w w' := by
  have hR' := hR
  obtain ⟨h1, h2, h3⟩ := hR
  have c2 : w.cell? ⟨br, 2, none⟩ = some (.int .i64 p) := by rw [cell_of_heap h1]; rfl
  have H1 := Lib.hid h1
  have HN := Lib.hid cn
  clear h1 cn
  unfold textRead at hx
  split at hx
  · cases hx
  · rename_i hs
    have hs' : isMostB most = true := by simpa using hs
    have hb : 0 ≤ most ∧ most ≤ 255 := by simpa [isMostB] using hs'
    obtain ⟨hb1, hb2⟩ := hb
    clear hs
    obtain ⟨s, rfl⟩ := Int.eq_ofNat_of_zero_le hb1
    simp only [Int.toNat_natCast] at hx
    split at hx
    · cases hx
    · rename_i hge
      have hge' : p + (1 + s) ≤ l.length := by omega
      clear hge
      split at hx
      · cases hx
      · rename_i b r hroom
        split at hx
        · cases hx
        · rename_i hbs
          split at hx
          · cases hx
          · rename_i hfn
            simp only [Sum.inr.injEq] at hx
            subst hx
            have hrl : r.length = s := by
              have := congrArg List.length hroom
              simp at this; omega
            have hfn' : firstNot (r.drop b.toNat) < 0 := by omega
            have hcast : (1 : Int) + (s : Int) = ((1 + s : Nat) : Int) := by omega
            obtain ⟨q, hq⟩ : ∃ q, q = 1 + s := ⟨_, rfl⟩
            obtain ⟨e, he⟩ : ∃ e, e = 1 + b.toNat := ⟨_, rfl⟩
            have HQ := Lib.hid hq
            have HE := Lib.hid he
            have HRm := Lib.hid hroom
            have HB := Lib.hid hbs
            have hqi : (1 : Int) + (s : Int) = (q : Int) := by omega
            have hei : (1 : Int) + (b.toNat : Int) = (e : Int) := by omega
            have hle : (e : Int) ≤ (q : Int) := by omega
            have hu := b.toNat_lt
            clear hq he hroom hbs hfn hcast
            go_enter Try.func61, Try.ntmps61
            go_wp2
            refine wp_region_still_tail 6 (by kernel_rfl) (by kernel_rfl) ?_
            simp only [List.take_succ_cons, List.take_zero, List.drop_succ_cons, List.drop_zero]
            still_step
            still_call (isMost_any _ _)
            repeat still_step
            refine wpStill_nil ?_
            go_wp2_with (first | (go_at_call 57; refine (demand_yes _ _ _).mono ?_; rintro r w1 ⟨rfl, rfl⟩))
            refine (ahead_yes br v l sp p q fe fa _ (hR'.keep ((Frm.refl [] _).drewN 1) (by simp) (by simp)) hl (by rw [HQ.out]; exact hge')).mono ?_
            rintro rr w1 ⟨a', c', sp', rfl, s1, f1⟩
            rw [show List.take q (List.drop p l) = b :: r from by rw [HQ.out]; exact HRm.out] at s1
            have q1 : w1.cell? ⟨bq, 0, none⟩ = some (.pointer (some ⟨br, 0, none⟩)) := f1.cell cr (by simp)
            have q2 : w1.cell? ⟨br, 2, none⟩ = some (.int .i64 p) := f1.cell c2 (by simp)
            have q6 : w1.cell? ⟨bn, 0, none⟩ = some (.string ByteArray.empty) := by rw [cell_of_heap (f1.heap HN.out (by simp))]; rfl
            have q7 : w1.frozen? ⟨bn, 0, none⟩ = false := frozen_of_heap (f1.heap HN.out (by simp)) 0
            have q8 : w1.frozen? ⟨br, 2, none⟩ = false := frozen_of_heap (f1.heap H1.out (by simp)) 2
            have hql : (b :: r).length = q := by rw [HQ.out]; simp; omega
            obtain ⟨b0, off, rfl⟩ : ∃ b0 off, a' = some ⟨b0, off, none⟩ := by
              rcases s1.cases with ⟨_, h⟩ | ⟨_, _, h⟩ | ⟨b0, off, cap, h, _⟩
              · cases h
              · cases h
              · cases h; exact ⟨b0, off, rfl⟩
            have q9 : w1.cell? ⟨b0, off, none⟩ = some (.int .u8 b.toNat) := s1.cellAt 0 (by simp)
            obtain ⟨a3, c3, hsl3, s3⟩ := slice_l BT s1 e (by rw [hql]; omega)
            obtain ⟨a4, c4, hsl4, s4⟩ := slice_lh BT s1 1 e (by rw [HE.out]; omega) (by rw [hql]; omega)
            rw [hql] at hsl3 s3
            have e3 : List.drop e (b :: r) = r.drop b.toNat := by rw [HE.out, Nat.add_comm]; rfl
            have e4 : List.take (e - 1) (List.drop 1 (b :: r)) = r.take b.toNat := by rw [HE.out, Nat.add_comm]; rfl
            rw [e3] at s3
            rw [e4] at s4
            have cv := convert_bytes BT (s4.keep (Frm.refl [] w1).drew (by simp)) Try.underlying9
            have hsl3' := fun wx => hsl3 e wx rfl
            have hsl4' := fun wx => hsl4 1 e wx rfl rfl
            have HS3 := Lib.hid s3
            have HS4 := Lib.hid s4
            clear hsl3 hsl4 s3 s4 e3 e4 hql s1
            go_wp2_with (first | (go_at_call 57; refine (demand_yes _ _ _).mono ?_; rintro r w2 ⟨rfl, rfl⟩))
            refine wp_region_still_tail 9 (by kernel_rfl) (by kernel_rfl) ?_
            simp only [List.take_succ_cons, List.take_zero, List.drop_succ_cons, List.drop_zero]
            change wpStill _ _ (World.drew _) _ _ _
            repeat still_step
            refine wpStill_nil ?_
            change wpList _ _ _ _ _ (World.drew _)
            go_wp2_with (first | (go_at_call 63; refine (dn_yes _ _ _ _ _ (HS3.out.keep (Frm.refl [] w2).drew (by simp)) hfn' (by omega) (by omega)).mono ?_; rintro r w3 ⟨rfl, rfl⟩))
            go_end0
            have F : Frm [br, bn] w (((w2.setCell ⟨bn, 0, none⟩ (.string ⟨(List.take b.toNat r).toArray⟩)).setCell ⟨br, 2, none⟩ (.int .i64 (p + q)))) := (((((Frm.refl [] w).drewN 1).trans f1 (by simp)).mono (by simp)).setCell _ _ (by simp)).setCell _ _ (by simp)
            refine ⟨rfl, ⟨?_, ?_, h3⟩, ?_, F.drewN 1⟩
            · show (World.setCell _ _ _).heap[br]? = _
              rw [heap_setCell_same _ ((heap_setCell_ne _ n3).trans (f1.heap H1.out (by simp))), hqi]
              rfl
            · exact h2.keep (F.drewN 1) (fun k hk => by simp; exact ⟨fun e => h3 (e ▸ hk), fun e => n4 (e ▸ hk)⟩)
            · show (World.setCell _ _ _).cell? _ = _
              rw [World.cell?_setCell_other _ _ _ _ (by simp)]
              exact World.cell?_setCell_same _ _ _ q6
end Go.Proofs.Ytappmjophnhdaaa
