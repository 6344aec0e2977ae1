/-
  Contract of Of: the list of numbers. No conditions but those that each theorem names.
-/
import Derived.Test.YtgbgpmdhlocjhaaB3
namespace Go.Proofs.Ytgbgpmdhlocjhaa
open Go.RowKit
set_option linter.unusedVariables false
set_option linter.unusedSimpArgs false
set_option maxRecDepth 100000

theorem Good.ends {l : List Ex} (h : Good l) : ∀ x ∈ l, 0 ≤ x.1 + x.2 ∧ x.1 + x.2 ≤ 4096 := fun x hx => by have := h.1 x hx; omega
theorem Good.sizes {l : List Ex} (h : Good l) : ∀ x ∈ l, 0 ≤ x.2 ∧ x.2 ≤ 4096 := fun x hx => by have := h.1 x hx; omega
/-- put, at a list that may be. -/
theorem put_up (S R : Nat) (l : List Ex) (a b q : Int) (w : World) (h : Jn S R w l) (hu : Upto l q) (hq : q ≤ a) (h0 : 0 ≤ a) (hab : a ≤ b) (hb : b ≤ 4096) (hSw : S ≤ w.heap.size) :
    Calls Try.prog 50 #[.int .i64 a, .int .i64 b, .pointer (some ⟨R, 0, none⟩)] w fun e w' => e = .returned (.tuple #[]) ∧ Jn S R w' (putE l a b) ∧ Chg S R w w' :=
  put_any S R l a b w h (by have := hu.1.len; omega) hu.1.ends h0 hab hb hu.1.sizes hSw
def OfRel1 (l : List Int) (g : Nat) (w0 : World) (cv : Value) (wr : World) : Prop := ∃ k : Nat, k ≤ l.length ∧ cv = .int .i64 k ∧ (∀ s ∈ l.take k, 0 ≤ s ∧ s < 4096) ∧ Bl wr g (fun s => decide (s ∈ l.take k)) ∧ Frm [] w0 wr ∧ w0.heap.size ≤ g
def OfRel2 (l : List Int) (S R : Nat) (w0 : World) (cv : Value) (wr : World) : Prop := ∃ (k : Nat) (r : List Ex), k ≤ 4096 ∧ cv = .int .i64 k ∧ Jn S R wr r ∧ Upto r k ∧ (∀ s, hasE r s ↔ s < (k : Int) ∧ s ∈ l) ∧ Chg S R w0 wr
theorem inR_not {l : List Int} {k : Nat} (hk : k < l.length) (h : ¬ (0 ≤ l[k] ∧ l[k] < 4096)) : ¬ inR l := fun hi => h (hi _ (List.getElem_mem _))
theorem index49 (p : Int → Bool) (k : Nat) (hk : k < 4096) (W : World) : (Instr.index 49 (.agg (bA p)) (.int .i64 (k : Int))).run Try.prog W = .ok (.bool (p (k : Int))) W := by
  have hg := bA_get p k hk
  have hs := bA_size p
  generalize bA p = A at *
  have h1 : (k : Int) < 4096 := by omega
  simp [Instr.index, run_underlying Try.underlying49, asIntOf, hg, go_sem, hs]
  intro h; omega
set_option maxHeartbeats 4000000 in
theorem Of_any (v : Value) (l : List Int) (sp : List Value) (w : World) (hS : SlI w v l sp) (hl : l.length ≤ 100000) :
    Calls Try.prog 15 #[v] w fun e w' => ∃ r c, OfP l r c ∧ ToldX w r c e w' := by
  obtain ⟨a, cap, rfl, _, _⟩ := hS.form
  have hl9 : ((l.length : Nat) : Int) ≤ 100000 := by omega
  have b0 : Bl (w.alloc (.cells (bA fun _ => false) 49)) w.heap.size (fun _ => false) := heap_alloc_new _ _
  have f0 : Frm [] w (w.alloc (.cells (bA fun _ => false) 49)) := (Frm.refl _ _).alloc _
  have HS := Lib.hid hS
  have HL := Lib.hid hl
  clear hS hl
  go_enter Try.func15, Try.ntmps15
  go_upto_region 2 with ((with_reducible (show wpList _ _ _ (Oper.mk _ (Op.alloc 49) _ _ _ _ :: _) _ _)); refine wpList_val rfl (exec_alloc49 rfl _) ?_)
  generalize w.alloc (.cells (bA fun _ => false) 49) = W at *
  obtain ⟨g, hg⟩ : ∃ g, w.heap.size = g := ⟨_, rfl⟩
  rw [hg] at b0 ⊢
  have B0 := Lib.hid b0
  have F0 := Lib.hid f0
  have HG := Lib.hid hg
  clear b0 f0 hg
  go_wp2_with fail
  go_loopw [13] (OfRel1 l g w) (fun cv _ => l.length - (intOf cv).toNat)
  case atStart => exact ⟨0, by omega, rfl, by simp, by simpa using B0.out, F0.out, by have := HG.out; omega⟩
  case round =>
    obtain ⟨k, hk, rfl, hin, hB, f, hgs⟩ := hrel
    have F := Lib.hid f
    have HGS := Lib.hid hgs
    by_cases hlt : k < l.length
    · obtain ⟨b0, off, rfl⟩ := HS.out.at (by omega)
      have c0 := cellI (HS.out.keep0 f) k hlt
      by_cases hr : 0 ≤ l[k] ∧ l[k] < 4096
      · have hts := take_step l k hlt
        generalize hx : l[k] = x at *
        have cB := hB.cell x.toNat (by omega)
        have zB := frozen_of_heap hB x.toNat
        have hst := hB.set x.toNat (by omega) true
        have e : ((x.toNat : Nat) : Int) = x := by omega
        have hst' : Bl (wr.setCell ⟨g, x.toNat, none⟩ (.bool true)) g (fun s => decide (s ∈ l.take (k + 1))) := by
          refine (congrArg (Bl _ g) ?_).mp hst
          funext s
          rw [hts, e]
          by_cases h : s = x <;> simp [h]
        have hin' : ∀ s ∈ l.take (k + 1), 0 ≤ s ∧ s < 4096 := by
          rw [hts]; intro s hs
          rcases List.mem_append.1 hs with h | h
          · exact hin s h
          · simp at h; subst h; exact hr
        obtain ⟨r0, r1⟩ := hr
        have hn0 : ¬ x < 0 := by omega
        have hn1 : ¬ 4096 ≤ x := by omega
        have ST := Lib.hid hst'
        have HIN := Lib.hid hin'
        generalize hxn : x.toNat = xn at *
        clear hx hts hst hst' hin' hin hB f hgs e
        go_wp2_with fail
        go_roundw
        case rel => exact ⟨k + 1, by omega, by go_num, HIN.out, ST.out, F.out.setCell _ _ (.inr HGS.out), HGS.out⟩
        case measure => simp [intOf]; omega
      · have HN := Lib.hid (inR_not hlt hr)
        generalize l[k] = x at *
        clear hin hB f hgs
        by_cases h0 : x < 0
        · go_wp2_with fail
          go_ret2
          exact ⟨[], 2, .inr ⟨HN.out, rfl, rfl⟩, _, [], rfl, OwnE.nil _ _ _ _, F.out, by simp [blk]⟩
        · have h1 : 4096 ≤ x := by omega
          go_wp2_with fail
          go_ret2
          exact ⟨[], 2, .inr ⟨HN.out, rfl, rfl⟩, _, [], rfl, OwnE.nil _ _ _ _, F.out, by simp [blk]⟩
    · obtain rfl : k = l.length := by omega
      rw [List.take_length] at hin hB
      have HIN := Lib.hid hin
      clear f hgs hin
      have jn := jn_new wr (wr.heap.size + 1) (by omega)
      have f1 : Frm [] wr (wr.alloc (.cells #[.slice none 0 0] 22)) := (Frm.refl _ _).alloc _
      have hsz : (wr.alloc (.cells #[.slice none 0 0] 22)).heap.size = wr.heap.size + 1 := by simp
      go_upto_region 10 with (go_at_call 42; refine (joiner_any _).mono ?_; rintro e w1 ⟨rfl, rfl⟩)
      generalize wr.alloc (.cells #[.slice none 0 0] 22) = W1 at *
      obtain ⟨R, hR⟩ : ∃ R, wr.heap.size = R := ⟨_, rfl⟩
      rw [hR] at jn ⊢
      have hB1 := hB.keep0 f1
      have J := Lib.hid jn
      have F1 := Lib.hid (F.out.trans f1 (by simp))
      have SZ := Lib.hid (show R + 1 ≤ W1.heap.size ∧ w.heap.size ≤ R by have := F.out.size; omega)
      clear jn hB f1 hsz hR
      go_upto_region 11 with ((with_reducible (show wpList _ _ _ (Oper.mk _ (Op.load 49 _) _ _ _ _ :: _) _ _)); refine wpList_load_row rfl 49 _ rfl _ rfl _ _ _ _ hB1 Try.underlying49 rfl (by rw [i49, bA_size]) ?_)
      obtain ⟨p, hp⟩ : ∃ p : Int → Bool, p = fun s => decide (s ∈ l) := ⟨_, rfl⟩
      rw [← hp] at hB1 ⊢
      have HIX := Lib.hid (fun k hk W => index49 p k hk W)
      have HP := Lib.hid (show ∀ s, p s = true ↔ s ∈ l from fun s => by rw [hp]; simp)
      clear hp hB1
      generalize bA p = A at *
      go_loopw [31] (OfRel2 l (R + 1) R W1) (fun cv _ => 4096 - (intOf cv).toNat)
      case atStart => exact ⟨0, [], by omega, rfl, J.out, Upto.nil _, fun s => ⟨fun h => absurd h (hasE_nil _), fun h => by have := HIN.out s h.2; omega⟩, Chg.refl _ _ _⟩
      case round =>
        obtain ⟨k, r, hk, rfl, j, hu, hh, ch⟩ := hrel
        have U := Lib.hid hu
        have HH := Lib.hid hh
        have CH := Lib.hid ch
        have J2 := Lib.hid j
        clear hu hh ch j
        by_cases hlt : k < 4096
        · have hix := HIX.out k hlt
          have hlt9 : (k : Int) < 4096 := by omega
          have hwk : IntKind.i64.wrap ((k : Int) + 1) = (k : Int) + 1 := IntWalk.i64_in _ (by omega)
          have hpk := HP.out (k : Int)
          cases hpb : p (k : Int) with
          | false =>
            rw [hpb] at hix hpk
            have HPK := Lib.hid (show ¬ (k : Int) ∈ l from fun h => by have := hpk.2 h; cases this)
            clear hpk hpb
            go_wp2_with fail
            go_roundw
            case rel => exact ⟨k + 1, r, by omega, by go_num, J2.out, U.out.mono (by omega), fun s => by
              rw [HH.out s]
              constructor
              · rintro ⟨h1, h2⟩; exact ⟨by omega, h2⟩
              · rintro ⟨h1, h2⟩; exact ⟨by rcases Int.lt_or_eq_of_le (show s ≤ (k : Int) by omega) with h | h; exact h; subst h; exact absurd h2 HPK.out, h2⟩, CH.out⟩
            case measure => simp [intOf]; omega
          | true =>
            rw [hpb] at hix hpk
            have HPK := Lib.hid (hpk.1 rfl)
            have PS := Lib.hid (putE_spec U.out (b := (k : Int) + 1) (by omega) (Int.le_refl _) (by omega) (by omega))
            have HPU := Lib.hid (put_up (R + 1) R r (k : Int) ((k : Int) + 1) (k : Int) wr J2.out U.out (Int.le_refl _) (by omega) (by omega) (by omega) (by have := SZ.out; have := CH.out.size; omega))
            clear hpk hpb
            go_wp2_with (go_at_call 50; refine (HPU.out).mono ?_; rintro e w2 ⟨rfl, j2, ch2⟩)
            go_roundw
            case rel => exact ⟨k + 1, putE r k (k + 1), by omega, by go_num, j2, by simpa using PS.out.1, fun s => by
              rw [PS.out.2 s, HH.out s]
              constructor
              · rintro (⟨h1, h2⟩ | h1)
                · exact ⟨by omega, h2⟩
                · obtain rfl : s = (k : Int) := by omega
                  exact ⟨by omega, HPK.out⟩
              · rintro ⟨h1, h2⟩
                by_cases h : s < (k : Int)
                · exact .inl ⟨h, h2⟩
                · exact .inr (by omega), CH.out.trans ch2⟩
            case measure => simp [intOf]; omega
        · obtain rfl : k = 4096 := by omega
          have HAL := Lib.hid (all_any (R + 1) R r wr J2.out)
          go_wp2_with (go_at_call 51; refine (HAL.out).mono ?_; rintro e w2 ⟨v2, sp2, rfl, rfl, o2, n2⟩)
          go_ret2
          exact ⟨r, 0, .inl ⟨HIN.out, rfl, U.out.1, fun s => by rw [HH.out s]; exact ⟨fun h => h.2, fun h => ⟨by have := HIN.out s h; omega, h⟩⟩⟩, _, sp2, rfl, o2, Chg.back F1.out CH.out SZ.out.2 (by have := SZ.out; omega), fun i hi => by have := n2 i hi; have := SZ.out; omega⟩
end Go.Proofs.Ytgbgpmdhlocjhaa
