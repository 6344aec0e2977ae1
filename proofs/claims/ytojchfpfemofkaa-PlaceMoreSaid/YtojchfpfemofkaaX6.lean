/-
  The walk of PlaceBest. No conditions but those that each theorem names.
-/
import Derived.Test.YtojchfpfemofkaaX5
namespace Go.Proofs.Ytojchfpfemofkaa
open Go.RowKit
set_option linter.unusedVariables false
set_option linter.unusedSimpArgs false
set_option maxRecDepth 100000

theorem Two.fine {w0 wr : World} {n : Nat} {v1 v2 : Value} {L : List Int} {B : List Bool} {sp1 sp2 : List Value} (h : Two w0 n v1 v2 L B sp1 sp2 wr) (h2 : 2 ≤ n) (h8 : n ≤ 8) {c : Int} (hc : 1 ≤ c ∧ c ≤ 3) : Fine L B c := by
  refine ⟨by rw [h.len1]; exact h2, by rw [h.len1]; exact h8, by rw [h.len1, h.len2], hc.1, hc.2, fun i => ?_⟩
  rcases Nat.lt_or_ge i L.length with h1 | h1
  · rw [gt_lt h1]; exact h.rng _ (List.getElem_mem h1)
  · rw [gt_ge h1]; omega
theorem Two.keep {w0 wr w' : World} {n : Nat} {v1 v2 : Value} {L : List Int} {B : List Bool} {sp1 sp2 : List Value} (h : Two w0 n v1 v2 L B sp1 sp2 wr) (f : Frm [] wr w') : Two w0 n v1 v2 L B sp1 sp2 w' :=
  ⟨h.len1, h.len2, h.rng, h.o1.keep0 f, h.o2.keep0 f, h.n1, h.n2, h.d12, h.fr.trans f (by simp)⟩
theorem Two.mono {w00 w0 wr : World} {n : Nat} {v1 v2 : Value} {L : List Int} {B : List Bool} {sp1 sp2 : List Value} (h : Two w0 n v1 v2 L B sp1 sp2 wr) (f : Frm [] w00 w0) : Two w00 n v1 v2 L B sp1 sp2 wr :=
  ⟨h.len1, h.len2, h.rng, h.o1, h.o2, fun i hi => Nat.le_trans f.size (h.n1 i hi), fun i hi => Nat.le_trans f.size (h.n2 i hi), h.d12, f.trans h.fr (by simp)⟩
theorem OwnO.at {w : World} {p : Option Addr} {n cap : Nat} {l : List Bool} {sp : List Value} (h : OwnO w (.slice p n cap) l sp) (hl : 0 < l.length) : ∃ g, p = some ⟨g, 0, none⟩ := by
  obtain ⟨_, h2 | ⟨g', cap', h2, _⟩⟩ := h
  · have := h2.2.1; omega
  · cases h2; exact ⟨_, rfl⟩
theorem cellI0 {w : World} {g n cap : Nat} {l : List Int} {sp : List Value} (h : SlI w (.slice (some ⟨g, 0, none⟩) n cap) l sp) (i : Nat) (hi : i < l.length) : w.cell? ⟨g, i, none⟩ = some (.int .i64 (gt l i)) := by
  have := cellI h i hi
  rw [Nat.zero_add, ← gt_lt] at this
  exact this
theorem cellO0 {w : World} {g n cap : Nat} {l : List Bool} {sp : List Value} (h : SlO w (.slice (some ⟨g, 0, none⟩) n cap) l sp) (i : Nat) (hi : i < l.length) : w.cell? ⟨g, i, none⟩ = some (.bool (l.getD i false)) := by
  have := cellO h i hi
  rw [Nat.zero_add] at this
  rw [this]; simp [hi]
theorem upN_stepD (t : List Bool) (k : Nat) (hk : k < t.length) : upN (t.take (k + 1)) = if t.getD k false = true then upN (t.take k) + 1 else upN (t.take k) := by
  rw [upN_step t k hk]; simp [hk]
def UcRel (L : List Int) (B : List Bool) (n : Nat) (w0 : World) (uv av cv : Value) (wr : World) : Prop := ∃ k : Nat, k ≤ n ∧ cv = .int .i64 k ∧ uv = .int .i64 (upN (B.take k)) ∧ av = .int .i64 (cntK (rm L B) k) ∧ wr = w0
/-- Which are chosen, as bools. -/
def chB (n : Nat) (l : List Nat) : List Bool := (List.range n).map fun i => decide (i ∈ l)
theorem chB_length (n : Nat) (l : List Nat) : (chB n l).length = n := by simp [chB]
theorem chB_get (n : Nat) (l : List Nat) (i : Nat) (h : i < n) : (chB n l)[i]'(by rw [chB_length]; exact h) = decide (i ∈ l) := by simp [chB]
theorem chB_set (n : Nat) (l : List Nat) (a : Nat) (ha : a < n) : (chB n l).set a true = chB n (l ++ [a]) := by
  apply List.ext_getElem
  · simp [chB]
  · intro i h1 h2
    rw [chB_length] at h2
    rw [chB_get n _ i h2, List.getElem_set]
    by_cases e : a = i
    · subst e; simp
    · rw [if_neg e, chB_get n _ i h2, decide_eq_decide]; simp [Ne.symm e]
/-- The least room of the chosen ones. -/
def lst (L : List Int) (l : List Nat) : Int := l.foldl (fun m x => min m (gt L x)) 4096
theorem lst_snoc (L : List Int) (l : List Nat) (a : Nat) : lst L (l ++ [a]) = min (lst L l) (gt L a) := by simp [lst]
theorem lst_ge {L : List Int} {b : Int} (hb : b ≤ 4096) : ∀ l : List Nat, (∀ x ∈ l, b ≤ gt L x) → b ≤ lst L l := by
  have : ∀ (l : List Nat) (m : Int), b ≤ m → (∀ x ∈ l, b ≤ gt L x) → b ≤ l.foldl (fun m x => min m (gt L x)) m := by
    intro l
    induction l with
    | nil => intro m hm _; exact hm
    | cons a l ih =>
      intro m hm h
      refine ih _ ?_ fun x hx => h x (List.mem_cons_of_mem _ hx)
      have := h a (List.mem_cons_self ..)
      show b ≤ min m (gt L a)
      omega
  exact fun l h => this l 4096 hb h
def LeRel (L : List Int) (l : List Nat) (n g : Nat) (w0 : World) (mv cv : Value) (wr : World) : Prop := ∃ k : Nat, k ≤ l.length ∧ cv = .int .i64 k ∧ mv = .int .i64 (lst L (l.take k)) ∧ OwnO wr (.slice (some ⟨g, 0, none⟩) n n) (chB n (l.take k)) [] ∧ Frm [g] w0 wr
def FinRel (n : Nat) (w0 : World) (cv : Value) (wr : World) : Prop := ∃ k : Nat, k ≤ n ∧ cv = .int .i64 k ∧ wr = w0
/-- What the law's last loop finds. -/
theorem no_more {L : List Int} {B : List Bool} {c : Int} {l : List Nat} {w : Nat} (hF : Fine L B c) (hc : Chosen (rm L B) w l) (hw : 0 < w) (i : Nat) (hB : B.getD i false = true) (hi : i ∉ l) : gt L i ≤ lst L l := by
  have hr := hF.rng i
  have hgi : gt (rm L B) i = gt L i := by rw [gt_rm, if_pos hB]
  refine lst_ge (by omega) l fun x hx => ?_
  obtain ⟨_, h2⟩ := rm_there (hc.pos x hx)
  have h3 := hc.pos x hx
  by_cases h0 : 0 < gt L i
  · have := hc.top i (by rw [hgi]; exact h0) hi x hx
    rw [h2]
    rcases this with h | h <;> omega
  · omega
set_option maxHeartbeats 16000000 in
theorem best_law (x : Int) (v d : Value) (f : List Int) (t : List Bool) (c : Int) (sp dsp : List Value) (w : World) (hS : SlI w v f sp) (hT : SlO w d t dsp) : Calls Try.prog 6 #[.int .i64 x, v, d, .int .i64 c] w (Yes w) := by
  have HS := Lib.hid hS
  have HT := Lib.hid hT
  have HP := Lib.hid (Pick_any c 3 (by omega) (by omega))
  have hpr := pick_range c 3 (by omega)
  obtain ⟨cc, hcc⟩ : ∃ cc, 1 + pick c 3 = cc := ⟨_, rfl⟩
  have hw1 : IntKind.i64.wrap (1 + pick c 3) = cc := by rw [IntWalk.i64_in _ (by omega)]; exact hcc
  have HCC := Lib.hid (show 1 ≤ cc ∧ cc ≤ 3 by omega)
  generalize pick c 3 = pc at *
  clear hS hT hpr hcc
  go_enter Try.func6, Try.ntmps6
  go_wp2_with fail
  refine Calls.mono (known_any _) ?_
  rintro e1 W1 ⟨rfl, f1⟩
  go_wp2_with fail
  refine Calls.mono (room_any x _ _ f t _ _ _ (HS.out.keep0 f1) (HT.out.keep0 f1)) ?_
  rintro e2 W2 ⟨n, p1, p2, c1, c2, L, B, sp1, sp2, hn2, hn8, rfl, tw⟩
  have TW := Lib.hid (tw.mono f1)
  have HF := Lib.hid (tw.fine hn2 hn8 HCC.out)
  have HN := Lib.hid (And.intro hn2 hn8)
  have hn9 : (n : Int) ≤ 8 := by omega
  have hL := tw.len1
  have hB := tw.len2
  clear tw f1 HS HT hn2 hn8
  go_wp2_with (go_at_call 24; refine Calls.mono (HP.out _) ?_; rintro ee W3 ⟨rfl, rfl⟩)
  go_loopw [12, 13, 14] (UcRel L B n W3) (fun _ _ cv _ => n - (intOf cv).toNat)
  case atStart => exact ⟨0, by omega, rfl, rfl, rfl, rfl⟩
  case round =>
    obtain ⟨k, hk, rfl, rfl, rfl, rfl⟩ := hrel
    have ub := upN_le (B.take k)
    have htl : (B.take k).length ≤ k := by simp; omega
    have cb := cntK_le (rm L B) k
    by_cases hlt : k < n
    · obtain ⟨g1, rfl⟩ := TW.out.o1.at (by omega)
      obtain ⟨g2, rfl⟩ := TW.out.o2.at (by omega)
      have c0 := cellI0 TW.out.o1.sl k (by omega)
      have c1 := cellO0 TW.out.o2.sl k (by omega)
      have hus := upN_stepD B k (by omega)
      have hcs := cntK_succ (rm L B) k
      have hgr := gt_rm L B k
      have hk9 : (k : Int) < (n : Int) := by omega
      cases hb : B.getD k false with
      | false =>
        rw [hb] at c1 hgr hus
        simp only [Bool.false_eq_true, if_false] at hgr hus
        rw [hgr, if_neg (by omega), Int.add_zero] at hcs
        have HU := Lib.hid hus
        have HCS := Lib.hid hcs
        clear hus hcs hgr hb ub htl cb
        generalize hu : upN (B.take k) = u at *
        generalize hcn : cntK (rm L B) k = cn at *
        have HU2 := Lib.hid hu
        have HC2 := Lib.hid hcn
        clear hu hcn
        go_wp2_with fail
        go_roundw
        case rel => exact ⟨k + 1, by omega, by go_num, by rw [HU.out], by rw [HCS.out], rfl⟩
        case measure => simp [intOf]; omega
      | true =>
        rw [hb] at c1 hgr hus
        rw [if_pos rfl] at hgr hus
        by_cases h0 : 0 < gt L k
        · rw [hgr, if_pos h0] at hcs
          have HU := Lib.hid hus
          have HCS := Lib.hid hcs
          have hwu : IntKind.i64.wrap ((upN (B.take k) : Int) + 1) = (upN (B.take k) : Int) + 1 := IntWalk.i64_in _ (by omega)
          have hwc : IntKind.i64.wrap (cntK (rm L B) k + 1) = cntK (rm L B) k + 1 := IntWalk.i64_in _ (by omega)
          clear hus hcs hgr hb ub htl cb
          generalize gt L k = y at *
          generalize hu : upN (B.take k) = u at *
          generalize hcn : cntK (rm L B) k = cn at *
          have HU2 := Lib.hid hu
          have HC2 := Lib.hid hcn
          clear hu hcn
          go_wp2_with fail
          go_roundw
          case rel => exact ⟨k + 1, by omega, by go_num, by rw [HU.out]; go_num, by rw [HCS.out], rfl⟩
          case measure => simp [intOf]; omega
        · rw [hgr, if_neg h0, Int.add_zero] at hcs
          have HU := Lib.hid hus
          have HCS := Lib.hid hcs
          have hwu : IntKind.i64.wrap ((upN (B.take k) : Int) + 1) = (upN (B.take k) : Int) + 1 := IntWalk.i64_in _ (by omega)
          clear hus hcs hgr hb ub htl cb
          generalize gt L k = y at *
          generalize hu : upN (B.take k) = u at *
          generalize hcn : cntK (rm L B) k = cn at *
          have HU2 := Lib.hid hu
          have HC2 := Lib.hid hcn
          clear hu hcn
          go_wp2_with fail
          go_roundw
          case rel => exact ⟨k + 1, by omega, by go_num, by rw [HU.out]; go_num, by rw [HCS.out], rfl⟩
          case measure => simp [intOf]; omega
    · obtain rfl : k = n := by omega
      have hbt : B.take k = B := List.take_of_length_le (by omega)
      rw [hbt]
      have hwt : min cc (upN B : Int) = ((wt cc B : Nat) : Int) := by
        have := HCC.out.1
        unfold wt
        omega
      have hcnt : cntK (rm L B) k = cnt (rm L B) := by unfold cnt; rw [rm_length, hL]
      have HCH := Lib.hid (Choose_any _ _ L B cc _ _ wr TW.out.o1.sl TW.out.o2.sl (by omega) (by omega))
      by_cases hz : wt cc B = 0 ∨ cnt (rm L B) < ((wt cc B : Nat) : Int)
      · have hA := chA_none HF.out (cho_lt hz)
        rw [hA] at HCH
        rw [← hcnt] at hz
        clear hA hbt hcnt ub htl cb
        generalize wt cc B = wn at *
        generalize upN B = u at *
        generalize cntK (rm L B) k = cn at *
        by_cases h0 : wn = 0
        · subst h0
          clear hz
          go_wp2_with fail
          refine Calls.mono (HCH.out) ?_
          rintro ee W4 ⟨r1, s1, rfl, o1, f1, n1⟩
          obtain ⟨p, cp, rfl, _, _⟩ := o1.sl.form
          have e0 : (cz []).length = 0 := rfl
          rw [e0]
          clear o1 n1
          have F1 := Lib.hid (TW.out.fr.trans f1 (by simp))
          clear f1
          go_wp2_with fail
          go_ret
          exact ⟨rfl, F1.out⟩
        · have h1 : ((wn : Int) == 0) = false := by simp; omega
          have h2 : cn < (wn : Int) := by omega
          clear hz h0
          go_wp2_with fail
          refine Calls.mono (HCH.out) ?_
          rintro ee W4 ⟨r1, s1, rfl, o1, f1, n1⟩
          obtain ⟨p, cp, rfl, _, _⟩ := o1.sl.form
          have e0 : (cz []).length = 0 := rfl
          rw [e0]
          clear o1 n1
          have F1 := Lib.hid (TW.out.fr.trans f1 (by simp))
          clear f1
          go_wp2_with fail
          go_ret
          exact ⟨rfl, F1.out⟩
      · obtain ⟨l, hl⟩ := cho_ge (r := rm L B) (w := wt cc B) (by omega) (by omega)
        have hA := chA_some HF.out hl
        rw [hA] at HCH
        have hch := (cho_spec hl).2
        have HWP := Lib.hid (cho_spec hl).1
        have HCHO := Lib.hid hch
        have hll := hch.len
        have HMORE := Lib.hid (fun i hB hi => no_more HF.out hch (cho_spec hl).1 i hB hi)
        have HFL := Lib.hid (fun x (hx : x ∈ l) => rm_there (hch.pos x hx))
        have h2 : ¬ cntK (rm L B) k < ((wt cc B : Nat) : Int) := by omega
        have h1 : (((wt cc B : Nat) : Int) == 0) = false := by simp; omega
        clear hA hbt hcnt ub htl cb hz hl hch
        rw [← hll] at hwt h1 h2
        have hl3 : l.length ≤ 3 := by
          have := HCC.out.2
          rw [hll]
          unfold wt
          omega
        generalize upN B = u at *
        generalize cntK (rm L B) k = cn at *
        clear hll
        go_wp2_with fail
        refine Calls.mono (HCH.out) ?_
        rintro ee W4 ⟨r1, s1, rfl, o1, f1, n1⟩
        obtain ⟨p, cp, rfl, _, _⟩ := o1.sl.form
        rw [cz_length]
        rw [cz_length] at o1 n1
        have tw4 := TW.out.keep f1
        clear TW HCH
        have hk2 := HN.out.1
        go_wp2_with (at_make; refine wpList_make_bools k (by have := HN.out; omega) rfl (.tmp 95) (.tmp 95) rfl rfl rfl rfl rfl ?_; intro w5 o5 f5)
        obtain ⟨g1, rfl⟩ := tw4.o1.at (by omega)
        obtain ⟨g2, rfl⟩ := tw4.o2.at (by omega)
        obtain ⟨g3, rfl⟩ := o1.at (by rw [cz_length]; have := HWP.out; have := HCHO.out.len; omega)
        generalize hg : W4.heap.size = g at *
        have HG := Lib.hid (show g1 < g ∧ g2 < g ∧ g3 < g ∧ w.heap.size ≤ g from ⟨by rw [← hg]; exact tw4.o1.lt g1 (by simp [blk]), by rw [← hg]; exact tw4.o2.lt g2 (by simp [blk]), by rw [← hg]; exact o1.lt g3 (by simp [blk]), by rw [← hg]; exact tw4.fr.size⟩)
        have TW := Lib.hid (tw4.keep f5)
        have O3 := Lib.hid (o1.keep0 f5)
        have e5 : List.replicate k false = chB k [] := by
          apply List.ext_getElem
          · simp [chB]
          · intro i h1 h2; simp [chB]
        rw [e5] at o5
        have O5 := Lib.hid o5
        clear tw4 o1 o5 f1 f5 n1 hg e5
        go_loopw [19, 20] (LeRel L l k g w5) (fun _ cv _ => l.length - (intOf cv).toNat)
        case atStart => exact ⟨0, by omega, rfl, rfl, O5.out, Frm.refl _ _⟩
        case round =>
          clear O5
          obtain ⟨j, hj, rfl, rfl, o, f6⟩ := hrel
          by_cases hlj : j < l.length
          · have c3 := cellI (O3.out.keep f6 (by have := HG.out; simp [blk]; omega)).sl j (by rw [cz_length]; exact hlj)
            rw [Nat.zero_add, cz_get l j hlj] at c3
            have ham : l[j] ∈ l := List.getElem_mem hlj
            obtain ⟨hbt, hgl⟩ := HFL.out _ ham
            have hap := HCHO.out.pos _ ham
            have hak : l[j] < k := by have := gt_pos hap; rw [rm_length, hL] at this; exact this
            have c0 := cellI0 (TW.out.o1.keep f6 (by have := HG.out; simp [blk]; omega)).sl l[j] (by omega)
            have c1 := cellO0 (TW.out.o2.keep f6 (by have := HG.out; simp [blk]; omega)).sl l[j] (by omega)
            rw [hbt] at c1
            rw [← hgl] at hap
            have hnt : l[j] ∉ l.take j := fun h => by
              have hsp : l.take j ++ l.drop j = l := List.take_append_drop _ _
              have hn := HCHO.out.nd
              rw [← hsp] at hn
              exact (List.nodup_append.1 hn).2.2 _ h l[j] (by rw [List.drop_eq_getElem_cons hlj]; exact List.mem_cons_self ..) rfl
            have c4 := cellO o.sl l[j] (by rw [chB_length]; exact hak)
            rw [Nat.zero_add, chB_get k _ _ hak, decide_eq_false hnt] at c4
            have z4 := frozen_of_heap (OwnE.heap o) (0 + l[j])
            rw [Nat.zero_add] at z4
            have hst := OwnE.store encB o l[j] 0 (by rw [chB_length]; exact hak) (by omega) true (.bool true) rfl
            have hts : l.take (j + 1) = l.take j ++ [l[j]] := List.take_succ_eq_append_getElem hlj
            rw [chB_set k _ _ hak, ← hts] at hst
            simp only [Nat.add_zero, Nat.mul_one] at hst
            have hls := lst_snoc L (l.take j) l[j]
            rw [← hts] at hls
            clear ham hbt hgl hnt hts
            generalize gt L l[j] = y at *
            generalize l[j] = a at *
            generalize hq : lst L (l.take j) = q at *
            have ha9 : (a : Int) < (k : Int) := by omega
            have ha8 : ¬ (k : Int) ≤ (a : Int) := by omega
            have hy9 : ¬ y < 1 := by omega
            have c0' := ((Frm.refl [g] wr).setCell ⟨g, a, none⟩ (.bool true) (.inl (by simp))).cell c0 (by have := HG.out; simp; omega)
            have ST := Lib.hid hst
            have HLS := Lib.hid hls
            have F6 := Lib.hid f6
            clear hst hls o f6 hap hq
            go_wp2_with fail
            go_roundw
            case rel => exact ⟨j + 1, by omega, by go_num, by rw [HLS.out], ST.out, F6.out.setCell _ _ (.inl (by simp))⟩
            case measure => simp [intOf]; omega
          · obtain rfl : j = l.length := by omega
            rw [List.take_length] at o ⊢
            have TWk := Lib.hid (show OwnI wr (.slice (some ⟨g1, 0, none⟩) k c1) L sp1 ∧ OwnO wr (.slice (some ⟨g2, 0, none⟩) k c2) B sp2 from ⟨TW.out.o1.keep f6 (by have := HG.out; simp [blk]; omega), TW.out.o2.keep f6 (by have := HG.out; simp [blk]; omega)⟩)
            have O := Lib.hid o
            have F6 := Lib.hid (TW.out.fr.trans f6 (by have := HG.out; intro i hi; simp at hi; subst hi; exact .inr this.2.2.2))
            clear o f6
            generalize hq : lst L l = q at *
            clear hq
            go_wp2_with fail
            go_loopw [22] (FinRel k wr) (fun cv _ => k - (intOf cv).toNat)
            case atStart => exact ⟨0, by omega, rfl, rfl⟩
            case round =>
              obtain ⟨i, hi, rfl, rfl⟩ := hrel
              by_cases hli : i < k
              · have c0 := cellI0 TWk.out.1.sl i (by omega)
                have c1 := cellO0 TWk.out.2.sl i (by omega)
                have c4 := cellO O.out.sl i (by rw [chB_length]; exact hli)
                rw [Nat.zero_add, chB_get k _ _ hli] at c4
                have hmore := HMORE.out i
                have hi9 : (i : Int) < (k : Int) := by omega
                generalize gt L i = y at *
                cases hb : B.getD i false with
                | false =>
                  rw [hb] at c1
                  clear hmore hb
                  go_wp2_with fail
                  go_roundw
                  case rel => exact ⟨i + 1, by omega, by go_num, rfl⟩
                  case measure => simp [intOf]; omega
                | true =>
                  rw [hb] at c1
                  by_cases hm : i ∈ l
                  · rw [decide_eq_true hm] at c4
                    clear hmore hb hm
                    go_wp2_with fail
                    go_roundw
                    case rel => exact ⟨i + 1, by omega, by go_num, rfl⟩
                    case measure => simp [intOf]; omega
                  · rw [decide_eq_false hm] at c4
                    have hle := hmore hb hm
                    have hle9 : ¬ q < y := by omega
                    clear hmore hb hm
                    go_wp2_with fail
                    go_roundw
                    case rel => exact ⟨i + 1, by omega, by go_num, rfl⟩
                    case measure => simp [intOf]; omega
              · obtain rfl : i = k := by omega
                go_wp2_with fail
                go_ret
                exact ⟨rfl, F6.out⟩
end Go.Proofs.Ytojchfpfemofkaa
