/-
  Contract of the document's Many. No conditions but those that each theorem names.
-/
import Derived.Test.YtojchfpfemofkaaT2
namespace Go.Proofs.Ytojchfpfemofkaa
open Go.RowKit
set_option linter.unusedVariables false
set_option linter.unusedSimpArgs false
set_option maxRecDepth 100000

theorem rm_there {f : List Int} {t : List Bool} {i : Nat} (h : 0 < gt (rm f t) i) : t.getD i false = true ∧ gt f i = gt (rm f t) i := by
  rw [gt_rm] at h ⊢
  split
  · rename_i h1; exact ⟨h1, rfl⟩
  · rename_i h1; rw [if_neg h1] at h; omega
theorem rm_dec {f : List Int} {t : List Bool} {w : Nat} {l : List Nat} (h : Chosen (rm f t) w l) : rm (decL f l) t = decL (rm f t) l := by
  have hx : ∀ x ∈ l, x < f.length := fun x hx => by have := gt_pos (h.pos x hx); rwa [rm_length] at this
  apply ext_gt
  · rw [rm_length, decL_length, decL_length, rm_length]
  · intro i
    rw [gt_rm, gt_decL l f h.nd hx, gt_decL l (rm f t) h.nd (by rw [rm_length]; exact hx)]
    by_cases e : i ∈ l
    · obtain ⟨h1, h2⟩ := rm_there (h.pos i e)
      rw [if_pos h1, h2]
    · rw [gt_rm]; simp [e]
theorem fine_dec {f : List Int} {t : List Bool} {c : Int} {l : List Nat} {w : Nat} (h : Fine f t c) (hc : Chosen (rm f t) w l) : Fine (decL f l) t c := by
  have hx : ∀ x ∈ l, x < f.length := fun x hx => by have := gt_pos (hc.pos x hx); rwa [rm_length] at this
  refine ⟨by rw [decL_length]; exact h.n2, by rw [decL_length]; exact h.n8, by rw [decL_length]; exact h.tl, h.c1, h.c3, fun i => ?_⟩
  have h1 := h.rng i
  rw [gt_decL l f hc.nd hx]
  by_cases e : i ∈ l
  · obtain ⟨_, h2⟩ := rm_there (hc.pos i e)
    have := hc.pos i e
    simp [e]; omega
  · simp [e]; omega
theorem fine_can {f : List Int} {t : List Bool} {c : Int} {l : List Nat} {w : Nat} (h : Fine f t c) (hc : Chosen (rm f t) w l) : Can f l := ⟨hc.nd, fun x hx => by
  obtain ⟨_, h2⟩ := rm_there (hc.pos x hx)
  have := hc.pos x hx
  have := h.rng x
  omega⟩
/-- So often has been chosen, and that is left. -/
structure LeftR (f : List Int) (t : List Bool) (c : Int) (k : Nat) (fk : List Int) : Prop where
  af : aft (wt c t) (rm f t) k = some (rm fk t)
  len : fk.length = f.length
  fine : Fine fk t c
theorem LeftR.succ {f fk : List Int} {t : List Bool} {c : Int} {k : Nat} {l : List Nat} (h : LeftR f t c k fk) (hl : cho (rm fk t) (wt c t) = some l) : LeftR f t c (k + 1) (decL fk l) := by
  have hc := (cho_spec hl).2
  refine ⟨?_, by rw [decL_length]; exact h.len, fine_dec h.fine hc⟩
  rw [rm_dec hc]
  exact aft_last _ k _ _ l h.af hl
def ManRel (f : List Int) (t : List Bool) (c : Int) (g n cap : Nat) (sp : List Value) (w0 : World) (kv : Value) (wr : World) : Prop := ∃ (k : Nat) (fk : List Int), kv = .int .i64 k ∧ k ≤ 32768 ∧ LeftR f t c k fk ∧ OwnI wr (.slice (some ⟨g, 0, none⟩) n cap) fk sp ∧ Frm [] w0 wr
def DecRel (fk : List Int) (l : List Nat) (v : Value) (sp : List Value) (w0 : World) (cv : Value) (wr : World) : Prop := ∃ k : Nat, k ≤ l.length ∧ cv = .int .i64 k ∧ OwnI wr v (decL fk (l.take k)) sp ∧ Frm (blk v) w0 wr
theorem OwnI.at {w : World} {p : Option Addr} {n cap : Nat} {l : List Int} {sp : List Value} (h : OwnI w (.slice p n cap) l sp) (hl : 0 < l.length) : ∃ g, p = some ⟨g, 0, none⟩ := by
  obtain ⟨_, h2 | ⟨g', cap', h2, _⟩⟩ := h
  · have := h2.2.1; omega
  · cases h2; exact ⟨_, rfl⟩
set_option maxHeartbeats 4000000 in
theorem RefMany_any (v d : Value) (f : List Int) (t : List Bool) (c : Int) (sp dsp : List Value) (w : World) (hS : SlI w v f sp) (hT : SlO w d t dsp) (hl : f.length ≤ 12) (hl2 : t.length ≤ 12) :
    Calls Try.prog 19 #[v, d, .int .i64 c] w (ManyP f t c w) := by
  have hC := RefCheck_any v d f t c sp dsp w hS hT hl hl2
  by_cases hF : Fine f t c
  · rw [chkC_fine hF] at hC
    have HC := Lib.hid hC
    have HF := Lib.hid hF
    have HS := Lib.hid hS
    have HT := Lib.hid hT
    have HLT := Lib.hid (And.intro hl hl2)
    have o0 : OwnI (w.alloc (.cells #[] 3)) (.slice (some ⟨w.heap.size, 0, none⟩) 0 0) [] [] := OwnE.of_heap encI (heap_alloc_new _ _) rfl (by simp) (by simp) (by simp)
    have f0 : Frm [] w (w.alloc (.cells #[] 3)) := (Frm.refl _ _).alloc _
    clear hC hS hT hl hl2 hF
    go_enter Try.func19, Try.ntmps19
    go_wp2_with (first
      | (go_at_call 15; refine Calls.mono (HC.out) ?_; rintro ee W1 ⟨rfl, rfl⟩)
      | (at_builtin; refine wpList_append_e encI tysI o0 (HS.out.keep0 f0) (by have := HLT.out.1; simp; omega) (by omega) rfl (.tmp 21) (.tmp 22) rfl rfl rfl ?_; intro a' cap' w' sp' o1 f1 b1))
    have f2 := Lib.hid (f0.trans f1 (by simp [blk]))
    have n2 := Lib.hid (show ∀ i ∈ blk (.slice a' ([].length + f.length) cap'), W1.heap.size ≤ i from fun i hi => by
      rcases b1 i hi with h | h
      · simp [blk] at h; omega
      · simp at h; omega)
    have o1' : OwnI w' (.slice a' f.length cap') f sp' := by simpa using o1
    have n2' : ∀ i ∈ blk (.slice a' f.length cap'), W1.heap.size ≤ i := by have := n2.out; simpa using this
    obtain ⟨g, rfl⟩ := o1'.at (by have := HF.out.n2; omega)
    have hfl : ((f.length : Nat) : Int) ≤ 8 := by have := HF.out.n8; omega
    have HNG := Lib.hid (show W1.heap.size ≤ g from n2' g (by simp [blk]))
    have O1 := Lib.hid o1'
    clear o1 o1' f1 b1 n2 n2' f0 o0 HC
    go_loopw [10] (ManRel f t c g f.length cap' sp' W1) (fun kv _ => 32769 - (intOf kv).toNat)
    case atStart => exact ⟨0, f, rfl, by omega, ⟨rfl, rfl, HF.out⟩, O1.out, f2.out⟩
    case round =>
      clear f2 O1
      obtain ⟨k, fk, rfl, hk, hlr, o, fr⟩ := hrel
      have HLR := Lib.hid hlr
      have HCH := Lib.hid (RefChoose_any _ _ fk t c _ _ wr o.sl (HT.out.keep0 fr) (by have := hlr.fine.n8; omega) HLT.out.2)
      have O := Lib.hid o
      have FR := Lib.hid fr
      have GL := Lib.hid (show g < wr.heap.size from o.lt g (by simp [blk]))
      have hlen := hlr.len
      clear o fr hlr
      cases hl : cho (rm fk t) (wt c t) with
      | none =>
        have hA := chA_none HLR.out.fine hl
        rw [hA] at HCH
        have HM := Lib.hid (show MnR f t c k 0 from .inr ⟨HF.out, ⟨_, HLR.out.af, hl⟩, rfl⟩)
        clear hl hA hlen
        go_wp2_with (go_at_call 12; refine Calls.mono (HCH.out) ?_; rintro ee W2 ⟨v2, s2, rfl, o2, f3, n3⟩)
        go_ret2
        exact ⟨k, 0, HM.out, rfl, FR.out.trans f3 (by simp)⟩
      | some l =>
        have hA := chA_some HLR.out.fine hl
        rw [hA] at HCH
        have HCC := Lib.hid (fine_can HLR.out.fine (cho_spec hl).2)
        have HSU := Lib.hid (HLR.out.succ hl)
        have HLL := Lib.hid (show l.length ≤ 3 by
          have h1 := (cho_spec hl).2.len
          have h2 := HF.out.c3
          unfold wt at h1
          omega)
        clear hl hA
        go_wp2_with fail
        refine Calls.mono (HCH.out) ?_
        rintro ee W2 ⟨v2, s2, rfl, o2, f3, n3⟩
        obtain ⟨p2, c2, rfl, _, _⟩ := o2.sl.form
        rw [cz_length]
        rw [cz_length] at o2 n3
        have O2 := Lib.hid o2
        have N3 := Lib.hid (show g ∉ blk (.slice p2 l.length c2) from fun h => by have := n3 g h; have := GL.out; omega)
        have O3 := Lib.hid (O.out.keep0 f3)
        have F3 := Lib.hid (FR.out.trans f3 (by simp))
        clear o2 n3 f3 O FR
        have hl3 : ((l.length : Nat) : Int) ≤ 3 := by have := HLL.out; omega
        go_wp2_with fail
        go_loopw [13] (DecRel fk l (.slice (some ⟨g, 0, none⟩) f.length cap') sp' W2) (fun cv _ => l.length - (intOf cv).toNat)
        case atStart => exact ⟨0, by omega, rfl, by simpa [decL] using O3.out, Frm.refl _ _⟩
        case round =>
          obtain ⟨j, hj, rfl, o, f5⟩ := hrel
          by_cases hlt : j < l.length
          · have hp := HCC.out.pos l[j] (List.getElem_mem _)
            have hq := HCC.out.at j hlt
            have hb := HCC.out.lt l[j] (List.getElem_mem _)
            have hdl := decL_length (l.take j) fk
            obtain ⟨b1, q1, rfl⟩ := O2.out.sl.at (by rw [cz_length]; omega)
            have hd := cellI (O2.out.sl.keep f5 (by have := N3.out; simp [blk] at this ⊢; omega)) j (by rw [cz_length]; exact hlt)
            rw [cz_get l j hlt] at hd
            have c1 := cellI o.sl l[j] (by omega)
            rw [← gt_lt, hq] at c1
            have z1 := frozen_of_heap (OwnE.heap o) (0 + l[j])
            have hst := OwnE.store encI o l[j] 0 (by omega) (by omega) (gt fk l[j] - 1) (.int .i64 (gt fk l[j] - 1)) rfl
            have e1 := decL_take fk l j hlt
            rw [hq] at e1
            rw [← e1] at hst
            simp only [Nat.add_zero, Nat.mul_one] at hst
            rw [Nat.zero_add] at c1 z1
            generalize gt fk l[j] = y at *
            generalize l[j] = x at *
            have hw1 : IntKind.i64.wrap (y - 1) = y - 1 := IntWalk.i64_in _ (by omega)
            have hx9 : (x : Int) < (f.length : Int) := by omega
            have ST := Lib.hid hst
            have F5 := Lib.hid f5
            have HLN := Lib.hid hlen
            clear hst o f5 e1 hdl hq hlen
            go_wp2_with fail
            go_roundw
            case rel => exact ⟨j + 1, by omega, by go_num, ST.out, F5.out.setCell _ _ (.inl (by simp [blk]))⟩
            case measure => simp [intOf]; omega
          · obtain rfl : j = l.length := by omega
            rw [List.take_length] at o
            have F5 := Lib.hid (F3.out.trans f5 (by intro i hi; simp [blk] at hi; subst hi; exact .inr HNG.out))
            have O5 := Lib.hid o
            have hk2 : k + 1 ≤ 32768 := aft_le HSU.out.af HF.out.rm (by rw [rm_length]; exact HF.out.n8)
            have hw1 : IntKind.i64.wrap ((k : Int) + 1) = (k : Int) + 1 := IntWalk.i64_in _ (by omega)
            clear f5 o
            go_wp2_with fail
            go_roundw
            case rel => exact ⟨k + 1, decL fk l, by go_num, hk2, HSU.out, O5.out, F5.out⟩
            case measure => simp [intOf]; omega
  · rw [chkC_bad hF] at hC
    have HC := Lib.hid hC
    have HM := Lib.hid (show MnR f t c 0 2 from .inl ⟨hF, rfl, rfl⟩)
    clear hC hS hT hl hl2 hF
    go_enter Try.func19, Try.ntmps19
    go_wp2_with (first
      | (go_at_call 15; refine Calls.mono (HC.out) ?_; rintro ee W1 ⟨rfl, rfl⟩))
    go_ret2
    exact ⟨0, 2, HM.out, rfl, Frm.refl _ _⟩
end Go.Proofs.Ytojchfpfemofkaa
