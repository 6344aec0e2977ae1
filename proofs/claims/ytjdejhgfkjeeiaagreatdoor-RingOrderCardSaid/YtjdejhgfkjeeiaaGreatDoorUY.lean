/-
  Contract of Unpack. No conditions but those that each theorem names.
-/
import Derived.Test.YtjdejhgfkjeeiaaGreatDoorUX
namespace Go.Proofs.YtjdejhgfkjeeiaaGreatDoor
open Go.RowKit
set_option linter.unusedVariables false
set_option linter.unusedSimpArgs false
set_option maxRecDepth 100000

open Pt (Pt may enc readPt readE readAt zeroPt pc pv PtV SlA OwnA)
theorem firstNot_neg (l : List UInt8) : firstNot l < 0 ↔ l = List.replicate l.length 0 := by
  rw [List.eq_replicate_iff]
  simp only [true_and]
  unfold firstNot
  cases h : l.findIdx? (· != 0) with
  | none =>
    simp only [show ((-1 : Int) < 0) = True by simp, true_iff]
    intro b hb
    have := List.findIdx?_eq_none_iff.1 h b hb
    simpa using this
  | some i =>
    obtain ⟨hi, h1, _⟩ := List.findIdx?_eq_some_iff_getElem.1 h
    constructor
    · intro h2; simp at h2; omega
    · intro h2
      have := h2 l[i] (List.getElem_mem hi)
      rw [this] at h1
      simp at h1
theorem rest_iff {S : List UInt8} (hS : S.length = 256) : ((rRest (S.take 224) (95, 0, 0)).2.1 == 0) = (seg S 95 129 == List.replicate 129 0) := by
  have e : (S.take 224).drop 95 = seg S 95 129 := by unfold seg; rw [List.drop_take]
  have hl : (seg S 95 129).length = 129 := seg_length (by omega)
  have hf := firstNot_neg (seg S 95 129)
  rw [hl] at hf
  unfold rRest
  simp only [if_true, e]
  by_cases h : firstNot (seg S 95 129) < 0
  · rw [if_pos h, hf.1 h]; simp [-List.reduceReplicate]
  · rw [if_neg h]
    have : ¬ seg S 95 129 = List.replicate 129 0 := fun k => h (hf.2 k)
    simp [this, -List.reduceReplicate]
theorem mem_addL {x s : Addr} {q : Bool} {L : List Addr} : x ∈ addL q L s ↔ x ∈ L ∨ (q = false ∧ x = s) := by
  unfold addL
  cases q <;> simp
/-- All that is wrong. -/
def wrongL (n : Int) (S : List UInt8) (s0 s1 s2 : Addr) : List Addr :=
  addL (mayUB (parse S)) (addL (Hs.sha (S.take 224) == S.drop 224) (addL ((rRest (S.take 224) (95, 0, 0)).2.1 == 0) (addL (readE (seg S 48 47) == 0) (addL (seg S 0 8 == mark) (addL (!(S == zeros256)) (addL (n == 256) [] s0) s1) s2) s2) s2) s2) s2
theorem wrong0 {n : Int} {S : List UInt8} {s0 s1 s2 : Addr} (n01 : s0 ≠ s1) (n02 : s0 ≠ s2) : decide (s0 ∈ wrongL n S s0 s1 s2) = !(n == 256) := by
  unfold wrongL
  rw [Bool.eq_iff_iff, decide_eq_true_eq]
  simp only [mem_addL, n01, n02, and_false, or_false, List.not_mem_nil, false_or, and_true]
  cases n == 256 <;> simp
theorem wrong1 {n : Int} {S : List UInt8} {s0 s1 s2 : Addr} (n01 : s0 ≠ s1) (n12 : s1 ≠ s2) : decide (s1 ∈ wrongL n S s0 s1 s2) = (S == zeros256) := by
  unfold wrongL
  rw [Bool.eq_iff_iff, decide_eq_true_eq]
  simp only [mem_addL, n01.symm, n12, and_false, or_false, List.not_mem_nil, false_or, and_true]
  cases S == zeros256 <;> simp
theorem wrong2 {n : Int} {S : List UInt8} {s0 s1 s2 : Addr} (hS : S.length = 256) (n02 : s0 ≠ s2) (n12 : s1 ≠ s2) : decide (s2 ∈ wrongL n S s0 s1 s2) = !(asks S) := by
  unfold wrongL asks
  rw [rest_iff hS, Bool.eq_iff_iff, decide_eq_true_eq]
  simp only [mem_addL, n02.symm, n12.symm, and_false, or_false, List.not_mem_nil, false_or, and_true]
  cases seg S 0 8 == mark <;> cases readE (seg S 48 47) == 0 <;> cases seg S 95 129 == List.replicate 129 0 <;> cases Hs.sha (S.take 224) == S.drop 224 <;> cases mayUB (parse S) <;> simp
theorem unp_errno (b : List UInt8) : (errnoOf (!((b.length : Int) == 256)) (cutS b == zeros256) (!(asks (cutS b))) = 0 ∧ unp b = (parse (cutS b), 0)) ∨ ∃ e, (e = 4 ∨ e = 6 ∨ e = 11) ∧ errnoOf (!((b.length : Int) == 256)) (cutS b == zeros256) (!(asks (cutS b))) = e ∧ unp b = (zeroU, e) := by
  by_cases hb : b.length = 256
  · have h1 : ((b.length : Int) == 256) = true := by simp [hb]
    rw [cutS_full hb, h1, unp_full hb]
    by_cases hz : b = zeros256
    · right
      refine ⟨6, .inr (.inl rfl), ?_, ?_⟩
      · have : (b == zeros256) = true := by simpa using hz
        rw [this]; rfl
      · rw [if_pos (show b = List.replicate 256 0 from hz)]
    · have hz2 : (b == zeros256) = false := by simpa using hz
      rw [hz2, if_neg (show ¬ b = List.replicate 256 0 from hz)]
      by_cases ha : asks b = true
      · left
        rw [if_pos ha, ha]
        exact ⟨rfl, rfl⟩
      · right
        have ha2 : asks b = false := by simpa using ha
        rw [if_neg ha, ha2]
        exact ⟨11, .inr (.inr rfl), rfl, rfl⟩
  · right
    have h1 : ((b.length : Int) == 256) = false := by simp; omega
    rw [h1]
    refine ⟨4, .inl rfl, rfl, ?_⟩
    unfold unp
    rw [if_pos hb]
/-- What Unpack tells. -/
def UnpP (b : List UInt8) (w : World) (r : Ending) (w' : World) : Prop := ∃ a cap sp, r = .returned (.tuple #[uv (.slice a (unp b).1.root.ads.length cap) (unp b).1, .int .i64 (unp b).2]) ∧ SlA w' (.slice a (unp b).1.root.ads.length cap) (unp b).1.root.ads sp ∧ Frm [] w w' ∧ ∀ i ∈ blk (.slice a (unp b).1.root.ads.length cap), w.heap.size ≤ i
/-- The same, and its list is its own. -/
def UnpO (b : List UInt8) (w : World) (r : Ending) (w' : World) : Prop := ∃ a cap sp, r = .returned (.tuple #[uv (.slice a (unp b).1.root.ads.length cap) (unp b).1, .int .i64 (unp b).2]) ∧ OwnA 47 w' (.slice a (unp b).1.root.ads.length cap) (unp b).1.root.ads sp ∧ Frm [] w w' ∧ ∀ i ∈ blk (.slice a (unp b).1.root.ads.length cap), w.heap.size ≤ i
theorem UnpO.p {b : List UInt8} {w w' : World} {r : Ending} (h : UnpO b w r w') : UnpP b w r w' := by
  obtain ⟨a, cap, sp, e, h1, h2, h3⟩ := h
  exact ⟨a, cap, sp, e, h1.sl, h2, h3⟩
theorem UnpP.ubv {b : List UInt8} {w w' : World} {r : Ending} (h : UnpP b w r w') : ∃ x, r = .returned (.tuple #[x, .int .i64 (unp b).2]) ∧ UbV w' x (unp b).1 ∧ Frm [] w w' ∧ ∀ i ∈ ubBlk x, w.heap.size ≤ i := by
  obtain ⟨a, cap, sp, rfl, h1, h2, h3⟩ := h
  exact ⟨_, rfl, ⟨a, cap, sp, rfl, h1, unp_wf b⟩, h2, fun i hi => h3 i (by rw [ubBlk_uv] at hi; exact hi)⟩
theorem parse_ads (S : List UInt8) : (parse S).root.ads.length ≤ 1000000 := Nat.le_trans (Pt.read_len _) (by decide)
set_option maxHeartbeats 4000000 in
theorem Unpack_own {s0 s1 s2 : Addr} (v : Value) (b sp : List UInt8) (w : World) (hS : SlB w v b sp) (hb : b.length ≤ 1000000) (hs : Sens w s0 s1 s2) (hG : Hs.Glob w) : Calls Tryz.prog 26 #[v] w (UnpO b w) := by
  obtain ⟨a, cap, rfl, _, _⟩ := hS.form
  have f0 : Frm [] w (w.alloc (.cells (uc nilS zeroU).toArray 28)) := (Frm.refl [] w).alloc _
  have B0 := Lib.hid (UB.new w nilS zeroU_wf)
  have HS := Lib.hid (hS.keep f0 (by simp))
  have F0 := Lib.hid f0
  have HSE := Lib.hid (hs.keep0 f0)
  have HGl := Lib.hid (hG.keep f0 (by simp))
  have hue := unp_errno b
  have HB := Lib.hid hb
  clear hS f0 hs hG hb
  go_enter Tryz.func26, Tryz.ntmps26
  go_upto_region 1 with ((with_reducible (show wpList _ _ _ (Oper.mk _ (Op.alloc 28) _ _ _ _ :: _) _ _)); refine wpList_val rfl (exec_alloc28 rfl _) ?_)
  generalize w.alloc (.cells (uc nilS zeroU).toArray 28) = W0 at *
  obtain ⟨R, hR⟩ : ∃ R, w.heap.size = R := ⟨_, rfl⟩
  rw [hR] at B0 ⊢
  have HR := Lib.hid hR
  clear hR
  have HUE := Lib.hid hue
  clear hue
  have HBe := Lib.hid (begin_any _ b sp W0 HS.out HB.out)
  go_upto_region 2 with (first
    | (go_at_call 63; refine HBe.out.mono ?_; rintro r w1 ⟨g, br, rv, rsp, rfl, h1⟩; have H1 := Lib.hid h1; clear h1)
    | (go_at_call 64; refine (whole_any HSE.out H1.out).mono ?_; rintro r w2 ⟨rfl, E2, h2⟩; have H2 := Lib.hid h2; clear h2)
    | (go_at_call 65; refine (written_any HSE.out H2.out).mono ?_; rintro r w3 ⟨rfl, E3, h3⟩; have H3 := Lib.hid h3; clear h3)
    | (go_at_call 66; refine (mark_any HSE.out H3.out).mono ?_; rintro r w4 ⟨rfl, E4, h4⟩; have H4 := Lib.hid h4; clear h4)
    | (go_at_call 67; refine (pool_any H4.out).mono ?_; rintro r w5 ⟨rfl, E5, h5⟩; have H5 := Lib.hid h5; clear h5)
    | (go_at_call 68; refine (txg_any H5.out).mono ?_; rintro r w6 ⟨rfl, E6, h6⟩; have H6 := Lib.hid h6; clear h6)
    | (go_at_call 69; refine (length_any H6.out).mono ?_; rintro r w7 ⟨rfl, E7, h7⟩; have H7 := Lib.hid h7; clear h7)
    | (go_at_call 70; refine (root_any HSE.out H7.out).mono ?_; rintro r w8 ⟨v8, rfl, E8, h8⟩; have H8 := Lib.hid h8; clear h8)
    | (go_at_call 71; refine (rest_any HSE.out H8.out (by decide)).mono ?_; rintro r w9 ⟨rfl, E9, h9⟩; have H9 := Lib.hid h9; clear h9)
    | (go_at_call 72; refine (digest_any HSE.out H9.out (HGl.out.keep H9.out.frm (by simp))).mono ?_; rintro r w10 ⟨rfl, E10, h10⟩; have H10 := Lib.hid h10; clear h10)
    | (go_at_call 73; refine (may_any HSE.out H10.out (parse_ads (cutS b))).mono ?_; rintro r w11 ⟨rfl, E11, h11⟩; have H11 := Lib.hid h11; clear h11))
  have h := H11.out
  have hS := h.len
  have he := errno_any HSE.out h (wrong0 HSE.out.n01 HSE.out.n02) (wrong1 HSE.out.n01 HSE.out.n12) (wrong2 hS HSE.out.n02 HSE.out.n12)
  have H := Lib.hid (show RG W0 w11 g b.length (cutS b) br rv rsp (rRest ((cutS b).take 224) (95, 0, 0)) v8 (parse (cutS b)) E11 (wrongL b.length (cutS b) s0 s1 s2) from h)
  have HE := Lib.hid he
  clear h he H1 H2 H3 H4 H5 H6 H7 H8 H9 H10 H11 HBe hS
  obtain ⟨a8, c8, sp8, rfl, hs8⟩ := H.out.ptv
  have HS8 := Lib.hid hs8
  have hw := H.out.wf
  have hlR := B0.out.lt
  have hsz := H.out.frm.size
  have hvb : ∀ i ∈ blk (.slice a8 (parse (cutS b)).root.ads.length c8), w.heap.size ≤ i ∧ i ≠ R := fun i hi => by
    have h1 := (H.out.vb i hi).2.2.2
    have h2 := HR.out
    omega
  have HVB := Lib.hid hvb
  have ZL := Lib.hid (And.intro hlR hsz)
  have HW := Lib.hid hw
  clear hs8 hvb hlR hsz hw
  have hue := HUE.out
  clear HUE
  rcases hue with ⟨he0, hu⟩ | ⟨e, hne, he0, hu⟩
  · rw [he0] at HE
    have HU := Lib.hid hu
    clear hu he0
    go_wp2_with (first
      | (go_at_call 74; refine HE.out.mono ?_; rintro r w12 ⟨rfl, f12⟩; have LD := Lib.hid (H.out.keep0 f12).uber; have B12 := Lib.hid (B0.out.keep0 (H.out.frm.trans f12 (by simp))); have F12 := Lib.hid (H.out.frm.trans f12 (by simp)); have S12 := Lib.hid (HS8.out.keep f12 (by simp)); clear f12)
      | ((with_reducible (show wpList _ _ _ (Oper.mk _ (Op.load 28 _) _ _ _ _ :: _) _ _)); refine wpList_load_g (by rfl) 28 _ rfl _ rfl LD.out ?_)
      | ((with_reducible (show wpList _ _ _ (Oper.mk _ (Op.store 28 _ _) _ _ _ _ :: _) _ _)); refine wpList_store28 rfl _ _ rfl rfl B12.out HW.out rfl rfl ?_; intro V B13 F13))
    refine bodyPost_ret (v := .tuple #[uv (.slice a8 (parse (cutS b)).root.ads.length c8) (parse (cutS b)), .int .i64 0]) (results_cell_slot rfl _ _ rfl rfl B13.gets.var) rfl ?_
    unfold UnpO
    rw [HU.out]
    exact ⟨a8, c8, sp8, rfl, S12.out.keep F13 (fun i hi => by have := (HVB.out i hi).2; simpa using this), (F0.out.trans F12.out (by simp)).trans F13 (fun i hi => .inr (by have := HR.out; simp at hi; omega)), fun i hi => (HVB.out i hi).1⟩
  · rw [he0] at HE
    have hd : (e != 0) = true := by rcases hne with rfl | rfl | rfl <;> rfl
    have HU := Lib.hid hu
    clear hu he0 hne
    go_wp2_with (first
      | (go_at_call 74; refine HE.out.mono ?_; rintro r w12 ⟨rfl, f12⟩; have B12 := Lib.hid (B0.out.keep0 (H.out.frm.trans f12 (by simp))); have F12 := Lib.hid (H.out.frm.trans f12 (by simp)); clear f12)
      | ((with_reducible (show wpList _ _ _ (Oper.mk _ (Op.build 28 _) _ _ _ _ :: _) _ _)); refine wpList_val rfl (exec_bld28z rfl _) ?_)
      | ((with_reducible (show wpList _ _ _ (Oper.mk _ (Op.store 28 _ _) _ _ _ _ :: _) _ _)); refine wpList_store28 rfl _ _ rfl rfl B12.out zeroU_wf rfl rfl ?_; intro V B13 F13))
    refine bodyPost_ret (v := .tuple #[uv nilS zeroU, .int .i64 e]) (results_cell_slot rfl _ _ rfl rfl B13.gets.var) rfl ?_
    unfold UnpO
    rw [HU.out]
    exact ⟨none, 0, [], rfl, Pt.OwnA.nil _ _, (F0.out.trans F12.out (by simp)).trans F13 (fun i hi => .inr (by have := HR.out; simp at hi; omega)), by simp [blk]⟩
theorem Unpack_any {s0 s1 s2 : Addr} (v : Value) (b sp : List UInt8) (w : World) (hS : SlB w v b sp) (hb : b.length ≤ 1000000) (hs : Sens w s0 s1 s2) (hG : Hs.Glob w) : Calls Tryz.prog 26 #[v] w (UnpP b w) :=
  (Unpack_own v b sp w hS hb hs hG).mono fun _ _ h => h.p
end Go.Proofs.YtjdejhgfkjeeiaaGreatDoor
