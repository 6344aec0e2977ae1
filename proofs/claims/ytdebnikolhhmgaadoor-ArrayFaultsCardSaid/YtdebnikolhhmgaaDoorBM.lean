/-
  Flush. No conditions but those that each theorem names.
-/
import Derived.Test.YtdebnikolhhmgaaDoorBL
namespace Go.Proofs.YtdebnikolhhmgaaDoor
open Go.RowKit
set_option linter.unusedVariables false
set_option linter.unusedSimpArgs false
set_option maxRecDepth 100000

open Kr (OwnE SlE Enco RowTys)
def szs (s : St) : List Nat := s.devs.map fun q => q.secs.length
def inR (sz : List Nat) (x : Wt) : Prop := 0 ≤ x.dev ∧ 0 ≤ x.at' ∧ ∃ m, sz[x.dev.toNat]? = some m ∧ x.at' < m
def WfR (s : St) : Prop := ∀ x ∈ s.row, inR (szs s) x
theorem setD_szs {s : St} {d : Int} {u : Dv → Dv} (h : ∀ q, (u q).secs.length = q.secs.length) : szs (setD s d u) = szs s := by
  unfold setD
  cases e : s.devs[d.toNat]? with
  | none => rfl
  | some q =>
    obtain ⟨hi, rfl⟩ := List.getElem?_eq_some_iff.1 e
    unfold szs
    simp only
    rw [List.map_set, h]
    have e : s.devs[d.toNat].secs.length = (s.devs.map fun q => q.secs.length)[d.toNat]'(by simpa using hi) := by simp
    rw [e, List.set_getElem_self]
theorem settle_szs (s : St) (x : Wt) (n : Nat) : szs (settleS s x n) = szs s := by
  unfold settleS setSec
  refine setD_szs fun q => ?_
  simp only
  split
  · simp
  · rfl
theorem inR.use {s : St} {x : Wt} (h : inR (szs s) x) : ∃ hi : x.dev.toNat < s.devs.length, (0 ≤ x.dev ∧ x.dev < s.devs.length) ∧ (0 ≤ x.at' ∧ x.at' < s.devs[x.dev.toNat].secs.length) := by
  obtain ⟨h1, h2, m, h3, h4⟩ := h
  unfold szs at h3
  rw [List.getElem?_map] at h3
  cases e : s.devs[x.dev.toNat]? with
  | none => rw [e] at h3; cases h3
  | some q =>
    obtain ⟨hi, rfl⟩ := List.getElem?_eq_some_iff.1 e
    rw [e] at h3
    cases h3
    exact ⟨hi, ⟨h1, by omega⟩, h2, h4⟩
def settles (l : List Wt) (s : St) : St := l.foldl (fun s x => settleS s x 256) s
theorem settles_szs : ∀ (l : List Wt) (s : St), szs (settles l s) = szs s
  | [], s => rfl
  | x :: l, s => by
    have := settles_szs l (settleS s x 256)
    rw [settle_szs] at this
    exact this
def flushS (s : St) (d : Int) : St := settles (rowOf s d) (takenS s d)
theorem RowL.keep96 {w w' : World} {v : Value} {l : List Wt} {L : List Nat} (h : RowL w v l) (f : Frm L w w') (hL : ∀ k ∈ L, ∃ cs, w.heap[k]? = some (.cells cs 96 (0, 0))) : RowL w' v l := by
  refine h.keepF f (fun k hk hm => ?_) fun k hk => by obtain ⟨cs, hc⟩ := hL k hk; exact ⟨cs, 96, _, hc, by decide⟩
  obtain ⟨rcs, sp, h1, h2, h3⟩ := h
  obtain ⟨cs, hc⟩ := own_blk h1 k hk
  obtain ⟨cs', hc'⟩ := hL k hm
  rw [hc] at hc'
  cases hc'
def FlRel (lo g : Nat) (l : List Wt) (vt : Value) (s2 : St) (w0 : World) (cv : Value) (wr : World) : Prop :=
  ∃ k, k ≤ l.length ∧ cv = .int .i64 k ∧ RowL wr vt l ∧ Arr lo wr g (settles (l.take k) s2) ∧ Fa lo w0 wr
section
variable {lo : Nat} {w : World} {sn : Nat → Addr} {g : Nat} {s : St}
set_option maxHeartbeats 8000000 in
theorem Flush_any (d : Int) (hs : Sn w lo sn) (h : Arr lo w g s) (WF : WfS s) (WR : WfR s) (hrow : s.row.length ≤ 100000000) :
    Calls Tryd.prog 14 #[ptr g, .int .i64 d] w (MP lo g (mRes (dCons (nR s, s) (dCons (nD s d, s) (dCons (nT s d, s) (nStep s)))) fun s => flushS s d) w) := by
  have HS := Lib.hid hs
  have AR := Lib.hid h
  have F := Lib.hid (Frm.refl [] w)
  unfold ptr
  clear h hs
  go_enter Tryd.func14, Tryd.ntmps14
  go_wp2_with (first
    | (go_at_call 50; refine (deviceOf_any _ _).mono ?_; rintro e w5 ⟨bd, rfl, hd1, f1⟩; have F := Lib.hid (F.out.trans f1 (by simp)); have LD := Lib.hid hd1;  clear hd1 f1)
    | (go_at_call 40; refine (there_any _ _).mono ?_; rintro e w2 ⟨bt, rfl, ht1, f1⟩; have F := Lib.hid (F.out.trans f1 (by simp)); have LT := Lib.hid ht1; have LD := Lib.hid (f1.heap LD.out (by simp)); clear ht1 f1))
  refine (demand_any (r := (dCons (nR s, s) (dCons (nD s d, s) (dCons (nT s d, s) (nStep s))))) _ [_, _, _, _] _ 4 (HS.out.keep0 (F.out.alloc _)) (AR.out.keep0 (F.out.alloc _)) (Fa.refl lo _) (heap_alloc_new _ _) rfl (by simp) (Dem.cons (needR (HS.out.keep0 (F.out.alloc _))) fun hq0 => Dem.cons (needD (HS.out.keep0 (F.out.alloc _)) ((Frm.refl [] _).alloc _ |>.heap LD.out (by simp))) fun hq1 => Dem.cons (needT (HS.out.keep0 (F.out.alloc _)) ((Frm.refl [] _).alloc _ |>.heap LT.out (by simp)) (nD_ok hq1)) fun hq2 => Dem.last (needStep (HS.out.keep0 (F.out.alloc _)) WF))).mono ?_
  rintro e w9 ⟨h1, h2, h3⟩
  have HS9 := Lib.hid ((HS.out.keep0 (F.out.alloc _)).fa h3)
  have F9 := Lib.hid ((Fa.of0 (F.out.alloc _) lo).trans h3)
  have A9 := Lib.hid h2
  clear h2 h3
  rcases h1 with ⟨hq, rfl⟩ | ⟨k2, tx, hq, hk6, rfl⟩
  rotate_left
  · unfold rfu
    have HQ := Lib.hid hq
    have NU := Lib.hid (number_any HS9.out tx k2 hk6)
    clear hq
    go_wp2_with (go_at_call 42; refine NU.out.mono ?_; rintro e w10 ⟨rfl, f10⟩; have F10 := Lib.hid f10; clear f10)
    go_ret
    have hq := HQ.out
    rw [mRes_some hq]
    exact ⟨rfl, A9.out.keep0 F10.out, F9.out.trans (Fa.of0 F10.out lo)⟩
  · obtain ⟨q0, q1⟩ := dCons_of hq
    obtain ⟨q1, q2⟩ := dCons_of q1
    obtain ⟨q2, q3⟩ := dCons_of q2
    have e2 : dCons (nR s, s) (dCons (nD s d, s) (dCons (nT s d, s) (nStep s))) = (none, (nStep s).2) := by
      rw [dCons_none q0, dCons_none q1, dCons_none q2]
      exact Prod.ext q3 rfl
    rw [e2] at A9
    obtain ⟨t1, t2, t3⟩ := nStep_none q3
    have E2 := Lib.hid e2
    have A9 := Lib.hid (show Arr lo w9 g (nStep s).2 from A9.out)
    generalize (nStep s).2 = s1 at *
    have WR1 : WfR s1 := fun x hx => by
      have := WR x (by rw [← t2]; exact hx)
      unfold szs at this ⊢
      rw [t1]
      exact this
    have TK := Lib.hid (takeLoose_any d A9.out (by rw [t2]; exact hrow))
    have HIN := Lib.hid (fun (y : St) (e : szs y = szs s1) (i : Nat) (hi : i < (rowOf s1 d).length) => show inR (szs y) (rowOf s1 d)[i] from by rw [e]; exact WR1 _ (List.mem_filter.1 (List.getElem_mem hi)).1)
    have hl9 : ((rowOf s1 d).length : Int) ≤ 100000000 := by
      have : (rowOf s1 d).length ≤ s1.row.length := List.length_filter_le _ _
      rw [t2] at this
      omega
    clear hq q0 q1 q2 q3 e2 t1 t2 t3 WR WR1 WF hrow
    go_upto_region 5 with (go_at_call 51; refine TK.out.mono ?_; rintro e w10 ⟨vt, rfl, r1, n1, a1, f1⟩; obtain ⟨ta, tc, rfl⟩ := r1.form; have T1 := Lib.hid r1; have A10 := Lib.hid a1; have F10 := Lib.hid (F9.out.trans f1); clear r1 n1 a1 f1 TK)
    go_loopw [23] (FlRel lo g (rowOf s1 d) (.slice ta (rowOf s1 d).length tc) (takenS s1 d) w10) (fun c _ => (rowOf s1 d).length - (intOf c).toNat)
    case atStart => exact ⟨0, Nat.zero_le _, rfl, T1.out, A10.out, Fa.refl lo _⟩
    case round =>
      obtain ⟨k, hk, rfl, h1, h2, hF⟩ := hrel
      have H1 := Lib.hid h1
      have HF := Lib.hid hF
      by_cases hlt : k < (rowOf s1 d).length
      · obtain ⟨b0, cap0, gw, e1, e2, e3⟩ := h1.at k hlt
        have hlt9 : (k : Int) < ((rowOf s1 d).length : Int) := by omega
        simp only [Value.slice.injEq] at e1
        obtain ⟨rfl, -, rfl⟩ := e1
        obtain ⟨hi, hd, ha⟩ := (HIN.out (settles ((rowOf s1 d).take k) (takenS s1 d)) (by rw [settles_szs]; rfl) k hlt).use
        have ST : Calls Tryd.prog 52 #[ptr g, .pointer (some ⟨gw, 0, none⟩), .int .i64 256] wr _ := settle_any (rowOf s1 d)[k] gw 256 (by omega) h2 e3 hd hi ha
        have HST := Lib.hid ST
        have TK := Lib.hid (show settles ((rowOf s1 d).take (k + 1)) (takenS s1 d) = settleS (settles ((rowOf s1 d).take k) (takenS s1 d)) (rowOf s1 d)[k] 256 from by
          unfold settles
          rw [List.take_succ_eq_append_getElem hlt, List.foldl_append]
          rfl)
        clear h1 h2 hF e3 ST hi hd ha
        go_wp2_with (go_at_call 52; refine HST.out.mono ?_; rintro e w11 ⟨rfl, a2, f2, L, g2, hL⟩; have A2 := Lib.hid a2; have F2 := Lib.hid f2; have R2 := Lib.hid (H1.out.keep96 g2 hL); clear a2 f2 g2 hL HST)
        go_roundw
        case rel => exact ⟨k + 1, by omega, rfl, R2.out, by rw [TK.out]; exact A2.out, HF.out.trans F2.out⟩
        case measure => simp [intOf]; omega
      · obtain rfl : k = (rowOf s1 d).length := by omega
        have H2 := Lib.hid h2
        clear h1 h2 hF
        go_wp2_with fail
        go_ret
        have h2 := H2.out
        rw [List.take_length] at h2
        rw [E2.out]
        exact ⟨rfl, h2, F10.out.trans HF.out⟩
end
end Go.Proofs.YtdebnikolhhmgaaDoor

