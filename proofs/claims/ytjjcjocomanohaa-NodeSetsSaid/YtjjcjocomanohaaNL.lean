/-
  Contract of Set of nodes. No conditions but those that each theorem names.
-/
import Derived.Test.YtjjcjocomanohaaNK
import Derived.Test.YtjjcjocomanohaaNJ
namespace Go.Proofs.Ytjjcjocomanohaa
open Go.RowKit
set_option linter.unusedVariables false
set_option linter.unusedSimpArgs false
set_option maxRecDepth 100000

/-- May a node have a pointer at a place? -/
def setOk (n : Nd) (i : Int) (p : Pt) : Bool := nodeB n && (decide (0 ≤ i ∧ i < 4) && standB p n.lv)
def setE (n : Nd) (i : Int) (p : Pt) : Int := if setOk n i p = true then 0 else 2
def setNd (n : Nd) (i : Int) (p : Pt) : Nd := if setOk n i p = true then ⟨n.lv, n.ps.set i.toNat p⟩ else zeroNd
def SetP (n : Nd) (i : Int) (p : Pt) (w : World) (e : Ending) (w' : World) : Prop := ∃ x, e = .returned (.tuple #[x, .int .i64 (setE n i p)]) ∧ NdO w.heap.size w' x (setNd n i p) ∧ Frm [] w w'
theorem zeroNd_n (b : Nat) (W : World) : NdO b W (.agg (nc 0 zAs).toArray) zeroNd := ⟨zAs, rfl, ptsv_zero W, fun i A p hA hp => by
  have e1 : A = zA := List.eq_of_mem_replicate (List.mem_of_getElem? hA)
  have e2 : p = zeroPt := List.eq_of_mem_replicate (List.mem_of_getElem? hp)
  subst e1 e2
  exact ⟨none, 0, [], rfl, OwnA.nil 46 W, by simp [zeroPt], by simp [blk]⟩⟩
theorem setP_no {n : Nd} {i : Int} {p : Pt} {w w' : World} (h : setOk n i p = false) (f : Frm [] w w') : SetP n i p w (.returned (.tuple #[.agg (nc 0 zAs).toArray, .int .i64 2])) w' :=
  ⟨.agg (nc 0 zAs).toArray, by simp [setE, h], by simp only [setNd, h, Bool.false_eq_true, if_false]; exact zeroNd_n _ _, f⟩
theorem setP_yes {n : Nd} {i : Int} {p : Pt} {w w' : World} {x : Value} (h : setOk n i p = true) (hx : NdO w.heap.size w' x ⟨n.lv, n.ps.set i.toNat p⟩) (f : Frm [] w w') : SetP n i p w (.returned (.tuple #[x, .int .i64 0])) w' :=
  ⟨x, by simp [setE, h], by simpa only [setNd, h, if_true] using hx, f⟩
set_option maxHeartbeats 8000000 in
theorem Set_any (x : Value) (n : Nd) (i : Int) (y : Value) (p : Pt) (w : World) (hn : NdV w x n) (hl : ∀ p ∈ n.ps, p.ads.length ≤ 1000000) (hp : PtV w y p) (hpl : p.ads.length ≤ 1000000) :
    Calls Try.prog 43 #[x, .int .i64 i, y] w (SetP n i p w) := by
  have HC := Lib.hid (fun W (f : Frm [] w W) => nodeCheck_any x n W (hn.keep0 f) hl)
  have HM := Lib.hid (fun (h : 1 ≤ n.lv ∧ n.lv ≤ 3) W (f : Frm [] w W) => mayStand_any y p n.lv W (hp.keep0 f) hpl h.1 h.2)
  have HNV := Lib.hid hn
  have HPV := Lib.hid hp
  obtain ⟨N, rfl, hN, As, hps, hbn⟩ := hn.box
  obtain ⟨A, rfl, hA, hbp⟩ := hp.box
  have b3 : BoxN (((w.alloc (.cells N 51)).alloc (.cells A 26)).alloc (.cells (nc 0 zAs).toArray 51)) w.heap.size (.agg N) n.lv As := (hbn w).keep0 (((Frm.refl [] _).alloc _).alloc _)
  have b5 : Boxed (((w.alloc (.cells N 51)).alloc (.cells A 26)).alloc (.cells (nc 0 zAs).toArray 51)) (w.heap.size + 1) (.agg A) p := by
    have h := (hbp (w.alloc (.cells N 51))).keep0 ((Frm.refl [] _).alloc (.cells (nc 0 zAs).toArray 51))
    simpa using h
  have b6 : NB (((w.alloc (.cells N 51)).alloc (.cells A 26)).alloc (.cells (nc 0 zAs).toArray 51)) (w.heap.size + 2) 0 zAs := ⟨heap_alloc_at (by simp), zAs_len, zAs_rows⟩
  have f0 : Frm [] w (((w.alloc (.cells N 51)).alloc (.cells A 26)).alloc (.cells (nc 0 zAs).toArray 51)) := (((Frm.refl [] w).alloc _).alloc _).alloc _
  have HPS := Lib.hid hps
  have HL := Lib.hid hl
  have HPL := Lib.hid hpl
  clear hbn hbp hn hp hps hl hpl
  go_enter Try.func43, Try.ntmps43
  go_upto_region 1 with ((with_reducible (show wpList _ _ _ (Oper.mk _ (Op.alloc 51) _ _ _ _ :: _) _ _)); refine wpList_val rfl (exec_alloc51 rfl _) ?_)
  try simp only [World.size_alloc]
  generalize (((w.alloc (.cells N 51)).alloc (.cells A 26)).alloc (.cells (nc 0 zAs).toArray 51)) = W at *
  have B3 := Lib.hid b3
  have B5 := Lib.hid b5
  have B6 := Lib.hid b6
  have F0 := Lib.hid f0
  clear b3 b5 b6 f0
  rcases nchk_cases n with ⟨hb, hc⟩ | ⟨hb, hc⟩
  · obtain ⟨n1, n3, _⟩ := nodeB_parts hb
    have HM2 := Lib.hid (HM.out ⟨n1, n3⟩)
    have HOK := Lib.hid (show setOk n i p = (decide (0 ≤ i ∧ i < 4) && standB p n.lv) by simp [setOk, hb])
    rw [hc] at HC
    clear hb hc HM
    go_upto_region 4 with (first
      | ((with_reducible (show wpList _ _ _ (Oper.mk _ (Op.load 51 _) _ _ _ _ :: _) _ _)); refine wpList_load_g (by rfl) 51 _ rfl _ rfl B3.out.load ?_)
      | (go_at_call 39; refine (HC.out _ F0.out).mono ?_; rintro r w1 ⟨rfl, f1⟩))
    have C3 := Lib.hid (B3.out.keep0 f1)
    have C5 := Lib.hid (B5.out.keep0 f1)
    have C6 := Lib.hid (B6.out.keep0 f1)
    have F1 := Lib.hid (F0.out.trans f1 (by simp))
    have c0 := C3.out.2.lev
    clear f1 B3 B5 B6 F0
    by_cases hi : 0 ≤ i ∧ i < 4
    · obtain ⟨k, rfl⟩ : ∃ k : Nat, i = (k : Int) := ⟨i.toNat, by omega⟩
      have hk : k < 4 := by omega
      have HOK2 := Lib.hid (show setOk n k p = standB p n.lv by rw [HOK.out]; simp; omega)
      have h9 : (k : Int) < 4 := hi.2
      have d0 : decide ((k : Int) < 0) = false := by simp
      have d1 : decide (4 ≤ (k : Int)) = false := by simp; omega
      have TH := Lib.hid (C3.out.2.there hk)
      have HA2 := Lib.hid (ptv_size HPV.out)
      clear hi HOK
      cases hst : standB p n.lv with
      | true =>
        have HYES := Lib.hid (show setOk n k p = true by rw [HOK2.out, hst])
        rw [hst] at HM2
        clear hst
        go_upto_region 7 with (first
          | ((with_reducible (show wpList _ _ _ (Oper.mk (some 22) (Op.load 26 _) _ _ _ _ :: _) _ _)); refine wpList_load_g (by rfl) 26 _ rfl _ rfl C5.out.load ?_)
          | ((with_reducible (show wpList _ _ _ (Oper.mk (some 30) (Op.load 26 _) _ _ _ _ :: _) _ _)); refine wpList_load_g (by rfl) 26 _ rfl _ rfl (C5.out.keep0 f2).load ?_)
          | (go_at_call 64; refine (HM2.out _ F1.out).mono ?_; rintro r w2 ⟨rfl, f2⟩)
          | ((with_reducible (show wpList _ _ _ (Oper.mk _ (Op.store 26 _ _) _ _ _ _ :: _) _ _)); refine wpList_store_mid rfl 26 (.tmp 32) (.tmp 30) rfl w.heap.size (1 + k * 35) A rfl rfl (by rw [HA2.out.1]; exact (C3.out.2.keep0 f2).there hk) (by rw [i26, HA2.out.1]) HA2.out.2 ?_))
        have hNB := (C3.out.2.keep0 f2).set hk A HA2.out.1 HA2.out.2
        have fs : Frm [w.heap.size] w2 (w2.setCells w.heap.size (1 + k * 35) A.toList) := Frm.setCells _ _ _ (Frm.refl _ w2) (.inl (by simp))
        have D6 := Lib.hid ((C6.out.keep0 f2).keep fs (by simp))
        have fW := (F1.out.trans f2 (by simp)).trans fs (fun i hi => .inr (by simp at hi; omega))
        have hPS := (HPS.out.set (i := k) HPV.out).keep0 fW
        generalize w2.setCells w.heap.size (1 + k * 35) A.toList = V at *
        have hv : NdV V (.agg (nc n.lv (As.set k A)).toArray) ⟨n.lv, n.ps.set k p⟩ := ⟨_, rfl, hPS⟩
        have HAP := Lib.hid (apart_any _ _ V hv (fun q hq => by
          rcases List.mem_or_eq_of_mem_set hq with h | h
          · exact HL.out q h
          · subst h; exact HPL.out))
        have HNB := Lib.hid hNB
        have FW := Lib.hid fW
        clear hNB fs fW hPS hv f2 c0 TH C3 C5 C6 F1
        go_wp2_with (first
          | ((with_reducible (show wpList _ _ _ (Oper.mk _ (Op.load 51 _) _ _ _ _ :: _) _ _)); refine wpList_load_g (by rfl) 51 _ rfl _ rfl HNB.out.all ?_)
          | (go_at_call 65; refine HAP.out.mono ?_; rintro r w3 ⟨yv, rfl, ⟨Bs, rfl, hq, hnw⟩, f3⟩)
          | ((with_reducible (show wpList _ _ _ (Oper.mk _ (Op.store 51 _ _) _ _ _ _ :: _) _ _)); refine wpList_store51 rfl (.tmp 6) (.tmp 34) rfl (D6.out.keep0 f3) hq.1 hq.rows rfl rfl ?_; intro V9 b9 f9))
        refine bodyPost_ret (results_cell_slot (p := 6) (q := 7) rfl _ _ rfl rfl b9.var) rfl ?_
        have hl6 := D6.out.lt
        refine setP_yes HYES.out ⟨Bs, rfl, ?_, fun i A p h1 h2 => ((hnw i A p h1 h2).keep f9 (by simp; omega)).old (by omega)⟩ ((FW.out.trans f3 (by simp)).trans f9 (fun i hi => .inr (by simp at hi; omega)))
        exact hq.keep f9 (fun B hB i hi h => by have := NdO.all hq hnw B hB i hi; simp at h; omega)
      | false =>
        have HNO := Lib.hid (show setOk n k p = false by rw [HOK2.out, hst])
        rw [hst] at HM2
        clear hst
        go_wp2_with (first
          | ((with_reducible (show wpList _ _ _ (Oper.mk (some 22) (Op.load 26 _) _ _ _ _ :: _) _ _)); refine wpList_load_g (by rfl) 26 _ rfl _ rfl C5.out.load ?_)
          | (go_at_call 64; refine (HM2.out _ F1.out).mono ?_; rintro r w2 ⟨rfl, f2⟩)
          | ((with_reducible (show wpList _ _ _ (Oper.mk _ (Op.build 51 _) _ _ _ _ :: _) _ _)); refine wpList_val rfl (exec_bld51z rfl _) ?_)
          | ((with_reducible (show wpList _ _ _ (Oper.mk _ (Op.store 51 _ _) _ _ _ _ :: _) _ _)); refine wpList_store51 rfl (.tmp 6) (.tmp 28) rfl (C6.out.keep0 f2) zAs_len zAs_rows rfl rfl ?_; intro V9 b9 f9))
        refine bodyPost_ret (results_cell_slot (p := 6) (q := 7) rfl _ _ rfl rfl b9.var) rfl ?_
        exact setP_no HNO.out ((F1.out.trans f2 (by simp)).trans f9 (fun i hi => .inr (by simp at hi; omega)))
    · have HNO := Lib.hid (show setOk n i p = false by rw [HOK.out]; simp [hi])
      have hi' : i < 0 ∨ 4 ≤ i := by omega
      clear hi HOK
      rcases hi' with h | h
      all_goals
        go_wp2_with (first
          | ((with_reducible (show wpList _ _ _ (Oper.mk _ (Op.build 51 _) _ _ _ _ :: _) _ _)); refine wpList_val rfl (exec_bld51z rfl _) ?_)
          | ((with_reducible (show wpList _ _ _ (Oper.mk _ (Op.store 51 _ _) _ _ _ _ :: _) _ _)); refine wpList_store51 rfl (.tmp 6) (.tmp 28) rfl C6.out zAs_len zAs_rows rfl rfl ?_; intro V9 b9 f9))
        refine bodyPost_ret (results_cell_slot (p := 6) (q := 7) rfl _ _ rfl rfl b9.var) rfl ?_
        exact setP_no HNO.out (F1.out.trans f9 (fun i hi => .inr (by simp at hi; omega)))
  · have HNO := Lib.hid (show setOk n i p = false by simp [setOk, hb])
    rw [hc] at HC
    clear hb hc HM
    go_wp2_with (first
      | ((with_reducible (show wpList _ _ _ (Oper.mk (some 9) (Op.load 51 _) _ _ _ _ :: _) _ _)); refine wpList_load_g (by rfl) 51 _ rfl _ rfl B3.out.load ?_)
      | (go_at_call 39; refine (HC.out _ F0.out).mono ?_; rintro r w1 ⟨rfl, f1⟩)
      | ((with_reducible (show wpList _ _ _ (Oper.mk _ (Op.build 51 _) _ _ _ _ :: _) _ _)); refine wpList_val rfl (exec_bld51z rfl _) ?_)
      | ((with_reducible (show wpList _ _ _ (Oper.mk _ (Op.store 51 _ _) _ _ _ _ :: _) _ _)); refine wpList_store51 rfl (.tmp 6) (.tmp 13) rfl (B6.out.keep0 f1) zAs_len zAs_rows rfl rfl ?_; intro V9 b9 f9))
    refine bodyPost_ret (results_cell_slot (p := 6) (q := 7) rfl _ _ rfl rfl b9.var) rfl ?_
    exact setP_no HNO.out ((F0.out.trans f1 (by simp)).trans f9 (fun i hi => .inr (by simp at hi; omega)))
end Go.Proofs.Ytjjcjocomanohaa
