/-
  Contract of queued. No conditions but those that each theorem names.
-/
import Derived.Test.YtjdejhgfkjeeiaaGreatDoorGM
import Derived.Test.YtjdejhgfkjeeiaaGreatDoorVA
namespace Go.Proofs.YtjdejhgfkjeeiaaGreatDoor
open Go.RowKit
set_option linter.unusedVariables false
set_option linter.unusedSimpArgs false
set_option maxRecDepth 100000

open Pt (Pt may enc readPt readE zeroPt pc pv PtV SlA OwnA)
open Kr (OwnE SlE Enco RowTys)
/-- The entries of those that may be. -/
def entsU (l : List Ub) : List En := (l.filter mayUB).map entU
theorem entsU_yes {l : List Ub} {u : Ub} (h : mayUB u = true) : entsU (l ++ [u]) = entsU l ++ [entU u] := by simp [entsU, h]
theorem entsU_no {l : List Ub} {u : Ub} (h : mayUB u = false) : entsU (l ++ [u]) = entsU l := by simp [entsU, h]
theorem entsU_len (l : List Ub) : (entsU l).length ≤ l.length := by simp only [entsU, List.length_map]; exact List.length_filter_le _ _
/-- No list that is too long to be gone through. -/
def Fits (l : List Ub) : Prop := l.length ≤ 1000 ∧ ∀ u ∈ l, u.root.ads.length ≤ 1000000
/-- A queue of a list's entries, made since a world. -/
def Qd (l : List Ub) (w : World) (g : Nat) (qv : Value) (wr : World) : Prop := ∃ q sp, Qu wr g qv q sp ∧ Heap q ∧ q.Perm (entsU l) ∧ Frm [] w wr ∧ ∀ i ∈ blk qv, w.heap.size ≤ i
def QdRel (l : List Ub) (w : World) (g : Nat) (cv : Value) (wr : World) : Prop := ∃ (k : Nat) (qv : Value), cv = .int .i64 k ∧ k ≤ l.length ∧ Qd (l.take k) w g qv wr
def QueuedP (l : List Ub) (w : World) (r : Ending) (w' : World) : Prop := ∃ g qv, r = .returned (.pointer (some ⟨g, 0, none⟩)) ∧ w.heap.size ≤ g ∧ Qd l w g qv w'
theorem bld148 (W : World) : (Instr.buildSlice 148 0 #[]).run Tryz.prog W = .ok (.slice (some ⟨W.heap.size, 0, none⟩) 0 0) (W.alloc (.cells #[] 118)) := by kernel_rfl
theorem take_more {l : List Ub} {k : Nat} (h : k < l.length) : l.take (k + 1) = l.take k ++ [l[k]] := List.take_succ_eq_append_getElem h
theorem exec_conv9 {o : Oper} {a : Act} {w : World} {x : Operand} {v : Value} {l sp : List UInt8} (ho : o.op = .convert 32 9 x) (hx : a.eval x = v) (hS : SlB w v l sp) : (execOp a.eval o).run Tryz.prog w = .ok (.value (.string (sB l))) w := by
  have h := convert_bytes BT hS Tryz.underlying9
  simp [execOp, ho, hx, h, Result.andThen, sB]
set_option maxHeartbeats 8000000 in
theorem queued_any (v : Value) (l : List Ub) (w : World) (h : Us w v l) (hf : Fits l) (hG : Hs.Glob w) : Calls Tryz.prog 85 #[v] w (QueuedP l w) := by
  obtain ⟨a, cap, rfl⟩ := h.form
  have H := Lib.hid h
  have HF := Lib.hid hf
  have HG := Lib.hid hG
  have hl9 : (l.length : Int) ≤ 1000 := by have := hf.1; omega
  have hb := bld148
  clear h hf hG
  go_enter Tryz.func85, Tryz.ntmps85
  go_upto_region 2 with (fail)
  have hn0 := heap_alloc_new w (.cells #[] 118)
  have f1 : Frm [] w ((w.alloc (.cells #[] 118)).alloc (.cells #[.slice (some ⟨w.heap.size, 0, none⟩) 0 0] 148)) := ((Frm.refl [] w).alloc _).alloc _
  have q1 : Qu ((w.alloc (.cells #[] 118)).alloc (.cells #[.slice (some ⟨w.heap.size, 0, none⟩) 0 0] 148)) (w.heap.size + 1) (.slice (some ⟨w.heap.size, 0, none⟩) 0 0) [] [] := by
    refine ⟨heap_at (by simp), OwnE.of_heap EEn ?_ rfl (Nat.le_refl _) rfl (by simp [maxLen]), fun i hi => by simp [blk] at hi; omega⟩
    exact heap_alloc_lt hn0
  have hd : Qd [] w (w.heap.size + 1) (.slice (some ⟨w.heap.size, 0, none⟩) 0 0) ((w.alloc (.cells #[] 118)).alloc (.cells #[.slice (some ⟨w.heap.size, 0, none⟩) 0 0] 148)) :=
    ⟨[], [], q1, heap_nil, List.Perm.refl _, f1, fun i hi => by simp [blk] at hi; omega⟩
  have HD := Lib.hid hd
  have hg1 : w.heap.size ≤ w.heap.size + 1 := by omega
  clear hd q1 f1 hn0
  try simp only [World.size_alloc]
  generalize (w.alloc (.cells #[] 118)).alloc (.cells #[.slice (some ⟨w.heap.size, 0, none⟩) 0 0] 148) = W1 at *
  generalize hg : w.heap.size + 1 = g at *
  have HGE := Lib.hid hg1
  clear hg hg1
  go_wp2_with fail
  go_loopw [12] (QdRel l w g) (fun cv _ => l.length - (intOf cv).toNat)
  case atStart => exact ⟨0, _, rfl, by omega, HD.out⟩
  case round =>
    obtain ⟨k, qv, rfl, hk, hq⟩ := hrel
    by_cases hlt : k < l.length
    · have hlt' : (k : Int) < (l.length : Int) := by omega
      have hk9 : (k : Int) ≤ 1000 := by omega
      have HQ := Lib.hid hq
      have hfr : Frm [] w wr := by obtain ⟨_, _, _, _, _, f, _⟩ := hq; exact f
      have FR := Lib.hid hfr
      obtain ⟨b, off, cp, e⟩ := H.out.at (by omega)
      injection e with e1 e2 e3
      subst e1; subst e3
      obtain ⟨xa, xc, hld, hub, _, _⟩ := (H.out.keep0 hfr).load k hlt
      have hfu := HF.out.2 (l[k]) (List.getElem_mem _)
      have HT := Lib.hid (take_more hlt)
      have HUB := Lib.hid hub
      generalize l[k] = u at *
      have hwf := hub.wf
      have HLD := Lib.hid hld
      have HFU := Lib.hid hfu
      have HKL := Lib.hid hlt
      clear hq hfr hld hub hfu hlt
      go_upto_region 5 with (first
        | ((with_reducible (show wpList _ _ _ (Oper.mk _ (Op.load 28 _) _ _ _ _ :: _) _ _)); refine wpList_load_g (by rfl) 28 _ rfl _ rfl HLD.out ?_)
        | ((with_reducible (show wpList _ _ _ (Oper.mk _ (Op.alloc 28) _ _ _ _ :: _) _ _)); refine wpList_lay28 rfl rfl rfl _ _ rfl (v := .slice xa u.root.ads.length xc) rfl (u := u) hwf rfl rfl ?_))
      have f2 : Frm [] wr (wr.alloc (.cells (uc (.slice xa u.root.ads.length xc) u).toArray 28)) := (Frm.refl [] wr).alloc _
      have G2 := Lib.hid (UB.new wr (.slice xa u.root.ads.length xc) hwf)
      have F2 := Lib.hid (FR.out.trans f2 (by simp))
      have F12 := Lib.hid f2
      have HP := Lib.hid (Pack_any _ u _ (HUB.out.keep0 f2) HFU.out (HG.out.keep (FR.out.trans f2 (by simp)) (by simp)))
      unfold PackP at HP
      clear f2 HLD HUB
      generalize wr.alloc (.cells (uc (.slice xa u.root.ads.length xc) u).toArray 28) = W2 at *
      generalize wr.heap.size = n2 at *
      cases hm : mayUB u with
      | true =>
        have hmu := mayUB_iff.1 hm
        rw [mayE_yes hmu, packO_yes hmu] at HP
        have HM := Lib.hid hm
        have hpl := packU_length hwf hmu
        rw [hpl] at HP
        clear hm hmu
        go_upto_region 7 with (first
          | ((with_reducible (show wpList _ _ _ (Oper.mk _ (Op.load 28 _) _ _ _ _ :: _) _ _)); refine wpList_load_g (by rfl) 28 _ rfl _ rfl G2.out.gets.all ?_)
          | (go_at_call 16; refine HP.out.mono ?_; rintro r w3 ⟨pa, pcap, psp, rfl, po, f3, _⟩; have PO := Lib.hid po; have F3 := Lib.hid f3; clear po f3))
        have G3 := Lib.hid (G2.out.keep0 F3.out)
        have k0 := G3.out.gets.c0
        obtain ⟨q, sp, qq, hh, hp, ff, hbl⟩ := HQ.out
        have HH := Lib.hid hh
        have HPM := Lib.hid hp
        have HBL := Lib.hid hbl
        have Q3 := Lib.hid (qq.keep0 (F12.out.trans F3.out (by simp)))
        have FA := Lib.hid (F2.out.trans F3.out (by simp))
        have hql : q.length ≤ 1000 := by
          have h1 := hp.length_eq
          have h2 := entsU_len (l.take k)
          have h3 := HF.out.1
          rw [List.length_take] at h2
          omega
        have PX := Lib.hid (show SlB w3 (.slice pa 256 pcap) (packU u) psp from by have := PO.out.sl; exact this)
        have HPut := Lib.hid (putQ_any g qv q (entU u) sp w3 Q3.out (by omega))
        unfold vEn at HPut
        rw [show (entU u).1 = u.txg from rfl, show (entU u).2 = packU u from rfl] at HPut
        clear hh hp hbl qq ff hql hpl
        generalize hpu : packU u = P at *
        have HPU := Lib.hid hpu
        clear hpu
        generalize hS : sB P = S at *
        have HS := Lib.hid hS
        clear hS
        go_wp2_with (first
          | ((with_reducible (show wpList _ _ _ (Oper.mk _ (Op.convert 32 9 _) _ _ _ _ :: _) _ _)); refine wpList_val rfl (exec_conv9 rfl rfl PX.out) ?_; rw [HS.out])
          | (go_at_call 124; refine HPut.out.mono ?_; rintro r w4 ⟨rfl, v4, sp4, q4, f4, n4⟩))
        have hall := putQ_all (entU u) HH.out
        have hnew : QdRel l w g (.int .i64 ((k : Int) + 1)) w4 := ⟨k + 1, v4, by go_num, HKL.out, putQ q (entU u), sp4, q4, hall.2, by
          rw [HT.out, entsU_yes HM.out]
          exact hall.1.trans ((HPM.out.cons _).trans (List.perm_append_comm (l₁ := [entU u]))), FA.out.trans f4 (fun i hi => by
            rcases List.mem_cons.1 hi with rfl | hi
            · exact .inr HGE.out
            · exact .inr (HBL.out i hi)), fun i hi => by
            rcases n4 i hi with h | h
            · exact HBL.out i h
            · have := FA.out.size; omega⟩
        have HN := Lib.hid hnew
        clear hnew hall q4 f4 n4 k0
        go_roundw
        case rel => exact HN.out
        case measure => simp [intOf]; have := HKL.out; omega
      | false =>
        have hmu := mayUB_no.1 hm
        rw [mayE_no hmu] at HP
        have HM := Lib.hid hm
        clear hm hmu
        go_wp2_with (first
          | ((with_reducible (show wpList _ _ _ (Oper.mk _ (Op.load 28 _) _ _ _ _ :: _) _ _)); refine wpList_load_g (by rfl) 28 _ rfl _ rfl G2.out.gets.all ?_)
          | (go_at_call 16; refine HP.out.mono ?_; rintro r w3 ⟨pa, pcap, psp, rfl, po, f3, _⟩; have F3 := Lib.hid f3; clear po f3))
        obtain ⟨q, sp, qq, hh, hp, ff, hbl⟩ := HQ.out
        have hnew : QdRel l w g (.int .i64 ((k : Int) + 1)) w3 := ⟨k + 1, qv, by go_num, HKL.out, q, sp, qq.keep0 (F12.out.trans F3.out (by simp)), hh, by rw [HT.out, entsU_no HM.out]; exact hp, F2.out.trans F3.out (by simp), hbl⟩
        have HN := Lib.hid hnew
        clear hnew hh hp hbl qq ff
        go_roundw
        case rel => exact HN.out
        case measure => simp [intOf]; have := HKL.out; omega
    · obtain rfl : k = l.length := by omega
      rw [List.take_length] at hq
      have HQ := Lib.hid hq
      clear hq
      go_wp2_with fail
      go_ret
      exact ⟨g, qv, rfl, HGE.out, HQ.out⟩
end Go.Proofs.YtjdejhgfkjeeiaaGreatDoor
