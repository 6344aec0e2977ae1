/-
  Contract of told. No conditions but those that each theorem names. Contract of queued. No conditions but those that each theorem names. Contract of Best. No conditions but those that each theorem names. The walk of Best. No conditions but those that each theorem names.
-/
import Derived.Test.YtjdejhgfkjeeiaaGreatDoorMA1
import Derived.Test.YtjdejhgfkjeeiaaGreatDoorVA
namespace Go.Proofs.YtjdejhgfkjeeiaaGreatDoor
open Go.RowKit
set_option linter.unusedVariables false
set_option linter.unusedSimpArgs false
set_option maxRecDepth 100000

open Pt (Pt may enc readPt readE zeroPt pc pv PtV SlA OwnA)
open Kr (OwnE SlE Enco RowTys)
/-- What is told of a sector: its uberblock, its list new. -/
def ToldP (b : List UInt8) (w : World) (r : Ending) (w' : World) : Prop := ∃ a cap sp, r = .returned (uv (.slice a (unp b).1.root.ads.length cap) (unp b).1) ∧ OwnA 47 w' (.slice a (unp b).1.root.ads.length cap) (unp b).1.root.ads sp ∧ Frm [] w w' ∧ ∀ i ∈ blk (.slice a (unp b).1.root.ads.length cap), w.heap.size ≤ i
theorem exec_convS {o : Oper} {a : Act} {w w' : World} {x : Operand} {s : ByteArray} {r : Value} (ho : o.op = .convert 9 32 x) (hx : a.eval x = .string s) (h : (convert 9 32 (.string s)).run Tryz.prog w = .ok r w') : (execOp a.eval o).run Tryz.prog w = .ok (.value r) w' := by
  simp [execOp, ho, hx, h, Result.andThen]
set_option maxHeartbeats 4000000 in
theorem told_any {s0 s1 s2 : Addr} (x : En) (w : World) (hs : Sens w s0 s1 s2) (hG : Hs.Glob w) (hl : x.2.length ≤ 1000000) : Calls Tryz.prog 88 #[vEn x] w (ToldP x.2 w) := by
  obtain ⟨x1, b⟩ := x
  have hl : b.length ≤ 1000000 := hl
  have HL := Lib.hid hl
  have HU := Lib.hid (fun v sp W (f : Frm [] w W) (hS : SlB W v b sp) => Unpack_own v b sp W hS hl (hs.keep0 f) (hG.keep f (by simp)))
  unfold UnpO at HU
  have hwf := unp_wf b
  have HP : ToldP b w = fun r w' => ∃ a cap sp, r = .returned (uv (.slice a (unp b).1.root.ads.length cap) (unp b).1) ∧ OwnA 47 w' (.slice a (unp b).1.root.ads.length cap) (unp b).1.root.ads sp ∧ Frm [] w w' ∧ ∀ i ∈ blk (.slice a (unp b).1.root.ads.length cap), w.heap.size ≤ i := rfl
  simp only
  rw [HP]
  clear HP hs hG hl
  generalize (unp b).1 = u at *
  generalize (unp b).2 = e at *
  have HC := Lib.hid (fun W => conv_str W b HL.out)
  unfold vEn
  simp only
  generalize hsb : sB b = S at *
  clear hsb
  have hA := heap_alloc_new w (.cells #[.int .i64 x1, .string S] 118)
  have f0 : Frm [] w (w.alloc (.cells #[.int .i64 x1, .string S] 118)) := (Frm.refl [] w).alloc _
  have f1 : Frm [] (w.alloc (.cells #[.int .i64 x1, .string S] 118)) ((w.alloc (.cells #[.int .i64 x1, .string S] 118)).alloc (.cells (uc nilS zeroU).toArray 28)) := (Frm.refl [] _).alloc _
  have B0 := Lib.hid (UB.new (w.alloc (.cells #[.int .i64 x1, .string S] 118)) nilS zeroU_wf)
  have hb := f1.heap hA (by simp)
  have F1 := Lib.hid (f0.trans f1 (by simp))
  go_enter Tryz.func88, Tryz.ntmps88
  go_upto_region 1 with ((with_reducible (show wpList _ _ _ (Oper.mk _ (Op.alloc 28) _ _ _ _ :: _) _ _)); refine wpList_val rfl (exec_alloc28 rfl _) ?_)
  have k0 : ((w.alloc (.cells #[.int .i64 x1, .string S] 118)).alloc (.cells (uc nilS zeroU).toArray 28)).cell? ⟨w.heap.size, 1, none⟩ = some (.string S) := by rw [cell_of_heap hb]; rfl
  have HZ := Lib.hid (show w.heap.size < (w.alloc (.cells #[.int .i64 x1, .string S] 118)).heap.size by simp)
  clear hA hb f0 f1
  generalize (w.alloc (.cells #[.int .i64 x1, .string S] 118)).alloc (.cells (uc nilS zeroU).toArray 28) = W1 at *
  generalize (w.alloc (.cells #[.int .i64 x1, .string S] 118)).heap.size = n1 at *
  obtain ⟨W2, cap2, sp2, hc2, hs2, hf2⟩ := HC.out W1
  have HC2 := Lib.hid hc2
  have HS2 := Lib.hid hs2
  have F2 := Lib.hid (F1.out.trans hf2 (by simp))
  have FX := Lib.hid hf2
  have hn1 : ¬ n1 = w.heap.size := by have := HZ.out; omega
  clear hc2 hs2 hf2 HC
  go_upto_region 2 with (first
    | ((with_reducible (show wpList _ _ _ (Oper.mk _ (Op.convert 9 32 _) _ _ _ _ :: _) _ _)); refine wpList_val rfl (exec_convS rfl rfl HC2.out) ?_)
    | ((with_reducible (show wpList _ _ _ (Oper.mk _ (Op.alloc 28) _ _ _ _ :: _) _ _)); refine wpList_lay28 rfl rfl rfl _ _ rfl (v := .slice ya u.root.ads.length yc) rfl (u := u) hwf rfl rfl ?_)
    | (go_at_call 26; refine (HU.out _ _ _ F2.out HS2.out).mono ?_; rintro r w3 ⟨ya, yc, ysp, rfl, oy, f3, n3⟩))
  have hylt := oy.lt
  have f4 : Frm [] w3 (w3.alloc (.cells (uc (.slice ya u.root.ads.length yc) u).toArray 28)) := (Frm.refl [] w3).alloc _
  have G4 := Lib.hid (UB.new w3 (.slice ya u.root.ads.length yc) hwf)
  have B4 := Lib.hid (B0.out.keep0 ((FX.out.trans f3 (by simp)).trans f4 (by simp)))
  have OY := Lib.hid (oy.keep f4 (by simp))
  have F4 := Lib.hid ((F2.out.trans f3 (by simp)).trans f4 (by simp))
  have HN := Lib.hid (show ∀ i ∈ blk (.slice ya u.root.ads.length yc), w.heap.size ≤ i ∧ ¬ i = n1 from fun i hi => by
    have h1 := n3 i hi
    have h2 := F2.out.size
    have h3 := (B0.out.keep0 FX.out).lt
    exact ⟨by omega, by omega⟩)
  clear f4 oy f3 n3 hylt k0
  generalize w3.alloc (.cells (uc (.slice ya u.root.ads.length yc) u).toArray 28) = W4 at *
  generalize w3.heap.size = L4 at *
  have HW := Lib.hid hwf
  go_wp2_with (first
    | ((with_reducible (show wpList _ _ _ (Oper.mk _ (Op.load 28 _) _ _ _ _ :: _) _ _)); refine wpList_load_g (by rfl) 28 _ rfl _ rfl G4.out.gets.all ?_)
    | ((with_reducible (show wpList _ _ _ (Oper.mk _ (Op.store 28 _ _) _ _ _ _ :: _) _ _)); refine wpList_store28 rfl _ _ rfl rfl B4.out HW.out rfl rfl ?_; intro V B5 F5))
  refine bodyPost_ret (v := uv (.slice ya u.root.ads.length yc) u) (results_cell_row (p := 2) rfl _ _ n1 28 _ (0, 0) _ rfl B5.1 Tryz.underlying28 rfl (by rw [i28, List.size_toArray, uc_length HW.out])) rfl ?_
  exact ⟨ya, yc, ysp, rfl, OY.out.keep F5 (fun i hi => by have := (HN.out i hi).2; simpa using this), F4.out.trans F5 (fun i hi => by simp at hi; subst hi; exact .inr (by have := HZ.out; omega)), fun i hi => (HN.out i hi).1⟩
end Go.Proofs.YtjdejhgfkjeeiaaGreatDoor

namespace Go.Proofs.YtjdejhgfkjeeiaaGreatDoor
open Go.RowKit
set_option linter.unusedVariables false
set_option linter.unusedSimpArgs false
set_option maxRecDepth 100000

open Pt (Pt may enc readPt readE zeroPt pc pv PtV SlA OwnA)
open Kr (OwnE SlE Enco RowTys)
/-- The entries of those that may be. -/
def entsU (l : List Ub) : List En := (l.filter mayUB).map entU
theorem entsU_yes {l : List Ub} {u : Ub} (h : mayUB u = true) : entsU (l ++ [u]) = entsU l ++ [entU u] := by simp [entsU, h]
theorem entsU_no {l : List Ub} {u : Ub} (h : mayUB u = false) : entsU (l ++ [u]) = entsU l := by simp [entsU, h]
theorem entsU_len (l : List Ub) : (entsU l).length ≤ l.length := by simp only [entsU, List.length_map]; exact List.length_filter_le _ _
/-- No list that is too long to be gone through. -/
def Fits (l : List Ub) : Prop := l.length ≤ 1000 ∧ ∀ u ∈ l, u.root.ads.length ≤ 1000000
/-- A queue of a list's entries, made since a world. -/
def Qd (l : List Ub) (w : World) (g : Nat) (qv : Value) (wr : World) : Prop := ∃ q sp, Qu wr g qv q sp ∧ Heap q ∧ q.Perm (entsU l) ∧ Frm [] w wr ∧ ∀ i ∈ blk qv, w.heap.size ≤ i
def QdRel (l : List Ub) (w : World) (g : Nat) (cv : Value) (wr : World) : Prop := ∃ (k : Nat) (qv : Value), cv = .int .i64 k ∧ k ≤ l.length ∧ Qd (l.take k) w g qv wr
def QueuedP (l : List Ub) (w : World) (r : Ending) (w' : World) : Prop := ∃ g qv, r = .returned (.pointer (some ⟨g, 0, none⟩)) ∧ w.heap.size ≤ g ∧ Qd l w g qv w'
theorem bld148 (W : World) : (Instr.buildSlice 148 0 #[]).run Tryz.prog W = .ok (.slice (some ⟨W.heap.size, 0, none⟩) 0 0) (W.alloc (.cells #[] 118)) := by kernel_rfl
theorem take_more {l : List Ub} {k : Nat} (h : k < l.length) : l.take (k + 1) = l.take k ++ [l[k]] := List.take_succ_eq_append_getElem h
theorem exec_conv9 {o : Oper} {a : Act} {w : World} {x : Operand} {v : Value} {l sp : List UInt8} (ho : o.op = .convert 32 9 x) (hx : a.eval x = v) (hS : SlB w v l sp) : (execOp a.eval o).run Tryz.prog w = .ok (.value (.string (sB l))) w := by
  have h := convert_bytes BT hS Tryz.underlying9
  simp [execOp, ho, hx, h, Result.andThen, sB]
set_option maxHeartbeats 8000000 in
theorem queued_any (v : Value) (l : List Ub) (w : World) (h : Us w v l) (hf : Fits l) (hG : Hs.Glob w) : Calls Tryz.prog 85 #[v] w (QueuedP l w) := by
  obtain ⟨a, cap, rfl⟩ := h.form
  have H := Lib.hid h
  have HF := Lib.hid hf
  have HG := Lib.hid hG
  have hl9 : (l.length : Int) ≤ 1000 := by have := hf.1; omega
  have hb := bld148
  clear h hf hG
  go_enter Tryz.func85, Tryz.ntmps85
  go_upto_region 2 with (fail)
  have hn0 := heap_alloc_new w (.cells #[] 118)
  have f1 : Frm [] w ((w.alloc (.cells #[] 118)).alloc (.cells #[.slice (some ⟨w.heap.size, 0, none⟩) 0 0] 148)) := ((Frm.refl [] w).alloc _).alloc _
  have q1 : Qu ((w.alloc (.cells #[] 118)).alloc (.cells #[.slice (some ⟨w.heap.size, 0, none⟩) 0 0] 148)) (w.heap.size + 1) (.slice (some ⟨w.heap.size, 0, none⟩) 0 0) [] [] := by
    refine ⟨heap_at (by simp), OwnE.of_heap EEn ?_ rfl (Nat.le_refl _) rfl (by simp [maxLen]), fun i hi => by simp [blk] at hi; omega⟩
    exact heap_alloc_lt hn0
  have hd : Qd [] w (w.heap.size + 1) (.slice (some ⟨w.heap.size, 0, none⟩) 0 0) ((w.alloc (.cells #[] 118)).alloc (.cells #[.slice (some ⟨w.heap.size, 0, none⟩) 0 0] 148)) :=
    ⟨[], [], q1, heap_nil, List.Perm.refl _, f1, fun i hi => by simp [blk] at hi; omega⟩
  have HD := Lib.hid hd
  have hg1 : w.heap.size ≤ w.heap.size + 1 := by omega
  clear hd q1 f1 hn0
  try simp only [World.size_alloc]
  generalize (w.alloc (.cells #[] 118)).alloc (.cells #[.slice (some ⟨w.heap.size, 0, none⟩) 0 0] 148) = W1 at *
  generalize hg : w.heap.size + 1 = g at *
  have HGE := Lib.hid hg1
  clear hg hg1
  go_wp2_with fail
  go_loopw [12] (QdRel l w g) (fun cv _ => l.length - (intOf cv).toNat)
  case atStart => exact ⟨0, _, rfl, by omega, HD.out⟩
  case round =>
    obtain ⟨k, qv, rfl, hk, hq⟩ := hrel
    by_cases hlt : k < l.length
    · have hlt' : (k : Int) < (l.length : Int) := by omega
      have hk9 : (k : Int) ≤ 1000 := by omega
      have HQ := Lib.hid hq
      have hfr : Frm [] w wr := by obtain ⟨_, _, _, _, _, f, _⟩ := hq; exact f
      have FR := Lib.hid hfr
      obtain ⟨b, off, cp, e⟩ := H.out.at (by omega)
      injection e with e1 e2 e3
      subst e1; subst e3
      obtain ⟨xa, xc, hld, hub, _, _⟩ := (H.out.keep0 hfr).load k hlt
      have hfu := HF.out.2 (l[k]) (List.getElem_mem _)
      have HT := Lib.hid (take_more hlt)
      have HUB := Lib.hid hub
      generalize l[k] = u at *
      have hwf := hub.wf
      have HLD := Lib.hid hld
      have HFU := Lib.hid hfu
      have HKL := Lib.hid hlt
      clear hq hfr hld hub hfu hlt
      go_upto_region 5 with (first
        | ((with_reducible (show wpList _ _ _ (Oper.mk _ (Op.load 28 _) _ _ _ _ :: _) _ _)); refine wpList_load_g (by rfl) 28 _ rfl _ rfl HLD.out ?_)
        | ((with_reducible (show wpList _ _ _ (Oper.mk _ (Op.alloc 28) _ _ _ _ :: _) _ _)); refine wpList_lay28 rfl rfl rfl _ _ rfl (v := .slice xa u.root.ads.length xc) rfl (u := u) hwf rfl rfl ?_))
      have f2 : Frm [] wr (wr.alloc (.cells (uc (.slice xa u.root.ads.length xc) u).toArray 28)) := (Frm.refl [] wr).alloc _
      have G2 := Lib.hid (UB.new wr (.slice xa u.root.ads.length xc) hwf)
      have F2 := Lib.hid (FR.out.trans f2 (by simp))
      have F12 := Lib.hid f2
      have HP := Lib.hid (Pack_any _ u _ (HUB.out.keep0 f2) HFU.out (HG.out.keep (FR.out.trans f2 (by simp)) (by simp)))
      unfold PackP at HP
      clear f2 HLD HUB
      generalize wr.alloc (.cells (uc (.slice xa u.root.ads.length xc) u).toArray 28) = W2 at *
      generalize wr.heap.size = n2 at *
      cases hm : mayUB u with
      | true =>
        have hmu := mayUB_iff.1 hm
        rw [mayE_yes hmu, packO_yes hmu] at HP
        have HM := Lib.hid hm
        have hpl := packU_length hwf hmu
        rw [hpl] at HP
        clear hm hmu
        go_upto_region 7 with (first
          | ((with_reducible (show wpList _ _ _ (Oper.mk _ (Op.load 28 _) _ _ _ _ :: _) _ _)); refine wpList_load_g (by rfl) 28 _ rfl _ rfl G2.out.gets.all ?_)
          | (go_at_call 16; refine HP.out.mono ?_; rintro r w3 ⟨pa, pcap, psp, rfl, po, f3, _⟩; have PO := Lib.hid po; have F3 := Lib.hid f3; clear po f3))
        have G3 := Lib.hid (G2.out.keep0 F3.out)
        have k0 := G3.out.gets.c0
        obtain ⟨q, sp, qq, hh, hp, ff, hbl⟩ := HQ.out
        have HH := Lib.hid hh
        have HPM := Lib.hid hp
        have HBL := Lib.hid hbl
        have Q3 := Lib.hid (qq.keep0 (F12.out.trans F3.out (by simp)))
        have FA := Lib.hid (F2.out.trans F3.out (by simp))
        have hql : q.length ≤ 1000 := by
          have h1 := hp.length_eq
          have h2 := entsU_len (l.take k)
          have h3 := HF.out.1
          rw [List.length_take] at h2
          omega
        have PX := Lib.hid (show SlB w3 (.slice pa 256 pcap) (packU u) psp from by have := PO.out.sl; exact this)
        have HPut := Lib.hid (putQ_any g qv q (entU u) sp w3 Q3.out (by omega))
        unfold vEn at HPut
        rw [show (entU u).1 = u.txg from rfl, show (entU u).2 = packU u from rfl] at HPut
        clear hh hp hbl qq ff hql hpl
        generalize hpu : packU u = P at *
        have HPU := Lib.hid hpu
        clear hpu
        generalize hS : sB P = S at *
        have HS := Lib.hid hS
        clear hS
        go_wp2_with (first
          | ((with_reducible (show wpList _ _ _ (Oper.mk _ (Op.convert 32 9 _) _ _ _ _ :: _) _ _)); refine wpList_val rfl (exec_conv9 rfl rfl PX.out) ?_; rw [HS.out])
          | (go_at_call 124; refine HPut.out.mono ?_; rintro r w4 ⟨rfl, v4, sp4, q4, f4, n4⟩))
        have hall := putQ_all (entU u) HH.out
        have hnew : QdRel l w g (.int .i64 ((k : Int) + 1)) w4 := ⟨k + 1, v4, by go_num, HKL.out, putQ q (entU u), sp4, q4, hall.2, by
          rw [HT.out, entsU_yes HM.out]
          exact hall.1.trans ((HPM.out.cons _).trans (List.perm_append_comm (l₁ := [entU u]))), FA.out.trans f4 (fun i hi => by
            rcases List.mem_cons.1 hi with rfl | hi
            · exact .inr HGE.out
            · exact .inr (HBL.out i hi)), fun i hi => by
            rcases n4 i hi with h | h
            · exact HBL.out i h
            · have := FA.out.size; omega⟩
        have HN := Lib.hid hnew
        clear hnew hall q4 f4 n4 k0
        go_roundw
        case rel => exact HN.out
        case measure => simp [intOf]; have := HKL.out; omega
      | false =>
        have hmu := mayUB_no.1 hm
        rw [mayE_no hmu] at HP
        have HM := Lib.hid hm
        clear hm hmu
        go_wp2_with (first
          | ((with_reducible (show wpList _ _ _ (Oper.mk _ (Op.load 28 _) _ _ _ _ :: _) _ _)); refine wpList_load_g (by rfl) 28 _ rfl _ rfl G2.out.gets.all ?_)
          | (go_at_call 16; refine HP.out.mono ?_; rintro r w3 ⟨pa, pcap, psp, rfl, po, f3, _⟩; have F3 := Lib.hid f3; clear po f3))
        obtain ⟨q, sp, qq, hh, hp, ff, hbl⟩ := HQ.out
        have hnew : QdRel l w g (.int .i64 ((k : Int) + 1)) w3 := ⟨k + 1, qv, by go_num, HKL.out, q, sp, qq.keep0 (F12.out.trans F3.out (by simp)), hh, by rw [HT.out, entsU_no HM.out]; exact hp, F2.out.trans F3.out (by simp), hbl⟩
        have HN := Lib.hid hnew
        clear hnew hh hp hbl qq ff
        go_roundw
        case rel => exact HN.out
        case measure => simp [intOf]; have := HKL.out; omega
    · obtain rfl : k = l.length := by omega
      rw [List.take_length] at hq
      have HQ := Lib.hid hq
      clear hq
      go_wp2_with fail
      go_ret
      exact ⟨g, qv, rfl, HGE.out, HQ.out⟩
end Go.Proofs.YtjdejhgfkjeeiaaGreatDoor

namespace Go.Proofs.YtjdejhgfkjeeiaaGreatDoor
open Go.RowKit
set_option linter.unusedVariables false
set_option linter.unusedSimpArgs false
set_option maxRecDepth 100000

open Pt (Pt may enc readPt readE zeroPt pc pv PtV SlA OwnA)
open Kr (OwnE SlE Enco RowTys)
def lastS (B : List En) : List UInt8 := match B.getLast? with
  | some e => e.2
  | none => []
theorem mem_entsU {l : List Ub} (hl : AllU l) {e : En} (h : e ∈ entsU l) : ∃ u, u ∈ l ∧ WfU u ∧ MayU u ∧ e = entU u := by
  obtain ⟨u, hu, rfl⟩ := List.mem_map.1 h
  obtain ⟨h1, h2⟩ := List.mem_filter.1 hu
  exact ⟨u, h1, hl u h1, mayUB_iff.1 h2, rfl⟩
theorem entsU_mem {l : List Ub} {u : Ub} (h : u ∈ l) (hm : MayU u) : entU u ∈ entsU l := List.mem_map.2 ⟨u, List.mem_filter.2 ⟨h, mayUB_iff.2 hm⟩, rfl⟩
theorem took_last {l : List Ub} {B q : List En} (hl : AllU l) (h : Took (entsU l) B q) (h0 : 0 < q.length) : ∃ u, u ∈ l ∧ WfU u ∧ MayU u ∧ en q 0 = entU u ∧ (packU u = lastS B → en q 0 ∈ B) ∧ (packU u ≠ lastS B → ∀ b, B.getLast? = some b → en q 0 ≠ b) := by
  obtain ⟨u, hu, wu, mu, he⟩ := mem_entsU hl (h.first h0)
  refine ⟨u, hu, wu, mu, he, fun hp => ?_, fun hp b hb e => ?_⟩
  · unfold lastS at hp
    cases hg : B.getLast? with
    | none =>
      rw [hg] at hp
      have := packU_length wu mu
      rw [hp] at this
      simp at this
    | some c =>
      rw [hg] at hp
      have hc := List.mem_of_getLast? hg
      obtain ⟨u2, hu2, wu2, mu2, he2⟩ := mem_entsU hl ((h.mem c).2 (.inr hc))
      have : u = u2 := by
        rw [he2] at hp
        have hp2 : packU u = packU u2 := hp
        rw [← parse_pack wu mu, ← parse_pack wu2 mu2, hp2]
      subst this
      rw [he, ← he2]; exact hc
  · apply hp
    unfold lastS
    rw [hb, ← e, he]
    rfl
/-- How the telling of the newest stands. -/
structure Bs (l : List Ub) (w : World) (g : Nat) (v : Value) (S : Value) (wr : World) (qv : Value) (q : List En) (sp : List Value) (m : List Ub) (rs : List RowT) (Bl : List Nat) : Prop where
  qu : Qu wr g qv q sp
  took : Took (entsU l) (m.map entU) q
  may : ∀ u ∈ m, WfU u ∧ MayU u
  tl : Tl w wr v m rs Bl
  dis : ∀ i ∈ g :: blk qv, i ∉ Bl ∧ w.heap.size ≤ i
  last : S = .string (sB (lastS (m.map entU)))
  frm : Frm [] w wr
  qn : m.length + q.length ≤ 1000
def BsRel (l : List Ub) (w : World) (g : Nat) (v S : Value) (wr : World) : Prop := ∃ qv q sp m rs Bl, Bs l w g v S wr qv q sp m rs Bl
def mQ (g : Nat) (wr : World) : Nat := match wr.cell? ⟨g, 0, none⟩ with
  | some (.slice _ n _) => n
  | _ => 0
theorem mQ_eq {g : Nat} {w : World} {v : Value} {l : List En} {sp : List Value} (h : Qu w g v l sp) : mQ g w = l.length := by
  obtain ⟨a, cap, e⟩ := h.form
  unfold mQ
  rw [h.cell, e]
theorem Bs.best {l : List Ub} {w : World} {g : Nat} {v S : Value} {wr : World} {qv : Value} {sp : List Value} {m : List Ub} {rs : List RowT} {Bl : List Nat} (hl : AllU l) (h : Bs l w g v S wr qv [] sp m rs Bl) : m = bestU l := by
  obtain ⟨h1, h2⟩ := h.took.done
  refine Best.eq hl ⟨h1, fun x => ⟨fun hx => ?_, fun ⟨hx, hm⟩ => ?_⟩⟩
  · obtain ⟨u, hu, wu, mu, he⟩ := mem_entsU hl ((h2 _).1 (List.mem_map.2 ⟨x, hx, rfl⟩))
    have := entU_inj (h.may x hx).1 (h.may x hx).2 wu mu he
    subst this
    exact ⟨hu, mu⟩
  · obtain ⟨y, hy, he⟩ := List.mem_map.1 ((h2 _).2 (entsU_mem hx hm))
    have := entU_inj (h.may y hy).1 (h.may y hy).2 (hl x hx) hm he
    subst this
    exact hy
theorem Qu.keep {w w' : World} {g : Nat} {v : Value} {l : List En} {sp : List Value} {L : List Nat} (h : Qu w g v l sp) (f : Frm L w w') (hL : ∀ i ∈ L, i ≠ g ∧ i ∉ blk v) : Qu w' g v l sp :=
  ⟨f.heap h.box (fun hm => (hL g hm).1 rfl), h.own.keep f (fun k hk hm => (hL k hm).2 hk), h.ne⟩
/-- One uberblock more behind those that were told. -/
theorem wpList_tl {ops : Array Oper} {rest : List Oper} {o1 o2 : Oper} {a : Act} {Q : Exit → Act → World → Prop} {w0 w : World} {v : Value} {l : List Ub} {rs : List RowT} {B : List Nat} {x : RowT} {u : Ub} (h : Tl w0 w v l rs B) (hb : l.length ≤ 1000000)
    (hx : RowO w x u) (hxn : ∀ k ∈ rb x, k ∉ B) (hx0 : ∀ k ∈ rb x, w0.heap.size ≤ k) (h0 : w0.heap.size ≤ w.heap.size)
    (g1 : o1.guard = none) (g2 : o2.guard = none) (p s y : Operand) (d : Nat) (hd : o1.dst = some d) (h1 : o1.op = .buildSlice 30 1 #[(0, p)]) (h2 : o2.op = Op.call { callee := Callee.builtin Builtin.append, args := #[s, y], argTypes := #[30, 30] })
    (ep : a.eval p = .agg x.1.toArray) (es : (a.put (some d) (.slice (some ⟨w.heap.size, 0, none⟩) 1 1)).eval s = v) (ey : (a.put (some d) (.slice (some ⟨w.heap.size, 0, none⟩) 1 1)).eval y = .slice (some ⟨w.heap.size, 0, none⟩) 1 1)
    (kk : ∀ a' cap' w', Tl w0 w' (.slice a' (l.length + 1) cap') (l ++ [u]) (rs ++ [x]) (rb x ++ blk (.slice a' (l.length + 1) cap') ++ B) → Frm (blk v) w w' → (∀ i ∈ blk (.slice a' (l.length + 1) cap'), i ∈ blk v ∨ w.heap.size ≤ i) → wpList Tryz.prog ops Q rest ((a.put (some d) (.slice (some ⟨w.heap.size, 0, none⟩) 1 1)).put o2.dst (.slice a' (l.length + 1) cap')) w') :
    wpList Tryz.prog ops Q (o1 :: o2 :: rest) a w := by
  obtain ⟨spv, ho⟩ := h.own
  have hrl := h.len
  refine Great.wpList_buildSliceTo g1 30 28 1 #[(0, p)] h1 w.heap.size rfl (some d) hd Tryz.underlying30 x.1.toArray (by simp only [List.map_toArray, List.map_cons, List.map_nil, ep]; exact built28 x.2.1) ?_
  have f1 : Frm [] w (w.alloc (.cells x.1.toArray 28)) := (Frm.refl [] w).alloc _
  have hS : SlE eR 69 (w.alloc (.cells x.1.toArray 28)) (.slice (some ⟨w.heap.size, 0, none⟩) 1 1) [x] [] := Kr.SlE.of_block (T := 28) encR (by rw [Kr.flt_one]; exact heap_alloc_new _ _) rfl (by decide)
  refine Kr.wpList_append_e encR tysU (ho.keep0 f1) hS (by simp; omega) (by decide) g2 s y h2 es ey ?_
  intro a2 cap2 w2 sp2 o2' f2 n2
  rw [show rs.length + [x].length = l.length + 1 by simp [hrl]] at o2' n2 ⊢
  have f12 : Frm (blk v) w w2 := (f1.mono (by simp)).trans f2 (fun i hi => .inl hi)
  have n3 : ∀ i ∈ blk (.slice a2 (l.length + 1) cap2), i ∈ blk v ∨ w.heap.size ≤ i := fun i hi => by
    rcases n2 i hi with h | h
    · exact .inl h
    · simp at h; exact .inr (by omega)
  exact kk a2 cap2 w2 (h.more f12 o2' n3 hx hxn hx0 h0) f12 n3
end Go.Proofs.YtjdejhgfkjeeiaaGreatDoor

namespace Go.Proofs.YtjdejhgfkjeeiaaGreatDoor
open Go.RowKit
set_option linter.unusedVariables false
set_option linter.unusedSimpArgs false
set_option maxRecDepth 100000

open Pt (Pt may enc readPt readE zeroPt pc pv PtV SlA OwnA)
open Kr (OwnE SlE Enco RowTys)
/-- What Best tells: the newest, each once, all new memory. -/
def BestP (l : List Ub) (w : World) (r : Ending) (w' : World) : Prop := ∃ v rs B, r = .returned v ∧ Tl w w' v (bestU l) rs B ∧ Frm [] w w'
set_option maxHeartbeats 8000000 in
theorem Best_any {s0 s1 s2 : Addr} (v : Value) (l : List Ub) (w : World) (h : Us w v l) (hf : Fits l) (hs : Sens w s0 s1 s2) (hG : Hs.Glob w) : Calls Tryz.prog 45 #[v] w (BestP l w) := by
  obtain ⟨a, cap, rfl⟩ := h.form
  have HWF := Lib.hid h.wf
  have HQ := Lib.hid (queued_any _ l w h hf hG)
  have HTO := Lib.hid (fun (x : En) W (f : Frm [] w W) (hl : x.2.length ≤ 1000000) => told_any x W (hs.keep0 f) (hG.keep f (by simp)) hl)
  have HF := Lib.hid hf
  clear h hf hs hG
  unfold QueuedP at HQ
  go_enter Tryz.func45, Tryz.ntmps45
  go_wp2_with (go_at_call 85; refine HQ.out.mono ?_; rintro r w1 ⟨g, qv, rfl, hg, q, sp, hq, hh, hp, f1, hb⟩)
  have htl : Tl w w1 (.slice none 0 0) [] [] [] := ⟨⟨[], OwnE.nil _ _ _ _⟩, rfl, fun i r u h => by simp at h, fun i j r s _ h => by simp at h, fun i r h => by simp at h, (by simp [blk]), fun i r h => by simp at h, fun k h => by simp at h⟩
  have hqn : q.length ≤ 1000 := by
    have h1 := hp.length_eq
    have h2 := entsU_len l
    have h3 := HF.out.1
    omega
  have hdis : ∀ i ∈ g :: blk qv, i ∉ ([] : List Nat) ∧ w.heap.size ≤ i := fun i hi => ⟨by simp, by
    rcases List.mem_cons.1 hi with e | hi
    · rw [e]; exact hg
    · exact hb i hi⟩
  have hst : BsRel l w g (.slice none 0 0) (.string (sB [])) w1 := ⟨qv, q, sp, [], [], [], ⟨hq, Took.start hh hp, (fun u hu => by cases hu), htl, hdis, rfl, f1, by simpa using hqn⟩⟩
  have HST := Lib.hid hst
  clear hst hq hh hp f1 hb HQ htl hqn hdis
  go_loopw [3, 4] (BsRel l w g) (fun _ _ wr => mQ g wr)
  case atStart => exact HST.out
  case round =>
    obtain ⟨qv, q, sp, m, rs, Bl, hb⟩ := hrel
    obtain rfl := hb.last
    obtain ⟨aq, cq, rfl⟩ := hb.qu.form
    have c0 := hb.qu.cell
    have HB := Lib.hid hb
    have HM := Lib.hid (mQ_eq hb.qu)
    by_cases h0 : q.length = 0
    · obtain rfl : q = [] := List.eq_nil_of_length_eq_zero h0
      have hm := hb.best HWF.out
      clear hb h0
      go_wp2_with (go_at_call 86; refine (Len_any _ _ _ _).mono ?_; rintro r w2 ⟨rfl, hw2⟩; obtain rfl := hw2.symm)
      go_ret
      exact ⟨_, rs, Bl, rfl, by rw [← hm]; exact HB.out.tl, HB.out.frm⟩
    · have hq0 : (0 : Int) < (q.length : Int) := by omega
      obtain ⟨u, hu, wu, mu, he, hin, hnot⟩ := took_last HWF.out hb.took (by omega)
      have hql : q.length ≤ 1000000 := by have := hb.qn; omega
      have HT := Lib.hid (takeQ_any g _ q sp wr hb.qu (by omega) hql)
      rw [he] at HT
      have HIN := Lib.hid hin
      have HNOT := Lib.hid hnot
      have HE := Lib.hid he
      have HU := Lib.hid (And.intro hu (And.intro wu mu))
      clear hb hin hnot he hu wu mu hql
      unfold vEn at HT
      rw [show (entU u).1 = u.txg from rfl, show (entU u).2 = packU u from rfl] at HT
      go_upto_region 6 with (first
        | (go_at_call 86; refine (Len_any _ _ _ _).mono ?_; rintro r w2 ⟨rfl, hw2⟩; obtain rfl := hw2.symm)
        | (go_at_call 87; refine HT.out.mono ?_; rintro r w2 ⟨rfl, v2, sp2, q2, f2, n2⟩))
      have FT := Lib.hid f2
      have Q2 := Lib.hid q2
      have N2 := Lib.hid n2
      have f3 : Frm [] w2 (w2.alloc (.cells #[.int .i64 u.txg, .string (sB (packU u))] 118)) := (Frm.refl [] w2).alloc _
      have F3 := Lib.hid f3
      have hn3 := heap_alloc_new w2 (.cells #[.int .i64 u.txg, .string (sB (packU u))] 118)
      have HN3 := Lib.hid hn3
      clear q2 f2 n2 f3 hn3 c0
      generalize w2.alloc (.cells #[.int .i64 u.txg, .string (sB (packU u))] 118) = W3 at *
      generalize hn3 : w2.heap.size = n3 at *
      have HZ3 := Lib.hid hn3
      clear hn3
      generalize hS1 : sB (packU u) = S1 at *
      generalize hS2 : sB (lastS (m.map entU)) = S2 at *
      have e0 : W3.cell? ⟨n3, 0, none⟩ = some (.int .i64 u.txg) := by rw [cell_of_heap HN3.out]; rfl
      have e1 : W3.cell? ⟨n3, 1, none⟩ = some (.string S1) := by rw [cell_of_heap HN3.out]; rfl
      have HS1 := Lib.hid hS1
      have HS2 := Lib.hid hS2
      clear hS1 hS2
      obtain ⟨bq, hbq⟩ : ∃ bq, (S1.toList == S2.toList) = bq := ⟨_, rfl⟩
      have HBQ := Lib.hid (show (packU u == lastS (m.map entU)) = bq by rw [← hbq, ← HS1.out, ← HS2.out, ByteArray.toList_eq, ByteArray.toList_eq, sB_list, sB_list])
      have FT0 := Lib.hid (HB.out.frm.trans FT.out (fun i hi => .inr (HB.out.dis i hi).2))
      have TL2 := Lib.hid ((HB.out.tl.keep FT.out (fun i hi => (HB.out.dis i hi).1)).keep0 F3.out)
      have Q3 := Lib.hid (Q2.out.keep0 F3.out)
      have F03 := Lib.hid (FT0.out.trans F3.out (by simp))
      have D3 := Lib.hid (show ∀ i ∈ g :: blk v2, i ∉ Bl ∧ w.heap.size ≤ i ∧ i < w2.heap.size from fun i hi => by
        rcases List.mem_cons.1 hi with e | hi
        · subst e; exact ⟨(HB.out.dis i (by simp)).1, (HB.out.dis i (by simp)).2, Q2.out.lt⟩
        · have hlt := Q2.out.own.lt i hi
          rcases N2.out i hi with h | h
          · have := HB.out.dis i (List.mem_cons_of_mem _ h); exact ⟨this.1, this.2, hlt⟩
          · exact ⟨fun hm => by have := (HB.out.tl.lo i hm).2; omega, by have := HB.out.frm.size; omega, hlt⟩)
      have QN := Lib.hid (show m.length + (takeQ q).length + 1 ≤ 1000 by have h1 := (takeQ_all HB.out.took.heap (by omega)).2.2; have := HB.out.qn; omega)
      have MS := Lib.hid (show (takeQ q).length < q.length by have h1 := (takeQ_all HB.out.took.heap (by omega)).2.2; omega)
      have HQ0 := Lib.hid (show 0 < q.length by omega)
      cases bq with
      | true =>
        have hpe : packU u = lastS (m.map entU) := by have := HBQ.out; simpa using this
        have HRL := Lib.hid (show BsRel l w g u3 (.string S2) W3 from ⟨v2, takeQ q, sp2, m, rs, Bl, ⟨Q3.out, HB.out.took.same HQ0.out (HIN.out hpe), HB.out.may, TL2.out, fun i hi => ⟨(D3.out i hi).1, (D3.out i hi).2.1⟩, by rw [HS2.out], F03.out, by have := QN.out; omega⟩⟩)
        clear hpe
        go_wp2_with fail
        go_roundw
        case rel => exact HRL.out
        case measure =>
          rw [mQ_eq Q3.out, HM.out]
          exact MS.out
      | false =>
        have hpe : packU u ≠ lastS (m.map entU) := by have := HBQ.out; simpa using this
        have HTK := Lib.hid (HB.out.took.more HQ0.out (HNOT.out hpe))
        have HT2 := Lib.hid (HTO.out (u.txg, packU u) W3 F03.out (by rw [show (u.txg, packU u).2 = packU u from rfl, packU_length HU.out.2.1 HU.out.2.2]; omega))
        unfold vEn ToldP at HT2
        rw [show (u.txg, packU u).1 = u.txg from rfl, show (u.txg, packU u).2 = packU u from rfl, unp_pack HU.out.2.1 HU.out.2.2, HS1.out] at HT2
        simp only at HT2
        have hwu := HU.out.2.1
        have HSZ := Lib.hid (show w.heap.size ≤ W3.heap.size from F03.out.size)
        have HML := Lib.hid (show m.length ≤ 1000000 by have := QN.out; omega)
        clear hpe
        go_upto_region 8 with (first
          | (go_at_call 88; refine HT2.out.mono ?_; rintro r w4 ⟨ya, yc, ysp, rfl, oy, f4, n4⟩)
          | ((with_reducible (show wpList _ _ _ (Oper.mk _ (Op.buildSlice 30 1 _) _ _ _ _ :: _ :: _) _ _)); refine wpList_tl (x := rowU (.slice ya u.root.ads.length yc) rfl u hwu) (u := u) (TL2.out.keep0 f4) HML.out ⟨ya, yc, ysp, rfl, oy, hwu⟩ (fun k hk hm => by have h1 := n4 k hk; have h2 := (TL2.out.lo k hm).2; omega) (fun k hk => by have h1 := n4 k hk; have h2 := HSZ.out; omega) (by have := f4.size; have := HSZ.out; omega) rfl rfl _ _ _ _ rfl rfl rfl rfl rfl rfl ?_; intro a5 c5 w5 tl5 f5 n5; have F4 := Lib.hid f4; have N4 := Lib.hid n4; clear oy f4 n4))
        have hz3 := HZ3.out
        have hz23 := F3.out.size
        have hu3 : ∀ i ∈ blk u3, i ∈ Bl ∧ i < n3 := fun i hi => ⟨HB.out.tl.inv i hi, by have h1 := (HB.out.tl.lo i (HB.out.tl.inv i hi)).2; have h2 := FT.out.size; omega⟩
        have k1 := f5.cell (F4.out.cell e1 (by simp)) (fun hm => by have := (hu3 n3 hm).2; omega)
        have q5 := (Q3.out.keep0 F4.out).keep f5 (fun i hi => ⟨fun e => (D3.out g (by simp)).1 (e ▸ (hu3 i hi).1), fun hm => (D3.out i (List.mem_cons_of_mem _ hm)).1 (hu3 i hi).1⟩)
        have hrel : BsRel l w g (.slice a5 (m.length + 1) c5) (.string S1) w5 := by
          refine ⟨v2, takeQ q, sp2, m ++ [u], _, _, ⟨q5, ?_, fun x hx => ?_, tl5, fun i hi => ⟨fun hm => ?_, (D3.out i hi).2.1⟩, ?_, ?_, ?_⟩⟩
          · rw [List.map_append, List.map_cons, List.map_nil, ← HE.out]; exact HTK.out
          · rcases List.mem_append.1 hx with hx | hx
            · exact HB.out.may x hx
            · simp at hx; subst hx; exact HU.out.2
          · have hd := D3.out i hi
            have hz4 := F4.out.size
            rcases List.mem_append.1 hm with hm | hm
            · rcases List.mem_append.1 hm with hm | hm
              · have := N4.out i hm; omega
              · rcases n5 i hm with h | h
                · exact hd.1 (hu3 i h).1
                · omega
            · exact hd.1 hm
          · rw [List.map_append, List.map_cons, List.map_nil, ← HS1.out]
            unfold lastS
            rw [List.getLast?_append]
            rfl
          · exact (F03.out.trans F4.out (by simp)).trans f5 (fun i hi => .inr (HB.out.tl.lo i (hu3 i hi).1).1)
          · have := QN.out; simp; omega
        have HRL := Lib.hid hrel
        have HMQ := Lib.hid (mQ_eq q5)
        clear hrel q5 tl5 f5 n5 hu3 hz3 hz23
        go_wp2_with fail
        go_roundw
        case rel => exact HRL.out
        case measure =>
          rw [HMQ.out, HM.out]
          exact MS.out
end Go.Proofs.YtjdejhgfkjeeiaaGreatDoor
