/-
  The walk of Best. No conditions but those that each theorem names.
-/
import Derived.Test.YtjdejhgfkjeeiaaGreatDoorGO
namespace Go.Proofs.YtjdejhgfkjeeiaaGreatDoor
open Go.RowKit
set_option linter.unusedVariables false
set_option linter.unusedSimpArgs false
set_option maxRecDepth 100000

open Pt (Pt may enc readPt readE zeroPt pc pv PtV SlA OwnA)
open Kr (OwnE SlE Enco RowTys)
/-- What Best tells: the newest, each once, all new memory. -/
def BestP (l : List Ub) (w : World) (r : Ending) (w' : World) : Prop := ∃ v rs B, r = .returned v ∧ Tl w w' v (bestU l) rs B ∧ Frm [] w w'
set_option maxHeartbeats 8000000 in
theorem Best_any {s0 s1 s2 : Addr} (v : Value) (l : List Ub) (w : World) (h : Us w v l) (hf : Fits l) (hs : Sens w s0 s1 s2) (hG : Hs.Glob w) : Calls Tryz.prog 45 #[v] w (BestP l w) := by
  obtain ⟨a, cap, rfl⟩ := h.form
  have HWF := Lib.hid h.wf
  have HQ := Lib.hid (queued_any _ l w h hf hG)
  have HTO := Lib.hid (fun (x : En) W (f : Frm [] w W) (hl : x.2.length ≤ 1000000) => told_any x W (hs.keep0 f) (hG.keep f (by simp)) hl)
  have HF := Lib.hid hf
  clear h hf hs hG
  unfold QueuedP at HQ
  go_enter Tryz.func45, Tryz.ntmps45
  go_wp2_with (go_at_call 85; refine HQ.out.mono ?_; rintro r w1 ⟨g, qv, rfl, hg, q, sp, hq, hh, hp, f1, hb⟩)
  have htl : Tl w w1 (.slice none 0 0) [] [] [] := ⟨⟨[], OwnE.nil _ _ _ _⟩, rfl, fun i r u h => by simp at h, fun i j r s _ h => by simp at h, fun i r h => by simp at h, (by simp [blk]), fun i r h => by simp at h, fun k h => by simp at h⟩
  have hqn : q.length ≤ 1000 := by
    have h1 := hp.length_eq
    have h2 := entsU_len l
    have h3 := HF.out.1
    omega
  have hdis : ∀ i ∈ g :: blk qv, i ∉ ([] : List Nat) ∧ w.heap.size ≤ i := fun i hi => ⟨by simp, by
    rcases List.mem_cons.1 hi with e | hi
    · rw [e]; exact hg
    · exact hb i hi⟩
  have hst : BsRel l w g (.slice none 0 0) (.string (sB [])) w1 := ⟨qv, q, sp, [], [], [], ⟨hq, Took.start hh hp, (fun u hu => by cases hu), htl, hdis, rfl, f1, by simpa using hqn⟩⟩
  have HST := Lib.hid hst
  clear hst hq hh hp f1 hb HQ htl hqn hdis
  go_loopw [3, 4] (BsRel l w g) (fun _ _ wr => mQ g wr)
  case atStart => exact HST.out
  case round =>
    obtain ⟨qv, q, sp, m, rs, Bl, hb⟩ := hrel
    obtain rfl := hb.last
    obtain ⟨aq, cq, rfl⟩ := hb.qu.form
    have c0 := hb.qu.cell
    have HB := Lib.hid hb
    have HM := Lib.hid (mQ_eq hb.qu)
    by_cases h0 : q.length = 0
    · obtain rfl : q = [] := List.eq_nil_of_length_eq_zero h0
      have hm := hb.best HWF.out
      clear hb h0
      go_wp2_with (go_at_call 86; refine (Len_any _ _ _ _).mono ?_; rintro r w2 ⟨rfl, hw2⟩; obtain rfl := hw2.symm)
      go_ret
      exact ⟨_, rs, Bl, rfl, by rw [← hm]; exact HB.out.tl, HB.out.frm⟩
    · have hq0 : (0 : Int) < (q.length : Int) := by omega
      obtain ⟨u, hu, wu, mu, he, hin, hnot⟩ := took_last HWF.out hb.took (by omega)
      have hql : q.length ≤ 1000000 := by have := hb.qn; omega
      have HT := Lib.hid (takeQ_any g _ q sp wr hb.qu (by omega) hql)
      rw [he] at HT
      have HIN := Lib.hid hin
      have HNOT := Lib.hid hnot
      have HE := Lib.hid he
      have HU := Lib.hid (And.intro hu (And.intro wu mu))
      clear hb hin hnot he hu wu mu hql
      unfold vEn at HT
      rw [show (entU u).1 = u.txg from rfl, show (entU u).2 = packU u from rfl] at HT
      go_upto_region 6 with (first
        | (go_at_call 86; refine (Len_any _ _ _ _).mono ?_; rintro r w2 ⟨rfl, hw2⟩; obtain rfl := hw2.symm)
        | (go_at_call 87; refine HT.out.mono ?_; rintro r w2 ⟨rfl, v2, sp2, q2, f2, n2⟩))
      have FT := Lib.hid f2
      have Q2 := Lib.hid q2
      have N2 := Lib.hid n2
      have f3 : Frm [] w2 (w2.alloc (.cells #[.int .i64 u.txg, .string (sB (packU u))] 118)) := (Frm.refl [] w2).alloc _
      have F3 := Lib.hid f3
      have hn3 := heap_alloc_new w2 (.cells #[.int .i64 u.txg, .string (sB (packU u))] 118)
      have HN3 := Lib.hid hn3
      clear q2 f2 n2 f3 hn3 c0
      generalize w2.alloc (.cells #[.int .i64 u.txg, .string (sB (packU u))] 118) = W3 at *
      generalize hn3 : w2.heap.size = n3 at *
      have HZ3 := Lib.hid hn3
      clear hn3
      generalize hS1 : sB (packU u) = S1 at *
      generalize hS2 : sB (lastS (m.map entU)) = S2 at *
      have e0 : W3.cell? ⟨n3, 0, none⟩ = some (.int .i64 u.txg) := by rw [cell_of_heap HN3.out]; rfl
      have e1 : W3.cell? ⟨n3, 1, none⟩ = some (.string S1) := by rw [cell_of_heap HN3.out]; rfl
      have HS1 := Lib.hid hS1
      have HS2 := Lib.hid hS2
      clear hS1 hS2
      obtain ⟨bq, hbq⟩ : ∃ bq, (S1.toList == S2.toList) = bq := ⟨_, rfl⟩
      have HBQ := Lib.hid (show (packU u == lastS (m.map entU)) = bq by rw [← hbq, ← HS1.out, ← HS2.out, ByteArray.toList_eq, ByteArray.toList_eq, sB_list, sB_list])
      have FT0 := Lib.hid (HB.out.frm.trans FT.out (fun i hi => .inr (HB.out.dis i hi).2))
      have TL2 := Lib.hid ((HB.out.tl.keep FT.out (fun i hi => (HB.out.dis i hi).1)).keep0 F3.out)
      have Q3 := Lib.hid (Q2.out.keep0 F3.out)
      have F03 := Lib.hid (FT0.out.trans F3.out (by simp))
      have D3 := Lib.hid (show ∀ i ∈ g :: blk v2, i ∉ Bl ∧ w.heap.size ≤ i ∧ i < w2.heap.size from fun i hi => by
        rcases List.mem_cons.1 hi with e | hi
        · subst e; exact ⟨(HB.out.dis i (by simp)).1, (HB.out.dis i (by simp)).2, Q2.out.lt⟩
        · have hlt := Q2.out.own.lt i hi
          rcases N2.out i hi with h | h
          · have := HB.out.dis i (List.mem_cons_of_mem _ h); exact ⟨this.1, this.2, hlt⟩
          · exact ⟨fun hm => by have := (HB.out.tl.lo i hm).2; omega, by have := HB.out.frm.size; omega, hlt⟩)
      have QN := Lib.hid (show m.length + (takeQ q).length + 1 ≤ 1000 by have h1 := (takeQ_all HB.out.took.heap (by omega)).2.2; have := HB.out.qn; omega)
      have MS := Lib.hid (show (takeQ q).length < q.length by have h1 := (takeQ_all HB.out.took.heap (by omega)).2.2; omega)
      have HQ0 := Lib.hid (show 0 < q.length by omega)
      cases bq with
      | true =>
        have hpe : packU u = lastS (m.map entU) := by have := HBQ.out; simpa using this
        have HRL := Lib.hid (show BsRel l w g u3 (.string S2) W3 from ⟨v2, takeQ q, sp2, m, rs, Bl, ⟨Q3.out, HB.out.took.same HQ0.out (HIN.out hpe), HB.out.may, TL2.out, fun i hi => ⟨(D3.out i hi).1, (D3.out i hi).2.1⟩, by rw [HS2.out], F03.out, by have := QN.out; omega⟩⟩)
        clear hpe
        go_wp2_with fail
        go_roundw
        case rel => exact HRL.out
        case measure =>
          rw [mQ_eq Q3.out, HM.out]
          exact MS.out
      | false =>
        have hpe : packU u ≠ lastS (m.map entU) := by have := HBQ.out; simpa using this
        have HTK := Lib.hid (HB.out.took.more HQ0.out (HNOT.out hpe))
        have HT2 := Lib.hid (HTO.out (u.txg, packU u) W3 F03.out (by rw [show (u.txg, packU u).2 = packU u from rfl, packU_length HU.out.2.1 HU.out.2.2]; omega))
        unfold vEn ToldP at HT2
        rw [show (u.txg, packU u).1 = u.txg from rfl, show (u.txg, packU u).2 = packU u from rfl, unp_pack HU.out.2.1 HU.out.2.2, HS1.out] at HT2
        simp only at HT2
        have hwu := HU.out.2.1
        have HSZ := Lib.hid (show w.heap.size ≤ W3.heap.size from F03.out.size)
        have HML := Lib.hid (show m.length ≤ 1000000 by have := QN.out; omega)
        clear hpe
        go_upto_region 8 with (first
          | (go_at_call 88; refine HT2.out.mono ?_; rintro r w4 ⟨ya, yc, ysp, rfl, oy, f4, n4⟩)
          | ((with_reducible (show wpList _ _ _ (Oper.mk _ (Op.buildSlice 30 1 _) _ _ _ _ :: _ :: _) _ _)); refine wpList_tl (x := rowU (.slice ya u.root.ads.length yc) rfl u hwu) (u := u) (TL2.out.keep0 f4) HML.out ⟨ya, yc, ysp, rfl, oy, hwu⟩ (fun k hk hm => by have h1 := n4 k hk; have h2 := (TL2.out.lo k hm).2; omega) (fun k hk => by have h1 := n4 k hk; have h2 := HSZ.out; omega) (by have := f4.size; have := HSZ.out; omega) rfl rfl _ _ _ _ rfl rfl rfl rfl rfl rfl ?_; intro a5 c5 w5 tl5 f5 n5; have F4 := Lib.hid f4; have N4 := Lib.hid n4; clear oy f4 n4))
        have hz3 := HZ3.out
        have hz23 := F3.out.size
        have hu3 : ∀ i ∈ blk u3, i ∈ Bl ∧ i < n3 := fun i hi => ⟨HB.out.tl.inv i hi, by have h1 := (HB.out.tl.lo i (HB.out.tl.inv i hi)).2; have h2 := FT.out.size; omega⟩
        have k1 := f5.cell (F4.out.cell e1 (by simp)) (fun hm => by have := (hu3 n3 hm).2; omega)
        have q5 := (Q3.out.keep0 F4.out).keep f5 (fun i hi => ⟨fun e => (D3.out g (by simp)).1 (e ▸ (hu3 i hi).1), fun hm => (D3.out i (List.mem_cons_of_mem _ hm)).1 (hu3 i hi).1⟩)
        have hrel : BsRel l w g (.slice a5 (m.length + 1) c5) (.string S1) w5 := by
          refine ⟨v2, takeQ q, sp2, m ++ [u], _, _, ⟨q5, ?_, fun x hx => ?_, tl5, fun i hi => ⟨fun hm => ?_, (D3.out i hi).2.1⟩, ?_, ?_, ?_⟩⟩
          · rw [List.map_append, List.map_cons, List.map_nil, ← HE.out]; exact HTK.out
          · rcases List.mem_append.1 hx with hx | hx
            · exact HB.out.may x hx
            · simp at hx; subst hx; exact HU.out.2
          · have hd := D3.out i hi
            have hz4 := F4.out.size
            rcases List.mem_append.1 hm with hm | hm
            · rcases List.mem_append.1 hm with hm | hm
              · have := N4.out i hm; omega
              · rcases n5 i hm with h | h
                · exact hd.1 (hu3 i h).1
                · omega
            · exact hd.1 hm
          · rw [List.map_append, List.map_cons, List.map_nil, ← HS1.out]
            unfold lastS
            rw [List.getLast?_append]
            rfl
          · exact (F03.out.trans F4.out (by simp)).trans f5 (fun i hi => .inr (HB.out.tl.lo i (hu3 i hi).1).1)
          · have := QN.out; simp; omega
        have HRL := Lib.hid hrel
        have HMQ := Lib.hid (mQ_eq q5)
        clear hrel q5 tl5 f5 n5 hu3 hz3 hz23
        go_wp2_with fail
        go_roundw
        case rel => exact HRL.out
        case measure =>
          rw [HMQ.out, HM.out]
          exact MS.out
end Go.Proofs.YtjdejhgfkjeeiaaGreatDoor
