/-
  Lists of uberblocks made by a call, their addresses read alone; the document's Found. No conditions but those that each theorem names.
-/
import Derived.Test.YtjdejhgfkjeeiaaGreatDoorMF
import Derived.Test.YtjdejhgfkjeeiaaGreatDoorVH
namespace Go.Proofs.YtjdejhgfkjeeiaaGreatDoor
open Go.RowKit
set_option linter.unusedVariables false
set_option linter.unusedSimpArgs false
set_option maxRecDepth 100000

open Pt (Pt may enc readPt readE zeroPt pc pv PtV SlA OwnA)
open Kr (OwnE SlE Enco RowTys)
theorem SlA.either {w : World} {v : Value} {l sp : List Pt.Ad} (h : SlA w v l sp) : (∀ w', SlA w' v l sp) ∨ ∀ i ∈ blk v, i < w.heap.size := by
  obtain ⟨h1, ⟨h2, h3, h4⟩ | ⟨a, h2, h3, h4⟩ | ⟨b, off, cap, h2, h3, h4, h5, h6⟩⟩ := id h
  · exact .inl fun w' => ⟨h1, .inl ⟨h2, h3, h4⟩⟩
  · exact .inl fun w' => ⟨h1, .inr (.inl ⟨a, h2, h3, h4⟩)⟩
  · by_cases hc : (Pt.eas l ++ Pt.eas sp) = []
    · exact .inl fun w' => ⟨h1, .inr (.inr ⟨b, off, cap, h2, h3, h4, h5, fun i u hu => by rw [hc] at hu; simp at hu⟩)⟩
    · refine .inr fun i hi => ?_
      rw [h2] at hi
      simp [blk] at hi
      subst hi
      have hp : 0 < (Pt.eas l ++ Pt.eas sp).length := List.length_pos_iff.2 hc
      exact World.block_lt_of_cell? _ _ (h6 0 _ (List.getElem?_eq_getElem hp))
theorem RowV.either {w : World} {r : RowT} {u : Ub} (h : RowV w r u) : (∀ w', RowV w' r u) ∨ ∀ i ∈ rb r, i < w.heap.size := by
  obtain ⟨a, cap, sp, e, hA, hw⟩ := h
  rcases SlA.either hA with h | h
  · exact .inl fun w' => ⟨a, cap, sp, e, h w', hw⟩
  · exact .inr (by rw [rb_uc e]; exact h)
theorem RowV.keep {w w' : World} {r : RowT} {u : Ub} {L : List Nat} (h : RowV w r u) (f : Frm L w w') (hL : ∀ i ∈ rb r, i ∉ L) : RowV w' r u := by
  obtain ⟨a, cap, sp, e, hA, hw⟩ := h
  rw [rb_uc e] at hL
  exact ⟨a, cap, sp, e, hA.keep f hL, hw⟩
/-- A list of uberblocks that a call has made since a world: its row its own, the addresses wherever. -/
structure Td (w0 w : World) (v : Value) (l : List Ub) (rs : List RowT) : Prop where
  own : ∃ sp, OwnE eR 69 28 w v rs sp
  len : rs.length = l.length
  row : ∀ (i : Nat) r u, rs[i]? = some r → l[i]? = some u → RowV w r u ∧ ((∀ w', RowV w' r u) ∨ ∀ k ∈ rb r, k ∉ blk v ∧ k < w.heap.size)
  base : ∀ k ∈ blk v, w0.heap.size ≤ k
  frm : Frm [] w0 w
theorem Td.nil (w : World) : Td w w (.slice none 0 0) [] [] := ⟨⟨[], OwnE.nil _ _ _ _⟩, rfl, fun i r u h => by simp at h, by simp [blk], Frm.refl _ _⟩
theorem Td.nil2 {w0 w : World} (f : Frm [] w0 w) : Td w0 w (.slice none 0 0) [] [] := ⟨⟨[], OwnE.nil _ _ _ _⟩, rfl, fun i r u h => by simp at h, by simp [blk], f⟩
theorem Td.us {w0 w : World} {v : Value} {l : List Ub} {rs : List RowT} (h : Td w0 w v l rs) : Us w v l := by
  obtain ⟨sp, ho⟩ := h.own
  exact ⟨rs, sp, ho.sl, h.len, fun i r u h1 h2 => (h.row i r u h1 h2).1⟩
theorem Td.keep {w0 w w' : World} {v : Value} {l : List Ub} {rs : List RowT} {L : List Nat} (h : Td w0 w v l rs) (f : Frm L w w') (hL : ∀ k ∈ L, k ∉ blk v ∧ ∀ (i : Nat) r, rs[i]? = some r → k ∉ rb r) (f0 : Frm [] w0 w') : Td w0 w' v l rs := by
  obtain ⟨sp, ho⟩ := h.own
  refine ⟨⟨sp, ho.keep f (fun k hk hm => (hL k hm).1 hk)⟩, h.len, fun i r u h1 h2 => ?_, h.base, f0⟩
  obtain ⟨hv, hw⟩ := h.row i r u h1 h2
  refine ⟨hv.keep f (fun k hk hm => (hL k hm).2 i r h1 hk), hw.imp id (fun hk k hm => ⟨(hk k hm).1, Nat.lt_of_lt_of_le (hk k hm).2 f.size⟩)⟩
theorem Td.keep0 {w0 w w' : World} {v : Value} {l : List Ub} {rs : List RowT} (h : Td w0 w v l rs) (f : Frm [] w w') : Td w0 w' v l rs := h.keep f (fun k hk => by cases hk) (h.frm.trans f (by simp))
theorem Td.more {w0 w w' : World} {v v' : Value} {l : List Ub} {rs : List RowT} {x : RowT} {u : Ub} {sp : List Value} (h : Td w0 w v l rs) (f : Frm (blk v) w w') (ho : OwnE eR 69 28 w' v' (rs ++ [x]) sp) (hn : ∀ i ∈ blk v', i ∈ blk v ∨ w.heap.size ≤ i)
    (hx : RowV w x u) (hxn : (∀ w', RowV w' x u) ∨ ∀ k ∈ rb x, k ∉ blk v) : Td w0 w' v' (l ++ [u]) (rs ++ [x]) := by
  have hold : ∀ (r : RowT) (u : Ub), RowV w r u → ((∀ w', RowV w' r u) ∨ ∀ k ∈ rb r, k ∉ blk v ∧ k < w.heap.size) → RowV w' r u ∧ ((∀ w', RowV w' r u) ∨ ∀ k ∈ rb r, k ∉ blk v' ∧ k < w'.heap.size) := fun r u h1 h2 => by
    rcases h2 with h2 | h2
    · exact ⟨h2 w', .inl h2⟩
    · refine ⟨h1.keep f (fun k hk => (h2 k hk).1), .inr fun k hk => ⟨fun hm => ?_, Nat.lt_of_lt_of_le (h2 k hk).2 f.size⟩⟩
      rcases hn k hm with q | q
      · exact (h2 k hk).1 q
      · have := (h2 k hk).2; omega
  refine ⟨⟨sp, ho⟩, by simp [h.len], fun i r u2 h1 h2 => ?_, fun k hk => ?_, h.frm.trans f (fun i hi => .inr (h.base i hi))⟩
  · rcases Nat.lt_or_ge i rs.length with hi | hi
    · rw [List.getElem?_append_left hi] at h1
      rw [List.getElem?_append_left (by have := h.len; omega)] at h2
      exact hold r u2 (h.row i r u2 h1 h2).1 (h.row i r u2 h1 h2).2
    · rcases Nat.eq_or_lt_of_le hi with e | e
      · subst e
        rw [List.getElem?_append_right (Nat.le_refl _)] at h1
        rw [h.len, List.getElem?_append_right (Nat.le_refl _)] at h2
        simp at h1 h2
        subst h1; subst h2
        refine hold x u hx ?_
        rcases hxn with q | q
        · exact .inl q
        · rcases hx.either with q2 | q2
          · exact .inl q2
          · exact .inr fun k hk => ⟨q k hk, q2 k hk⟩
      · rw [List.getElem?_eq_none (by simp; omega)] at h1; cases h1
  · rcases hn k hk with q | q
    · exact h.base k q
    · have := h.frm.size; omega
theorem wpList_td {ops : Array Oper} {rest : List Oper} {o1 o2 : Oper} {a : Act} {Q : Exit → Act → World → Prop} {w0 w : World} {v : Value} {l : List Ub} {rs : List RowT} {x : RowT} {u : Ub} (h : Td w0 w v l rs) (hb : l.length ≤ 1000000)
    (hx : RowV w x u) (hxn : (∀ w', RowV w' x u) ∨ ∀ k ∈ rb x, k ∉ blk v)
    (g1 : o1.guard = none) (g2 : o2.guard = none) (p s y : Operand) (d : Nat) (hd : o1.dst = some d) (h1 : o1.op = .buildSlice 30 1 #[(0, p)]) (h2 : o2.op = Op.call { callee := Callee.builtin Builtin.append, args := #[s, y], argTypes := #[30, 30] })
    (ep : a.eval p = .agg x.1.toArray) (es : (a.put (some d) (.slice (some ⟨w.heap.size, 0, none⟩) 1 1)).eval s = v) (ey : (a.put (some d) (.slice (some ⟨w.heap.size, 0, none⟩) 1 1)).eval y = .slice (some ⟨w.heap.size, 0, none⟩) 1 1)
    (kk : ∀ a' cap' w', Td w0 w' (.slice a' (l.length + 1) cap') (l ++ [u]) (rs ++ [x]) → Frm (blk v) w w' → (∀ i ∈ blk (.slice a' (l.length + 1) cap'), i ∈ blk v ∨ w.heap.size ≤ i) → wpList Tryz.prog ops Q rest ((a.put (some d) (.slice (some ⟨w.heap.size, 0, none⟩) 1 1)).put o2.dst (.slice a' (l.length + 1) cap')) w') :
    wpList Tryz.prog ops Q (o1 :: o2 :: rest) a w := by
  obtain ⟨spv, ho⟩ := h.own
  have hrl := h.len
  refine Great.wpList_buildSliceTo g1 30 28 1 #[(0, p)] h1 w.heap.size rfl (some d) hd Tryz.underlying30 x.1.toArray (by simp only [List.map_toArray, List.map_cons, List.map_nil, ep]; exact built28 x.2.1) ?_
  have f1 : Frm [] w (w.alloc (.cells x.1.toArray 28)) := (Frm.refl [] w).alloc _
  have hS : SlE eR 69 (w.alloc (.cells x.1.toArray 28)) (.slice (some ⟨w.heap.size, 0, none⟩) 1 1) [x] [] := Kr.SlE.of_block (T := 28) encR (by rw [Kr.flt_one]; exact heap_alloc_new _ _) rfl (by decide)
  refine Kr.wpList_append_e encR tysU (ho.keep0 f1) hS (by simp; omega) (by decide) g2 s y h2 es ey ?_
  intro a2 cap2 w2 sp2 o2' f2 n2
  rw [show rs.length + [x].length = l.length + 1 by simp [hrl]] at o2' n2 ⊢
  have f12 : Frm (blk v) w w2 := (f1.mono (by simp)).trans f2 (fun i hi => .inl hi)
  have n3 : ∀ i ∈ blk (.slice a2 (l.length + 1) cap2), i ∈ blk v ∨ w.heap.size ≤ i := fun i hi => by
    rcases n2 i hi with h | h
    · exact .inl h
    · simp at h; exact .inr (by omega)
  exact kk a2 cap2 w2 (h.more f12 o2' n3 hx hxn) f12 n3
def RFoundP (pool : List UInt8) (l : List (List UInt8)) (w : World) (r : Ending) (w' : World) : Prop := ∃ v rs, r = .returned (.tuple #[v, .int .i64 (foundE l)]) ∧ Td w w' v (foundU pool l) rs ∧ ∀ x ∈ rs, ∀ j ∈ rb x, w.heap.size ≤ j
def RFRel (pool : List UInt8) (l : List (List UInt8)) (w : World) (ov cv : Value) (wr : World) : Prop := ∃ (k : Nat) (rs : List RowT), cv = .int .i64 k ∧ k ≤ 4 ∧ Td w wr ov (fnd pool l k) rs ∧ ∀ x ∈ rs, ∀ j ∈ rb x, w.heap.size ≤ j
set_option maxHeartbeats 4000000 in
theorem RefFound_any (v : Value) (l : List (List UInt8)) (pool : List UInt8) (w : World) (h : Ls w v l) (hb : ∀ b ∈ l, b.length ≤ 1000000) (hp : pool.length = 32) : Calls Tryz.prog 37 #[v, idv pool] w (RFoundP pool l w) := by
  obtain ⟨a, cap, rfl⟩ := h.form
  have H := Lib.hid h
  have HB := Lib.hid hb
  have hp0 := heap_alloc_new w (.cells (bvs pool).toArray 24)
  have f0 : Frm [] w (w.alloc (.cells (bvs pool).toArray 24)) := (Frm.refl [] w).alloc _
  have HP0 := Lib.hid hp0
  have F0 := Lib.hid f0
  have HPL := Lib.hid hp
  clear h hb hp0 f0 hp
  rw [show idv pool = .agg (bvs pool).toArray from rfl]
  generalize hA : (bvs pool).toArray = A at *
  go_enter Tryz.func37, Tryz.ntmps37
  go_upto_region 1 with (fail)
  generalize hW0 : w.alloc (.cells A 24) = W0 at *
  generalize hgP : w.heap.size = gP at *
  have HGP := Lib.hid hgP
  clear hgP
  by_cases hl4 : l.length = 4
  · have h4 := H.out.form
    have e1 : foundU pool l = fnd pool l 4 := by unfold foundU; rw [if_pos hl4]
    have e2 : foundE l = 0 := by unfold foundE; rw [if_pos hl4]
    have HE := Lib.hid (And.intro e1 e2)
    rw [hl4] at h4 ⊢
    obtain ⟨b, off, cp, e⟩ := H.out.at (by omega)
    injection e with e1 e2 e3
    subst e1; subst e3
    clear h4
    go_wp2_with fail
    go_loopw [6, 7] (RFRel pool l W0) (fun _ cv _ => 4 - (intOf cv).toNat)
    case atStart => exact ⟨0, [], rfl, by omega, Td.nil W0, fun x hx => by cases hx⟩
    case round =>
      obtain ⟨k, rs, rfl, hk, td, hlo⟩ := hrel
      have HLO := Lib.hid hlo
      clear hlo
      by_cases hlt : k < 4
      · have hlt' : (k : Int) < 4 := by omega
        have FW := Lib.hid (F0.out.trans td.frm (by simp))
        obtain ⟨c, s, hc, hS⟩ := (H.out.keep0 FW.out).cell k (by omega)
        have hbl := HB.out (l[k]'(by omega)) (List.getElem_mem _)
        have HRA : rowAt l k = l[k]'(by omega) := rowAt_eq (by omega)
        have HU8 := Lib.hid (RefUnpack_any c (l[k]'(by omega)) s wr hS hbl)
        rw [← HRA] at HU8
        unfold UnpP at HU8
        have hwf := unp_wf (rowAt l k)
        have HFY := Lib.hid (show ∀ h : stands pool k (rowAt l k) = true, fnd pool l (k + 1) = fnd pool l k ++ [(unp (rowAt l k)).1] from fun h => fnd_yes h)
        have HFN := Lib.hid (show ∀ h : stands pool k (rowAt l k) = false, fnd pool l (k + 1) = fnd pool l k from fun h => fnd_no h)
        have HST := Lib.hid (show stands pool k (rowAt l k) = (((unp (rowAt l k)).2 == 0) && (((unp (rowAt l k)).1.pool == pool) && ((1 + (k : Int)) == slotN (unp (rowAt l k)).1.txg))) from by unfold stands; rw [show ((1 + k : Nat) : Int) = 1 + (k : Int) by omega])
        have hlm : (fnd pool l k).length ≤ 1000000 := Nat.le_trans (fnd_len _ _ _) (by omega)
        have HPW := Lib.hid (td.frm.heap HP0.out (by simp))
        generalize stands pool k (rowAt l k) = st at *
        generalize (unp (rowAt l k)).1 = u at *
        generalize (unp (rowAt l k)).2 = e at *
        generalize hm2 : fnd pool l (k + 1) = m2 at *
        generalize hm1 : fnd pool l k = m at *
        have HM2 := Lib.hid hm2
        have TD := Lib.hid td
        have HW := Lib.hid hwf
        have HLT := Lib.hid hlt
        have e5 : IntKind.i64.wrap (1 + (k : Int)) = 1 + (k : Int) := IntWalk.i64_in _ (by omega)
        have hSl := fun W => RefSlot_any u.txg W
        have HSL := Lib.hid hSl
        clear hm2 hm1 td hSl hS hbl HRA hlt
        go_upto_region 8 with (first
          | ((with_reducible (show wpList _ _ _ (Oper.mk _ (Op.alloc 28) _ _ _ _ :: _) _ _)); refine wpList_lay28 rfl rfl rfl _ _ rfl (v := .slice ya u.root.ads.length yc) rfl (u := u) hwf rfl rfl ?_)
          | (go_at_call 27; refine HU8.out.mono ?_; rintro r w2 ⟨ya, yc, ysp, rfl, oy, f2, n2⟩))
        have f3 : Frm [] w2 (w2.alloc (.cells (uc (.slice ya u.root.ads.length yc) u).toArray 28)) := (Frm.refl [] w2).alloc _
        have G3 := Lib.hid (UB.new w2 (.slice ya u.root.ads.length yc) hwf)
        have OY := Lib.hid (oy.keep f3 (by simp))
        have F3 := Lib.hid (f2.trans f3 (by simp))
        have N2 := Lib.hid n2
        have HPL3 := Lib.hid (show Blk (w2.alloc (.cells (uc (.slice ya u.root.ads.length yc) u).toArray 28)) gP 24 (bvs pool) from by rw [← hA] at HPW; exact (f2.trans f3 (by simp)).heap HPW.out (by simp))
        clear f3 oy f2 n2
        generalize w2.alloc (.cells (uc (.slice ya u.root.ads.length yc) u).toArray 28) = W3 at *
        generalize w2.heap.size = n3 at *
        have LP := Lib.hid (show (Instr.loadAt 24 (.pointer (some ⟨gP, 0, none⟩))).run Tryz.prog W3 = .ok (idv pool) W3 from HPL3.out.load0 (by kernel_rfl) (by rw [i24, bvs_length, HPL.out]))
        have TD3 := Lib.hid (TD.out.keep0 F3.out)
        have k0 := G3.out.gets.c0
        rw [HST.out] at HFY HFN
        go_upto_region 9 with (go_at_call 43; refine (HSL.out _).mono ?_; rintro r w4 ⟨rfl, hw4⟩; obtain rfl := hw4.symm)
        clear k0
        generalize hsn : slotN u.txg = sn at *
        have HSN := Lib.hid hsn
        clear hsn
        have NONE := Lib.hid (show m2 = m → RFRel pool l W0 u6 (.int .i64 ((k : Int) + 1)) W3 from fun hm => ⟨k + 1, rs, by go_num, HLT.out, by rw [HM2.out, hm]; exact TD3.out, HLO.out⟩)
        by_cases he : e = 0
        · subst he
          by_cases hq1 : sn = 1 + (k : Int)
          · have hq1b : ((1 + (k : Int)) == sn) = true := by rw [hq1]; simp
            cases hq : (u.pool == pool) with
            | true =>
              have hm : m2 = m ++ [u] := HFY.out (by rw [hq, hq1b]; rfl)
              go_wp2_with (first
                | ((with_reducible (show wpList _ _ _ (Oper.mk (some 45) (Op.load 24 _) _ _ _ _ :: _) _ _)); refine wpList_load_g (by rfl) 24 _ rfl _ rfl G3.out.gets.pool ?_)
                | ((with_reducible (show wpList _ _ _ (Oper.mk (some 46) (Op.load 24 _) _ _ _ _ :: _) _ _)); refine wpList_load_g (by rfl) 24 _ rfl _ rfl LP.out ?_)
                | ((with_reducible (show wpList _ _ _ (Oper.mk (some 47) (Op.binOp .eql 24 _ _ _) _ _ _ _ :: _) _ _)); refine wpList_eq24 (by rfl) _ _ rfl rfl rfl HW.out.pool HPL.out hq ?_)
                | ((with_reducible (show wpList _ _ _ (Oper.mk _ (Op.load 28 _) _ _ _ _ :: _) _ _)); refine wpList_load_g (by rfl) 28 _ rfl _ rfl G3.out.gets.all ?_)
                | ((with_reducible (show wpList _ _ _ (Oper.mk _ (Op.buildSlice 30 1 _) _ _ _ _ :: _ :: _) _ _)); refine wpList_td (x := rowU (.slice ya u.root.ads.length yc) rfl u hwf) (u := u) TD3.out hlm ⟨ya, yc, ysp, rfl, OY.out, hwf⟩ (.inr (fun k hk hm => by have h1 := N2.out k hk; obtain ⟨sp0, ho⟩ := TD.out.own; have h2 := ho.lt k hm; omega)) rfl rfl _ _ _ _ rfl rfl rfl rfl rfl rfl ?_; intro a5 c5 w5 td5 f5 n5))
              have HN := Lib.hid (show RFRel pool l W0 (.slice a5 (m.length + 1) c5) (.int .i64 ((k : Int) + 1)) w5 from ⟨k + 1, _, by go_num, HLT.out, by rw [HM2.out, hm]; exact td5, fun x hx j hj => by
                rcases List.mem_append.1 hx with q | q
                · exact HLO.out x q j hj
                · rw [List.mem_singleton] at q
                  subst q
                  rw [rb_uc (u := u) rfl] at hj
                  exact Nat.le_trans TD.out.frm.size (N2.out j hj)⟩)
              clear td5 f5 n5 hm
              go_roundw
              case rel => exact HN.out
              case measure => simp [intOf]; have := HLT.out; omega
            | false =>
              have hm : m2 = m := HFN.out (by rw [hq, hq1b]; rfl)
              go_wp2_with (first
                | ((with_reducible (show wpList _ _ _ (Oper.mk (some 45) (Op.load 24 _) _ _ _ _ :: _) _ _)); refine wpList_load_g (by rfl) 24 _ rfl _ rfl G3.out.gets.pool ?_)
                | ((with_reducible (show wpList _ _ _ (Oper.mk (some 46) (Op.load 24 _) _ _ _ _ :: _) _ _)); refine wpList_load_g (by rfl) 24 _ rfl _ rfl LP.out ?_)
                | ((with_reducible (show wpList _ _ _ (Oper.mk (some 47) (Op.binOp .eql 24 _ _ _) _ _ _ _ :: _) _ _)); refine wpList_eq24 (by rfl) _ _ rfl rfl rfl HW.out.pool HPL.out hq ?_))
              go_roundw
              case rel => exact NONE.out hm
              case measure => simp [intOf]; have := HLT.out; omega
          · have hq1b : ((1 + (k : Int)) == sn) = false := by simp; omega
            have hm : m2 = m := HFN.out (by rw [hq1b]; simp)
            have hne : (sn == 1 + (k : Int)) = false := by simpa using hq1
            go_wp2_with fail
            go_roundw
            case rel => exact NONE.out hm
            case measure => simp [intOf]; have := HLT.out; omega
        · have hm : m2 = m := HFN.out (by simp [he])
          have hne : (e == 0) = false := by simpa using he
          go_wp2_with fail
          go_roundw
          case rel => exact NONE.out hm
          case measure => simp [intOf]; have := HLT.out; omega
      · obtain rfl : k = 4 := by omega
        have TD := Lib.hid td
        clear td
        go_wp2_with fail
        exact bodyPost_ret (v := .tuple #[u6, .int .i64 0]) (by simp [results, Tryz.results37, go_sem]) rfl ⟨_, rs, by rw [HE.out.2], by rw [HE.out.1]; exact ⟨TD.out.own, TD.out.len, TD.out.row, fun k hk => Nat.le_trans F0.out.size (TD.out.base k hk), F0.out.trans TD.out.frm (by simp)⟩, fun x hx j hj => Nat.le_trans F0.out.size (HLO.out x hx j hj)⟩
  · have hne : ¬ (l.length : Int) = 4 := by omega
    have e1 : foundU pool l = [] := by unfold foundU; rw [if_neg hl4]
    have e2 : foundE l = 2 := by unfold foundE; rw [if_neg hl4]
    have HE := Lib.hid (And.intro e1 e2)
    have FF := Lib.hid F0.out
    clear e1 e2
    go_wp2_with fail
    exact bodyPost_ret (v := .tuple #[.slice none 0 0, .int .i64 2]) (by simp [results, Tryz.results37, go_sem]) rfl ⟨_, [], by rw [HE.out.2], by rw [HE.out.1]; exact Td.nil2 FF.out, fun x hx => by cases hx⟩
end Go.Proofs.YtjdejhgfkjeeiaaGreatDoor
