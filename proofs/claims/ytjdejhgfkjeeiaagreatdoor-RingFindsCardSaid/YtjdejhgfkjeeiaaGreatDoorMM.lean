/-
  LentLists, KeptLists. No conditions but those that each theorem names.
-/
import Derived.Test.YtjdejhgfkjeeiaaGreatDoorMT
namespace Go.Proofs.YtjdejhgfkjeeiaaGreatDoor
open Go.RowKit
set_option linter.unusedVariables false
set_option linter.unusedSimpArgs false
set_option maxRecDepth 100000

open Pt (Pt may enc readPt readE zeroPt pc pv PtV SlA OwnA)
open Kr (OwnE SlE Enco RowTys)
def SmallL (sl : List (List UInt8)) (l : List Ub) : Prop := (∀ b ∈ sl, b.length ≤ 600) ∧ (∀ u ∈ l, u.root.ads.length ≤ 20) ∧ sl.length ≤ 8 ∧ l.length ≤ 20
def LongP (sl : List (List UInt8)) (l : List Ub) (e : Ending) : Prop := e = .returned (.bool true) ∨ (e = .returned (.bool false) ∧ SmallL sl l)
theorem Us.max {w : World} {v : Value} {l : List Ub} (h : Us w v l) : (l.length : Int) ≤ 9223372036854775807 := by
  obtain ⟨rs, sp, hs, hl, _⟩ := h
  obtain ⟨a, cap, _, h1, h2⟩ := hs.form
  simp only [maxLen] at h2
  omega
theorem Ls.max {w : World} {v : Value} {l : List (List UInt8)} (h : Ls w v l) : (l.length : Int) ≤ 9223372036854775807 := by
  obtain ⟨rs, sp, hs, hl, _⟩ := h
  obtain ⟨a, cap, _, h1, h2⟩ := hs.form
  simp only [maxLen] at h2
  omega
set_option maxHeartbeats 4000000 in
theorem long_any (x v : Value) (sl : List (List UInt8)) (l : List Ub) (w : World) (hx : Ls w x sl) (hv : Us w v l) : Calls Tryz.prog 33 #[x, v] w fun e w' => LongP sl l e ∧ w' = w := by
  obtain ⟨a, cap, rfl⟩ := hx.form
  obtain ⟨a2, cap2, rfl⟩ := hv.form
  have HX := Lib.hid hx
  have HV := Lib.hid hv
  have hm1 := hx.max
  have hm2 := hv.max
  clear hx hv
  go_enter Tryz.func33, Tryz.ntmps33
  go_wp2_with fail
  go_loopw [5] (fun cv wr => wr = w ∧ ∃ k : Nat, k ≤ sl.length ∧ cv = .int .i64 k ∧ ∀ i (h : i < sl.length), i < k → (sl[i]).length ≤ 600) (fun cv _ => sl.length - (intOf cv).toNat)
  case atStart => exact ⟨rfl, 0, by omega, rfl, fun i h hi => by omega⟩
  case round =>
    obtain ⟨hwr, k, hk, rfl, hall⟩ := hrel
    subst hwr
    by_cases hlt : k < sl.length
    · have hlt' : (k : Int) < (sl.length : Int) := by omega
      obtain ⟨b, off, cp, e⟩ := HX.out.at (by omega)
      injection e with e1 e2 e3
      subst e1; subst e3
      obtain ⟨c, s, hc, hS⟩ := HX.out.cell k hlt
      obtain ⟨ca, cc, rfl, _, _⟩ := hS.form
      have hwk : IntKind.i64.wrap ((k : Int) + 1) = (k : Int) + 1 := IntWalk.i64_in _ (by omega)
      by_cases hbig : 600 < (sl[k]).length
      · have hbig' : (600 : Int) < ((sl[k]).length : Int) := by omega
        generalize (sl[k]).length = n at *
        clear hall hS
        go_wp2_with fail
        exact bodyPost_ret (v := .bool true) (by simp [results, Tryz.results33, go_sem]) rfl ⟨.inl rfl, rfl⟩
      · have hbig' : ¬ (600 : Int) < ((sl[k]).length : Int) := by omega
        have HN := Lib.hid (show ∀ i (h : i < sl.length), i < k + 1 → (sl[i]).length ≤ 600 from fun i h hi => by
          rcases Nat.lt_or_ge i k with h2 | h2
          · exact hall i h h2
          · obtain rfl : i = k := by omega
            omega)
        generalize (sl[k]).length = n at *
        clear hall hS hbig
        go_wp2_with fail
        go_roundw
        case rel => exact ⟨by first | trivial | rfl, k + 1, by omega, rfl, HN.out⟩
        case measure => simp [intOf]; omega
    · obtain rfl : k = sl.length := by omega
      have H1 := Lib.hid (show ∀ b ∈ sl, b.length ≤ 600 from fun b hb => by
        obtain ⟨i, hi, rfl⟩ := List.getElem_of_mem hb
        exact hall i hi hi)
      clear hall
      go_wp2_with fail
      go_loopw [6] (fun cv wr2 => wr2 = wr ∧ ∃ k : Nat, k ≤ l.length ∧ cv = .int .i64 k ∧ ∀ i (h : i < l.length), i < k → (l[i]).root.ads.length ≤ 20) (fun cv _ => l.length - (intOf cv).toNat)
      case atStart => exact ⟨rfl, 0, by omega, rfl, fun i h hi => by omega⟩
      case round =>
        obtain ⟨hwr, k, hk, rfl, hall⟩ := hrel
        subst hwr
        by_cases hlt : k < l.length
        · have hlt' : (k : Int) < (l.length : Int) := by omega
          obtain ⟨b2, off2, cp2, e⟩ := HV.out.at (by omega)
          injection e with e1 e2 e3
          subst e1; subst e3
          obtain ⟨xa, xc, _, _, _, hc⟩ := HV.out.load k hlt
          have hwk : IntKind.i64.wrap ((k : Int) + 1) = (k : Int) + 1 := IntWalk.i64_in _ (by omega)
          by_cases hbig : 20 < (l[k]).root.ads.length
          · have hbig' : (20 : Int) < ((l[k]).root.ads.length : Int) := by omega
            generalize (l[k]).root.ads.length = n at *
            clear hall
            go_wp2_with fail
            exact bodyPost_ret (v := .bool true) (by simp [results, Tryz.results33, go_sem]) rfl ⟨.inl rfl, rfl⟩
          · have hbig' : ¬ (20 : Int) < ((l[k]).root.ads.length : Int) := by omega
            have HN := Lib.hid (show ∀ i (h : i < l.length), i < k + 1 → (l[i]).root.ads.length ≤ 20 from fun i h hi => by
              rcases Nat.lt_or_ge i k with h2 | h2
              · exact hall i h h2
              · obtain rfl : i = k := by omega
                omega)
            generalize (l[k]).root.ads.length = n at *
            clear hall hbig
            go_wp2_with fail
            go_roundw
            case rel => exact ⟨by first | trivial | rfl, k + 1, by omega, rfl, HN.out⟩
            case measure => simp [intOf]; omega
        · obtain rfl : k = l.length := by omega
          have H2 := Lib.hid (show ∀ u ∈ l, u.root.ads.length ≤ 20 from fun u hu => by
            obtain ⟨i, hi, rfl⟩ := List.getElem_of_mem hu
            exact hall i hi hi)
          clear hall
          by_cases h8 : 8 < sl.length
          · have h8' : (8 : Int) < (sl.length : Int) := by omega
            clear h8
            go_wp2_with fail
            exact bodyPost_ret (v := .bool true) (by simp [results, Tryz.results33, go_sem]) rfl ⟨.inl rfl, rfl⟩
          · have h8' : ¬ (8 : Int) < (sl.length : Int) := by omega
            by_cases h20 : 20 < l.length
            · have h20' : (20 : Int) < (l.length : Int) := by omega
              clear h8 h20
              go_wp2_with fail
              exact bodyPost_ret (v := .bool true) (by simp [results, Tryz.results33, go_sem]) rfl ⟨.inl rfl, rfl⟩
            · have h20' : ¬ (20 : Int) < (l.length : Int) := by omega
              have HH := Lib.hid (And.intro h8 h20)
              clear h8 h20
              go_wp2_with fail
              exact bodyPost_ret (v := .bool false) (by simp [results, Tryz.results33, go_sem]) rfl ⟨.inr ⟨rfl, H1.out, H2.out, by have := HH.out; omega, by have := HH.out; omega⟩, rfl⟩
end Go.Proofs.YtjdejhgfkjeeiaaGreatDoor

namespace Go.Proofs.YtjdejhgfkjeeiaaGreatDoor
open Go.RowKit
set_option linter.unusedVariables false
set_option linter.unusedSimpArgs false
set_option maxRecDepth 100000

open Pt (Pt may enc readPt readE zeroPt pc pv PtV SlA OwnA)
open Kr (OwnE SlE Enco RowTys)
def anyT (b : List UInt8) (j : Nat) : Bool := (b.take j).any (· != 0)
theorem anyT_succ {b : List UInt8} {j : Nat} (h : j < b.length) : anyT b (j + 1) = (anyT b j || (b[j] != 0)) := by
  unfold anyT
  rw [List.take_succ_eq_append_getElem h, List.any_append]
  simp
theorem anyT_all (b : List UInt8) : anyT b b.length = usedB b := by unfold anyT usedB; rw [List.take_length]
set_option maxHeartbeats 4000000 in
theorem RefUsed_any (v : Value) (l : List (List UInt8)) (w : World) (h : Ls w v l) (hb : ∀ b ∈ l, b.length ≤ 1000000) : Calls Tryz.prog 41 #[v] w fun r w' => r = .returned (.tuple #[.int .i64 (usedN l), .int .i64 (foundE l)]) ∧ w' = w := by
  obtain ⟨a, cap, rfl⟩ := h.form
  have H := Lib.hid h
  have HB := Lib.hid hb
  clear h hb
  by_cases hl4 : l.length = 4
  · have e1 : usedN l = (usd l 4 : Int) := by unfold usedN; rw [if_pos hl4]
    have e2 : foundE l = 0 := by unfold foundE; rw [if_pos hl4]
    have HE := Lib.hid (And.intro e1 e2)
    clear e1 e2
    obtain ⟨b, off, cp, e⟩ := H.out.at (by omega)
    injection e with e1 e2 e3
    subst e1; subst e3
    have HL4 := Lib.hid hl4
    rw [hl4]
    clear hl4
    go_enter Tryz.func41, Tryz.ntmps41
    go_wp2_with fail
    go_loopw [4, 5] (fun nv cv wr => wr = w ∧ ∃ k : Nat, k ≤ 4 ∧ cv = .int .i64 k ∧ nv = .int .i64 (usd l k)) (fun _ cv _ => 4 - (intOf cv).toNat)
    case atStart => exact ⟨rfl, 0, by omega, rfl, rfl⟩
    case round =>
      obtain ⟨hwr, k, hk, rfl, rfl⟩ := hrel
      subst hwr
      by_cases hlt : k < 4
      · have hlt' : (k : Int) < 4 := by omega
        have hlk : k < l.length := by have := HL4.out; omega
        obtain ⟨c, s, hc, hS⟩ := H.out.cell k hlk
        obtain ⟨ca, cc, rfl, _, _⟩ := hS.form
        have hbl : ((l[k]).length : Int) ≤ 1000000 := by have := HB.out (l[k]) (List.getElem_mem _); omega
        have HUY := Lib.hid (show usedB l[k] = true → usd l (k + 1) = usd l k + 1 from fun h => usd_yes (by rw [rowAt_eq hlk]; exact h))
        have HUN := Lib.hid (show usedB l[k] = false → usd l (k + 1) = usd l k from fun h => usd_no (by rw [rowAt_eq hlk]; exact h))
        have hul := usd_le l k
        have HS := Lib.hid hS
        have hwn : IntKind.i64.wrap ((usd l k : Int) + 1) = (usd l k : Int) + 1 := IntWalk.i64_in _ (by omega)
        generalize hm2 : usd l (k + 1) = m2 at *
        generalize usd l k = m at *
        have HM2 := Lib.hid hm2
        generalize l[k] = bt at *
        have HLT := Lib.hid hlt
        clear hm2 hS hul hlk hlt
        go_wp2_with fail
        go_loopw [6, 7] (fun uv cv wr2 => wr2 = wr ∧ ∃ j : Nat, j ≤ bt.length ∧ cv = .int .i64 j ∧ uv = .bool (anyT bt j)) (fun _ cv _ => bt.length - (intOf cv).toNat)
        case atStart => exact ⟨rfl, 0, by omega, rfl, rfl⟩
        case round =>
          obtain ⟨hwr, j, hj, rfl, rfl⟩ := hrel
          subst hwr
          by_cases hjl : j < bt.length
          · have hjl' : (j : Int) < (bt.length : Int) := by omega
            obtain ⟨bb, bo, rfl⟩ := slb_at HS.out (by omega)
            have cb := SlB.cellAt HS.out j hjl
            have HAN := Lib.hid (anyT_succ hjl)
            have hbx : (((bt[j]).toNat : Int) != 0) = (bt[j] != 0) := by
              rw [Bool.eq_iff_iff]
              simp only [bne_iff_ne, ne_eq]
              constructor
              · intro h e; apply h; rw [e]; rfl
              · intro h e; apply h; exact UInt8.toNat_inj.1 (by simpa using e)
            have HBX := Lib.hid hbx
            generalize hy : bt[j] = y at *
            clear hy hbx
            cases hu : anyT bt j with
            | true =>
              have hA2 : anyT bt (j + 1) = true := by rw [HAN.out, hu]; rfl
              have HA2 := Lib.hid hA2
              clear hA2 hu
              go_wp2_with fail
              go_roundw
              case rel => exact ⟨by first | trivial | rfl, j + 1, by omega, by go_num, by rw [HA2.out]⟩
              case measure => simp [intOf]; omega
            | false =>
              have hA2 : anyT bt (j + 1) = ((y.toNat : Int) != 0) := by rw [HAN.out, hu, HBX.out]; simp
              have HA2 := Lib.hid hA2
              clear hA2 hu
              go_wp2_with fail
              go_roundw
              case rel => exact ⟨by first | trivial | rfl, j + 1, by omega, by go_num, by rw [HA2.out]⟩
              case measure => simp [intOf]; omega
          · obtain rfl : j = bt.length := by omega
            rw [anyT_all]
            cases hu : usedB bt with
            | true =>
              have hm := HUY.out hu
              have HMM := Lib.hid hm
              clear hm hu
              go_wp2_with fail
              go_roundw
              case rel => exact ⟨by first | trivial | rfl, k + 1, HLT.out, by go_num, by rw [HM2.out, HMM.out]; rfl⟩
              case measure => simp [intOf]; have := HLT.out; omega
            | false =>
              have hm := HUN.out hu
              have HMM := Lib.hid hm
              clear hm hu
              go_wp2_with fail
              go_roundw
              case rel => exact ⟨by first | trivial | rfl, k + 1, HLT.out, by go_num, by rw [HM2.out, HMM.out]⟩
              case measure => simp [intOf]; have := HLT.out; omega
      · obtain rfl : k = 4 := by omega
        go_wp2_with fail
        exact bodyPost_ret (v := .tuple #[.int .i64 (usd l 4), .int .i64 0]) (by simp [results, Tryz.results41, go_sem]) rfl ⟨by rw [HE.out.1, HE.out.2], rfl⟩
  · have hne : ¬ (l.length : Int) = 4 := by omega
    have e1 : usedN l = 0 := by unfold usedN; rw [if_neg hl4]
    have e2 : foundE l = 2 := by unfold foundE; rw [if_neg hl4]
    have HE := Lib.hid (And.intro e1 e2)
    clear e1 e2
    go_enter Tryz.func41, Tryz.ntmps41
    go_wp2_with fail
    exact bodyPost_ret (v := .tuple #[.int .i64 0, .int .i64 2]) (by simp [results, Tryz.results41, go_sem]) rfl ⟨by rw [HE.out.1, HE.out.2], rfl⟩
end Go.Proofs.YtjdejhgfkjeeiaaGreatDoor

namespace Go.Proofs.YtjdejhgfkjeeiaaGreatDoor
open Go.RowKit
set_option linter.unusedVariables false
set_option linter.unusedSimpArgs false
set_option maxRecDepth 100000

open Kr (OwnE SlE Enco RowTys)
theorem tysC : RowTys Tryz.prog 52 32 1 24 := ⟨Tryz.underlying52, .slice none 0 0, by kernel_rfl, by kernel_rfl⟩
theorem load32 {w : World} {p : Addr} {v : Value} (h : w.cell? p = some v) : (Instr.loadAt 32 (.pointer (some p))).run Tryz.prog w = .ok v w := by
  have hc : Tryz.prog.cellsOf 32 = 1 := by kernel_rfl
  simp [Instr.loadAt, go_sem, hc, h]
theorem exec_ld32 {o : Oper} {a : Act} {w : World} {x : Operand} {p v : Value} (ho : o.op = .load 32 x) (hx : a.eval x = p) (h : (Instr.loadAt 32 p).run Tryz.prog w = .ok v w) : (execOp a.eval o).run Tryz.prog w = .ok (.value v) w := by simp [execOp, ho, hx, h, Result.andThen]
theorem built32 (a : Option Addr) (n c : Nat) : Tryz.prog.builtSlice 32 1 [(0, .slice a n c)] = some #[.slice a n c] := by kernel_rfl
def clT (a : Option Addr) (n c : Nat) : CelT := ⟨.slice a n c, rfl⟩
/-- A list of copies that a call has made since a world. -/
structure Lk (w0 w : World) (v : Value) (l : List (List UInt8)) (cs : List CelT) : Prop where
  own : ∃ sp, OwnE eC 1 32 w v cs sp
  len : cs.length = l.length
  row : ∀ (i : Nat) c b, cs[i]? = some c → l[i]? = some b → ∃ g, c.1 = .slice (some ⟨g, 0, none⟩) b.length (b.length + 3) ∧ OwnB 5 w (.slice (some ⟨g, 0, none⟩) b.length (b.length + 3)) b (marks b.length 3) ∧ g ∉ blk v
  base : ∀ k ∈ blk v, w0.heap.size ≤ k
theorem Lk.nil (w : World) : Lk w w (.slice none 0 0) [] [] := ⟨⟨[], OwnE.nil _ _ _ _⟩, rfl, fun i r u h => by simp at h, by simp [blk]⟩
theorem Lk.ls {w0 w : World} {v : Value} {l : List (List UInt8)} {cs : List CelT} (h : Lk w0 w v l cs) : Ls w v l := by
  obtain ⟨sp, ho⟩ := h.own
  refine ⟨cs, sp, ho.sl, h.len, fun i c b h1 h2 => ?_⟩
  obtain ⟨g, e, o, _⟩ := h.row i c b h1 h2
  exact ⟨_, by rw [e]; exact o.sl⟩
theorem Lk.keep0 {w0 w w' : World} {v : Value} {l : List (List UInt8)} {cs : List CelT} (h : Lk w0 w v l cs) (f : Frm [] w w') : Lk w0 w' v l cs := by
  obtain ⟨sp, ho⟩ := h.own
  refine ⟨⟨sp, ho.keep0 f⟩, h.len, fun i c b h1 h2 => ?_, h.base⟩
  obtain ⟨g, e, o, hg⟩ := h.row i c b h1 h2
  exact ⟨g, e, o.keep f (by simp), hg⟩
theorem Lk.more {w0 w w' : World} {v v' : Value} {l : List (List UInt8)} {cs : List CelT} {g : Nat} {b : List UInt8} {sp : List Value} (h : Lk w0 w v l cs) (f : Frm (blk v) w w') (h0 : w0.heap.size ≤ w.heap.size)
    (ho : OwnE eC 1 32 w' v' (cs ++ [clT (some ⟨g, 0, none⟩) b.length (b.length + 3)]) sp) (hn : ∀ i ∈ blk v', i ∈ blk v ∨ w.heap.size ≤ i)
    (hx : OwnB 5 w (.slice (some ⟨g, 0, none⟩) b.length (b.length + 3)) b (marks b.length 3)) (hg : g ∉ blk v) : Lk w0 w' v' (l ++ [b]) (cs ++ [clT (some ⟨g, 0, none⟩) b.length (b.length + 3)]) := by
  have hold : ∀ (g : Nat) (b : List UInt8), OwnB 5 w (.slice (some ⟨g, 0, none⟩) b.length (b.length + 3)) b (marks b.length 3) → g ∉ blk v → OwnB 5 w' (.slice (some ⟨g, 0, none⟩) b.length (b.length + 3)) b (marks b.length 3) ∧ g ∉ blk v' := fun g b h1 h2 => by
    refine ⟨h1.keep f (fun k hk => by simp [blk] at hk; subst hk; exact h2), fun hm => ?_⟩
    rcases hn g hm with q | q
    · exact h2 q
    · have := h1.lt g (by simp [blk]); omega
  refine ⟨⟨sp, ho⟩, by simp [h.len], fun i c d h1 h2 => ?_, fun k hk => ?_⟩
  · rcases Nat.lt_or_ge i cs.length with hi | hi
    · rw [List.getElem?_append_left hi] at h1
      rw [List.getElem?_append_left (by have := h.len; omega)] at h2
      obtain ⟨g', e, o, hg'⟩ := h.row i c d h1 h2
      exact ⟨g', e, hold g' d o hg'⟩
    · rcases Nat.eq_or_lt_of_le hi with e | e
      · subst e
        rw [List.getElem?_append_right (Nat.le_refl _)] at h1
        rw [h.len, List.getElem?_append_right (Nat.le_refl _)] at h2
        simp at h1 h2
        subst h1; subst h2
        exact ⟨g, rfl, hold g b hx hg⟩
      · rw [List.getElem?_eq_none (by simp; omega)] at h1; cases h1
  · rcases hn k hk with q | q
    · exact h.base k q
    · omega
theorem wpList_lk {ops : Array Oper} {rest : List Oper} {o1 o2 : Oper} {a : Act} {Q : Exit → Act → World → Prop} {w0 w : World} {v : Value} {l : List (List UInt8)} {cs : List CelT} {g : Nat} {b : List UInt8} (h : Lk w0 w v l cs) (hb : l.length ≤ 1000000) (h0 : w0.heap.size ≤ w.heap.size)
    (hx : OwnB 5 w (.slice (some ⟨g, 0, none⟩) b.length (b.length + 3)) b (marks b.length 3)) (hg : g ∉ blk v)
    (g1 : o1.guard = none) (g2 : o2.guard = none) (p s y : Operand) (d : Nat) (hd : o1.dst = some d) (h1 : o1.op = .buildSlice 52 1 #[(0, p)]) (h2 : o2.op = Op.call { callee := Callee.builtin Builtin.append, args := #[s, y], argTypes := #[52, 52] })
    (ep : a.eval p = .slice (some ⟨g, 0, none⟩) b.length (b.length + 3)) (es : (a.put (some d) (.slice (some ⟨w.heap.size, 0, none⟩) 1 1)).eval s = v) (ey : (a.put (some d) (.slice (some ⟨w.heap.size, 0, none⟩) 1 1)).eval y = .slice (some ⟨w.heap.size, 0, none⟩) 1 1)
    (kk : ∀ a' cap' w', Lk w0 w' (.slice a' (l.length + 1) cap') (l ++ [b]) (cs ++ [clT (some ⟨g, 0, none⟩) b.length (b.length + 3)]) → Frm (blk v) w w' → wpList Tryz.prog ops Q rest ((a.put (some d) (.slice (some ⟨w.heap.size, 0, none⟩) 1 1)).put o2.dst (.slice a' (l.length + 1) cap')) w') :
    wpList Tryz.prog ops Q (o1 :: o2 :: rest) a w := by
  obtain ⟨spv, ho⟩ := h.own
  have hrl := h.len
  refine Great.wpList_buildSliceTo g1 52 32 1 #[(0, p)] h1 w.heap.size rfl (some d) hd Tryz.underlying52 #[.slice (some ⟨g, 0, none⟩) b.length (b.length + 3)] (by simp only [List.map_toArray, List.map_cons, List.map_nil, ep]; exact built32 _ _ _) ?_
  have f1 : Frm [] w (w.alloc (.cells #[.slice (some ⟨g, 0, none⟩) b.length (b.length + 3)] 32)) := (Frm.refl [] w).alloc _
  have hS : SlE eC 1 (w.alloc (.cells #[.slice (some ⟨g, 0, none⟩) b.length (b.length + 3)] 32)) (.slice (some ⟨w.heap.size, 0, none⟩) 1 1) [clT (some ⟨g, 0, none⟩) b.length (b.length + 3)] [] := Kr.SlE.of_block (T := 32) encC (by rw [Kr.flt_one]; exact heap_alloc_new _ _) rfl (by decide)
  refine Kr.wpList_append_e encC tysC (ho.keep0 f1) hS (by simp; omega) (by decide) g2 s y h2 es ey ?_
  intro a2 cap2 w2 sp2 o2' f2 n2
  rw [show cs.length + [clT (some ⟨g, 0, none⟩) b.length (b.length + 3)].length = l.length + 1 by simp [hrl]] at o2' n2 ⊢
  have f12 : Frm (blk v) w w2 := (f1.mono (by simp)).trans f2 (fun i hi => .inl hi)
  have n3 : ∀ i ∈ blk (.slice a2 (l.length + 1) cap2), i ∈ blk v ∨ w.heap.size ≤ i := fun i hi => by
    rcases n2 i hi with h | h
    · exact .inl h
    · simp at h; exact .inr (by omega)
  exact kk a2 cap2 w2 (h.more f12 h0 o2' n3 hx hg) f12
def LentP (l : List (List UInt8)) (w : World) (r : Ending) (w' : World) : Prop := ∃ v cs, r = .returned v ∧ Lk w w' v l cs ∧ Frm [] w w'
def LLRel (l : List (List UInt8)) (w : World) (ov cv : Value) (wr : World) : Prop := ∃ (k : Nat) (cs : List CelT), cv = .int .i64 k ∧ k ≤ l.length ∧ Lk w wr ov (l.take k) cs ∧ Frm [] w wr
set_option maxHeartbeats 2000000 in
theorem LentLists_any (v : Value) (l : List (List UInt8)) (w : World) (h : Ls w v l) (hb : ∀ b ∈ l, b.length ≤ 1000000) (hl : l.length ≤ 1000) : Calls Tryz.prog 35 #[v] w (LentP l w) := by
  obtain ⟨a, cap, rfl⟩ := h.form
  have H := Lib.hid h
  have HB := Lib.hid hb
  have hl9 : (l.length : Int) ≤ 1000 := by omega
  clear h hb hl
  go_enter Tryz.func35, Tryz.ntmps35
  go_wp2_with fail
  go_loopw [3, 4] (LLRel l w) (fun _ cv _ => l.length - (intOf cv).toNat)
  case atStart => exact ⟨0, [], rfl, by omega, Lk.nil w, Frm.refl _ _⟩
  case round =>
    obtain ⟨k, cs, rfl, hk, lk, f⟩ := hrel
    by_cases hlt : k < l.length
    · have hlt' : (k : Int) < (l.length : Int) := by omega
      have hk9 : (k : Int) ≤ 1000 := by omega
      obtain ⟨b, off, cp, e⟩ := H.out.at (by omega)
      injection e with e1 e2 e3
      subst e1; subst e3
      obtain ⟨c, s, hc, hS⟩ := (H.out.keep0 f).cell k hlt
      have HLN := Lib.hid (Lent_any c (l[k]) s wr hS (HB.out _ (List.getElem_mem _)))
      have HTK := Lib.hid (show l.take (k + 1) = l.take k ++ [l[k]] from List.take_succ_eq_append_getElem hlt)
      have hlm : (l.take k).length ≤ 1000000 := by rw [List.length_take]; omega
      have LK := Lib.hid lk
      have F := Lib.hid f
      have HLT := Lib.hid hlt
      generalize l[k] = x at *
      clear lk f hS hlt
      go_wp2_with (first
        | (go_at_call 25; refine HLN.out.mono ?_; rintro r w1 ⟨rfl, o1, f1⟩)
        | ((with_reducible (show wpList _ _ _ (Oper.mk _ (Op.buildSlice 52 1 _) _ _ _ _ :: _ :: _) _ _)); refine wpList_lk (LK.out.keep0 f1) hlm (by have := F.out.size; have := f1.size; omega) o1 (fun hm => by obtain ⟨sp0, ho⟩ := LK.out.own; have := ho.lt _ hm; omega) rfl rfl _ _ _ _ rfl rfl rfl rfl rfl rfl ?_; intro a5 c5 w5 lk5 f5))
      have HN := Lib.hid (show LLRel l w (.slice a5 (k + 1) c5) (.int .i64 ((k : Int) + 1)) w5 from ⟨k + 1, _, by go_num, HLT.out, by rw [HTK.out]; have q := lk5; rw [List.length_take, Nat.min_eq_left hk] at q; exact q, (F.out.trans f1 (by simp)).trans f5 (fun i hi => .inr (LK.out.base i hi))⟩)
      clear lk5 f5 o1 f1
      go_roundw
      case rel => exact HN.out
      case measure => simp [intOf]; have := HLT.out; omega
    · obtain rfl : k = l.length := by omega
      rw [List.take_length] at lk
      have LK := Lib.hid lk
      have F := Lib.hid f
      clear lk f
      go_wp2_with fail
      go_ret
      exact ⟨_, cs, rfl, LK.out, F.out⟩
set_option maxHeartbeats 2000000 in
theorem KeptLists_any {w0 : World} (v x : Value) (l : List (List UInt8)) (cs : List CelT) (w : World) (h : Lk w0 w v l cs) (hx : Ls w x l) (hb : ∀ b ∈ l, b.length ≤ 1000000) (hl : l.length ≤ 1000) : Calls Tryz.prog 44 #[v, x] w fun e w' => e = .returned (.bool true) ∧ Frm [] w w' := by
  obtain ⟨a, cap, rfl⟩ := h.ls.form
  obtain ⟨a2, cap2, rfl⟩ := hx.form
  have H := Lib.hid h
  have HX := Lib.hid hx
  have HB := Lib.hid hb
  have hl9 : (l.length : Int) ≤ 1000 := by omega
  clear h hx hb hl
  go_enter Tryz.func44, Tryz.ntmps44
  go_wp2_with fail
  go_loopw [5] (fun cv wr => ∃ k : Nat, k ≤ l.length ∧ cv = .int .i64 k ∧ Frm [] w wr) (fun cv _ => l.length - (intOf cv).toNat)
  case atStart => exact ⟨0, by omega, rfl, Frm.refl _ _⟩
  case round =>
    obtain ⟨k, hk, rfl, f⟩ := hrel
    by_cases hlt : k < l.length
    · have hlt' : (k : Int) < (l.length : Int) := by omega
      have hk9 : (k : Int) ≤ 1000 := by omega
      obtain ⟨b, off, cp, e⟩ := H.out.ls.at (by omega)
      injection e with e1 e2 e3
      subst e1; subst e3
      obtain ⟨b2, off2, cp2, e⟩ := HX.out.at (by omega)
      injection e with e1 e2 e3
      subst e1; subst e3
      have fd := f.trans ((Frm.refl [] wr).drew) (by simp)
      have H2 := H.out.keep0 fd
      have hlen := H2.len
      obtain ⟨sp0, ho⟩ := H2.own
      have hoff : off = 0 := by
        obtain ⟨_, ⟨h2, _⟩ | ⟨g', c', h2, _⟩⟩ := ho
        · cases h2
        · injection h2 with e1; injection e1 with e1; injection e1
      subst hoff
      have hkc : k < cs.length := by omega
      obtain ⟨g, e, o, hg⟩ := H2.row k cs[k] l[k] (List.getElem?_eq_getElem _) (List.getElem?_eq_getElem _)
      have k1 := SlE.cell encC ho.sl k hkc 0 (u := (cs[k]).1) rfl
      rw [Nat.mul_one, Nat.add_zero, Nat.zero_add, e] at k1
      obtain ⟨c2, s2, k2, hS⟩ := (HX.out.keep0 fd).cell k hlt
      have HKP := Lib.hid (Kept_true g _ _ c2 (l[k]) s2 wr.drew o hS (HB.out _ (List.getElem_mem _)))
      have HL1 := Lib.hid (load32 k1)
      have HL2 := Lib.hid (load32 k2)
      have FD := Lib.hid fd
      have HLT := Lib.hid hlt
      clear k1 k2
      generalize l[k] = y at *
      clear f fd ho o hS H2 hg e hlt hkc hlen
      go_upto_region 4 with (fail)
      refine wp_region_still_tail 8 (by kernel_rfl) (by kernel_rfl) ?_
      simp only [List.take_succ_cons, List.take_zero, List.drop_succ_cons, List.drop_zero]
      change wpStill _ _ (World.drew _) _ _ _
      iterate 3 still_step
      refine wpStill_val rfl (exec_ld32 rfl rfl HL1.out) ?_
      iterate 3 still_step
      refine wpStill_val rfl (exec_ld32 rfl rfl HL2.out) ?_
      refine wpStill_nil ?_
      change wpList _ _ _ _ _ (World.drew _)
      go_wp2_with (go_at_call 29; refine HKP.out.mono ?_; rintro r w3 ⟨rfl, f3⟩)
      go_roundw
      case rel => exact ⟨k + 1, HLT.out, by go_num, FD.out.trans f3 (by simp)⟩
      case measure => simp [intOf]; have := HLT.out; omega
    · obtain rfl : k = l.length := by omega
      have F := Lib.hid f
      clear f
      go_wp2_with fail
      go_ret
      exact ⟨by simp, F.out⟩
end Go.Proofs.YtjdejhgfkjeeiaaGreatDoor
