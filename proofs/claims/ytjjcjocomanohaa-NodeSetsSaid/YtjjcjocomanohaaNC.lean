/-
  Contracts of mayStandIn and Check of nodes. No conditions but those that each theorem names.
-/
import Derived.Test.YtjjcjocomanohaaNA
namespace Go.Proofs.Ytjjcjocomanohaa
open Go.RowKit
set_option linter.unusedVariables false
set_option linter.unusedSimpArgs false
set_option maxRecDepth 100000

/-- May a pointer stand in a node of a level? -/
def standB (p : Pt) (lv : Int) : Bool := hole p || (decide (chk p = 0) && p.l == lv - 1)
theorem Boxed.lvl {w : World} {g : Nat} {x : Value} {p : Pt} (h : Boxed w g x p) : w.cell? ⟨g, 2, none⟩ = some (.int .i64 p.l) := by
  obtain ⟨a, cap, rfl, h1, h2⟩ := h
  exact (h1.gets h2).c2
set_option maxHeartbeats 4000000 in
theorem mayStand_any (x : Value) (p : Pt) (lv : Int) (w : World) (hp : PtV w x p) (hl : p.ads.length ≤ 1000000) (h1 : 1 ≤ lv) (h3 : lv ≤ 3) :
    Calls Try.prog 64 #[x, .int .i64 lv] w fun e w' => e = .returned (.bool (standB p lv)) ∧ Frm [] w w' := by
  have HH := Lib.hid (fun W (f : Frm [] w W) => Hole_any x p W (hp.keep0 f) hl)
  have HC := Lib.hid (fun W (f : Frm [] w W) => Check_any x p W (hp.keep0 f) hl)
  have HS := Lib.hid (show standB p lv = (hole p || (decide (chk p = 0) && p.l == lv - 1)) from rfl)
  have hcc : chk p = 0 ∨ chk p = 2 := by rcases chk_cases p with ⟨_, e, _⟩ | ⟨_, e, _⟩; exact .inl e; exact .inr e
  obtain ⟨A, rfl, hA, hb⟩ := hp.box
  have b0 := hb w
  have f0 : Frm [] w (w.alloc (.cells A 26)) := (Frm.refl [] w).alloc _
  have hw1 : IntKind.i64.wrap (lv - 1) = lv - 1 := IntWalk.i64_in _ (by omega)
  clear hb hp hl h1 h3
  go_enter Try.func64, Try.ntmps64
  go_upto_region 1 with (fail)
  generalize w.alloc (.cells A 26) = W at *
  have B0 := Lib.hid b0
  have F0 := Lib.hid f0
  clear b0 f0
  generalize hole p = hh at *
  generalize chk p = ck at *
  have fz := Lib.hid (Frm.refl [] W)
  cases hh with
  | true =>
    go_wp2_with (first
      | ((with_reducible (show wpList _ _ _ (Oper.mk (some 5) (Op.load 26 _) _ _ _ _ :: _) _ _)); refine wpList_load_g (by rfl) 26 _ rfl _ rfl (B0.out.keep0 fz.out).load ?_)
      | (go_at_call 20; refine (HH.out _ (F0.out.trans fz.out (by simp))).mono ?_; rintro r wn ⟨rfl, fn⟩; replace fz := Lib.hid (fz.out.trans fn (by simp)); clear fn))
    go_ret
    exact ⟨ret_bool (by rw [HS.out]; rfl), F0.out.trans fz.out (by simp)⟩
  | false =>
    rcases hcc with rfl | rfl
    all_goals
      go_wp2_with (first
        | ((with_reducible (show wpList _ _ _ (Oper.mk _ (Op.load 26 _) _ _ _ _ :: _) _ _)); refine wpList_load_g (by rfl) 26 _ rfl _ rfl (B0.out.keep0 fz.out).load ?_)
        | (go_at_call 20; refine (HH.out _ (F0.out.trans fz.out (by simp))).mono ?_; rintro r wn ⟨rfl, fn⟩; replace fz := Lib.hid (fz.out.trans fn (by simp)); clear fn)
        | (go_at_call 18; refine (HC.out _ (F0.out.trans fz.out (by simp))).mono ?_; rintro r wn ⟨rfl, fn⟩; replace fz := Lib.hid (fz.out.trans fn (by simp)); clear fn; have cl := (B0.out.keep0 fz.out).lvl))
      go_ret
      exact ⟨ret_bool (by rw [HS.out]; simp), F0.out.trans fz.out (by simp)⟩
/-- A box that holds a node. -/
def BoxN (w : World) (g : Nat) (x : Value) (lv : Int) (As : List (Array Value)) : Prop := x = .agg (nc lv As).toArray ∧ NB w g lv As
theorem BoxN.load {w : World} {g : Nat} {x : Value} {lv : Int} {As : List (Array Value)} (h : BoxN w g x lv As) : (Instr.loadAt 51 (.pointer (some ⟨g, 0, none⟩))).run Try.prog w = .ok x w := by
  obtain ⟨rfl, h⟩ := h
  exact h.all
theorem BoxN.keep {w w' : World} {L : List Nat} {g : Nat} {x : Value} {lv : Int} {As : List (Array Value)} (h : BoxN w g x lv As) (f : Frm L w w') (hn : g ∉ L) : BoxN w' g x lv As := ⟨h.1, h.2.keep f hn⟩
theorem BoxN.keep0 {w w' : World} {g : Nat} {x : Value} {lv : Int} {As : List (Array Value)} (h : BoxN w g x lv As) (f : Frm [] w w') : BoxN w' g x lv As := h.keep f (by simp)
theorem NdV.box {w : World} {x : Value} {n : Nd} (h : NdV w x n) : ∃ N : Array Value, x = .agg N ∧ N.size = 141 ∧ ∃ As, PtsV w As n.ps ∧ ∀ W : World, BoxN (W.alloc (.cells N 51)) W.heap.size (.agg N) n.lv As := by
  obtain ⟨As, rfl, h1⟩ := h
  exact ⟨_, rfl, by rw [List.size_toArray, nc_length h1.rows h1.1], As, h1, fun W => ⟨rfl, NB.new W n.lv h1.1 h1.rows⟩⟩
theorem ptv_boxed {w : World} {A : Array Value} {p : Pt} (h : PtV w (.agg A) p) (W : World) : Boxed (W.alloc (.cells A 26)) W.heap.size (.agg A) p := by
  obtain ⟨a, cap, sp, e, h2, h3⟩ := h
  have e' : A = (pc (.slice a p.ads.length cap) p.b p.l p.s).toArray := by simpa [pv] using e
  subst e'
  exact ⟨a, cap, rfl, PB.new _ _ _ _ _, h3⟩
/-- A pointer is laid into a new variable. -/
theorem wpList_layA {ops : Array Oper} {rest : List Oper} {o1 o3 : Oper} {a : Act} {W : World} {Q : Exit → Act → World → Prop} (g1 : o1.guard = none) (g3 : o3.guard = none)
    (h1 : o1.op = .alloc 26) (p x : Operand) (h3 : o3.op = .store 26 p x) {B : Array Value} (hB : B.size = 35) (hB1 : B.all (·.oneCell') = true)
    (e1 : (a.put o1.dst (.pointer (some ⟨W.heap.size, 0, none⟩))).eval p = .pointer (some ⟨W.heap.size, 0, none⟩))
    (e2 : (a.put o1.dst (.pointer (some ⟨W.heap.size, 0, none⟩))).eval x = .agg B)
    (k : wpList Try.prog ops Q rest ((a.put o1.dst (.pointer (some ⟨W.heap.size, 0, none⟩))).put o3.dst undef) (W.alloc (.cells B 26))) :
    wpList Try.prog ops Q (o1 :: o3 :: rest) a W := by
  refine wpList_val g1 (exec_alloc26z h1 _) ?_
  refine wpList_store_row g3 26 p x h3 W.heap.size B e1 e2 26 _ (heap_alloc_new _ _) (by rw [i26, hB]) (by rw [pc_size, hB]; rfl) hB1 ?_
  rw [World.setRow_alloc_new]
  exact k
/-- May a node be? -/
def nodeB (n : Nd) : Bool := decide (1 ≤ n.lv ∧ n.lv ≤ 3) && n.ps.all (fun p => standB p n.lv)
def nchk (n : Nd) : Int := if nodeB n = true then 0 else 2
theorem nchk_lev {n : Nd} (h : ¬ (1 ≤ n.lv ∧ n.lv ≤ 3)) : nchk n = 2 := by simp [nchk, nodeB, h]
theorem nchk_no {n : Nd} {i : Nat} {p : Pt} (h : n.ps[i]? = some p) (hs : standB p n.lv = false) : nchk n = 2 := by
  have : n.ps.all (fun p => standB p n.lv) = false := by
    rw [List.all_eq_false]
    exact ⟨p, List.mem_of_getElem? h, by simp [hs]⟩
  simp [nchk, nodeB, this]
theorem nchk_yes {n : Nd} (h1 : 1 ≤ n.lv) (h3 : n.lv ≤ 3) (h : ∀ (j : Nat) (p : Pt), j < 4 → n.ps[j]? = some p → standB p n.lv = true) (h4 : n.ps.length = 4) : nchk n = 0 := by
  have : n.ps.all (fun p => standB p n.lv) = true := by
    rw [List.all_eq_true]
    intro p hp
    obtain ⟨i, hi, rfl⟩ := List.getElem_of_mem hp
    exact h i _ (by omega) (List.getElem?_eq_getElem hi)
  simp [nchk, nodeB, this, h1, h3]
def StandRel (ps : List Pt) (lv : Int) (w0 : World) (cv : Value) (wr : World) : Prop := ∃ k : Nat, k ≤ 4 ∧ cv = .int .i64 k ∧ (∀ (j : Nat) (p : Pt), j < k → ps[j]? = some p → standB p lv = true) ∧ Frm [] w0 wr
set_option maxHeartbeats 4000000 in
theorem nodeCheck_any (x : Value) (n : Nd) (w : World) (hn : NdV w x n) (hl : ∀ p ∈ n.ps, p.ads.length ≤ 1000000) :
    Calls Try.prog 39 #[x] w fun e w' => e = .returned (.int .i64 (nchk n)) ∧ Frm [] w w' := by
  obtain ⟨N, rfl, hN, As, hps, hb⟩ := hn.box
  have b0 := hb w
  have f0 : Frm [] w (w.alloc (.cells N 51)) := (Frm.refl [] w).alloc _
  have HPS := Lib.hid hps
  have HL := Lib.hid hl
  clear hb hn hl hps
  go_enter Try.func39, Try.ntmps39
  go_upto_region 1 with (fail)
  generalize w.alloc (.cells N 51) = W at *
  have B0 := Lib.hid b0
  have F0 := Lib.hid f0
  have c0 := b0.2.lev
  clear b0 f0
  obtain ⟨lv, hlv⟩ : ∃ lv, lv = n.lv := ⟨_, rfl⟩
  rw [← hlv] at c0
  have HLV := Lib.hid hlv
  clear hlv
  by_cases h1 : 1 ≤ lv ∧ lv ≤ 3
  · go_upto_region 3 with (fail)
    go_wp2_with fail
    go_loopw [15] (StandRel n.ps lv W) (fun cv _ => 4 - (intOf cv).toNat)
    case atStart => exact ⟨0, by omega, rfl, fun j p hj => by omega, Frm.refl _ _⟩
    case round =>
      obtain ⟨k, hk, rfl, hst, f⟩ := hrel
      have HST := Lib.hid hst
      have Fk := Lib.hid f
      have ck := f.cell c0 (by simp)
      clear hst f c0
      by_cases hlt : k < 4
      · obtain ⟨A, p, hA, hp, hv⟩ := HPS.out.get hlt
        have hpl := HL.out p (List.mem_of_getElem? hp)
        have hA2 := ptv_size hv
        have HA2 := Lib.hid hA2
        have LD := Lib.hid ((B0.out.keep0 Fk.out).2.load hA)
        have FF := Lib.hid (F0.out.trans Fk.out (by simp))
        have HM := Lib.hid (fun W (f : Frm [] w W) => mayStand_any (.agg A) p lv W (hv.keep0 f) hpl h1.1 h1.2)
        have BX := Lib.hid (ptv_boxed hv wr)
        have HP := Lib.hid hp
        have fa : Frm [] wr (wr.alloc (.cells A 26)) := (Frm.refl [] wr).alloc _
        have FA := Lib.hid fa
        have cv := fa.cell ck (by simp)
        clear hA hp hv hpl hA2 fa
        go_upto_region 6 with (first
          | ((with_reducible (show wpList _ _ _ (Oper.mk _ (Op.load 26 _) _ _ _ _ :: _) _ _)); refine wpList_load_g (by rfl) 26 (.tmp 18) rfl _ rfl LD.out ?_)
          | ((with_reducible (show wpList _ _ _ (Oper.mk _ (Op.alloc 26) _ _ _ _ :: _) _ _)); refine wpList_layA rfl rfl rfl (.tmp 4) (.tmp 19) rfl HA2.out.1 HA2.out.2 rfl rfl ?_))
        generalize wr.alloc (.cells A 26) = V at *
        generalize hsb : standB p lv = sb at *
        cases sb with
        | true =>
          go_wp2_with (first
            | ((with_reducible (show wpList _ _ _ (Oper.mk _ (Op.load 26 _) _ _ _ _ :: _) _ _)); refine wpList_load_g (by rfl) 26 _ rfl _ rfl BX.out.load ?_)
            | (go_at_call 64; refine (HM.out _ (FF.out.trans FA.out (by simp))).mono ?_; rintro r wn ⟨rfl, fn⟩))
          go_roundw
          case rel => exact ⟨k + 1, by omega, by go_num, fun j p' hj hp' => by
            rcases Nat.lt_or_ge j k with h | h
            · exact HST.out j p' h hp'
            · obtain rfl : j = k := by omega
              rw [HP.out] at hp'
              cases hp'
              exact hsb, Fk.out.trans (FA.out.trans fn (by simp)) (by simp)⟩
          case measure => simp [intOf]; omega
        | false =>
          have H := Lib.hid (nchk_no HP.out (by rw [← HLV.out]; exact hsb))
          go_wp2_with (first
            | ((with_reducible (show wpList _ _ _ (Oper.mk _ (Op.load 26 _) _ _ _ _ :: _) _ _)); refine wpList_load_g (by rfl) 26 _ rfl _ rfl BX.out.load ?_)
            | (go_at_call 64; refine (HM.out _ (FF.out.trans FA.out (by simp))).mono ?_; rintro r wn ⟨rfl, fn⟩))
          go_ret
          exact ⟨by rw [H.out]; rfl, FF.out.trans (FA.out.trans fn (by simp)) (by simp)⟩
      · obtain rfl : k = 4 := by omega
        have H := Lib.hid (nchk_yes (n := n) (by rw [← HLV.out]; omega) (by rw [← HLV.out]; omega) (fun j p hj hp => by rw [← HLV.out]; exact HST.out j p hj hp) HPS.out.2.1)
        go_wp2_with fail
        go_ret
        exact ⟨by rw [H.out]; rfl, F0.out.trans Fk.out (by simp)⟩
  · have H := Lib.hid (nchk_lev (n := n) (by rw [← HLV.out]; exact h1))
    have h1' : lv < 1 ∨ 3 < lv := by omega
    clear h1
    rcases h1' with h1 | h1
    all_goals
      go_wp2_with fail
      go_ret
      exact ⟨by rw [H.out]; rfl, F0.out⟩
end Go.Proofs.Ytjjcjocomanohaa
