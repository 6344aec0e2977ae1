/-
  Contract of demandMay: which pointers may be. No conditions but those that each theorem names.
-/
import Derived.Test.YtjjcjocomanohaaPB
import Derived.Test.YtjjcjocomanohaaSL
namespace Go.Proofs.Ytjjcjocomanohaa
open Go.RowKit
set_option linter.unusedVariables false
set_option linter.unusedSimpArgs false
set_option maxRecDepth 100000

def adOk (l : List Ad) (j : Nat) : Prop := ∀ x, l[j]? = some x → (0 ≤ x.1 ∧ x.1 ≤ 7) ∧ (5 ≤ x.2 ∧ x.2 ≤ 4095) ∧ ∀ i, i < j → ∀ y, l[i]? = some y → x.1 ≠ y.1
def AdsOk (l : List Ad) : Prop := ∀ j, j < l.length → adOk l j
def MayRest (p : Pt) : Prop := (1 ≤ p.ads.length ∧ p.ads.length ≤ 3) ∧ AdsOk p.ads ∧ (1 ≤ p.b ∧ p.b ≤ 2147483648) ∧ (0 ≤ p.l ∧ p.l ≤ 3)
def may (p : Pt) : Prop := hole p = true ∨ MayRest p
def MayP (p : Pt) (w : World) (e : Ending) (w' : World) : Prop := Asks (may p) e ∧ Frm [] w w'
theorem mayp_no {p : Pt} {w w' : World} (h0 : hole p = false) (h : ¬ MayRest p) (f : Frm [] w w') : MayP p w (GaveUp 2 0) w' := ⟨Or.inr ⟨rfl, fun hm => by rcases hm with hm | hm; rw [h0] at hm; cases hm; exact h hm⟩, f⟩
def OutRel (l : List Ad) (g : Nat) (v : Value) (b lv : Int) (s : List UInt8) (w0 : World) (cv : Value) (wr : World) : Prop := ∃ k : Nat, k ≤ l.length ∧ cv = .int .i64 k ∧ (∀ j, j < k → adOk l j) ∧ PB wr g v b lv s ∧ Frm [] w0 wr
def InRel (l : List Ad) (x : Ad) (k : Nat) (w0 : World) (cv : Value) (wr : World) : Prop := ∃ i : Nat, i ≤ k ∧ cv = .int .i64 i ∧ (∀ j, j < i → ∀ y, l[j]? = some y → x.1 ≠ y.1) ∧ Frm [] w0 wr
set_option maxHeartbeats 4000000 in
theorem demandMay_any (x : Value) (p : Pt) (w : World) (hp : PtV w x p) (hl : p.ads.length ≤ 1000000) : Calls Try.prog 53 #[x] w (MayP p w) := by
  have hC := fun W (f : Frm [] w W) => Hole_any x p W (hp.keep0 f) hl
  obtain ⟨a, cap, sp, rfl, s1, z1⟩ := hp
  have B1 := PB.new w (.slice a p.ads.length cap) p.b p.l p.s
  have f : Frm [] w (w.alloc (.cells (pc (.slice a p.ads.length cap) p.b p.l p.s).toArray 26)) := (Frm.refl [] w).alloc _
  have hA0 : pv (.slice a p.ads.length cap) p.b p.l p.s = .agg (pc (.slice a p.ads.length cap) p.b p.l p.s).toArray := rfl
  have HA0 := Lib.hid hA0
  have HC := Lib.hid hC
  have HS := Lib.hid s1
  rw [hA0]
  clear hA0 hC s1
  generalize hA : (pc (.slice a p.ads.length cap) p.b p.l p.s).toArray = A at *
  generalize hn : p.ads.length = n at *
  have HN := Lib.hid hn
  have hn9 : (n : Int) ≤ 1000000 := by omega
  clear hn hl
  go_enter Try.func53, Try.ntmps53
  go_upto_region 1 with (fail)
  generalize w.alloc (.cells A 26) = W at *
  have B1h := Lib.hid B1
  have G0 := Lib.hid (B1.gets z1)
  clear hA B1
  cases hh : hole p with
  | true =>
    rw [hh] at HC
    go_wp2_with (first | ((with_reducible (show wpList _ _ _ (Oper.mk _ (Op.load 26 _) _ _ _ _ :: _) _ _)); refine wpList_load_g (by rfl) 26 _ rfl _ rfl G0.out.all ?_) | (go_at_call 20; refine (HC.out _ f).mono ?_; rintro r w2 ⟨rfl, f2⟩))
    go_end0
    exact ⟨.inl ⟨rfl, .inl hh⟩, f.trans f2 (by simp)⟩
  | false =>
    have HH := Lib.hid hh
    rw [hh] at HC
    clear hh
    go_upto_region 2 with (first | ((with_reducible (show wpList _ _ _ (Oper.mk _ (Op.load 26 _) _ _ _ _ :: _) _ _)); refine wpList_load_g (by rfl) 26 _ rfl _ rfl G0.out.all ?_) | (go_at_call 20; refine (HC.out _ f).mono ?_; rintro r w2 ⟨rfl, f2⟩))
    have F2 := Lib.hid (f.trans f2 (by simp))
    have B2 := Lib.hid (B1h.out.keep f2 (by simp))
    have G2 := B2.out.gets z1
    have c0 := G2.c0
    clear G2 f f2 G0 HC
    go_upto_region 3 with (go_at_call 73; refine (within_any _ _ _ _).mono ?_; rintro r w3 ⟨⟨rfl, hlen⟩ | ⟨rfl, hlen⟩, rfl⟩; rotate_left; exact ⟨rfl, mayp_no HH.out (fun h => hlen (by have := h.1; rw [HN.out] at this; omega)) F2.out⟩)
    have LN : p.ads.length = n := HN.out
    go_wp2_with fail
    go_loopw [15] (OutRel p.ads w.heap.size (.slice a n cap) p.b p.l p.s w) (fun cv _ => n - (intOf cv).toNat)
    case atStart => exact ⟨0, by omega, rfl, fun j hj => by omega, B2.out, F2.out⟩
    case round =>
      obtain ⟨k, hk, rfl, hok, pb, f⟩ := hrel
      have HOK := Lib.hid hok
      have PBk := Lib.hid pb
      have G := pb.gets z1
      have c0 := G.c0
      have c1 := G.c1
      have c2 := G.c2
      have Fk := Lib.hid f
      clear hok pb G f
      by_cases hlt : k < n
      · have hlt2 : k < p.ads.length := by omega
        obtain ⟨b0, off, rfl⟩ := HS.out.at (by omega)
        have hS2 := HS.out.keep Fk.out (by simp)
        rw [← LN] at hS2
        obtain ⟨e0, e1⟩ := hS2.cells k hlt2
        obtain ⟨sa, sc, hsl, hsS⟩ := slice_hA AT hS2 k (by omega)
        rw [LN] at hsl hS2
        have hsl1 := fun wx => hsl k wx rfl
        have HSL := Lib.hid hsl1
        have HSS := Lib.hid hsS
        have hx : p.ads[k]? = some p.ads[k] := List.getElem?_eq_getElem hlt2
        generalize p.ads[k] = y at *
        have HX := Lib.hid hx
        have H2 := Lib.hid hlt2
        have LNh := Lib.hid LN
        clear hsl hsl1 hsS hx hlt2 hS2 LN
        go_upto_region 6 with (fail)
        have fV : Frm [] w (wr.alloc (.cells #[.int .i64 y.1, .int .i64 y.2] 46)) := Fk.out.alloc _
        have hV := heap_alloc_new wr (.cells #[.int .i64 y.1, .int .i64 y.2] 46)
        have pV := PBk.out.alloc (.cells #[.int .i64 y.1, .int .i64 y.2] 46)
        have gV : Frm [] wr (wr.alloc (.cells #[.int .i64 y.1, .int .i64 y.2] 46)) := (Frm.refl [] wr).alloc _
        have hgt : wr.heap.size < (wr.alloc (.cells #[.int .i64 y.1, .int .i64 y.2] 46)).heap.size := by simp
        generalize wr.alloc (.cells #[.int .i64 y.1, .int .i64 y.2] 46) = V at *
        have q0 : V.cell? ⟨wr.heap.size, 0, none⟩ = some (.int .i64 y.1) := by rw [cell_of_heap hV]; rfl
        have q1 : V.cell? ⟨wr.heap.size, 1, none⟩ = some (.int .i64 y.2) := by rw [cell_of_heap hV]; rfl
        have d0 : V.cell? ⟨w.heap.size, 0, none⟩ = some (.slice (some ⟨b0, off, none⟩) n cap) := (pV.gets z1).c0
        have HV := Lib.hid hV
        have PV := Lib.hid pV
        have FV := Lib.hid fV
        clear hV pV fV c0 c1 c2 e0 e1
        go_upto_region 7 with (go_at_call 73; refine (within_any _ _ _ _).mono ?_; rintro r w4 ⟨⟨rfl, hb⟩ | ⟨rfl, hb⟩, rfl⟩; rotate_left; exact ⟨rfl, mayp_no HH.out (fun h => hb ((h.2.1 k H2.out y HX.out).1)) FV.out⟩)
        have HB1 := Lib.hid hb
        clear hb
        go_upto_region 8 with (go_at_call 73; refine (within_any _ _ _ _).mono ?_; rintro r w5 ⟨⟨rfl, hb⟩ | ⟨rfl, hb⟩, rfl⟩; rotate_left; exact ⟨rfl, mayp_no HH.out (fun h => hb ((h.2.1 k H2.out y HX.out).2.1)) FV.out⟩)
        have HB2 := Lib.hid hb
        clear hb
        have hlen : (p.ads.take k).length = k := by have := H2.out; simp; omega
        have HLEN := Lib.hid hlen
        have hsS := HSS.out
        clear hlen
        go_upto_region 9 with ((with_reducible (show wpList _ _ _ (Oper.mk _ (Op.slice 22 _ _ _ _) _ _ _ _ :: _) _ _)); refine wpList_val rfl (exec_slice_hA (.tmp 27) (.tmp 28) rfl rfl rfl AT.sl (HSL.out _)) ?_)
        have hsV := hsS.keep gV (by simp)
        have HSV := Lib.hid hsV
        clear gV d0 q0 q1 hsS hsV hgt
        generalize hg3 : wr.heap.size = g3 at *
        clear hg3
        go_loopw [31] (InRel p.ads y k w5) (fun cv _ => k - (intOf cv).toNat)
        case atStart => exact ⟨0, by omega, rfl, fun j hj => by omega, Frm.refl _ _⟩
        case round =>
          obtain ⟨i, hi, rfl, hdi, fi⟩ := hrel
          have HDI := Lib.hid hdi
          have FI := Lib.hid fi
          clear hdi fi
          by_cases hik : i < k
          · have hi2 : i < (p.ads.take k).length := by rw [HLEN.out]; exact hik
            have hz : p.ads[i]? = some (p.ads.take k)[i] := by
              rw [List.getElem_take, List.getElem?_eq_getElem]
            have hsS2 := HSV.out.keep FI.out (by simp)
            obtain ⟨b1, off1, rfl⟩ : ∃ b1 off1, sa = some ⟨b1, off1, none⟩ := HSV.out.at (by omega)
            obtain ⟨e0, e1⟩ := hsS2.cells i hi2
            generalize (p.ads.take k)[i] = z at *
            have HZ := Lib.hid hz
            have q0 : wr.cell? ⟨g3, 0, none⟩ = some (.int .i64 y.1) := by rw [cell_of_heap (FI.out.heap HV.out (by simp))]; rfl
            clear hz hsS2 hi2
            have q1 : wr.heap[g3]? = some (.cells #[.int .i64 y.1, .int .i64 y.2] 46 (0, 0)) := FI.out.heap HV.out (by simp)
            have ltg : g3 < wr.heap.size := lt_heap q1
            clear q1
            go_upto_region 11 with (fail)
            have r0 : (wr.alloc (.cells #[.int .i64 z.1, .int .i64 z.2] 46)).cell? ⟨wr.heap.size, 0, none⟩ = some (.int .i64 z.1) := by simp [go_sem]
            have q2 : (wr.alloc (.cells #[.int .i64 z.1, .int .i64 z.2] 46)).cell? ⟨g3, 0, none⟩ = some (.int .i64 y.1) := ((Frm.refl [] wr).alloc _).cell q0 (by simp)
            have fI := FI.out.alloc (.cells #[.int .i64 z.1, .int .i64 z.2] 46)
            generalize hg5 : wr.heap.size = g5 at *
            generalize wr.alloc (.cells #[.int .i64 z.1, .int .i64 z.2] 46) = U at *
            have FU := Lib.hid fI
            clear fI q0 e0 e1
            go_upto_region 12 with (go_at_call 60; refine (demand_any _ _).mono ?_; rintro r w6 ⟨⟨rfl, hb⟩ | ⟨rfl, hb⟩, rfl⟩; rotate_left; exact ⟨rfl, mayp_no HH.out (fun h => hb (by have := (h.2.1 k H2.out y HX.out).2.2 i hik z HZ.out; simpa using this)) (FV.out.trans FU.out (by simp))⟩)
            have HB := Lib.hid hb
            clear hb q2 r0
            go_wp2_with fail
            go_roundw
            case rel =>
              refine ⟨i + 1, by omega, by go_num, fun j hj y' hy' => ?_, FU.out⟩
              rcases Nat.lt_or_ge j i with h | h
              · exact HDI.out j h y' hy'
              · obtain rfl : j = i := by omega
                rw [HZ.out] at hy'
                cases hy'
                have := HB.out
                simpa using this
            case measure => simp [intOf]; omega
          · obtain rfl : i = k := by omega
            go_wp2_with fail
            go_roundw
            case rel =>
              refine ⟨i + 1, H2.out, by go_num, fun j hj => ?_, PV.out.keep FI.out (by simp), FV.out.trans FI.out (by simp)⟩
              rcases Nat.lt_or_ge j i with h | h
              · exact HOK.out j h
              · obtain rfl : j = i := by omega
                intro x hx
                rw [HX.out] at hx
                cases hx
                exact ⟨HB1.out, HB2.out, HDI.out⟩
            case measure => simp [intOf]; omega
      · obtain rfl : k = n := by omega
        go_wp2_with (go_at_call 73; refine (within_any _ _ _ _).mono ?_; rintro r w4 ⟨⟨rfl, hb⟩ | ⟨rfl, hb⟩, rfl⟩; rotate_left; first | exact ⟨rfl, mayp_no HH.out (fun h => hb h.2.2.1) Fk.out⟩ | exact ⟨rfl, mayp_no HH.out (fun h => hb h.2.2.2) Fk.out⟩)
        go_end0
        rename_i hbb
        exact ⟨Or.inl ⟨rfl, Or.inr ⟨by rw [HN.out]; omega, fun j hj => HOK.out j (by rw [HN.out] at hj; exact hj), hbb, hb⟩⟩, Fk.out⟩
end Go.Proofs.Ytjjcjocomanohaa
