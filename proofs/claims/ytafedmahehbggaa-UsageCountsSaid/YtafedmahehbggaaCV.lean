/-
  Contract of the document's Sort. No conditions but those that the theorem names.
-/
import Derived.Test.YtafedmahehbggaaSL
import Derived.Test.YtafedmahehbggaaCN
namespace Go.Proofs.Ytafedmahehbggaa
open Go.RowKit Go.Sort Go.Maps
set_option linter.unusedVariables false
set_option linter.unusedSimpArgs false
set_option maxRecDepth 100000

theorem at_world {p : World → Prop} (R : World → Prop) {w : World} (h : R w) (k : ∀ W, R W → p W) : p w := k w h
def RsRel (l : List Ad) (w0 : World) (lv cv : Value) (wr : World) : Prop := ∃ (i : Nat) (sp : List Ad), i ≤ l.length ∧ cv = .int .i64 i ∧ OwnA 25 wr lv (srt (l.take i)) sp ∧ (∀ j ∈ blk lv, w0.heap.size ≤ j) ∧ Frm [] w0 wr
def RiK (out : List Ad) (x : Ad) (w0 : World) (cv : Value) (wr : World) : Prop := ∃ k : Nat, k ≤ cnt x out ∧ cv = .int .i64 k ∧ Frm [] w0 wr
set_option maxHeartbeats 8000000 in
theorem RefSort_any (v : Value) (l sp : List Ad) (w : World) (hS : SlA w v l sp) (hl : l.length ≤ 100000) : Calls Try.prog 57 #[v] w (Told w (srt l)) := by
  obtain ⟨a, cap, rfl, _, _⟩ := hS.form
  have hl9 : ((l.length : Nat) : Int) ≤ 100000 := by omega
  have l2' : ∀ (x1 x2 y1 y2 : Int) W, Calls Try.prog 62 #[.agg #[.int .i64 x1, .int .i64 x2], .agg #[.int .i64 y1, .int .i64 y2]] W (fun e w' => e = .returned (.bool (ltA (x1, x2) (y1, y2))) ∧ Frm [] W w') := fun x1 x2 y1 y2 W => RefLess_any (x1, x2) (y1, y2) W
  have L2 := Lib.hid l2'
  have HS := Lib.hid hS
  have HL := Lib.hid hl
  clear hS hl l2'
  go_enter Try.func57, Try.ntmps57
  go_wp2_with fail
  go_loopw [3, 4] (RsRel l w) (fun _ cv _ => l.length - (intOf cv).toNat)
  case atStart => exact ⟨0, [], by omega, rfl, by simpa [srt] using OwnA.nil 25 _, by simp [blk], Frm.refl _ _⟩
  case round =>
    obtain ⟨i, spo, hi, rfl, o, nb, f⟩ := hrel
    obtain ⟨ao, co, rfl, _, _⟩ := o.sl.form
    generalize wr = wo at *
    by_cases hlt : i < l.length
    · have hsn : srt (l.take (i + 1)) = ins l[i] (srt (l.take i)) := by rw [setOf_step l i hlt, srt_snoc]
      have hol : (srt (l.take i)).length ≤ i := Nat.le_trans (srt_length _) (by simp; omega)
      generalize hout : srt (l.take i) = out at *
      have O := Lib.hid o
      have N := Lib.hid nb
      have F := Lib.hid f
      have SN := Lib.hid hsn
      have OL := Lib.hid hol
      have HI := Lib.hid hlt
      have HO := Lib.hid hout
      have ho9 : (out.length : Int) ≤ 100000 := by omega
      have i9 : (i : Int) < (l.length : Int) := by omega
      clear o nb f hsn hol hout
      go_wp2_with fail
      go_loopw [5] (RiK out l[i] wo) (fun cv _ => out.length - (intOf cv).toNat)
      case atStart => exact ⟨0, by omega, rfl, Frm.refl _ _⟩
      case round =>
        obtain ⟨k, hk, rfl, g⟩ := hrel
        have hcl := cnt_le l[i] out
        obtain ⟨b0, off, rfl⟩ := HS.out.at (by omega)
        obtain ⟨d0, d1⟩ := ((HS.out.keep F.out (by simp)).keep g (by simp)).cells i hlt
        by_cases hlc : k < cnt l[i] out
        · have hko : k < out.length := by omega
          obtain ⟨b1, off1, rfl⟩ := O.out.sl.at (by omega)
          obtain ⟨c0, c1⟩ := (O.out.sl.keep g (by simp)).cells k hko
          have hlt1 : ltA (out[k].1, out[k].2) (l[i].1, l[i].2) = true := cnt_lt l[i] out k hko hlc
          have HLC := Lib.hid hlc
          generalize hx : l[i] = x at *
          generalize out[k] = y at *
          have k9 : (k : Int) < (out.length : Int) := by omega
          have G := Lib.hid g
          have HK := Lib.hid hko
          clear g hx hcl hk hlc
          go_wp2_with fail
          go_region_held3 (fun z => z.cell? ⟨b0, off + i * 2, none⟩ = some (.int .i64 x.1) ∧ z.cell? ⟨b0, off + i * 2 + 1, none⟩ = some (.int .i64 x.2) ∧ z.cell? ⟨b1, off1 + k * 2, none⟩ = some (.int .i64 y.1) ∧ z.cell? ⟨b1, off1 + k * 2 + 1, none⟩ = some (.int .i64 y.2) ∧ Frm [] wo z)
            (first | exact ⟨d0, d1, c0, c1, G.out.drew⟩ | (go_split_ands; exact ⟨f1.cell ‹_› (by simp), f1.cell ‹_› (by simp), f1.cell ‹_› (by simp), f1.cell ‹_› (by simp), (‹Frm [] _ _›).trans f1 (by simp)⟩) | go_keep)
            (first | (go_at_call 62; (with_reducible refine (L2.out _ _ _ _ _).mono ?_); rintro r w1 ⟨rfl, f1⟩))
          rename_i hh
          have FG := Lib.hid hh.2.2.2.2
          have HLC2 := HLC
          clear hh
          go_wp2_with fail
          go_roundw
          case rel => exact ⟨k + 1, HLC2.out, by go_num, FG.out⟩
          case measure => simp [intOf]; omega
        · obtain hkc : k = cnt l[i] out := by omega
          by_cases hko : k < out.length
          · obtain ⟨b1, off1, rfl⟩ := O.out.sl.at (by omega)
            obtain ⟨c0, c1⟩ := (O.out.sl.keep g (by simp)).cells k hko
            have hlt1 : ltA (out[k].1, out[k].2) (l[i].1, l[i].2) = false := by
              have := cnt_at l[i] out (by omega)
              simp only [← hkc] at this
              exact this
            have hins : (out[k] = l[i] ∧ ins l[i] out = out) ∨ (out[k] ≠ l[i] ∧ ins l[i] out = out.take k ++ l[i] :: out.drop k) := by
              unfold ins
              rw [← hkc, List.getElem?_eq_getElem hko]
              by_cases e : out[k] = l[i]
              · left; rw [if_pos (by rw [e])]; exact ⟨e, rfl⟩
              · right; rw [if_neg (by simpa using e)]; exact ⟨e, rfl⟩
            generalize hx : l[i] = x at *
            generalize out[k] = y at *
            have k9 : (k : Int) < (out.length : Int) := by omega
            have kne : ((k : Int) == (out.length : Int)) = false := by simp; omega
            have G := Lib.hid g
            have HK := Lib.hid hko
            clear g hx hcl hk hkc hlc
            go_wp2_with fail
            go_region_held3 (fun z => z.cell? ⟨b0, off + i * 2, none⟩ = some (.int .i64 x.1) ∧ z.cell? ⟨b0, off + i * 2 + 1, none⟩ = some (.int .i64 x.2) ∧ z.cell? ⟨b1, off1 + k * 2, none⟩ = some (.int .i64 y.1) ∧ z.cell? ⟨b1, off1 + k * 2 + 1, none⟩ = some (.int .i64 y.2) ∧ Frm [] wo z)
            (first | exact ⟨d0, d1, c0, c1, G.out.drew⟩ | (go_split_ands; exact ⟨f1.cell ‹_› (by simp), f1.cell ‹_› (by simp), f1.cell ‹_› (by simp), f1.cell ‹_› (by simp), (‹Frm [] _ _›).trans f1 (by simp)⟩) | go_keep)
            (first | (go_at_call 62; (with_reducible refine (L2.out _ _ _ _ _).mono ?_); rintro r w1 ⟨rfl, f1⟩))
            rename_i hh
            obtain ⟨d0, d1, c0, c1, fg⟩ := hh
            have FG := Lib.hid fg
            clear fg
            rcases hins with ⟨rfl, hin⟩ | ⟨hne, hin⟩
            · rw [hin] at SN
              clear hin
              go_wp2_with fail
              go_quiet (fail)
              go_wp2_with fail
              go_roundw
              case rel => exact ⟨i + 1, spo, by have := HI.out; omega, by go_num, by rw [SN.out]; exact O.out.keep (FG.out.drewN _) (by simp), N.out, F.out.trans (FG.out.drewN _) (by simp)⟩
              case measure => have := HI.out; simp [intOf]; omega
            · rw [hin] at SN
              clear hin
              rcases unlike hne with h1 | ⟨h1, h2⟩
              all_goals
                clear hne
                go_wp2_with fail
                go_quiet (fail)
                go_wp2_with fail
                refine at_world (p := fun W => Code.wp _ _ _ _ W) (R := fun W => Frm [] wo W ∧ W.cell? ⟨b0, off + i * 2, none⟩ = some (.int .i64 x.1) ∧ W.cell? ⟨b0, off + i * 2 + 1, none⟩ = some (.int .i64 x.2)) ⟨FG.out.drewN _, d0, d1⟩ ?_
                rintro W0 ⟨fw, e0, e1⟩
                have FW := Lib.hid fw
                have hko9 : k ≤ out.length := by have := HK.out; omega
                have OL9 := Lib.hid (show out.length ≤ 100000 by have := OL.out; have := HL.out; have := HI.out; omega)
                have B0 := Lib.hid (World.block_lt_of_cell? W0 _ e0)
                obtain ⟨ao9, hao9⟩ : ∃ ao9, some (⟨b1, off1, none⟩ : Addr) = ao9 := ⟨_, rfl⟩
                rw [hao9] at O N ⊢
                clear fw d0 d1 c0 c1 hlt1 hao9 k9 kne
                obtain ⟨a1, c1, hs1, cut1⟩ := slice_hA AT (O.out.sl.keep FW.out (by simp)) k hko9
                obtain ⟨a2, c2, hs2, cut2⟩ := slice_lA AT (O.out.sl.keep FW.out (by simp)) k hko9
                have HTK := Lib.hid (show (out.take k).length = k by simp; omega)
                have HLN := Lib.hid (show (out.take k ++ [x]).length + (out.drop k).length = out.length + 1 by simp; omega)
                have hsl1 : ∀ wx, (Instr.slice 30 (.slice ao9 out.length co) none (some (.int .i64 (k : Int))) none).run Try.prog wx = .ok (.slice a1 k c1) wx := fun wx => hs1 k wx rfl
                have hsl2 : ∀ wx, (Instr.slice 30 (.slice ao9 out.length co) (some (.int .i64 (k : Int))) none none).run Try.prog wx = .ok (.slice a2 (out.length - k) c2) wx := fun wx => hs2 k wx rfl
                have CUT1 := Lib.hid cut1
                have CUT2 := Lib.hid cut2
                clear hs1 cut1 hs2 cut2
                refine wp_region_any (by kernel_rfl) ?_
                change wpAny _ _ _ _ _ _ _ (World.drew _)
                refine wpAny_take (i := 1) (oi := { dst := some 45, op := Op.move (Operand.tmp 3), type := 30, pos := "ref.go:45", after := #[], guard := none }) (v := ?_) rfl (by kernel_rfl) (by kernel_rfl) (by kernel_rfl) (fun _ _ _ h => h) (Or.inl ⟨by rfl, ?_⟩) ?_
                rotate_left
                focus (intro w; go_simp; try with_reducible rfl)
                try simp only [Act.put, List.setIfInBounds_toArray, List.set_cons_zero, List.set_cons_succ]
                refine wpAny_take (i := 2) (oi := { dst := some 46, op := Op.move (Operand.tmp 5), type := 3, pos := "ref.go:45", after := #[], guard := none }) (v := ?_) rfl (by kernel_rfl) (by kernel_rfl) (by kernel_rfl) (fun _ _ _ h => h) (Or.inl ⟨by rfl, ?_⟩) ?_
                rotate_left
                focus (intro w; go_simp; try with_reducible rfl)
                try simp only [Act.put, List.setIfInBounds_toArray, List.set_cons_zero, List.set_cons_succ]
                refine wpAny_take (i := 3) (oi := { dst := some 47, op := Op.slice 30 (Operand.tmp 45) none (some (Operand.tmp 46)) none, type := 30, pos := "ref.go:45", after := #[{ on := 1, ground := Ground.data }, { on := 2, ground := Ground.data }], guard := none }) (v := .slice a1 k c1) rfl (by kernel_rfl) (by kernel_rfl) (by kernel_rfl) (fun _ _ _ h => h) (Or.inl ⟨by rfl, fun wx => exec_slice_hA (.tmp 45) (.tmp 46) rfl rfl rfl (by kernel_rfl) (hsl1 wx)⟩) ?_
                try simp only [Act.put, List.setIfInBounds_toArray, List.set_cons_zero, List.set_cons_succ]
                refine wpAny_take (i := 5) (oi := { dst := some 49, op := Op.move (Operand.tmp 0), type := 30, pos := "ref.go:45", after := #[], guard := none }) (v := ?_) rfl (by kernel_rfl) (by kernel_rfl) (by kernel_rfl) (fun _ _ _ h => h) (Or.inl ⟨by rfl, ?_⟩) ?_
                rotate_left
                focus (intro w; go_simp; try with_reducible rfl)
                try simp only [Act.put, List.setIfInBounds_toArray, List.set_cons_zero, List.set_cons_succ]
                refine wpAny_take (i := 6) (oi := { dst := some 50, op := Op.move (Operand.tmp 4), type := 3, pos := "ref.go:45", after := #[], guard := none }) (v := ?_) rfl (by kernel_rfl) (by kernel_rfl) (by kernel_rfl) (fun _ _ _ h => h) (Or.inl ⟨by rfl, ?_⟩) ?_
                rotate_left
                focus (intro w; go_simp; try with_reducible rfl)
                try simp only [Act.put, List.setIfInBounds_toArray, List.set_cons_zero, List.set_cons_succ]
                refine wpAny_take (i := 7) (oi := { dst := some 51, op := Op.indexAddr 30 (Operand.tmp 49) (Operand.tmp 50), type := 0, pos := "ref.go:45", after := #[{ on := 5, ground := Ground.data }, { on := 6, ground := Ground.data }], guard := none }) (v := ?_) rfl (by kernel_rfl) (by kernel_rfl) (by kernel_rfl) (fun _ _ _ h => h) (Or.inl ⟨by rfl, ?_⟩) ?_
                rotate_left
                focus (intro w; go_simp; try with_reducible rfl)
                try simp only [Act.put, List.setIfInBounds_toArray, List.set_cons_zero, List.set_cons_succ]
                refine wpAny_take (i := 11) (oi := { dst := some 55, op := Op.move (Operand.tmp 3), type := 30, pos := "ref.go:45", after := #[], guard := none }) (v := ?_) rfl (by kernel_rfl) (by kernel_rfl) (by kernel_rfl) (fun _ _ _ h => h) (Or.inl ⟨by rfl, ?_⟩) ?_
                rotate_left
                focus (intro w; go_simp; try with_reducible rfl)
                try simp only [Act.put, List.setIfInBounds_toArray, List.set_cons_zero, List.set_cons_succ]
                refine wpAny_take (i := 12) (oi := { dst := some 56, op := Op.move (Operand.tmp 5), type := 3, pos := "ref.go:45", after := #[], guard := none }) (v := ?_) rfl (by kernel_rfl) (by kernel_rfl) (by kernel_rfl) (fun _ _ _ h => h) (Or.inl ⟨by rfl, ?_⟩) ?_
                rotate_left
                focus (intro w; go_simp; try with_reducible rfl)
                try simp only [Act.put, List.setIfInBounds_toArray, List.set_cons_zero, List.set_cons_succ]
                refine wpAny_take (i := 13) (oi := { dst := some 57, op := Op.slice 30 (Operand.tmp 55) (some (Operand.tmp 56)) none none, type := 30, pos := "ref.go:45", after := #[{ on := 11, ground := Ground.data }, { on := 12, ground := Ground.data }], guard := none }) (v := .slice a2 (out.length - k) c2) rfl (by kernel_rfl) (by kernel_rfl) (by kernel_rfl) (fun _ _ _ h => h) (Or.inl ⟨by rfl, fun wx => exec_slice_lA (.tmp 55) (.tmp 56) rfl rfl rfl (by kernel_rfl) (hsl2 wx)⟩) ?_
                try simp only [Act.put, List.setIfInBounds_toArray, List.set_cons_zero, List.set_cons_succ]
                refine at_world (p := fun W => wpAny _ _ _ _ _ _ _ W) (R := fun Y => Frm [] W0 Y ∧ Y.cell? ⟨b0, off + i * 2, none⟩ = some (.int .i64 x.1) ∧ Y.cell? ⟨b0, off + i * 2 + 1, none⟩ = some (.int .i64 x.2)) ⟨(Frm.refl [] W0).drew, e0, e1⟩ ?_
                rintro Y0 ⟨fy, e0, e1⟩
                have FY0 := Lib.hid fy
                clear fy
                refine wpAny_ready (rs := [0, 8]) (by kernel_rfl) (by simp) ?_
                refine AllReady.cons (o := { dst := some 44, op := Op.buildSlice 30 0 #[], type := 30, pos := "ref.go:45", after := #[], guard := none }) rfl (fun K hK => ?_) ?_
                · go_simp
                  refine hK _ _ ?_
                  clear hK K
                  obtain ⟨g44, hg44⟩ : ∃ g44, Y0.heap.size = g44 := ⟨_, rfl⟩
                  rw [hg44]
                  refine at_world (p := fun W => wpAny _ _ _ _ _ _ _ W) (R := fun Y => Frm [] W0 Y ∧ Y.cell? ⟨b0, off + i * 2, none⟩ = some (.int .i64 x.1) ∧ Y.cell? ⟨b0, off + i * 2 + 1, none⟩ = some (.int .i64 x.2) ∧ Y.heap[g44]? = some (.cells #[] 25 (0, 0)) ∧ W0.heap.size ≤ g44) ⟨FY0.out.alloc _, ((Frm.refl [] _).alloc _).cell e0 (by simp), ((Frm.refl [] _).alloc _).cell e1 (by simp), heap_alloc_at hg44.symm, by have := FY0.out.size; omega⟩ ?_
                  rintro Y1 ⟨fy, e0, e1, gh, g9⟩
                  have FY1 := Lib.hid fy
                  have GH1 := Lib.hid gh
                  have G91 := Lib.hid g9
                  clear fy gh g9 hg44
                  refine wpAny_ready (rs := [4, 8]) (by kernel_rfl) (by simp) ?_
                  refine AllReady.cons (o := { dst := some 48, op := Op.call { callee := Callee.builtin Builtin.append, args := #[Operand.tmp 44, Operand.tmp 47], argTypes := #[30, 30] }, type := 30, pos := "ref.go:45", after := #[{ on := 0, ground := Ground.data }, { on := 3, ground := Ground.data }], guard := none }) rfl (fun K hK => ?_) ?_
                  · refine step_append_ads AT (l := []) (sp := []) (OwnA.of_heap GH1.out rfl rfl (by simp)) (CUT1.out.keep FY1.out (by simp)) (by have := OL9.out; simp; omega) (by rfl) (.tmp 44) (.tmp 47) (by rfl) (by simp [Act.eval, Act.put]) (by rfl) ?_
                    intro a4 cap4 w4 sp4 o4 f4 n4
                    simp only [List.length_nil, Nat.zero_add, List.nil_append] at o4 n4 ⊢
                    rw [HTK.out] at o4 n4 ⊢
                    have hn4 : ∀ i ∈ blk (.slice a4 k cap4), W0.heap.size ≤ i := fun i hi => by
                      rcases n4 i hi with h | h
                      · simp [blk] at h; have := G91.out; omega
                      · have := FY1.out.size; omega
                    have F42 := Lib.hid (FY1.out.trans f4 (fun i hi => .inr (by simp [blk] at hi; have := G91.out; omega)))
                    have O42 := Lib.hid o4
                    have N42 := Lib.hid hn4
                    have hb0 : b0 < W0.heap.size := B0.out
                    have e0 := f4.cell e0 (by simp [blk]; have := G91.out; omega)
                    have e1 := f4.cell e1 (by simp [blk]; have := G91.out; omega)
                    clear o4 f4 n4 hn4 hb0
                    refine hK _ _ ?_
                    clear hK K
                    refine wpAny_ready (rs := [8]) (by kernel_rfl) (by simp) ?_
                    refine AllReady.cons (o := { dst := some 52, op := Op.load 25 (Operand.tmp 51), type := 25, pos := "ref.go:45", after := #[{ on := 7, ground := Ground.data }], guard := none }) rfl (fun K hK => ?_) ?_
                    · go_simp
                      refine hK _ _ ?_
                      clear hK K
                      refine wpAny_ready (rs := [9]) (by kernel_rfl) (by simp) ?_
                      refine AllReady.cons (o := { dst := some 53, op := Op.buildSlice 30 1 #[(0, Operand.tmp 52)], type := 30, pos := "ref.go:45", after := #[{ on := 8, ground := Ground.data }], guard := none }) rfl (fun K hK => ?_) ?_
                      · go_simp
                        refine hK _ _ ?_
                        clear hK K
                        obtain ⟨g53, hg53⟩ : ∃ g53, w4.heap.size = g53 := ⟨_, rfl⟩
                        rw [hg53]
                        refine at_world (p := fun W => wpAny _ _ _ _ _ _ _ W) (R := fun Y => Frm [] W0 Y ∧ Y.cell? ⟨b0, off + i * 2, none⟩ = some (.int .i64 x.1) ∧ Y.cell? ⟨b0, off + i * 2 + 1, none⟩ = some (.int .i64 x.2) ∧ Y.heap[g53]? = some (.cells #[.int .i64 x.1, .int .i64 x.2] 25 (0, 0)) ∧ OwnA 25 Y (.slice a4 k cap4) (out.take k) sp4) ⟨F42.out.alloc _, ((Frm.refl [] _).alloc _).cell e0 (by simp), ((Frm.refl [] _).alloc _).cell e1 (by simp), heap_alloc_at hg53.symm, O42.out.keep ((Frm.refl [] _).alloc _) (by simp)⟩ ?_
                        rintro Y3 ⟨fy, e0, e1, xh, oy⟩
                        have FY3 := Lib.hid fy
                        have XH3 := Lib.hid xh
                        have X3 := Lib.hid (sla_one xh)
                        have O3 := Lib.hid oy
                        clear oy
                        clear fy xh hg53
                        refine wpAny_ready (rs := [10]) (by kernel_rfl) (by simp) ?_
                        refine AllReady.cons (o := { dst := some 54, op := Op.call { callee := Callee.builtin Builtin.append, args := #[Operand.tmp 48, Operand.tmp 53], argTypes := #[30, 30] }, type := 30, pos := "ref.go:45", after := #[{ on := 4, ground := Ground.data }, { on := 9, ground := Ground.data }, { on := 4, ground := Ground.chain }], guard := none }) rfl (fun K hK => ?_) ?_
                        · refine step_append_ads AT O3.out X3.out (by have := OL9.out; simp; omega) (by rfl) (.tmp 48) (.tmp 53) (by rfl) (by rfl) (by rfl) ?_
                          intro a5 cap5 w5 sp5 o5 f5 n5
                          rw [HTK.out] at o5 n5 ⊢
                          simp only [List.length_cons, List.length_nil, Nat.zero_add] at o5 n5 ⊢
                          have F5 := Lib.hid (FY3.out.trans f5 (fun i hi => .inr (N42.out i hi)))
                          have N5 := Lib.hid (show ∀ i ∈ blk (.slice a5 (k + 1) cap5), W0.heap.size ≤ i from fun i hi => by
                            rcases n5 i hi with h | h
                            · exact N42.out i h
                            · have := FY3.out.size; omega)
                          have O5 := Lib.hid o5
                          clear o5 f5 n5
                          refine hK _ _ ?_
                          clear hK K
                          refine wpAny_ready (rs := [14]) (by kernel_rfl) (by simp) ?_
                          refine AllReady.cons (o := { dst := some 58, op := Op.call { callee := Callee.builtin Builtin.append, args := #[Operand.tmp 54, Operand.tmp 57], argTypes := #[30, 30] }, type := 30, pos := "ref.go:45", after := #[{ on := 10, ground := Ground.data }, { on := 13, ground := Ground.data }, { on := 10, ground := Ground.chain }], guard := none }) rfl (fun K hK => ?_) ?_
                          · refine step_append_ads AT (l := out.take k ++ [x]) O5.out (CUT2.out.keep F5.out (by simp)) (by have := OL9.out; simp; omega) (by rfl) (.tmp 54) (.tmp 57) (by rfl) (by simp [Act.eval, Act.put]) (by rfl) ?_
                            intro a6 cap6 w6 sp6 o6 f6 n6
                            rw [HLN.out] at o6 n6 ⊢
                            have hnew : RsRel l w (.slice a6 (out.length + 1) cap6) (.int .i64 ((i : Int) + 1)) w6 := ⟨i + 1, sp6, by have := HI.out; omega, by go_num, by rw [SN.out]; simpa using o6, fun j hj => by
                              rcases n6 j hj with h | h
                              · have h1 := N5.out j h; have h2 := FW.out.size; have h3 := F.out.size; omega
                              · have h2 := FW.out.size; have h3 := F.out.size; have h4 := F5.out.size; omega, ((F.out.trans FW.out (by simp)).trans F5.out (by simp)).trans f6 (fun j hj => .inr (by have h1 := N5.out j hj; have h2 := FW.out.size; have h3 := F.out.size; omega))⟩
                            have HNW := Lib.hid hnew
                            clear hnew o6 f6 n6
                            refine hK _ _ ?_
                            clear hK K
                            refine wpAny_take (i := 15) (oi := { dst := some 3, op := Op.assign (Operand.tmp 58), type := 30, pos := "ref.go:45", after := #[{ on := 14, ground := Ground.data }, { on := 14, ground := Ground.chain }, { on := 0, ground := Ground.phase }, { on := 1, ground := Ground.phase }, { on := 2, ground := Ground.phase }, { on := 3, ground := Ground.phase }, { on := 4, ground := Ground.phase }, { on := 5, ground := Ground.phase }, { on := 6, ground := Ground.phase }, { on := 7, ground := Ground.phase }, { on := 8, ground := Ground.phase }, { on := 9, ground := Ground.phase }, { on := 10, ground := Ground.phase }, { on := 11, ground := Ground.phase }, { on := 12, ground := Ground.phase }, { on := 13, ground := Ground.phase }, { on := 14, ground := Ground.phase }], guard := none }) (v := ?_) rfl (by kernel_rfl) (by kernel_rfl) (by kernel_rfl) (fun _ _ _ h => h) (Or.inl ⟨by rfl, ?_⟩) ?_
                            rotate_left
                            focus (intro w; go_simp; try with_reducible rfl)
                            try simp only [Act.put, List.setIfInBounds_toArray, List.set_cons_zero, List.set_cons_succ]
                            refine wpAny_done (by kernel_rfl) ?_ _
                            have HI2 := HI
                            clear CUT1 CUT2 O5 F5 N5 hsl1 hsl2
                            go_wp2_with fail
                            go_roundw
                            case rel => exact HNW.out
                            case measure => have := HI2.out; simp [intOf]; omega
                          exact AllReady.nil
                        exact AllReady.nil
                      exact AllReady.nil
                    exact AllReady.nil
                  refine AllReady.cons (o := { dst := some 52, op := Op.load 25 (Operand.tmp 51), type := 25, pos := "ref.go:45", after := #[{ on := 7, ground := Ground.data }], guard := none }) rfl (fun K hK => ?_) ?_
                  · go_simp
                    refine hK _ _ ?_
                    clear hK K
                    refine wpAny_ready (rs := [4, 9]) (by kernel_rfl) (by simp) ?_
                    refine AllReady.cons (o := { dst := some 48, op := Op.call { callee := Callee.builtin Builtin.append, args := #[Operand.tmp 44, Operand.tmp 47], argTypes := #[30, 30] }, type := 30, pos := "ref.go:45", after := #[{ on := 0, ground := Ground.data }, { on := 3, ground := Ground.data }], guard := none }) rfl (fun K hK => ?_) ?_
                    · refine step_append_ads AT (l := []) (sp := []) (OwnA.of_heap GH1.out rfl rfl (by simp)) (CUT1.out.keep FY1.out (by simp)) (by have := OL9.out; simp; omega) (by rfl) (.tmp 44) (.tmp 47) (by rfl) (by simp [Act.eval, Act.put]) (by rfl) ?_
                      intro a4 cap4 w4 sp4 o4 f4 n4
                      simp only [List.length_nil, Nat.zero_add, List.nil_append] at o4 n4 ⊢
                      rw [HTK.out] at o4 n4 ⊢
                      have hn4 : ∀ i ∈ blk (.slice a4 k cap4), W0.heap.size ≤ i := fun i hi => by
                        rcases n4 i hi with h | h
                        · simp [blk] at h; have := G91.out; omega
                        · have := FY1.out.size; omega
                      have F45 := Lib.hid (FY1.out.trans f4 (fun i hi => .inr (by simp [blk] at hi; have := G91.out; omega)))
                      have O45 := Lib.hid o4
                      have N45 := Lib.hid hn4
                      have hb0 : b0 < W0.heap.size := B0.out
                      have e0 := f4.cell e0 (by simp [blk]; have := G91.out; omega)
                      have e1 := f4.cell e1 (by simp [blk]; have := G91.out; omega)
                      clear o4 f4 n4 hn4 hb0
                      refine hK _ _ ?_
                      clear hK K
                      refine wpAny_ready (rs := [9]) (by kernel_rfl) (by simp) ?_
                      refine AllReady.cons (o := { dst := some 53, op := Op.buildSlice 30 1 #[(0, Operand.tmp 52)], type := 30, pos := "ref.go:45", after := #[{ on := 8, ground := Ground.data }], guard := none }) rfl (fun K hK => ?_) ?_
                      · go_simp
                        refine hK _ _ ?_
                        clear hK K
                        obtain ⟨g53, hg53⟩ : ∃ g53, w4.heap.size = g53 := ⟨_, rfl⟩
                        rw [hg53]
                        refine at_world (p := fun W => wpAny _ _ _ _ _ _ _ W) (R := fun Y => Frm [] W0 Y ∧ Y.cell? ⟨b0, off + i * 2, none⟩ = some (.int .i64 x.1) ∧ Y.cell? ⟨b0, off + i * 2 + 1, none⟩ = some (.int .i64 x.2) ∧ Y.heap[g53]? = some (.cells #[.int .i64 x.1, .int .i64 x.2] 25 (0, 0)) ∧ OwnA 25 Y (.slice a4 k cap4) (out.take k) sp4) ⟨F45.out.alloc _, ((Frm.refl [] _).alloc _).cell e0 (by simp), ((Frm.refl [] _).alloc _).cell e1 (by simp), heap_alloc_at hg53.symm, O45.out.keep ((Frm.refl [] _).alloc _) (by simp)⟩ ?_
                        rintro Y6 ⟨fy, e0, e1, xh, oy⟩
                        have FY6 := Lib.hid fy
                        have XH6 := Lib.hid xh
                        have X6 := Lib.hid (sla_one xh)
                        have O6 := Lib.hid oy
                        clear oy
                        clear fy xh hg53
                        refine wpAny_ready (rs := [10]) (by kernel_rfl) (by simp) ?_
                        refine AllReady.cons (o := { dst := some 54, op := Op.call { callee := Callee.builtin Builtin.append, args := #[Operand.tmp 48, Operand.tmp 53], argTypes := #[30, 30] }, type := 30, pos := "ref.go:45", after := #[{ on := 4, ground := Ground.data }, { on := 9, ground := Ground.data }, { on := 4, ground := Ground.chain }], guard := none }) rfl (fun K hK => ?_) ?_
                        · refine step_append_ads AT O6.out X6.out (by have := OL9.out; simp; omega) (by rfl) (.tmp 48) (.tmp 53) (by rfl) (by rfl) (by rfl) ?_
                          intro a5 cap5 w5 sp5 o5 f5 n5
                          rw [HTK.out] at o5 n5 ⊢
                          simp only [List.length_cons, List.length_nil, Nat.zero_add] at o5 n5 ⊢
                          have F5 := Lib.hid (FY6.out.trans f5 (fun i hi => .inr (N45.out i hi)))
                          have N5 := Lib.hid (show ∀ i ∈ blk (.slice a5 (k + 1) cap5), W0.heap.size ≤ i from fun i hi => by
                            rcases n5 i hi with h | h
                            · exact N45.out i h
                            · have := FY6.out.size; omega)
                          have O5 := Lib.hid o5
                          clear o5 f5 n5
                          refine hK _ _ ?_
                          clear hK K
                          refine wpAny_ready (rs := [14]) (by kernel_rfl) (by simp) ?_
                          refine AllReady.cons (o := { dst := some 58, op := Op.call { callee := Callee.builtin Builtin.append, args := #[Operand.tmp 54, Operand.tmp 57], argTypes := #[30, 30] }, type := 30, pos := "ref.go:45", after := #[{ on := 10, ground := Ground.data }, { on := 13, ground := Ground.data }, { on := 10, ground := Ground.chain }], guard := none }) rfl (fun K hK => ?_) ?_
                          · refine step_append_ads AT (l := out.take k ++ [x]) O5.out (CUT2.out.keep F5.out (by simp)) (by have := OL9.out; simp; omega) (by rfl) (.tmp 54) (.tmp 57) (by rfl) (by simp [Act.eval, Act.put]) (by rfl) ?_
                            intro a6 cap6 w6 sp6 o6 f6 n6
                            rw [HLN.out] at o6 n6 ⊢
                            have hnew : RsRel l w (.slice a6 (out.length + 1) cap6) (.int .i64 ((i : Int) + 1)) w6 := ⟨i + 1, sp6, by have := HI.out; omega, by go_num, by rw [SN.out]; simpa using o6, fun j hj => by
                              rcases n6 j hj with h | h
                              · have h1 := N5.out j h; have h2 := FW.out.size; have h3 := F.out.size; omega
                              · have h2 := FW.out.size; have h3 := F.out.size; have h4 := F5.out.size; omega, ((F.out.trans FW.out (by simp)).trans F5.out (by simp)).trans f6 (fun j hj => .inr (by have h1 := N5.out j hj; have h2 := FW.out.size; have h3 := F.out.size; omega))⟩
                            have HNW := Lib.hid hnew
                            clear hnew o6 f6 n6
                            refine hK _ _ ?_
                            clear hK K
                            refine wpAny_take (i := 15) (oi := { dst := some 3, op := Op.assign (Operand.tmp 58), type := 30, pos := "ref.go:45", after := #[{ on := 14, ground := Ground.data }, { on := 14, ground := Ground.chain }, { on := 0, ground := Ground.phase }, { on := 1, ground := Ground.phase }, { on := 2, ground := Ground.phase }, { on := 3, ground := Ground.phase }, { on := 4, ground := Ground.phase }, { on := 5, ground := Ground.phase }, { on := 6, ground := Ground.phase }, { on := 7, ground := Ground.phase }, { on := 8, ground := Ground.phase }, { on := 9, ground := Ground.phase }, { on := 10, ground := Ground.phase }, { on := 11, ground := Ground.phase }, { on := 12, ground := Ground.phase }, { on := 13, ground := Ground.phase }, { on := 14, ground := Ground.phase }], guard := none }) (v := ?_) rfl (by kernel_rfl) (by kernel_rfl) (by kernel_rfl) (fun _ _ _ h => h) (Or.inl ⟨by rfl, ?_⟩) ?_
                            rotate_left
                            focus (intro w; go_simp; try with_reducible rfl)
                            try simp only [Act.put, List.setIfInBounds_toArray, List.set_cons_zero, List.set_cons_succ]
                            refine wpAny_done (by kernel_rfl) ?_ _
                            have HI2 := HI
                            clear CUT1 CUT2 O5 F5 N5 hsl1 hsl2
                            go_wp2_with fail
                            go_roundw
                            case rel => exact HNW.out
                            case measure => have := HI2.out; simp [intOf]; omega
                          exact AllReady.nil
                        exact AllReady.nil
                      exact AllReady.nil
                    refine AllReady.cons (o := { dst := some 53, op := Op.buildSlice 30 1 #[(0, Operand.tmp 52)], type := 30, pos := "ref.go:45", after := #[{ on := 8, ground := Ground.data }], guard := none }) rfl (fun K hK => ?_) ?_
                    · go_simp
                      refine hK _ _ ?_
                      clear hK K
                      obtain ⟨g53, hg53⟩ : ∃ g53, Y1.heap.size = g53 := ⟨_, rfl⟩
                      rw [hg53]
                      refine at_world (p := fun W => wpAny _ _ _ _ _ _ _ W) (R := fun Y => Frm [] W0 Y ∧ Y.cell? ⟨b0, off + i * 2, none⟩ = some (.int .i64 x.1) ∧ Y.cell? ⟨b0, off + i * 2 + 1, none⟩ = some (.int .i64 x.2) ∧ Y.heap[g53]? = some (.cells #[.int .i64 x.1, .int .i64 x.2] 25 (0, 0)) ∧ Y.heap[g44]? = some (.cells #[] 25 (0, 0))) ⟨FY1.out.alloc _, ((Frm.refl [] _).alloc _).cell e0 (by simp), ((Frm.refl [] _).alloc _).cell e1 (by simp), heap_alloc_at hg53.symm, heap_alloc_lt GH1.out⟩ ?_
                      rintro Y8 ⟨fy, e0, e1, xh, gh⟩
                      have FY8 := Lib.hid fy
                      have XH8 := Lib.hid xh
                      have X8 := Lib.hid (sla_one xh)
                      have GH8 := Lib.hid gh
                      clear gh
                      have NE8 := Lib.hid (show g53 ≠ g44 from fun e => by have h := lt_heap GH1.out; omega)
                      clear fy xh hg53
                      refine wpAny_ready (rs := [4]) (by kernel_rfl) (by simp) ?_
                      refine AllReady.cons (o := { dst := some 48, op := Op.call { callee := Callee.builtin Builtin.append, args := #[Operand.tmp 44, Operand.tmp 47], argTypes := #[30, 30] }, type := 30, pos := "ref.go:45", after := #[{ on := 0, ground := Ground.data }, { on := 3, ground := Ground.data }], guard := none }) rfl (fun K hK => ?_) ?_
                      · refine step_append_ads AT (l := []) (sp := []) (OwnA.of_heap GH8.out rfl rfl (by simp)) (CUT1.out.keep FY8.out (by simp)) (by have := OL9.out; simp; omega) (by rfl) (.tmp 44) (.tmp 47) (by rfl) (by simp [Act.eval, Act.put]) (by rfl) ?_
                        intro a4 cap4 w4 sp4 o4 f4 n4
                        simp only [List.length_nil, Nat.zero_add, List.nil_append] at o4 n4 ⊢
                        rw [HTK.out] at o4 n4 ⊢
                        have hn4 : ∀ i ∈ blk (.slice a4 k cap4), W0.heap.size ≤ i := fun i hi => by
                          rcases n4 i hi with h | h
                          · simp [blk] at h; have := G91.out; omega
                          · have := FY8.out.size; omega
                        have F49 := Lib.hid (FY8.out.trans f4 (fun i hi => .inr (by simp [blk] at hi; have := G91.out; omega)))
                        have O49 := Lib.hid o4
                        have N49 := Lib.hid hn4
                        have hb0 : b0 < W0.heap.size := B0.out
                        have e0 := f4.cell e0 (by simp [blk]; have := G91.out; omega)
                        have e1 := f4.cell e1 (by simp [blk]; have := G91.out; omega)
                        have X49 := Lib.hid (sla_one (f4.heap XH8.out (by simpa [blk] using NE8.out)))
                        clear o4 f4 n4 hn4 hb0
                        refine hK _ _ ?_
                        clear hK K
                        refine wpAny_ready (rs := [10]) (by kernel_rfl) (by simp) ?_
                        refine AllReady.cons (o := { dst := some 54, op := Op.call { callee := Callee.builtin Builtin.append, args := #[Operand.tmp 48, Operand.tmp 53], argTypes := #[30, 30] }, type := 30, pos := "ref.go:45", after := #[{ on := 4, ground := Ground.data }, { on := 9, ground := Ground.data }, { on := 4, ground := Ground.chain }], guard := none }) rfl (fun K hK => ?_) ?_
                        · refine step_append_ads AT O49.out X49.out (by have := OL9.out; simp; omega) (by rfl) (.tmp 48) (.tmp 53) (by rfl) (by rfl) (by rfl) ?_
                          intro a5 cap5 w5 sp5 o5 f5 n5
                          rw [HTK.out] at o5 n5 ⊢
                          simp only [List.length_cons, List.length_nil, Nat.zero_add] at o5 n5 ⊢
                          have F5 := Lib.hid (F49.out.trans f5 (fun i hi => .inr (N49.out i hi)))
                          have N5 := Lib.hid (show ∀ i ∈ blk (.slice a5 (k + 1) cap5), W0.heap.size ≤ i from fun i hi => by
                            rcases n5 i hi with h | h
                            · exact N49.out i h
                            · have := F49.out.size; omega)
                          have O5 := Lib.hid o5
                          clear o5 f5 n5
                          refine hK _ _ ?_
                          clear hK K
                          refine wpAny_ready (rs := [14]) (by kernel_rfl) (by simp) ?_
                          refine AllReady.cons (o := { dst := some 58, op := Op.call { callee := Callee.builtin Builtin.append, args := #[Operand.tmp 54, Operand.tmp 57], argTypes := #[30, 30] }, type := 30, pos := "ref.go:45", after := #[{ on := 10, ground := Ground.data }, { on := 13, ground := Ground.data }, { on := 10, ground := Ground.chain }], guard := none }) rfl (fun K hK => ?_) ?_
                          · refine step_append_ads AT (l := out.take k ++ [x]) O5.out (CUT2.out.keep F5.out (by simp)) (by have := OL9.out; simp; omega) (by rfl) (.tmp 54) (.tmp 57) (by rfl) (by simp [Act.eval, Act.put]) (by rfl) ?_
                            intro a6 cap6 w6 sp6 o6 f6 n6
                            rw [HLN.out] at o6 n6 ⊢
                            have hnew : RsRel l w (.slice a6 (out.length + 1) cap6) (.int .i64 ((i : Int) + 1)) w6 := ⟨i + 1, sp6, by have := HI.out; omega, by go_num, by rw [SN.out]; simpa using o6, fun j hj => by
                              rcases n6 j hj with h | h
                              · have h1 := N5.out j h; have h2 := FW.out.size; have h3 := F.out.size; omega
                              · have h2 := FW.out.size; have h3 := F.out.size; have h4 := F5.out.size; omega, ((F.out.trans FW.out (by simp)).trans F5.out (by simp)).trans f6 (fun j hj => .inr (by have h1 := N5.out j hj; have h2 := FW.out.size; have h3 := F.out.size; omega))⟩
                            have HNW := Lib.hid hnew
                            clear hnew o6 f6 n6
                            refine hK _ _ ?_
                            clear hK K
                            refine wpAny_take (i := 15) (oi := { dst := some 3, op := Op.assign (Operand.tmp 58), type := 30, pos := "ref.go:45", after := #[{ on := 14, ground := Ground.data }, { on := 14, ground := Ground.chain }, { on := 0, ground := Ground.phase }, { on := 1, ground := Ground.phase }, { on := 2, ground := Ground.phase }, { on := 3, ground := Ground.phase }, { on := 4, ground := Ground.phase }, { on := 5, ground := Ground.phase }, { on := 6, ground := Ground.phase }, { on := 7, ground := Ground.phase }, { on := 8, ground := Ground.phase }, { on := 9, ground := Ground.phase }, { on := 10, ground := Ground.phase }, { on := 11, ground := Ground.phase }, { on := 12, ground := Ground.phase }, { on := 13, ground := Ground.phase }, { on := 14, ground := Ground.phase }], guard := none }) (v := ?_) rfl (by kernel_rfl) (by kernel_rfl) (by kernel_rfl) (fun _ _ _ h => h) (Or.inl ⟨by rfl, ?_⟩) ?_
                            rotate_left
                            focus (intro w; go_simp; try with_reducible rfl)
                            try simp only [Act.put, List.setIfInBounds_toArray, List.set_cons_zero, List.set_cons_succ]
                            refine wpAny_done (by kernel_rfl) ?_ _
                            have HI2 := HI
                            clear CUT1 CUT2 O5 F5 N5 hsl1 hsl2
                            go_wp2_with fail
                            go_roundw
                            case rel => exact HNW.out
                            case measure => have := HI2.out; simp [intOf]; omega
                          exact AllReady.nil
                        exact AllReady.nil
                      exact AllReady.nil
                    exact AllReady.nil
                  exact AllReady.nil
                refine AllReady.cons (o := { dst := some 52, op := Op.load 25 (Operand.tmp 51), type := 25, pos := "ref.go:45", after := #[{ on := 7, ground := Ground.data }], guard := none }) rfl (fun K hK => ?_) ?_
                · go_simp
                  refine hK _ _ ?_
                  clear hK K
                  refine wpAny_ready (rs := [0, 9]) (by kernel_rfl) (by simp) ?_
                  refine AllReady.cons (o := { dst := some 44, op := Op.buildSlice 30 0 #[], type := 30, pos := "ref.go:45", after := #[], guard := none }) rfl (fun K hK => ?_) ?_
                  · go_simp
                    refine hK _ _ ?_
                    clear hK K
                    obtain ⟨g44, hg44⟩ : ∃ g44, Y0.heap.size = g44 := ⟨_, rfl⟩
                    rw [hg44]
                    refine at_world (p := fun W => wpAny _ _ _ _ _ _ _ W) (R := fun Y => Frm [] W0 Y ∧ Y.cell? ⟨b0, off + i * 2, none⟩ = some (.int .i64 x.1) ∧ Y.cell? ⟨b0, off + i * 2 + 1, none⟩ = some (.int .i64 x.2) ∧ Y.heap[g44]? = some (.cells #[] 25 (0, 0)) ∧ W0.heap.size ≤ g44) ⟨FY0.out.alloc _, ((Frm.refl [] _).alloc _).cell e0 (by simp), ((Frm.refl [] _).alloc _).cell e1 (by simp), heap_alloc_at hg44.symm, by have := FY0.out.size; omega⟩ ?_
                    rintro Y11 ⟨fy, e0, e1, gh, g9⟩
                    have FY11 := Lib.hid fy
                    have GH11 := Lib.hid gh
                    have G911 := Lib.hid g9
                    clear fy gh g9 hg44
                    refine wpAny_ready (rs := [4, 9]) (by kernel_rfl) (by simp) ?_
                    refine AllReady.cons (o := { dst := some 48, op := Op.call { callee := Callee.builtin Builtin.append, args := #[Operand.tmp 44, Operand.tmp 47], argTypes := #[30, 30] }, type := 30, pos := "ref.go:45", after := #[{ on := 0, ground := Ground.data }, { on := 3, ground := Ground.data }], guard := none }) rfl (fun K hK => ?_) ?_
                    · refine step_append_ads AT (l := []) (sp := []) (OwnA.of_heap GH11.out rfl rfl (by simp)) (CUT1.out.keep FY11.out (by simp)) (by have := OL9.out; simp; omega) (by rfl) (.tmp 44) (.tmp 47) (by rfl) (by simp [Act.eval, Act.put]) (by rfl) ?_
                      intro a4 cap4 w4 sp4 o4 f4 n4
                      simp only [List.length_nil, Nat.zero_add, List.nil_append] at o4 n4 ⊢
                      rw [HTK.out] at o4 n4 ⊢
                      have hn4 : ∀ i ∈ blk (.slice a4 k cap4), W0.heap.size ≤ i := fun i hi => by
                        rcases n4 i hi with h | h
                        · simp [blk] at h; have := G911.out; omega
                        · have := FY11.out.size; omega
                      have F412 := Lib.hid (FY11.out.trans f4 (fun i hi => .inr (by simp [blk] at hi; have := G911.out; omega)))
                      have O412 := Lib.hid o4
                      have N412 := Lib.hid hn4
                      have hb0 : b0 < W0.heap.size := B0.out
                      have e0 := f4.cell e0 (by simp [blk]; have := G911.out; omega)
                      have e1 := f4.cell e1 (by simp [blk]; have := G911.out; omega)
                      clear o4 f4 n4 hn4 hb0
                      refine hK _ _ ?_
                      clear hK K
                      refine wpAny_ready (rs := [9]) (by kernel_rfl) (by simp) ?_
                      refine AllReady.cons (o := { dst := some 53, op := Op.buildSlice 30 1 #[(0, Operand.tmp 52)], type := 30, pos := "ref.go:45", after := #[{ on := 8, ground := Ground.data }], guard := none }) rfl (fun K hK => ?_) ?_
                      · go_simp
                        refine hK _ _ ?_
                        clear hK K
                        obtain ⟨g53, hg53⟩ : ∃ g53, w4.heap.size = g53 := ⟨_, rfl⟩
                        rw [hg53]
                        refine at_world (p := fun W => wpAny _ _ _ _ _ _ _ W) (R := fun Y => Frm [] W0 Y ∧ Y.cell? ⟨b0, off + i * 2, none⟩ = some (.int .i64 x.1) ∧ Y.cell? ⟨b0, off + i * 2 + 1, none⟩ = some (.int .i64 x.2) ∧ Y.heap[g53]? = some (.cells #[.int .i64 x.1, .int .i64 x.2] 25 (0, 0)) ∧ OwnA 25 Y (.slice a4 k cap4) (out.take k) sp4) ⟨F412.out.alloc _, ((Frm.refl [] _).alloc _).cell e0 (by simp), ((Frm.refl [] _).alloc _).cell e1 (by simp), heap_alloc_at hg53.symm, O412.out.keep ((Frm.refl [] _).alloc _) (by simp)⟩ ?_
                        rintro Y13 ⟨fy, e0, e1, xh, oy⟩
                        have FY13 := Lib.hid fy
                        have XH13 := Lib.hid xh
                        have X13 := Lib.hid (sla_one xh)
                        have O13 := Lib.hid oy
                        clear oy
                        clear fy xh hg53
                        refine wpAny_ready (rs := [10]) (by kernel_rfl) (by simp) ?_
                        refine AllReady.cons (o := { dst := some 54, op := Op.call { callee := Callee.builtin Builtin.append, args := #[Operand.tmp 48, Operand.tmp 53], argTypes := #[30, 30] }, type := 30, pos := "ref.go:45", after := #[{ on := 4, ground := Ground.data }, { on := 9, ground := Ground.data }, { on := 4, ground := Ground.chain }], guard := none }) rfl (fun K hK => ?_) ?_
                        · refine step_append_ads AT O13.out X13.out (by have := OL9.out; simp; omega) (by rfl) (.tmp 48) (.tmp 53) (by rfl) (by rfl) (by rfl) ?_
                          intro a5 cap5 w5 sp5 o5 f5 n5
                          rw [HTK.out] at o5 n5 ⊢
                          simp only [List.length_cons, List.length_nil, Nat.zero_add] at o5 n5 ⊢
                          have F5 := Lib.hid (FY13.out.trans f5 (fun i hi => .inr (N412.out i hi)))
                          have N5 := Lib.hid (show ∀ i ∈ blk (.slice a5 (k + 1) cap5), W0.heap.size ≤ i from fun i hi => by
                            rcases n5 i hi with h | h
                            · exact N412.out i h
                            · have := FY13.out.size; omega)
                          have O5 := Lib.hid o5
                          clear o5 f5 n5
                          refine hK _ _ ?_
                          clear hK K
                          refine wpAny_ready (rs := [14]) (by kernel_rfl) (by simp) ?_
                          refine AllReady.cons (o := { dst := some 58, op := Op.call { callee := Callee.builtin Builtin.append, args := #[Operand.tmp 54, Operand.tmp 57], argTypes := #[30, 30] }, type := 30, pos := "ref.go:45", after := #[{ on := 10, ground := Ground.data }, { on := 13, ground := Ground.data }, { on := 10, ground := Ground.chain }], guard := none }) rfl (fun K hK => ?_) ?_
                          · refine step_append_ads AT (l := out.take k ++ [x]) O5.out (CUT2.out.keep F5.out (by simp)) (by have := OL9.out; simp; omega) (by rfl) (.tmp 54) (.tmp 57) (by rfl) (by simp [Act.eval, Act.put]) (by rfl) ?_
                            intro a6 cap6 w6 sp6 o6 f6 n6
                            rw [HLN.out] at o6 n6 ⊢
                            have hnew : RsRel l w (.slice a6 (out.length + 1) cap6) (.int .i64 ((i : Int) + 1)) w6 := ⟨i + 1, sp6, by have := HI.out; omega, by go_num, by rw [SN.out]; simpa using o6, fun j hj => by
                              rcases n6 j hj with h | h
                              · have h1 := N5.out j h; have h2 := FW.out.size; have h3 := F.out.size; omega
                              · have h2 := FW.out.size; have h3 := F.out.size; have h4 := F5.out.size; omega, ((F.out.trans FW.out (by simp)).trans F5.out (by simp)).trans f6 (fun j hj => .inr (by have h1 := N5.out j hj; have h2 := FW.out.size; have h3 := F.out.size; omega))⟩
                            have HNW := Lib.hid hnew
                            clear hnew o6 f6 n6
                            refine hK _ _ ?_
                            clear hK K
                            refine wpAny_take (i := 15) (oi := { dst := some 3, op := Op.assign (Operand.tmp 58), type := 30, pos := "ref.go:45", after := #[{ on := 14, ground := Ground.data }, { on := 14, ground := Ground.chain }, { on := 0, ground := Ground.phase }, { on := 1, ground := Ground.phase }, { on := 2, ground := Ground.phase }, { on := 3, ground := Ground.phase }, { on := 4, ground := Ground.phase }, { on := 5, ground := Ground.phase }, { on := 6, ground := Ground.phase }, { on := 7, ground := Ground.phase }, { on := 8, ground := Ground.phase }, { on := 9, ground := Ground.phase }, { on := 10, ground := Ground.phase }, { on := 11, ground := Ground.phase }, { on := 12, ground := Ground.phase }, { on := 13, ground := Ground.phase }, { on := 14, ground := Ground.phase }], guard := none }) (v := ?_) rfl (by kernel_rfl) (by kernel_rfl) (by kernel_rfl) (fun _ _ _ h => h) (Or.inl ⟨by rfl, ?_⟩) ?_
                            rotate_left
                            focus (intro w; go_simp; try with_reducible rfl)
                            try simp only [Act.put, List.setIfInBounds_toArray, List.set_cons_zero, List.set_cons_succ]
                            refine wpAny_done (by kernel_rfl) ?_ _
                            have HI2 := HI
                            clear CUT1 CUT2 O5 F5 N5 hsl1 hsl2
                            go_wp2_with fail
                            go_roundw
                            case rel => exact HNW.out
                            case measure => have := HI2.out; simp [intOf]; omega
                          exact AllReady.nil
                        exact AllReady.nil
                      exact AllReady.nil
                    refine AllReady.cons (o := { dst := some 53, op := Op.buildSlice 30 1 #[(0, Operand.tmp 52)], type := 30, pos := "ref.go:45", after := #[{ on := 8, ground := Ground.data }], guard := none }) rfl (fun K hK => ?_) ?_
                    · go_simp
                      refine hK _ _ ?_
                      clear hK K
                      obtain ⟨g53, hg53⟩ : ∃ g53, Y11.heap.size = g53 := ⟨_, rfl⟩
                      rw [hg53]
                      refine at_world (p := fun W => wpAny _ _ _ _ _ _ _ W) (R := fun Y => Frm [] W0 Y ∧ Y.cell? ⟨b0, off + i * 2, none⟩ = some (.int .i64 x.1) ∧ Y.cell? ⟨b0, off + i * 2 + 1, none⟩ = some (.int .i64 x.2) ∧ Y.heap[g53]? = some (.cells #[.int .i64 x.1, .int .i64 x.2] 25 (0, 0)) ∧ Y.heap[g44]? = some (.cells #[] 25 (0, 0))) ⟨FY11.out.alloc _, ((Frm.refl [] _).alloc _).cell e0 (by simp), ((Frm.refl [] _).alloc _).cell e1 (by simp), heap_alloc_at hg53.symm, heap_alloc_lt GH11.out⟩ ?_
                      rintro Y15 ⟨fy, e0, e1, xh, gh⟩
                      have FY15 := Lib.hid fy
                      have XH15 := Lib.hid xh
                      have X15 := Lib.hid (sla_one xh)
                      have GH15 := Lib.hid gh
                      clear gh
                      have NE15 := Lib.hid (show g53 ≠ g44 from fun e => by have h := lt_heap GH11.out; omega)
                      clear fy xh hg53
                      refine wpAny_ready (rs := [4]) (by kernel_rfl) (by simp) ?_
                      refine AllReady.cons (o := { dst := some 48, op := Op.call { callee := Callee.builtin Builtin.append, args := #[Operand.tmp 44, Operand.tmp 47], argTypes := #[30, 30] }, type := 30, pos := "ref.go:45", after := #[{ on := 0, ground := Ground.data }, { on := 3, ground := Ground.data }], guard := none }) rfl (fun K hK => ?_) ?_
                      · refine step_append_ads AT (l := []) (sp := []) (OwnA.of_heap GH15.out rfl rfl (by simp)) (CUT1.out.keep FY15.out (by simp)) (by have := OL9.out; simp; omega) (by rfl) (.tmp 44) (.tmp 47) (by rfl) (by simp [Act.eval, Act.put]) (by rfl) ?_
                        intro a4 cap4 w4 sp4 o4 f4 n4
                        simp only [List.length_nil, Nat.zero_add, List.nil_append] at o4 n4 ⊢
                        rw [HTK.out] at o4 n4 ⊢
                        have hn4 : ∀ i ∈ blk (.slice a4 k cap4), W0.heap.size ≤ i := fun i hi => by
                          rcases n4 i hi with h | h
                          · simp [blk] at h; have := G911.out; omega
                          · have := FY15.out.size; omega
                        have F416 := Lib.hid (FY15.out.trans f4 (fun i hi => .inr (by simp [blk] at hi; have := G911.out; omega)))
                        have O416 := Lib.hid o4
                        have N416 := Lib.hid hn4
                        have hb0 : b0 < W0.heap.size := B0.out
                        have e0 := f4.cell e0 (by simp [blk]; have := G911.out; omega)
                        have e1 := f4.cell e1 (by simp [blk]; have := G911.out; omega)
                        have X416 := Lib.hid (sla_one (f4.heap XH15.out (by simpa [blk] using NE15.out)))
                        clear o4 f4 n4 hn4 hb0
                        refine hK _ _ ?_
                        clear hK K
                        refine wpAny_ready (rs := [10]) (by kernel_rfl) (by simp) ?_
                        refine AllReady.cons (o := { dst := some 54, op := Op.call { callee := Callee.builtin Builtin.append, args := #[Operand.tmp 48, Operand.tmp 53], argTypes := #[30, 30] }, type := 30, pos := "ref.go:45", after := #[{ on := 4, ground := Ground.data }, { on := 9, ground := Ground.data }, { on := 4, ground := Ground.chain }], guard := none }) rfl (fun K hK => ?_) ?_
                        · refine step_append_ads AT O416.out X416.out (by have := OL9.out; simp; omega) (by rfl) (.tmp 48) (.tmp 53) (by rfl) (by rfl) (by rfl) ?_
                          intro a5 cap5 w5 sp5 o5 f5 n5
                          rw [HTK.out] at o5 n5 ⊢
                          simp only [List.length_cons, List.length_nil, Nat.zero_add] at o5 n5 ⊢
                          have F5 := Lib.hid (F416.out.trans f5 (fun i hi => .inr (N416.out i hi)))
                          have N5 := Lib.hid (show ∀ i ∈ blk (.slice a5 (k + 1) cap5), W0.heap.size ≤ i from fun i hi => by
                            rcases n5 i hi with h | h
                            · exact N416.out i h
                            · have := F416.out.size; omega)
                          have O5 := Lib.hid o5
                          clear o5 f5 n5
                          refine hK _ _ ?_
                          clear hK K
                          refine wpAny_ready (rs := [14]) (by kernel_rfl) (by simp) ?_
                          refine AllReady.cons (o := { dst := some 58, op := Op.call { callee := Callee.builtin Builtin.append, args := #[Operand.tmp 54, Operand.tmp 57], argTypes := #[30, 30] }, type := 30, pos := "ref.go:45", after := #[{ on := 10, ground := Ground.data }, { on := 13, ground := Ground.data }, { on := 10, ground := Ground.chain }], guard := none }) rfl (fun K hK => ?_) ?_
                          · refine step_append_ads AT (l := out.take k ++ [x]) O5.out (CUT2.out.keep F5.out (by simp)) (by have := OL9.out; simp; omega) (by rfl) (.tmp 54) (.tmp 57) (by rfl) (by simp [Act.eval, Act.put]) (by rfl) ?_
                            intro a6 cap6 w6 sp6 o6 f6 n6
                            rw [HLN.out] at o6 n6 ⊢
                            have hnew : RsRel l w (.slice a6 (out.length + 1) cap6) (.int .i64 ((i : Int) + 1)) w6 := ⟨i + 1, sp6, by have := HI.out; omega, by go_num, by rw [SN.out]; simpa using o6, fun j hj => by
                              rcases n6 j hj with h | h
                              · have h1 := N5.out j h; have h2 := FW.out.size; have h3 := F.out.size; omega
                              · have h2 := FW.out.size; have h3 := F.out.size; have h4 := F5.out.size; omega, ((F.out.trans FW.out (by simp)).trans F5.out (by simp)).trans f6 (fun j hj => .inr (by have h1 := N5.out j hj; have h2 := FW.out.size; have h3 := F.out.size; omega))⟩
                            have HNW := Lib.hid hnew
                            clear hnew o6 f6 n6
                            refine hK _ _ ?_
                            clear hK K
                            refine wpAny_take (i := 15) (oi := { dst := some 3, op := Op.assign (Operand.tmp 58), type := 30, pos := "ref.go:45", after := #[{ on := 14, ground := Ground.data }, { on := 14, ground := Ground.chain }, { on := 0, ground := Ground.phase }, { on := 1, ground := Ground.phase }, { on := 2, ground := Ground.phase }, { on := 3, ground := Ground.phase }, { on := 4, ground := Ground.phase }, { on := 5, ground := Ground.phase }, { on := 6, ground := Ground.phase }, { on := 7, ground := Ground.phase }, { on := 8, ground := Ground.phase }, { on := 9, ground := Ground.phase }, { on := 10, ground := Ground.phase }, { on := 11, ground := Ground.phase }, { on := 12, ground := Ground.phase }, { on := 13, ground := Ground.phase }, { on := 14, ground := Ground.phase }], guard := none }) (v := ?_) rfl (by kernel_rfl) (by kernel_rfl) (by kernel_rfl) (fun _ _ _ h => h) (Or.inl ⟨by rfl, ?_⟩) ?_
                            rotate_left
                            focus (intro w; go_simp; try with_reducible rfl)
                            try simp only [Act.put, List.setIfInBounds_toArray, List.set_cons_zero, List.set_cons_succ]
                            refine wpAny_done (by kernel_rfl) ?_ _
                            have HI2 := HI
                            clear CUT1 CUT2 O5 F5 N5 hsl1 hsl2
                            go_wp2_with fail
                            go_roundw
                            case rel => exact HNW.out
                            case measure => have := HI2.out; simp [intOf]; omega
                          exact AllReady.nil
                        exact AllReady.nil
                      exact AllReady.nil
                    exact AllReady.nil
                  refine AllReady.cons (o := { dst := some 53, op := Op.buildSlice 30 1 #[(0, Operand.tmp 52)], type := 30, pos := "ref.go:45", after := #[{ on := 8, ground := Ground.data }], guard := none }) rfl (fun K hK => ?_) ?_
                  · go_simp
                    refine hK _ _ ?_
                    clear hK K
                    obtain ⟨g53, hg53⟩ : ∃ g53, Y0.heap.size = g53 := ⟨_, rfl⟩
                    rw [hg53]
                    refine at_world (p := fun W => wpAny _ _ _ _ _ _ _ W) (R := fun Y => Frm [] W0 Y ∧ Y.cell? ⟨b0, off + i * 2, none⟩ = some (.int .i64 x.1) ∧ Y.cell? ⟨b0, off + i * 2 + 1, none⟩ = some (.int .i64 x.2) ∧ Y.heap[g53]? = some (.cells #[.int .i64 x.1, .int .i64 x.2] 25 (0, 0))) ⟨FY0.out.alloc _, ((Frm.refl [] _).alloc _).cell e0 (by simp), ((Frm.refl [] _).alloc _).cell e1 (by simp), heap_alloc_at hg53.symm⟩ ?_
                    rintro Y18 ⟨fy, e0, e1, xh⟩
                    have FY18 := Lib.hid fy
                    have XH18 := Lib.hid xh
                    have X18 := Lib.hid (sla_one xh)
                    clear fy xh hg53
                    refine wpAny_ready (rs := [0]) (by kernel_rfl) (by simp) ?_
                    refine AllReady.cons (o := { dst := some 44, op := Op.buildSlice 30 0 #[], type := 30, pos := "ref.go:45", after := #[], guard := none }) rfl (fun K hK => ?_) ?_
                    · go_simp
                      refine hK _ _ ?_
                      clear hK K
                      obtain ⟨g44, hg44⟩ : ∃ g44, Y18.heap.size = g44 := ⟨_, rfl⟩
                      rw [hg44]
                      refine at_world (p := fun W => wpAny _ _ _ _ _ _ _ W) (R := fun Y => Frm [] W0 Y ∧ Y.cell? ⟨b0, off + i * 2, none⟩ = some (.int .i64 x.1) ∧ Y.cell? ⟨b0, off + i * 2 + 1, none⟩ = some (.int .i64 x.2) ∧ Y.heap[g44]? = some (.cells #[] 25 (0, 0)) ∧ W0.heap.size ≤ g44 ∧ Y.heap[g53]? = some (.cells #[.int .i64 x.1, .int .i64 x.2] 25 (0, 0))) ⟨FY18.out.alloc _, ((Frm.refl [] _).alloc _).cell e0 (by simp), ((Frm.refl [] _).alloc _).cell e1 (by simp), heap_alloc_at hg44.symm, by have := FY18.out.size; omega, heap_alloc_lt XH18.out⟩ ?_
                      rintro Y19 ⟨fy, e0, e1, gh, g9, xh⟩
                      have NE19 := Lib.hid (show g53 ≠ g44 from fun e => by have h := lt_heap XH18.out; omega)
                      have FY19 := Lib.hid fy
                      have GH19 := Lib.hid gh
                      have G919 := Lib.hid g9
                      clear fy gh g9 hg44
                      have XH19 := Lib.hid xh
                      clear xh
                      refine wpAny_ready (rs := [4]) (by kernel_rfl) (by simp) ?_
                      refine AllReady.cons (o := { dst := some 48, op := Op.call { callee := Callee.builtin Builtin.append, args := #[Operand.tmp 44, Operand.tmp 47], argTypes := #[30, 30] }, type := 30, pos := "ref.go:45", after := #[{ on := 0, ground := Ground.data }, { on := 3, ground := Ground.data }], guard := none }) rfl (fun K hK => ?_) ?_
                      · refine step_append_ads AT (l := []) (sp := []) (OwnA.of_heap GH19.out rfl rfl (by simp)) (CUT1.out.keep FY19.out (by simp)) (by have := OL9.out; simp; omega) (by rfl) (.tmp 44) (.tmp 47) (by rfl) (by simp [Act.eval, Act.put]) (by rfl) ?_
                        intro a4 cap4 w4 sp4 o4 f4 n4
                        simp only [List.length_nil, Nat.zero_add, List.nil_append] at o4 n4 ⊢
                        rw [HTK.out] at o4 n4 ⊢
                        have hn4 : ∀ i ∈ blk (.slice a4 k cap4), W0.heap.size ≤ i := fun i hi => by
                          rcases n4 i hi with h | h
                          · simp [blk] at h; have := G919.out; omega
                          · have := FY19.out.size; omega
                        have F420 := Lib.hid (FY19.out.trans f4 (fun i hi => .inr (by simp [blk] at hi; have := G919.out; omega)))
                        have O420 := Lib.hid o4
                        have N420 := Lib.hid hn4
                        have hb0 : b0 < W0.heap.size := B0.out
                        have e0 := f4.cell e0 (by simp [blk]; have := G919.out; omega)
                        have e1 := f4.cell e1 (by simp [blk]; have := G919.out; omega)
                        have X420 := Lib.hid (sla_one (f4.heap XH19.out (by simpa [blk] using NE19.out)))
                        clear o4 f4 n4 hn4 hb0
                        refine hK _ _ ?_
                        clear hK K
                        refine wpAny_ready (rs := [10]) (by kernel_rfl) (by simp) ?_
                        refine AllReady.cons (o := { dst := some 54, op := Op.call { callee := Callee.builtin Builtin.append, args := #[Operand.tmp 48, Operand.tmp 53], argTypes := #[30, 30] }, type := 30, pos := "ref.go:45", after := #[{ on := 4, ground := Ground.data }, { on := 9, ground := Ground.data }, { on := 4, ground := Ground.chain }], guard := none }) rfl (fun K hK => ?_) ?_
                        · refine step_append_ads AT O420.out X420.out (by have := OL9.out; simp; omega) (by rfl) (.tmp 48) (.tmp 53) (by rfl) (by rfl) (by rfl) ?_
                          intro a5 cap5 w5 sp5 o5 f5 n5
                          rw [HTK.out] at o5 n5 ⊢
                          simp only [List.length_cons, List.length_nil, Nat.zero_add] at o5 n5 ⊢
                          have F5 := Lib.hid (F420.out.trans f5 (fun i hi => .inr (N420.out i hi)))
                          have N5 := Lib.hid (show ∀ i ∈ blk (.slice a5 (k + 1) cap5), W0.heap.size ≤ i from fun i hi => by
                            rcases n5 i hi with h | h
                            · exact N420.out i h
                            · have := F420.out.size; omega)
                          have O5 := Lib.hid o5
                          clear o5 f5 n5
                          refine hK _ _ ?_
                          clear hK K
                          refine wpAny_ready (rs := [14]) (by kernel_rfl) (by simp) ?_
                          refine AllReady.cons (o := { dst := some 58, op := Op.call { callee := Callee.builtin Builtin.append, args := #[Operand.tmp 54, Operand.tmp 57], argTypes := #[30, 30] }, type := 30, pos := "ref.go:45", after := #[{ on := 10, ground := Ground.data }, { on := 13, ground := Ground.data }, { on := 10, ground := Ground.chain }], guard := none }) rfl (fun K hK => ?_) ?_
                          · refine step_append_ads AT (l := out.take k ++ [x]) O5.out (CUT2.out.keep F5.out (by simp)) (by have := OL9.out; simp; omega) (by rfl) (.tmp 54) (.tmp 57) (by rfl) (by simp [Act.eval, Act.put]) (by rfl) ?_
                            intro a6 cap6 w6 sp6 o6 f6 n6
                            rw [HLN.out] at o6 n6 ⊢
                            have hnew : RsRel l w (.slice a6 (out.length + 1) cap6) (.int .i64 ((i : Int) + 1)) w6 := ⟨i + 1, sp6, by have := HI.out; omega, by go_num, by rw [SN.out]; simpa using o6, fun j hj => by
                              rcases n6 j hj with h | h
                              · have h1 := N5.out j h; have h2 := FW.out.size; have h3 := F.out.size; omega
                              · have h2 := FW.out.size; have h3 := F.out.size; have h4 := F5.out.size; omega, ((F.out.trans FW.out (by simp)).trans F5.out (by simp)).trans f6 (fun j hj => .inr (by have h1 := N5.out j hj; have h2 := FW.out.size; have h3 := F.out.size; omega))⟩
                            have HNW := Lib.hid hnew
                            clear hnew o6 f6 n6
                            refine hK _ _ ?_
                            clear hK K
                            refine wpAny_take (i := 15) (oi := { dst := some 3, op := Op.assign (Operand.tmp 58), type := 30, pos := "ref.go:45", after := #[{ on := 14, ground := Ground.data }, { on := 14, ground := Ground.chain }, { on := 0, ground := Ground.phase }, { on := 1, ground := Ground.phase }, { on := 2, ground := Ground.phase }, { on := 3, ground := Ground.phase }, { on := 4, ground := Ground.phase }, { on := 5, ground := Ground.phase }, { on := 6, ground := Ground.phase }, { on := 7, ground := Ground.phase }, { on := 8, ground := Ground.phase }, { on := 9, ground := Ground.phase }, { on := 10, ground := Ground.phase }, { on := 11, ground := Ground.phase }, { on := 12, ground := Ground.phase }, { on := 13, ground := Ground.phase }, { on := 14, ground := Ground.phase }], guard := none }) (v := ?_) rfl (by kernel_rfl) (by kernel_rfl) (by kernel_rfl) (fun _ _ _ h => h) (Or.inl ⟨by rfl, ?_⟩) ?_
                            rotate_left
                            focus (intro w; go_simp; try with_reducible rfl)
                            try simp only [Act.put, List.setIfInBounds_toArray, List.set_cons_zero, List.set_cons_succ]
                            refine wpAny_done (by kernel_rfl) ?_ _
                            have HI2 := HI
                            clear CUT1 CUT2 O5 F5 N5 hsl1 hsl2
                            go_wp2_with fail
                            go_roundw
                            case rel => exact HNW.out
                            case measure => have := HI2.out; simp [intOf]; omega
                          exact AllReady.nil
                        exact AllReady.nil
                      exact AllReady.nil
                    exact AllReady.nil
                  exact AllReady.nil
                exact AllReady.nil

          · have hke : k = out.length := by omega
            have hin : ins l[i] out = out.take k ++ l[i] :: out.drop k := by
              unfold ins
              rw [← hkc, List.getElem?_eq_none (by omega), if_neg (by simp)]
            generalize hx : l[i] = x at *
            rw [hin] at SN
            have kno : decide ((k : Int) < (out.length : Int)) = false := by simp; omega
            have kyes : ((k : Int) == (out.length : Int)) = true := by simp; omega
            have kno2 : decide (k < out.length) = false := by simp; omega
            have kyes2 : (k == out.length) = true := by simp; omega
            have G := Lib.hid g
            have KE := Lib.hid hke
            clear g hx hcl hk hkc hlc hko hin hke
            go_wp2_with fail
            refine wp_region_any (by kernel_rfl) ?_
            change wpAny _ _ _ _ _ _ _ (World.drew _)
            refine wpAny_take (i := 0) (oi := { dst := some 12, op := Op.move (Operand.tmp 5), type := 3, pos := "ref.go:41", after := #[], guard := none }) (v := ?_) rfl (by kernel_rfl) (by kernel_rfl) (by kernel_rfl) (fun _ _ _ h => h) (Or.inl ⟨by rfl, ?_⟩) ?_
            rotate_left
            focus (intro w; go_simp; try with_reducible rfl)
            try simp only [Act.put, List.setIfInBounds_toArray, List.set_cons_zero, List.set_cons_succ]
            refine wpAny_take (i := 1) (oi := { dst := some 13, op := Op.move (Operand.tmp 3), type := 30, pos := "ref.go:41", after := #[], guard := none }) (v := ?_) rfl (by kernel_rfl) (by kernel_rfl) (by kernel_rfl) (fun _ _ _ h => h) (Or.inl ⟨by rfl, ?_⟩) ?_
            rotate_left
            focus (intro w; go_simp; try with_reducible rfl)
            try simp only [Act.put, List.setIfInBounds_toArray, List.set_cons_zero, List.set_cons_succ]
            refine wpAny_take (i := 2) (oi := { dst := some 14, op := Op.call { callee := Callee.builtin Builtin.len, args := #[Operand.tmp 13], argTypes := #[30] }, type := 3, pos := "ref.go:41", after := #[{ on := 1, ground := Ground.data }], guard := none }) (v := ?_) rfl (by kernel_rfl) (by kernel_rfl) (by kernel_rfl) (fun _ _ _ h => h) (Or.inl ⟨by rfl, ?_⟩) ?_
            rotate_left
            focus (intro w; go_simp; try with_reducible rfl)
            try simp only [Act.put, List.setIfInBounds_toArray, List.set_cons_zero, List.set_cons_succ]
            refine wpAny_take (i := 3) (oi := { dst := some 15, op := Op.binOp BinOp.lss 3 (Operand.tmp 12) (Operand.tmp 14) 3, type := 4, pos := "ref.go:41", after := #[{ on := 0, ground := Ground.data }, { on := 2, ground := Ground.data }], guard := none }) (v := ?_) rfl (by kernel_rfl) (by kernel_rfl) (by kernel_rfl) (fun _ _ _ h => h) (Or.inl ⟨by rfl, ?_⟩) ?_
            rotate_left
            focus (intro w; go_simp; try with_reducible rfl)
            try simp only [Act.put, List.setIfInBounds_toArray, List.set_cons_zero, List.set_cons_succ]
            refine wpAny_take (i := 4) (oi := { dst := some 16, op := Op.move (Operand.tmp 15), type := 4, pos := "ref.go:41", after := #[{ on := 3, ground := Ground.data }], guard := none }) (v := ?_) rfl (by kernel_rfl) (by kernel_rfl) (by kernel_rfl) (fun _ _ _ h => h) (Or.inl ⟨by rfl, ?_⟩) ?_
            rotate_left
            focus (intro w; go_simp; try with_reducible rfl)
            try simp only [Act.put, List.setIfInBounds_toArray, List.set_cons_zero, List.set_cons_succ]
            refine wpAny_take (i := 5) (oi := { dst := some 17, op := Op.move (Operand.tmp 3), type := 30, pos := "ref.go:41", after := #[{ on := 4, ground := Ground.guard }], guard := some (4, true) }) (v := undef) rfl (by kernel_rfl) (by kernel_rfl) (by kernel_rfl) (fun _ _ _ h => h) (Or.inr ⟨by rfl, rfl⟩) ?_
            try simp only [Act.put, List.setIfInBounds_toArray, List.set_cons_zero, List.set_cons_succ]
            refine wpAny_take (i := 6) (oi := { dst := some 18, op := Op.move (Operand.tmp 5), type := 3, pos := "ref.go:41", after := #[{ on := 4, ground := Ground.guard }], guard := some (4, true) }) (v := undef) rfl (by kernel_rfl) (by kernel_rfl) (by kernel_rfl) (fun _ _ _ h => h) (Or.inr ⟨by rfl, rfl⟩) ?_
            try simp only [Act.put, List.setIfInBounds_toArray, List.set_cons_zero, List.set_cons_succ]
            refine wpAny_take (i := 7) (oi := { dst := some 19, op := Op.indexAddr 30 (Operand.tmp 17) (Operand.tmp 18), type := 0, pos := "ref.go:41", after := #[{ on := 5, ground := Ground.data }, { on := 6, ground := Ground.data }, { on := 4, ground := Ground.guard }], guard := some (4, true) }) (v := undef) rfl (by kernel_rfl) (by kernel_rfl) (by kernel_rfl) (fun _ _ _ h => h) (Or.inr ⟨by rfl, rfl⟩) ?_
            try simp only [Act.put, List.setIfInBounds_toArray, List.set_cons_zero, List.set_cons_succ]
            refine wpAny_take (i := 8) (oi := { dst := some 20, op := Op.load 25 (Operand.tmp 19), type := 25, pos := "ref.go:41", after := #[{ on := 7, ground := Ground.data }, { on := 4, ground := Ground.guard }], guard := some (4, true) }) (v := undef) rfl (by kernel_rfl) (by kernel_rfl) (by kernel_rfl) (fun _ _ _ h => h) (Or.inr ⟨by rfl, rfl⟩) ?_
            try simp only [Act.put, List.setIfInBounds_toArray, List.set_cons_zero, List.set_cons_succ]
            refine wpAny_take (i := 9) (oi := { dst := some 21, op := Op.move (Operand.tmp 0), type := 30, pos := "ref.go:41", after := #[{ on := 4, ground := Ground.guard }], guard := some (4, true) }) (v := undef) rfl (by kernel_rfl) (by kernel_rfl) (by kernel_rfl) (fun _ _ _ h => h) (Or.inr ⟨by rfl, rfl⟩) ?_
            try simp only [Act.put, List.setIfInBounds_toArray, List.set_cons_zero, List.set_cons_succ]
            refine wpAny_take (i := 10) (oi := { dst := some 22, op := Op.move (Operand.tmp 4), type := 3, pos := "ref.go:41", after := #[{ on := 4, ground := Ground.guard }], guard := some (4, true) }) (v := undef) rfl (by kernel_rfl) (by kernel_rfl) (by kernel_rfl) (fun _ _ _ h => h) (Or.inr ⟨by rfl, rfl⟩) ?_
            try simp only [Act.put, List.setIfInBounds_toArray, List.set_cons_zero, List.set_cons_succ]
            refine wpAny_take (i := 11) (oi := { dst := some 23, op := Op.indexAddr 30 (Operand.tmp 21) (Operand.tmp 22), type := 0, pos := "ref.go:41", after := #[{ on := 9, ground := Ground.data }, { on := 10, ground := Ground.data }, { on := 4, ground := Ground.guard }], guard := some (4, true) }) (v := undef) rfl (by kernel_rfl) (by kernel_rfl) (by kernel_rfl) (fun _ _ _ h => h) (Or.inr ⟨by rfl, rfl⟩) ?_
            try simp only [Act.put, List.setIfInBounds_toArray, List.set_cons_zero, List.set_cons_succ]
            refine wpAny_take (i := 12) (oi := { dst := some 24, op := Op.load 25 (Operand.tmp 23), type := 25, pos := "ref.go:41", after := #[{ on := 11, ground := Ground.data }, { on := 4, ground := Ground.guard }], guard := some (4, true) }) (v := undef) rfl (by kernel_rfl) (by kernel_rfl) (by kernel_rfl) (fun _ _ _ h => h) (Or.inr ⟨by rfl, rfl⟩) ?_
            try simp only [Act.put, List.setIfInBounds_toArray, List.set_cons_zero, List.set_cons_succ]
            refine wpAny_take (i := 13) (oi := { dst := some 25, op := Op.call { callee := Callee.value (Operand.func 62), args := #[Operand.tmp 20, Operand.tmp 24], argTypes := #[25, 25] }, type := 4, pos := "ref.go:41", after := #[{ on := 8, ground := Ground.data }, { on := 12, ground := Ground.data }, { on := 4, ground := Ground.chain }, { on := 4, ground := Ground.guard }], guard := some (4, true) }) (v := undef) rfl (by kernel_rfl) (by kernel_rfl) (by kernel_rfl) (fun _ _ _ h => h) (Or.inr ⟨by rfl, rfl⟩) ?_
            try simp only [Act.put, List.setIfInBounds_toArray, List.set_cons_zero, List.set_cons_succ]
            refine wpAny_take (i := 14) (oi := { dst := some 26, op := Op.pick (Operand.tmp 16) (Operand.tmp 25) (Operand.const (Value.bool false)), type := 4, pos := "ref.go:41", after := #[{ on := 4, ground := Ground.data }, { on := 13, ground := Ground.data }], guard := none }) (v := ?_) rfl (by kernel_rfl) (by kernel_rfl) (by kernel_rfl) (fun _ _ _ h => h) (Or.inl ⟨by rfl, ?_⟩) ?_
            rotate_left
            focus (intro w; go_simp; try with_reducible rfl)
            try simp only [Act.put, List.setIfInBounds_toArray, List.set_cons_zero, List.set_cons_succ]
            refine wpAny_done (by kernel_rfl) ?_ _
            go_wp2_with fail
            refine wp_region_any (by kernel_rfl) ?_
            change wpAny _ _ _ _ _ _ _ (World.drew _)
            refine wpAny_take (i := 0) (oi := { dst := some 29, op := Op.move (Operand.tmp 5), type := 3, pos := "ref.go:44", after := #[], guard := none }) (v := ?_) rfl (by kernel_rfl) (by kernel_rfl) (by kernel_rfl) (fun _ _ _ h => h) (Or.inl ⟨by rfl, ?_⟩) ?_
            rotate_left
            focus (intro w; go_simp; try with_reducible rfl)
            try simp only [Act.put, List.setIfInBounds_toArray, List.set_cons_zero, List.set_cons_succ]
            refine wpAny_take (i := 1) (oi := { dst := some 30, op := Op.move (Operand.tmp 3), type := 30, pos := "ref.go:44", after := #[], guard := none }) (v := ?_) rfl (by kernel_rfl) (by kernel_rfl) (by kernel_rfl) (fun _ _ _ h => h) (Or.inl ⟨by rfl, ?_⟩) ?_
            rotate_left
            focus (intro w; go_simp; try with_reducible rfl)
            try simp only [Act.put, List.setIfInBounds_toArray, List.set_cons_zero, List.set_cons_succ]
            refine wpAny_take (i := 2) (oi := { dst := some 31, op := Op.call { callee := Callee.builtin Builtin.len, args := #[Operand.tmp 30], argTypes := #[30] }, type := 3, pos := "ref.go:44", after := #[{ on := 1, ground := Ground.data }], guard := none }) (v := ?_) rfl (by kernel_rfl) (by kernel_rfl) (by kernel_rfl) (fun _ _ _ h => h) (Or.inl ⟨by rfl, ?_⟩) ?_
            rotate_left
            focus (intro w; go_simp; try with_reducible rfl)
            try simp only [Act.put, List.setIfInBounds_toArray, List.set_cons_zero, List.set_cons_succ]
            refine wpAny_take (i := 3) (oi := { dst := some 32, op := Op.binOp BinOp.eql 3 (Operand.tmp 29) (Operand.tmp 31) 3, type := 4, pos := "ref.go:44", after := #[{ on := 0, ground := Ground.data }, { on := 2, ground := Ground.data }], guard := none }) (v := ?_) rfl (by kernel_rfl) (by kernel_rfl) (by kernel_rfl) (fun _ _ _ h => h) (Or.inl ⟨by rfl, ?_⟩) ?_
            rotate_left
            focus (intro w; go_simp; try with_reducible rfl)
            try simp only [Act.put, List.setIfInBounds_toArray, List.set_cons_zero, List.set_cons_succ]
            refine wpAny_take (i := 4) (oi := { dst := some 33, op := Op.move (Operand.tmp 32), type := 4, pos := "ref.go:44", after := #[{ on := 3, ground := Ground.data }], guard := none }) (v := ?_) rfl (by kernel_rfl) (by kernel_rfl) (by kernel_rfl) (fun _ _ _ h => h) (Or.inl ⟨by rfl, ?_⟩) ?_
            rotate_left
            focus (intro w; go_simp; try with_reducible rfl)
            try simp only [Act.put, List.setIfInBounds_toArray, List.set_cons_zero, List.set_cons_succ]
            refine wpAny_take (i := 5) (oi := { dst := some 34, op := Op.move (Operand.tmp 3), type := 30, pos := "ref.go:44", after := #[{ on := 4, ground := Ground.guard }], guard := some (4, false) }) (v := undef) rfl (by kernel_rfl) (by kernel_rfl) (by kernel_rfl) (fun _ _ _ h => h) (Or.inr ⟨by rfl, rfl⟩) ?_
            try simp only [Act.put, List.setIfInBounds_toArray, List.set_cons_zero, List.set_cons_succ]
            refine wpAny_take (i := 6) (oi := { dst := some 35, op := Op.move (Operand.tmp 5), type := 3, pos := "ref.go:44", after := #[{ on := 4, ground := Ground.guard }], guard := some (4, false) }) (v := undef) rfl (by kernel_rfl) (by kernel_rfl) (by kernel_rfl) (fun _ _ _ h => h) (Or.inr ⟨by rfl, rfl⟩) ?_
            try simp only [Act.put, List.setIfInBounds_toArray, List.set_cons_zero, List.set_cons_succ]
            refine wpAny_take (i := 7) (oi := { dst := some 36, op := Op.indexAddr 30 (Operand.tmp 34) (Operand.tmp 35), type := 0, pos := "ref.go:44", after := #[{ on := 5, ground := Ground.data }, { on := 6, ground := Ground.data }, { on := 4, ground := Ground.guard }], guard := some (4, false) }) (v := undef) rfl (by kernel_rfl) (by kernel_rfl) (by kernel_rfl) (fun _ _ _ h => h) (Or.inr ⟨by rfl, rfl⟩) ?_
            try simp only [Act.put, List.setIfInBounds_toArray, List.set_cons_zero, List.set_cons_succ]
            refine wpAny_take (i := 8) (oi := { dst := some 37, op := Op.load 25 (Operand.tmp 36), type := 25, pos := "ref.go:44", after := #[{ on := 7, ground := Ground.data }, { on := 4, ground := Ground.guard }], guard := some (4, false) }) (v := undef) rfl (by kernel_rfl) (by kernel_rfl) (by kernel_rfl) (fun _ _ _ h => h) (Or.inr ⟨by rfl, rfl⟩) ?_
            try simp only [Act.put, List.setIfInBounds_toArray, List.set_cons_zero, List.set_cons_succ]
            refine wpAny_take (i := 9) (oi := { dst := some 38, op := Op.move (Operand.tmp 0), type := 30, pos := "ref.go:44", after := #[{ on := 4, ground := Ground.guard }], guard := some (4, false) }) (v := undef) rfl (by kernel_rfl) (by kernel_rfl) (by kernel_rfl) (fun _ _ _ h => h) (Or.inr ⟨by rfl, rfl⟩) ?_
            try simp only [Act.put, List.setIfInBounds_toArray, List.set_cons_zero, List.set_cons_succ]
            refine wpAny_take (i := 10) (oi := { dst := some 39, op := Op.move (Operand.tmp 4), type := 3, pos := "ref.go:44", after := #[{ on := 4, ground := Ground.guard }], guard := some (4, false) }) (v := undef) rfl (by kernel_rfl) (by kernel_rfl) (by kernel_rfl) (fun _ _ _ h => h) (Or.inr ⟨by rfl, rfl⟩) ?_
            try simp only [Act.put, List.setIfInBounds_toArray, List.set_cons_zero, List.set_cons_succ]
            refine wpAny_take (i := 11) (oi := { dst := some 40, op := Op.indexAddr 30 (Operand.tmp 38) (Operand.tmp 39), type := 0, pos := "ref.go:44", after := #[{ on := 9, ground := Ground.data }, { on := 10, ground := Ground.data }, { on := 4, ground := Ground.guard }], guard := some (4, false) }) (v := undef) rfl (by kernel_rfl) (by kernel_rfl) (by kernel_rfl) (fun _ _ _ h => h) (Or.inr ⟨by rfl, rfl⟩) ?_
            try simp only [Act.put, List.setIfInBounds_toArray, List.set_cons_zero, List.set_cons_succ]
            refine wpAny_take (i := 12) (oi := { dst := some 41, op := Op.load 25 (Operand.tmp 40), type := 25, pos := "ref.go:44", after := #[{ on := 11, ground := Ground.data }, { on := 4, ground := Ground.guard }], guard := some (4, false) }) (v := undef) rfl (by kernel_rfl) (by kernel_rfl) (by kernel_rfl) (fun _ _ _ h => h) (Or.inr ⟨by rfl, rfl⟩) ?_
            try simp only [Act.put, List.setIfInBounds_toArray, List.set_cons_zero, List.set_cons_succ]
            refine wpAny_take (i := 13) (oi := { dst := some 42, op := Op.binOp BinOp.neq 25 (Operand.tmp 37) (Operand.tmp 41) 25, type := 4, pos := "ref.go:44", after := #[{ on := 8, ground := Ground.data }, { on := 12, ground := Ground.data }, { on := 4, ground := Ground.guard }], guard := some (4, false) }) (v := undef) rfl (by kernel_rfl) (by kernel_rfl) (by kernel_rfl) (fun _ _ _ h => h) (Or.inr ⟨by rfl, rfl⟩) ?_
            try simp only [Act.put, List.setIfInBounds_toArray, List.set_cons_zero, List.set_cons_succ]
            refine wpAny_take (i := 14) (oi := { dst := some 43, op := Op.pick (Operand.tmp 33) (Operand.const (Value.bool true)) (Operand.tmp 42), type := 4, pos := "ref.go:44", after := #[{ on := 4, ground := Ground.data }, { on := 13, ground := Ground.data }], guard := none }) (v := ?_) rfl (by kernel_rfl) (by kernel_rfl) (by kernel_rfl) (fun _ _ _ h => h) (Or.inl ⟨by rfl, ?_⟩) ?_
            rotate_left
            focus (intro w; go_simp; try with_reducible rfl)
            try simp only [Act.put, List.setIfInBounds_toArray, List.set_cons_zero, List.set_cons_succ]
            refine wpAny_done (by kernel_rfl) ?_ _
            go_wp2_with fail
            refine at_world (p := fun W => Code.wp _ _ _ _ W) (R := fun W => Frm [] wo W ∧ W.cell? ⟨b0, off + i * 2, none⟩ = some (.int .i64 x.1) ∧ W.cell? ⟨b0, off + i * 2 + 1, none⟩ = some (.int .i64 x.2)) ⟨(G.out.drew).drew, d0, d1⟩ ?_
            rintro W0 ⟨fw, e0, e1⟩
            have FW := Lib.hid fw
            have hko9 : k ≤ out.length := by have := KE.out; omega
            have OL9 := Lib.hid (show out.length ≤ 100000 by have := OL.out; have := HL.out; have := HI.out; omega)
            have B0 := Lib.hid (World.block_lt_of_cell? W0 _ e0)
            obtain ⟨ao9, hao9⟩ : ∃ ao9, ao = ao9 := ⟨_, rfl⟩
            rw [hao9] at O N ⊢
            clear fw d0 d1 hao9 kno kyes kno2 kyes2
            obtain ⟨a1, c1, hs1, cut1⟩ := slice_hA AT (O.out.sl.keep FW.out (by simp)) k hko9
            obtain ⟨a2, c2, hs2, cut2⟩ := slice_lA AT (O.out.sl.keep FW.out (by simp)) k hko9
            have HTK := Lib.hid (show (out.take k).length = k by simp; omega)
            have HLN := Lib.hid (show (out.take k ++ [x]).length + (out.drop k).length = out.length + 1 by simp; omega)
            have hsl1 : ∀ wx, (Instr.slice 30 (.slice ao9 out.length co) none (some (.int .i64 (k : Int))) none).run Try.prog wx = .ok (.slice a1 k c1) wx := fun wx => hs1 k wx rfl
            have hsl2 : ∀ wx, (Instr.slice 30 (.slice ao9 out.length co) (some (.int .i64 (k : Int))) none none).run Try.prog wx = .ok (.slice a2 (out.length - k) c2) wx := fun wx => hs2 k wx rfl
            have CUT1 := Lib.hid cut1
            have CUT2 := Lib.hid cut2
            clear hs1 cut1 hs2 cut2
            refine wp_region_any (by kernel_rfl) ?_
            change wpAny _ _ _ _ _ _ _ (World.drew _)
            refine wpAny_take (i := 1) (oi := { dst := some 45, op := Op.move (Operand.tmp 3), type := 30, pos := "ref.go:45", after := #[], guard := none }) (v := ?_) rfl (by kernel_rfl) (by kernel_rfl) (by kernel_rfl) (fun _ _ _ h => h) (Or.inl ⟨by rfl, ?_⟩) ?_
            rotate_left
            focus (intro w; go_simp; try with_reducible rfl)
            try simp only [Act.put, List.setIfInBounds_toArray, List.set_cons_zero, List.set_cons_succ]
            refine wpAny_take (i := 2) (oi := { dst := some 46, op := Op.move (Operand.tmp 5), type := 3, pos := "ref.go:45", after := #[], guard := none }) (v := ?_) rfl (by kernel_rfl) (by kernel_rfl) (by kernel_rfl) (fun _ _ _ h => h) (Or.inl ⟨by rfl, ?_⟩) ?_
            rotate_left
            focus (intro w; go_simp; try with_reducible rfl)
            try simp only [Act.put, List.setIfInBounds_toArray, List.set_cons_zero, List.set_cons_succ]
            refine wpAny_take (i := 3) (oi := { dst := some 47, op := Op.slice 30 (Operand.tmp 45) none (some (Operand.tmp 46)) none, type := 30, pos := "ref.go:45", after := #[{ on := 1, ground := Ground.data }, { on := 2, ground := Ground.data }], guard := none }) (v := .slice a1 k c1) rfl (by kernel_rfl) (by kernel_rfl) (by kernel_rfl) (fun _ _ _ h => h) (Or.inl ⟨by rfl, fun wx => exec_slice_hA (.tmp 45) (.tmp 46) rfl rfl rfl (by kernel_rfl) (hsl1 wx)⟩) ?_
            try simp only [Act.put, List.setIfInBounds_toArray, List.set_cons_zero, List.set_cons_succ]
            refine wpAny_take (i := 5) (oi := { dst := some 49, op := Op.move (Operand.tmp 0), type := 30, pos := "ref.go:45", after := #[], guard := none }) (v := ?_) rfl (by kernel_rfl) (by kernel_rfl) (by kernel_rfl) (fun _ _ _ h => h) (Or.inl ⟨by rfl, ?_⟩) ?_
            rotate_left
            focus (intro w; go_simp; try with_reducible rfl)
            try simp only [Act.put, List.setIfInBounds_toArray, List.set_cons_zero, List.set_cons_succ]
            refine wpAny_take (i := 6) (oi := { dst := some 50, op := Op.move (Operand.tmp 4), type := 3, pos := "ref.go:45", after := #[], guard := none }) (v := ?_) rfl (by kernel_rfl) (by kernel_rfl) (by kernel_rfl) (fun _ _ _ h => h) (Or.inl ⟨by rfl, ?_⟩) ?_
            rotate_left
            focus (intro w; go_simp; try with_reducible rfl)
            try simp only [Act.put, List.setIfInBounds_toArray, List.set_cons_zero, List.set_cons_succ]
            refine wpAny_take (i := 7) (oi := { dst := some 51, op := Op.indexAddr 30 (Operand.tmp 49) (Operand.tmp 50), type := 0, pos := "ref.go:45", after := #[{ on := 5, ground := Ground.data }, { on := 6, ground := Ground.data }], guard := none }) (v := ?_) rfl (by kernel_rfl) (by kernel_rfl) (by kernel_rfl) (fun _ _ _ h => h) (Or.inl ⟨by rfl, ?_⟩) ?_
            rotate_left
            focus (intro w; go_simp; try with_reducible rfl)
            try simp only [Act.put, List.setIfInBounds_toArray, List.set_cons_zero, List.set_cons_succ]
            refine wpAny_take (i := 11) (oi := { dst := some 55, op := Op.move (Operand.tmp 3), type := 30, pos := "ref.go:45", after := #[], guard := none }) (v := ?_) rfl (by kernel_rfl) (by kernel_rfl) (by kernel_rfl) (fun _ _ _ h => h) (Or.inl ⟨by rfl, ?_⟩) ?_
            rotate_left
            focus (intro w; go_simp; try with_reducible rfl)
            try simp only [Act.put, List.setIfInBounds_toArray, List.set_cons_zero, List.set_cons_succ]
            refine wpAny_take (i := 12) (oi := { dst := some 56, op := Op.move (Operand.tmp 5), type := 3, pos := "ref.go:45", after := #[], guard := none }) (v := ?_) rfl (by kernel_rfl) (by kernel_rfl) (by kernel_rfl) (fun _ _ _ h => h) (Or.inl ⟨by rfl, ?_⟩) ?_
            rotate_left
            focus (intro w; go_simp; try with_reducible rfl)
            try simp only [Act.put, List.setIfInBounds_toArray, List.set_cons_zero, List.set_cons_succ]
            refine wpAny_take (i := 13) (oi := { dst := some 57, op := Op.slice 30 (Operand.tmp 55) (some (Operand.tmp 56)) none none, type := 30, pos := "ref.go:45", after := #[{ on := 11, ground := Ground.data }, { on := 12, ground := Ground.data }], guard := none }) (v := .slice a2 (out.length - k) c2) rfl (by kernel_rfl) (by kernel_rfl) (by kernel_rfl) (fun _ _ _ h => h) (Or.inl ⟨by rfl, fun wx => exec_slice_lA (.tmp 55) (.tmp 56) rfl rfl rfl (by kernel_rfl) (hsl2 wx)⟩) ?_
            try simp only [Act.put, List.setIfInBounds_toArray, List.set_cons_zero, List.set_cons_succ]
            refine at_world (p := fun W => wpAny _ _ _ _ _ _ _ W) (R := fun Y => Frm [] W0 Y ∧ Y.cell? ⟨b0, off + i * 2, none⟩ = some (.int .i64 x.1) ∧ Y.cell? ⟨b0, off + i * 2 + 1, none⟩ = some (.int .i64 x.2)) ⟨(Frm.refl [] W0).drew, e0, e1⟩ ?_
            rintro Y0 ⟨fy, e0, e1⟩
            have FY0 := Lib.hid fy
            clear fy
            refine wpAny_ready (rs := [0, 8]) (by kernel_rfl) (by simp) ?_
            refine AllReady.cons (o := { dst := some 44, op := Op.buildSlice 30 0 #[], type := 30, pos := "ref.go:45", after := #[], guard := none }) rfl (fun K hK => ?_) ?_
            · go_simp
              refine hK _ _ ?_
              clear hK K
              obtain ⟨g44, hg44⟩ : ∃ g44, Y0.heap.size = g44 := ⟨_, rfl⟩
              rw [hg44]
              refine at_world (p := fun W => wpAny _ _ _ _ _ _ _ W) (R := fun Y => Frm [] W0 Y ∧ Y.cell? ⟨b0, off + i * 2, none⟩ = some (.int .i64 x.1) ∧ Y.cell? ⟨b0, off + i * 2 + 1, none⟩ = some (.int .i64 x.2) ∧ Y.heap[g44]? = some (.cells #[] 25 (0, 0)) ∧ W0.heap.size ≤ g44) ⟨FY0.out.alloc _, ((Frm.refl [] _).alloc _).cell e0 (by simp), ((Frm.refl [] _).alloc _).cell e1 (by simp), heap_alloc_at hg44.symm, by have := FY0.out.size; omega⟩ ?_
              rintro Y1 ⟨fy, e0, e1, gh, g9⟩
              have FY1 := Lib.hid fy
              have GH1 := Lib.hid gh
              have G91 := Lib.hid g9
              clear fy gh g9 hg44
              refine wpAny_ready (rs := [4, 8]) (by kernel_rfl) (by simp) ?_
              refine AllReady.cons (o := { dst := some 48, op := Op.call { callee := Callee.builtin Builtin.append, args := #[Operand.tmp 44, Operand.tmp 47], argTypes := #[30, 30] }, type := 30, pos := "ref.go:45", after := #[{ on := 0, ground := Ground.data }, { on := 3, ground := Ground.data }], guard := none }) rfl (fun K hK => ?_) ?_
              · refine step_append_ads AT (l := []) (sp := []) (OwnA.of_heap GH1.out rfl rfl (by simp)) (CUT1.out.keep FY1.out (by simp)) (by have := OL9.out; simp; omega) (by rfl) (.tmp 44) (.tmp 47) (by rfl) (by simp [Act.eval, Act.put]) (by rfl) ?_
                intro a4 cap4 w4 sp4 o4 f4 n4
                simp only [List.length_nil, Nat.zero_add, List.nil_append] at o4 n4 ⊢
                rw [HTK.out] at o4 n4 ⊢
                have hn4 : ∀ i ∈ blk (.slice a4 k cap4), W0.heap.size ≤ i := fun i hi => by
                  rcases n4 i hi with h | h
                  · simp [blk] at h; have := G91.out; omega
                  · have := FY1.out.size; omega
                have F42 := Lib.hid (FY1.out.trans f4 (fun i hi => .inr (by simp [blk] at hi; have := G91.out; omega)))
                have O42 := Lib.hid o4
                have N42 := Lib.hid hn4
                have hb0 : b0 < W0.heap.size := B0.out
                have e0 := f4.cell e0 (by simp [blk]; have := G91.out; omega)
                have e1 := f4.cell e1 (by simp [blk]; have := G91.out; omega)
                clear o4 f4 n4 hn4 hb0
                refine hK _ _ ?_
                clear hK K
                refine wpAny_ready (rs := [8]) (by kernel_rfl) (by simp) ?_
                refine AllReady.cons (o := { dst := some 52, op := Op.load 25 (Operand.tmp 51), type := 25, pos := "ref.go:45", after := #[{ on := 7, ground := Ground.data }], guard := none }) rfl (fun K hK => ?_) ?_
                · go_simp
                  refine hK _ _ ?_
                  clear hK K
                  refine wpAny_ready (rs := [9]) (by kernel_rfl) (by simp) ?_
                  refine AllReady.cons (o := { dst := some 53, op := Op.buildSlice 30 1 #[(0, Operand.tmp 52)], type := 30, pos := "ref.go:45", after := #[{ on := 8, ground := Ground.data }], guard := none }) rfl (fun K hK => ?_) ?_
                  · go_simp
                    refine hK _ _ ?_
                    clear hK K
                    obtain ⟨g53, hg53⟩ : ∃ g53, w4.heap.size = g53 := ⟨_, rfl⟩
                    rw [hg53]
                    refine at_world (p := fun W => wpAny _ _ _ _ _ _ _ W) (R := fun Y => Frm [] W0 Y ∧ Y.cell? ⟨b0, off + i * 2, none⟩ = some (.int .i64 x.1) ∧ Y.cell? ⟨b0, off + i * 2 + 1, none⟩ = some (.int .i64 x.2) ∧ Y.heap[g53]? = some (.cells #[.int .i64 x.1, .int .i64 x.2] 25 (0, 0)) ∧ OwnA 25 Y (.slice a4 k cap4) (out.take k) sp4) ⟨F42.out.alloc _, ((Frm.refl [] _).alloc _).cell e0 (by simp), ((Frm.refl [] _).alloc _).cell e1 (by simp), heap_alloc_at hg53.symm, O42.out.keep ((Frm.refl [] _).alloc _) (by simp)⟩ ?_
                    rintro Y3 ⟨fy, e0, e1, xh, oy⟩
                    have FY3 := Lib.hid fy
                    have XH3 := Lib.hid xh
                    have X3 := Lib.hid (sla_one xh)
                    have O3 := Lib.hid oy
                    clear oy
                    clear fy xh hg53
                    refine wpAny_ready (rs := [10]) (by kernel_rfl) (by simp) ?_
                    refine AllReady.cons (o := { dst := some 54, op := Op.call { callee := Callee.builtin Builtin.append, args := #[Operand.tmp 48, Operand.tmp 53], argTypes := #[30, 30] }, type := 30, pos := "ref.go:45", after := #[{ on := 4, ground := Ground.data }, { on := 9, ground := Ground.data }, { on := 4, ground := Ground.chain }], guard := none }) rfl (fun K hK => ?_) ?_
                    · refine step_append_ads AT O3.out X3.out (by have := OL9.out; simp; omega) (by rfl) (.tmp 48) (.tmp 53) (by rfl) (by rfl) (by rfl) ?_
                      intro a5 cap5 w5 sp5 o5 f5 n5
                      rw [HTK.out] at o5 n5 ⊢
                      simp only [List.length_cons, List.length_nil, Nat.zero_add] at o5 n5 ⊢
                      have F5 := Lib.hid (FY3.out.trans f5 (fun i hi => .inr (N42.out i hi)))
                      have N5 := Lib.hid (show ∀ i ∈ blk (.slice a5 (k + 1) cap5), W0.heap.size ≤ i from fun i hi => by
                        rcases n5 i hi with h | h
                        · exact N42.out i h
                        · have := FY3.out.size; omega)
                      have O5 := Lib.hid o5
                      clear o5 f5 n5
                      refine hK _ _ ?_
                      clear hK K
                      refine wpAny_ready (rs := [14]) (by kernel_rfl) (by simp) ?_
                      refine AllReady.cons (o := { dst := some 58, op := Op.call { callee := Callee.builtin Builtin.append, args := #[Operand.tmp 54, Operand.tmp 57], argTypes := #[30, 30] }, type := 30, pos := "ref.go:45", after := #[{ on := 10, ground := Ground.data }, { on := 13, ground := Ground.data }, { on := 10, ground := Ground.chain }], guard := none }) rfl (fun K hK => ?_) ?_
                      · refine step_append_ads AT (l := out.take k ++ [x]) O5.out (CUT2.out.keep F5.out (by simp)) (by have := OL9.out; simp; omega) (by rfl) (.tmp 54) (.tmp 57) (by rfl) (by simp [Act.eval, Act.put]) (by rfl) ?_
                        intro a6 cap6 w6 sp6 o6 f6 n6
                        rw [HLN.out] at o6 n6 ⊢
                        have hnew : RsRel l w (.slice a6 (out.length + 1) cap6) (.int .i64 ((i : Int) + 1)) w6 := ⟨i + 1, sp6, by have := HI.out; omega, by go_num, by rw [SN.out]; simpa using o6, fun j hj => by
                          rcases n6 j hj with h | h
                          · have h1 := N5.out j h; have h2 := FW.out.size; have h3 := F.out.size; omega
                          · have h2 := FW.out.size; have h3 := F.out.size; have h4 := F5.out.size; omega, ((F.out.trans FW.out (by simp)).trans F5.out (by simp)).trans f6 (fun j hj => .inr (by have h1 := N5.out j hj; have h2 := FW.out.size; have h3 := F.out.size; omega))⟩
                        have HNW := Lib.hid hnew
                        clear hnew o6 f6 n6
                        refine hK _ _ ?_
                        clear hK K
                        refine wpAny_take (i := 15) (oi := { dst := some 3, op := Op.assign (Operand.tmp 58), type := 30, pos := "ref.go:45", after := #[{ on := 14, ground := Ground.data }, { on := 14, ground := Ground.chain }, { on := 0, ground := Ground.phase }, { on := 1, ground := Ground.phase }, { on := 2, ground := Ground.phase }, { on := 3, ground := Ground.phase }, { on := 4, ground := Ground.phase }, { on := 5, ground := Ground.phase }, { on := 6, ground := Ground.phase }, { on := 7, ground := Ground.phase }, { on := 8, ground := Ground.phase }, { on := 9, ground := Ground.phase }, { on := 10, ground := Ground.phase }, { on := 11, ground := Ground.phase }, { on := 12, ground := Ground.phase }, { on := 13, ground := Ground.phase }, { on := 14, ground := Ground.phase }], guard := none }) (v := ?_) rfl (by kernel_rfl) (by kernel_rfl) (by kernel_rfl) (fun _ _ _ h => h) (Or.inl ⟨by rfl, ?_⟩) ?_
                        rotate_left
                        focus (intro w; go_simp; try with_reducible rfl)
                        try simp only [Act.put, List.setIfInBounds_toArray, List.set_cons_zero, List.set_cons_succ]
                        refine wpAny_done (by kernel_rfl) ?_ _
                        have HI2 := HI
                        clear CUT1 CUT2 O5 F5 N5 hsl1 hsl2
                        go_wp2_with fail
                        go_roundw
                        case rel => exact HNW.out
                        case measure => have := HI2.out; simp [intOf]; omega
                      exact AllReady.nil
                    exact AllReady.nil
                  exact AllReady.nil
                exact AllReady.nil
              refine AllReady.cons (o := { dst := some 52, op := Op.load 25 (Operand.tmp 51), type := 25, pos := "ref.go:45", after := #[{ on := 7, ground := Ground.data }], guard := none }) rfl (fun K hK => ?_) ?_
              · go_simp
                refine hK _ _ ?_
                clear hK K
                refine wpAny_ready (rs := [4, 9]) (by kernel_rfl) (by simp) ?_
                refine AllReady.cons (o := { dst := some 48, op := Op.call { callee := Callee.builtin Builtin.append, args := #[Operand.tmp 44, Operand.tmp 47], argTypes := #[30, 30] }, type := 30, pos := "ref.go:45", after := #[{ on := 0, ground := Ground.data }, { on := 3, ground := Ground.data }], guard := none }) rfl (fun K hK => ?_) ?_
                · refine step_append_ads AT (l := []) (sp := []) (OwnA.of_heap GH1.out rfl rfl (by simp)) (CUT1.out.keep FY1.out (by simp)) (by have := OL9.out; simp; omega) (by rfl) (.tmp 44) (.tmp 47) (by rfl) (by simp [Act.eval, Act.put]) (by rfl) ?_
                  intro a4 cap4 w4 sp4 o4 f4 n4
                  simp only [List.length_nil, Nat.zero_add, List.nil_append] at o4 n4 ⊢
                  rw [HTK.out] at o4 n4 ⊢
                  have hn4 : ∀ i ∈ blk (.slice a4 k cap4), W0.heap.size ≤ i := fun i hi => by
                    rcases n4 i hi with h | h
                    · simp [blk] at h; have := G91.out; omega
                    · have := FY1.out.size; omega
                  have F45 := Lib.hid (FY1.out.trans f4 (fun i hi => .inr (by simp [blk] at hi; have := G91.out; omega)))
                  have O45 := Lib.hid o4
                  have N45 := Lib.hid hn4
                  have hb0 : b0 < W0.heap.size := B0.out
                  have e0 := f4.cell e0 (by simp [blk]; have := G91.out; omega)
                  have e1 := f4.cell e1 (by simp [blk]; have := G91.out; omega)
                  clear o4 f4 n4 hn4 hb0
                  refine hK _ _ ?_
                  clear hK K
                  refine wpAny_ready (rs := [9]) (by kernel_rfl) (by simp) ?_
                  refine AllReady.cons (o := { dst := some 53, op := Op.buildSlice 30 1 #[(0, Operand.tmp 52)], type := 30, pos := "ref.go:45", after := #[{ on := 8, ground := Ground.data }], guard := none }) rfl (fun K hK => ?_) ?_
                  · go_simp
                    refine hK _ _ ?_
                    clear hK K
                    obtain ⟨g53, hg53⟩ : ∃ g53, w4.heap.size = g53 := ⟨_, rfl⟩
                    rw [hg53]
                    refine at_world (p := fun W => wpAny _ _ _ _ _ _ _ W) (R := fun Y => Frm [] W0 Y ∧ Y.cell? ⟨b0, off + i * 2, none⟩ = some (.int .i64 x.1) ∧ Y.cell? ⟨b0, off + i * 2 + 1, none⟩ = some (.int .i64 x.2) ∧ Y.heap[g53]? = some (.cells #[.int .i64 x.1, .int .i64 x.2] 25 (0, 0)) ∧ OwnA 25 Y (.slice a4 k cap4) (out.take k) sp4) ⟨F45.out.alloc _, ((Frm.refl [] _).alloc _).cell e0 (by simp), ((Frm.refl [] _).alloc _).cell e1 (by simp), heap_alloc_at hg53.symm, O45.out.keep ((Frm.refl [] _).alloc _) (by simp)⟩ ?_
                    rintro Y6 ⟨fy, e0, e1, xh, oy⟩
                    have FY6 := Lib.hid fy
                    have XH6 := Lib.hid xh
                    have X6 := Lib.hid (sla_one xh)
                    have O6 := Lib.hid oy
                    clear oy
                    clear fy xh hg53
                    refine wpAny_ready (rs := [10]) (by kernel_rfl) (by simp) ?_
                    refine AllReady.cons (o := { dst := some 54, op := Op.call { callee := Callee.builtin Builtin.append, args := #[Operand.tmp 48, Operand.tmp 53], argTypes := #[30, 30] }, type := 30, pos := "ref.go:45", after := #[{ on := 4, ground := Ground.data }, { on := 9, ground := Ground.data }, { on := 4, ground := Ground.chain }], guard := none }) rfl (fun K hK => ?_) ?_
                    · refine step_append_ads AT O6.out X6.out (by have := OL9.out; simp; omega) (by rfl) (.tmp 48) (.tmp 53) (by rfl) (by rfl) (by rfl) ?_
                      intro a5 cap5 w5 sp5 o5 f5 n5
                      rw [HTK.out] at o5 n5 ⊢
                      simp only [List.length_cons, List.length_nil, Nat.zero_add] at o5 n5 ⊢
                      have F5 := Lib.hid (FY6.out.trans f5 (fun i hi => .inr (N45.out i hi)))
                      have N5 := Lib.hid (show ∀ i ∈ blk (.slice a5 (k + 1) cap5), W0.heap.size ≤ i from fun i hi => by
                        rcases n5 i hi with h | h
                        · exact N45.out i h
                        · have := FY6.out.size; omega)
                      have O5 := Lib.hid o5
                      clear o5 f5 n5
                      refine hK _ _ ?_
                      clear hK K
                      refine wpAny_ready (rs := [14]) (by kernel_rfl) (by simp) ?_
                      refine AllReady.cons (o := { dst := some 58, op := Op.call { callee := Callee.builtin Builtin.append, args := #[Operand.tmp 54, Operand.tmp 57], argTypes := #[30, 30] }, type := 30, pos := "ref.go:45", after := #[{ on := 10, ground := Ground.data }, { on := 13, ground := Ground.data }, { on := 10, ground := Ground.chain }], guard := none }) rfl (fun K hK => ?_) ?_
                      · refine step_append_ads AT (l := out.take k ++ [x]) O5.out (CUT2.out.keep F5.out (by simp)) (by have := OL9.out; simp; omega) (by rfl) (.tmp 54) (.tmp 57) (by rfl) (by simp [Act.eval, Act.put]) (by rfl) ?_
                        intro a6 cap6 w6 sp6 o6 f6 n6
                        rw [HLN.out] at o6 n6 ⊢
                        have hnew : RsRel l w (.slice a6 (out.length + 1) cap6) (.int .i64 ((i : Int) + 1)) w6 := ⟨i + 1, sp6, by have := HI.out; omega, by go_num, by rw [SN.out]; simpa using o6, fun j hj => by
                          rcases n6 j hj with h | h
                          · have h1 := N5.out j h; have h2 := FW.out.size; have h3 := F.out.size; omega
                          · have h2 := FW.out.size; have h3 := F.out.size; have h4 := F5.out.size; omega, ((F.out.trans FW.out (by simp)).trans F5.out (by simp)).trans f6 (fun j hj => .inr (by have h1 := N5.out j hj; have h2 := FW.out.size; have h3 := F.out.size; omega))⟩
                        have HNW := Lib.hid hnew
                        clear hnew o6 f6 n6
                        refine hK _ _ ?_
                        clear hK K
                        refine wpAny_take (i := 15) (oi := { dst := some 3, op := Op.assign (Operand.tmp 58), type := 30, pos := "ref.go:45", after := #[{ on := 14, ground := Ground.data }, { on := 14, ground := Ground.chain }, { on := 0, ground := Ground.phase }, { on := 1, ground := Ground.phase }, { on := 2, ground := Ground.phase }, { on := 3, ground := Ground.phase }, { on := 4, ground := Ground.phase }, { on := 5, ground := Ground.phase }, { on := 6, ground := Ground.phase }, { on := 7, ground := Ground.phase }, { on := 8, ground := Ground.phase }, { on := 9, ground := Ground.phase }, { on := 10, ground := Ground.phase }, { on := 11, ground := Ground.phase }, { on := 12, ground := Ground.phase }, { on := 13, ground := Ground.phase }, { on := 14, ground := Ground.phase }], guard := none }) (v := ?_) rfl (by kernel_rfl) (by kernel_rfl) (by kernel_rfl) (fun _ _ _ h => h) (Or.inl ⟨by rfl, ?_⟩) ?_
                        rotate_left
                        focus (intro w; go_simp; try with_reducible rfl)
                        try simp only [Act.put, List.setIfInBounds_toArray, List.set_cons_zero, List.set_cons_succ]
                        refine wpAny_done (by kernel_rfl) ?_ _
                        have HI2 := HI
                        clear CUT1 CUT2 O5 F5 N5 hsl1 hsl2
                        go_wp2_with fail
                        go_roundw
                        case rel => exact HNW.out
                        case measure => have := HI2.out; simp [intOf]; omega
                      exact AllReady.nil
                    exact AllReady.nil
                  exact AllReady.nil
                refine AllReady.cons (o := { dst := some 53, op := Op.buildSlice 30 1 #[(0, Operand.tmp 52)], type := 30, pos := "ref.go:45", after := #[{ on := 8, ground := Ground.data }], guard := none }) rfl (fun K hK => ?_) ?_
                · go_simp
                  refine hK _ _ ?_
                  clear hK K
                  obtain ⟨g53, hg53⟩ : ∃ g53, Y1.heap.size = g53 := ⟨_, rfl⟩
                  rw [hg53]
                  refine at_world (p := fun W => wpAny _ _ _ _ _ _ _ W) (R := fun Y => Frm [] W0 Y ∧ Y.cell? ⟨b0, off + i * 2, none⟩ = some (.int .i64 x.1) ∧ Y.cell? ⟨b0, off + i * 2 + 1, none⟩ = some (.int .i64 x.2) ∧ Y.heap[g53]? = some (.cells #[.int .i64 x.1, .int .i64 x.2] 25 (0, 0)) ∧ Y.heap[g44]? = some (.cells #[] 25 (0, 0))) ⟨FY1.out.alloc _, ((Frm.refl [] _).alloc _).cell e0 (by simp), ((Frm.refl [] _).alloc _).cell e1 (by simp), heap_alloc_at hg53.symm, heap_alloc_lt GH1.out⟩ ?_
                  rintro Y8 ⟨fy, e0, e1, xh, gh⟩
                  have FY8 := Lib.hid fy
                  have XH8 := Lib.hid xh
                  have X8 := Lib.hid (sla_one xh)
                  have GH8 := Lib.hid gh
                  clear gh
                  have NE8 := Lib.hid (show g53 ≠ g44 from fun e => by have h := lt_heap GH1.out; omega)
                  clear fy xh hg53
                  refine wpAny_ready (rs := [4]) (by kernel_rfl) (by simp) ?_
                  refine AllReady.cons (o := { dst := some 48, op := Op.call { callee := Callee.builtin Builtin.append, args := #[Operand.tmp 44, Operand.tmp 47], argTypes := #[30, 30] }, type := 30, pos := "ref.go:45", after := #[{ on := 0, ground := Ground.data }, { on := 3, ground := Ground.data }], guard := none }) rfl (fun K hK => ?_) ?_
                  · refine step_append_ads AT (l := []) (sp := []) (OwnA.of_heap GH8.out rfl rfl (by simp)) (CUT1.out.keep FY8.out (by simp)) (by have := OL9.out; simp; omega) (by rfl) (.tmp 44) (.tmp 47) (by rfl) (by simp [Act.eval, Act.put]) (by rfl) ?_
                    intro a4 cap4 w4 sp4 o4 f4 n4
                    simp only [List.length_nil, Nat.zero_add, List.nil_append] at o4 n4 ⊢
                    rw [HTK.out] at o4 n4 ⊢
                    have hn4 : ∀ i ∈ blk (.slice a4 k cap4), W0.heap.size ≤ i := fun i hi => by
                      rcases n4 i hi with h | h
                      · simp [blk] at h; have := G91.out; omega
                      · have := FY8.out.size; omega
                    have F49 := Lib.hid (FY8.out.trans f4 (fun i hi => .inr (by simp [blk] at hi; have := G91.out; omega)))
                    have O49 := Lib.hid o4
                    have N49 := Lib.hid hn4
                    have hb0 : b0 < W0.heap.size := B0.out
                    have e0 := f4.cell e0 (by simp [blk]; have := G91.out; omega)
                    have e1 := f4.cell e1 (by simp [blk]; have := G91.out; omega)
                    have X49 := Lib.hid (sla_one (f4.heap XH8.out (by simpa [blk] using NE8.out)))
                    clear o4 f4 n4 hn4 hb0
                    refine hK _ _ ?_
                    clear hK K
                    refine wpAny_ready (rs := [10]) (by kernel_rfl) (by simp) ?_
                    refine AllReady.cons (o := { dst := some 54, op := Op.call { callee := Callee.builtin Builtin.append, args := #[Operand.tmp 48, Operand.tmp 53], argTypes := #[30, 30] }, type := 30, pos := "ref.go:45", after := #[{ on := 4, ground := Ground.data }, { on := 9, ground := Ground.data }, { on := 4, ground := Ground.chain }], guard := none }) rfl (fun K hK => ?_) ?_
                    · refine step_append_ads AT O49.out X49.out (by have := OL9.out; simp; omega) (by rfl) (.tmp 48) (.tmp 53) (by rfl) (by rfl) (by rfl) ?_
                      intro a5 cap5 w5 sp5 o5 f5 n5
                      rw [HTK.out] at o5 n5 ⊢
                      simp only [List.length_cons, List.length_nil, Nat.zero_add] at o5 n5 ⊢
                      have F5 := Lib.hid (F49.out.trans f5 (fun i hi => .inr (N49.out i hi)))
                      have N5 := Lib.hid (show ∀ i ∈ blk (.slice a5 (k + 1) cap5), W0.heap.size ≤ i from fun i hi => by
                        rcases n5 i hi with h | h
                        · exact N49.out i h
                        · have := F49.out.size; omega)
                      have O5 := Lib.hid o5
                      clear o5 f5 n5
                      refine hK _ _ ?_
                      clear hK K
                      refine wpAny_ready (rs := [14]) (by kernel_rfl) (by simp) ?_
                      refine AllReady.cons (o := { dst := some 58, op := Op.call { callee := Callee.builtin Builtin.append, args := #[Operand.tmp 54, Operand.tmp 57], argTypes := #[30, 30] }, type := 30, pos := "ref.go:45", after := #[{ on := 10, ground := Ground.data }, { on := 13, ground := Ground.data }, { on := 10, ground := Ground.chain }], guard := none }) rfl (fun K hK => ?_) ?_
                      · refine step_append_ads AT (l := out.take k ++ [x]) O5.out (CUT2.out.keep F5.out (by simp)) (by have := OL9.out; simp; omega) (by rfl) (.tmp 54) (.tmp 57) (by rfl) (by simp [Act.eval, Act.put]) (by rfl) ?_
                        intro a6 cap6 w6 sp6 o6 f6 n6
                        rw [HLN.out] at o6 n6 ⊢
                        have hnew : RsRel l w (.slice a6 (out.length + 1) cap6) (.int .i64 ((i : Int) + 1)) w6 := ⟨i + 1, sp6, by have := HI.out; omega, by go_num, by rw [SN.out]; simpa using o6, fun j hj => by
                          rcases n6 j hj with h | h
                          · have h1 := N5.out j h; have h2 := FW.out.size; have h3 := F.out.size; omega
                          · have h2 := FW.out.size; have h3 := F.out.size; have h4 := F5.out.size; omega, ((F.out.trans FW.out (by simp)).trans F5.out (by simp)).trans f6 (fun j hj => .inr (by have h1 := N5.out j hj; have h2 := FW.out.size; have h3 := F.out.size; omega))⟩
                        have HNW := Lib.hid hnew
                        clear hnew o6 f6 n6
                        refine hK _ _ ?_
                        clear hK K
                        refine wpAny_take (i := 15) (oi := { dst := some 3, op := Op.assign (Operand.tmp 58), type := 30, pos := "ref.go:45", after := #[{ on := 14, ground := Ground.data }, { on := 14, ground := Ground.chain }, { on := 0, ground := Ground.phase }, { on := 1, ground := Ground.phase }, { on := 2, ground := Ground.phase }, { on := 3, ground := Ground.phase }, { on := 4, ground := Ground.phase }, { on := 5, ground := Ground.phase }, { on := 6, ground := Ground.phase }, { on := 7, ground := Ground.phase }, { on := 8, ground := Ground.phase }, { on := 9, ground := Ground.phase }, { on := 10, ground := Ground.phase }, { on := 11, ground := Ground.phase }, { on := 12, ground := Ground.phase }, { on := 13, ground := Ground.phase }, { on := 14, ground := Ground.phase }], guard := none }) (v := ?_) rfl (by kernel_rfl) (by kernel_rfl) (by kernel_rfl) (fun _ _ _ h => h) (Or.inl ⟨by rfl, ?_⟩) ?_
                        rotate_left
                        focus (intro w; go_simp; try with_reducible rfl)
                        try simp only [Act.put, List.setIfInBounds_toArray, List.set_cons_zero, List.set_cons_succ]
                        refine wpAny_done (by kernel_rfl) ?_ _
                        have HI2 := HI
                        clear CUT1 CUT2 O5 F5 N5 hsl1 hsl2
                        go_wp2_with fail
                        go_roundw
                        case rel => exact HNW.out
                        case measure => have := HI2.out; simp [intOf]; omega
                      exact AllReady.nil
                    exact AllReady.nil
                  exact AllReady.nil
                exact AllReady.nil
              exact AllReady.nil
            refine AllReady.cons (o := { dst := some 52, op := Op.load 25 (Operand.tmp 51), type := 25, pos := "ref.go:45", after := #[{ on := 7, ground := Ground.data }], guard := none }) rfl (fun K hK => ?_) ?_
            · go_simp
              refine hK _ _ ?_
              clear hK K
              refine wpAny_ready (rs := [0, 9]) (by kernel_rfl) (by simp) ?_
              refine AllReady.cons (o := { dst := some 44, op := Op.buildSlice 30 0 #[], type := 30, pos := "ref.go:45", after := #[], guard := none }) rfl (fun K hK => ?_) ?_
              · go_simp
                refine hK _ _ ?_
                clear hK K
                obtain ⟨g44, hg44⟩ : ∃ g44, Y0.heap.size = g44 := ⟨_, rfl⟩
                rw [hg44]
                refine at_world (p := fun W => wpAny _ _ _ _ _ _ _ W) (R := fun Y => Frm [] W0 Y ∧ Y.cell? ⟨b0, off + i * 2, none⟩ = some (.int .i64 x.1) ∧ Y.cell? ⟨b0, off + i * 2 + 1, none⟩ = some (.int .i64 x.2) ∧ Y.heap[g44]? = some (.cells #[] 25 (0, 0)) ∧ W0.heap.size ≤ g44) ⟨FY0.out.alloc _, ((Frm.refl [] _).alloc _).cell e0 (by simp), ((Frm.refl [] _).alloc _).cell e1 (by simp), heap_alloc_at hg44.symm, by have := FY0.out.size; omega⟩ ?_
                rintro Y11 ⟨fy, e0, e1, gh, g9⟩
                have FY11 := Lib.hid fy
                have GH11 := Lib.hid gh
                have G911 := Lib.hid g9
                clear fy gh g9 hg44
                refine wpAny_ready (rs := [4, 9]) (by kernel_rfl) (by simp) ?_
                refine AllReady.cons (o := { dst := some 48, op := Op.call { callee := Callee.builtin Builtin.append, args := #[Operand.tmp 44, Operand.tmp 47], argTypes := #[30, 30] }, type := 30, pos := "ref.go:45", after := #[{ on := 0, ground := Ground.data }, { on := 3, ground := Ground.data }], guard := none }) rfl (fun K hK => ?_) ?_
                · refine step_append_ads AT (l := []) (sp := []) (OwnA.of_heap GH11.out rfl rfl (by simp)) (CUT1.out.keep FY11.out (by simp)) (by have := OL9.out; simp; omega) (by rfl) (.tmp 44) (.tmp 47) (by rfl) (by simp [Act.eval, Act.put]) (by rfl) ?_
                  intro a4 cap4 w4 sp4 o4 f4 n4
                  simp only [List.length_nil, Nat.zero_add, List.nil_append] at o4 n4 ⊢
                  rw [HTK.out] at o4 n4 ⊢
                  have hn4 : ∀ i ∈ blk (.slice a4 k cap4), W0.heap.size ≤ i := fun i hi => by
                    rcases n4 i hi with h | h
                    · simp [blk] at h; have := G911.out; omega
                    · have := FY11.out.size; omega
                  have F412 := Lib.hid (FY11.out.trans f4 (fun i hi => .inr (by simp [blk] at hi; have := G911.out; omega)))
                  have O412 := Lib.hid o4
                  have N412 := Lib.hid hn4
                  have hb0 : b0 < W0.heap.size := B0.out
                  have e0 := f4.cell e0 (by simp [blk]; have := G911.out; omega)
                  have e1 := f4.cell e1 (by simp [blk]; have := G911.out; omega)
                  clear o4 f4 n4 hn4 hb0
                  refine hK _ _ ?_
                  clear hK K
                  refine wpAny_ready (rs := [9]) (by kernel_rfl) (by simp) ?_
                  refine AllReady.cons (o := { dst := some 53, op := Op.buildSlice 30 1 #[(0, Operand.tmp 52)], type := 30, pos := "ref.go:45", after := #[{ on := 8, ground := Ground.data }], guard := none }) rfl (fun K hK => ?_) ?_
                  · go_simp
                    refine hK _ _ ?_
                    clear hK K
                    obtain ⟨g53, hg53⟩ : ∃ g53, w4.heap.size = g53 := ⟨_, rfl⟩
                    rw [hg53]
                    refine at_world (p := fun W => wpAny _ _ _ _ _ _ _ W) (R := fun Y => Frm [] W0 Y ∧ Y.cell? ⟨b0, off + i * 2, none⟩ = some (.int .i64 x.1) ∧ Y.cell? ⟨b0, off + i * 2 + 1, none⟩ = some (.int .i64 x.2) ∧ Y.heap[g53]? = some (.cells #[.int .i64 x.1, .int .i64 x.2] 25 (0, 0)) ∧ OwnA 25 Y (.slice a4 k cap4) (out.take k) sp4) ⟨F412.out.alloc _, ((Frm.refl [] _).alloc _).cell e0 (by simp), ((Frm.refl [] _).alloc _).cell e1 (by simp), heap_alloc_at hg53.symm, O412.out.keep ((Frm.refl [] _).alloc _) (by simp)⟩ ?_
                    rintro Y13 ⟨fy, e0, e1, xh, oy⟩
                    have FY13 := Lib.hid fy
                    have XH13 := Lib.hid xh
                    have X13 := Lib.hid (sla_one xh)
                    have O13 := Lib.hid oy
                    clear oy
                    clear fy xh hg53
                    refine wpAny_ready (rs := [10]) (by kernel_rfl) (by simp) ?_
                    refine AllReady.cons (o := { dst := some 54, op := Op.call { callee := Callee.builtin Builtin.append, args := #[Operand.tmp 48, Operand.tmp 53], argTypes := #[30, 30] }, type := 30, pos := "ref.go:45", after := #[{ on := 4, ground := Ground.data }, { on := 9, ground := Ground.data }, { on := 4, ground := Ground.chain }], guard := none }) rfl (fun K hK => ?_) ?_
                    · refine step_append_ads AT O13.out X13.out (by have := OL9.out; simp; omega) (by rfl) (.tmp 48) (.tmp 53) (by rfl) (by rfl) (by rfl) ?_
                      intro a5 cap5 w5 sp5 o5 f5 n5
                      rw [HTK.out] at o5 n5 ⊢
                      simp only [List.length_cons, List.length_nil, Nat.zero_add] at o5 n5 ⊢
                      have F5 := Lib.hid (FY13.out.trans f5 (fun i hi => .inr (N412.out i hi)))
                      have N5 := Lib.hid (show ∀ i ∈ blk (.slice a5 (k + 1) cap5), W0.heap.size ≤ i from fun i hi => by
                        rcases n5 i hi with h | h
                        · exact N412.out i h
                        · have := FY13.out.size; omega)
                      have O5 := Lib.hid o5
                      clear o5 f5 n5
                      refine hK _ _ ?_
                      clear hK K
                      refine wpAny_ready (rs := [14]) (by kernel_rfl) (by simp) ?_
                      refine AllReady.cons (o := { dst := some 58, op := Op.call { callee := Callee.builtin Builtin.append, args := #[Operand.tmp 54, Operand.tmp 57], argTypes := #[30, 30] }, type := 30, pos := "ref.go:45", after := #[{ on := 10, ground := Ground.data }, { on := 13, ground := Ground.data }, { on := 10, ground := Ground.chain }], guard := none }) rfl (fun K hK => ?_) ?_
                      · refine step_append_ads AT (l := out.take k ++ [x]) O5.out (CUT2.out.keep F5.out (by simp)) (by have := OL9.out; simp; omega) (by rfl) (.tmp 54) (.tmp 57) (by rfl) (by simp [Act.eval, Act.put]) (by rfl) ?_
                        intro a6 cap6 w6 sp6 o6 f6 n6
                        rw [HLN.out] at o6 n6 ⊢
                        have hnew : RsRel l w (.slice a6 (out.length + 1) cap6) (.int .i64 ((i : Int) + 1)) w6 := ⟨i + 1, sp6, by have := HI.out; omega, by go_num, by rw [SN.out]; simpa using o6, fun j hj => by
                          rcases n6 j hj with h | h
                          · have h1 := N5.out j h; have h2 := FW.out.size; have h3 := F.out.size; omega
                          · have h2 := FW.out.size; have h3 := F.out.size; have h4 := F5.out.size; omega, ((F.out.trans FW.out (by simp)).trans F5.out (by simp)).trans f6 (fun j hj => .inr (by have h1 := N5.out j hj; have h2 := FW.out.size; have h3 := F.out.size; omega))⟩
                        have HNW := Lib.hid hnew
                        clear hnew o6 f6 n6
                        refine hK _ _ ?_
                        clear hK K
                        refine wpAny_take (i := 15) (oi := { dst := some 3, op := Op.assign (Operand.tmp 58), type := 30, pos := "ref.go:45", after := #[{ on := 14, ground := Ground.data }, { on := 14, ground := Ground.chain }, { on := 0, ground := Ground.phase }, { on := 1, ground := Ground.phase }, { on := 2, ground := Ground.phase }, { on := 3, ground := Ground.phase }, { on := 4, ground := Ground.phase }, { on := 5, ground := Ground.phase }, { on := 6, ground := Ground.phase }, { on := 7, ground := Ground.phase }, { on := 8, ground := Ground.phase }, { on := 9, ground := Ground.phase }, { on := 10, ground := Ground.phase }, { on := 11, ground := Ground.phase }, { on := 12, ground := Ground.phase }, { on := 13, ground := Ground.phase }, { on := 14, ground := Ground.phase }], guard := none }) (v := ?_) rfl (by kernel_rfl) (by kernel_rfl) (by kernel_rfl) (fun _ _ _ h => h) (Or.inl ⟨by rfl, ?_⟩) ?_
                        rotate_left
                        focus (intro w; go_simp; try with_reducible rfl)
                        try simp only [Act.put, List.setIfInBounds_toArray, List.set_cons_zero, List.set_cons_succ]
                        refine wpAny_done (by kernel_rfl) ?_ _
                        have HI2 := HI
                        clear CUT1 CUT2 O5 F5 N5 hsl1 hsl2
                        go_wp2_with fail
                        go_roundw
                        case rel => exact HNW.out
                        case measure => have := HI2.out; simp [intOf]; omega
                      exact AllReady.nil
                    exact AllReady.nil
                  exact AllReady.nil
                refine AllReady.cons (o := { dst := some 53, op := Op.buildSlice 30 1 #[(0, Operand.tmp 52)], type := 30, pos := "ref.go:45", after := #[{ on := 8, ground := Ground.data }], guard := none }) rfl (fun K hK => ?_) ?_
                · go_simp
                  refine hK _ _ ?_
                  clear hK K
                  obtain ⟨g53, hg53⟩ : ∃ g53, Y11.heap.size = g53 := ⟨_, rfl⟩
                  rw [hg53]
                  refine at_world (p := fun W => wpAny _ _ _ _ _ _ _ W) (R := fun Y => Frm [] W0 Y ∧ Y.cell? ⟨b0, off + i * 2, none⟩ = some (.int .i64 x.1) ∧ Y.cell? ⟨b0, off + i * 2 + 1, none⟩ = some (.int .i64 x.2) ∧ Y.heap[g53]? = some (.cells #[.int .i64 x.1, .int .i64 x.2] 25 (0, 0)) ∧ Y.heap[g44]? = some (.cells #[] 25 (0, 0))) ⟨FY11.out.alloc _, ((Frm.refl [] _).alloc _).cell e0 (by simp), ((Frm.refl [] _).alloc _).cell e1 (by simp), heap_alloc_at hg53.symm, heap_alloc_lt GH11.out⟩ ?_
                  rintro Y15 ⟨fy, e0, e1, xh, gh⟩
                  have FY15 := Lib.hid fy
                  have XH15 := Lib.hid xh
                  have X15 := Lib.hid (sla_one xh)
                  have GH15 := Lib.hid gh
                  clear gh
                  have NE15 := Lib.hid (show g53 ≠ g44 from fun e => by have h := lt_heap GH11.out; omega)
                  clear fy xh hg53
                  refine wpAny_ready (rs := [4]) (by kernel_rfl) (by simp) ?_
                  refine AllReady.cons (o := { dst := some 48, op := Op.call { callee := Callee.builtin Builtin.append, args := #[Operand.tmp 44, Operand.tmp 47], argTypes := #[30, 30] }, type := 30, pos := "ref.go:45", after := #[{ on := 0, ground := Ground.data }, { on := 3, ground := Ground.data }], guard := none }) rfl (fun K hK => ?_) ?_
                  · refine step_append_ads AT (l := []) (sp := []) (OwnA.of_heap GH15.out rfl rfl (by simp)) (CUT1.out.keep FY15.out (by simp)) (by have := OL9.out; simp; omega) (by rfl) (.tmp 44) (.tmp 47) (by rfl) (by simp [Act.eval, Act.put]) (by rfl) ?_
                    intro a4 cap4 w4 sp4 o4 f4 n4
                    simp only [List.length_nil, Nat.zero_add, List.nil_append] at o4 n4 ⊢
                    rw [HTK.out] at o4 n4 ⊢
                    have hn4 : ∀ i ∈ blk (.slice a4 k cap4), W0.heap.size ≤ i := fun i hi => by
                      rcases n4 i hi with h | h
                      · simp [blk] at h; have := G911.out; omega
                      · have := FY15.out.size; omega
                    have F416 := Lib.hid (FY15.out.trans f4 (fun i hi => .inr (by simp [blk] at hi; have := G911.out; omega)))
                    have O416 := Lib.hid o4
                    have N416 := Lib.hid hn4
                    have hb0 : b0 < W0.heap.size := B0.out
                    have e0 := f4.cell e0 (by simp [blk]; have := G911.out; omega)
                    have e1 := f4.cell e1 (by simp [blk]; have := G911.out; omega)
                    have X416 := Lib.hid (sla_one (f4.heap XH15.out (by simpa [blk] using NE15.out)))
                    clear o4 f4 n4 hn4 hb0
                    refine hK _ _ ?_
                    clear hK K
                    refine wpAny_ready (rs := [10]) (by kernel_rfl) (by simp) ?_
                    refine AllReady.cons (o := { dst := some 54, op := Op.call { callee := Callee.builtin Builtin.append, args := #[Operand.tmp 48, Operand.tmp 53], argTypes := #[30, 30] }, type := 30, pos := "ref.go:45", after := #[{ on := 4, ground := Ground.data }, { on := 9, ground := Ground.data }, { on := 4, ground := Ground.chain }], guard := none }) rfl (fun K hK => ?_) ?_
                    · refine step_append_ads AT O416.out X416.out (by have := OL9.out; simp; omega) (by rfl) (.tmp 48) (.tmp 53) (by rfl) (by rfl) (by rfl) ?_
                      intro a5 cap5 w5 sp5 o5 f5 n5
                      rw [HTK.out] at o5 n5 ⊢
                      simp only [List.length_cons, List.length_nil, Nat.zero_add] at o5 n5 ⊢
                      have F5 := Lib.hid (F416.out.trans f5 (fun i hi => .inr (N416.out i hi)))
                      have N5 := Lib.hid (show ∀ i ∈ blk (.slice a5 (k + 1) cap5), W0.heap.size ≤ i from fun i hi => by
                        rcases n5 i hi with h | h
                        · exact N416.out i h
                        · have := F416.out.size; omega)
                      have O5 := Lib.hid o5
                      clear o5 f5 n5
                      refine hK _ _ ?_
                      clear hK K
                      refine wpAny_ready (rs := [14]) (by kernel_rfl) (by simp) ?_
                      refine AllReady.cons (o := { dst := some 58, op := Op.call { callee := Callee.builtin Builtin.append, args := #[Operand.tmp 54, Operand.tmp 57], argTypes := #[30, 30] }, type := 30, pos := "ref.go:45", after := #[{ on := 10, ground := Ground.data }, { on := 13, ground := Ground.data }, { on := 10, ground := Ground.chain }], guard := none }) rfl (fun K hK => ?_) ?_
                      · refine step_append_ads AT (l := out.take k ++ [x]) O5.out (CUT2.out.keep F5.out (by simp)) (by have := OL9.out; simp; omega) (by rfl) (.tmp 54) (.tmp 57) (by rfl) (by simp [Act.eval, Act.put]) (by rfl) ?_
                        intro a6 cap6 w6 sp6 o6 f6 n6
                        rw [HLN.out] at o6 n6 ⊢
                        have hnew : RsRel l w (.slice a6 (out.length + 1) cap6) (.int .i64 ((i : Int) + 1)) w6 := ⟨i + 1, sp6, by have := HI.out; omega, by go_num, by rw [SN.out]; simpa using o6, fun j hj => by
                          rcases n6 j hj with h | h
                          · have h1 := N5.out j h; have h2 := FW.out.size; have h3 := F.out.size; omega
                          · have h2 := FW.out.size; have h3 := F.out.size; have h4 := F5.out.size; omega, ((F.out.trans FW.out (by simp)).trans F5.out (by simp)).trans f6 (fun j hj => .inr (by have h1 := N5.out j hj; have h2 := FW.out.size; have h3 := F.out.size; omega))⟩
                        have HNW := Lib.hid hnew
                        clear hnew o6 f6 n6
                        refine hK _ _ ?_
                        clear hK K
                        refine wpAny_take (i := 15) (oi := { dst := some 3, op := Op.assign (Operand.tmp 58), type := 30, pos := "ref.go:45", after := #[{ on := 14, ground := Ground.data }, { on := 14, ground := Ground.chain }, { on := 0, ground := Ground.phase }, { on := 1, ground := Ground.phase }, { on := 2, ground := Ground.phase }, { on := 3, ground := Ground.phase }, { on := 4, ground := Ground.phase }, { on := 5, ground := Ground.phase }, { on := 6, ground := Ground.phase }, { on := 7, ground := Ground.phase }, { on := 8, ground := Ground.phase }, { on := 9, ground := Ground.phase }, { on := 10, ground := Ground.phase }, { on := 11, ground := Ground.phase }, { on := 12, ground := Ground.phase }, { on := 13, ground := Ground.phase }, { on := 14, ground := Ground.phase }], guard := none }) (v := ?_) rfl (by kernel_rfl) (by kernel_rfl) (by kernel_rfl) (fun _ _ _ h => h) (Or.inl ⟨by rfl, ?_⟩) ?_
                        rotate_left
                        focus (intro w; go_simp; try with_reducible rfl)
                        try simp only [Act.put, List.setIfInBounds_toArray, List.set_cons_zero, List.set_cons_succ]
                        refine wpAny_done (by kernel_rfl) ?_ _
                        have HI2 := HI
                        clear CUT1 CUT2 O5 F5 N5 hsl1 hsl2
                        go_wp2_with fail
                        go_roundw
                        case rel => exact HNW.out
                        case measure => have := HI2.out; simp [intOf]; omega
                      exact AllReady.nil
                    exact AllReady.nil
                  exact AllReady.nil
                exact AllReady.nil
              refine AllReady.cons (o := { dst := some 53, op := Op.buildSlice 30 1 #[(0, Operand.tmp 52)], type := 30, pos := "ref.go:45", after := #[{ on := 8, ground := Ground.data }], guard := none }) rfl (fun K hK => ?_) ?_
              · go_simp
                refine hK _ _ ?_
                clear hK K
                obtain ⟨g53, hg53⟩ : ∃ g53, Y0.heap.size = g53 := ⟨_, rfl⟩
                rw [hg53]
                refine at_world (p := fun W => wpAny _ _ _ _ _ _ _ W) (R := fun Y => Frm [] W0 Y ∧ Y.cell? ⟨b0, off + i * 2, none⟩ = some (.int .i64 x.1) ∧ Y.cell? ⟨b0, off + i * 2 + 1, none⟩ = some (.int .i64 x.2) ∧ Y.heap[g53]? = some (.cells #[.int .i64 x.1, .int .i64 x.2] 25 (0, 0))) ⟨FY0.out.alloc _, ((Frm.refl [] _).alloc _).cell e0 (by simp), ((Frm.refl [] _).alloc _).cell e1 (by simp), heap_alloc_at hg53.symm⟩ ?_
                rintro Y18 ⟨fy, e0, e1, xh⟩
                have FY18 := Lib.hid fy
                have XH18 := Lib.hid xh
                have X18 := Lib.hid (sla_one xh)
                clear fy xh hg53
                refine wpAny_ready (rs := [0]) (by kernel_rfl) (by simp) ?_
                refine AllReady.cons (o := { dst := some 44, op := Op.buildSlice 30 0 #[], type := 30, pos := "ref.go:45", after := #[], guard := none }) rfl (fun K hK => ?_) ?_
                · go_simp
                  refine hK _ _ ?_
                  clear hK K
                  obtain ⟨g44, hg44⟩ : ∃ g44, Y18.heap.size = g44 := ⟨_, rfl⟩
                  rw [hg44]
                  refine at_world (p := fun W => wpAny _ _ _ _ _ _ _ W) (R := fun Y => Frm [] W0 Y ∧ Y.cell? ⟨b0, off + i * 2, none⟩ = some (.int .i64 x.1) ∧ Y.cell? ⟨b0, off + i * 2 + 1, none⟩ = some (.int .i64 x.2) ∧ Y.heap[g44]? = some (.cells #[] 25 (0, 0)) ∧ W0.heap.size ≤ g44 ∧ Y.heap[g53]? = some (.cells #[.int .i64 x.1, .int .i64 x.2] 25 (0, 0))) ⟨FY18.out.alloc _, ((Frm.refl [] _).alloc _).cell e0 (by simp), ((Frm.refl [] _).alloc _).cell e1 (by simp), heap_alloc_at hg44.symm, by have := FY18.out.size; omega, heap_alloc_lt XH18.out⟩ ?_
                  rintro Y19 ⟨fy, e0, e1, gh, g9, xh⟩
                  have NE19 := Lib.hid (show g53 ≠ g44 from fun e => by have h := lt_heap XH18.out; omega)
                  have FY19 := Lib.hid fy
                  have GH19 := Lib.hid gh
                  have G919 := Lib.hid g9
                  clear fy gh g9 hg44
                  have XH19 := Lib.hid xh
                  clear xh
                  refine wpAny_ready (rs := [4]) (by kernel_rfl) (by simp) ?_
                  refine AllReady.cons (o := { dst := some 48, op := Op.call { callee := Callee.builtin Builtin.append, args := #[Operand.tmp 44, Operand.tmp 47], argTypes := #[30, 30] }, type := 30, pos := "ref.go:45", after := #[{ on := 0, ground := Ground.data }, { on := 3, ground := Ground.data }], guard := none }) rfl (fun K hK => ?_) ?_
                  · refine step_append_ads AT (l := []) (sp := []) (OwnA.of_heap GH19.out rfl rfl (by simp)) (CUT1.out.keep FY19.out (by simp)) (by have := OL9.out; simp; omega) (by rfl) (.tmp 44) (.tmp 47) (by rfl) (by simp [Act.eval, Act.put]) (by rfl) ?_
                    intro a4 cap4 w4 sp4 o4 f4 n4
                    simp only [List.length_nil, Nat.zero_add, List.nil_append] at o4 n4 ⊢
                    rw [HTK.out] at o4 n4 ⊢
                    have hn4 : ∀ i ∈ blk (.slice a4 k cap4), W0.heap.size ≤ i := fun i hi => by
                      rcases n4 i hi with h | h
                      · simp [blk] at h; have := G919.out; omega
                      · have := FY19.out.size; omega
                    have F420 := Lib.hid (FY19.out.trans f4 (fun i hi => .inr (by simp [blk] at hi; have := G919.out; omega)))
                    have O420 := Lib.hid o4
                    have N420 := Lib.hid hn4
                    have hb0 : b0 < W0.heap.size := B0.out
                    have e0 := f4.cell e0 (by simp [blk]; have := G919.out; omega)
                    have e1 := f4.cell e1 (by simp [blk]; have := G919.out; omega)
                    have X420 := Lib.hid (sla_one (f4.heap XH19.out (by simpa [blk] using NE19.out)))
                    clear o4 f4 n4 hn4 hb0
                    refine hK _ _ ?_
                    clear hK K
                    refine wpAny_ready (rs := [10]) (by kernel_rfl) (by simp) ?_
                    refine AllReady.cons (o := { dst := some 54, op := Op.call { callee := Callee.builtin Builtin.append, args := #[Operand.tmp 48, Operand.tmp 53], argTypes := #[30, 30] }, type := 30, pos := "ref.go:45", after := #[{ on := 4, ground := Ground.data }, { on := 9, ground := Ground.data }, { on := 4, ground := Ground.chain }], guard := none }) rfl (fun K hK => ?_) ?_
                    · refine step_append_ads AT O420.out X420.out (by have := OL9.out; simp; omega) (by rfl) (.tmp 48) (.tmp 53) (by rfl) (by rfl) (by rfl) ?_
                      intro a5 cap5 w5 sp5 o5 f5 n5
                      rw [HTK.out] at o5 n5 ⊢
                      simp only [List.length_cons, List.length_nil, Nat.zero_add] at o5 n5 ⊢
                      have F5 := Lib.hid (F420.out.trans f5 (fun i hi => .inr (N420.out i hi)))
                      have N5 := Lib.hid (show ∀ i ∈ blk (.slice a5 (k + 1) cap5), W0.heap.size ≤ i from fun i hi => by
                        rcases n5 i hi with h | h
                        · exact N420.out i h
                        · have := F420.out.size; omega)
                      have O5 := Lib.hid o5
                      clear o5 f5 n5
                      refine hK _ _ ?_
                      clear hK K
                      refine wpAny_ready (rs := [14]) (by kernel_rfl) (by simp) ?_
                      refine AllReady.cons (o := { dst := some 58, op := Op.call { callee := Callee.builtin Builtin.append, args := #[Operand.tmp 54, Operand.tmp 57], argTypes := #[30, 30] }, type := 30, pos := "ref.go:45", after := #[{ on := 10, ground := Ground.data }, { on := 13, ground := Ground.data }, { on := 10, ground := Ground.chain }], guard := none }) rfl (fun K hK => ?_) ?_
                      · refine step_append_ads AT (l := out.take k ++ [x]) O5.out (CUT2.out.keep F5.out (by simp)) (by have := OL9.out; simp; omega) (by rfl) (.tmp 54) (.tmp 57) (by rfl) (by simp [Act.eval, Act.put]) (by rfl) ?_
                        intro a6 cap6 w6 sp6 o6 f6 n6
                        rw [HLN.out] at o6 n6 ⊢
                        have hnew : RsRel l w (.slice a6 (out.length + 1) cap6) (.int .i64 ((i : Int) + 1)) w6 := ⟨i + 1, sp6, by have := HI.out; omega, by go_num, by rw [SN.out]; simpa using o6, fun j hj => by
                          rcases n6 j hj with h | h
                          · have h1 := N5.out j h; have h2 := FW.out.size; have h3 := F.out.size; omega
                          · have h2 := FW.out.size; have h3 := F.out.size; have h4 := F5.out.size; omega, ((F.out.trans FW.out (by simp)).trans F5.out (by simp)).trans f6 (fun j hj => .inr (by have h1 := N5.out j hj; have h2 := FW.out.size; have h3 := F.out.size; omega))⟩
                        have HNW := Lib.hid hnew
                        clear hnew o6 f6 n6
                        refine hK _ _ ?_
                        clear hK K
                        refine wpAny_take (i := 15) (oi := { dst := some 3, op := Op.assign (Operand.tmp 58), type := 30, pos := "ref.go:45", after := #[{ on := 14, ground := Ground.data }, { on := 14, ground := Ground.chain }, { on := 0, ground := Ground.phase }, { on := 1, ground := Ground.phase }, { on := 2, ground := Ground.phase }, { on := 3, ground := Ground.phase }, { on := 4, ground := Ground.phase }, { on := 5, ground := Ground.phase }, { on := 6, ground := Ground.phase }, { on := 7, ground := Ground.phase }, { on := 8, ground := Ground.phase }, { on := 9, ground := Ground.phase }, { on := 10, ground := Ground.phase }, { on := 11, ground := Ground.phase }, { on := 12, ground := Ground.phase }, { on := 13, ground := Ground.phase }, { on := 14, ground := Ground.phase }], guard := none }) (v := ?_) rfl (by kernel_rfl) (by kernel_rfl) (by kernel_rfl) (fun _ _ _ h => h) (Or.inl ⟨by rfl, ?_⟩) ?_
                        rotate_left
                        focus (intro w; go_simp; try with_reducible rfl)
                        try simp only [Act.put, List.setIfInBounds_toArray, List.set_cons_zero, List.set_cons_succ]
                        refine wpAny_done (by kernel_rfl) ?_ _
                        have HI2 := HI
                        clear CUT1 CUT2 O5 F5 N5 hsl1 hsl2
                        go_wp2_with fail
                        go_roundw
                        case rel => exact HNW.out
                        case measure => have := HI2.out; simp [intOf]; omega
                      exact AllReady.nil
                    exact AllReady.nil
                  exact AllReady.nil
                exact AllReady.nil
              exact AllReady.nil
            exact AllReady.nil

    · obtain rfl : i = l.length := by omega
      rw [List.take_length] at o nb ⊢
      have O := Lib.hid o
      have N := Lib.hid nb
      have F := Lib.hid f
      clear o nb f
      go_wp2_with fail
      go_ret
      exact ⟨_, spo, rfl, O.out, F.out, N.out⟩
end Go.Proofs.Ytafedmahehbggaa
