/-
  The walk of FieldAgain; no conditions but those that each theorem names.
-/
import Derived.Test.YtappmjophnhdaaaDB
import Derived.Deep.DeepCutAuto
import Derived.Deep.CutBlock
namespace Go.Proofs.Ytappmjophnhdaaa
open Go.RowKit
set_option linter.unusedVariables false
set_option linter.unusedSimpArgs false

def AgainRel (w : World) (br bw : Nat) (vr : Value) (l sp : List UInt8) (xs : List Ask0) (c : Value) (wr : World) : Prop :=
  ∃ k : Nat, ∃ s v, k ≤ xs.length ∧ c = .int .i64 k ∧ Okay l s ∧ RW w br bw vr v l sp (l.take s.1) s wr
theorem SlB.pre {w : World} {a : Option Addr} {n cap : Nat} {l sp : List UInt8} (h : SlB w (.slice a n cap) l sp) (k : Nat) (hk : k ≤ l.length) : SlB w (.slice a k cap) (l.take k) (l.drop k ++ sp) := by
  have hlen : (l.take k).length = k := by simp; omega
  obtain ⟨k1, ⟨k2, k3, k4⟩ | ⟨b, k2, k3, k4⟩ | ⟨b, off, c, k2, k3, k4, k5, k6⟩⟩ := h
  · cases k2
    obtain rfl : l = [] := List.eq_nil_of_length_eq_zero k3
    obtain rfl : sp = [] := by simpa [bvs] using k4
    simp at hk
    subst hk
    simpa using SlB.nil w
  · cases k2
    obtain rfl : l = [] := List.eq_nil_of_length_eq_zero k3
    obtain rfl : sp = [] := by simpa [bvs] using k4
    simp at hk
    subst hk
    exact ⟨rfl, .inr (.inl ⟨b, rfl, rfl, rfl⟩)⟩
  · cases k2
    refine ⟨by simp [bvs_length], .inr (.inr ⟨b, off, cap, by rw [hlen], by rw [hlen]; omega, k4, ?_, fun i u hu => ?_⟩)⟩
    · rw [← bvs_append, ← List.append_assoc, List.take_append_drop, bvs_append]
      exact k5
    · rw [← bvs_append, ← List.append_assoc, List.take_append_drop, bvs_append] at hu
      exact k6 i u hu
theorem RW.but {w wr w2 : World} {br bw : Nat} {vr v : Value} {l sp B : List UInt8} {s : Nat × Int × Int} {L : List Nat} (h : RW w br bw vr v l sp B s wr) (f : Frm L wr w2) (hL : ∀ k ∈ L, w.heap.size ≤ k ∧ k ∉ br :: blk vr ∧ k ∉ bw :: blk v) : RW w br bw vr v l sp B s w2 := by
  obtain ⟨spw, hw⟩ := h.ww
  exact ⟨h.r.keep f (fun hm => (hL _ hm).2.1 (by simp)) (fun k hk hm => (hL _ hm).2.1 (List.mem_cons_of_mem _ hk)), ⟨spw, hw.keep f (fun hm => (hL _ hm).2.2 (by simp)) (fun k hk hm => (hL _ hm).2.2 (List.mem_cons_of_mem _ hk))⟩, h.f.trans f (fun k hk => .inr (hL k hk).1), h.n1, h.n2, h.fr, h.fw, h.d⟩
theorem field51 (a b : Int) (W : World) : (Instr.field 51 (.agg #[.int .i64 a, .int .i64 b]) 0).run Try.prog W = .ok (.int .i64 a) W := by kernel_rfl
def Mid (w : World) (br bw : Nat) (vr v : Value) (l sp : List UInt8) (s : Nat × Int × Int) (bx bs : Nat) (wx : World) : Prop :=
  ∃ (x : Act0) (a : Option Addr) (cap : Nat) (msp : List UInt8) (s' : Nat × Int × Int), wx.heap[bx]? = some (.cells #[.int .i64 x.kind, .int .i64 x.n, .int .i64 x.size, .string x.s, .slice a x.m.length cap] 34 (0, 0)) ∧
    wx.heap[bs]? = some (.cells #[.int .i64 s.2.1, .int .i64 s.2.2] 51 (0, 0)) ∧ RW w br bw vr v l sp (l.take s.1) s' wx ∧ SlB wx (.slice a x.m.length cap) x.m msp ∧ (∀ i ∈ blkR (.slice a x.m.length cap), i ∉ bw :: blk v) ∧ Good l s s' x
set_option maxRecDepth 100000 in
set_option maxHeartbeats 8000000 in
theorem again_short (vb val : Value) (l msp : List UInt8) (xs : List Ask0) (w : World) (hS : SlB w vb l msp) (hX : Asks w val xs) (hl : l.length ≤ 1000) (hx : xs.length ≤ 60) : Calls Try.prog 8 #[vb, val] w fun r w' => YesF w r w' := by
  obtain ⟨a, cap, rfl, hc1, hc2⟩ := hS.form
  obtain ⟨a2, cap2, rfl⟩ := hX.form
  have h1' : ¬ (1000 : Int) < (l.length : Int) := by omega
  have h2' : ¬ (60 : Int) < (xs.length : Int) := by omega
  have hx6 : (xs.length : Int) ≤ 60 := by omega
  have HS := Lib.hid hS
  have HX := Lib.hid hX.at'
  clear hS hX hc1 hc2
  go_enter Try.func8, Try.ntmps8
  go_wp2_with fail
  refine (awake_any _).mono ?_
  rintro r w0 ⟨rfl, f0⟩
  have S0 := Lib.hid (HS.out.keep f0 (by simp))
  have F0 := Lib.hid f0
  clear f0
  go_wp2_with fail
  refine (Open_any _ l _ _ S0.out (by omega)).mono ?_
  rintro r w2 ⟨br, ar, capr, spr, rfl, r2, f2, hbr, fr2⟩
  have R2 := Lib.hid r2
  have FR2 := Lib.hid fr2
  have F2 := Lib.hid (F0.out.trans f2 (by simp))
  clear r2 f2 fr2
  go_wp2_with fail
  refine (New_any _).mono ?_
  rintro r w3 ⟨rfl, r3, f3⟩
  have hbrl := R2.out.lt br (by simp)
  have s0 := F0.out.size
  have hRW : RW w br w2.heap.size (.slice ar l.length capr) (.slice none 0 0) l spr [] (0, 0, 0) w3 := by
    refine ⟨R2.out.keep f3 (by simp) (by simp), ⟨[], r3⟩, F2.out.trans f3 (by simp), by omega, by have := F2.out.size; omega, fun k hk => by have := FR2.out k hk; omega, by simp [Fresh, blk], fun k hk hm => ?_⟩
    have := R2.out.lt _ hk
    simp [blk] at hm
    omega
  have HRW := Lib.hid hRW
  clear hRW f3 r3
  go_wp2_with fail
  go_loopw [8] (AgainRel w br w2.heap.size (.slice ar l.length capr) l spr xs) (fun c _ => xs.length - (intOf c).toNat)
  case atStart => exact ⟨0, (0, 0, 0), .slice none 0 0, Nat.zero_le _, rfl, ⟨Nat.zero_le _, fun _ => rfl⟩, HRW.out⟩
  case round =>
    obtain ⟨k, s, v, hk, rfl, hok, hR⟩ := hrel
    obtain ⟨p, fe, fa⟩ := s
    have HOK := Lib.hid hok
    have HR := Lib.hid hR
    clear hok hR
    by_cases hlt : k < xs.length
    · obtain ⟨b, off, ⟨cap3, hval⟩, q0, q1, q2, q3⟩ := HX.out k hlt
      cases hval
      have p0 := HR.out.f.cell q0 (by simp)
      have p1 := HR.out.f.cell q1 (by simp)
      have p2 := HR.out.f.cell q2 (by simp)
      have p3 := HR.out.f.cell q3 (by simp)
      have Q0 := Lib.hid (And.intro (And.intro q0 q1) (And.intro q2 q3))
      clear q0 q1 q2 q3
      have hlb : b < wr.heap.size := World.block_lt_of_cell? wr _ p0
      generalize hxk : xs[k] = x at *
      obtain ⟨kind, size, low, high⟩ := x
      simp only at p0 p1 p2 p3
      go_wp2_with fail
      refine (RAt_any br _ l spr _ _ _ _ HR.out.r).mono ?_
      rintro r w4 ⟨rfl, hw4⟩
      subst hw4
      go_wp2_with fail
      refine (RFault_any br _ l spr p fe fa _ HR.out.r).mono ?_
      unfold flt
      rintro r w5 ⟨rfl, f5⟩
      have p0 := f5.cell p0 (by simp)
      have p1 := f5.cell p1 (by simp)
      have p2 := f5.cell p2 (by simp)
      have p3 := f5.cell p3 (by simp)
      have HR5 := Lib.hid (HR.out.keep f5 (by simp))
      have hlb5 : b < w5.heap.size := World.block_lt_of_cell? w5 _ p0
      have e0 := fun o => ((Frm.refl [] w5).alloc o).cell p0 (by simp)
      have e1 := fun o => ((Frm.refl [] w5).alloc o).cell p1 (by simp)
      go_wp2_with fail
      go_region_held3 (fun y => y.cell? ⟨b, off + k * 4, none⟩ = some (.int .i64 kind) ∧ y.cell? ⟨b, off + k * 4 + 1, none⟩ = some (.int .i64 size))
        (first | go_keep)
        (fail)
      have hbx0 : (((w5.alloc (.cells #[.int .i64 fe, .int .i64 fa] 51)).alloc (.cells #[.int .i64 kind, .int .i64 0, .int .i64 size, .string ⟨#[]⟩, .slice none 0 0] 34)).drew).heap[w5.heap.size + 1]? = some (.cells #[.int .i64 kind, .int .i64 0, .int .i64 size, .string ⟨#[]⟩, .slice none 0 0] 34 (0, 0)) := heap_alloc_at (by simp)
      have hbs0 : (((w5.alloc (.cells #[.int .i64 fe, .int .i64 fa] 51)).alloc (.cells #[.int .i64 kind, .int .i64 0, .int .i64 size, .string ⟨#[]⟩, .slice none 0 0] 34)).drew).heap[w5.heap.size]? = some (.cells #[.int .i64 fe, .int .i64 fa] 51 (0, 0)) := heap_alloc_lt (heap_alloc_new _ _)
      have hRW0 := HR5.out.keep ((((Frm.refl [] w5).alloc (.cells #[.int .i64 fe, .int .i64 fa] 51)).alloc (.cells #[.int .i64 kind, .int .i64 0, .int .i64 size, .string ⟨#[]⟩, .slice none 0 0] 34)).drew) (by simp)
      have hbxW : w5.heap.size + 1 < (((w5.alloc (.cells #[.int .i64 fe, .int .i64 fa] 51)).alloc (.cells #[.int .i64 kind, .int .i64 0, .int .i64 size, .string ⟨#[]⟩, .slice none 0 0] 34)).drew).heap.size := lt_heap hbx0
      go_upto_block 2 with (fail)
      generalize (((w5.alloc (.cells #[.int .i64 fe, .int .i64 fa] 51)).alloc (.cells #[.int .i64 kind, .int .i64 0, .int .i64 size, .string ⟨#[]⟩, .slice none 0 0] 34)).drew) = W at *
      have hbel : ∀ i, i ∈ br :: blk (.slice ar l.length capr) ∨ i ∈ w2.heap.size :: blk v → i < w5.heap.size := fun i hi => by
        rcases hi with hi | hi
        · exact HR5.out.r.lt i hi
        · obtain ⟨spw, hw⟩ := HR5.out.ww
          exact hw.lt i hi
      have hbw : b < w.heap.size := World.block_lt_of_cell? w _ Q0.out.1.1
      have hbr5 : b ≠ br := by have := HR.out.n1; omega
      have r0 := hRW0.f.cell Q0.out.1.1 (by simp)
      have r1 := hRW0.f.cell Q0.out.1.2 (by simp)
      have r2 := hRW0.f.cell Q0.out.2.1 (by simp)
      have r3 := hRW0.f.cell Q0.out.2.2 (by simp)
      have hbb5 : b < w5.heap.size := by have := HR5.out.f.size; omega
      clear p0 p1 p2 p3 e0 e1 f5
      obtain ⟨bs, hbs⟩ : ∃ bs, w5.heap.size = bs := ⟨_, rfl⟩
      obtain ⟨bx, hbx⟩ : ∃ bx, w5.heap.size + 1 = bx := ⟨_, rfl⟩
      rw [hbx] at hbx0 hbxW ⊢
      rw [hbs] at hbs0 hbel hbb5 hbx ⊢
      have hbrx : br ≠ bx := by have := hbel br (.inl (by simp)); omega
      have hbrs : br ≠ bs := by have := hbel br (.inl (by simp)); omega
      have hbbx : b ≠ bx := by omega
      have hsx : bs ≠ bx := by omega
      have hws : w.heap.size ≤ bs := by have := HR5.out.f.size; omega
      have HBEL := Lib.hid hbel
      have HBX0 := Lib.hid hbx0
      have HBS0 := Lib.hid hbs0
      have HRW0 := Lib.hid hRW0
      have HBX := Lib.hid hbx
      clear hbel hbx0 hbs0 hRW0 hbs hbx
      go_cut [11] (fun s11 wx => s11 = .pointer (some ⟨bx, 0, none⟩) ∧ Mid w br w2.heap.size (.slice ar l.length capr) v l spr (p, fe, fa) bx bs wx)
      case first =>
        have c1 : W.cell? ⟨bx, 1, none⟩ = some (.int .i64 0) := by rw [cell_of_heap HBX0.out]; rfl
        have c2 : W.cell? ⟨bx, 2, none⟩ = some (.int .i64 size) := by rw [cell_of_heap HBX0.out]; rfl
        have hp1 : p ≤ l.length := HOK.out.1
        have hl9 : l.length ≤ 1000000000 := by omega
        have hnb : bx ∉ [br] := by simp; omega
        have hnbs : bs ∉ [br] := by simp; omega
        have hnbb : b ∉ [br] := by simp; omega
        have hLx0 : ∀ k ∈ [bx], w.heap.size ≤ k ∧ k ∉ br :: blk (.slice ar l.length capr) ∧ k ∉ w2.heap.size :: blk v := fun j hj => by
          have hjx : j = bx := by simpa using hj
          have h7 := HBX.out
          refine ⟨by omega, fun hm => ?_, fun hm => ?_⟩
          · have := HBEL.out _ (.inl hm); omega
          · have := HBEL.out _ (.inr hm); omega
        have HLX := Lib.hid hLx0
        clear hLx0
        by_cases k0 : kind = 0
        · subst k0
          obtain ⟨n, s', ho⟩ : ∃ n s', rNum l (p, fe, fa) size low high = (n, s') := ⟨_, _, rfl⟩
          have HO := Lib.hid ho
          clear ho
          go_wp2_with fail
          go_region_held3 (fun y => y.cell? ⟨bx, 2, none⟩ = some (.int .i64 size) ∧ y.cell? ⟨b, off + k * 4 + 2, none⟩ = some (.int .i64 low) ∧ y.cell? ⟨b, off + k * 4 + 3, none⟩ = some (.int .i64 high))
            (first | go_keep | (go_split_ands; exact ⟨f1.2.cell ‹_› hnb, f1.2.cell ‹_› hnbb, f1.2.cell ‹_› hnbb⟩) | (go_split_ands; exact ⟨(World.cell?_setCell_other _ _ _ _ (by simp [hbbx, Ne.symm hbbx])).trans ‹_›, (World.cell?_setCell_other _ _ _ _ (by simp [hbbx, Ne.symm hbbx])).trans ‹_›, (World.cell?_setCell_other _ _ _ _ (by simp [hbbx, Ne.symm hbbx])).trans ‹_›⟩))
            ((go_at_call 30; refine (RNumR_eq HO.out (HRW0.out.r.keep (Frm.refl [] _).drew (by simp) (by simp)) hp1 hl9).mono ?_; rintro r w6 ⟨rfl, f1⟩; have hx6 : w6.heap[bx]? = some (.cells #[.int .i64 0, .int .i64 0, .int .i64 size, .string ⟨#[]⟩, .slice none 0 0] 34 (0, 0)) := f1.2.heap HBX0.out hnb; have x1 : w6.cell? ⟨bx, 1, none⟩ = some (.int .i64 0) := (by rw [cell_of_heap hx6]; rfl); have xz : w6.frozen? ⟨bx, 1, none⟩ = false := frozen_of_heap hx6 1; have HX6 := Lib.hid hx6; clear hx6))
          go_wp2_with fail
          go_meet
          have F6 : Frm [bx] w6 (w6.setCell ⟨bx, 1, none⟩ (.int .i64 n)) := (Frm.refl [bx] w6).setCell _ _ (by simp)
          refine ⟨rfl, ⟨0, n, size, ByteArray.empty, []⟩, none, 0, [], s', ?_, ?_, ?_, SlB.nil _, by simp [blkR], good_num hl HOK.out HO.out⟩
          · rw [heap_setCell_same _ HX6.out]
            rfl
          · rw [heap_setCell_ne _ (by simpa using hsx)]
            exact f1.2.heap HBS0.out hnbs
          · exact ((HRW0.out.keep (Frm.refl [] _).drew (by simp)).read f1).but F6 HLX.out
        by_cases k1 : kind = 1
        · subst k1
          obtain ⟨m, s', ho⟩ : ∃ m : ByteArray, ∃ s', rText l (p, fe, fa) size = (m.data.toList, s') := ⟨⟨(rText l (p, fe, fa) size).1.toArray⟩, _, rfl⟩
          have HO := Lib.hid ho
          clear ho k0
          go_wp2_with fail
          refine (RTextR_eq HO.out HRW0.out.r hp1 hl9).mono ?_
          rintro r w6 ⟨rfl, f1⟩
          have hx6 : w6.heap[bx]? = some (.cells #[.int .i64 1, .int .i64 0, .int .i64 size, .string ⟨#[]⟩, .slice none 0 0] 34 (0, 0)) := f1.2.heap HBX0.out hnb
          have x1 : w6.cell? ⟨bx, 3, none⟩ = some (.string ⟨#[]⟩) := (by rw [cell_of_heap hx6]; rfl)
          have xz : w6.frozen? ⟨bx, 3, none⟩ = false := frozen_of_heap hx6 3
          have HX6 := Lib.hid hx6
          clear hx6
          go_wp2_with fail
          go_meet
          have F6 : Frm [bx] w6 (w6.setCell ⟨bx, 3, none⟩ (.string m)) := (Frm.refl [bx] w6).setCell _ _ (by simp)
          refine ⟨rfl, ⟨1, 0, size, m, []⟩, none, 0, [], s', ?_, ?_, ?_, SlB.nil _, by simp [blkR], good_text hl HOK.out HO.out⟩
          · rw [heap_setCell_same _ HX6.out]
            rfl
          · rw [heap_setCell_ne _ (by simpa using hsx)]
            exact f1.2.heap HBS0.out hnbs
          · exact (HRW0.out.read f1).but F6 HLX.out
        by_cases k2 : kind = 2
        · subst k2
          obtain ⟨m, s', ho⟩ : ∃ m, ∃ s', rRaw l (p, fe, fa) size = (m, s') := ⟨_, _, rfl⟩
          have HO := Lib.hid ho
          clear ho k0 k1
          go_wp2_with fail
          refine (RRawR_eq HO.out HRW0.out.r hp1 hl9).mono ?_
          rintro r w6 ⟨am, capm, spm, rfl, om, gm, f1⟩
          have hx6 : w6.heap[bx]? = some (.cells #[.int .i64 2, .int .i64 0, .int .i64 size, .string ⟨#[]⟩, .slice none 0 0] 34 (0, 0)) := f1.2.heap HBX0.out hnb
          have x1 : w6.cell? ⟨bx, 4, none⟩ = some (.slice none 0 0) := (by rw [cell_of_heap hx6]; rfl)
          have xz : w6.frozen? ⟨bx, 4, none⟩ = false := frozen_of_heap hx6 4
          have HX6 := Lib.hid hx6
          have HOM := Lib.hid om
          have HGM := Lib.hid gm
          clear hx6 om gm
          go_wp2_with fail
          go_meet
          have F6 : Frm [bx] w6 (w6.setCell ⟨bx, 4, none⟩ (.slice am m.length capm)) := (Frm.refl [bx] w6).setCell _ _ (by simp)
          refine ⟨rfl, ⟨2, 0, size, ByteArray.empty, m⟩, am, capm, spm, s', ?_, ?_, ?_, ?_, ?_, good_raw hl HOK.out HO.out⟩
          · rw [heap_setCell_same _ HX6.out]
            rfl
          · rw [heap_setCell_ne _ (by simpa using hsx)]
            exact f1.2.heap HBS0.out hnbs
          · exact (HRW0.out.read f1).but F6 HLX.out
          · exact (HOM.out.keep F6 (fun i hi => by have := HGM.out i hi; simp; omega)).sl
          · intro i hi hm
            have h8 := HGM.out i (blkR_sub hi)
            have h9 := HBEL.out i (.inr hm)
            have := HBX.out
            omega
        by_cases k3 : kind = 3
        · subst k3
          obtain ⟨s', ho⟩ : ∃ s', rRest l (p, fe, fa) = s' := ⟨_, rfl⟩
          have hr := RRestR_any br _ l spr (p, fe, fa) W HRW0.out.r hp1 hl9
          rw [ho] at hr
          obtain ⟨p', fe', fa'⟩ := s'
          have HO := Lib.hid ho
          have HRR := Lib.hid hr
          clear ho k0 k1 k2 hr
          go_wp2_with fail
          refine HRR.out.mono ?_
          rintro r w6 ⟨rfl, f1⟩
          have hx6 : w6.heap[bx]? = some (.cells #[.int .i64 3, .int .i64 0, .int .i64 size, .string ⟨#[]⟩, .slice none 0 0] 34 (0, 0)) := f1.2.heap HBX0.out hnb
          have x1 : w6.cell? ⟨bx, 2, none⟩ = some (.int .i64 size) := (by rw [cell_of_heap hx6]; rfl)
          have xz : w6.frozen? ⟨bx, 2, none⟩ = false := frozen_of_heap hx6 2
          have HX6 := Lib.hid hx6
          clear hx6
          go_wp2_with fail
          refine (RAt_any br _ l spr _ _ _ _ f1.1).mono ?_
          rintro r w7 ⟨rfl, hw7⟩
          subst hw7
          go_wp2_with fail
          go_meet
          have F6 : Frm [bx] w7 (w7.setCell ⟨bx, 2, none⟩ (.int .i64 p')) := (Frm.refl [bx] w7).setCell _ _ (by simp)
          refine ⟨rfl, ⟨3, 0, p', ByteArray.empty, []⟩, none, 0, [], (p', fe', fa'), ?_, ?_, ?_, SlB.nil _, by simp [blkR], good_rest hl HOK.out HO.out⟩
          · rw [heap_setCell_same _ HX6.out]
            rfl
          · rw [heap_setCell_ne _ (by simpa using hsx)]
            exact f1.2.heap HBS0.out hnbs
          · exact (HRW0.out.read f1).but F6 HLX.out
        · have e0 : (kind == 0) = false := by simpa using k0
          have e1 : (kind == 1) = false := by simpa using k1
          have e2 : (kind == 2) = false := by simpa using k2
          have e3 : (kind == 3) = false := by simpa using k3
          have G := good_other (size := size) HOK.out k0 k1 k2 k3
          clear k0 k1 k2 k3
          go_wp2_with fail
          go_meet
          exact ⟨rfl, ⟨kind, 0, size, ByteArray.empty, []⟩, none, 0, [], (p, fe, fa), HBX0.out, HBS0.out, HRW0.out, SlB.nil _, by simp [blkR], G⟩
      case rest =>
        obtain ⟨rfl, x, am, capm, msp2, s', hxb, hsb, hRW, hSl, hbl, hG⟩ := hcut
        obtain ⟨p', fe', fa'⟩ := s'
        obtain ⟨xk, n, xsz, S, m⟩ := x
        obtain ⟨hG1, hG2, hG3, hG4, hG5, hG6⟩ := hG
        simp only at hG2 hG3 hG4 hG5 hG6 hxb hsb hSl hbl
        have hp1 : p' ≤ l.length := hG1.1
        have hpp : ¬ (p' : Int) < (p : Int) := by omega
        have hpl : ¬ (l.length : Int) < (p' : Int) := by omega
        have hl9 : l.length ≤ 1000000000 := by omega
        have x0 : wc.cell? ⟨bx, 0, none⟩ = some (.int .i64 xk) := by rw [cell_of_heap hxb]; rfl
        have x1 : wc.cell? ⟨bx, 1, none⟩ = some (.int .i64 n) := by rw [cell_of_heap hxb]; rfl
        have x2 : wc.cell? ⟨bx, 2, none⟩ = some (.int .i64 xsz) := by rw [cell_of_heap hxb]; rfl
        have x3 : wc.cell? ⟨bx, 3, none⟩ = some (.string S) := by rw [cell_of_heap hxb]; rfl
        have x4 : wc.cell? ⟨bx, 4, none⟩ = some (.slice am m.length capm) := by rw [cell_of_heap hxb]; rfl
        have y0 : wc.cell? ⟨bs, 0, none⟩ = some (.int .i64 fe) := by rw [cell_of_heap hsb]; rfl
        have y1 : wc.cell? ⟨bs, 1, none⟩ = some (.int .i64 fa) := by rw [cell_of_heap hsb]; rfl
        have HG1 := Lib.hid hG1
        have HG3 := Lib.hid hG3
        have HG4 := Lib.hid hG4
        have HG5 := Lib.hid hG5
        have HG6 := Lib.hid hG6
        have HRC := Lib.hid hRW
        have HSL := Lib.hid hSl
        have HBL := Lib.hid hbl
        clear hG1 hG2 hG3 hG4 hG5 hG6 hRW hSl hbl hxb hsb r0 r1 r2 r3
        have hL := fun W (f : Frm [] wc W) => RLeft_any br _ l spr p' _ _ W ((HRC.out.keep f (by simp)).r) hp1 hl9
        have hA := fun W (f : Frm [] wc W) => RAt_any br _ l spr _ _ _ W ((HRC.out.keep f (by simp)).r)
        have hFt := fun W (f : Frm [] wc W) => RFault_any br _ l spr _ _ _ W ((HRC.out.keep f (by simp)).r)
        have HL := Lib.hid hL
        have HA := Lib.hid hA
        have HFt := Lib.hid hFt
        clear hL hA hFt
        go_wp2_with fail
        refine (HA.out _ (Frm.refl _ _)).mono ?_
        rintro r w6 ⟨rfl, hw6⟩
        subst hw6
        go_wp2_with fail
        refine (HA.out _ (Frm.refl _ _)).mono ?_
        rintro r w7 ⟨rfl, hw7⟩
        subst hw7
        go_wp2_with fail
        refine (HA.out _ (Frm.refl _ _)).mono ?_
        rintro r w8 ⟨rfl, hw8⟩
        subst hw8
        go_wp2_with fail
        refine (HL.out _ (Frm.refl _ _)).mono ?_
        rintro r w9 ⟨rfl, nn, rfl⟩
        have hsum : (p' : Int) + ((l.length : Int) - (p' : Int)) = (l.length : Int) := by omega
        go_wp2_with fail
        refine (HFt.out _ ((Frm.refl _ _).drewN _)).mono ?_
        unfold flt
        rintro r w10 ⟨rfl, f10⟩
        have F10 := ((Frm.refl [] w8).drewN nn).trans f10 (by simp)
        have z0 := F10.cell x0 (by simp)
        have z1 := F10.cell x1 (by simp)
        have z2 := F10.cell x2 (by simp)
        have z3 := F10.cell x3 (by simp)
        have z4 := F10.cell x4 (by simp)
        have u0 := F10.cell y0 (by simp)
        have u1 := F10.cell y1 (by simp)
        have HF10 := Lib.hid F10
        have hfield := field51 fe' fa'
        clear f10 F10 hsum x0 x1 x2 x3 x4 y0 y1
        by_cases hfe : fe' = 0
        · subst hfe
          obtain ⟨spw, hw⟩ := (HRC.out.keep HF10.out (by simp)).ww
          have hx : ActV w10 ⟨xk, n, xsz, S, m⟩ (.agg #[.int .i64 xk, .int .i64 n, .int .i64 xsz, .string S, .slice am m.length capm]) := ⟨am, capm, msp2, rfl, HSL.out.keep HF10.out (by simp), HG4.out⟩
          have hd : ∀ i ∈ blkA (.agg #[.int .i64 xk, .int .i64 n, .int .i64 xsz, .string S, .slice am m.length capm]), i ∉ w2.heap.size :: blk v := fun i hi => HBL.out i hi
          have hwr := write_any w2.heap.size v _ (l.take p) spw 0 ⟨xk, n, xsz, S, m⟩ w10 hw (by simp; omega) hx (by have := HG3.out; simp; omega) hd
          rw [HG5.out rfl] at hwr
          have HWR := Lib.hid hwr
          clear hw hx hd hwr
          go_wp2_with fail
          refine HWR.out.mono ?_
          rintro r w11 ⟨rfl, t11⟩
          obtain ⟨v', hv'⟩ := (HRC.out.keep HF10.out (by simp)).write t11
          have HV := Lib.hid hv'
          clear t11 hv'
          go_wp2_with fail
          exact ⟨⟨k + 1, (p', 0, fa'), v', by omega, by go_num, HG1.out, HV.out⟩, by simp [intOf]; omega⟩
        · obtain ⟨g1, g2, g3, g4, g5⟩ := HG6.out hfe
          subst g1 g2 g3
          have g4' : p' = p := g4
          subst g4'
          have hb0 : (fe' == 0) = false := by simpa using hfe
          have hE := fun W (f : Frm [] w8 W) => REnd_any br _ l spr p' fe' fa' W ((HRC.out.keep f (by simp)).r) hp1 hl9
          rw [show rEnd l (p', fe', fa') = (fe', fa') by simp [rEnd, hfe]] at hE
          have HE := Lib.hid hE
          have G5 := Lib.hid g5
          have HFE := Lib.hid hfe
          clear hE g4 g5 hfe
          go_wp2_with fail
          refine (HA.out _ HF10.out).mono ?_
          rintro r w11 ⟨rfl, hw11⟩
          subst hw11
          by_cases h0 : fe = 0
          · subst h0
            go_wp2_with fail
            first
              | (go_region_with (first
                  | (go_at_call 27; refine (HE.out _ (HF10.out.trans (by first | exact (Frm.refl [] _).drew | exact (Frm.refl [] _).drewN _) (by simp))).mono ?_; unfold flt; rintro r w12 ⟨rfl, f12⟩)
                  | (go_at_call 26; refine (HFt.out _ ((HF10.out.trans (by first | exact (Frm.refl [] _).drew | exact (Frm.refl [] _).drewN _) (by simp)).trans f12 (by simp))).mono ?_; unfold flt; rintro r w13 ⟨rfl, f13⟩)))
              | fail
            all_goals
              go_wp2_with fail
              exact ⟨⟨k + 1, (p', fe', fa'), v, by omega, by go_num, HG1.out, HRC.out.keep (((HF10.out.trans (by first | exact (Frm.refl [] _).drew | exact (Frm.refl [] _).drewN _) (by simp)).trans f12 (by simp)).trans f13 (by simp)) (by simp)⟩, by simp [intOf]; omega⟩
          · have hs9 := G5.out h0
            simp only [Prod.mk.injEq, true_and] at hs9
            obtain ⟨g6, g7⟩ := hs9
            subst g6 g7
            have hb1 : (fe' != 0) = true := by simpa using h0
            clear h0
            go_wp2_with fail
            go_region_with (first
              | (go_at_call 27; refine (HE.out _ ((HF10.out.trans (by first | exact (Frm.refl [] _).drew | exact (Frm.refl [] _).drewN _) (by simp)).trans f14 (by simp))).mono ?_; unfold flt; rintro r w12 ⟨rfl, f12⟩)
              | (go_at_call 26; refine (HFt.out _ (((HF10.out.trans (by first | exact (Frm.refl [] _).drew | exact (Frm.refl [] _).drewN _) (by simp)).trans f14 (by simp)).trans f12 (by simp))).mono ?_; unfold flt; rintro r w13 ⟨rfl, f13⟩)
              | (go_at_call 26; refine (HFt.out _ (HF10.out.trans (by first | exact (Frm.refl [] _).drew | exact (Frm.refl [] _).drewN _) (by simp))).mono ?_; unfold flt; rintro r w14 ⟨rfl, f14⟩; have u0 := f14.cell (show World.cell? (World.drew _) _ = _ from u0) (by simp); have u1 := f14.cell (show World.cell? (World.drew _) _ = _ from u1) (by simp)))
            all_goals
              go_wp2_with fail
              exact ⟨⟨k + 1, (p', fe', fa'), v, by omega, by go_num, HG1.out, HRC.out.keep ((((HF10.out.trans (by first | exact (Frm.refl [] _).drew | exact (Frm.refl [] _).drewN _) (by simp)).trans f14 (by simp)).trans f12 (by simp)).trans f13 (by simp)) (by simp)⟩, by simp [intOf]; omega⟩
    · obtain rfl : k = xs.length := by omega
      obtain ⟨spw, hw⟩ := HR.out.ww
      have hp1 : p ≤ l.length := HOK.out.1
      have hlt2 : (l.take p).length ≤ 65536 := by simp; omega
      have HW := Lib.hid hw
      have HLT2 := Lib.hid hlt2
      clear hw hlt2
      go_wp2_with fail
      refine (Out_any w2.heap.size v (l.take p) spw 0 wr HW.out HLT2.out).mono ?_
      have ho : outB (l.take p) 0 = l.take p := by simp [outB]
      unfold Outs
      rw [ho]
      rintro r w4 ⟨ao, capo, spo, rfl, oo, f4, b4⟩
      have HOO := Lib.hid oo
      have HF4 := Lib.hid f4
      have S4 := Lib.hid (((HS.out.keep HR.out.f (by simp)).keep f4 (by simp)).pre p hp1)
      have hpc : (p : Int) ≤ (cap : Int) := by
        obtain ⟨a9, c9, e9, h9, _⟩ := HS.out.form
        cases e9
        omega
      generalize hlen : (l.take p).length = q at *
      have HLN := Lib.hid hlen
      clear ho oo f4 b4 hlen
      go_wp2_with fail
      refine (RAt_any br _ l spr _ _ _ _ (HR.out.keep HF4.out (by simp)).r).mono ?_
      rintro r w5 ⟨rfl, hw5⟩
      subst hw5
      go_wp2_with fail
      refine (Same_any _ _ (l.take p) _ (l.take p) _ _ HOO.out.sl S4.out).mono ?_
      rintro r w6 ⟨rfl, hw6⟩
      subst hw6
      go_wp2_with fail
      go_ret
      exact ⟨by simp, HR.out.f.trans HF4.out (by simp)⟩
end Go.Proofs.Ytappmjophnhdaaa
