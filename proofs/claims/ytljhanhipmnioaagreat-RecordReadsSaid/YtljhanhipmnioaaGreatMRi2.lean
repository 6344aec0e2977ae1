/-
  The reading of a record, of the document. No conditions but those that each theorem names. Runs of many; lists of records that are told. No conditions but those that each theorem names. The document reads a table. No conditions but those that each theorem names. Contract of OverAddrs. No conditions but those that each theorem names.
-/
import Derived.Test.YtljhanhipmnioaaGreatMRa1
import Derived.Test.YtljhanhipmnioaaGreatMRa2
import Derived.Test.YtljhanhipmnioaaGreatMRa3
import Derived.Test.YtljhanhipmnioaaGreatMRa4
import Derived.Test.YtljhanhipmnioaaGreatMRa5
import Derived.Test.YtljhanhipmnioaaGreatMRa6
import Derived.Test.YtljhanhipmnioaaGreatMRa7
import Derived.Test.YtljhanhipmnioaaGreatMRa8
import Derived.Test.YtljhanhipmnioaaGreatMRa9
import Derived.Test.YtljhanhipmnioaaGreatMRa10
import Derived.Test.YtljhanhipmnioaaGreatMRb1
import Derived.Test.YtljhanhipmnioaaGreatMRc1
import Derived.Test.YtljhanhipmnioaaGreatMRf1
import Derived.Test.YtljhanhipmnioaaGreatMRf2
import Derived.Test.YtljhanhipmnioaaGreatMRi1
import Derived.OrdersHeld
import Derived.Great.Walk
import Derived.StillTailTactics
import Derived.Lib.Hide
import Derived.WalkKit
import Derived.WalkSpells
import Derived.WalkLawsBesides
import Derived.Deep.AppendSrc
import Derived.Laws.CopyOwn
import Derived.Laws.BytesArg
import Derived.Carry
import Derived.Laws.BytesString
import Derived.Deep.SlicePairs
import Derived.Deep.Cut
import Derived.Test.YtljhanhipmnioaaGreatChecked
import Derived.ChangeKeysEq
import Derived.Deep.MidRow
import Derived.Deep.RegionHeld3
import Derived.OpenShut
import Derived.WalkHide
import Derived.IntWalk
import Derived.Deep.RegionLaw
import Derived.Deep.RegionWith
import Derived.Deep.QuietTactic
import Derived.BigQuiet
import Derived.Deep.CutBlock
import Derived.Deep.DeepCutAuto
import Derived.Deep.Slices
import Derived.Defers
import Derived.Recover
import Derived.Deep.WholeRow
import Derived.Lib.Bytealg
import Derived.Lib.TrimUEq
import Derived.Lib.MinMaxS
import Derived.LaidEqlPtr
import Derived.Lib.OthersKept
import Derived.Deep.Draws
import Derived.WalkMore
import Derived.Deep.LoopGhost
import Derived.Lib.BufferWrite
import Derived.Lib.UnsafeStr
import Derived.Laws.MakeOwn
import Derived.Laws.Strings3
import Derived.BigRegion
import Derived.Lib.Walk
namespace Go.Proofs.YtljhanhipmnioaaGreat.Rd
open Go.RowKit
set_option linter.unusedVariables false
set_option linter.unusedSimpArgs false
set_option maxRecDepth 100000

open Pt (Pt may enc readPt readE zeroPt be4 be1 pc pv PtV SlA OwnA BT wpList_load_g heap_alloc_at lst_slB one_slB Ext Grew exec_slice_lh yieldsIf_ld)
open Kr (OwnE SlE Enco RowTys)

open Pt (PB ReadN)
theorem wpList_store54 {ops : Array Oper} {rest : List Oper} {o3 : Oper} {a : Act} {W : World} {Q : Exit → Act → World → Prop} (g3 : o3.guard = none)
    (p x : Operand) (h3 : o3.op = .store 54 p x) {v : Option Addr} {n cap : Nat} {b l b0 l0 : Int} {s s0 : List UInt8} {v0 : Value} {g : Nat} (h0 : PB W g v0 b0 l0 s0) (hs0 : s0.length = 32) (hs : s.length = 32)
    (e1 : a.eval p = .pointer (some ⟨g, 0, none⟩)) (e2 : a.eval x = pv (.slice v n cap) b l s)
    (k : ∀ V, PB V g (.slice v n cap) b l s → Frm [g] W V → wpList Tryz.prog ops Q rest (a.put o3.dst undef) V) :
    wpList Tryz.prog ops Q (o3 :: rest) a W := by
  refine wpList_store_row g3 54 p x h3 g (pc (.slice v n cap) b l s).toArray e1 e2 54 _ h0 (by rw [Pt.i26, Pt.pc_size, hs]) (by rw [Pt.pc_size, Pt.pc_size, hs0, hs]) (Pt.pc_one _ _ _) ?_
  exact k _ (setRow_heap W g _ _ 54 (0, 0) h0) ⟨rfl, rfl, rfl, by simp [World.setRow], fun k hk hn => setRow_other _ _ k _ (by simpa using hn)⟩
theorem SlA.keepL {w w' : World} {v : Value} {l sp : List Pt.Ad} {L : List Nat} (h : SlA w v l sp) (f : Frm L w w') (hn : ∀ k ∈ blk v, k < w.heap.size → k ∉ L) : SlA w' v l sp := by
  obtain ⟨h1, h2 | h2 | ⟨b, off, cap, h2, h3, h4, h5, h6⟩⟩ := h
  · exact ⟨h1, .inl h2⟩
  · exact ⟨h1, .inr (.inl h2)⟩
  · subst h2
    exact ⟨h1, .inr (.inr ⟨b, off, cap, rfl, h3, h4, h5, fun i u hu => f.cell (h6 i u hu) (hn b (by simp [blk]) (World.block_lt_of_cell? _ _ (h6 i u hu)))⟩)⟩
/-- What the reading of a record tells, of the document. -/
def RecD (g : Nat) (l : List UInt8) (at_ : Nat) (sh od : Bool) (w : World) (r : Ending) (w' : World) : Prop :=
  ∃ a cap x o at2 sh2, r = .returned (rv (.slice a x.root.ads.length cap) x) ∧ PtV w' (pv (.slice a x.root.ads.length cap) x.root.b x.root.l x.root.s) x.root ∧ (x.root.ads.length ≤ 3 ∧ x.name.size ≤ 255) ∧ (∀ i ∈ blk (.slice a x.root.ads.length cap), w.heap.size ≤ i) ∧ Frm [g] w w' ∧ RdS w' g l at2 sh2 (od || o) ∧ Runs recP l at_ sh (x, o) at2 sh2

set_option maxHeartbeats 16000000 in
theorem recordD_any (g : Nat) (l : List UInt8) (at0 : Nat) (sh0 od : Bool) (w : World) (h : RdS w g l at0 sh0 od) : Calls Tryz.prog 85 #[.pointer (some ⟨g, 0, none⟩)] w (RecD g l at0 sh0 od w) := by
  have h0 := h
  have hgl := h.lt
  go_enter Tryz.func85, Tryz.ntmps85
  go_upto_region 2 with (first
    | ((with_reducible (show wpList _ _ _ (Oper.mk (some 2) (Op.alloc 56) _ _ _ _ :: _) _ _)); refine wpList_val rfl (exec_alloc56 rfl _) ?_; have n1 := RB.new (w := w) (v := nilS) zeroR_s; have k1 : Frm [] w (w.alloc (.cells (rc nilS zeroR).toArray 56)) := (Frm.refl [] w).alloc _; obtain ⟨V1, hV1⟩ : ∃ V1, w.alloc (.cells (rc nilS zeroR).toArray 56) = V1 := ⟨_, rfl⟩; rw [hV1] at n1 k1 ⊢; clear hV1)
    | ((with_reducible (show wpList _ _ _ (Oper.mk (some 3) (Op.alloc 56) _ _ _ _ :: _) _ _)); refine wpList_val rfl (exec_alloc56 rfl _) ?_; have n2 := RB.new (w := V1) (v := nilS) zeroR_s; have k2 : Frm [] V1 (V1.alloc (.cells (rc nilS zeroR).toArray 56)) := (Frm.refl [] V1).alloc _; obtain ⟨W0, hW0⟩ : ∃ W0, V1.alloc (.cells (rc nilS zeroR).toArray 56) = W0 := ⟨_, rfl⟩; rw [hW0] at n2 k2 ⊢; clear hW0))
  obtain ⟨g2, hg2⟩ : ∃ g2, w.heap.size = g2 := ⟨_, rfl⟩
  obtain ⟨g3, hg3⟩ : ∃ g3, V1.heap.size = g3 := ⟨_, rfl⟩
  have hs1 := n1.lt
  have GG := Lib.hid (show g < g2 ∧ g2 < g3 ∧ w.heap.size ≤ g2 ∧ w.heap.size ≤ g3 by omega)
  rw [hg2] at n1
  rw [hg3] at n2
  rw [hg3]
  have B0 := Lib.hid n2
  have C0 := Lib.hid (n1.keep0 k2)
  have R0 := Lib.hid ((h0.keep k1 (by simp)).keep k2 (by simp))
  have F0 := Lib.hid (show Frm [g] w W0 from (k1.trans k2 (by simp)).mono (by simp))
  have SZ := Lib.hid (And.intro hg2 hg3)
  clear h0 h n1 n2 k1 k2 hs1 hg3
  rw [hg2]
  clear hg2 hgl

  have u1 := Lib.hid (runs_num 4 l at0 sh0 R0.out.le)
  go_upto_region 3 with (go_at_call 84; refine (number_any g l at0 4 sh0 od _ R0.out (by omega) (by omega)).mono ?_; rintro e y1 ⟨rfl, f1, r1⟩; have b1 := B0.out.keep f1 (by have := GG.out; simp; omega); have c1 := b1.gets.id; have z1 := b1.fz 0)
  have hst : Frm [g3] y1 (y1.setCell ⟨g3, 0, none⟩ (.int .i64 (bn (nxt l at0 4 sh0)))) := (Frm.refl [g3] _).setCell _ _ (.inl (by simp))
  have B1 := Lib.hid (b1.setId (bn (nxt l at0 4 sh0)))
  have R1 := Lib.hid (r1.keep hst (by have := GG.out; simp; omega))
  have F1 := Lib.hid (show Frm [g] w (y1.setCell ⟨g3, 0, none⟩ (.int .i64 (bn (nxt l at0 4 sh0)))) from (F0.out.trans f1 (by simp)).trans hst (by have := GG.out; simp; omega))
  have C1 := Lib.hid ((C0.out.keep f1 (by have := GG.out; simp; omega)).keep hst (by have := GG.out; simp; omega))
  clear f1 r1 b1 c1 z1 hst B0 R0 F0 C0
  generalize (y1.setCell ⟨g3, 0, none⟩ (.int .i64 (bn (nxt l at0 4 sh0)))) = W1 at *
  generalize bn (nxt l at0 4 sh0) = n1 at *
  generalize nAt l at0 4 sh0 = at1 at *
  generalize (!okN l at0 4 sh0) = sh1 at *

  have u2 := Lib.hid (runs_num 1 l at1 sh1 R1.out.le)
  have p2 := Lib.hid (show (!okN l at1 1 sh1) = false → 0 < nAt l at1 1 sh1 from fun h => nAt_pos (.inl (by omega)) h)
  have q2 := Lib.hid (show bn (nxt l at1 1 sh1) < 256 by have := bn_lt (nxt l at1 1 sh1); rw [nxt_len] at this; omega)
  go_upto_region 4 with (go_at_call 84; refine (number_any g l at1 1 sh1 od _ R1.out (by omega) (by omega)).mono ?_; rintro e W2 ⟨rfl, f2, r2⟩)
  have B2 := Lib.hid (B1.out.keep f2 (by have := GG.out; simp; omega))
  have R2 := Lib.hid r2
  have F2 := Lib.hid (F1.out.trans f2 (by simp))
  have C2 := Lib.hid (C1.out.keep f2 (by have := GG.out; simp; omega))
  clear f2 r2 B1 R1 F1 C1
  generalize bn (nxt l at1 1 sh1) = n2 at *
  generalize nAt l at1 1 sh1 = at2 at *
  generalize (!okN l at1 1 sh1) = sh2 at *
  have hn29 : (n2 : Int) < 256 := by have := q2.out; omega
  have u3 := Lib.hid (runs_tk n2 l at2 sh2 (nxt l at2 n2 sh2) (fun h => by unfold nxt; rw [if_pos h]) R2.out.le)
  have q3 := Lib.hid (show (nxt l at2 n2 sh2).length ≤ 255 by rw [nxt_len]; have := q2.out; omega)
  have h23 : 0 < n2 ∨ 0 < at2 ∨ sh2 = true := by
    cases hb : sh2 with
    | true => exact .inr (.inr rfl)
    | false => exact .inr (.inl (p2.out hb))
  have hs3 := Lib.hid h23
  clear h23
  go_upto_region 5 with (go_at_call 152; refine (some_one g l at2 n2 sh2 od _ R2.out (by have := q2.out; omega) hs3.out).mono ?_; rintro e y3 ⟨b3v, sp3, rfl, s3, nb3, f3, r3⟩; have hcv := convert_bytes BT s3 Tryz.underlying9; have b3 := B2.out.keep f3 (by have := GG.out; simp; omega); have c3 := b3.gets.name; have z3 := b3.fz 1)
  have hst : Frm [g3] y3 (y3.setCell ⟨g3, 1, none⟩ (.string ⟨(nxt l at2 n2 sh2).toArray⟩)) := (Frm.refl [g3] _).setCell _ _ (.inl (by simp))
  have B3 := Lib.hid (b3.setName ⟨(nxt l at2 n2 sh2).toArray⟩)
  have R3 := Lib.hid (r3.keep hst (by have := GG.out; simp; omega))
  have F3 := Lib.hid (show Frm [g] w (y3.setCell ⟨g3, 1, none⟩ (.string ⟨(nxt l at2 n2 sh2).toArray⟩)) from (F2.out.trans f3 (by simp)).trans hst (by have := GG.out; simp; omega))
  have C3 := Lib.hid ((C2.out.keep f3 (by have := GG.out; simp; omega)).keep hst (by have := GG.out; simp; omega))
  clear f3 r3 b3 c3 z3 hst s3 nb3 hcv B2 R2 F2 C2
  generalize (y3.setCell ⟨g3, 1, none⟩ (.string ⟨(nxt l at2 n2 sh2).toArray⟩)) = W3 at *
  generalize nxt l at2 n2 sh2 = nm at *
  generalize nAt l at2 n2 sh2 = at3 at *
  generalize (!okN l at2 n2 sh2) = sh3 at *

  have u4 := Lib.hid (runs_num 1 l at3 sh3 R3.out.le)
  go_upto_region 6 with (go_at_call 84; refine (number_any g l at3 1 sh3 od _ R3.out (by omega) (by omega)).mono ?_; rintro e y4 ⟨rfl, f4, r4⟩; have b4 := B3.out.keep f4 (by have := GG.out; simp; omega); have c4 := b4.gets.kind; have z4 := b4.fz 2)
  have hst : Frm [g3] y4 (y4.setCell ⟨g3, 2, none⟩ (.int .i64 (bn (nxt l at3 1 sh3)))) := (Frm.refl [g3] _).setCell _ _ (.inl (by simp))
  have B4 := Lib.hid (b4.setKind (bn (nxt l at3 1 sh3)))
  have R4 := Lib.hid (r4.keep hst (by have := GG.out; simp; omega))
  have F4 := Lib.hid (show Frm [g] w (y4.setCell ⟨g3, 2, none⟩ (.int .i64 (bn (nxt l at3 1 sh3)))) from (F3.out.trans f4 (by simp)).trans hst (by have := GG.out; simp; omega))
  have C4 := Lib.hid ((C3.out.keep f4 (by have := GG.out; simp; omega)).keep hst (by have := GG.out; simp; omega))
  clear f4 r4 b4 c4 z4 hst B3 R3 F3 C3
  generalize (y4.setCell ⟨g3, 2, none⟩ (.int .i64 (bn (nxt l at3 1 sh3)))) = W4 at *
  generalize bn (nxt l at3 1 sh3) = n4 at *
  generalize nAt l at3 1 sh3 = at4 at *
  generalize (!okN l at3 1 sh3) = sh4 at *

  have u5 := Lib.hid (runs_num 1 l at4 sh4 R4.out.le)
  go_upto_region 7 with (go_at_call 84; refine (number_any g l at4 1 sh4 od _ R4.out (by omega) (by omega)).mono ?_; rintro e y5 ⟨rfl, f5, r5⟩; have b5 := B4.out.keep f5 (by have := GG.out; simp; omega); have c5 := b5.gets.size; have z5 := b5.fz 3)
  have hst : Frm [g3] y5 (y5.setCell ⟨g3, 3, none⟩ (.int .i64 (bn (nxt l at4 1 sh4)))) := (Frm.refl [g3] _).setCell _ _ (.inl (by simp))
  have B5 := Lib.hid (b5.setSize (bn (nxt l at4 1 sh4)))
  have R5 := Lib.hid (r5.keep hst (by have := GG.out; simp; omega))
  have F5 := Lib.hid (show Frm [g] w (y5.setCell ⟨g3, 3, none⟩ (.int .i64 (bn (nxt l at4 1 sh4)))) from (F4.out.trans f5 (by simp)).trans hst (by have := GG.out; simp; omega))
  have C5 := Lib.hid ((C4.out.keep f5 (by have := GG.out; simp; omega)).keep hst (by have := GG.out; simp; omega))
  clear f5 r5 b5 c5 z5 hst B4 R4 F4 C4
  generalize (y5.setCell ⟨g3, 3, none⟩ (.int .i64 (bn (nxt l at4 1 sh4)))) = W5 at *
  generalize bn (nxt l at4 1 sh4) = n5 at *
  generalize nAt l at4 1 sh4 = at5 at *
  generalize (!okN l at4 1 sh4) = sh5 at *

  have u6 := Lib.hid (runs_tk 47 l at5 sh5 (nxt l at5 47 sh5) (fun h => by unfold nxt; rw [if_pos h]) R5.out.le)
  have q6 := Lib.hid (show (nxt l at5 47 sh5).length ≤ 1000000 by rw [nxt_len]; omega)
  go_upto_region 8 with (first
    | (go_at_call 152; refine (some_one g l at5 47 sh5 od _ R5.out (by omega) (.inl (by omega))).mono ?_; rintro e y6 ⟨b6v, sp6, rfl, s6, nb6, f6, r6⟩)
    | (go_at_call 153; refine (Pt.RefReadN_any _ _ _ _ s6 q6.out).mono ?_; rintro e y7 ⟨xv, rfl, px, f7, nx⟩; obtain ⟨pa, pcp, psp, hxv, hsl, h32⟩ := px; rw [hxv] at nx ⊢; rw [Pt.ptBlk_pv] at nx; have B6 := Lib.hid ((B5.out.keep f6 (by have := GG.out; simp; omega)).keep0 f7); have C6 := Lib.hid ((C5.out.keep f6 (by have := GG.out; simp; omega)).keep0 f7); have R6 := Lib.hid (r6.keep f7 (by simp)); have F6 := Lib.hid ((F5.out.trans f6 (by simp)).trans f7 (by simp)); have S7 := Lib.hid hsl; have N7 := Lib.hid (fun i hi => Nat.le_trans (Nat.le_trans F5.out.size f6.size) (nx i hi)); have H32 := Lib.hid h32; have SZ7 := Lib.hid (B5.out.lt); have N7b := Lib.hid (fun i hi => show g3 < i from by have h1 := nx i hi; have h2 := B5.out.lt; have h3 := f6.size; omega); clear s6 nb6 f6 r6 f7 nx hsl h32 hxv B5 C5 R5 F5)
    | ((with_reducible (show wpList _ _ _ (Oper.mk _ (Op.alloc 54) _ _ _ _ :: _) _ _)); refine wpList_val rfl (Pt.exec_alloc26z rfl _) ?_; have pb5 := PB.new y7 (.slice none 0 0) 0 0 Pt.zs)
    | ((with_reducible (show wpList _ _ _ (Oper.mk _ (Op.store 54 _ _) _ _ _ _ :: _) _ _)); refine wpList_store54 rfl (.tmp 5) (.tmp 27) rfl (pb5.alloc _) Pt.zs_len H32.out rfl rfl ?_; intro y8 n8 f8; have h6 : y8.heap[y7.heap.size + 1]? = some (.cells #[.int .i64 0, .int .i64 0] 44 (0, 0)) := f8.heap (heap_alloc_at (by simp)) (by simp); have e0 := cell_of_heap h6 0; have e1 := cell_of_heap h6 1; have z0 := frozen_of_heap h6 0; have z1 := frozen_of_heap h6 1))
  have hst : Frm [y7.heap.size + 1] y8 ((y8.setCell ⟨y7.heap.size + 1, 0, none⟩ (.int .i64 (readE (nxt l at5 47 sh5)))).setCell ⟨y7.heap.size + 1, 1, none⟩ (.int .i64 (Pt.readAt (nxt l at5 47 sh5)))) := ((Frm.refl [y7.heap.size + 1] _).setCell _ _ (.inl (by simp))).setCell _ _ (.inl (by simp))
  have h8 : Frm [y7.heap.size] y7 y8 := ((((Frm.refl [y7.heap.size] y7).alloc _).alloc _)).trans f8 (fun i hi => .inl hi)
  have hlt7 := B6.out.lt
  have E7 := Lib.hid (show (((y8.setCell ⟨y7.heap.size + 1, 0, none⟩ (.int .i64 (readE (nxt l at5 47 sh5)))).setCell ⟨y7.heap.size + 1, 1, none⟩ (.int .i64 (Pt.readAt (nxt l at5 47 sh5))))).cell? ⟨y7.heap.size + 1, 0, none⟩ = some (.int .i64 (readE (nxt l at5 47 sh5))) from cell_of_heap (heap_setCell_same (i := 1) _ (heap_setCell_same (i := 0) _ h6)) 0)
  have P7 := Lib.hid (show PB (((y8.setCell ⟨y7.heap.size + 1, 0, none⟩ (.int .i64 (readE (nxt l at5 47 sh5)))).setCell ⟨y7.heap.size + 1, 1, none⟩ (.int .i64 (Pt.readAt (nxt l at5 47 sh5))))) y7.heap.size _ _ _ _ from n8.keep hst (by simp))
  have B7 := Lib.hid ((B6.out.keep h8 (by simp; omega)).keep hst (by simp; omega))
  have C7 := Lib.hid ((C6.out.keep h8 (by have := GG.out; simp; omega)).keep hst (by have := GG.out; simp; omega))
  have R7 := Lib.hid ((R6.out.keep h8 (by have := GG.out; simp; omega)).keep hst (by have := GG.out; simp; omega))
  have F7 := Lib.hid (show Frm [g] w ((y8.setCell ⟨y7.heap.size + 1, 0, none⟩ (.int .i64 (readE (nxt l at5 47 sh5)))).setCell ⟨y7.heap.size + 1, 1, none⟩ (.int .i64 (Pt.readAt (nxt l at5 47 sh5)))) from (F6.out.trans h8 (fun i hi => .inr (by have := GG.out; have := F6.out.size; simp at hi; omega))).trans hst (fun i hi => .inr (by have := GG.out; have := F6.out.size; simp at hi; omega)))
  have hkk : Frm [y7.heap.size, y7.heap.size + 1] y7 ((y8.setCell ⟨y7.heap.size + 1, 0, none⟩ (.int .i64 (readE (nxt l at5 47 sh5)))).setCell ⟨y7.heap.size + 1, 1, none⟩ (.int .i64 (Pt.readAt (nxt l at5 47 sh5)))) := (h8.mono (by simp)).trans hst (by simp)
  have S8 := Lib.hid (fun z (fz : Frm [g, g2, g3] ((y8.setCell ⟨y7.heap.size + 1, 0, none⟩ (.int .i64 (readE (nxt l at5 47 sh5)))).setCell ⟨y7.heap.size + 1, 1, none⟩ (.int .i64 (Pt.readAt (nxt l at5 47 sh5)))) z) => SlA.keep (SlA.keepL S7.out hkk (fun i hi hlt hm => by simp at hm; omega)) fz (fun i hi hm => by have h1 := N7b.out i hi; have h2 := GG.out; simp at hm; omega))
  have G5 := Lib.hid hlt7
  clear hkk
  clear hst h8 h6 e0 e1 z0 z1 f8 n8 pb5 hlt7 S7 B6 C6 R6 F6
  generalize ((y8.setCell ⟨y7.heap.size + 1, 0, none⟩ (.int .i64 (readE (nxt l at5 47 sh5)))).setCell ⟨y7.heap.size + 1, 1, none⟩ (.int .i64 (Pt.readAt (nxt l at5 47 sh5)))) = W7 at *
  generalize hg5 : y7.heap.size = g5 at *
  obtain ⟨rE, hrE⟩ : ∃ rE, readE (nxt l at5 47 sh5) = rE := ⟨_, rfl⟩
  rw [hrE] at E7
  have HRE := Lib.hid hrE
  clear hrE
  obtain ⟨od2, hod2⟩ : ∃ od2, od2 = (od || (rE != 0)) := ⟨_, rfl⟩
  have HOD := Lib.hid hod2
  have c3r := (show RdB W7 g _ _ _ od from (Classical.choose_spec (Classical.choose_spec R7.out.blkv)).1).c3
  have z3r := (show RdB W7 g _ _ _ od from (Classical.choose_spec (Classical.choose_spec R7.out.blkv)).1).fz 3
  have e7 := E7.out
  cases od with
  | true =>
    go_upto_region 9 with (fail)
    have hst : Frm [g] W7 (W7.setCell ⟨g, 3, none⟩ (.bool true)) := (Frm.refl [g] _).setCell _ _ (.inl (by simp))
    have R8 := Lib.hid (show RdS (W7.setCell ⟨g, 3, none⟩ (.bool true)) g l (nAt l at5 47 sh5) (!okN l at5 47 sh5) od2 from by rw [HOD.out]; exact R7.out.odd _)
    have B8 := Lib.hid (B7.out.keep hst (by have := GG.out; simp; omega))
    have C8 := Lib.hid (C7.out.keep hst (by have := GG.out; simp; omega))
    have P8 := Lib.hid (P7.out.keep hst (by have := G5.out; have := GG.out; simp; omega))
    have F8 := Lib.hid (F7.out.trans hst (by simp))
    have K8 := Lib.hid (hst.mono (L' := [g, g2, g3]) (by simp))
    clear hst R7 B7 C7 P7 F7 E7
    generalize (W7.setCell ⟨g, 3, none⟩ (.bool true)) = W8 at *
    have L8 := Lib.hid (P8.out.gets H32.out).all
    go_upto_region 10 with (first
      | ((with_reducible (show wpList _ _ _ (Oper.mk _ (Op.load 54 _) _ _ _ _ :: _) _ _)); refine wpList_load_g (by rfl) 54 _ rfl _ rfl L8.out ?_)
      | ((with_reducible (show wpList _ _ _ (Oper.mk _ (Op.store 54 _ _) _ _ _ _ :: _) _ _)); refine wpList_store_mid rfl 54 (.tmp 42) (.tmp 41) rfl g3 4 (pc (.slice pa (readPt (nxt l at5 47 sh5)).ads.length pcp) (readPt (nxt l at5 47 sh5)).b (readPt (nxt l at5 47 sh5)).l (readPt (nxt l at5 47 sh5)).s).toArray rfl rfl (by rw [Pt.pc_size, H32.out]; exact B8.out.there) (by rw [Pt.i26, Pt.pc_size, H32.out]) (Pt.pc_one _ _ _) ?_))
    have hst : Frm [g3] W8 (W8.setCells g3 4 (pc (.slice pa (readPt (nxt l at5 47 sh5)).ads.length pcp) (readPt (nxt l at5 47 sh5)).b (readPt (nxt l at5 47 sh5)).l (readPt (nxt l at5 47 sh5)).s)) := Frm.setCells _ _ _ (Frm.refl _ _) (.inl (by simp))
    have B9 := Lib.hid (B8.out.setRoot (v' := .slice pa (readPt (nxt l at5 47 sh5)).ads.length pcp) (readPt (nxt l at5 47 sh5)) H32.out)
    have R9 := Lib.hid (R8.out.keep hst (by have := GG.out; simp; omega))
    have C9 := Lib.hid (C8.out.keep hst (by have := GG.out; simp; omega))
    have F9 := Lib.hid (F8.out.trans hst (by have := GG.out; simp; omega))
    have K9 := Lib.hid (K8.out.trans (hst.mono (L' := [g, g2, g3]) (by simp)) (by simp))
    clear hst R8 B8 C8 P8 F8 L8 K8
    generalize (W8.setCells g3 4 (pc (.slice pa (readPt (nxt l at5 47 sh5)).ads.length pcp) (readPt (nxt l at5 47 sh5)).b (readPt (nxt l at5 47 sh5)).l (readPt (nxt l at5 47 sh5)).s)) = W9 at *
    generalize nxt l at5 47 sh5 = nm6 at *
    obtain ⟨at9, hat9⟩ : ∃ at9, nAt l at5 47 sh5 = at9 := ⟨_, rfl⟩
    obtain ⟨sh9, hsh9⟩ : ∃ sh9, (!okN l at5 47 sh5) = sh9 := ⟨_, rfl⟩
    rw [hat9, hsh9] at u6 R9
    clear hat9 hsh9

    have u10 := Lib.hid (runs_num 4 l at9 sh9 R9.out.le)
    go_upto_region 11 with (go_at_call 84; refine (number_any g l at9 4 sh9 od2 _ R9.out (by omega) (by omega)).mono ?_; rintro e y10 ⟨rfl, f10, r10⟩; have b10 := B9.out.keep f10 (by have := GG.out; simp; omega); have c10 := b10.gets.made; have z10 := b10.fz 39)
    have hst : Frm [g3] y10 (y10.setCell ⟨g3, 39, none⟩ (.int .i64 (bn (nxt l at9 4 sh9)))) := (Frm.refl [g3] _).setCell _ _ (.inl (by simp))
    have B10 := Lib.hid (b10.setMade (bn (nxt l at9 4 sh9)))
    have R10 := Lib.hid (r10.keep hst (by have := GG.out; simp; omega))
    have F10 := Lib.hid (show Frm [g] w (y10.setCell ⟨g3, 39, none⟩ (.int .i64 (bn (nxt l at9 4 sh9)))) from (F9.out.trans f10 (by simp)).trans hst (by have := GG.out; simp; omega))
    have C10 := Lib.hid ((C9.out.keep f10 (by have := GG.out; simp; omega)).keep hst (by have := GG.out; simp; omega))
    have K10 := Lib.hid ((K9.out.trans (f10.mono (L' := [g, g2, g3]) (by simp)) (by simp)).trans (hst.mono (L' := [g, g2, g3]) (by simp)) (by simp))
    clear K9 f10 r10 b10 c10 z10 hst B9 R9 F9 C9
    generalize (y10.setCell ⟨g3, 39, none⟩ (.int .i64 (bn (nxt l at9 4 sh9)))) = W10 at *
    generalize bn (nxt l at9 4 sh9) = n10 at *
    generalize nAt l at9 4 sh9 = at10 at *
    generalize (!okN l at9 4 sh9) = sh10 at *

    have u11 := Lib.hid (runs_num 4 l at10 sh10 R10.out.le)
    go_upto_region 12 with (go_at_call 84; refine (number_any g l at10 4 sh10 od2 _ R10.out (by omega) (by omega)).mono ?_; rintro e y11 ⟨rfl, f11, r11⟩; have b11 := B10.out.keep f11 (by have := GG.out; simp; omega); have c11 := b11.gets.of; have z11 := b11.fz 40)
    have hst : Frm [g3] y11 (y11.setCell ⟨g3, 40, none⟩ (.int .i64 (bn (nxt l at10 4 sh10)))) := (Frm.refl [g3] _).setCell _ _ (.inl (by simp))
    have B11 := Lib.hid (b11.setOf (bn (nxt l at10 4 sh10)))
    have R11 := Lib.hid (r11.keep hst (by have := GG.out; simp; omega))
    have F11 := Lib.hid (show Frm [g] w (y11.setCell ⟨g3, 40, none⟩ (.int .i64 (bn (nxt l at10 4 sh10)))) from (F10.out.trans f11 (by simp)).trans hst (by have := GG.out; simp; omega))
    have C11 := Lib.hid ((C10.out.keep f11 (by have := GG.out; simp; omega)).keep hst (by have := GG.out; simp; omega))
    have K11 := Lib.hid ((K10.out.trans (f11.mono (L' := [g, g2, g3]) (by simp)) (by simp)).trans (hst.mono (L' := [g, g2, g3]) (by simp)) (by simp))
    clear K10 f11 r11 b11 c11 z11 hst B10 R10 F10 C10
    generalize (y11.setCell ⟨g3, 40, none⟩ (.int .i64 (bn (nxt l at10 4 sh10)))) = W11 at *
    generalize bn (nxt l at10 4 sh10) = n11 at *
    generalize nAt l at10 4 sh10 = at11 at *
    generalize (!okN l at10 4 sh10) = sh11 at *

    have u12 := Lib.hid (runs_num 4 l at11 sh11 R11.out.le)
    go_upto_region 13 with (go_at_call 84; refine (number_any g l at11 4 sh11 od2 _ R11.out (by omega) (by omega)).mono ?_; rintro e y12 ⟨rfl, f12, r12⟩; have b12 := B11.out.keep f12 (by have := GG.out; simp; omega); have c12 := b12.gets.origin; have z12 := b12.fz 41)
    have hst : Frm [g3] y12 (y12.setCell ⟨g3, 41, none⟩ (.int .i64 (bn (nxt l at11 4 sh11)))) := (Frm.refl [g3] _).setCell _ _ (.inl (by simp))
    have B12 := Lib.hid (b12.setOrigin (bn (nxt l at11 4 sh11)))
    have R12 := Lib.hid (r12.keep hst (by have := GG.out; simp; omega))
    have F12 := Lib.hid (show Frm [g] w (y12.setCell ⟨g3, 41, none⟩ (.int .i64 (bn (nxt l at11 4 sh11)))) from (F11.out.trans f12 (by simp)).trans hst (by have := GG.out; simp; omega))
    have C12 := Lib.hid ((C11.out.keep f12 (by have := GG.out; simp; omega)).keep hst (by have := GG.out; simp; omega))
    have K12 := Lib.hid ((K11.out.trans (f12.mono (L' := [g, g2, g3]) (by simp)) (by simp)).trans (hst.mono (L' := [g, g2, g3]) (by simp)) (by simp))
    clear K11 f12 r12 b12 c12 z12 hst B11 R11 F11 C11
    generalize (y12.setCell ⟨g3, 41, none⟩ (.int .i64 (bn (nxt l at11 4 sh11)))) = W12 at *
    generalize bn (nxt l at11 4 sh11) = n12 at *
    generalize nAt l at11 4 sh11 = at12 at *
    generalize (!okN l at11 4 sh11) = sh12 at *

    have u13 := Lib.hid (runs_num 1 l at12 sh12 R12.out.le)
    go_upto_region 14 with (go_at_call 84; refine (number_any g l at12 1 sh12 od2 _ R12.out (by omega) (by omega)).mono ?_; rintro e y13 ⟨rfl, f13, r13⟩; have b13 := B12.out.keep f13 (by have := GG.out; simp; omega); have c13 := b13.gets.quota; have z13 := b13.fz 42)
    have hst : Frm [g3] y13 (y13.setCell ⟨g3, 42, none⟩ (.int .i64 (bn (nxt l at12 1 sh12)))) := (Frm.refl [g3] _).setCell _ _ (.inl (by simp))
    have B13 := Lib.hid (b13.setQuota (bn (nxt l at12 1 sh12)))
    have R13 := Lib.hid (r13.keep hst (by have := GG.out; simp; omega))
    have F13 := Lib.hid (show Frm [g] w (y13.setCell ⟨g3, 42, none⟩ (.int .i64 (bn (nxt l at12 1 sh12)))) from (F12.out.trans f13 (by simp)).trans hst (by have := GG.out; simp; omega))
    have C13 := Lib.hid ((C12.out.keep f13 (by have := GG.out; simp; omega)).keep hst (by have := GG.out; simp; omega))
    have K13 := Lib.hid ((K12.out.trans (f13.mono (L' := [g, g2, g3]) (by simp)) (by simp)).trans (hst.mono (L' := [g, g2, g3]) (by simp)) (by simp))
    clear K12 f13 r13 b13 c13 z13 hst B12 R12 F12 C12
    generalize (y13.setCell ⟨g3, 42, none⟩ (.int .i64 (bn (nxt l at12 1 sh12)))) = W13 at *
    generalize bn (nxt l at12 1 sh12) = n13 at *
    generalize nAt l at12 1 sh12 = at13 at *
    generalize (!okN l at12 1 sh12) = sh13 at *

    have u14 := Lib.hid (runs_num 1 l at13 sh13 R13.out.le)
    go_upto_region 15 with (go_at_call 84; refine (number_any g l at13 1 sh13 od2 _ R13.out (by omega) (by omega)).mono ?_; rintro e y14 ⟨rfl, f14, r14⟩; have b14 := B13.out.keep f14 (by have := GG.out; simp; omega); have c14 := b14.gets.reserve; have z14 := b14.fz 43)
    have hst : Frm [g3] y14 (y14.setCell ⟨g3, 43, none⟩ (.int .i64 (bn (nxt l at13 1 sh13)))) := (Frm.refl [g3] _).setCell _ _ (.inl (by simp))
    have B14 := Lib.hid (b14.setReserve (bn (nxt l at13 1 sh13)))
    have R14 := Lib.hid (r14.keep hst (by have := GG.out; simp; omega))
    have F14 := Lib.hid (show Frm [g] w (y14.setCell ⟨g3, 43, none⟩ (.int .i64 (bn (nxt l at13 1 sh13)))) from (F13.out.trans f14 (by simp)).trans hst (by have := GG.out; simp; omega))
    have C14 := Lib.hid ((C13.out.keep f14 (by have := GG.out; simp; omega)).keep hst (by have := GG.out; simp; omega))
    have K14 := Lib.hid ((K13.out.trans (f14.mono (L' := [g, g2, g3]) (by simp)) (by simp)).trans (hst.mono (L' := [g, g2, g3]) (by simp)) (by simp))
    clear K13 f14 r14 b14 c14 z14 hst B13 R13 F13 C13
    generalize (y14.setCell ⟨g3, 43, none⟩ (.int .i64 (bn (nxt l at13 1 sh13)))) = W14 at *
    generalize bn (nxt l at13 1 sh13) = n14 at *
    generalize nAt l at13 1 sh13 = at14 at *
    generalize (!okN l at13 1 sh13) = sh14 at *

    have L14 := Lib.hid B14.out.gets.all
    have O14 := Lib.hid (show (Value.slice pa (readPt nm6).ads.length pcp).oneCell' = true from rfl)
    go_wp2_with (first
      | ((with_reducible (show wpList _ _ _ (Oper.mk _ (Op.load 56 _) _ _ _ _ :: _) _ _)); refine wpList_load_g (by rfl) 56 _ rfl _ rfl L14.out ?_)
      | ((with_reducible (show wpList _ _ _ (Oper.mk _ (Op.store 56 _ _) _ _ _ _ :: _) _ _)); refine wpList_store56 rfl (.tmp 2) (.tmp 58) rfl O14.out C14.out B14.out.2 rfl rfl ?_; intro V B15 F15))
    have S15 := S8.out V ((K14.out.trans (F15.mono (L' := [g, g2, g3]) (by simp)) (by simp)))
    refine bodyPost_ret (v := rv (.slice pa (readPt nm6).ads.length pcp) _) (results_cell_row (p := 2) rfl _ _ g2 56 _ (0, 0) _ rfl B15.1 Tryz.underlying56 rfl (by rw [i56, rv_size B14.out.2])) rfl ?_
    refine ⟨pa, pcp, _, rE != 0, at14, sh14, rfl, ⟨pa, pcp, psp, rfl, S15, H32.out⟩, ⟨Pt.read_len nm6, ?_⟩, ?_, ?_, ?_, ?_⟩
    · have := q3.out
      show (ByteArray.mk nm.toArray).size ≤ 255
      rw [Lib.size_eq]
      simpa using this
    · exact N7.out
    · exact F14.out.trans F15 (by have := GG.out; simp; omega)
    · rw [← HOD.out]
      exact R14.out.keep F15 (by have := GG.out; simp; omega)
    · rw [← HRE.out]
      exact u1.out.bnd (u2.out.bnd (u3.out.bnd (u4.out.bnd (u5.out.bnd (u6.out.bnd (u10.out.bnd (u11.out.bnd (u12.out.bnd (u13.out.bnd (u14.out.bnd (Runs.ret _ _ _ _ R14.out.le)))))))))))
  | false =>
    go_upto_region 9 with (fail)
    have hst : Frm [g] W7 (W7.setCell ⟨g, 3, none⟩ (.bool (rE != 0))) := (Frm.refl [g] _).setCell _ _ (.inl (by simp))
    have R8 := Lib.hid (show RdS (W7.setCell ⟨g, 3, none⟩ (.bool (rE != 0))) g l (nAt l at5 47 sh5) (!okN l at5 47 sh5) od2 from by rw [HOD.out]; exact R7.out.odd _)
    have B8 := Lib.hid (B7.out.keep hst (by have := GG.out; simp; omega))
    have C8 := Lib.hid (C7.out.keep hst (by have := GG.out; simp; omega))
    have P8 := Lib.hid (P7.out.keep hst (by have := G5.out; have := GG.out; simp; omega))
    have F8 := Lib.hid (F7.out.trans hst (by simp))
    have K8 := Lib.hid (hst.mono (L' := [g, g2, g3]) (by simp))
    clear hst R7 B7 C7 P7 F7 E7
    generalize (W7.setCell ⟨g, 3, none⟩ (.bool (rE != 0))) = W8 at *
    have L8 := Lib.hid (P8.out.gets H32.out).all
    go_upto_region 10 with (first
      | ((with_reducible (show wpList _ _ _ (Oper.mk _ (Op.load 54 _) _ _ _ _ :: _) _ _)); refine wpList_load_g (by rfl) 54 _ rfl _ rfl L8.out ?_)
      | ((with_reducible (show wpList _ _ _ (Oper.mk _ (Op.store 54 _ _) _ _ _ _ :: _) _ _)); refine wpList_store_mid rfl 54 (.tmp 42) (.tmp 41) rfl g3 4 (pc (.slice pa (readPt (nxt l at5 47 sh5)).ads.length pcp) (readPt (nxt l at5 47 sh5)).b (readPt (nxt l at5 47 sh5)).l (readPt (nxt l at5 47 sh5)).s).toArray rfl rfl (by rw [Pt.pc_size, H32.out]; exact B8.out.there) (by rw [Pt.i26, Pt.pc_size, H32.out]) (Pt.pc_one _ _ _) ?_))
    have hst : Frm [g3] W8 (W8.setCells g3 4 (pc (.slice pa (readPt (nxt l at5 47 sh5)).ads.length pcp) (readPt (nxt l at5 47 sh5)).b (readPt (nxt l at5 47 sh5)).l (readPt (nxt l at5 47 sh5)).s)) := Frm.setCells _ _ _ (Frm.refl _ _) (.inl (by simp))
    have B9 := Lib.hid (B8.out.setRoot (v' := .slice pa (readPt (nxt l at5 47 sh5)).ads.length pcp) (readPt (nxt l at5 47 sh5)) H32.out)
    have R9 := Lib.hid (R8.out.keep hst (by have := GG.out; simp; omega))
    have C9 := Lib.hid (C8.out.keep hst (by have := GG.out; simp; omega))
    have F9 := Lib.hid (F8.out.trans hst (by have := GG.out; simp; omega))
    have K9 := Lib.hid (K8.out.trans (hst.mono (L' := [g, g2, g3]) (by simp)) (by simp))
    clear hst R8 B8 C8 P8 F8 L8 K8
    generalize (W8.setCells g3 4 (pc (.slice pa (readPt (nxt l at5 47 sh5)).ads.length pcp) (readPt (nxt l at5 47 sh5)).b (readPt (nxt l at5 47 sh5)).l (readPt (nxt l at5 47 sh5)).s)) = W9 at *
    generalize nxt l at5 47 sh5 = nm6 at *
    obtain ⟨at9, hat9⟩ : ∃ at9, nAt l at5 47 sh5 = at9 := ⟨_, rfl⟩
    obtain ⟨sh9, hsh9⟩ : ∃ sh9, (!okN l at5 47 sh5) = sh9 := ⟨_, rfl⟩
    rw [hat9, hsh9] at u6 R9
    clear hat9 hsh9

    have u10 := Lib.hid (runs_num 4 l at9 sh9 R9.out.le)
    go_upto_region 11 with (go_at_call 84; refine (number_any g l at9 4 sh9 od2 _ R9.out (by omega) (by omega)).mono ?_; rintro e y10 ⟨rfl, f10, r10⟩; have b10 := B9.out.keep f10 (by have := GG.out; simp; omega); have c10 := b10.gets.made; have z10 := b10.fz 39)
    have hst : Frm [g3] y10 (y10.setCell ⟨g3, 39, none⟩ (.int .i64 (bn (nxt l at9 4 sh9)))) := (Frm.refl [g3] _).setCell _ _ (.inl (by simp))
    have B10 := Lib.hid (b10.setMade (bn (nxt l at9 4 sh9)))
    have R10 := Lib.hid (r10.keep hst (by have := GG.out; simp; omega))
    have F10 := Lib.hid (show Frm [g] w (y10.setCell ⟨g3, 39, none⟩ (.int .i64 (bn (nxt l at9 4 sh9)))) from (F9.out.trans f10 (by simp)).trans hst (by have := GG.out; simp; omega))
    have C10 := Lib.hid ((C9.out.keep f10 (by have := GG.out; simp; omega)).keep hst (by have := GG.out; simp; omega))
    have K10 := Lib.hid ((K9.out.trans (f10.mono (L' := [g, g2, g3]) (by simp)) (by simp)).trans (hst.mono (L' := [g, g2, g3]) (by simp)) (by simp))
    clear K9 f10 r10 b10 c10 z10 hst B9 R9 F9 C9
    generalize (y10.setCell ⟨g3, 39, none⟩ (.int .i64 (bn (nxt l at9 4 sh9)))) = W10 at *
    generalize bn (nxt l at9 4 sh9) = n10 at *
    generalize nAt l at9 4 sh9 = at10 at *
    generalize (!okN l at9 4 sh9) = sh10 at *

    have u11 := Lib.hid (runs_num 4 l at10 sh10 R10.out.le)
    go_upto_region 12 with (go_at_call 84; refine (number_any g l at10 4 sh10 od2 _ R10.out (by omega) (by omega)).mono ?_; rintro e y11 ⟨rfl, f11, r11⟩; have b11 := B10.out.keep f11 (by have := GG.out; simp; omega); have c11 := b11.gets.of; have z11 := b11.fz 40)
    have hst : Frm [g3] y11 (y11.setCell ⟨g3, 40, none⟩ (.int .i64 (bn (nxt l at10 4 sh10)))) := (Frm.refl [g3] _).setCell _ _ (.inl (by simp))
    have B11 := Lib.hid (b11.setOf (bn (nxt l at10 4 sh10)))
    have R11 := Lib.hid (r11.keep hst (by have := GG.out; simp; omega))
    have F11 := Lib.hid (show Frm [g] w (y11.setCell ⟨g3, 40, none⟩ (.int .i64 (bn (nxt l at10 4 sh10)))) from (F10.out.trans f11 (by simp)).trans hst (by have := GG.out; simp; omega))
    have C11 := Lib.hid ((C10.out.keep f11 (by have := GG.out; simp; omega)).keep hst (by have := GG.out; simp; omega))
    have K11 := Lib.hid ((K10.out.trans (f11.mono (L' := [g, g2, g3]) (by simp)) (by simp)).trans (hst.mono (L' := [g, g2, g3]) (by simp)) (by simp))
    clear K10 f11 r11 b11 c11 z11 hst B10 R10 F10 C10
    generalize (y11.setCell ⟨g3, 40, none⟩ (.int .i64 (bn (nxt l at10 4 sh10)))) = W11 at *
    generalize bn (nxt l at10 4 sh10) = n11 at *
    generalize nAt l at10 4 sh10 = at11 at *
    generalize (!okN l at10 4 sh10) = sh11 at *

    have u12 := Lib.hid (runs_num 4 l at11 sh11 R11.out.le)
    go_upto_region 13 with (go_at_call 84; refine (number_any g l at11 4 sh11 od2 _ R11.out (by omega) (by omega)).mono ?_; rintro e y12 ⟨rfl, f12, r12⟩; have b12 := B11.out.keep f12 (by have := GG.out; simp; omega); have c12 := b12.gets.origin; have z12 := b12.fz 41)
    have hst : Frm [g3] y12 (y12.setCell ⟨g3, 41, none⟩ (.int .i64 (bn (nxt l at11 4 sh11)))) := (Frm.refl [g3] _).setCell _ _ (.inl (by simp))
    have B12 := Lib.hid (b12.setOrigin (bn (nxt l at11 4 sh11)))
    have R12 := Lib.hid (r12.keep hst (by have := GG.out; simp; omega))
    have F12 := Lib.hid (show Frm [g] w (y12.setCell ⟨g3, 41, none⟩ (.int .i64 (bn (nxt l at11 4 sh11)))) from (F11.out.trans f12 (by simp)).trans hst (by have := GG.out; simp; omega))
    have C12 := Lib.hid ((C11.out.keep f12 (by have := GG.out; simp; omega)).keep hst (by have := GG.out; simp; omega))
    have K12 := Lib.hid ((K11.out.trans (f12.mono (L' := [g, g2, g3]) (by simp)) (by simp)).trans (hst.mono (L' := [g, g2, g3]) (by simp)) (by simp))
    clear K11 f12 r12 b12 c12 z12 hst B11 R11 F11 C11
    generalize (y12.setCell ⟨g3, 41, none⟩ (.int .i64 (bn (nxt l at11 4 sh11)))) = W12 at *
    generalize bn (nxt l at11 4 sh11) = n12 at *
    generalize nAt l at11 4 sh11 = at12 at *
    generalize (!okN l at11 4 sh11) = sh12 at *

    have u13 := Lib.hid (runs_num 1 l at12 sh12 R12.out.le)
    go_upto_region 14 with (go_at_call 84; refine (number_any g l at12 1 sh12 od2 _ R12.out (by omega) (by omega)).mono ?_; rintro e y13 ⟨rfl, f13, r13⟩; have b13 := B12.out.keep f13 (by have := GG.out; simp; omega); have c13 := b13.gets.quota; have z13 := b13.fz 42)
    have hst : Frm [g3] y13 (y13.setCell ⟨g3, 42, none⟩ (.int .i64 (bn (nxt l at12 1 sh12)))) := (Frm.refl [g3] _).setCell _ _ (.inl (by simp))
    have B13 := Lib.hid (b13.setQuota (bn (nxt l at12 1 sh12)))
    have R13 := Lib.hid (r13.keep hst (by have := GG.out; simp; omega))
    have F13 := Lib.hid (show Frm [g] w (y13.setCell ⟨g3, 42, none⟩ (.int .i64 (bn (nxt l at12 1 sh12)))) from (F12.out.trans f13 (by simp)).trans hst (by have := GG.out; simp; omega))
    have C13 := Lib.hid ((C12.out.keep f13 (by have := GG.out; simp; omega)).keep hst (by have := GG.out; simp; omega))
    have K13 := Lib.hid ((K12.out.trans (f13.mono (L' := [g, g2, g3]) (by simp)) (by simp)).trans (hst.mono (L' := [g, g2, g3]) (by simp)) (by simp))
    clear K12 f13 r13 b13 c13 z13 hst B12 R12 F12 C12
    generalize (y13.setCell ⟨g3, 42, none⟩ (.int .i64 (bn (nxt l at12 1 sh12)))) = W13 at *
    generalize bn (nxt l at12 1 sh12) = n13 at *
    generalize nAt l at12 1 sh12 = at13 at *
    generalize (!okN l at12 1 sh12) = sh13 at *

    have u14 := Lib.hid (runs_num 1 l at13 sh13 R13.out.le)
    go_upto_region 15 with (go_at_call 84; refine (number_any g l at13 1 sh13 od2 _ R13.out (by omega) (by omega)).mono ?_; rintro e y14 ⟨rfl, f14, r14⟩; have b14 := B13.out.keep f14 (by have := GG.out; simp; omega); have c14 := b14.gets.reserve; have z14 := b14.fz 43)
    have hst : Frm [g3] y14 (y14.setCell ⟨g3, 43, none⟩ (.int .i64 (bn (nxt l at13 1 sh13)))) := (Frm.refl [g3] _).setCell _ _ (.inl (by simp))
    have B14 := Lib.hid (b14.setReserve (bn (nxt l at13 1 sh13)))
    have R14 := Lib.hid (r14.keep hst (by have := GG.out; simp; omega))
    have F14 := Lib.hid (show Frm [g] w (y14.setCell ⟨g3, 43, none⟩ (.int .i64 (bn (nxt l at13 1 sh13)))) from (F13.out.trans f14 (by simp)).trans hst (by have := GG.out; simp; omega))
    have C14 := Lib.hid ((C13.out.keep f14 (by have := GG.out; simp; omega)).keep hst (by have := GG.out; simp; omega))
    have K14 := Lib.hid ((K13.out.trans (f14.mono (L' := [g, g2, g3]) (by simp)) (by simp)).trans (hst.mono (L' := [g, g2, g3]) (by simp)) (by simp))
    clear K13 f14 r14 b14 c14 z14 hst B13 R13 F13 C13
    generalize (y14.setCell ⟨g3, 43, none⟩ (.int .i64 (bn (nxt l at13 1 sh13)))) = W14 at *
    generalize bn (nxt l at13 1 sh13) = n14 at *
    generalize nAt l at13 1 sh13 = at14 at *
    generalize (!okN l at13 1 sh13) = sh14 at *

    have L14 := Lib.hid B14.out.gets.all
    have O14 := Lib.hid (show (Value.slice pa (readPt nm6).ads.length pcp).oneCell' = true from rfl)
    go_wp2_with (first
      | ((with_reducible (show wpList _ _ _ (Oper.mk _ (Op.load 56 _) _ _ _ _ :: _) _ _)); refine wpList_load_g (by rfl) 56 _ rfl _ rfl L14.out ?_)
      | ((with_reducible (show wpList _ _ _ (Oper.mk _ (Op.store 56 _ _) _ _ _ _ :: _) _ _)); refine wpList_store56 rfl (.tmp 2) (.tmp 58) rfl O14.out C14.out B14.out.2 rfl rfl ?_; intro V B15 F15))
    have S15 := S8.out V ((K14.out.trans (F15.mono (L' := [g, g2, g3]) (by simp)) (by simp)))
    refine bodyPost_ret (v := rv (.slice pa (readPt nm6).ads.length pcp) _) (results_cell_row (p := 2) rfl _ _ g2 56 _ (0, 0) _ rfl B15.1 Tryz.underlying56 rfl (by rw [i56, rv_size B14.out.2])) rfl ?_
    refine ⟨pa, pcp, _, rE != 0, at14, sh14, rfl, ⟨pa, pcp, psp, rfl, S15, H32.out⟩, ⟨Pt.read_len nm6, ?_⟩, ?_, ?_, ?_, ?_⟩
    · have := q3.out
      show (ByteArray.mk nm.toArray).size ≤ 255
      rw [Lib.size_eq]
      simpa using this
    · exact N7.out
    · exact F14.out.trans F15 (by have := GG.out; simp; omega)
    · rw [← HOD.out]
      exact R14.out.keep F15 (by have := GG.out; simp; omega)
    · rw [← HRE.out]
      exact u1.out.bnd (u2.out.bnd (u3.out.bnd (u4.out.bnd (u5.out.bnd (u6.out.bnd (u10.out.bnd (u11.out.bnd (u12.out.bnd (u13.out.bnd (u14.out.bnd (Runs.ret _ _ _ _ R14.out.le)))))))))))
end Go.Proofs.YtljhanhipmnioaaGreat.Rd

namespace Go.Proofs.YtljhanhipmnioaaGreat.Rd
open Go.RowKit
set_option linter.unusedVariables false
set_option linter.unusedSimpArgs false
set_option maxRecDepth 100000

open Pt (Pt may enc readPt readE zeroPt be4 be1 pc pv PtV SlA OwnA BT wpList_load_g heap_alloc_at lst_slB one_slB Ext Grew exec_slice_lh yieldsIf_ld)
open Kr (OwnE SlE Enco RowTys)
theorem many_none {α : Type} {p : P α} {n : Nat} {l : List UInt8} (h : many p n l = none) : ∀ d, many p (n + d) l = none
  | 0 => h
  | d + 1 => by
    show many p ((n + d) + 1) l = none
    rw [many_snocP]; exact bnd_none (many_none h d)
theorem Runs.stop {α : Type} {p : P α} {n m : Nat} {l : List UInt8} {a1 a2 : Nat} {s1 : Bool} {xs : List α} (h : Runs (many p n) l a1 s1 xs a2 true) (hn : n ≤ m) (ys : List α) : Runs (many p m) l a1 s1 ys a2 true := by
  refine ⟨fun _ => rfl, fun hs => .inr ⟨?_, rfl⟩⟩
  obtain ⟨d, rfl⟩ := Nat.exists_eq_add_of_le hn
  rcases h.2 hs with ⟨_, _, _, e, _⟩ | ⟨e, _⟩
  · cases e
  · exact many_none e d
theorem Td.nil2 {w0 w : World} (f : Frm [] w0 w) : Td w0 w (.slice none 0 0) [] [] := ⟨⟨[], OwnE.nil _ _ _ _⟩, rfl, fun i r u h => by simp at h, by simp [blk], f⟩
theorem wpList_td {ops : Array Oper} {rest : List Oper} {o1 o2 : Oper} {a : Act} {Q : Exit → Act → World → Prop} {w0 w : World} {v : Value} {l : List Rec} {rs : List RowT} {x : RowT} {u : Rec} (h : Td w0 w v l rs) (hb : l.length ≤ 1000000)
    (hx : RowV w x u) (hxn : (∀ w', RowV w' x u) ∨ ∀ k ∈ rb x, k ∉ blk v)
    (g1 : o1.guard = none) (g2 : o2.guard = none) (p s y : Operand) (d : Nat) (hd : o1.dst = some d) (h1 : o1.op = .buildSlice 22 1 #[(0, p)]) (h2 : o2.op = Op.call { callee := Callee.builtin Builtin.append, args := #[s, y], argTypes := #[22, 22] })
    (ep : a.eval p = .agg x.1.toArray) (es : (a.put (some d) (.slice (some ⟨w.heap.size, 0, none⟩) 1 1)).eval s = v) (ey : (a.put (some d) (.slice (some ⟨w.heap.size, 0, none⟩) 1 1)).eval y = .slice (some ⟨w.heap.size, 0, none⟩) 1 1)
    (kk : ∀ a' cap' w', Td w0 w' (.slice a' (l.length + 1) cap') (l ++ [u]) (rs ++ [x]) → Frm (blk v) w w' → (∀ i ∈ blk (.slice a' (l.length + 1) cap'), i ∈ blk v ∨ w.heap.size ≤ i) → wpList Tryz.prog ops Q rest ((a.put (some d) (.slice (some ⟨w.heap.size, 0, none⟩) 1 1)).put o2.dst (.slice a' (l.length + 1) cap')) w') :
    wpList Tryz.prog ops Q (o1 :: o2 :: rest) a w := by
  obtain ⟨spv, ho⟩ := h.own
  have hrl := h.len
  refine Great.wpList_buildSliceTo g1 22 56 1 #[(0, p)] h1 w.heap.size rfl (some d) hd Tryz.underlying22 x.1.toArray (by simp only [List.map_toArray, List.map_cons, List.map_nil, ep]; exact built56 x.2.1) ?_
  have f1 : Frm [] w (w.alloc (.cells x.1.toArray 56)) := (Frm.refl [] w).alloc _
  have hS : SlE eR 44 (w.alloc (.cells x.1.toArray 56)) (.slice (some ⟨w.heap.size, 0, none⟩) 1 1) [x] [] := Kr.SlE.of_block (T := 56) encRow (by rw [Kr.flt_one]; exact heap_alloc_new _ _) rfl (by decide)
  refine Kr.wpList_append_e encRow tysRec (ho.keep0 f1) hS (by simp; omega) (by decide) g2 s y h2 es ey ?_
  intro a2 cap2 w2 sp2 o2' f2 n2
  rw [show rs.length + [x].length = l.length + 1 by simp [hrl]] at o2' n2 ⊢
  have f12 : Frm (blk v) w w2 := (f1.mono (by simp)).trans f2 (fun i hi => .inl hi)
  have n3 : ∀ i ∈ blk (.slice a2 (l.length + 1) cap2), i ∈ blk v ∨ w.heap.size ≤ i := fun i hi => by
    rcases n2 i hi with h | h
    · exact .inl h
    · simp at h; exact .inr (by omega)
  exact kk a2 cap2 w2 (h.more f12 o2' n3 hx hxn) f12 n3
end Go.Proofs.YtljhanhipmnioaaGreat.Rd

namespace Go.Proofs.YtljhanhipmnioaaGreat.Rd
open Go.RowKit
set_option linter.unusedVariables false
set_option linter.unusedSimpArgs false
set_option maxRecDepth 100000

open Pt (Pt may enc readPt readE zeroPt be4 be1 pc pv PtV SlA OwnA BT wpList_load_g heap_alloc_at lst_slB one_slB Ext Grew exec_slice_lh yieldsIf_ld)
open Kr (OwnE SlE Enco RowTys)

open Pt (PB ReadN)
section
variable {w : World} {g : Nat} {vr vl : Value} {t : Tab}
theorem TB.setCur (h : TB w g vr vl t) (c : Cur) : TB (w.setCells g 2 [.int .i64 c.kind, .int .i64 c.dev, .int .i64 c.at_, .int .i64 c.txg]) g vr vl ⟨t.next, t.recs, c, t.lives⟩ := by
  have hb : Blk w g 27 ([.int .i64 t.next, vr] ++ ([.int .i64 t.cur.kind, .int .i64 t.cur.dev, .int .i64 t.cur.at_, .int .i64 t.cur.txg] ++ [vl])) := h
  exact hb.put (o := 2) rfl rfl
end
def nextT (n : Int) : Tab := ⟨n, [], zeroC, []⟩
theorem bld27n (n : Int) (W : World) : (Instr.build 27 #[(0, .int .i64 n)]).run Tryz.prog W = .ok (tv nilS nilS (nextT n)) W := by kernel_rfl
theorem exec_bld27n {o : Oper} {a : Act} (p : Operand) (n : Int) (hop : o.op = Op.build 27 #[(0, p)]) (hp : a.eval p = .int .i64 n) (W : World) : (execOp a.eval o).run Tryz.prog W = .ok (.value (tv nilS nilS (nextT n))) W := by
  have hb := bld27n n W
  simp only [execOp, hop, List.map_toArray, List.map_cons, List.map_nil, hp, Sem.run_bind, Sem.run_pure, hb, Result.andThen_ok]
/-- What the reading of a table tells, of the document. -/
def ReadD (l : List UInt8) (w : World) (r : Ending) (w' : World) : Prop := ∃ vr vl, r = .returned (.tuple #[tv vr vl (readT l).1, .agg #[.int .i64 (readT l).2.1, .int .i64 (readT l).2.2]]) ∧ TabV w' vr vl (readT l).1 ∧ Frm [] w w'
/-- The records ahead, as they are read. -/
def RcRel (w W : World) (g gt N : Nat) (l : List UInt8) (next : Int) (m at1 : Nat) (sh1 : Bool) (cv : Value) (wr : World) : Prop :=
  ∃ (i : Nat) (rs : List RowT) (xs : List (Rec × Bool)) (at_ : Nat) (sh : Bool) (vr : Value), i ≤ m ∧ cv = .int .i64 i ∧ xs.length = i ∧ RdS wr g l at_ sh (xs.any (·.2)) ∧ TB wr gt vr nilS ⟨next, xs.map (·.1), zeroC, []⟩ ∧ Td w wr vr (xs.map (·.1)) rs ∧ (∀ k ∈ blk vr, N ≤ k) ∧ (∀ r ∈ rs, ∀ k ∈ rb r, N ≤ k) ∧ Runs (many recP i) l at1 sh1 xs at_ sh ∧ (∀ x ∈ xs, x.1.root.ads.length ≤ 3 ∧ x.1.name.size ≤ 255) ∧ Frm [g, gt] W wr
def LvRel (W : World) (g gt N : Nat) (l : List UInt8) (next : Int) (rcs : List Rec) (c : Cur) (vr : Value) (od : Bool) (m at1 : Nat) (sh1 : Bool) (cv : Value) (wr : World) : Prop :=
  ∃ (i : Nat) (xs : List Nat) (sp : List Value) (at_ : Nat) (sh : Bool) (vl : Value), i ≤ m ∧ cv = .int .i64 i ∧ xs.length = i ∧ RdS wr g l at_ sh od ∧ TB wr gt vr vl ⟨next, rcs, c, xs.map Int.ofNat⟩ ∧ OwnE eI 1 3 wr vl (xs.map Int.ofNat) sp ∧ (∀ k ∈ blk vl, N ≤ k) ∧ Runs (many (num 4) i) l at1 sh1 xs at_ sh ∧ Frm [g, gt] W wr

set_option maxHeartbeats 16000000 in
theorem RefReadT_any (v : Value) (l sp : List UInt8) (w : World) (hS : SlB w v l sp) (hl : l.length ≤ 1000000) : Calls Tryz.prog 30 #[v] w (ReadD l w) := by
  obtain ⟨a, cap, rfl, _, _⟩ := hS.form
  have HS := Lib.hid (fun z (f : Frm [] w z) => RV.of (hS.keep f (by simp)))
  have HL := Lib.hid hl
  clear hS
  go_enter Tryz.func30, Tryz.ntmps30
  go_upto_region 2 with (first
    | ((with_reducible (show wpList _ _ _ (Oper.mk (some 2) (Op.alloc 27) _ _ _ _ :: _) _ _)); refine wpList_val rfl (exec_alloc27 rfl _) ?_; have n1 := TB.new w nilS nilS zeroT; have k1 : Frm [] w (w.alloc (.cells (tc nilS nilS zeroT).toArray 27)) := (Frm.refl [] w).alloc _; obtain ⟨V1, hV1⟩ : ∃ V1, w.alloc (.cells (tc nilS nilS zeroT).toArray 27) = V1 := ⟨_, rfl⟩; rw [hV1] at n1 k1 ⊢; clear hV1))
  have FC : Frm [] V1 (V1.alloc (.cells #[.int .i64 0, .int .i64 0] 44)) := (Frm.refl [] V1).alloc _
  have FD : Frm [] (V1.alloc (.cells #[.int .i64 0, .int .i64 0] 44)) ((V1.alloc (.cells #[.int .i64 0, .int .i64 0] 44)).alloc (.cells #[.slice a l.length cap, .int .i64 0, .bool false, .bool false] 115)) := (Frm.refl [] _).alloc _
  have h3 : ((V1.alloc (.cells #[.int .i64 0, .int .i64 0] 44)).alloc (.cells #[.slice a l.length cap, .int .i64 0, .bool false, .bool false] 115)).heap[V1.heap.size]? = some (.cells #[.int .i64 0, .int .i64 0] 44 (0, 0)) := FD.heap (heap_alloc_new _ _) (by simp)
  have hR : RdB ((V1.alloc (.cells #[.int .i64 0, .int .i64 0] 44)).alloc (.cells #[.slice a l.length cap, .int .i64 0, .bool false, .bool false] 115)) (V1.heap.size + 1) (.slice a l.length cap) 0 false false := heap_alloc_at (by simp)
  have hlt := n1.lt
  have F0 := Lib.hid (show Frm [] w ((V1.alloc (.cells #[.int .i64 0, .int .i64 0] 44)).alloc (.cells #[.slice a l.length cap, .int .i64 0, .bool false, .bool false] 115)) from (k1.trans FC (by simp)).trans FD (by simp))
  have R0 := Lib.hid (show RdS ((V1.alloc (.cells #[.int .i64 0, .int .i64 0] 44)).alloc (.cells #[.slice a l.length cap, .int .i64 0, .bool false, .bool false] 115)) (V1.heap.size + 1) l 0 false false from ⟨⟨a, cap, hR, ((HS.out _ (Frm.refl [] w)).mono (by omega)).keep F0.out (by simp)⟩, by omega, HL.out⟩)
  have C0 := Lib.hid (show TB ((V1.alloc (.cells #[.int .i64 0, .int .i64 0] 44)).alloc (.cells #[.slice a l.length cap, .int .i64 0, .bool false, .bool false] 115)) w.heap.size nilS nilS zeroT ∧ ((V1.alloc (.cells #[.int .i64 0, .int .i64 0] 44)).alloc (.cells #[.slice a l.length cap, .int .i64 0, .bool false, .bool false] 115)).heap[V1.heap.size]? = some (.cells #[.int .i64 0, .int .i64 0] 44 (0, 0)) from ⟨(n1.keep0 FC).keep0 FD, h3⟩)
  have SZ0 := Lib.hid (show V1.heap.size + 1 < ((V1.alloc (.cells #[.int .i64 0, .int .i64 0] 44)).alloc (.cells #[.slice a l.length cap, .int .i64 0, .bool false, .bool false] 115)).heap.size by simp)
  clear FC FD h3 hR n1 k1
  generalize ((V1.alloc (.cells #[.int .i64 0, .int .i64 0] 44)).alloc (.cells #[.slice a l.length cap, .int .i64 0, .bool false, .bool false] 115)) = W0 at *
  obtain ⟨g, hg⟩ : ∃ g, V1.heap.size + 1 = g := ⟨_, rfl⟩
  rw [hg] at R0 SZ0 ⊢
  obtain ⟨g3, hg3⟩ : ∃ g3, V1.heap.size = g3 := ⟨_, rfl⟩
  rw [hg3] at C0 hg hlt ⊢
  obtain ⟨g2, hg2⟩ : ∃ g2, w.heap.size = g2 := ⟨_, rfl⟩
  rw [hg2] at C0 hlt ⊢
  have GG := Lib.hid (show g2 < g3 ∧ g3 < g ∧ w.heap.size ≤ g2 by omega)
  clear hg hg3 hg2 hlt HS
  have u1 := Lib.hid (runs_num 4 l 0 false R0.out.le)
  go_upto_region 3 with (first
    | (go_at_call 84; refine (number_any g l 0 4 false false _ R0.out (by omega) (by omega)).mono ?_; rintro e y1 ⟨rfl, f1, r1⟩; have m1 := TB.new y1 nilS nilS zeroT; have e1 : Frm [] y1 (y1.alloc (.cells (tc nilS nilS zeroT).toArray 27)) := (Frm.refl [] y1).alloc _; obtain ⟨V2, hV2⟩ : ∃ V2, y1.alloc (.cells (tc nilS nilS zeroT).toArray 27) = V2 := ⟨_, rfl⟩; have sz1 := f1.size)
    | ((with_reducible (show wpList _ _ _ (Oper.mk _ (Op.build 27 _) _ _ _ _ :: _) _ _)); refine wpList_val rfl (exec_bld27n _ _ rfl rfl _) ?_)
    | ((with_reducible (show wpList _ _ _ (Oper.mk (some 5) (Op.alloc 27) _ _ _ _ :: _) _ _)); refine wpList_val rfl (exec_alloc27 rfl _) ?_; rw [hV2] at m1 e1 ⊢; clear hV2)
    | ((with_reducible (show wpList _ _ _ (Oper.mk _ (Op.store 27 _ _) _ _ _ _ :: _) _ _)); refine wpList_store27 rfl (.tmp 5) (.tmp 21) rfl rfl rfl m1 rfl rfl ?_; intro W2 m2 e2))
  have GT := Lib.hid (show g < y1.heap.size by have := SZ0.out; omega)
  have R2 := Lib.hid ((r1.keep e1 (by simp)).keep e2 (by have := GT.out; simp; omega))
  have F2 := Lib.hid (show Frm [] w W2 from ((F0.out.trans f1 (fun i hi => by have := GG.out; simp at hi; omega)).trans e1 (by simp)).trans e2 (fun i hi => by have := GG.out; have := GT.out; simp at hi; omega))
  have C2 := Lib.hid (show TB W2 g2 nilS nilS zeroT ∧ W2.heap[g3]? = some (.cells #[.int .i64 0, .int .i64 0] 44 (0, 0)) from ⟨((C0.out.1.keep f1 (by have := GG.out; simp; omega)).keep0 e1).keep e2 (by have := GG.out; have := GT.out; simp; omega), e2.heap (e1.heap (f1.heap C0.out.2 (by have := GG.out; simp; omega)) (by simp)) (by have := GG.out; have := GT.out; simp; omega)⟩)
  have T2 := Lib.hid m2
  clear f1 r1 m1 e1 sz1 m2 e2 R0 F0 C0 SZ0
  generalize y1.heap.size = gt at *
  generalize bn (nxt l 0 4 false) = nx at *
  generalize nAt l 0 4 false = at1 at *
  generalize (!okN l 0 4 false) = sh1 at *
  have u2 := Lib.hid (runs_num 1 l at1 sh1 R2.out.le)
  have q2 := Lib.hid (show bn (nxt l at1 1 sh1) < 256 by have := bn_lt (nxt l at1 1 sh1); rw [nxt_len] at this; omega)
  go_upto_region 4 with (go_at_call 84; refine (number_any g l at1 1 sh1 false _ R2.out (by omega) (by omega)).mono ?_; rintro e W3 ⟨rfl, f1, r1⟩)
  have R3 := Lib.hid r1
  have F3 := Lib.hid (show Frm [] w W3 from F2.out.trans f1 (fun i hi => by have := GG.out; simp at hi; omega))
  have C3 := Lib.hid (show TB W3 g2 nilS nilS zeroT ∧ W3.heap[g3]? = some (.cells #[.int .i64 0, .int .i64 0] 44 (0, 0)) from ⟨C2.out.1.keep f1 (by have := GG.out; simp; omega), f1.heap C2.out.2 (by have := GG.out; simp; omega)⟩)
  have T3 := Lib.hid (T2.out.keep f1 (by have := GT.out; simp; omega))
  clear f1 r1 R2 F2 C2 T2
  generalize bn (nxt l at1 1 sh1) = m at *
  generalize nAt l at1 1 sh1 = at2 at *
  generalize (!okN l at1 1 sh1) = sh2 at *
  have G3 := Lib.hid (show g < gt ∧ gt < W3.heap.size from ⟨GT.out, T3.out.lt⟩)
  go_upto_region 5 with (fail)
  go_loopw [7] (RcRel w W3 g gt W3.heap.size l nx m at2 sh2) (fun c _ => m - (intOf c).toNat)
  case atStart => exact ⟨0, [], [], at2, sh2, nilS, Nat.zero_le _, rfl, rfl, R3.out, T3.out, Td.nil2 F3.out, by simp [nilS, blk], by simp, Runs.start R3.out.le, by simp, Frm.refl _ _⟩
  case round =>
    obtain ⟨i, rs, xs, at_, sh, vr, hi, rfl, hx, hR, hB, hT, hv, hrr, hu, hf, hF⟩ := hrel
    have HR := Lib.hid hR
    have HB := Lib.hid hB
    have HT := Lib.hid hT
    have HV := Lib.hid hv
    have HRR := Lib.hid hrr
    have HU := Lib.hid hu
    have HFX := Lib.hid hf
    have HF := Lib.hid hF
    have HX := Lib.hid hx
    have b1 := hB.gets.recs
    obtain ⟨va, vc, hb, _⟩ := hR.blkv
    have c2 := hb.c2
    clear hR hB hT hv hrr hu hf hF hb hx
    by_cases him : i < m
    · have him9 : (i : Int) < (m : Int) := by omega
      have hm9 : (m : Int) < 256 := by have := q2.out; omega
      cases sh with
      | false =>
        go_upto_region 8 with (first
          | (go_at_call 85; refine (recordD_any g l at_ false _ _ HR.out).mono ?_; rintro e y4 ⟨xa, xc, x, o, at4, sh4, rfl, px, bx, nx4, f4, r4, u4⟩; obtain ⟨h32, rw4⟩ := RowV.of px)
          | ((with_reducible (show wpList _ _ _ (Oper.mk _ (Op.alloc 56) _ _ _ _ :: _) _ _)); refine wpList_lay56 rfl rfl rfl (.tmp 8) (.tmp 37) rfl (v := .slice xa x.root.ads.length xc) rfl h32 rfl rfl ?_))
        have k4 : Frm [] y4 (y4.alloc (.cells (rc (.slice xa x.root.ads.length xc) x).toArray 56)) := (Frm.refl [] y4).alloc _
        have L8 := Lib.hid (RB.new (w := y4) (v := .slice xa x.root.ads.length xc) h32).gets.all
        have hgv : ∀ k ∈ blk vr, k ≠ g ∧ k ≠ gt := fun k hk => by have := HV.out k hk; have := G3.out; omega
        have hgr : ∀ (j : Nat) r, rs[j]? = some r → ∀ k ∈ rb r, k ≠ g ∧ k ≠ gt := fun j r hr k hk => by have := HRR.out r (List.mem_of_getElem? hr) k hk; have := G3.out; omega
        have f34 : Frm [] w (y4.alloc (.cells (rc (.slice xa x.root.ads.length xc) x).toArray 56)) := ((F3.out.trans HF.out (fun k hk => by have := GG.out; have := G3.out; simp at hk; omega)).trans f4 (fun k hk => by have := GG.out; simp at hk; omega)).trans k4 (by simp)
        have t5 := HT.out.keep (f4.trans (L' := []) k4 (by simp) (L := [g])) (fun k hk => by simp at hk; subst hk; exact ⟨fun hm => (hgv _ hm).1 rfl, fun j r hr hm => (hgr j r hr _ hm).1 rfl⟩) f34
        have T5 := Lib.hid t5
        have B5 := Lib.hid ((HB.out.keep f4 (by have := G3.out; simp; omega)).keep0 k4)
        have b5 := B5.out.gets.recs
        have R5 := Lib.hid (r4.keep k4 (by simp))
        have V5 := Lib.hid (rw4.keep k4 (by simp))
        have SZ5 := Lib.hid (show gt < (y4.alloc (.cells (rc (.slice xa x.root.ads.length xc) x).toArray 56)).heap.size from B5.out.lt)
        have N5 := Lib.hid (show ∀ k ∈ rb (rowR (.slice xa x.root.ads.length xc) rfl x h32), k ∉ blk vr ∧ W3.heap.size ≤ k from fun k hk => by
          rw [rb_rc (u := x) rfl] at hk
          have h1 := nx4 k hk
          have h2 := HB.out.lt
          obtain ⟨sp5, ho⟩ := HT.out.own
          exact ⟨fun hm => by have := ho.lt k hm; omega, Nat.le_trans HF.out.size h1⟩)
        have F5 := Lib.hid (show Frm [g, gt] W3 (y4.alloc (.cells (rc (.slice xa x.root.ads.length xc) x).toArray 56)) from (HF.out.trans f4 (by simp)).trans k4 (by simp))
        have U5 := Lib.hid (HU.out.snoc u4 r4.le)
        have X5 := Lib.hid bx
        have HLM := Lib.hid (show (xs.map (·.1)).length ≤ 1000000 by simp; have := HX.out; have := q2.out; omega)
        have HGV := Lib.hid hgv
        have HGR := Lib.hid hgr
        clear k4 hgv hgr f34 t5 rw4 r4 f4 u4 bx nx4 px HR HB HT HF HU c2 b1
        generalize y4.alloc (.cells (rc (.slice xa x.root.ads.length xc) x).toArray 56) = W5 at *
        go_wp2_with (first
          | ((with_reducible (show wpList _ _ _ (Oper.mk _ (Op.load 56 _) _ _ _ _ :: _) _ _)); refine wpList_load_g (by rfl) 56 _ rfl _ rfl L8.out ?_)
          | ((with_reducible (show wpList _ _ _ (Oper.mk _ (Op.buildSlice 22 1 _) _ _ _ _ :: _ :: _) _ _)); refine wpList_td (x := rowR (.slice xa x.root.ads.length xc) rfl x h32) (u := x) T5.out HLM.out V5.out (.inr fun k hk => (N5.out k hk).1) rfl rfl (.tmp 40) (.tmp 39) (.tmp 41) 41 rfl rfl rfl rfl rfl rfl ?_; intro a6 c6 w6 t6 f6 n6; have b6 := B5.out.keep f6 (fun hm => (HGV.out _ hm).2 rfl); have e6 := b6.gets.recs; have z6 := b6.fz 1))
        go_roundw
        case rel =>
          have hset : Frm [gt] w6 (w6.setCell ⟨gt, 1, none⟩ (.slice a6 (xs.length + 1) c6)) := (Frm.refl [gt] w6).setCell _ _ (.inl (by simp))
          have hl6 : (xs.map (·.1)).length = xs.length := by simp
          rw [hl6] at t6 n6
          have hlo : ∀ k ∈ blk (.slice a6 (xs.length + 1) c6), W3.heap.size ≤ k := fun k hk => by
            rcases n6 k hk with h | h
            · exact HV.out k h
            · exact Nat.le_trans F5.out.size h
          have hrow : ∀ r ∈ rs ++ [rowR (.slice xa x.root.ads.length xc) rfl x h32], ∀ k ∈ rb r, W3.heap.size ≤ k := fun r hr k hk => by
            rcases List.mem_append.1 hr with hr | hr
            · exact HRR.out r hr k hk
            · simp at hr; subst hr; exact (N5.out k hk).2
          have hF6 : Frm [g, gt] W3 (w6.setCell ⟨gt, 1, none⟩ (.slice a6 (xs.length + 1) c6)) := (F5.out.trans f6 (fun k hk => .inr (HV.out k hk))).trans hset (by simp)
          refine ⟨i + 1, rs ++ [rowR (.slice xa x.root.ads.length xc) rfl x h32], xs ++ [(x, o)], at4, sh4, .slice a6 (xs.length + 1) c6, by omega, by go_num, by simp [HX.out], ?_, ?_, ?_, hlo, hrow, U5.out, ?_, hF6⟩
          · have := (R5.out.keep f6 (fun k hk => by have := HV.out k hk; have := G3.out; omega)).keep hset (by have := G3.out; simp; omega)
            simpa using this
          · exact TB.setRecs b6 _ _
          · have := t6.keep hset (fun k hk => by simp at hk; subst hk; exact ⟨fun hm => by have := hlo _ hm; have := G3.out; omega, fun j r hr hm => by have := hrow r (List.mem_of_getElem? hr) _ hm; have := G3.out; omega⟩) ((F3.out.trans hF6 (fun k hk => by have := GG.out; have := G3.out; simp at hk; omega)))
            simpa using this
          · intro y hy
            rcases List.mem_append.1 hy with hy | hy
            · exact HFX.out y hy
            · simp at hy; subst hy; exact X5.out
        case measure => simp [intOf]; omega
      | true =>
        have UM := Lib.hid (HU.out.stop (Nat.le_of_lt him) xs)
        have K8 := Lib.hid (Frm.refl [g] wr)
        have u9 := Lib.hid (runs_num 1 l at_ true HR.out.le)
        go_upto_region 10 with (go_at_call 84; refine (number_any g l at_ 1 true _ _ HR.out (by omega) (by omega)).mono ?_; rintro e W9 ⟨rfl, f, r⟩)
        have R9 := Lib.hid r
        have K9 := Lib.hid (K8.out.trans f (by simp))
        clear f r HR K8
        generalize bn (nxt l at_ 1 true) = n9 at *
        generalize nAt l at_ 1 true = at9 at *
        generalize (!okN l at_ 1 true) = sh9 at *
        have u10 := Lib.hid (runs_num 1 l at9 sh9 R9.out.le)
        go_upto_region 11 with (go_at_call 84; refine (number_any g l at9 1 sh9 _ _ R9.out (by omega) (by omega)).mono ?_; rintro e W10 ⟨rfl, f, r⟩)
        have R10 := Lib.hid r
        have K10 := Lib.hid (K9.out.trans f (by simp))
        clear f r R9 K9
        generalize bn (nxt l at9 1 sh9) = n10 at *
        generalize nAt l at9 1 sh9 = at10 at *
        generalize (!okN l at9 1 sh9) = sh10 at *
        have u11 := Lib.hid (runs_num 4 l at10 sh10 R10.out.le)
        go_upto_region 12 with (go_at_call 84; refine (number_any g l at10 4 sh10 _ _ R10.out (by omega) (by omega)).mono ?_; rintro e W11 ⟨rfl, f, r⟩)
        have R11 := Lib.hid r
        have K11 := Lib.hid (K10.out.trans f (by simp))
        clear f r R10 K10
        generalize bn (nxt l at10 4 sh10) = n11 at *
        generalize nAt l at10 4 sh10 = at11 at *
        generalize (!okN l at10 4 sh10) = sh11 at *
        have u12 := Lib.hid (runs_num 4 l at11 sh11 R11.out.le)
        go_upto_region 13 with (go_at_call 84; refine (number_any g l at11 4 sh11 _ _ R11.out (by omega) (by omega)).mono ?_; rintro e W12 ⟨rfl, f, r⟩)
        have R12 := Lib.hid r
        have K12 := Lib.hid (K11.out.trans f (by simp))
        clear f r R11 K11
        generalize bn (nxt l at11 4 sh11) = n12 at *
        generalize nAt l at11 4 sh11 = at12 at *
        generalize (!okN l at11 4 sh11) = sh12 at *
        have B12 := Lib.hid (HB.out.keep K12.out (by have := G3.out; simp; omega))
        go_upto_region 14 with ((with_reducible (show wpList _ _ _ (Oper.mk _ (Op.store 24 _ _) _ _ _ _ :: _) _ _)); refine wpList_store_mid rfl 24 (.tmp 57) (.tmp 56) rfl gt 2 ([.int .i64 n9, .int .i64 n10, .int .i64 n11, .int .i64 n12] : List Value).toArray rfl rfl B12.out.there (by rw [i24]; rfl) (by simp [Value.oneCell']) ?_)
        have hst : Frm [gt] W12 (W12.setCells gt 2 [.int .i64 n9, .int .i64 n10, .int .i64 n11, .int .i64 n12]) := Frm.setCells _ _ _ (Frm.refl _ _) (.inl (by simp))
        have B13 := Lib.hid (B12.out.setCur ⟨n9, n10, n11, n12⟩)
        have R13 := Lib.hid (R12.out.keep hst (by have := G3.out; simp; omega))
        have K13 := Lib.hid (show Frm [g, gt] wr (W12.setCells gt 2 [.int .i64 n9, .int .i64 n10, .int .i64 n11, .int .i64 n12]) from (K12.out.mono (by simp)).trans hst (by simp))
        clear hst B12 R12 K12 HB
        generalize (W12.setCells gt 2 [.int .i64 n9, .int .i64 n10, .int .i64 n11, .int .i64 n12]) = W13 at *
        have u14 := Lib.hid (runs_num 1 l at12 sh12 R13.out.le)
        have q14 := Lib.hid (show bn (nxt l at12 1 sh12) < 256 by have := bn_lt (nxt l at12 1 sh12); rw [nxt_len] at this; omega)
        go_upto_region 15 with (go_at_call 84; refine (number_any g l at12 1 sh12 _ _ R13.out (by omega) (by omega)).mono ?_; rintro e W14 ⟨rfl, f, r⟩)
        have R14 := Lib.hid r
        have B14 := Lib.hid (B13.out.keep f (by have := G3.out; simp; omega))
        have K14 := Lib.hid (show Frm [g, gt] wr W14 from K13.out.trans f (by simp))
        clear f r R13 B13 K13
        generalize bn (nxt l at12 1 sh12) = k at *
        generalize nAt l at12 1 sh12 = at14 at *
        generalize (!okN l at12 1 sh12) = sh14 at *
        have F14 := Lib.hid (show Frm [] w W14 from (F3.out.trans HF.out (fun k hk => by have := GG.out; have := G3.out; simp at hk; omega)).trans K14.out (fun k hk => by have := GG.out; have := G3.out; simp at hk; omega))
        have C14 := Lib.hid (show TB W14 g2 nilS nilS zeroT ∧ W14.heap[g3]? = some (.cells #[.int .i64 0, .int .i64 0] 44 (0, 0)) from ⟨C3.out.1.keep (HF.out.trans K14.out (by simp)) (by have := GG.out; have := G3.out; simp; omega), (HF.out.trans K14.out (by simp)).heap C3.out.2 (by have := GG.out; have := G3.out; simp; omega)⟩)
        have RS := Lib.hid (show ∀ z, Frm [g2, g3, g, gt] W14 z → Rs z vr (xs.map (·.1)) from fun z f => (HT.out.keep ((K14.out.mono (L' := [g2, g3, g, gt]) (by simp)).trans f (by simp)) (fun k hk => ⟨fun hm => by have := HV.out k hm; have := G3.out; have := GG.out; simp at hk; omega, fun j r hr hm => by have := HRR.out r (List.mem_of_getElem? hr) k hm; have := G3.out; have := GG.out; simp at hk; omega⟩) (F14.out.trans f (fun k hk => by have := GG.out; have := G3.out; have := GG.out; simp at hk; omega))).us)
        have G4 := Lib.hid (show gt < W14.heap.size from B14.out.lt)
        clear HT HV HRR C3 F3 HF K14
        go_upto_region 16 with (fail)
        go_loopw [14] (LvRel W14 g gt W14.heap.size l nx (xs.map (·.1)) ⟨n9, n10, n11, n12⟩ vr (xs.any (·.2)) k at14 sh14) (fun c _ => k - (intOf c).toNat)
        case atStart => exact ⟨0, [], [], at14, sh14, nilS, Nat.zero_le _, rfl, rfl, R14.out, B14.out, OwnE.nil _ _ _ _, by simp [nilS, blk], Runs.start R14.out.le, Frm.refl _ _⟩
        case round =>
          obtain ⟨i2, ys, sp2, at_2, shx, vl, hi2, rfl, hy, hR, hB, hO, hv, hu, hF⟩ := hrel
          have HR2 := Lib.hid hR
          have HB2 := Lib.hid hB
          have HOL := Lib.hid hO
          have HV2 := Lib.hid hv
          have HU2 := Lib.hid hu
          have HF2 := Lib.hid hF
          have HY := Lib.hid hy
          obtain ⟨va, vc, hb, _⟩ := hR.blkv
          have c2 := hb.c2
          clear hR hB hO hv hu hF hb hy R14 B14
          by_cases hik : i2 < k
          · have hik9 : (i2 : Int) < (k : Int) := by omega
            have hk9 : (k : Int) < 256 := by have := q14.out; omega
            cases shx with
            | false =>
              have u18 := Lib.hid (runs_num 4 l at_2 false HR2.out.le)
              go_upto_region 19 with (go_at_call 84; refine (number_any g l at_2 4 false _ _ HR2.out (by omega) (by omega)).mono ?_; rintro e y18 ⟨rfl, f18, r18⟩)
              have R18 := Lib.hid r18
              have B18 := Lib.hid (HB2.out.keep f18 (by have := G3.out; simp; omega))
              have O18 := Lib.hid (HOL.out.keep f18 (fun j hj hm => by have := HV2.out j hj; have := G3.out; have := G4.out; simp at hm; omega))
              have F18 := Lib.hid (show Frm [g, gt] W14 y18 from HF2.out.trans f18 (by simp))
              have U18 := Lib.hid (HU2.out.snoc u18.out r18.le)
              have b18 := B18.out.gets.lives
              clear f18 r18 c2 HR2 HB2 HOL HF2 HU2 u18
              generalize bn (nxt l at_2 4 false) = nv at *
              generalize nAt l at_2 4 false = at18 at *
              generalize (!okN l at_2 4 false) = sh18 at *
              have f19 : Frm [] y18 (y18.alloc (.cells #[.int .i64 nv] 3)) := (Frm.refl [] y18).alloc _
              have S19 := Lib.hid (show SlE eI 1 (y18.alloc (.cells #[.int .i64 nv] 3)) (.slice (some ⟨y18.heap.size, 0, none⟩) 1 1) [(nv : Int)] [] from Kr.SlE.of_block (T := 3) encI (by simpa [Kr.flt, eI] using heap_alloc_new y18 (.cells #[.int .i64 nv] 3)) rfl (by decide))
              have hl6 : (ys.map Int.ofNat).length + [(nv : Int)].length = ys.length + 1 := by simp
              go_wp2_with (at_builtin; refine Kr.wpList_append_e encI tysI (O18.out.keep0 f19) S19.out (by simp; have := HY.out; omega) (by omega) rfl (.tmp 75) (.tmp 77) rfl rfl rfl ?_; intro a6 c6 w6 sp6 o6 f6 n6; rw [hl6] at o6 n6 ⊢; have b6 := (B18.out.keep0 f19).keep f6 (fun hm => by have := HV2.out _ hm; have := G4.out; omega); have e6 := b6.gets.lives; have z6 := b6.fz 6)
              go_roundw
              case rel =>
                have hset : Frm [gt] w6 (w6.setCell ⟨gt, 6, none⟩ (.slice a6 (ys.length + 1) c6)) := (Frm.refl [gt] w6).setCell _ _ (.inl (by simp))
                have hlo : ∀ j ∈ blk (.slice a6 (ys.length + 1) c6), W14.heap.size ≤ j := fun j hj => by
                  rcases n6 j hj with h | h
                  · exact HV2.out j h
                  · have := F18.out.size; have := f19.size; omega
                have hF6 : Frm [g, gt] W14 (w6.setCell ⟨gt, 6, none⟩ (.slice a6 (ys.length + 1) c6)) := ((F18.out.trans f19 (by simp)).trans f6 (fun j hj => .inr (HV2.out j hj))).trans hset (by simp)
                refine ⟨i2 + 1, ys ++ [nv], sp6, at18, sh18, .slice a6 (ys.length + 1) c6, by omega, by go_num, by simp [HY.out], ?_, ?_, ?_, hlo, U18.out, hF6⟩
                · exact ((R18.out.keep f19 (by simp)).keep f6 (fun j hj => by have := HV2.out j hj; have := G3.out; have := G4.out; omega)).keep hset (by have := G3.out; simp; omega)
                · have := TB.setLives b6 (.slice a6 (ys.length + 1) c6) ((ys ++ [nv]).map Int.ofNat)
                  simpa using this
                · have := o6.keep hset (fun j hj hm => by have := hlo j hj; have := G4.out; simp at hm; omega)
                  simpa using this
              case measure => simp [intOf]; omega
            | true =>
              have UL := Lib.hid (HU2.out.stop (Nat.le_of_lt hik) ys)
              have UT2 := Lib.hid (show Runs tabP l 0 false (⟨nx, xs.map (·.1), ⟨n9, n10, n11, n12⟩, ys.map Int.ofNat⟩, xs.any (·.2)) at_2 true from u1.out.bnd (u2.out.bnd (UM.out.bnd (u9.out.bnd (u10.out.bnd (u11.out.bnd (u12.out.bnd (u14.out.bnd (UL.out.bnd (Runs.ret _ _ _ _ HR2.out.le))))))))))
              have CF := Lib.hid (show TB wr g2 nilS nilS zeroT ∧ wr.heap[g3]? = some (.cells #[.int .i64 0, .int .i64 0] 44 (0, 0)) from ⟨C14.out.1.keep HF2.out (by have := GG.out; have := G3.out; simp; omega), HF2.out.heap C14.out.2 (by have := GG.out; have := G3.out; simp; omega)⟩)
              have FF := Lib.hid (show Frm [] w wr from F14.out.trans HF2.out (fun k hk => by have := GG.out; have := G3.out; simp at hk; omega))
              have LF := Lib.hid HB2.out.gets.all
              have RL := Lib.hid (RS.out _ (HF2.out.mono (by simp)))
              clear u1 u2 UM u9 u10 u11 u12 u14 UL C14 F14 HU
              go_wp2_with (first
                | ((with_reducible (show wpList _ _ _ (Oper.mk _ (Op.build 27 _) _ _ _ _ :: _) _ _)); refine wpList_val rfl (exec_bld27z rfl _) ?_)
                | ((with_reducible (show wpList _ _ _ (Oper.mk (some 106) (Op.load 27 _) _ _ _ _ :: _) _ _)); refine wpList_load_g (by rfl) 27 _ rfl _ rfl LF.out ?_)
                | ((with_reducible (show wpList _ _ _ (Oper.mk (some 112) (Op.load 27 _) _ _ _ _ :: _) _ _)); refine wpList_load_g (by rfl) 27 _ rfl _ rfl LQ.out ?_)
                | (refine wpList_finT (t := zeroT) rfl rfl (.tmp 2) (.tmp 3) _ _ rfl rfl rfl rfl CF.out.1 CF.out.2 (by have := GG.out; omega) rfl rfl rfl rfl ?_; intro V b3 b4 f3))
              refine bodyPost_ret (Pt.results_two (p := 2) (q := 3) rfl _ _ rfl rfl (run_loadVar_row V g2 27 27 _ (0, 0) _ b3 Tryz.underlying27 rfl (by rw [i27]; simp [tc])) (run_loadVar_row V g3 44 44 _ (0, 0) _ b4 Tryz.underlying44 rfl (by rw [Pt.d40]; rfl))) rfl ?_
              have hrt := readT_no UT2.out
              refine ⟨nilS, nilS, by rw [hrt]; rfl, by rw [hrt]; exact TabV.zero _, FF.out.trans f3 (fun k hk => by have := GG.out; simp at hk; omega)⟩
          · obtain rfl : i2 = k := by omega
            have UL := HU2
            have UT2 := Lib.hid (show Runs tabP l 0 false (⟨nx, xs.map (·.1), ⟨n9, n10, n11, n12⟩, ys.map Int.ofNat⟩, xs.any (·.2)) at_2 shx from u1.out.bnd (u2.out.bnd (UM.out.bnd (u9.out.bnd (u10.out.bnd (u11.out.bnd (u12.out.bnd (u14.out.bnd (UL.out.bnd (Runs.ret _ _ _ _ HR2.out.le))))))))))
            have CF := Lib.hid (show TB wr g2 nilS nilS zeroT ∧ wr.heap[g3]? = some (.cells #[.int .i64 0, .int .i64 0] 44 (0, 0)) from ⟨C14.out.1.keep HF2.out (by have := GG.out; have := G3.out; simp; omega), HF2.out.heap C14.out.2 (by have := GG.out; have := G3.out; simp; omega)⟩)
            have FF := Lib.hid (show Frm [] w wr from F14.out.trans HF2.out (fun k hk => by have := GG.out; have := G3.out; simp at hk; omega))
            have LF := Lib.hid HB2.out.gets.all
            have RL := Lib.hid (RS.out _ (HF2.out.mono (by simp)))
            clear u1 u2 UM u9 u10 u11 u12 u14 UL C14 F14 HU
            cases shx with
            | true =>
              go_wp2_with (first
                | ((with_reducible (show wpList _ _ _ (Oper.mk _ (Op.build 27 _) _ _ _ _ :: _) _ _)); refine wpList_val rfl (exec_bld27z rfl _) ?_)
                | ((with_reducible (show wpList _ _ _ (Oper.mk (some 106) (Op.load 27 _) _ _ _ _ :: _) _ _)); refine wpList_load_g (by rfl) 27 _ rfl _ rfl LF.out ?_)
                | ((with_reducible (show wpList _ _ _ (Oper.mk (some 112) (Op.load 27 _) _ _ _ _ :: _) _ _)); refine wpList_load_g (by rfl) 27 _ rfl _ rfl LQ.out ?_)
                | (refine wpList_finT (t := zeroT) rfl rfl (.tmp 2) (.tmp 3) _ _ rfl rfl rfl rfl CF.out.1 CF.out.2 (by have := GG.out; omega) rfl rfl rfl rfl ?_; intro V b3 b4 f3))
              refine bodyPost_ret (Pt.results_two (p := 2) (q := 3) rfl _ _ rfl rfl (run_loadVar_row V g2 27 27 _ (0, 0) _ b3 Tryz.underlying27 rfl (by rw [i27]; simp [tc])) (run_loadVar_row V g3 44 44 _ (0, 0) _ b4 Tryz.underlying44 rfl (by rw [Pt.d40]; rfl))) rfl ?_
              have hrt := readT_no UT2.out
              refine ⟨nilS, nilS, by rw [hrt]; rfl, by rw [hrt]; exact TabV.zero _, FF.out.trans f3 (fun k hk => by have := GG.out; simp at hk; omega)⟩
            | false =>
              obtain ⟨va, vc, hb, _⟩ := HR2.out.blkv
              have c1 := hb.c1
              have c3 := hb.c3
              clear hb
              generalize hod : xs.any (fun x => x.2) = od at *
              have HFIT := Lib.hid (show FitT ⟨nx, xs.map (·.1), ⟨n9, n10, n11, n12⟩, ys.map Int.ofNat⟩ from ⟨by simp; have := HX.out; have := q2.out; omega, by simp; have := HY.out; have := q14.out; omega, fun x hx => by
                obtain ⟨y, hy, rfl⟩ := List.mem_map.1 hx
                have := HFX.out y hy
                exact ⟨by omega, by omega⟩⟩)
              have HCK := Lib.hid (fun z (f : Frm [] wr z) => RefCheckT_any vr vl _ z ⟨RL.out.keep0 f, _, HOL.out.sl.keep0 f⟩ HFIT.out)
              have HTV := Lib.hid (show TabV wr vr vl ⟨nx, xs.map (·.1), ⟨n9, n10, n11, n12⟩, ys.map Int.ofNat⟩ from ⟨RL.out, _, HOL.out.sl⟩)
              have HOV := Lib.hid (show vr.oneCell' = true ∧ vl.oneCell' = true from ⟨by obtain ⟨_, _, e⟩ := RL.out.form; rw [e]; rfl, by obtain ⟨_, _, e, _⟩ := HOL.out.sl.form; rw [e]; rfl⟩)
              have HFN := Lib.hid (show ∀ z1 z2, Frm [] wr z1 → Frm [g2, g3] z1 z2 → TabV z2 vr vl ⟨nx, xs.map (·.1), ⟨n9, n10, n11, n12⟩, ys.map Int.ofNat⟩ from fun z1 z2 h1 h2 => ⟨RS.out _ (((HF2.out.mono (L' := [g2, g3, g, gt]) (by simp)).trans h1 (by simp)).trans h2 (by simp)), _, ((HOL.out.keep0 h1).keep h2 (fun j hj hm => by have := HV2.out j hj; have := GG.out; have := G3.out; have := G4.out; simp at hm; omega)).sl⟩)
              clear HFIT RL HOL HFX HR2 RS
              generalize (Tab.mk nx (xs.map (·.1)) ⟨n9, n10, n11, n12⟩ (ys.map Int.ofNat)) = T at *
              by_cases hlt : at_2 < l.length
              · have hlt9 : (at_2 : Int) < (l.length : Int) := by omega
                go_upto_region 23 with (fail)
                refine wp_region_held_drew (S := fun z => z.cell? ⟨g, 1, none⟩ = some (.int .i64 (at_2 : Int))) (by kernel_rfl) ((Frm.refl [] wr).drew.cell c1 (by simp)) (fun hHeld => ?_)
                refine wpAnyH_take (i := 0) (oi := ⟨some 95, .build 27 #[], _, _, _, none⟩) rfl (by kernel_rfl) (by kernel_rfl) (by kernel_rfl) (fun _ _ _ h => h) (Or.inl ⟨by rfl, fun z hSw => exec_bld27z rfl z⟩) hHeld ?_
                try simp only [Act.put, List.setIfInBounds_toArray, List.set_cons_zero, List.set_cons_succ]
                refine wpAnyH_take (i := 1) (oi := ⟨some 96, .move (.tmp 4), _, _, _, none⟩) (v := ?_) rfl (by kernel_rfl) (by kernel_rfl) (by kernel_rfl) (fun _ _ _ h => h) (Or.inl ⟨by rfl, ?_⟩) hHeld ?_
                rotate_left
                focus (intro z hSw; clear hSw; go_simp; try with_reducible rfl)
                try simp only [Act.put, List.setIfInBounds_toArray, List.set_cons_zero, List.set_cons_succ]
                refine wpAnyH_take (i := 2) (oi := ⟨some 97, .nilCheck (.tmp 96), _, _, _, none⟩) (v := ?_) rfl (by kernel_rfl) (by kernel_rfl) (by kernel_rfl) (fun _ _ _ h => h) (Or.inl ⟨by rfl, ?_⟩) hHeld ?_
                rotate_left
                focus (intro z hSw; clear hSw; go_simp; try with_reducible rfl)
                try simp only [Act.put, List.setIfInBounds_toArray, List.set_cons_zero, List.set_cons_succ]
                refine wpAnyH_take (i := 3) (oi := ⟨some 98, .fieldAddr 115 (.tmp 97) 1, _, _, _, none⟩) (v := ?_) rfl (by kernel_rfl) (by kernel_rfl) (by kernel_rfl) (fun _ _ _ h => h) (Or.inl ⟨by rfl, ?_⟩) hHeld ?_
                rotate_left
                focus (intro z hSw; clear hSw; go_simp; try with_reducible rfl)
                try simp only [Act.put, List.setIfInBounds_toArray, List.set_cons_zero, List.set_cons_succ]
                refine wpAnyH_take (i := 4) (oi := ⟨some 99, .load 3 (.tmp 98), _, _, _, none⟩) (v := ?_) rfl (by kernel_rfl) (by kernel_rfl) (by kernel_rfl) (fun _ _ _ h => h) (Or.inl ⟨by rfl, ?_⟩) hHeld ?_
                rotate_left
                focus (intro z hSw; have q := hSw; clear hSw; go_simp; try with_reducible rfl)
                try simp only [Act.put, List.setIfInBounds_toArray, List.set_cons_zero, List.set_cons_succ]
                refine wpAnyH_take (i := 5) (oi := ⟨some 100, .build 44 #[(0, .const (.int .i64 4)), (1, .tmp 99)], _, _, _, none⟩) (v := ?_) rfl (by kernel_rfl) (by kernel_rfl) (by kernel_rfl) (fun _ _ _ h => h) (Or.inl ⟨by rfl, ?_⟩) hHeld ?_
                rotate_left
                focus (intro z hSw; clear hSw; go_simp; try with_reducible rfl)
                try simp only [Act.put, List.setIfInBounds_toArray, List.set_cons_zero, List.set_cons_succ]
                refine wpAnyH_ready (rs := [6]) (by kernel_rfl) (by simp) ?_
                refine AllReadyH.cons (o := ⟨none, .store 27 (.tmp 2) (.tmp 95), _, _, _, none⟩) rfl (fun K hK => ?_) AllReadyH.nil
                refine step_store27 rfl (.tmp 2) (.tmp 95) rfl (vr := nilS) (vl := nilS) (t := zeroT) rfl rfl (CF.out.1.keep0 ((Frm.refl [] wr).drew)) rfl rfl (fun w6 m6 f6 => ?_)
                refine hK.out _ _ ?_ (fun hNext => ?_)
                · exact f6.cell hHeld (by have := GG.out; simp; omega)
                clear hK K hHeld
                have hHeld := hNext
                clear hNext
                try simp only [Act.put, List.setIfInBounds_toArray, List.set_cons_zero, List.set_cons_succ]
                refine wpAnyH_ready (rs := [7]) (by kernel_rfl) (by simp) ?_
                refine AllReadyH.cons (o := ⟨none, .store 44 (.tmp 3) (.tmp 100), _, _, _, none⟩) rfl (fun K hK => ?_) AllReadyH.nil
                refine step_store44 rfl (.tmp 3) (.tmp 100) rfl (f6.heap (((Frm.refl [] wr).drew).heap CF.out.2 (by simp)) (by have := GG.out; simp; omega)) rfl rfl (fun w7 h7 f7 => ?_)
                refine hK.out _ _ ?_ (fun hNext => ?_)
                · exact f7.cell hHeld (by have := GG.out; simp; omega)
                clear hK K hHeld
                have hHeld := hNext
                clear hNext
                try simp only [Act.put, List.setIfInBounds_toArray, List.set_cons_zero, List.set_cons_succ]
                refine wpAnyH_done (by kernel_rfl) ?_ _
                go_wp2_with (fail)
                have b3 := m6.keep f7 (by have := GG.out; simp; omega)
                refine bodyPost_ret (Pt.results_two (p := 2) (q := 3) rfl _ _ rfl rfl (run_loadVar_row w7 g2 27 27 _ (0, 0) _ b3 Tryz.underlying27 rfl (by rw [i27]; simp [tc])) (run_loadVar_row w7 g3 44 44 _ (0, 0) _ h7 Tryz.underlying44 rfl (by rw [Pt.d40]; rfl))) rfl ?_
                have hrt := readT_more UT2.out hlt
                exact ⟨nilS, nilS, by rw [hrt]; rfl, by rw [hrt]; exact TabV.zero _, ((FF.out.trans ((Frm.refl [] wr).drew) (by simp)).trans f6 (fun k hk => by have := GG.out; simp at hk; omega)).trans f7 (fun k hk => by have := GG.out; simp at hk; omega)⟩
              · have hlt9 : ¬ (at_2 : Int) < (l.length : Int) := by omega
                cases od with
                | true =>
                  go_wp2_with (first
                    | ((with_reducible (show wpList _ _ _ (Oper.mk _ (Op.build 27 _) _ _ _ _ :: _) _ _)); refine wpList_val rfl (exec_bld27z rfl _) ?_)
                    | ((with_reducible (show wpList _ _ _ (Oper.mk (some 106) (Op.load 27 _) _ _ _ _ :: _) _ _)); refine wpList_load_g (by rfl) 27 _ rfl _ rfl LF.out ?_)
                    | ((with_reducible (show wpList _ _ _ (Oper.mk (some 112) (Op.load 27 _) _ _ _ _ :: _) _ _)); refine wpList_load_g (by rfl) 27 _ rfl _ rfl LQ.out ?_)
                    | (refine wpList_finT (t := zeroT) rfl rfl (.tmp 2) (.tmp 3) _ _ rfl rfl rfl rfl CF.out.1 CF.out.2 (by have := GG.out; omega) rfl rfl rfl rfl ?_; intro V b3 b4 f3))
                  refine bodyPost_ret (Pt.results_two (p := 2) (q := 3) rfl _ _ rfl rfl (run_loadVar_row V g2 27 27 _ (0, 0) _ b3 Tryz.underlying27 rfl (by rw [i27]; simp [tc])) (run_loadVar_row V g3 44 44 _ (0, 0) _ b4 Tryz.underlying44 rfl (by rw [Pt.d40]; rfl))) rfl ?_
                  have hrt := readT_bad UT2.out hlt (.inl rfl)
                  refine ⟨nilS, nilS, by rw [hrt]; rfl, by rw [hrt]; exact TabV.zero _, FF.out.trans f3 (fun k hk => by have := GG.out; simp at hk; omega)⟩
                | false =>
                  cases hm : mayT T with
                  | false =>
                    have hme : mayTE T = 2 := by unfold mayTE; rw [hm]; rfl
                    rw [hme] at HCK
                    go_wp2_with (first
                      | (go_at_call 23; refine (HCK.out _ (Frm.refl _ _)).mono ?_; rintro e wq ⟨rfl, fq⟩)
                      | ((with_reducible (show wpList _ _ _ (Oper.mk _ (Op.build 27 _) _ _ _ _ :: _) _ _)); refine wpList_val rfl (exec_bld27z rfl _) ?_)
                      | ((with_reducible (show wpList _ _ _ (Oper.mk (some 106) (Op.load 27 _) _ _ _ _ :: _) _ _)); refine wpList_load_g (by rfl) 27 _ rfl _ rfl LF.out ?_)
                      | ((with_reducible (show wpList _ _ _ (Oper.mk (some 112) (Op.load 27 _) _ _ _ _ :: _) _ _)); refine wpList_load_g (by rfl) 27 _ rfl _ rfl LQ.out ?_)
                      | (refine wpList_finT (t := zeroT) rfl rfl (.tmp 2) (.tmp 3) _ _ rfl rfl rfl rfl (CF.out.1.keep0 fq) (fq.heap CF.out.2 (by simp)) (by have := GG.out; omega) rfl rfl rfl rfl ?_; intro V b3 b4 f3))
                    refine bodyPost_ret (Pt.results_two (p := 2) (q := 3) rfl _ _ rfl rfl (run_loadVar_row V g2 27 27 _ (0, 0) _ b3 Tryz.underlying27 rfl (by rw [i27]; simp [tc])) (run_loadVar_row V g3 44 44 _ (0, 0) _ b4 Tryz.underlying44 rfl (by rw [Pt.d40]; rfl))) rfl ?_
                    have hrt := readT_bad UT2.out hlt (.inr hm)
                    refine ⟨nilS, nilS, by rw [hrt]; rfl, by rw [hrt]; exact TabV.zero _, (FF.out.trans fq (by simp)).trans f3 (fun k hk => by have := GG.out; simp at hk; omega)⟩
                  | true =>
                    have hme : mayTE T = 0 := by unfold mayTE; rw [hm]; rfl
                    rw [hme] at HCK
                    go_wp2_with (first
                      | (go_at_call 23; refine (HCK.out _ (Frm.refl _ _)).mono ?_; rintro e wq ⟨rfl, fq⟩; have LQ := Lib.hid (HB2.out.keep0 fq).gets.all)
                      | ((with_reducible (show wpList _ _ _ (Oper.mk _ (Op.build 27 _) _ _ _ _ :: _) _ _)); refine wpList_val rfl (exec_bld27z rfl _) ?_)
                      | ((with_reducible (show wpList _ _ _ (Oper.mk (some 106) (Op.load 27 _) _ _ _ _ :: _) _ _)); refine wpList_load_g (by rfl) 27 _ rfl _ rfl LF.out ?_)
                      | ((with_reducible (show wpList _ _ _ (Oper.mk (some 112) (Op.load 27 _) _ _ _ _ :: _) _ _)); refine wpList_load_g (by rfl) 27 _ rfl _ rfl LQ.out ?_)
                      | (refine wpList_finT (t := T) rfl rfl (.tmp 2) (.tmp 3) _ _ rfl rfl HOV.out.1 HOV.out.2 (CF.out.1.keep0 fq) (fq.heap CF.out.2 (by simp)) (by have := GG.out; omega) rfl rfl rfl rfl ?_; intro V b3 b4 f3))
                    refine bodyPost_ret (Pt.results_two (p := 2) (q := 3) rfl _ _ rfl rfl (run_loadVar_row V g2 27 27 _ (0, 0) _ b3 Tryz.underlying27 rfl (by rw [i27]; simp [tc])) (run_loadVar_row V g3 44 44 _ (0, 0) _ b4 Tryz.underlying44 rfl (by rw [Pt.d40]; rfl))) rfl ?_
                    have hrt := readT_ok UT2.out hlt rfl hm
                    refine ⟨vr, vl, by rw [hrt]; rfl, by rw [hrt]; exact (HFN.out _ _ fq f3), (FF.out.trans fq (by simp)).trans f3 (fun k hk => by have := GG.out; simp at hk; omega)⟩
    · obtain rfl : i = m := by omega
      have UM := HU
      have K8 := Lib.hid (Frm.refl [g] wr)
      have u9 := Lib.hid (runs_num 1 l at_ sh HR.out.le)
      go_upto_region 10 with (go_at_call 84; refine (number_any g l at_ 1 sh _ _ HR.out (by omega) (by omega)).mono ?_; rintro e W9 ⟨rfl, f, r⟩)
      have R9 := Lib.hid r
      have K9 := Lib.hid (K8.out.trans f (by simp))
      clear f r HR K8
      generalize bn (nxt l at_ 1 sh) = n9 at *
      generalize nAt l at_ 1 sh = at9 at *
      generalize (!okN l at_ 1 sh) = sh9 at *
      have u10 := Lib.hid (runs_num 1 l at9 sh9 R9.out.le)
      go_upto_region 11 with (go_at_call 84; refine (number_any g l at9 1 sh9 _ _ R9.out (by omega) (by omega)).mono ?_; rintro e W10 ⟨rfl, f, r⟩)
      have R10 := Lib.hid r
      have K10 := Lib.hid (K9.out.trans f (by simp))
      clear f r R9 K9
      generalize bn (nxt l at9 1 sh9) = n10 at *
      generalize nAt l at9 1 sh9 = at10 at *
      generalize (!okN l at9 1 sh9) = sh10 at *
      have u11 := Lib.hid (runs_num 4 l at10 sh10 R10.out.le)
      go_upto_region 12 with (go_at_call 84; refine (number_any g l at10 4 sh10 _ _ R10.out (by omega) (by omega)).mono ?_; rintro e W11 ⟨rfl, f, r⟩)
      have R11 := Lib.hid r
      have K11 := Lib.hid (K10.out.trans f (by simp))
      clear f r R10 K10
      generalize bn (nxt l at10 4 sh10) = n11 at *
      generalize nAt l at10 4 sh10 = at11 at *
      generalize (!okN l at10 4 sh10) = sh11 at *
      have u12 := Lib.hid (runs_num 4 l at11 sh11 R11.out.le)
      go_upto_region 13 with (go_at_call 84; refine (number_any g l at11 4 sh11 _ _ R11.out (by omega) (by omega)).mono ?_; rintro e W12 ⟨rfl, f, r⟩)
      have R12 := Lib.hid r
      have K12 := Lib.hid (K11.out.trans f (by simp))
      clear f r R11 K11
      generalize bn (nxt l at11 4 sh11) = n12 at *
      generalize nAt l at11 4 sh11 = at12 at *
      generalize (!okN l at11 4 sh11) = sh12 at *
      have B12 := Lib.hid (HB.out.keep K12.out (by have := G3.out; simp; omega))
      go_upto_region 14 with ((with_reducible (show wpList _ _ _ (Oper.mk _ (Op.store 24 _ _) _ _ _ _ :: _) _ _)); refine wpList_store_mid rfl 24 (.tmp 57) (.tmp 56) rfl gt 2 ([.int .i64 n9, .int .i64 n10, .int .i64 n11, .int .i64 n12] : List Value).toArray rfl rfl B12.out.there (by rw [i24]; rfl) (by simp [Value.oneCell']) ?_)
      have hst : Frm [gt] W12 (W12.setCells gt 2 [.int .i64 n9, .int .i64 n10, .int .i64 n11, .int .i64 n12]) := Frm.setCells _ _ _ (Frm.refl _ _) (.inl (by simp))
      have B13 := Lib.hid (B12.out.setCur ⟨n9, n10, n11, n12⟩)
      have R13 := Lib.hid (R12.out.keep hst (by have := G3.out; simp; omega))
      have K13 := Lib.hid (show Frm [g, gt] wr (W12.setCells gt 2 [.int .i64 n9, .int .i64 n10, .int .i64 n11, .int .i64 n12]) from (K12.out.mono (by simp)).trans hst (by simp))
      clear hst B12 R12 K12 HB
      generalize (W12.setCells gt 2 [.int .i64 n9, .int .i64 n10, .int .i64 n11, .int .i64 n12]) = W13 at *
      have u14 := Lib.hid (runs_num 1 l at12 sh12 R13.out.le)
      have q14 := Lib.hid (show bn (nxt l at12 1 sh12) < 256 by have := bn_lt (nxt l at12 1 sh12); rw [nxt_len] at this; omega)
      go_upto_region 15 with (go_at_call 84; refine (number_any g l at12 1 sh12 _ _ R13.out (by omega) (by omega)).mono ?_; rintro e W14 ⟨rfl, f, r⟩)
      have R14 := Lib.hid r
      have B14 := Lib.hid (B13.out.keep f (by have := G3.out; simp; omega))
      have K14 := Lib.hid (show Frm [g, gt] wr W14 from K13.out.trans f (by simp))
      clear f r R13 B13 K13
      generalize bn (nxt l at12 1 sh12) = k at *
      generalize nAt l at12 1 sh12 = at14 at *
      generalize (!okN l at12 1 sh12) = sh14 at *
      have F14 := Lib.hid (show Frm [] w W14 from (F3.out.trans HF.out (fun k hk => by have := GG.out; have := G3.out; simp at hk; omega)).trans K14.out (fun k hk => by have := GG.out; have := G3.out; simp at hk; omega))
      have C14 := Lib.hid (show TB W14 g2 nilS nilS zeroT ∧ W14.heap[g3]? = some (.cells #[.int .i64 0, .int .i64 0] 44 (0, 0)) from ⟨C3.out.1.keep (HF.out.trans K14.out (by simp)) (by have := GG.out; have := G3.out; simp; omega), (HF.out.trans K14.out (by simp)).heap C3.out.2 (by have := GG.out; have := G3.out; simp; omega)⟩)
      have RS := Lib.hid (show ∀ z, Frm [g2, g3, g, gt] W14 z → Rs z vr (xs.map (·.1)) from fun z f => (HT.out.keep ((K14.out.mono (L' := [g2, g3, g, gt]) (by simp)).trans f (by simp)) (fun k hk => ⟨fun hm => by have := HV.out k hm; have := G3.out; have := GG.out; simp at hk; omega, fun j r hr hm => by have := HRR.out r (List.mem_of_getElem? hr) k hm; have := G3.out; have := GG.out; simp at hk; omega⟩) (F14.out.trans f (fun k hk => by have := GG.out; have := G3.out; have := GG.out; simp at hk; omega))).us)
      have G4 := Lib.hid (show gt < W14.heap.size from B14.out.lt)
      clear HT HV HRR C3 F3 HF K14
      go_upto_region 16 with (fail)
      go_loopw [14] (LvRel W14 g gt W14.heap.size l nx (xs.map (·.1)) ⟨n9, n10, n11, n12⟩ vr (xs.any (·.2)) k at14 sh14) (fun c _ => k - (intOf c).toNat)
      case atStart => exact ⟨0, [], [], at14, sh14, nilS, Nat.zero_le _, rfl, rfl, R14.out, B14.out, OwnE.nil _ _ _ _, by simp [nilS, blk], Runs.start R14.out.le, Frm.refl _ _⟩
      case round =>
        obtain ⟨i2, ys, sp2, at_2, shx, vl, hi2, rfl, hy, hR, hB, hO, hv, hu, hF⟩ := hrel
        have HR2 := Lib.hid hR
        have HB2 := Lib.hid hB
        have HOL := Lib.hid hO
        have HV2 := Lib.hid hv
        have HU2 := Lib.hid hu
        have HF2 := Lib.hid hF
        have HY := Lib.hid hy
        obtain ⟨va, vc, hb, _⟩ := hR.blkv
        have c2 := hb.c2
        clear hR hB hO hv hu hF hb hy R14 B14
        by_cases hik : i2 < k
        · have hik9 : (i2 : Int) < (k : Int) := by omega
          have hk9 : (k : Int) < 256 := by have := q14.out; omega
          cases shx with
          | false =>
            have u18 := Lib.hid (runs_num 4 l at_2 false HR2.out.le)
            go_upto_region 19 with (go_at_call 84; refine (number_any g l at_2 4 false _ _ HR2.out (by omega) (by omega)).mono ?_; rintro e y18 ⟨rfl, f18, r18⟩)
            have R18 := Lib.hid r18
            have B18 := Lib.hid (HB2.out.keep f18 (by have := G3.out; simp; omega))
            have O18 := Lib.hid (HOL.out.keep f18 (fun j hj hm => by have := HV2.out j hj; have := G3.out; have := G4.out; simp at hm; omega))
            have F18 := Lib.hid (show Frm [g, gt] W14 y18 from HF2.out.trans f18 (by simp))
            have U18 := Lib.hid (HU2.out.snoc u18.out r18.le)
            have b18 := B18.out.gets.lives
            clear f18 r18 c2 HR2 HB2 HOL HF2 HU2 u18
            generalize bn (nxt l at_2 4 false) = nv at *
            generalize nAt l at_2 4 false = at18 at *
            generalize (!okN l at_2 4 false) = sh18 at *
            have f19 : Frm [] y18 (y18.alloc (.cells #[.int .i64 nv] 3)) := (Frm.refl [] y18).alloc _
            have S19 := Lib.hid (show SlE eI 1 (y18.alloc (.cells #[.int .i64 nv] 3)) (.slice (some ⟨y18.heap.size, 0, none⟩) 1 1) [(nv : Int)] [] from Kr.SlE.of_block (T := 3) encI (by simpa [Kr.flt, eI] using heap_alloc_new y18 (.cells #[.int .i64 nv] 3)) rfl (by decide))
            have hl6 : (ys.map Int.ofNat).length + [(nv : Int)].length = ys.length + 1 := by simp
            go_wp2_with (at_builtin; refine Kr.wpList_append_e encI tysI (O18.out.keep0 f19) S19.out (by simp; have := HY.out; omega) (by omega) rfl (.tmp 75) (.tmp 77) rfl rfl rfl ?_; intro a6 c6 w6 sp6 o6 f6 n6; rw [hl6] at o6 n6 ⊢; have b6 := (B18.out.keep0 f19).keep f6 (fun hm => by have := HV2.out _ hm; have := G4.out; omega); have e6 := b6.gets.lives; have z6 := b6.fz 6)
            go_roundw
            case rel =>
              have hset : Frm [gt] w6 (w6.setCell ⟨gt, 6, none⟩ (.slice a6 (ys.length + 1) c6)) := (Frm.refl [gt] w6).setCell _ _ (.inl (by simp))
              have hlo : ∀ j ∈ blk (.slice a6 (ys.length + 1) c6), W14.heap.size ≤ j := fun j hj => by
                rcases n6 j hj with h | h
                · exact HV2.out j h
                · have := F18.out.size; have := f19.size; omega
              have hF6 : Frm [g, gt] W14 (w6.setCell ⟨gt, 6, none⟩ (.slice a6 (ys.length + 1) c6)) := ((F18.out.trans f19 (by simp)).trans f6 (fun j hj => .inr (HV2.out j hj))).trans hset (by simp)
              refine ⟨i2 + 1, ys ++ [nv], sp6, at18, sh18, .slice a6 (ys.length + 1) c6, by omega, by go_num, by simp [HY.out], ?_, ?_, ?_, hlo, U18.out, hF6⟩
              · exact ((R18.out.keep f19 (by simp)).keep f6 (fun j hj => by have := HV2.out j hj; have := G3.out; have := G4.out; omega)).keep hset (by have := G3.out; simp; omega)
              · have := TB.setLives b6 (.slice a6 (ys.length + 1) c6) ((ys ++ [nv]).map Int.ofNat)
                simpa using this
              · have := o6.keep hset (fun j hj hm => by have := hlo j hj; have := G4.out; simp at hm; omega)
                simpa using this
            case measure => simp [intOf]; omega
          | true =>
            have UL := Lib.hid (HU2.out.stop (Nat.le_of_lt hik) ys)
            have UT2 := Lib.hid (show Runs tabP l 0 false (⟨nx, xs.map (·.1), ⟨n9, n10, n11, n12⟩, ys.map Int.ofNat⟩, xs.any (·.2)) at_2 true from u1.out.bnd (u2.out.bnd (UM.out.bnd (u9.out.bnd (u10.out.bnd (u11.out.bnd (u12.out.bnd (u14.out.bnd (UL.out.bnd (Runs.ret _ _ _ _ HR2.out.le))))))))))
            have CF := Lib.hid (show TB wr g2 nilS nilS zeroT ∧ wr.heap[g3]? = some (.cells #[.int .i64 0, .int .i64 0] 44 (0, 0)) from ⟨C14.out.1.keep HF2.out (by have := GG.out; have := G3.out; simp; omega), HF2.out.heap C14.out.2 (by have := GG.out; have := G3.out; simp; omega)⟩)
            have FF := Lib.hid (show Frm [] w wr from F14.out.trans HF2.out (fun k hk => by have := GG.out; have := G3.out; simp at hk; omega))
            have LF := Lib.hid HB2.out.gets.all
            have RL := Lib.hid (RS.out _ (HF2.out.mono (by simp)))
            clear u1 u2 UM u9 u10 u11 u12 u14 UL C14 F14 HU
            go_wp2_with (first
              | ((with_reducible (show wpList _ _ _ (Oper.mk _ (Op.build 27 _) _ _ _ _ :: _) _ _)); refine wpList_val rfl (exec_bld27z rfl _) ?_)
              | ((with_reducible (show wpList _ _ _ (Oper.mk (some 106) (Op.load 27 _) _ _ _ _ :: _) _ _)); refine wpList_load_g (by rfl) 27 _ rfl _ rfl LF.out ?_)
              | ((with_reducible (show wpList _ _ _ (Oper.mk (some 112) (Op.load 27 _) _ _ _ _ :: _) _ _)); refine wpList_load_g (by rfl) 27 _ rfl _ rfl LQ.out ?_)
              | (refine wpList_finT (t := zeroT) rfl rfl (.tmp 2) (.tmp 3) _ _ rfl rfl rfl rfl CF.out.1 CF.out.2 (by have := GG.out; omega) rfl rfl rfl rfl ?_; intro V b3 b4 f3))
            refine bodyPost_ret (Pt.results_two (p := 2) (q := 3) rfl _ _ rfl rfl (run_loadVar_row V g2 27 27 _ (0, 0) _ b3 Tryz.underlying27 rfl (by rw [i27]; simp [tc])) (run_loadVar_row V g3 44 44 _ (0, 0) _ b4 Tryz.underlying44 rfl (by rw [Pt.d40]; rfl))) rfl ?_
            have hrt := readT_no UT2.out
            refine ⟨nilS, nilS, by rw [hrt]; rfl, by rw [hrt]; exact TabV.zero _, FF.out.trans f3 (fun k hk => by have := GG.out; simp at hk; omega)⟩
        · obtain rfl : i2 = k := by omega
          have UL := HU2
          have UT2 := Lib.hid (show Runs tabP l 0 false (⟨nx, xs.map (·.1), ⟨n9, n10, n11, n12⟩, ys.map Int.ofNat⟩, xs.any (·.2)) at_2 shx from u1.out.bnd (u2.out.bnd (UM.out.bnd (u9.out.bnd (u10.out.bnd (u11.out.bnd (u12.out.bnd (u14.out.bnd (UL.out.bnd (Runs.ret _ _ _ _ HR2.out.le))))))))))
          have CF := Lib.hid (show TB wr g2 nilS nilS zeroT ∧ wr.heap[g3]? = some (.cells #[.int .i64 0, .int .i64 0] 44 (0, 0)) from ⟨C14.out.1.keep HF2.out (by have := GG.out; have := G3.out; simp; omega), HF2.out.heap C14.out.2 (by have := GG.out; have := G3.out; simp; omega)⟩)
          have FF := Lib.hid (show Frm [] w wr from F14.out.trans HF2.out (fun k hk => by have := GG.out; have := G3.out; simp at hk; omega))
          have LF := Lib.hid HB2.out.gets.all
          have RL := Lib.hid (RS.out _ (HF2.out.mono (by simp)))
          clear u1 u2 UM u9 u10 u11 u12 u14 UL C14 F14 HU
          cases shx with
          | true =>
            go_wp2_with (first
              | ((with_reducible (show wpList _ _ _ (Oper.mk _ (Op.build 27 _) _ _ _ _ :: _) _ _)); refine wpList_val rfl (exec_bld27z rfl _) ?_)
              | ((with_reducible (show wpList _ _ _ (Oper.mk (some 106) (Op.load 27 _) _ _ _ _ :: _) _ _)); refine wpList_load_g (by rfl) 27 _ rfl _ rfl LF.out ?_)
              | ((with_reducible (show wpList _ _ _ (Oper.mk (some 112) (Op.load 27 _) _ _ _ _ :: _) _ _)); refine wpList_load_g (by rfl) 27 _ rfl _ rfl LQ.out ?_)
              | (refine wpList_finT (t := zeroT) rfl rfl (.tmp 2) (.tmp 3) _ _ rfl rfl rfl rfl CF.out.1 CF.out.2 (by have := GG.out; omega) rfl rfl rfl rfl ?_; intro V b3 b4 f3))
            refine bodyPost_ret (Pt.results_two (p := 2) (q := 3) rfl _ _ rfl rfl (run_loadVar_row V g2 27 27 _ (0, 0) _ b3 Tryz.underlying27 rfl (by rw [i27]; simp [tc])) (run_loadVar_row V g3 44 44 _ (0, 0) _ b4 Tryz.underlying44 rfl (by rw [Pt.d40]; rfl))) rfl ?_
            have hrt := readT_no UT2.out
            refine ⟨nilS, nilS, by rw [hrt]; rfl, by rw [hrt]; exact TabV.zero _, FF.out.trans f3 (fun k hk => by have := GG.out; simp at hk; omega)⟩
          | false =>
            obtain ⟨va, vc, hb, _⟩ := HR2.out.blkv
            have c1 := hb.c1
            have c3 := hb.c3
            clear hb
            generalize hod : xs.any (fun x => x.2) = od at *
            have HFIT := Lib.hid (show FitT ⟨nx, xs.map (·.1), ⟨n9, n10, n11, n12⟩, ys.map Int.ofNat⟩ from ⟨by simp; have := HX.out; have := q2.out; omega, by simp; have := HY.out; have := q14.out; omega, fun x hx => by
              obtain ⟨y, hy, rfl⟩ := List.mem_map.1 hx
              have := HFX.out y hy
              exact ⟨by omega, by omega⟩⟩)
            have HCK := Lib.hid (fun z (f : Frm [] wr z) => RefCheckT_any vr vl _ z ⟨RL.out.keep0 f, _, HOL.out.sl.keep0 f⟩ HFIT.out)
            have HTV := Lib.hid (show TabV wr vr vl ⟨nx, xs.map (·.1), ⟨n9, n10, n11, n12⟩, ys.map Int.ofNat⟩ from ⟨RL.out, _, HOL.out.sl⟩)
            have HOV := Lib.hid (show vr.oneCell' = true ∧ vl.oneCell' = true from ⟨by obtain ⟨_, _, e⟩ := RL.out.form; rw [e]; rfl, by obtain ⟨_, _, e, _⟩ := HOL.out.sl.form; rw [e]; rfl⟩)
            have HFN := Lib.hid (show ∀ z1 z2, Frm [] wr z1 → Frm [g2, g3] z1 z2 → TabV z2 vr vl ⟨nx, xs.map (·.1), ⟨n9, n10, n11, n12⟩, ys.map Int.ofNat⟩ from fun z1 z2 h1 h2 => ⟨RS.out _ (((HF2.out.mono (L' := [g2, g3, g, gt]) (by simp)).trans h1 (by simp)).trans h2 (by simp)), _, ((HOL.out.keep0 h1).keep h2 (fun j hj hm => by have := HV2.out j hj; have := GG.out; have := G3.out; have := G4.out; simp at hm; omega)).sl⟩)
            clear HFIT RL HOL HFX HR2 RS
            generalize (Tab.mk nx (xs.map (·.1)) ⟨n9, n10, n11, n12⟩ (ys.map Int.ofNat)) = T at *
            by_cases hlt : at_2 < l.length
            · have hlt9 : (at_2 : Int) < (l.length : Int) := by omega
              go_upto_region 23 with (fail)
              refine wp_region_held_drew (S := fun z => z.cell? ⟨g, 1, none⟩ = some (.int .i64 (at_2 : Int))) (by kernel_rfl) ((Frm.refl [] wr).drew.cell c1 (by simp)) (fun hHeld => ?_)
              refine wpAnyH_take (i := 0) (oi := ⟨some 95, .build 27 #[], _, _, _, none⟩) rfl (by kernel_rfl) (by kernel_rfl) (by kernel_rfl) (fun _ _ _ h => h) (Or.inl ⟨by rfl, fun z hSw => exec_bld27z rfl z⟩) hHeld ?_
              try simp only [Act.put, List.setIfInBounds_toArray, List.set_cons_zero, List.set_cons_succ]
              refine wpAnyH_take (i := 1) (oi := ⟨some 96, .move (.tmp 4), _, _, _, none⟩) (v := ?_) rfl (by kernel_rfl) (by kernel_rfl) (by kernel_rfl) (fun _ _ _ h => h) (Or.inl ⟨by rfl, ?_⟩) hHeld ?_
              rotate_left
              focus (intro z hSw; clear hSw; go_simp; try with_reducible rfl)
              try simp only [Act.put, List.setIfInBounds_toArray, List.set_cons_zero, List.set_cons_succ]
              refine wpAnyH_take (i := 2) (oi := ⟨some 97, .nilCheck (.tmp 96), _, _, _, none⟩) (v := ?_) rfl (by kernel_rfl) (by kernel_rfl) (by kernel_rfl) (fun _ _ _ h => h) (Or.inl ⟨by rfl, ?_⟩) hHeld ?_
              rotate_left
              focus (intro z hSw; clear hSw; go_simp; try with_reducible rfl)
              try simp only [Act.put, List.setIfInBounds_toArray, List.set_cons_zero, List.set_cons_succ]
              refine wpAnyH_take (i := 3) (oi := ⟨some 98, .fieldAddr 115 (.tmp 97) 1, _, _, _, none⟩) (v := ?_) rfl (by kernel_rfl) (by kernel_rfl) (by kernel_rfl) (fun _ _ _ h => h) (Or.inl ⟨by rfl, ?_⟩) hHeld ?_
              rotate_left
              focus (intro z hSw; clear hSw; go_simp; try with_reducible rfl)
              try simp only [Act.put, List.setIfInBounds_toArray, List.set_cons_zero, List.set_cons_succ]
              refine wpAnyH_take (i := 4) (oi := ⟨some 99, .load 3 (.tmp 98), _, _, _, none⟩) (v := ?_) rfl (by kernel_rfl) (by kernel_rfl) (by kernel_rfl) (fun _ _ _ h => h) (Or.inl ⟨by rfl, ?_⟩) hHeld ?_
              rotate_left
              focus (intro z hSw; have q := hSw; clear hSw; go_simp; try with_reducible rfl)
              try simp only [Act.put, List.setIfInBounds_toArray, List.set_cons_zero, List.set_cons_succ]
              refine wpAnyH_take (i := 5) (oi := ⟨some 100, .build 44 #[(0, .const (.int .i64 4)), (1, .tmp 99)], _, _, _, none⟩) (v := ?_) rfl (by kernel_rfl) (by kernel_rfl) (by kernel_rfl) (fun _ _ _ h => h) (Or.inl ⟨by rfl, ?_⟩) hHeld ?_
              rotate_left
              focus (intro z hSw; clear hSw; go_simp; try with_reducible rfl)
              try simp only [Act.put, List.setIfInBounds_toArray, List.set_cons_zero, List.set_cons_succ]
              refine wpAnyH_ready (rs := [6]) (by kernel_rfl) (by simp) ?_
              refine AllReadyH.cons (o := ⟨none, .store 27 (.tmp 2) (.tmp 95), _, _, _, none⟩) rfl (fun K hK => ?_) AllReadyH.nil
              refine step_store27 rfl (.tmp 2) (.tmp 95) rfl (vr := nilS) (vl := nilS) (t := zeroT) rfl rfl (CF.out.1.keep0 ((Frm.refl [] wr).drew)) rfl rfl (fun w6 m6 f6 => ?_)
              refine hK.out _ _ ?_ (fun hNext => ?_)
              · exact f6.cell hHeld (by have := GG.out; simp; omega)
              clear hK K hHeld
              have hHeld := hNext
              clear hNext
              try simp only [Act.put, List.setIfInBounds_toArray, List.set_cons_zero, List.set_cons_succ]
              refine wpAnyH_ready (rs := [7]) (by kernel_rfl) (by simp) ?_
              refine AllReadyH.cons (o := ⟨none, .store 44 (.tmp 3) (.tmp 100), _, _, _, none⟩) rfl (fun K hK => ?_) AllReadyH.nil
              refine step_store44 rfl (.tmp 3) (.tmp 100) rfl (f6.heap (((Frm.refl [] wr).drew).heap CF.out.2 (by simp)) (by have := GG.out; simp; omega)) rfl rfl (fun w7 h7 f7 => ?_)
              refine hK.out _ _ ?_ (fun hNext => ?_)
              · exact f7.cell hHeld (by have := GG.out; simp; omega)
              clear hK K hHeld
              have hHeld := hNext
              clear hNext
              try simp only [Act.put, List.setIfInBounds_toArray, List.set_cons_zero, List.set_cons_succ]
              refine wpAnyH_done (by kernel_rfl) ?_ _
              go_wp2_with (fail)
              have b3 := m6.keep f7 (by have := GG.out; simp; omega)
              refine bodyPost_ret (Pt.results_two (p := 2) (q := 3) rfl _ _ rfl rfl (run_loadVar_row w7 g2 27 27 _ (0, 0) _ b3 Tryz.underlying27 rfl (by rw [i27]; simp [tc])) (run_loadVar_row w7 g3 44 44 _ (0, 0) _ h7 Tryz.underlying44 rfl (by rw [Pt.d40]; rfl))) rfl ?_
              have hrt := readT_more UT2.out hlt
              exact ⟨nilS, nilS, by rw [hrt]; rfl, by rw [hrt]; exact TabV.zero _, ((FF.out.trans ((Frm.refl [] wr).drew) (by simp)).trans f6 (fun k hk => by have := GG.out; simp at hk; omega)).trans f7 (fun k hk => by have := GG.out; simp at hk; omega)⟩
            · have hlt9 : ¬ (at_2 : Int) < (l.length : Int) := by omega
              cases od with
              | true =>
                go_wp2_with (first
                  | ((with_reducible (show wpList _ _ _ (Oper.mk _ (Op.build 27 _) _ _ _ _ :: _) _ _)); refine wpList_val rfl (exec_bld27z rfl _) ?_)
                  | ((with_reducible (show wpList _ _ _ (Oper.mk (some 106) (Op.load 27 _) _ _ _ _ :: _) _ _)); refine wpList_load_g (by rfl) 27 _ rfl _ rfl LF.out ?_)
                  | ((with_reducible (show wpList _ _ _ (Oper.mk (some 112) (Op.load 27 _) _ _ _ _ :: _) _ _)); refine wpList_load_g (by rfl) 27 _ rfl _ rfl LQ.out ?_)
                  | (refine wpList_finT (t := zeroT) rfl rfl (.tmp 2) (.tmp 3) _ _ rfl rfl rfl rfl CF.out.1 CF.out.2 (by have := GG.out; omega) rfl rfl rfl rfl ?_; intro V b3 b4 f3))
                refine bodyPost_ret (Pt.results_two (p := 2) (q := 3) rfl _ _ rfl rfl (run_loadVar_row V g2 27 27 _ (0, 0) _ b3 Tryz.underlying27 rfl (by rw [i27]; simp [tc])) (run_loadVar_row V g3 44 44 _ (0, 0) _ b4 Tryz.underlying44 rfl (by rw [Pt.d40]; rfl))) rfl ?_
                have hrt := readT_bad UT2.out hlt (.inl rfl)
                refine ⟨nilS, nilS, by rw [hrt]; rfl, by rw [hrt]; exact TabV.zero _, FF.out.trans f3 (fun k hk => by have := GG.out; simp at hk; omega)⟩
              | false =>
                cases hm : mayT T with
                | false =>
                  have hme : mayTE T = 2 := by unfold mayTE; rw [hm]; rfl
                  rw [hme] at HCK
                  go_wp2_with (first
                    | (go_at_call 23; refine (HCK.out _ (Frm.refl _ _)).mono ?_; rintro e wq ⟨rfl, fq⟩)
                    | ((with_reducible (show wpList _ _ _ (Oper.mk _ (Op.build 27 _) _ _ _ _ :: _) _ _)); refine wpList_val rfl (exec_bld27z rfl _) ?_)
                    | ((with_reducible (show wpList _ _ _ (Oper.mk (some 106) (Op.load 27 _) _ _ _ _ :: _) _ _)); refine wpList_load_g (by rfl) 27 _ rfl _ rfl LF.out ?_)
                    | ((with_reducible (show wpList _ _ _ (Oper.mk (some 112) (Op.load 27 _) _ _ _ _ :: _) _ _)); refine wpList_load_g (by rfl) 27 _ rfl _ rfl LQ.out ?_)
                    | (refine wpList_finT (t := zeroT) rfl rfl (.tmp 2) (.tmp 3) _ _ rfl rfl rfl rfl (CF.out.1.keep0 fq) (fq.heap CF.out.2 (by simp)) (by have := GG.out; omega) rfl rfl rfl rfl ?_; intro V b3 b4 f3))
                  refine bodyPost_ret (Pt.results_two (p := 2) (q := 3) rfl _ _ rfl rfl (run_loadVar_row V g2 27 27 _ (0, 0) _ b3 Tryz.underlying27 rfl (by rw [i27]; simp [tc])) (run_loadVar_row V g3 44 44 _ (0, 0) _ b4 Tryz.underlying44 rfl (by rw [Pt.d40]; rfl))) rfl ?_
                  have hrt := readT_bad UT2.out hlt (.inr hm)
                  refine ⟨nilS, nilS, by rw [hrt]; rfl, by rw [hrt]; exact TabV.zero _, (FF.out.trans fq (by simp)).trans f3 (fun k hk => by have := GG.out; simp at hk; omega)⟩
                | true =>
                  have hme : mayTE T = 0 := by unfold mayTE; rw [hm]; rfl
                  rw [hme] at HCK
                  go_wp2_with (first
                    | (go_at_call 23; refine (HCK.out _ (Frm.refl _ _)).mono ?_; rintro e wq ⟨rfl, fq⟩; have LQ := Lib.hid (HB2.out.keep0 fq).gets.all)
                    | ((with_reducible (show wpList _ _ _ (Oper.mk _ (Op.build 27 _) _ _ _ _ :: _) _ _)); refine wpList_val rfl (exec_bld27z rfl _) ?_)
                    | ((with_reducible (show wpList _ _ _ (Oper.mk (some 106) (Op.load 27 _) _ _ _ _ :: _) _ _)); refine wpList_load_g (by rfl) 27 _ rfl _ rfl LF.out ?_)
                    | ((with_reducible (show wpList _ _ _ (Oper.mk (some 112) (Op.load 27 _) _ _ _ _ :: _) _ _)); refine wpList_load_g (by rfl) 27 _ rfl _ rfl LQ.out ?_)
                    | (refine wpList_finT (t := T) rfl rfl (.tmp 2) (.tmp 3) _ _ rfl rfl HOV.out.1 HOV.out.2 (CF.out.1.keep0 fq) (fq.heap CF.out.2 (by simp)) (by have := GG.out; omega) rfl rfl rfl rfl ?_; intro V b3 b4 f3))
                  refine bodyPost_ret (Pt.results_two (p := 2) (q := 3) rfl _ _ rfl rfl (run_loadVar_row V g2 27 27 _ (0, 0) _ b3 Tryz.underlying27 rfl (by rw [i27]; simp [tc])) (run_loadVar_row V g3 44 44 _ (0, 0) _ b4 Tryz.underlying44 rfl (by rw [Pt.d40]; rfl))) rfl ?_
                  have hrt := readT_ok UT2.out hlt rfl hm
                  refine ⟨vr, vl, by rw [hrt]; rfl, by rw [hrt]; exact (HFN.out _ _ fq f3), (FF.out.trans fq (by simp)).trans f3 (fun k hk => by have := GG.out; simp at hk; omega)⟩
end Go.Proofs.YtljhanhipmnioaaGreat.Rd

namespace Go.Proofs.YtljhanhipmnioaaGreat.Pt
open Go.RowKit
set_option linter.unusedVariables false
set_option linter.unusedSimpArgs false
set_option maxRecDepth 100000

def OverARel (g n cap : Nat) (sp : List Ad) (w0 : World) (cv : Value) (wr : World) : Prop := ∃ (k : Nat) (m : List Ad), k ≤ n ∧ m.length = n ∧ cv = .int .i64 k ∧ OwnA 148 wr (.slice (some ⟨g, 0, none⟩) n cap) m sp ∧ Frm [g] w0 wr
set_option maxHeartbeats 1000000 in
theorem OverA_any (v : Value) (l sp : List Ad) (w : World) (hO : OwnA 148 w v l sp) (hl : l.length ≤ 1000000) :
    Calls Tryz.prog 86 #[v] w fun e w' => e = .returned (.tuple #[]) ∧ Frm (blk v) w w' := by
  obtain ⟨h1, ⟨rfl, h2, h3⟩ | ⟨g, cap, rfl, h3, h4, h5, h6⟩⟩ := id hO
  · clear hO h1 h3 hl h2
    go_enter Tryz.func86, Tryz.ntmps86
    go_wp2_with fail
    refine wp_loop_rounds 1 ?_
    rw [rounds_succ]
    go_wp2
    go_end0
    exact ⟨rfl, Frm.refl _ _⟩
  · have hl9 : ((l.length : Nat) : Int) ≤ 1000000 := by omega
    have HO := Lib.hid hO
    clear hO h1 h6 h5 h3 h4 hl
    go_enter Tryz.func86, Tryz.ntmps86
    go_wp2_with fail
    go_loopw [2] (OverARel g l.length cap sp w) (fun cv _ => l.length - (intOf cv).toNat)
    case atStart => exact ⟨0, l, by omega, rfl, rfl, HO.out, Frm.refl _ _⟩
    case round =>
      obtain ⟨k, m, hk, hm, rfl, o, f⟩ := hrel
      by_cases hlt : k < l.length
      · obtain ⟨c0, c1⟩ := o.sl.cells k (by omega)
        have z0 := frozen_of_heap o.heap (0 + k * 2)
        have z1 := frozen_of_heap o.heap (0 + k * 2 + 1)
        have hst := o.store k (by omega) (-7, -7)
        rw [Nat.zero_add] at c0 c1 z0 z1
        generalize m[k]'(by omega) = y at *
        have ST := Lib.hid hst
        have F := Lib.hid f
        have HM := Lib.hid hm
        clear hst o f hm
        go_wp2_with fail
        exact ⟨⟨k + 1, _, by omega, by simpa using HM.out, by go_num, ST.out, (F.out.setCell _ _ (.inl (by simp))).setCell _ _ (.inl (by simp))⟩, by simp [intOf]; omega⟩
      · obtain rfl : k = l.length := by omega
        have F := Lib.hid f
        clear f o hm
        go_wp2_with fail
        go_end0
        exact ⟨rfl, by simpa [blk] using F.out⟩
end Go.Proofs.YtljhanhipmnioaaGreat.Pt
