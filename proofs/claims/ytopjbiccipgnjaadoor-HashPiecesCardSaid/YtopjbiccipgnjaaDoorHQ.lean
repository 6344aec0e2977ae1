/-
  Contracts of Text, the program's and the document's; no conditions but those that each theorem names.
-/
import Derived.Test.YtopjbiccipgnjaaDoorHP
import Derived.Deep.RegionLaw
namespace Go.Proofs.YtopjbiccipgnjaaDoor
open Go.RowKit
set_option linter.unusedVariables false
set_option linter.unusedSimpArgs false

/-- The text of bytes. -/
def txt (l : List UInt8) : List UInt8 := l.flatMap fun x => [lt (x.toNat / 16), lt (x.toNat % 16)]
theorem txt_snoc (l : List UInt8) (x : UInt8) : txt (l ++ [x]) = txt l ++ [lt (x.toNat / 16), lt (x.toNat % 16)] := by simp [txt]
theorem txt_length (l : List UInt8) : (txt l).length = 2 * l.length := by
  induction l with
  | nil => rfl
  | cons x r ih => simp only [txt, List.flatMap_cons, List.length_append, List.length_cons, List.length_nil] at ih ⊢; omega
theorem and15 : ∀ x : UInt8, bits BinOp.and IntKind.u8 (x.toNat : Int) 15 = ((x.toNat % 16 : Nat) : Int) := by
  have h : ∀ x : Fin 256, bits BinOp.and IntKind.u8 (x.val : Int) 15 = ((x.val % 16 : Nat) : Int) := by decide +kernel
  exact fun x => h ⟨x.toNat, x.toNat_lt⟩
theorem index_lit8 (k : Nat) (hk : k < 16) (W : World) : (Instr.index 9 (.string lit) (.int .u8 (k : Int))).run Tryd.prog W = .ok (.int .u8 (lt k).toNat) W := by
  have hl : k < lit.size := hk
  have hg : lit[k]? = some (lt k) := by
    rw [getElem?_pos lit k hl, ← lit_get ⟨k, hk⟩, getElem!_pos lit k hl]
  simp [Instr.index, run_underlying Tryd.underlying9, asIntOf, hg, go_sem]
def TextRel (w : World) (id : List UInt8) (s c : Value) (wr : World) : Prop :=
  ∃ (k : Nat) (a : Option Addr) (cap : Nat) (sp : List UInt8), k ≤ 32 ∧ c = .int .i64 k ∧ s = .slice a (2 * k) cap ∧ OwnB 5 wr (.slice a (2 * k) cap) (txt (id.take k)) sp ∧ Frm [] w wr ∧ ∀ i ∈ blk (.slice a (2 * k) cap), w.heap.size ≤ i
def z64 : List UInt8 := List.replicate 64 0
theorem index29 (id : List UInt8) (k : Nat) (hk : k < 32) (hl : id.length = 32) (W : World) : (Instr.index 29 (.agg (bvs id).toArray) (.int .i64 (k : Int))).run Tryd.prog W = .ok (.int .u8 ((id.getD k 0).toNat : Int)) W := by
  have hs : (sizeOf 5).run Tryd.prog W = .ok 1 W := by kernel_rfl
  have ha : (isAgg 5).run Tryd.prog W = .ok false W := by kernel_rfl
  have hx : (bvs id)[k]? = some (.int .u8 ((id.getD k 0).toNat : Int)) := by rw [bvs_get, List.getElem?_eq_getElem (by omega)]; simp [bv, List.getD_eq_getElem?_getD, List.getElem?_eq_getElem (show k < id.length by omega)]
  have hin : (0 : Int) ≤ (k : Int) ∧ (k : Int) < ((32 : Nat) : Int) := by omega
  simp [Instr.index, run_underlying d29, asIntOf, hin, part, hs, ha, hx, go_sem]
  intro h
  omega
set_option maxRecDepth 100000 in
set_option maxHeartbeats 2000000 in
theorem Text_any (id : List UInt8) (hid : id.length = 32) (w : World) : Calls Tryd.prog 27 #[.agg (bvs id).toArray] w fun r w' => r = .returned (.string ⟨(txt id).toArray⟩) ∧ Frm [] w w' := by
  have hmk : ∀ w, (Instr.makeSlice 22 (.int .i64 0) (.int .i64 64)).run Tryd.prog w = .ok (.slice (some ⟨w.heap.size, 0, none⟩) 0 64) (w.alloc (.cells (bvs z64).toArray 5)) := fun _ => by kernel_rfl
  have hO0 : ∀ W : World, OwnB 5 (W.alloc (.cells (bvs z64).toArray 5)) (.slice (some ⟨W.heap.size, 0, none⟩) 0 64) [] z64 := fun W => OwnB.of_heap (heap_alloc_new _ _) rfl rfl (by simp [maxLen])
  have HO0 := Lib.hid hO0
  have HL := Lib.hid hid
  clear hO0 hid
  go_enter Tryd.func27, Tryd.ntmps27
  go_upto_region 2 with (fail)
  have hI : IsB ((w.alloc (.cells (bvs id).toArray 29)).alloc (.cells (bvs z64).toArray 5)) w.heap.size 29 id := heap_alloc_lt (heap_alloc_new _ _)
  have hO := HO0.out (w.alloc (.cells (bvs id).toArray 29))
  have hF : Frm [] w ((w.alloc (.cells (bvs id).toArray 29)).alloc (.cells (bvs z64).toArray 5)) := ((Frm.refl _ _).alloc _).alloc _
  have hz : w.heap.size ≤ (w.alloc (.cells (bvs id).toArray 29)).heap.size := by simp
  change Code.wp _ _ _ _ ((w.alloc (.cells (bvs id).toArray 29)).alloc (.cells (bvs z64).toArray 5))
  rw [World.size_alloc] at hO
  generalize ((w.alloc (.cells (bvs id).toArray 29)).alloc (.cells (bvs z64).toArray 5)) = W at *
  have HI := Lib.hid hI
  have HO := Lib.hid hO
  have HF := Lib.hid hF
  clear hI hO hF hz
  refine wp_region_lit ?_
  refine wpList_load_row rfl 29 (.tmp 1) rfl w.heap.size rfl 29 (bvs id).toArray (0, 0) _ HI.out d29 rfl (by rw [List.size_toArray, bvs_length, HL.out]; exact i29) ?_
  go_wp2_with fail
  go_loopw [3, 8] (TextRel w id) (fun _ c _ => 32 - (intOf c).toNat)
  case atStart => exact ⟨0, _, _, z64, by omega, rfl, rfl, HO.out, HF.out, by simp [blk]⟩
  case round =>
    obtain ⟨k, a, cap, sp, hk, rfl, rfl, o, f, g⟩ := hrel
    have O := Lib.hid o
    have F := Lib.hid f
    have G := Lib.hid g
    clear o f g
    by_cases hlt : k < 32
    · have hidx := index29 id k hlt HL.out
      have htk : id.take (k + 1) = id.take k ++ [id.getD k 0] := by rw [List.take_succ_eq_append_getElem (by rw [HL.out]; exact hlt)]; simp [List.getD_eq_getElem?_getD, List.getElem?_eq_getElem (show k < id.length by rw [HL.out]; exact hlt)]
      have htx := txt_snoc (id.take k) (id.getD k 0)
      rw [← htk] at htx
      have hlen : (txt (id.take k)).length = 2 * k := by rw [txt_length, List.length_take, HL.out]; omega
      obtain ⟨T', hT'⟩ : ∃ T', txt (id.take (k + 1)) = T' := ⟨_, rfl⟩
      rw [hT'] at htx
      have HTP := Lib.hid hT'
      clear hT'
      generalize txt (id.take k) = T at *
      generalize id.getD k 0 = x at *
      have HTX := Lib.hid htx
      have HLEN := Lib.hid hlen
      clear htk htx hlen
      have hx1 := x.toNat_lt
      obtain ⟨hi, hhi⟩ : ∃ hi, x.toNat / 16 = hi := ⟨_, rfl⟩
      obtain ⟨lo, hlo⟩ : ∃ lo, x.toNat % 16 = lo := ⟨_, rfl⟩
      have ea := and15 x
      rw [hlo] at ea
      have eh : ((x.toNat : Nat) : Int) / 16 = (hi : Int) := by omega
      have i1 := index_lit8 hi (by omega)
      have i2 := index_lit8 lo (by omega)
      have hb := HTX.out
      rw [hhi, hlo] at hb
      have HB := Lib.hid hb
      have hxx : ((x.toNat : Nat) : Int) < 256 := by omega
      clear hb hhi hlo hx1
      generalize lt hi = b1 at *
      generalize lt lo = b2 at *
      go_wp2_with fail
      have s1 : SlB ((wr.alloc (.cells #[.int .u8 (b1.toNat : Int), .int .u8 (b2.toNat : Int)] 5)).drew) (.slice (some ⟨wr.heap.size, 0, none⟩) 2 2) [b1, b2] [] := (slb_new wr [b1, b2] 2 _ (0, 0) rfl rfl (by simp [maxLen])).keep ((Frm.refl [] _).drew) (by simp)
      have o1 := O.out.keep (((Frm.refl [] wr).alloc (.cells #[.int .u8 (b1.toNat : Int), .int .u8 (b2.toNat : Int)] 5)).drew) (by simp)
      have hbn : T.length + [b1, b2].length ≤ 140737488355328 := by rw [HLEN.out]; simp; omega
      have S1 := Lib.hid s1
      have O1 := Lib.hid o1
      have HBN := Lib.hid hbn
      clear s1 o1 hbn
      go_region_law ((refine step_append_bytes BT O1.out S1.out HBN.out (by rfl) (.tmp 11) (.tmp 18) (by rfl) (by rfl) (by rfl) ?_; intro a4 cap4 w4 sp4 o4 f4 n4))
      all_goals
        have hl2 : T.length + [b1, b2].length = 2 * (k + 1) := by rw [HLEN.out]; simp; omega
        have hl3 : T.length + 2 = 2 * (k + 1) := hl2
        rw [hl2] at o4 n4
        have HL3 := Lib.hid hl3
        rw [← HB.out] at o4
        have O4 := Lib.hid o4
        have F4 := Lib.hid (((F.out.alloc (.cells #[.int .u8 (b1.toNat : Int), .int .u8 (b2.toNat : Int)] 5)).drew).trans f4 (fun i hi => .inr (G.out i hi)))
        have N4 := Lib.hid n4
        clear o4 f4 n4 hl2 hl3
        go_wp2_with fail
        rw [HL3.out]
        refine ⟨⟨k + 1, a4, cap4, sp4, by omega, by go_num, rfl, by rw [HTP.out]; exact O4.out, F4.out, fun i hi => ?_⟩, by simp [intOf]; omega⟩
        rcases N4.out i hi with h | h
        · exact G.out i h
        · have := F.out.size; simp at h; omega
    · obtain rfl : k = 32 := by omega
      have hcv := convert_bytes (dst := 9) BT O.out.sl (by kernel_rfl)
      rw [List.take_of_length_le (by rw [HL.out]; omega)] at hcv
      go_wp2_with fail
      go_ret
      exact ⟨rfl, F.out⟩
theorem slice_lit (k : Nat) (hk : k < 16) (W : World) : (Instr.slice 9 (.string lit) (some (.int .u8 (k : Int))) (some (.int .u8 ((k : Int) + 1))) none).run Tryd.prog W = .ok (.string ⟨#[lt k]⟩) W := by
  have hl : lit.size = 16 := rfl
  have hx : ∀ k : Fin 16, lit.extract k.val (k.val + 1) = ⟨#[lt k.val]⟩ := by decide +kernel
  rw [run_slice_string W 9 lit .u8 .u8 k ((k : Int) + 1) Tryd.underlying9 (by omega) (by omega) (by rw [hl]; omega)]
  have e2 : ((k : Int) + 1).toNat = k + 1 := by omega
  rw [e2, Int.toNat_natCast, hx ⟨k, hk⟩]
theorem str_app (l : List UInt8) (b : UInt8) : (⟨l.toArray⟩ : ByteArray) ++ (⟨#[b]⟩ : ByteArray) = ⟨(l ++ [b]).toArray⟩ := by
  apply ByteArray.ext
  simp
set_option maxRecDepth 100000 in
set_option maxHeartbeats 2000000 in
theorem RefText_any (id : List UInt8) (hid : id.length = 32) (w : World) : Calls Tryd.prog 28 #[.agg (bvs id).toArray] w fun r w' => r = .returned (.string ⟨(txt id).toArray⟩) ∧ Frm [] w w' := by
  have HL := Lib.hid hid
  clear hid
  have HI := Lib.hid (show IsB (w.alloc (.cells (bvs id).toArray 29)) w.heap.size 29 id from heap_alloc_new _ _)
  have HF := Lib.hid ((Frm.refl [] w).alloc (.cells (bvs id).toArray 29))
  go_enter Tryd.func28, Tryd.ntmps28
  go_wp2_with fail
  generalize w.alloc (.cells (bvs id).toArray 29) = W at *
  go_loopw [3, 4] (fun s c wr => ∃ k : Nat, k ≤ 32 ∧ c = .int .i64 k ∧ s = .string ⟨(txt (id.take k)).toArray⟩ ∧ Frm [] W wr) (fun _ c _ => 32 - (intOf c).toNat)
  case atStart => exact ⟨0, by omega, rfl, rfl, Frm.refl _ _⟩
  case round =>
    obtain ⟨k, hk, rfl, rfl, f⟩ := hrel
    have F := Lib.hid f
    clear f
    by_cases hlt : k < 32
    · have hlk : k < id.length := by rw [HL.out]; exact hlt
      have c1 := (HI.out.keepF F.out).cell k hlk
      have htk : id.take (k + 1) = id.take k ++ [id[k]] := by rw [List.take_succ_eq_append_getElem hlk]
      have htx := txt_snoc (id.take k) id[k]
      rw [← htk] at htx
      have hTl : (txt (id.take k)).length = 2 * k := by rw [txt_length, List.length_take, HL.out]; omega
      generalize txt (id.take k) = T at *
      generalize id[k] = x at *
      have hx1 := x.toNat_lt
      obtain ⟨hi, hhi⟩ : ∃ hi, x.toNat / 16 = hi := ⟨_, rfl⟩
      obtain ⟨lo, hlo⟩ : ∃ lo, x.toNat % 16 = lo := ⟨_, rfl⟩
      have eh : ((x.toNat : Nat) : Int) / 16 = (hi : Int) := by omega
      have el : ((x.toNat : Nat) : Int) % 16 = (lo : Int) := by omega
      have i1 := slice_lit hi (by omega)
      have i2 := slice_lit lo (by omega)
      have w1 : IntKind.u8.wrap ((hi : Int) + 1) = (hi : Int) + 1 := by show ((hi : Int) + 1) % 256 = _; omega
      have w2 : IntKind.u8.wrap ((lo : Int) + 1) = (lo : Int) + 1 := by show ((lo : Int) + 1) % 256 = _; omega
      have w3 : ((hi : Int) + 1) % 256 = (hi : Int) + 1 := by omega
      have w4 : ((lo : Int) + 1) % 256 = (lo : Int) + 1 := by omega
      have hs1 := str_app T (lt hi)
      have hs2 := str_app (T ++ [lt hi]) (lt lo)
      have hn1 : ¬ (9223372036854775807 < T.length + 1) := by rw [hTl]; omega
      have hn2 : ¬ (9223372036854775807 < T.length + 1 + 1) := by rw [hTl]; omega
      have b1 : (hi : Int) < 16 := by omega
      have b2 : (lo : Int) < 16 := by omega
      rw [hhi, hlo] at htx
      have HTX := Lib.hid htx
      have hxx : ((x.toNat : Nat) : Int) < 256 := by omega
      clear htx hhi hlo hx1 htk hlk hTl
      generalize lt hi = y1 at *
      generalize lt lo = y2 at *
      go_wp2_with fail
      go_quiet (fail)
      go_wp2_with fail
      go_quiet (fail)
      go_wp2_with fail
      refine ⟨⟨k + 1, by omega, by go_num, by rw [HTX.out]; first | done | rfl | simp, F.out.drewN _⟩, by simp [intOf]; omega⟩
    · obtain rfl : k = 32 := by omega
      rw [List.take_of_length_le (by rw [HL.out]; omega)]
      go_wp2_with fail
      go_ret
      exact ⟨rfl, HF.out.trans F.out (by simp)⟩
end Go.Proofs.YtopjbiccipgnjaaDoor
