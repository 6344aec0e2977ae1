/-
  Contract of rows, of at most 64 holders. No conditions but those that each theorem names.
-/
import Derived.Test.YtafedmahehbggaaUV
namespace Go.Proofs.Ytafedmahehbggaa
open Go.RowKit Go.Sort Go.Maps
set_option linter.unusedVariables false
set_option linter.unusedSimpArgs false
set_option maxRecDepth 100000

open Kr (OwnE SlE Enco RowTys)
/-- A row of three cells. -/
abbrev Row3 := { c : List Value // c.length = 3 ∧ ∀ u ∈ c, u.oneCell' = true }
def e3 (x : Row3) : List Value := x.1
theorem enc3 : Enco e3 3 := ⟨fun x => x.2.1, fun x u hu => x.2.2 u hu, by omega, fun x y h => Subtype.ext h⟩
theorem tys3 : RowTys Try.prog 48 53 3 40 := ⟨Try.underlying48, .agg #[.int .i64 0, .slice none 0 0, .int .u64 0], rfl, by kernel_rfl⟩
/-- Rows of one row: all holders, and which of them are named. -/
def Row1 (w : World) (g : Nat) (v : Value) (z : Nat) : Prop := ∃ sp, w.heap[g]? = some (.cells (.int .i64 0 :: v :: .int .u64 (z : Int) :: sp).toArray 53 (0, 0))
theorem Row1.keep {w w' : World} {g : Nat} {v : Value} {z : Nat} {L : List Nat} (h : Row1 w g v z) (f : Frm L w w') (hb : g ∉ L) : Row1 w' g v z := by
  obtain ⟨sp, h⟩ := h
  exact ⟨sp, f.heap h hb⟩
theorem Row1.lt {w : World} {g : Nat} {v : Value} {z : Nat} (h : Row1 w g v z) : g < w.heap.size := by
  obtain ⟨sp, h⟩ := h
  exact lt_heap h
theorem Row1.cell {w : World} {g : Nat} {v : Value} {z : Nat} (h : Row1 w g v z) : w.cell? ⟨g, 0, none⟩ = some (.int .i64 0) ∧ w.cell? ⟨g, 1, none⟩ = some v ∧ w.cell? ⟨g, 2, none⟩ = some (.int .u64 (z : Int)) ∧ ∀ i, w.frozen? ⟨g, i, none⟩ = false := by
  obtain ⟨sp, h⟩ := h
  refine ⟨by rw [cell_of_heap h]; rfl, by rw [cell_of_heap h]; rfl, by rw [cell_of_heap h]; rfl, fun i => frozen_of_heap h i⟩
theorem Row1.set {w : World} {g : Nat} {v : Value} {z : Nat} (h : Row1 w g v z) (y : Nat) : Row1 (w.setCell ⟨g, 2, none⟩ (.int .u64 (y : Int))) g v y := by
  obtain ⟨sp, h⟩ := h
  refine ⟨sp, ?_⟩
  rw [heap_setCell_same _ h]
  simp
def WRel (v : Value) (w : World) (all fv : Value) (wr : World) : Prop := (fv = .int .i64 0 ∧ all = .slice none 0 0 ∧ Frm [] w wr) ∨ (∃ g cap, fv = .int .i64 64 ∧ all = .slice (some ⟨g, 0, none⟩) 1 cap ∧ Row1 wr g v 0 ∧ Frm [] w wr ∧ w.heap.size ≤ g)
def NRel (n : Nat) (s : List Int) (v : Value) (g : Nat) (w : World) (c : Value) (wr : World) : Prop := ∃ k : Nat, k ≤ s.length ∧ c = .int .i64 k ∧ Row1 wr g v (nb n (s.take k)) ∧ Frm [] w wr
def Rows1 (v : Value) (z : Nat) (w : World) (e : Ending) (w' : World) : Prop := ∃ g cap, e = .returned (.slice (some ⟨g, 0, none⟩) 1 cap) ∧ Row1 w' g v z ∧ Frm [] w w' ∧ w.heap.size ≤ g
theorem take_snoc {s : List Int} {k : Nat} (hk : k < s.length) : s.take (k + 1) = s.take k ++ [s[k]] := by rw [List.take_succ_eq_append_getElem hk]
set_option maxHeartbeats 4000000 in
theorem rows_any (L : List (List Ad)) (v sv : Value) (s : List Int) (ssp : List Value) (w : World) (hS : LsA w v L) (hn : L.length ≤ 64) (h1 : 0 < L.length) (hI : SlI w sv s ssp) (hs : s.length ≤ 1000000) :
    Calls Try.prog 36 #[v, sv] w (Rows1 v (nb L.length s) w) := by
  obtain ⟨a, cap, rfl, hcap⟩ := hS.form
  obtain ⟨b0, off, rfl⟩ := hS.at h1
  obtain ⟨sa, scap, rfl, _, _⟩ := hI.form
  have hn9 : (L.length : Int) ≤ 64 := by omega
  have h19 : (0 : Int) < (L.length : Int) := by omega
  have hs9 : (s.length : Int) ≤ 1000000 := by omega
  have HI := Lib.hid hI
  have HN := Lib.hid hn
  have HC := Lib.hid hcap
  clear hS hI hs
  generalize L.length = n at *
  go_enter Try.func36, Try.ntmps36
  go_wp2_with fail
  go_loopw [5, 6] (WRel (.slice (some ⟨b0, off, none⟩) n cap) w) (fun _ c _ => (64 - intOf c).toNat)
  case atStart => exact .inl ⟨rfl, rfl, Frm.refl _ _⟩
  case round =>
    rcases hrel with ⟨rfl, rfl, f⟩ | ⟨g, c1, rfl, rfl, hr, f, hg⟩
    · have F := Lib.hid f
      clear f
      have hmin : (min 64 (n : Int)).toNat = n := by omega
      have HM := Lib.hid hmin
      clear hmin
      go_wp2_with fail
      rw [HM.out]
      refine ⟨.inr ⟨_, _, rfl, rfl, ⟨(Builtin.zeroCells #[Value.int IntKind.i64 0, Value.slice none 0 0, Value.int IntKind.u64 0] ((Question.appendCap 1 0 53).cut (wr.tape wr.drawn (Question.appendCap 1 0 53)) - 1)).toList, ?_⟩, ((F.out.alloc _).alloc _).drew, by have := F.out.size; omega⟩, by decide⟩
      rw [heap_drew]
      refine (heap_alloc_at (by simp)).trans ?_
      congr 2
      apply Array.ext'
      simp
    · have hd : decide ((64 : Int) < (n : Int)) = false := by simp; omega
      have R := Lib.hid hr
      have F := Lib.hid f
      have G := Lib.hid hg
      clear hr f hg
      go_wp2_with fail
      go_loopw [30] (NRel n s (.slice (some ⟨b0, off, none⟩) n cap) g w) (fun c _ => s.length - (intOf c).toNat)
      case atStart => exact ⟨0, by omega, rfl, R.out, F.out⟩
      case round =>
        obtain ⟨k, hk, rfl, hr, f⟩ := hrel
        by_cases hlt : k < s.length
        · obtain ⟨bs, offs, rfl⟩ := SlE.at (enc := iE) (k := 1) HI.out (by omega)
          have c0 := cellI (HI.out.keep0 f) k hlt
          have hts := take_snoc hlt
          have hsn := nb_snoc n s[k] (s.take k)
          rw [← hts] at hsn
          generalize s[k] = z at *
          by_cases hz : 0 ≤ z ∧ z < n
          · obtain ⟨i, rfl⟩ : ∃ i : Nat, z = i := ⟨z.toNat, by omega⟩
            have hi : i < n := by omega
            rw [if_pos hz] at hsn
            have z1 := hz.1
            have z2 := hz.2
            have SN := Lib.hid hsn
            have R2 := Lib.hid hr
            have F2 := Lib.hid f
            clear hts hsn hr f hz
            have hq : (i : Int).tdiv 64 = 0 := by rw [Int.tdiv_eq_ediv_of_nonneg (by omega)]; have := HN.out; omega
            have hm : (i : Int).tmod 64 = (i : Int) := by rw [Int.tmod_eq_emod_of_nonneg (by omega)]; have := HN.out; omega
            have hw0 : IntKind.i64.wrap 0 = 0 := by decide
            have hwi : IntKind.i64.wrap (i : Int) = (i : Int) := IntWalk.i64_in _ (by omega)
            have hb := fun W => bit_any i (by have := HN.out; omega) W
            obtain ⟨r0, r1, r2, r3⟩ := R2.out.cell
            have rz := r3 2
            have hor : bits BinOp.or IntKind.u64 ((nb n (s.take k) : Nat) : Int) ((2 ^ i : Nat) : Int) = ((nb n (s.take k) ||| 2 ^ i : Nat) : Int) := u64_or_nat _ _ (Nat.lt_of_lt_of_le (nb_lt n _) (Nat.pow_le_pow_right (by omega) HN.out)) (pow_lt64 (by have := HN.out; omega))
            rw [show (i : Int).toNat = i from Int.toNat_natCast i] at SN
            have hq2 : ((nb n (s.take (k + 1)) : Nat) : Int) = ((nb n (s.take k) ||| 2 ^ i : Nat) : Int) := by rw [SN.out]
            rw [← hq2] at hor
            have RS := Lib.hid (Row1.set (w := wr.drew) (show Row1 wr.drew g (.slice (some ⟨b0, off, none⟩) n cap) (nb n (s.take k)) from R2.out) (nb n (s.take (k + 1))))
            clear hq2 r3 SN
            generalize ((2 ^ i : Nat) : Int) = dd at *
            generalize ((nb n (s.take (k + 1)) : Nat) : Int) = qq at *
            generalize ((nb n (s.take k) : Nat) : Int) = pp at *
            go_upto_region 10 with (fail)
            refine wp_region_still_tail 12 (by kernel_rfl) (by kernel_rfl) ?_
            simp only [List.take_succ_cons, List.take_zero, List.drop_succ_cons, List.drop_zero]
            repeat still_step
            still_call (hb _)
            repeat still_step
            refine wpStill_nil ?_
            change wpList _ _ _ _ _ (World.drew _)
            go_wp2_with fail
            go_roundw
            case rel => exact ⟨k + 1, by omega, by go_num, RS.out, (F2.out.drew).setCell _ _ (.inr G.out)⟩
            case measure => simp [intOf]; omega
          · rw [if_neg hz, Nat.or_zero] at hsn
            have R3 := Lib.hid (show Row1 wr g (.slice (some ⟨b0, off, none⟩) n cap) (nb n (s.take (k + 1))) by rw [hsn]; exact hr)
            have F2 := Lib.hid f
            clear hts hsn hr f
            by_cases hz0 : 0 ≤ z
            · have hz1 : ¬ z < n := fun h => hz ⟨hz0, h⟩
              clear hz
              go_wp2_with fail
              go_roundw
              case rel => exact ⟨k + 1, by omega, by go_num, R3.out, F2.out⟩
              case measure => simp [intOf]; omega
            · clear hz
              go_wp2_with fail
              go_roundw
              case rel => exact ⟨k + 1, by omega, by go_num, R3.out, F2.out⟩
              case measure => simp [intOf]; omega
        · obtain rfl : k = s.length := by omega
          rw [List.take_length] at hr
          have R2 := Lib.hid hr
          have F2 := Lib.hid f
          clear hr f
          go_wp2_with fail
          go_ret
          exact ⟨g, c1, rfl, R2.out, F2.out, G.out⟩
end Go.Proofs.Ytafedmahehbggaa
