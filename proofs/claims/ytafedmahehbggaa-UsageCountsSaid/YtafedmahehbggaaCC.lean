/-
  Contracts of put, has, setOf. No conditions but those that each theorem names.
-/
import Derived.Test.YtafedmahehbggaaCB
namespace Go.Proofs.Ytafedmahehbggaa
open Go.RowKit Go.Sort Go.Maps
set_option linter.unusedVariables false
set_option linter.unusedSimpArgs false
set_option maxRecDepth 100000

/-- Block b is a map of at most n entries, whose keys are S. -/
def SetW (w : World) (b n : Nat) (S : List Ad) : Prop := ∃ D : DataW Unit, w.ownsMap Try.prog 25 unitElem b n D ∧ SetD D S
theorem SetW.keep {w w' : World} {b n : Nat} {S : List Ad} {L : List Nat} (h : SetW w b n S) (f : Frm L w w') (hb : b ∉ L) : SetW w' b n S := by
  obtain ⟨D, h1, h2⟩ := h
  exact ⟨D, ownsMap_frm h1 f hb, h2⟩
theorem SetW.lt {w : World} {b n : Nat} {S : List Ad} (h : SetW w b n S) : b < w.heap.size := by
  obtain ⟨D, h1, h2⟩ := h
  exact h1.lt
theorem put_any (b n : Nat) (S : List Ad) (x : Ad) (w : World) (hS : SetW w b n S) (hx : WfA x) (hn : n ≤ 1000000) :
    Calls Try.prog 53 #[.map (some b), av x] w fun e w' => e = .returned (.tuple #[]) ∧ SetW w' b (n + 1) (S ++ [x]) ∧ Frm [b] w w' := by
  obtain ⟨D, hown, hD⟩ := hS
  have hown1 := ownsMap_frm hown ((Frm.refl [] w).alloc (.cells #[.int .i64 x.1, .int .i64 x.2] 25)) (by simp)
  have hkey := key_A hx
  have HO := Lib.hid hown1
  have HD := Lib.hid hD
  have HK := Lib.hid hkey
  have HX := Lib.hid hx
  clear hown hD hkey hx hown1
  unfold av at *
  go_enter Try.func53, Try.ntmps53
  go_wp2_with (at_mapUpdate; refine wpList_mapUpdate_in _ rfl _ _ _ 63 rfl 25 70 law23 Try.underlying63 unitElem b n D rfl HO.out (by unfold maxLen; omega) _ _ _ rfl rfl HK.out _ [] unitElem_mk ?_; intro w1 hown1 hturn1)
  go_end0
  have f1 : Frm [b] w w1 := ((Frm.refl [b] w).alloc _).trans (Frm.of_grown hturn1.grown (L := [b]) (by simp)) (by simp)
  exact ⟨rfl, ⟨_, hown1, HD.out.put (HO.out.isMap) HX.out _⟩, f1⟩
theorem setOf_step (l : List Ad) (k : Nat) (hk : k < l.length) : l.take (k + 1) = l.take k ++ [l[k]] := by rw [List.take_succ_eq_append_getElem hk]
def SetRel (l : List Ad) (b : Nat) (w0 : World) (c : Value) (wr : World) : Prop := ∃ k : Nat, k ≤ l.length ∧ c = .int .i64 k ∧ SetW wr b k (l.take k) ∧ Frm [b] w0 wr
set_option maxHeartbeats 1000000 in
theorem setOf_any (v : Value) (l sp : List Ad) (w : World) (hS : SlA w v l sp) (hl : l.length ≤ 100000) (hw : ∀ x ∈ l, WfA x) :
    Calls Try.prog 51 #[v] w fun e w' => ∃ b, e = .returned (.map (some b)) ∧ SetW w' b l.length l ∧ Frm [] w w' ∧ w.heap.size ≤ b := by
  obtain ⟨a, cap, rfl, _, _⟩ := hS.form
  have hmm := @run_makeMap Try.prog
  have hl9 : ((l.length : Nat) : Int) ≤ 100000 := by omega
  have HS := Lib.hid hS
  have HL := Lib.hid hl
  have HW := Lib.hid hw
  clear hS hl hw
  go_enter Try.func51, Try.ntmps51
  go_wp2_with fail
  generalize hw2 : w.alloc (.map #[] 0) = w2
  have h2 : SetW w2 w.heap.size 0 [] := ⟨.map [], by rw [← hw2]; exact World.ownsMap_made w Try.prog 25 unitElem, SetD.empty⟩
  have f2 : Frm [] w w2 := by rw [← hw2]; exact (Frm.refl [] w).alloc _
  clear hw2
  obtain ⟨b, hb⟩ : ∃ b, w.heap.size = b := ⟨_, rfl⟩
  rw [hb] at h2 ⊢
  have HB := Lib.hid hb
  have H2 := Lib.hid h2
  have F2 := Lib.hid f2
  clear hb h2 f2 hmm
  go_loopw [9] (SetRel l b w2) (fun c _ => l.length - (intOf c).toNat)
  case atStart => exact ⟨0, by omega, rfl, H2.out, Frm.refl _ _⟩
  case round =>
    obtain ⟨k, hk, rfl, h, f⟩ := hrel
    by_cases hlt : k < l.length
    · obtain ⟨b0, off, rfl⟩ := HS.out.at (by omega)
      have hs2 := (HS.out.keep F2.out (by simp)).keep f (fun i hi => by have := HS.out.blk_lt (by omega) i hi; have := HB.out; simp; omega)
      obtain ⟨c0, c1⟩ := hs2.cells k hlt
      have hwx := HW.out l[k] (List.getElem_mem _)
      generalize hx : l[k] = x at *
      have HX := Lib.hid hx
      have H := Lib.hid h
      have F := Lib.hid f
      have WX := Lib.hid hwx
      clear hx h f hs2 hwx
      have hts := setOf_step l k hlt
      rw [HX.out] at hts
      have HT := Lib.hid hts
      clear hts
      go_wp2_with fail
      refine (put_any b k _ x _ (H.out.keep ((Frm.refl [] _).alloc _) (by simp)) WX.out (by have := HL.out; omega)).mono ?_
      rintro r w3 ⟨rfl, s3, f3⟩
      have S3 := Lib.hid s3
      have F3 := Lib.hid (F.out.trans (((Frm.refl [b] _).alloc _).trans f3 (by simp)) (by simp))
      clear s3 f3
      go_wp2_with fail
      go_roundw
      case rel => exact ⟨k + 1, by omega, by go_num, by rw [HT.out]; exact S3.out, F3.out⟩
      case measure => simp [intOf]; omega
    · obtain rfl : k = l.length := by omega
      have H := Lib.hid h
      have F := Lib.hid f
      clear h f
      go_wp2_with fail
      go_ret
      exact ⟨b, rfl, by have := H.out; rwa [List.take_length] at this, F2.out.trans F.out (fun i hi => by simp at hi; have := HB.out; omega), by have := HB.out; omega⟩
end Go.Proofs.Ytafedmahehbggaa
