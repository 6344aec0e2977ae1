/-
  Contracts of On, Index, Contains, Has. No conditions but those that each theorem names.
-/
import Derived.Test.YtpgekoicbceliaaCF
namespace Go.Proofs.Ytpgekoicbceliaa
open Go.RowKit Go.Sort Go.Maps
set_option linter.unusedVariables false
set_option linter.unusedSimpArgs false
set_option maxRecDepth 100000

def OnRel (l : List Ad) (d : Int) (b : Nat) (w0 : World) (cv : Value) (wr : World) : Prop := ∃ k : Nat, k ≤ l.length ∧ cv = .int .i64 k ∧ SetW wr b k (onA (l.take k) d) ∧ Frm [b] w0 wr
set_option maxHeartbeats 1000000 in
theorem On_any (v : Value) (l sp : List Ad) (d : Int) (w : World) (hS : SlA w v l sp) (hl : l.length ≤ 1000) (hw : ∀ x ∈ l, WfA x) :
    Calls Try.prog 20 #[v, .int .i64 d] w (Told w (srt (onA l d))) := by
  obtain ⟨a, cap, rfl, _, _⟩ := hS.form
  have hl9 : ((l.length : Nat) : Int) ≤ 1000 := by omega
  have hmm := @run_makeMap Try.prog
  have HL := Lib.hid hl
  have HS := Lib.hid hS
  have HW := Lib.hid hw
  clear hl hS hw
  go_enter Try.func20, Try.ntmps20
  go_wp2_with fail
  generalize hw2 : w.alloc (.map #[] 0) = w2
  have h2 : SetW w2 w.heap.size 0 [] := ⟨.map [], by rw [← hw2]; exact World.ownsMap_made w Try.prog 23 unitElem, SetD.empty⟩
  have f2 : Frm [] w w2 := by rw [← hw2]; exact (Frm.refl [] w).alloc _
  clear hw2
  obtain ⟨b, hb⟩ : ∃ b, w.heap.size = b := ⟨_, rfl⟩
  rw [hb] at h2 ⊢
  have HB := Lib.hid hb
  have H2 := Lib.hid h2
  have F2 := Lib.hid f2
  clear hb h2 f2 hmm
  go_loopw [11] (OnRel l d b w2) (fun cv _ => l.length - (intOf cv).toNat)
  case atStart => exact ⟨0, by omega, rfl, by simpa [onA] using H2.out, Frm.refl _ _⟩
  case round =>
    obtain ⟨k, hk, rfl, h, f⟩ := hrel
    by_cases hlt : k < l.length
    · obtain ⟨b0, off, rfl⟩ := HS.out.at (by omega)
      have hs2 := (HS.out.keep F2.out (by simp)).keep f (fun i hi => by have := HS.out.blk_lt (by omega) i hi; have := HB.out; simp; omega)
      obtain ⟨c0, c1⟩ := hs2.cells k hlt
      have hwx := HW.out l[k] (List.getElem_mem _)
      have hts := setOf_step l k hlt
      generalize hx : l[k] = x at *
      have H := Lib.hid h
      have F := Lib.hid f
      have WX := Lib.hid hwx
      have HT := Lib.hid hts
      clear hx h f hs2 hwx hts
      by_cases hin : x.1 = d
      · have hb9 : (x.1 == d) = true := by simp [hin]
        have HI := Lib.hid hin
        clear hin
        go_wp2_with fail
        refine (put_any b k _ x _ (H.out.keep ((Frm.refl [] _).alloc _) (by simp)) WX.out (by have := HL.out; omega)).mono ?_
        rintro r w4 ⟨rfl, s4, f4⟩
        have s5 : SetW w4 b (k + 1) (onA (l.take (k + 1)) d) := by
          rw [HT.out]; simpa [onA, List.filter_append, HI.out] using s4
        have S5 := Lib.hid s5
        have F5 := Lib.hid ((F.out.alloc _).trans f4 (by simp))
        clear s4 f4 s5
        go_wp2_with fail
        go_roundw
        case rel => exact ⟨k + 1, by omega, by go_num, S5.out, F5.out⟩
        case measure => simp [intOf]; omega
      · have hb9 : (x.1 == d) = false := by simp [hin]
        have HI := Lib.hid hin
        clear hin
        have s5 : SetW (wr.alloc (.cells #[.int .i64 x.1, .int .i64 x.2] 23)) b (k + 1) (onA (l.take (k + 1)) d) := by
          rw [HT.out]; exact ((H.out.keep ((Frm.refl [] _).alloc _) (by simp)).mono (Nat.le_succ _)).congr (by simp [onA, List.filter_append, HI.out])
        have S5 := Lib.hid s5
        have F5 := Lib.hid (F.out.alloc (.cells #[.int .i64 x.1, .int .i64 x.2] 23))
        clear s5
        go_wp2_with fail
        go_roundw
        case rel => exact ⟨k + 1, by omega, by go_num, S5.out, F5.out⟩
        case measure => simp [intOf]; omega
    · obtain rfl : k = l.length := by omega
      have H := Lib.hid h
      have F := Lib.hid (F2.out.trans f (fun i hi => by simp at hi; have := HB.out; omega))
      clear h f
      go_wp2_with fail
      refine (rising_any b _ _ _ H.out (by have := HL.out; omega)).mono ?_
      rintro r w2 ⟨v2, sp2, rfl, o2, f2, n2⟩
      go_wp2_with fail
      go_ret
      rw [List.take_length] at o2
      exact ⟨v2, sp2, rfl, o2, F.out.trans f2 (by simp), fun i hi => by have := n2 i hi; have := F.out.size; omega⟩
end Go.Proofs.Ytpgekoicbceliaa
