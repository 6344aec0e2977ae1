/-
  Contracts of the library's search by a function, at foreign; of a part; of the document's part. No conditions but those that each theorem names.
-/
import Derived.Test.YtnpjgccannebpaaN1
import Derived.Deep.LoopGhost
namespace Go.Proofs.Ytnpjgccannebpaa
open Go.RowKit
set_option linter.unusedVariables false
set_option linter.unusedSimpArgs false
set_option maxRecDepth 100000

/-- All bytes ahead of a place are a part's. -/
def Ahead (s : ByteArray) (pos : Nat) : Prop := ∀ j b, j < pos → s.data.toList[j]? = some b → okB b = true
theorem Ahead.all {s : ByteArray} {pos : Nat} (h : Ahead s pos) (hp : ¬ pos < s.size) : s.data.toList.all okB = true := by
  rw [List.all_eq_true]
  intro b hb
  obtain ⟨j, hj⟩ := List.getElem?_of_mem hb
  have hl : j < s.data.toList.length := by
    rcases Nat.lt_or_ge j s.data.toList.length with h | h
    · exact h
    · rw [List.getElem?_eq_none h] at hj; cases hj
  rw [← Lib.size_eq] at hl
  exact h j b (by omega) hj
theorem all_no {s : ByteArray} {pos : Nat} {b : UInt8} (hb : s.data.toList[pos]? = some b) (h : okB b = false) : s.data.toList.all okB = false := by
  rw [Bool.eq_false_iff]
  intro ha
  rw [List.all_eq_true] at ha
  rw [ha b (List.mem_of_getElem? hb)] at h
  cases h
theorem at_text {s : ByteArray} {pos : Nat} (h : pos < s.size) : ∃ b, s.data.toList[pos]? = some b := ⟨_, List.getElem?_eq_getElem (by rw [← Lib.size_eq]; exact h)⟩
/-- What the search tells: a place, if there is a foreign byte. -/
def FindP (s : ByteArray) (w : World) (e : Ending) (w' : World) : Prop := (∃ k : Int, e = .returned (.int .i64 k) ∧ decide (0 ≤ k) = !(s.data.toList.all okB)) ∧ Frm [] w w'
set_option maxHeartbeats 2000000 in
theorem indexFunc_any (s : ByteArray) (w : World) : Calls Try.prog 36 #[.string s, .func (.func 27) #[] #[], .bool true] w (FindP s w) := by
  have HF := Lib.hid (fun r W => foreign_any r W)
  go_enter Try.func36, Try.ntmps36
  go_wp2
  go_loopg [] s.size (fun gf wx => ∃ pos : Nat, wx.heap[w.heap.size]? = some (.stringIter s pos) ∧ Below w.heap.size w wx ∧ Ahead s pos ∧ s.size ≤ pos + gf)
  case atStart => exact ⟨0, World.iter_heap w s 0, (Below.refl _ w).alloc (Nat.le_refl _) _, fun j b h => by omega, by omega⟩
  case round =>
    obtain ⟨pos, hit, hbw, hah, hfu⟩ := hrel
    by_cases hps : pos < s.size
    · obtain ⟨g', rfl⟩ : ∃ g', gk = g' + 1 := ⟨gk - 1, by omega⟩
      obtain ⟨b, hb⟩ := at_text hps
      have hnx : ∀ ty, (Instr.next (.pointer (some ⟨w.heap.size, 0, none⟩)) true ty).run Try.prog wr = _ := fun ty => Lib.run_next_any_at wr w.heap.size s pos ty hit hps
      obtain ⟨R, hR⟩ : ∃ R, (Utf8.decode s pos).1 = R := ⟨_, rfl⟩
      obtain ⟨K, hK⟩ : ∃ K, (Utf8.decode s pos).2 = K := ⟨_, rfl⟩
      rw [hR, hK] at hnx
      have hit2 := Lib.iterAt_heap wr w.heap.size s pos (pos + K) hit
      have hbw2 := Lib.below_iterAt hbw (k := w.heap.size) (Nat.le_refl _) s (pos + K)
      obtain ⟨W, hWd⟩ : ∃ W, wr.iterAt w.heap.size s (pos + K) = W := ⟨_, rfl⟩
      rw [hWd] at hnx hit2 hbw2
      have cS := Lib.hid (HF.out R W)
      cases hok : okB b with
      | true =>
        obtain ⟨hd, hr⟩ := dec_ok hb hok
        have hR1 : forR R = false := by rw [← hR, hd]; exact hr
        have hK1 : K = 1 := by rw [← hK, hd]
        rw [hR1] at cS
        have hah2 := Lib.hid (show Ahead s (pos + K) from fun j x hj hx => by
          rcases Nat.lt_or_ge j pos with h | h
          · exact hah j x h hx
          · obtain rfl : j = pos := by omega
            rw [hb] at hx; cases hx; exact hok)
        have F2 := Lib.hid (And.intro hit2 hbw2)
        clear hah hR hK hit hbw hit2 hbw2 hWd hb hd hr hR1
        go_wp2_with (go_at_call 27; refine cS.out.mono ?_; rintro e W' ⟨rfl, hw⟩; obtain rfl := hw.symm)
        go_roundg g'
        case measure => omega
        case rel => exact ⟨pos + K, F2.out.1, F2.out.2, hah2.out, by omega⟩
      | false =>
        have hR1 : forR R = true := by rw [← hR]; exact dec_no hb hok
        rw [hR1] at cS
        have hall := Lib.hid (all_no hb hok)
        have F2 := Lib.hid (Frm.of_below hbw2 [])
        clear hah hR hK hit hbw hit2 hbw2 hWd hb hR1
        go_wp2_with (go_at_call 27; refine cS.out.mono ?_; rintro e W' ⟨rfl, hw⟩; obtain rfl := hw.symm)
        go_ret
        exact ⟨⟨_, rfl, by rw [hall.out]; simp⟩, F2.out⟩
    · have hnx : ∀ ty, (Instr.next (.pointer (some ⟨w.heap.size, 0, none⟩)) true ty).run Try.prog wr = _ := fun ty => Lib.run_next_end_at wr w.heap.size s pos ty hit hps
      have hall := Lib.hid (hah.all hps)
      have F2 := Lib.hid (Frm.of_below hbw [])
      clear hah
      go_wp2
      go_ret
      exact ⟨⟨_, rfl, by rw [hall.out]; rfl⟩, F2.out⟩
theorem IndexFunc_any (s : ByteArray) (w : World) : Calls Try.prog 32 #[.string s, .func (.func 27) #[] #[]] w (FindP s w) := by
  have HI := Lib.hid (indexFunc_any s w)
  go_enter Try.func32, Try.ntmps32
  go_wp2_with (go_at_call 36; refine HI.out.mono ?_; rintro e w' ⟨⟨k, rfl, hk⟩, f⟩; have HK := Lib.hid hk; have F := Lib.hid f; clear hk f)
  go_ret
  exact ⟨⟨k, rfl, HK.out⟩, F.out⟩
theorem ContainsFunc_any (s : ByteArray) (w : World) : Calls Try.prog 26 #[.string s, .func (.func 27) #[] #[]] w fun e w' => e = .returned (.bool (!(s.data.toList.all okB))) ∧ Frm [] w w' := by
  have HI := Lib.hid (IndexFunc_any s w)
  go_enter Try.func26, Try.ntmps26
  go_wp2_with (go_at_call 32; refine HI.out.mono ?_; rintro e w' ⟨⟨k, rfl, hk⟩, f⟩; have HK := Lib.hid hk; have F := Lib.hid f; clear hk f)
  go_ret
  exact ⟨by rw [← HK.out]; rfl, F.out⟩
/-! ### a part -/
set_option maxHeartbeats 2000000 in
theorem Part_any (s : ByteArray) (w : World) : Calls Try.prog 13 #[.string s] w fun e w' => e = .returned (.bool (partS s)) ∧ Frm [] w w' := by
  have HL := Lib.hid (fun c W => letter_any c W)
  have HC := Lib.hid (fun W => ContainsFunc_any s W)
  unfold partS
  cases hl : s.data.toList with
  | nil =>
    obtain rfl : s = ⟨#[]⟩ := by rw [← sB_data s, hl]; rfl
    rw [show partL [] = false from rfl]
    clear hl
    go_enter Try.func13, Try.ntmps13
    go_wp2
    go_ret
    exact ⟨rfl, Frm.refl _ _⟩
  | cons c r =>
    rw [part_cons]
    have hs : s.size = (c :: r).length := by rw [Lib.size_eq, hl]
    have h0 : 0 < s.size := by rw [hs]; simp
    have hne : (s.toList == []) = false := by rw [Lib.toList_data, hl]; rfl
    have hem : s.toList.isEmpty = false := by rw [Lib.toList_data, hl]; rfl
    have hc : s[0] = c := by
      have : s.data.toList[0]? = some s[0] := by rw [List.getElem?_eq_getElem (by rw [← Lib.size_eq]; exact h0)]; rfl
      rw [hl] at this; simp at this; exact this.symm
    rw [hl] at HC
    by_cases h20 : (c :: r).length ≤ 20
    · have h20s : ((s.size : Nat) : Int) ≤ 20 := by omega
      have hlt : letB c = (decide ((97 : Int) ≤ ((s[0]).toNat : Int)) && decide (((s[0]).toNat : Int) ≤ (122 : Int))) := by rw [hc]; unfold letB; congr 1 <;> (rw [decide_eq_decide]; omega)
      have HLT := Lib.hid (HL.out ((s[0]).toNat : Int))
      rw [← hlt] at HLT
      rw [show decide ((c :: r).length ≤ 20) = true by simpa using h20, Bool.true_and]
      have hlt3 := UInt8.toNat_lt (s[0])
      have hwr : wrap32 ((s[0]).toNat : Int) = ((s[0]).toNat : Int) := IntWalk.wrap32_in _ (by omega)
      generalize (c :: r).all okB = al at *
      generalize letB c = lc at *
      clear hl hlt hs hc h20 hlt3
      cases lc
      · go_enter Try.func13, Try.ntmps13
        go_wp2_with (first
          | (go_at_call 25; refine (HLT.out _).mono ?_; rintro e w1 ⟨rfl, hw⟩; obtain rfl := hw.symm)
          | (go_at_call 26; refine (HC.out _).mono ?_; rintro e w1 ⟨rfl, f⟩; have F := Lib.hid f; clear f))
        go_ret
        exact ⟨rfl, Frm.refl _ _⟩
      · go_enter Try.func13, Try.ntmps13
        go_wp2_with (first
          | (go_at_call 25; refine (HLT.out _).mono ?_; rintro e w1 ⟨rfl, hw⟩; obtain rfl := hw.symm)
          | (go_at_call 26; refine (HC.out _).mono ?_; rintro e w1 ⟨rfl, f⟩; have F := Lib.hid f; clear f))
        go_ret
        exact ⟨by simp, F.out⟩
    · have h20s : ¬ ((s.size : Nat) : Int) ≤ 20 := by omega
      rw [show decide ((c :: r).length ≤ 20) = false by simpa using h20]
      simp only [Bool.false_and]
      clear hl hs hc h20
      go_enter Try.func13, Try.ntmps13
      go_wp2
      go_ret
      exact ⟨rfl, Frm.refl _ _⟩
theorem Volume_any (s : ByteArray) (w : World) : Calls Try.prog 15 #[.string s] w fun e w' => e = .returned (.bool (partS s)) ∧ Frm [] w w' := by
  have HP := Lib.hid (Part_any s w)
  go_enter Try.func15, Try.ntmps15
  go_wp2_with (go_at_call 13; refine HP.out.mono ?_; rintro e w' ⟨rfl, f⟩; have F := Lib.hid f; clear f)
  go_ret
  exact ⟨rfl, F.out⟩
/-! ### the document's part -/
theorem okAt_iff (j : Nat) (b : UInt8) : okAt j b = true ↔ ((j ≠ 0 ∨ (97 ≤ b.toNat ∧ b.toNat ≤ 122)) ∧ ((97 ≤ b.toNat ∧ b.toNat ≤ 122) ∨ (48 ≤ b.toNat ∧ b.toNat ≤ 57) ∨ b.toNat = 46 ∨ b.toNat = 45 ∨ b.toNat = 95)) := by
  unfold okAt okB letB
  split
  · simp; omega
  · simp; omega
def PUpto (s : ByteArray) (i : Nat) : Prop := ∀ j b, j < i → s.data.toList[j]? = some b → okAt j b = true
def PRel (s : ByteArray) (w0 : World) (cv : Value) (wr : World) : Prop := ∃ i : Nat, cv = .int .i64 i ∧ i ≤ s.size ∧ PUpto s i ∧ Frm [] w0 wr
set_option maxHeartbeats 4000000 in
theorem RefPart_any (s : ByteArray) (hs : s.size ≤ 1000) (w : World) : Calls Try.prog 14 #[.string s] w fun e w' => e = .returned (.bool (partS s)) ∧ Frm [] w w' := by
  have HS := Lib.hid hs
  have hs9 : ((s.size : Nat) : Int) ≤ 1000 := by omega
  clear hs
  go_enter Try.func14, Try.ntmps14
  go_wp2_with fail
  go_loopw [3] (PRel s w) (fun cv _ => s.size - (intOf cv).toNat)
  case atStart => exact ⟨0, rfl, by omega, fun j b h => by omega, Frm.refl _ _⟩
  case round =>
    obtain ⟨i, rfl, hi, hu, f⟩ := hrel
    have HU := Lib.hid hu
    have F := Lib.hid f
    clear hu f
    by_cases hlt : i < s.size
    · obtain ⟨b, hb⟩ := at_text hlt
      have hlt' : (i : Int) < (s.size : Int) := by omega
      have hg : s[i] = b := by
        have : s.data.toList[i]? = some s[i] := by rw [List.getElem?_eq_getElem (by rw [← Lib.size_eq]; exact hlt)]; rfl
        rw [hb] at this; simp at this; exact this.symm
      have hb0 : (0 : Int) ≤ (b.toNat : Int) := by omega
      have HB := Lib.hid hb
      clear hb
      have HN := Lib.hid (show okAt i b = true → PUpto s (i + 1) from fun hok j x hj hx => by
        rcases Nat.lt_or_ge j i with h | h
        · exact HU.out j x h hx
        · obtain rfl : j = i := by omega
          rw [HB.out] at hx; cases hx; exact hok)
      have HP := Lib.hid (show okAt i b = false → partL s.data.toList = false from fun hok => part_no HB.out hok)
      have HQ := Lib.hid (okAt_iff i b)
      have hi9 : (i : Int) ≤ 1000 := by omega
      have HL := Lib.hid (And.intro hi hlt)
      clear HB hi
      have hgc : ((s[i]).toNat : Int) = (b.toNat : Int) := by rw [hg]
      clear hg
      generalize hc : (b.toNat : Int) = c at *
      have HC := Lib.hid hc
      clear hc
      rcases Nat.eq_zero_or_pos i with rfl | hpos
      · have cls : (97 ≤ c ∧ c ≤ 122) ∨ (c < 97) ∨ (122 < c ∧ 97 ≤ c) := by omega
        rcases cls with ⟨k1, k2⟩ | k2 | ⟨k2, k3⟩
        all_goals go_wp2_with fail
        all_goals first
            | exact ⟨⟨1, by go_num, by have := HL.out; omega, HN.out (HQ.out.2 (by have := HC.out; omega)), F.out⟩, by have := HL.out; simp [intOf]; omega⟩
            | (go_ret; exact ⟨by unfold partS; rw [HP.out (by rw [Bool.eq_false_iff]; intro h; have := HQ.out.1 h; have := HC.out; omega)]; rfl, F.out⟩)
            | (exfalso; rename_i q; simp at q; first | done | omega)
      · have hne : ¬ (i : Int) = 0 := by omega
        have cls : (97 ≤ c ∧ c ≤ 122) ∨ (48 ≤ c ∧ c ≤ 57 ∧ c < 97) ∨ (c = 46) ∨ (c = 45) ∨ (c = 95) ∨ (c < 48 ∧ c < 97 ∧ ¬ c = 46 ∧ ¬ c = 45 ∧ ¬ c = 95) ∨ (57 < c ∧ 48 ≤ c ∧ c < 97 ∧ ¬ c = 46 ∧ ¬ c = 45 ∧ ¬ c = 95) ∨ (57 < c ∧ 48 ≤ c ∧ 97 ≤ c ∧ 122 < c ∧ ¬ c = 46 ∧ ¬ c = 45 ∧ ¬ c = 95) := by omega
        rcases cls with ⟨k1, k2⟩ | ⟨k2, k3, k4⟩ | rfl | rfl | rfl | ⟨k2, k3, k4, k5, k6⟩ | ⟨k2, k3, k4, k5, k6, k7⟩ | ⟨k2, k3, k4, k5, k6, k7, k8⟩
        all_goals go_wp2_with fail
        all_goals first
            | exact ⟨⟨i + 1, by go_num, by have := HL.out; omega, HN.out (HQ.out.2 (by have := HC.out; omega)), F.out⟩, by have := HL.out; simp [intOf]; omega⟩
            | (go_ret; exact ⟨by unfold partS; rw [HP.out (by rw [Bool.eq_false_iff]; intro h; have := HQ.out.1 h; have := HC.out; omega)]; rfl, F.out⟩)
            | (exfalso; rename_i q; simp at q; first | done | omega)
    · obtain rfl : i = s.size := by omega
      have HE := Lib.hid (part_end (l := s.data.toList) (fun j b hb => HU.out j b (by rw [Lib.size_eq]; exact (List.getElem?_eq_some_iff.1 hb).1) hb))
      rw [← Lib.size_eq] at HE
      clear hlt
      go_wp2_with fail
      all_goals first
        | (go_ret; refine ⟨congrArg (fun x => Ending.returned (.bool x)) ?_, F.out⟩; unfold partS; rw [HE.out, Bool.eq_iff_iff]; simp; omega)
end Go.Proofs.Ytnpjgccannebpaa
