/-
  Contracts of the document's writer: Num, Text, Raw, Pad, Out; no conditions but those that each theorem names.
-/
import Derived.Test.YtappmjophnhdaaaJ
namespace Go.Proofs.Ytappmjophnhdaaa
open Go.RowKit
set_option linter.unusedVariables false
set_option linter.unusedSimpArgs false

theorem OwnB.one {w : World} {u : Value} {x : UInt8} (hu : u = bv x) : OwnB 5 (w.alloc (.cells #[u] 5)) (.slice (some ⟨w.heap.size, 0, none⟩) 1 1) [x] [] := by
  subst hu
  exact OwnB.of_heap (by rw [heap_alloc_new]; rfl) rfl rfl (by simp [maxLen])
def RNumRel (w : World) (n size : Nat) (b c : Value) (wr : World) : Prop :=
  ∃ j : Nat, ∃ a len cap l sp, j ≤ size ∧ c = .int .i64 ((j : Int) - 1) ∧ b = .slice a len cap ∧ l.length = size - j ∧ OwnB 5 wr (.slice a len cap) l sp ∧ l ++ beBytes n j = beBytes n size ∧ Frm [] w wr ∧ Fresh w (.slice a len cap)
set_option maxHeartbeats 1000000 in
theorem RNum_any (bw : Nat) (v : Value) (l sp : List UInt8) (E n size : Int) (w : World) (hW : Rw w bw v l sp E) (hl : l.length ≤ 65536) (hn : n ≤ 9223372036854775807) :
    Calls Try.prog 44 #[.pointer (some ⟨bw, 0, none⟩), .int .i64 n, .int .i64 size] w fun r w' => r = .returned (.tuple #[]) ∧ RwTo w bw v (wStep (l, E) (numStep · n size)) w' := by
  by_cases hs : isSizeB size = false
  · have hr : (fun l => numStep l n size) = fun l => (l, 2) := by funext l; simp [numStep, hs]
    rw [hr]
    clear hr
    go_enter Try.func44, Try.ntmps44
    go_wp2_with (first | (go_at_call 74; refine (size_any _ _).mono ?_; rintro e w' ⟨rfl, rfl⟩) | (go_at_call 75; refine (put_err bw v _ l sp [] [] E 2 _ hW (SlB.nil _) (by decide)).mono ?_; rintro e w' ⟨rfl, hw⟩))
    refine bodyPost_ret (results_none rfl _ _ _) rfl ?_
    exact ⟨rfl, hw⟩
  · have hs' : isSizeB size = true := by simpa using hs
    have hb : 1 ≤ size ∧ size ≤ 7 := by simpa [isSizeB] using hs'
    obtain ⟨hb1, hb2⟩ := hb
    clear hs
    obtain ⟨s, rfl⟩ := Int.eq_ofNat_of_zero_le (show 0 ≤ size by omega)
    by_cases h0 : n < 0
    · have hr : (fun l => numStep l n s) = fun l => (l, 5) := by funext l; simp [numStep, hs', h0]
      rw [hr]
      clear hr
      go_enter Try.func44, Try.ntmps44
      go_wp2_with (first | (go_at_call 74; refine (size_any _ _).mono ?_; rintro e w' ⟨rfl, rfl⟩) | (go_at_call 75; refine (put_err bw v _ l sp [] [] E 5 _ hW (SlB.nil _) (by decide)).mono ?_; rintro e w' ⟨rfl, hw⟩))
      refine bodyPost_ret (results_none rfl _ _ _) rfl ?_
      exact ⟨rfl, hw⟩
    · obtain ⟨k, rfl⟩ := Int.eq_ofNat_of_zero_le (show 0 ≤ n by omega)
      clear h0
      by_cases hk : 2 ^ (8 * s) ≤ k
      · have hr : (fun l => numStep l k s) = fun l => (l, 5) := by
          funext l
          have : (2 : Int) ^ (8 * s) ≤ k := by exact_mod_cast hk
          simp [numStep, hs', this]
        rw [hr]
        have hq : 0 < (k : Int) / 2 ^ (8 * s) := by
          have : 0 < k / 2 ^ (8 * s) := Nat.div_pos hk (Nat.two_pow_pos _)
          exact_mod_cast this
        clear hr hk
        go_enter Try.func44, Try.ntmps44
        go_wp2_with (first | (go_at_call 74; refine (size_any _ _).mono ?_; rintro e w' ⟨rfl, rfl⟩) | (go_at_call 75; refine (put_err bw v _ l sp [] [] E 5 _ hW (SlB.nil _) (by decide)).mono ?_; rintro e w' ⟨rfl, hw⟩))
        refine bodyPost_ret (results_none rfl _ _ _) rfl ?_
        exact ⟨rfl, hw⟩
      · have hr : (fun l => numStep l k s) = fun l => addStep l (beBytes k s) := by
          funext l
          have : ¬ (2 : Int) ^ (8 * s) ≤ k := by exact_mod_cast hk
          have h00 : ¬ (k : Int) < 0 := by omega
          simp [numStep, hs', this, h00]
        rw [hr]
        have hq : (k : Int) / 2 ^ (8 * s) ≤ 0 := by
          have : k / 2 ^ (8 * s) = 0 := Nat.div_eq_of_lt (by omega)
          exact_mod_cast Nat.le_of_eq this
        clear hr hk
        go_enter Try.func44, Try.ntmps44
        go_wp2_with (first | (go_at_call 74; refine (size_any _ _).mono ?_; rintro e w' ⟨rfl, rfl⟩))

        go_loopw [6, 7] (RNumRel w' k s) (fun _ c _ => (intOf c + 1).toNat)
        case atStart => exact ⟨s, none, 0, 0, [], [], Nat.le_refl _, rfl, by simp, by simp, by simpa using OwnB.nil _ _, by simp, Frm.refl _ _, by simp [Fresh, blk]⟩
        case round =>
          obtain ⟨j, a, len, cap, m, msp, hj, rfl, rfl, hm, o1, he, f1, b1⟩ := hrel
          have HM := Lib.hid hm
          have HE := Lib.hid he
          clear hm he
          by_cases hj0 : j = 0
          · subst hj0
            have hx : bw ∉ blkR (.slice a len cap) := fun hm => by have h5 := b1 _ (blkR_sub hm); have h6 := hW.lt bw (by simp); omega
            have hp := Lib.hid (put_ok bw v _ l sp m msp E wr (hW.keep f1 (by simp) (by simp)) o1.sl hx hl (by rw [HM.out]; omega))
            go_wp2_with (go_at_call 75; refine hp.out.mono ?_; rintro e w2 ⟨rfl, hw⟩)
            go_end0
            have he := HE.out
            simp [beBytes] at he
            subst he
            exact ⟨rfl, hw.behind f1⟩
          · obtain ⟨i, rfl⟩ : ∃ i, j = i + 1 := ⟨j - 1, by omega⟩
            clear hj0
            have hx : ((i + 1 : Nat) : Int) - 1 = (i : Int) := by omega
            rw [hx]
            clear hx
            have hxx : Value.int .u8 ((k : Int) / 2 ^ (8 * i) % 256) = bv (UInt8.ofNat (k / 2 ^ (8 * i))) := by simp [bv]
            have HX := Lib.hid hxx
            clear hxx
            go_wp2_with (at_builtin; refine wpList_append_bytes BT (o1.keep ((Frm.refl [] _).alloc _) (by simp)) (OwnB.one HX.out).sl (by rw [HM.out]; simp <;> omega) rfl (.tmp 30) (.tmp 36) rfl rfl rfl ?_; intro a' cap' w2 sp' o2 f2 b2)
            refine ⟨⟨i, a', _, cap', _, sp', by omega, by go_num, rfl, ?_, o2, ?_, ?_, ?_⟩, by simp [intOf] <;> omega⟩
            · simp [HM.out]; omega
            · rw [← HE.out]; simp [beBytes]
            · exact (f1.alloc _).trans f2 (fun x hx => .inr (b1 x hx))
            · intro x hx
              rcases b2 x hx with h | h
              · exact b1 x h
              · have := f1.size; simp at h; omega

def RTextRel (w : World) (s : List UInt8) (most : Nat) (b : Value) (wr : World) : Prop :=
  ∃ j : Nat, ∃ a len cap sp, j + s.length ≤ most ∧ b = .slice a len cap ∧ len = 1 + s.length + j ∧ OwnB 5 wr (.slice a len cap) ((UInt8.ofNat s.length :: s) ++ List.replicate j 0) sp ∧ Frm [] w wr ∧ Fresh w (.slice a len cap)
set_option maxHeartbeats 1000000 in
theorem RText_any (bw : Nat) (v : Value) (l sp : List UInt8) (E most : Int) (s : ByteArray) (w : World) (hW : Rw w bw v l sp E) (hl : l.length ≤ 65536) :
    Calls Try.prog 45 #[.pointer (some ⟨bw, 0, none⟩), .string s, .int .i64 most] w fun r w' => r = .returned (.tuple #[]) ∧ RwTo w bw v (wStep (l, E) (textStep · s.data.toList most)) w' := by
  have hsz : s.size = s.data.toList.length := rfl
  by_cases hs : isMostB most = false
  · have hr : (fun l => textStep l s.data.toList most) = fun l => (l, 2) := by funext l; simp [textStep, hs]
    rw [hr]
    clear hr
    by_cases h0 : most < 0
    all_goals
      have hb : most < 0 ∨ 255 < most := by simp [isMostB] at hs; omega
      go_enter Try.func45, Try.ntmps45
      go_wp2_with (go_at_call 75; refine (put_err bw v _ l sp [] [] E 2 _ hW (SlB.nil _) (by decide)).mono ?_; rintro e w' ⟨rfl, hw⟩)
      first | (refine bodyPost_ret (results_none rfl _ _ _) rfl ?_; exact ⟨rfl, hw⟩) | skip
  · have hs' : isMostB most = true := by simpa using hs
    have hb : 0 ≤ most ∧ most ≤ 255 := by simpa [isMostB] using hs'
    obtain ⟨hb1, hb2⟩ := hb
    clear hs
    obtain ⟨k, rfl⟩ := Int.eq_ofNat_of_zero_le hb1
    have h00 : ¬ (k : Int) < 0 := by omega
    by_cases h0 : k < s.size
    · have hr : (fun l => textStep l s.data.toList k) = fun l => (l, 3) := by funext l; unfold textStep; rw [if_neg (by simp [hs']), if_pos (by omega)]
      rw [hr]
      have hq : (k : Int) < (s.size : Int) := by omega
      clear hr hsz h0
      go_enter Try.func45, Try.ntmps45
      go_wp2_with (go_at_call 75; refine (put_err bw v _ l sp [] [] E 3 _ hW (SlB.nil _) (by decide)).mono ?_; rintro e w' ⟨rfl, hw⟩)
      refine bodyPost_ret (results_none rfl _ _ _) rfl ?_
      exact ⟨rfl, hw⟩
    · have hr : (fun l => textStep l s.data.toList k) = fun l => addStep l (textBytes s.data.toList k) := by funext l; unfold textStep; rw [if_neg (by simp [hs']), if_neg (by omega)]; rfl
      rw [hr]
      have hq : ¬ (k : Int) < (s.size : Int) := by omega
      have hle : s.size ≤ k := by omega
      have hu8 : Value.int .u8 (s.size : Int) = bv (UInt8.ofNat s.data.toList.length) := by
        rw [← hsz]; simp [bv]; omega
      have HU := Lib.hid hu8
      have HS := Lib.hid hsz
      clear hr hsz h0 hu8
      go_enter Try.func45, Try.ntmps45
      go_wp2_with (at_builtin; refine wpList_append_src BT (OwnB.one HU.out) (src_string Try.underlying9 s _) (by simp <;> omega) rfl (.tmp 24) (.tmp 25) rfl rfl rfl ?_; intro a1 cap1 w1 sp1 o1 f1 b1)
      go_loopw [6] (RTextRel w s.data.toList k) (fun c _ => 1 + k - (match c with | .slice _ n _ => n | _ => 0))
      case atStart =>
        refine ⟨0, a1, _, cap1, sp1, by rw [← HS.out]; omega, rfl, by simp, by simpa using o1, ((Frm.refl _ _).alloc _).trans f1 (by simp [blk]), ?_⟩
        intro x hx
        rcases b1 x hx with h | h
        · simp [blk] at h; omega
        · simp at h; omega
      case round =>
        obtain ⟨j, a, len, cap, msp, hj, rfl, hlen, o2, f2, b2⟩ := hrel
        by_cases hlt : j + s.data.toList.length < k
        · have hq2 : (len : Int) < 1 + (k : Int) := by omega
          have HL := Lib.hid hlen
          clear hlen
          go_wp2_with (at_builtin; refine wpList_append_bytes BT (o2.keep ((Frm.refl [] _).alloc _) (by simp)) (OwnB.one (x := 0) rfl).sl (by simp <;> omega) rfl (.tmp 32) (.tmp 33) rfl rfl rfl ?_; intro a' cap' w2 sp' o3 f3 b3)
          have e9 : (UInt8.ofNat s.data.toList.length :: s.data.toList ++ List.replicate j 0).length + [(0 : UInt8)].length = s.size + j + 1 + 1 := by simp <;> omega
          rw [e9] at o3 b3
          refine ⟨⟨j + 1, a', _, cap', sp', by omega, rfl, ?_, ?_, (f2.alloc _).trans f3 (fun x hx => .inr (b2 x hx)), ?_⟩, ?_⟩
          · have := HS.out; omega
          · rw [List.replicate_succ', ← List.append_assoc]; exact o3
          · intro x hx
            rcases b3 x hx with h | h
            · exact b2 x h
            · have := f2.size; simp at h; omega
          · have := HL.out; have := HS.out; simp; omega
        · have hq2 : ¬ (len : Int) < 1 + (k : Int) := by omega
          have he : (UInt8.ofNat s.data.toList.length :: s.data.toList) ++ List.replicate j 0 = textBytes s.data.toList k := by
            unfold textBytes; rw [show k - s.data.toList.length = j by omega]; rfl
          have hx : bw ∉ blkR (.slice a len cap) := fun hm => by have h5 := b2 _ (blkR_sub hm); have h6 := hW.lt bw (by simp); omega
          rw [he] at o2
          have hp := Lib.hid (put_ok bw v _ l sp _ msp E wr (hW.keep f2 (by simp) (by simp)) o2.sl hx hl (by rw [textBytes_length _ _ (by omega)]; omega))
          clear hlen he
          go_wp2_with (go_at_call 75; refine hp.out.mono ?_; rintro e w2 ⟨rfl, hw⟩)
          go_end0
          exact ⟨rfl, hw.behind f2⟩
theorem RRaw_any (bw : Nat) (v x : Value) (l sp m msp : List UInt8) (E : Int) (w : World) (hW : Rw w bw v l sp E) (hS : SlB w x m msp) (hx : bw ∉ blkR x) (hl : l.length ≤ 65536) (hm : m.length ≤ 1000000) :
    Calls Try.prog 46 #[.pointer (some ⟨bw, 0, none⟩), x] w fun r w' => r = .returned (.tuple #[]) ∧ RwTo w bw v (wStep (l, E) (addStep · m)) w' := by
  obtain ⟨a, cap, rfl, _, _⟩ := hS.form
  have hp := Lib.hid (put_ok bw v _ l sp m msp E w hW hS hx hl hm)
  go_enter Try.func46, Try.ntmps46
  go_wp2_with (go_at_call 75; refine hp.out.mono ?_; rintro e w2 ⟨rfl, hw⟩)
  go_end0
  exact ⟨rfl, hw⟩
set_option maxRecDepth 100000 in
set_option maxHeartbeats 1000000 in
theorem RPad_any (bw : Nat) (v : Value) (l sp : List UInt8) (E to : Int) (w : World) (hW : Rw w bw v l sp E) (hl : l.length ≤ 65536) :
    Calls Try.prog 47 #[.pointer (some ⟨bw, 0, none⟩), .int .i64 to] w fun r w' => r = .returned (.tuple #[]) ∧ RwTo w bw v (wStep (l, E) (padStep · to)) w' := by
  have hW' := hW
  obtain ⟨h1, h2, h3⟩ := hW'
  obtain ⟨a, cap, rfl, hc1, hc2⟩ := h2.sl.form
  have c0 : w.cell? ⟨bw, 0, none⟩ = some (.slice a l.length cap) := by rw [cell_of_heap h1]; rfl
  clear h1
  by_cases hs : 65536 < to
  · have hr : wStep (l, E) (padStep · to) = wStep (l, E) fun l => (l, 2) := by simp [wStep, padStep, hs]
    rw [hr]
    clear hr
    go_enter Try.func47, Try.ntmps47
    go_wp2_with (go_at_call 75; refine (put_err bw _ _ l sp [] [] E 2 _ hW (SlB.nil _) (by decide)).mono ?_; rintro e w' ⟨rfl, hw⟩)
    refine bodyPost_ret (results_none rfl _ _ _) rfl ?_
    exact ⟨rfl, hw⟩
  · by_cases h2' : to < l.length
    · have hr : wStep (l, E) (padStep · to) = wStep (l, E) fun l => (l, 2) := by simp [wStep, padStep, h2']
      rw [hr]
      clear hr
      go_enter Try.func47, Try.ntmps47
      go_wp2_with (go_at_call 75; refine (put_err bw _ _ l sp [] [] E 2 _ hW (SlB.nil _) (by decide)).mono ?_; rintro e w' ⟨rfl, hw⟩)
      refine bodyPost_ret (results_none rfl _ _ _) rfl ?_
      exact ⟨rfl, hw⟩
    · obtain ⟨k, rfl⟩ := Int.eq_ofNat_of_zero_le (show 0 ≤ to by omega)
      have hr : wStep (l, E) (padStep · k) = wStep (l, E) (addStep · (List.replicate (k - l.length) 0)) := by simp [wStep, padStep, hs, h2']
      rw [hr]
      have hk1 : (k : Int) ≤ 65536 := by omega
      have hle : ¬ (k : Int) < (l.length : Int) := by omega
      clear hr hs h2'
      go_enter Try.func47, Try.ntmps47
      go_wp2_with (first | (at_make; refine wpList_make_bytes BT (k - l.length) (by omega) rfl (.tmp 24) (.tmp 24) rfl rfl rfl (by omega) (by omega) ?_; intro w1 o1 f1) | (go_at_call 75; refine (put_ok bw _ _ l sp _ [] E _ (hW.keep f1 (by simp) (by simp)) o1.sl (fun hm => by have h5 := hW.lt bw (by simp); have hm := blkR_sub hm; simp [blk] at hm; omega) hl (by simp <;> omega)).mono ?_; rintro e w' ⟨rfl, hw⟩))
      go_end0
      exact ⟨rfl, hw.behind f1⟩
set_option maxHeartbeats 1000000 in
theorem ROut_any (bw : Nat) (v : Value) (l sp : List UInt8) (e : Int) (w : World) (hW : Rw w bw v l sp e) (hl : l.length ≤ 65536) :
    Calls Try.prog 16 #[.pointer (some ⟨bw, 0, none⟩)] w fun r w' => Outs w l e r w' := by
  obtain ⟨h1, h2, h3⟩ := hW
  obtain ⟨a, cap, rfl, hc1, hc2⟩ := h2.sl.form
  have c0 : w.cell? ⟨bw, 0, none⟩ = some (.slice a l.length cap) := by rw [cell_of_heap h1]; rfl
  have c1 : w.cell? ⟨bw, 1, none⟩ = some (.int .i64 e) := by rw [cell_of_heap h1]; rfl
  have hlt := lt_heap h1
  have o0 : OwnB 5 (w.alloc (.cells #[] 5)) (.slice (some ⟨w.heap.size, 0, none⟩) 0 0) [] [] := OwnB.of_heap (heap_alloc_new _ _) rfl rfl (by simp)
  have f0 : Frm [] w (w.alloc (.cells #[] 5)) := (Frm.refl _ _).alloc _
  clear h1
  by_cases he : e = 0
  · subst he
    go_enter Try.func16, Try.ntmps16
    go_wp2_with (at_builtin; refine wpList_append_bytes BT o0 (h2.sl.keep f0 (by simp)) (by simp; omega) rfl (.tmp 13) (.tmp 17) rfl rfl rfl ?_; intro a' cap' w' sp' o1 f1 b1)
    go_ret2
    refine ⟨a', cap', sp', by simp [outB], by simpa [outB] using o1, f0.trans f1 (by simp [blk]), ?_⟩
    intro k hk
    rcases b1 k (by simpa [outB] using hk) with h | h
    · simp [blk] at h; omega
    · simp at h; omega
  · have hq : (e != 0) = true := by simpa using he
    have hE := Lib.hid he
    clear he
    go_enter Try.func16, Try.ntmps16
    go_wp2
    go_quiet (fail)
    go_wp2
    go_ret2
    exact ⟨none, 0, [], by simp [outB, hE.out], by simpa [outB, hE.out] using OwnB.nil _ _, (Frm.refl _ _).drewN _, by simp [Fresh, blk]⟩
end Go.Proofs.Ytappmjophnhdaaa
