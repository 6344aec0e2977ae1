/-
  Contract of the law's awake: it returns true; no conditions.
-/
import Derived.Test.YtappmjophnhdaaaX
namespace Go.Proofs.Ytappmjophnhdaaa
open Go.RowKit
set_option linter.unusedVariables false
set_option linter.unusedSimpArgs false

def aw1 : List Act0 := [⟨0, 258, 2, ByteArray.empty, []⟩, ⟨1, 0, 3, ⟨#[97, 98]⟩, []⟩, ⟨3, 0, 8, ByteArray.empty, []⟩]
theorem aw1_steps : steps aw1 ([], 0) = ([1, 2, 2, 97, 98, 0, 0, 0], 0) := by kernel_rfl
def awB : List UInt8 := [1, 2, 2, 97, 98, 0]
theorem aw_num : rNum awB (0, 0, 0) 2 0 999 = (258, 2, 0, 0) := by kernel_rfl
theorem aw_text : textRead awB 2 3 = .inr [97, 98] := by kernel_rfl
theorem aw_end : rEnd awB (6, 0, 0) = (0, 0) := by kernel_rfl
theorem actsOf {w : World} {B b : Nat} (xs : List Act0) (cs : List Value) (hB : b < B) (h : w.heap[b]? = some (.cells cs.toArray 34 (0, 0)))
    (hc : ∀ k (hk : k < xs.length), cs[k * 5]? = some (.int .i64 xs[k].kind) ∧ cs[k * 5 + 1]? = some (.int .i64 xs[k].n) ∧ cs[k * 5 + 2]? = some (.int .i64 xs[k].size) ∧ cs[k * 5 + 3]? = some (.string xs[k].s) ∧ ∃ a c msp, cs[k * 5 + 4]? = some (.slice a xs[k].m.length c) ∧
      SlB w (.slice a xs[k].m.length c) xs[k].m msp ∧ (∀ i ∈ blkR (.slice a xs[k].m.length c), i < B) ∧ xs[k].m.length ≤ 1000000 ∧ xs[k].n ≤ 9223372036854775807) (hbig : xs.length ≤ 1000000) (cap : Nat) :
    ActsAt B w (.slice (some ⟨b, 0, none⟩) xs.length cap) xs := by
  refine ⟨⟨_, _, rfl⟩, hbig, fun k hk => ?_⟩
  obtain ⟨h0, h1, h2, h3, a, c, msp, h4, h5, h6, h7, h8⟩ := hc k hk
  refine ⟨b, 0, a, c, msp, ⟨cap, rfl⟩, hB, ?_, ?_, ?_, ?_, ?_, h5, h6, h7, h8⟩
  all_goals (rw [cell_of_heap h, List.getElem?_toArray]; simpa using ‹_›)
theorem nilAct (w : World) : SlB w (.slice none ([] : List UInt8).length 0) [] [] := SlB.nil w
def awC : List Value := [.int .i64 0, .int .i64 258, .int .i64 2, .string ⟨#[]⟩, .slice none 0 0, .int .i64 1, .int .i64 0, .int .i64 3, .string ⟨#[97, 98]⟩, .slice none 0 0, .int .i64 3, .int .i64 0, .int .i64 8, .string ⟨#[]⟩, .slice none 0 0]
def awO : List UInt8 := [1, 2, 2, 97, 98, 0, 0, 0]
theorem aw_told (w : World) : Calls Try.prog 40 #[.slice (some ⟨w.heap.size, 0, none⟩) 3 3] (w.alloc (.cells awC.toArray 34)) fun r w' =>
    ∃ a cap sp', r = .returned (.tuple #[.slice a 8 cap, .int .i64 0]) ∧ OwnB 5 w' (.slice a 8 cap) awO sp' ∧ Frm [] (w.alloc (.cells awC.toArray 34)) w' := by
  have hA : ActsAt (w.alloc (.cells awC.toArray 34)).heap.size (w.alloc (.cells awC.toArray 34)) (.slice (some ⟨w.heap.size, 0, none⟩) aw1.length 3) aw1 := by
    refine actsOf aw1 awC (by simp) (heap_alloc_new _ _) (fun k hk => ?_) (by decide) 3
    match k, hk with
    | 0, _ => exact ⟨rfl, rfl, rfl, rfl, none, 0, [], rfl, nilAct _, by simp [blkR], by simp [aw1], by simp [aw1]⟩
    | 1, _ => exact ⟨rfl, rfl, rfl, rfl, none, 0, [], rfl, nilAct _, by simp [blkR], by simp [aw1], by simp [aw1]⟩
    | 2, _ => exact ⟨rfl, rfl, rfl, rfl, none, 0, [], rfl, nilAct _, by simp [blkR], by simp [aw1], by simp [aw1]⟩
  refine (told_any _ aw1 _ hA).mono ?_
  rw [aw1_steps]
  rintro r w' ⟨a, cap, sp', rfl, o1, f1, b1⟩
  exact ⟨a, cap, sp', rfl, o1, f1⟩
theorem lit_bytes (w : World) (l : List UInt8) (cs : Array Value) (hcs : cs = (bvs l).toArray) (hl : l.length ≤ 1000) : SlB (w.alloc (.cells cs 5)) (.slice (some ⟨w.heap.size, 0, none⟩) l.length l.length) l [] := by
  subst hcs
  exact (OwnB.of_heap (T := 5) (l := l) (sp := []) (w := w.alloc (.cells (bvs l).toArray 5)) (by rw [heap_alloc_new, List.append_nil]) rfl rfl (by simp [maxLen]; omega)).sl
set_option maxRecDepth 100000 in
set_option maxHeartbeats 4000000 in
theorem awake_any (w : World) : Calls Try.prog 12 #[] w fun r w' => r = .returned (.bool true) ∧ Frm [] w w' := by
  have hT := Lib.hid (aw_told w)
  have hn : (0 : Int) ≠ 1 := by decide
  go_enter Try.func12, Try.ntmps12
  go_wp2_with fail
  refine hT.out.mono ?_
  rintro r w1 ⟨a, cap, sp', rfl, o1, f1⟩
  have F1 : Frm [] w w1 := ((Frm.refl _ _).alloc _).trans f1 (by simp)
  clear f1 hT
  go_wp2_with fail
  refine (Open_any _ awB [] _ (lit_bytes w1 awB _ rfl (by decide)) (by decide)).mono ?_
  rintro r w2 ⟨br, a2, cap2, sp2, rfl, hr2, f2, hbr, hf2⟩
  have F2 : Frm [] w1 w2 := ((Frm.refl _ _).alloc _).trans f2 (by simp)
  have O2 := Lib.hid (o1.keep F2 (by simp))
  clear o1 f2
  go_wp2_with fail
  refine (Same_any _ _ awO _ awO [] _ (O2.out.sl.keep ((Frm.refl [] _).alloc _) (by simp)) (lit_bytes w2 awO _ rfl (by decide))).mono ?_
  rw [show (awO == awO) = true from by decide]
  rintro r w3 ⟨rfl, rfl⟩
  go_wp2_with fail
  refine (RNumR_any br _ awB sp2 (0, 0, 0) 2 0 999 _ (hr2.keep ((Frm.refl [] _).alloc _) (by simp) (by simp)) (by decide) (by decide)).mono ?_
  rw [aw_num]
  rintro r w4 ⟨rfl, hr4, f4⟩
  go_wp2_with fail
  refine (RTextR_ok br _ awB sp2 2 0 3 [97, 98] _ hr4 (by decide) (by decide) aw_text).mono ?_
  rintro r w5 ⟨rfl, hr5, f5⟩
  go_wp2_with fail
  refine (REnd_any br _ awB sp2 6 0 0 _ hr5 (by decide) (by decide)).mono ?_
  rw [aw_end]
  rintro r w6 ⟨rfl, f6⟩
  unfold flt
  go_wp2_with fail
  refine (RAt_any br _ awB sp2 (6 : Nat) 0 0 _ (Rd.keep (L := []) hr5 f6 (by simp) (by simp))).mono ?_
  rintro r w7 ⟨rfl, rfl⟩
  go_wp2_with fail
  go_ret
  refine ⟨rfl, ?_⟩
  have g1 := (F1.trans F2 (by simp)).alloc (.cells #[Value.int IntKind.u8 1, Value.int IntKind.u8 2, Value.int IntKind.u8 2, Value.int IntKind.u8 97, Value.int IntKind.u8 98, Value.int IntKind.u8 0, Value.int IntKind.u8 0, Value.int IntKind.u8 0] 5)
  have hb : w.heap.size ≤ br := Nat.le_trans (by have := F1.size; simp; omega) hbr
  exact ((g1.trans f4 (by simp [hb])).trans f5 (by simp [hb])).trans f6 (by simp)
end Go.Proofs.Ytappmjophnhdaaa
