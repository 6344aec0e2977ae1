/-
  Contracts of Apart, within, May, Less, at, of, long. No conditions but those that each theorem names.
-/
import Derived.Test.YtpgekoicbceliaaCH
import Derived.Test.YtpgekoicbceliaaPB
namespace Go.Proofs.Ytpgekoicbceliaa
open Go.RowKit Go.Sort Go.Maps
set_option linter.unusedVariables false
set_option linter.unusedSimpArgs false
set_option maxRecDepth 100000

/-- The keys of a map of numbers are those of a list; how many there are. -/
def SetI (w : World) (b n : Nat) (ds : List Int) : Prop := ∃ D : DataW Unit, w.ownsMap Try.prog 3 unitElem b n D ∧ (∀ d ∈ ds, (Lit.int .i64 d).wf = true) ∧ (∀ d, (Lit.int .i64 d).wf = true → (Maps.has D (.int .i64 d) = true ↔ d ∈ ds)) ∧ Maps.size D = dst ds.reverse
theorem law3 : Keyed Try.prog 3 := int_keyed Try.underlying3
theorem SetI.keep {w w' : World} {b n : Nat} {ds : List Int} {L : List Nat} (h : SetI w b n ds) (f : Frm L w w') (hb : b ∉ L) : SetI w' b n ds := by
  obtain ⟨D, h1, h2⟩ := h
  exact ⟨D, ownsMap_frm h1 f hb, h2⟩
def ApRel (l : List Ad) (b : Nat) (w0 : World) (cv : Value) (wr : World) : Prop := ∃ k : Nat, k ≤ l.length ∧ cv = .int .i64 k ∧ SetI wr b k (devs (l.take k)) ∧ Frm [b] w0 wr
set_option maxHeartbeats 1000000 in
theorem Apart_any (v : Value) (l sp : List Ad) (w : World) (hS : SlA w v l sp) (hl : l.length ≤ 1000) (hw : ∀ x ∈ l, WfA x) :
    Calls Try.prog 30 #[v] w fun e w' => e = .returned (.bool (apB l)) ∧ Frm [] w w' := by
  obtain ⟨a, cap, rfl, _, _⟩ := hS.form
  have hl9 : ((l.length : Nat) : Int) ≤ 1000 := by omega
  have hmm := @run_makeMap Try.prog
  have HL := Lib.hid hl
  have HS := Lib.hid hS
  have HW := Lib.hid hw
  clear hl hS hw
  go_enter Try.func30, Try.ntmps30
  go_wp2_with fail
  generalize hw2 : w.alloc (.map #[] 0) = w2
  have h2 : SetI w2 w.heap.size 0 [] := ⟨.map [], by rw [← hw2]; exact World.ownsMap_made w Try.prog 3 unitElem, by simp, fun d _ => by simp [Maps.has], by simp [Maps.size, dst]⟩
  have f2 : Frm [] w w2 := by rw [← hw2]; exact (Frm.refl [] w).alloc _
  clear hw2
  obtain ⟨b, hb⟩ : ∃ b, w.heap.size = b := ⟨_, rfl⟩
  rw [hb] at h2 ⊢
  have HB := Lib.hid hb
  have H2 := Lib.hid h2
  have F2 := Lib.hid f2
  clear hb h2 f2 hmm
  go_loopw [9] (ApRel l b w2) (fun cv _ => l.length - (intOf cv).toNat)
  case atStart => exact ⟨0, by omega, rfl, by simpa [devs] using H2.out, Frm.refl _ _⟩
  case round =>
    obtain ⟨k, hk, rfl, h, f⟩ := hrel
    by_cases hlt : k < l.length
    · obtain ⟨b0, off, rfl⟩ := HS.out.at (by omega)
      have hs2 := (HS.out.keep F2.out (by simp)).keep f (fun i hi => by have := HS.out.blk_lt (by omega) i hi; have := HB.out; simp; omega)
      obtain ⟨c0, c1⟩ := hs2.cells k hlt
      have hwx := HW.out l[k] (List.getElem_mem _)
      have hts := devs_take_succ l k hlt
      generalize hx : l[k] = x at *
      obtain ⟨D, hown, hwf, hD, hsz⟩ := h
      have hwd : (Lit.int .i64 x.1).wf = true := (wf_iff _).2 hwx.1
      have hkey : keyOf Try.prog 3 (.int .i64 x.1) = some (.int .i64 x.1) := Maps.keyOf_int_mk Try.underlying3 hwd
      have HO := Lib.hid hown
      have HT := Lib.hid hts
      have HF := Lib.hid hwf
      have HD := Lib.hid hD
      have HZ := Lib.hid hsz
      have HK := Lib.hid hkey
      have WD := Lib.hid hwd
      have F := Lib.hid f
      clear hx hown hwf hD hsz hkey hwd f hs2 hwx hts
      go_wp2_with (at_mapUpdate; refine wpList_mapUpdate_in _ rfl _ _ _ 50 rfl 3 51 law3 Try.underlying50 unitElem b k D rfl (HO.out.alloc _) (by unfold maxLen; omega) _ _ _ rfl rfl HK.out _ [] unitElem_mk ?_; intro w3 hown3 hturn3)
      have s3 : SetI w3 b (k + 1) (devs (l.take (k + 1))) := ⟨_, hown3, fun d hd => by
          rw [HT.out] at hd
          rcases List.mem_append.1 hd with h | h
          · exact HF.out d h
          · simp at h; subst h; exact WD.out, fun d hd => by
          rw [HT.out]
          by_cases e : d = x.1
          · subst e; simp [Maps.has_put_same HO.out.isMap (show WideAt.IsKeyLit (.int .i64 x.1) from trivial)]
          · rw [Maps.has_put_other (fun e1 => e (by simpa using e1)), HD.out d hd]; simp [e], by
          rw [Maps.size_put (HO.out.tidy law3), HT.out, HZ.out]
          simp only [List.reverse_append, List.reverse_cons, List.reverse_nil, List.nil_append, List.singleton_append, dst, List.mem_reverse]
          by_cases e : x.1 ∈ devs (l.take k)
          · rw [if_pos ((HD.out _ WD.out).2 e), if_pos e]
          · have : ¬ Maps.has D (.int .i64 x.1) = true := fun h => e ((HD.out _ WD.out).1 h)
            rw [if_neg this, if_neg e]⟩
      have f3 : Frm [b] w2 w3 := (F.out.alloc _).trans (Frm.of_grown hturn3.grown (L := [b]) (by simp)) (by simp)
      have S3 := Lib.hid s3
      have F3 := Lib.hid f3
      clear s3 f3 hown3 hturn3
      refine ⟨⟨k + 1, by omega, by go_num, S3.out, F3.out⟩, ?_⟩
      simp [intOf]; omega
    · obtain rfl : k = l.length := by omega
      obtain ⟨D, hown, hwf, hD, hsz⟩ := h
      rw [nodup_all] at hsz
      have HO := Lib.hid hown
      have HZ := Lib.hid hsz
      have F := Lib.hid (F2.out.trans f (fun i hi => by simp at hi; have := HB.out; omega))
      clear hown hwf hD hsz f
      go_wp2_with (at_len; refine wpList_len_own _ rfl _ 50 rfl 3 51 Try.underlying50 unitElem b l.length D rfl HO.out ?_)
      go_ret
      refine ⟨ret_bool ?_, F.out⟩
      rw [HZ.out, ← apB_dst]
      rw [Bool.eq_iff_iff]
      simp only [beq_iff_eq]
      omega
end Go.Proofs.Ytpgekoicbceliaa
