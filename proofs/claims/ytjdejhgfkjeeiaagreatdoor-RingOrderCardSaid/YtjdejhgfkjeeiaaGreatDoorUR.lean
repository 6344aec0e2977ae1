/-
  The block of bytes that are read step by step; the contract of demand. No conditions but those that each theorem names.
-/
import Derived.Test.YtjdejhgfkjeeiaaGreatDoorUA
import Derived.Test.YtjdejhgfkjeeiaaGreatDoorUJ
import Derived.Test.YtjdejhgfkjeeiaaGreatDoorFB
namespace Go.Proofs.YtjdejhgfkjeeiaaGreatDoor
open Go.RowKit
set_option linter.unusedVariables false
set_option linter.unusedSimpArgs false
set_option maxRecDepth 100000

open Pt (Pt may enc readPt readE zeroPt pc pv PtV SlA OwnA)
/-- The three sentinels. -/
structure Sens (w : World) (s0 s1 s2 : Addr) : Prop where
  v0 : w.cell? ⟨0, 0, none⟩ = some (.iface 212 (.pointer (some s0)))
  v1 : w.cell? ⟨1, 0, none⟩ = some (.iface 212 (.pointer (some s1)))
  v2 : w.cell? ⟨2, 0, none⟩ = some (.iface 212 (.pointer (some s2)))
  h0 : ∃ c t, w.heap[s0.block]? = some (.cells c t (0, 0))
  h1 : ∃ c t, w.heap[s1.block]? = some (.cells c t (0, 0))
  h2 : ∃ c t, w.heap[s2.block]? = some (.cells c t (0, 0))
  n01 : s0 ≠ s1
  n02 : s0 ≠ s2
  n12 : s1 ≠ s2
theorem Sens.keep0 {w w' : World} {s0 s1 s2 : Addr} (h : Sens w s0 s1 s2) (f : Frm [] w w') : Sens w' s0 s1 s2 := by
  obtain ⟨v0, v1, v2, ⟨c0, t0, h0⟩, ⟨c1, t1, h1⟩, ⟨c2, t2, h2⟩, n01, n02, n12⟩ := h
  exact ⟨f.cell v0 (by simp), f.cell v1 (by simp), f.cell v2 (by simp), ⟨c0, t0, f.heap h0 (by simp)⟩, ⟨c1, t1, f.heap h1 (by simp)⟩, ⟨c2, t2, f.heap h2 (by simp)⟩, n01, n02, n12⟩
/-- The cells of bytes that are read step by step. -/
def rcs (n : Int) (S : List UInt8) (br : Nat) (v : Value) (u : Ub) (E : Value) : List Value := .int .i64 n :: (bvs S ++ (.pointer (some ⟨br, 0, none⟩) :: (uc v u ++ [E])))
/-- How the reading stands: its block, its reader, what it has read, what is wrong. -/
structure RG (w0 w : World) (g : Nat) (n : Int) (S : List UInt8) (br : Nat) (rv : Value) (rsp : List UInt8) (st : Nat × Int × Int) (v : Value) (u : Ub) (E : Value) (L : List Addr) : Prop where
  blk : Blk w g 95 (rcs n S br v u E)
  len : S.length = 256
  wf : WfU u
  rd : Rd w br rv (S.take 224) rsp st.1 st.2.1 st.2.2
  rgr : g ≠ br
  rgb : g ∉ Proofs.YtjdejhgfkjeeiaaGreatDoor.blk rv
  ptv : ∃ a cap sp, v = .slice a u.root.ads.length cap ∧ OwnA 47 w v u.root.ads sp
  vb : ∀ i ∈ Proofs.YtjdejhgfkjeeiaaGreatDoor.blk v, i ≠ g ∧ i ≠ br ∧ i ∉ Proofs.YtjdejhgfkjeeiaaGreatDoor.blk rv ∧ w0.heap.size ≤ i
  err : (E = .nilIface ∧ L = []) ∨ ErrT w [g, br] E L
  frm : Frm [] w0 w
  lo : w0.heap.size ≤ g ∧ w0.heap.size ≤ br ∧ ∀ i ∈ Proofs.YtjdejhgfkjeeiaaGreatDoor.blk rv, w0.heap.size ≤ i
/-- How it stands, whatever lies where. -/
def St (w0 : World) (g : Nat) (n : Int) (S : List UInt8) (br : Nat) (rv : Value) (rsp : List UInt8) (st : Nat × Int × Int) (u : Ub) (L : List Addr) (w : World) : Prop := ∃ v E, RG w0 w g n S br rv rsp st v u E L
section
variable {w0 w w' : World} {g : Nat} {n : Int} {S : List UInt8} {br : Nat} {rv : Value} {rsp : List UInt8} {st : Nat × Int × Int} {v : Value} {u : Ub} {E : Value} {L : List Addr}
theorem rcs_S (n : Int) (S : List UInt8) (br : Nat) (v : Value) (u : Ub) (E : Value) : rcs n S br v u E = [.int .i64 n] ++ (bvs S ++ (.pointer (some ⟨br, 0, none⟩) :: (uc v u ++ [E]))) := rfl
theorem rcs_f (n : Int) (S : List UInt8) (br : Nat) (v : Value) (u : Ub) (E : Value) : rcs n S br v u E = (.int .i64 n :: bvs S) ++ (.pointer (some ⟨br, 0, none⟩) :: (uc v u ++ [E])) := rfl
theorem rcs_u (n : Int) (S : List UInt8) (br : Nat) (v : Value) (u : Ub) (E : Value) : rcs n S br v u E = (.int .i64 n :: (bvs S ++ [.pointer (some ⟨br, 0, none⟩)])) ++ (uc v u ++ [E]) := by simp [rcs]
theorem rcs_t (n : Int) (S : List UInt8) (br : Nat) (v : Value) (u : Ub) (E : Value) : rcs n S br v u E = (.int .i64 n :: (bvs S ++ [.pointer (some ⟨br, 0, none⟩)])) ++ (.int .i64 u.txg :: (pc v u.root.b u.root.l u.root.s ++ (.int .i64 u.len :: (bvs u.pool ++ [E])))) := by simp [rcs, uc]
theorem rcs_r (n : Int) (S : List UInt8) (br : Nat) (v : Value) (u : Ub) (E : Value) : rcs n S br v u E = (.int .i64 n :: (bvs S ++ [.pointer (some ⟨br, 0, none⟩), .int .i64 u.txg])) ++ (pc v u.root.b u.root.l u.root.s ++ (.int .i64 u.len :: (bvs u.pool ++ [E]))) := by simp [rcs, uc]
theorem rcs_l (n : Int) (S : List UInt8) (br : Nat) (v : Value) (u : Ub) (E : Value) : rcs n S br v u E = (.int .i64 n :: (bvs S ++ (.pointer (some ⟨br, 0, none⟩) :: .int .i64 u.txg :: pc v u.root.b u.root.l u.root.s))) ++ (.int .i64 u.len :: (bvs u.pool ++ [E])) := by simp [rcs, uc]
theorem rcs_p (n : Int) (S : List UInt8) (br : Nat) (v : Value) (u : Ub) (E : Value) : rcs n S br v u E = (.int .i64 n :: (bvs S ++ (.pointer (some ⟨br, 0, none⟩) :: .int .i64 u.txg :: (pc v u.root.b u.root.l u.root.s ++ [.int .i64 u.len])))) ++ (bvs u.pool ++ [E]) := by simp [rcs, uc]
theorem rcs_w (n : Int) (S : List UInt8) (br : Nat) (v : Value) (u : Ub) (E : Value) : rcs n S br v u E = (.int .i64 n :: (bvs S ++ (.pointer (some ⟨br, 0, none⟩) :: uc v u))) ++ [E] := by simp [rcs]
theorem rcs_length (h : S.length = 256) (hw : WfU u) : (rcs n S br v u E).length = 328 := by simp [rcs, bvs_length, h, uc_length hw]
theorem RG.size (h : RG w0 w g n S br rv rsp st v u E L) : w.cell? ⟨g, 0, none⟩ = some (.int .i64 n) := h.blk.cell 0 rfl
theorem RG.fld (h : RG w0 w g n S br rv rsp st v u E L) : w.cell? ⟨g, 257, none⟩ = some (.pointer (some ⟨br, 0, none⟩)) := by
  refine h.blk.cell 257 ?_
  rw [rcs_f, List.getElem?_append_right (by simp [bvs_length, h.len])]
  simp [bvs_length, h.len]
theorem RG.wrong (h : RG w0 w g n S br rv rsp st v u E L) : w.cell? ⟨g, 327, none⟩ = some E := by
  refine h.blk.cell 327 ?_
  rw [rcs_w, List.getElem?_append_right (by simp [bvs_length, h.len, uc_length h.wf])]
  simp [bvs_length, h.len, uc_length h.wf]
theorem RG.sector (h : RG w0 w g n S br rv rsp st v u E L) : (Instr.loadAt 90 (.pointer (some ⟨g, 1, none⟩))).run Tryz.prog w = .ok (idv S) w := by
  have hb := h.blk
  rw [rcs_S] at hb
  exact hb.load rfl (by kernel_rfl) (by rw [show (Tryz.prog.info? 90).map (·.size) = some 256 by kernel_rfl, bvs_length, h.len])
theorem RG.uber (h : RG w0 w g n S br rv rsp st v u E L) : (Instr.loadAt 28 (.pointer (some ⟨g, 258, none⟩))).run Tryz.prog w = .ok (uv v u) w := by
  have hb := h.blk
  rw [rcs_u] at hb
  exact hb.load (by simp [bvs_length, h.len]) d28 (by rw [i28, uc_length h.wf])
theorem RG.ubv (h : RG w0 w g n S br rv rsp st v u E L) : UbV w (uv v u) u := by
  obtain ⟨a, cap, sp, rfl, hs⟩ := h.ptv
  exact ⟨a, cap, sp, rfl, hs.sl, h.wf⟩
theorem RG.bytes (h : RG w0 w g n S br rv rsp st v u E L) (lo hi : Nat) (h1 : lo ≤ hi) (h2 : hi ≤ 256) : SlB w (.slice (some ⟨g, 1 + lo, none⟩) (hi - lo) (256 - lo)) ((S.drop lo).take (hi - lo)) (S.drop hi) := by
  have hl := h.len
  have hlen : ((S.drop lo).take (hi - lo)).length = hi - lo := by simp; omega
  refine ⟨by rw [bvs_length, hlen, Nat.mul_one], .inr (.inr ⟨g, 1 + lo, 256 - lo, by rw [hlen], by omega, by simp only [maxLen]; omega, ?_, fun i x hx => ?_⟩)⟩
  · rw [← bvs_append, bvs_length]; simp; omega
  · have e : (S.drop lo).take (hi - lo) ++ S.drop hi = S.drop lo := by
      rw [show S.drop hi = (S.drop lo).drop (hi - lo) by rw [List.drop_drop, show lo + (hi - lo) = hi by omega], List.take_append_drop]
    rw [← bvs_append, e] at hx
    have hi' : i < (bvs (S.drop lo)).length := (List.getElem?_eq_some_iff.1 hx).1
    refine h.blk.cell _ ?_
    rw [rcs_S, Nat.add_assoc, List.getElem?_append_right (by simp), show 1 + (lo + i) - [Value.int IntKind.i64 n].length = lo + i by simp]
    rw [bvs_length] at hi'
    rw [List.getElem?_append_left (by rw [bvs_length]; simp at hi'; omega)]
    unfold bvs at hx ⊢
    rw [List.getElem?_map] at hx ⊢
    rw [List.getElem?_drop] at hx
    exact hx
theorem RG.lt (h : RG w0 w g n S br rv rsp st v u E L) : g < w.heap.size := h.blk.lt
/-- Behind what leaves old memory as it was. -/
theorem RG.keep0 (h : RG w0 w g n S br rv rsp st v u E L) (f : Frm [] w w') : RG w0 w' g n S br rv rsp st v u E L := by
  obtain ⟨a, cap, sp, e, hs⟩ := h.ptv
  exact ⟨h.blk.keep0 f, h.len, h.wf, h.rd.keep f (by simp) (by simp), h.rgr, h.rgb, ⟨a, cap, sp, e, hs.keep f (by simp)⟩, h.vb, h.err.imp id (fun k => k.keep0 f), h.frm.trans f (by simp), h.lo⟩
/-- Behind what its reader did. -/
theorem RG.read {st' : Nat × Int × Int} (h : RG w0 w g n S br rv rsp st v u E L) (f : RdTo w br rv (S.take 224) rsp st' w') : RG w0 w' g n S br rv rsp st' v u E L := by
  obtain ⟨a, cap, sp, e, hs⟩ := h.ptv
  obtain ⟨hr, ff⟩ := f
  refine ⟨h.blk.keep ff (by simpa using h.rgr), h.len, h.wf, hr, h.rgr, h.rgb, ⟨a, cap, sp, e, hs.keep ff (fun i hi => by simpa using (h.vb i hi).2.1)⟩, h.vb, h.err.imp id (fun k => k.keep (ff.mono (by simp))), h.frm.trans ff (fun i hi => .inr (by simp at hi; subst hi; exact h.lo.2.1)), h.lo⟩
/-- Behind what is written into its block. -/
theorem RG.put {u' : Ub} {v' E' : Value} {L' : List Addr} (h : RG w0 w g n S br rv rsp st v u E L) (f : Frm [g] w w') (hb : Blk w' g 95 (rcs n S br v' u' E')) (hw : WfU u')
    (hp : ∃ a cap sp, v' = .slice a u'.root.ads.length cap ∧ OwnA 47 w v' u'.root.ads sp) (hv : ∀ i ∈ Proofs.YtjdejhgfkjeeiaaGreatDoor.blk v', i ≠ g ∧ i ≠ br ∧ i ∉ Proofs.YtjdejhgfkjeeiaaGreatDoor.blk rv ∧ w0.heap.size ≤ i) (he : (E' = .nilIface ∧ L' = []) ∨ ErrT w [g, br] E' L') : RG w0 w' g n S br rv rsp st v' u' E' L' := by
  obtain ⟨a, cap, sp, e, hs⟩ := hp
  refine ⟨hb, h.len, hw, h.rd.keep f (by simpa using fun e => h.rgr e.symm) (fun k hk => by simp only [List.mem_singleton]; rintro rfl; exact h.rgb hk), h.rgr, h.rgb, ⟨a, cap, sp, e, hs.keep f (fun i hi => by simpa using (hv i hi).1)⟩, hv, he.imp id (fun k => k.keep (f.mono (by simp))), h.frm.trans f (fun i hi => .inr (by simp at hi; subst hi; exact h.lo.1)), h.lo⟩
end
end Go.Proofs.YtjdejhgfkjeeiaaGreatDoor
