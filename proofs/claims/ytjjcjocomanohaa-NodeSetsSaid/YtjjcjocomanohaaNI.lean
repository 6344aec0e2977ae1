/-
  Contract of Pack of nodes. No conditions but those that each theorem names.
-/
import Derived.Test.YtjjcjocomanohaaNH
namespace Go.Proofs.Ytjjcjocomanohaa
open Go.RowKit
set_option linter.unusedVariables false
set_option linter.unusedSimpArgs false
set_option maxRecDepth 100000

def packB (n : Nd) : List UInt8 := if nodeB n = true then secB n else []
/-- What Pack tells: bytes of its own, in a block of whatever type of bytes. -/
def PackP (T : TypeId) (n : Nd) (w : World) (e : Ending) (w' : World) : Prop := ∃ a cap sp, e = .returned (.tuple #[.slice a (packB n).length cap, .int .i64 (nchk n)]) ∧ OwnB T w' (.slice a (packB n).length cap) (packB n) sp ∧ Frm [] w w' ∧ ∀ i ∈ blk (.slice a (packB n).length cap), w.heap.size ≤ i
theorem nchk_cases (n : Nd) : (nodeB n = true ∧ nchk n = 0) ∨ (nodeB n = false ∧ nchk n = 2) := by
  cases h : nodeB n with
  | true => exact .inl ⟨rfl, by simp [nchk, h]⟩
  | false => exact .inr ⟨rfl, by simp [nchk, h]⟩
set_option maxHeartbeats 4000000 in
theorem Pack_any (x : Value) (n : Nd) (w : World) (hn : NdV w x n) (hl : ∀ p ∈ n.ps, p.ads.length ≤ 1000000) : Calls Try.prog 37 #[x] w (PackP 74 n w) := by
  have HC := Lib.hid (fun W (f : Frm [] w W) => nodeCheck_any x n W (hn.keep0 f) hl)
  have HS := Lib.hid (fun (hb : nodeB n = true) W (f : Frm [] w W) => sectorOf_any x n W (hn.keep0 f) hb)
  have hln : nodeB n = true → (secB n).length = 256 := fun hb => by
    obtain ⟨n1, n3, hst⟩ := nodeB_parts hb
    obtain ⟨As, _, hps⟩ := hn
    rw [← secK_four hps.2.1]
    exact secK_length (fun p hp => enc_len (stand_may (hst p hp)) (hps.lens p hp)) hps.2.1 4 (by omega)
  obtain ⟨N, rfl, hN, As, hps, hb⟩ := hn.box
  have b0 := hb w
  have f0 : Frm [] w (w.alloc (.cells N 51)) := (Frm.refl [] w).alloc _
  clear hb hn hl hps
  rcases nchk_cases n with ⟨hb, hc⟩ | ⟨hb, hc⟩
  · have HLN := Lib.hid (hln hb)
    have HPB := Lib.hid (show packB n = secB n by simp [packB, hb])
    have HS2 := Lib.hid (HS.out hb)
    have HCC := Lib.hid hc
    rw [hc] at HC
    clear hb hc HS hln
    go_enter Try.func37, Try.ntmps37
    go_upto_region 1 with (fail)
    generalize w.alloc (.cells N 51) = W at *
    have B0 := Lib.hid b0
    have F0 := Lib.hid f0
    clear b0 f0
    go_upto_region 5 with (first
      | ((with_reducible (show wpList _ _ _ (Oper.mk (some 6) (Op.load 51 _) _ _ _ _ :: _) _ _)); refine wpList_load_g (by rfl) 51 _ rfl _ rfl B0.out.load ?_)
      | ((with_reducible (show wpList _ _ _ (Oper.mk (some 11) (Op.load 51 _) _ _ _ _ :: _) _ _)); refine wpList_load_g (by rfl) 51 _ rfl _ rfl (B0.out.keep0 f1).load ?_)
      | (go_at_call 39; refine (HC.out _ F0.out).mono ?_; rintro r w1 ⟨rfl, f1⟩)
      | (go_at_call 63; refine (HS2.out _ (F0.out.trans f1 (by simp))).mono ?_; rintro r w2 ⟨rfl, f2⟩)
      | ((with_reducible (show wpList _ _ _ (Oper.mk _ (Op.alloc 74) _ _ _ _ :: _) _ _)); refine wpList_lay74 rfl rfl rfl (.tmp 5) (.tmp 12) rfl HLN.out rfl rfl ?_))
    have hSB : SB (w2.alloc (.cells (bvs (secB n)).toArray 74)) w2.heap.size (secB n) := heap_alloc_new _ _
    have F2 := Lib.hid ((F0.out.trans f1 (by simp)).trans (f2.alloc (.cells (bvs (secB n)).toArray 74)) (by simp))
    have hsz : w.heap.size ≤ w2.heap.size := ((F0.out.trans f1 (by simp)).trans f2 (by simp)).size
    generalize w2.alloc (.cells (bvs (secB n)).toArray 74) = V at *
    generalize w2.heap.size = g at *
    have hsl := sl74all g
    have HSB := Lib.hid hSB
    clear f1 f2 hSB
    go_wp2_with fail
    go_ret2
    refine ⟨some ⟨g, 0, none⟩, 256, [], by rw [HPB.out, HLN.out, HCC.out]; rfl, by rw [HPB.out]; exact OwnB.of_heap (by rw [List.append_nil]; exact HSB.out) rfl (by rw [HLN.out]; rfl) (by simp [maxLen]), F2.out, fun i hi => by rw [HPB.out] at hi; simp [blk] at hi; omega⟩
  · have HPB := Lib.hid (show packB n = [] by simp [packB, hb])
    have HCC := Lib.hid hc
    rw [hc] at HC
    clear hb hc HS hln
    go_enter Try.func37, Try.ntmps37
    go_upto_region 1 with (fail)
    generalize w.alloc (.cells N 51) = W at *
    have B0 := Lib.hid b0
    have F0 := Lib.hid f0
    clear b0 f0
    go_wp2_with (first
      | ((with_reducible (show wpList _ _ _ (Oper.mk (some 6) (Op.load 51 _) _ _ _ _ :: _) _ _)); refine wpList_load_g (by rfl) 51 _ rfl _ rfl B0.out.load ?_)
      | (go_at_call 39; refine (HC.out _ F0.out).mono ?_; rintro r w1 ⟨rfl, f1⟩))
    go_ret2
    refine ⟨none, 0, [], by rw [HPB.out, HCC.out]; rfl, by rw [HPB.out]; exact OwnB.nil 74 _, F0.out.trans f1 (by simp), fun i hi => by rw [HPB.out] at hi; simp [blk] at hi⟩
end Go.Proofs.Ytjjcjocomanohaa
