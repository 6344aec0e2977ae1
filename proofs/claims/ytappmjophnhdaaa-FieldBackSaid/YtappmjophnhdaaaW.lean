/-
  Contract of the law's write; no conditions but those that the theorem names.
-/
import Derived.Test.YtappmjophnhdaaaV
namespace Go.Proofs.Ytappmjophnhdaaa
open Go.RowKit
set_option linter.unusedVariables false
set_option linter.unusedSimpArgs false

/-- Something that is written, as a value; what it does to bytes and an error. -/
structure Act0 where
  kind : Int
  n : Int
  size : Int
  s : ByteArray
  m : List UInt8
def Act0.step (x : Act0) (st : List UInt8 × Int) : List UInt8 × Int :=
  if x.kind = 0 then wStep st (numStep · x.n x.size) else if x.kind = 1 then wStep st (textStep · x.s.data.toList x.size) else
  if x.kind = 2 then wStep st (addStep · x.m) else if x.kind = 3 then wStep st (padStep · x.size) else st
/-- The value of an act, and that it can be read. -/
def ActV (w : World) (x : Act0) (val : Value) : Prop :=
  ∃ a cap msp, val = .agg #[.int .i64 x.kind, .int .i64 x.n, .int .i64 x.size, .string x.s, .slice a x.m.length cap] ∧ SlB w (.slice a x.m.length cap) x.m msp ∧ x.n ≤ 9223372036854775807
/-- Which blocks an act leads to. -/
def blkA : Value → List Nat
  | .agg cs => blkR (cs.getD 4 .nilFunc)
  | _ => []
def WrTo2 (w : World) (bw : Nat) (v : Value) (s : List UInt8 × Int) (w' : World) : Prop := WrTo w bw v s.1 s.2 w'
theorem WrTo.ahead {w w1 w2 w3 : World} {bw : Nat} {v : Value} {l : List UInt8} {e : Int} {L : List Nat} (f1 : Frm [] w w1) (h : WrTo w1 bw v l e w2) (f3 : Frm L w2 w3) (hL : ∀ k ∈ L, w.heap.size ≤ k ∧ k < w1.heap.size) (hv : ∀ k ∈ bw :: blk v, k < w.heap.size) : WrTo w bw v l e w3 := by
  obtain ⟨v', sp', h1, h2, h3⟩ := h
  refine ⟨v', sp', h1.keep f3 (fun hm => ?_) (fun k hk hm => ?_), ((f1.mono (by simp)).trans h2 (fun i hi => .inl hi)).trans f3 (fun i hi => .inr (hL i hi).1), fun i hi => (h3 i hi).imp id (fun h => Nat.le_trans f1.size h)⟩
  · have := hL _ hm; have := hv bw (by simp); omega
  · have h4 := hL _ hm
    rcases h3 k hk with h5 | h5
    · have := hv k (List.mem_cons_of_mem _ h5); omega
    · omega
set_option maxRecDepth 100000 in
set_option maxHeartbeats 2000000 in
theorem write_any (bw : Nat) (v val : Value) (l sp : List UInt8) (e : Int) (x : Act0) (w : World) (hW : Wr w bw v l sp e) (hl : l.length ≤ 65536) (hx : ActV w x val) (hm : x.m.length ≤ 1000000) (hd : ∀ k ∈ blkA val, k ∉ bw :: blk v) :
    Calls Try.prog 13 #[.pointer (some ⟨bw, 0, none⟩), val] w fun r w' => r = .returned (.bool true) ∧ WrTo2 w bw v (x.step (l, e)) w' := by
  obtain ⟨kind, n, size, s, m⟩ := x
  obtain ⟨a, cap, msp, rfl, hS, hn⟩ := hx
  simp only at hS hn hm
  have hlt := hW.lt
  have HL := Lib.hid hlt
  have HD := Lib.hid hd
  clear hlt hd
  have f0 : ∀ o, Frm [] w (w.alloc o) := fun o => (Frm.refl _ _).alloc o
  have HF := Lib.hid f0
  clear f0
  by_cases k0 : kind = 0
  · subst k0
    have hr : Act0.step ⟨0, n, size, s, m⟩ (l, e) = wStep (l, e) (numStep · n size) := by simp [Act0.step]
    rw [hr]
    clear hr
    go_enter Try.func13, Try.ntmps13
    go_wp2_with (go_at_call 41; refine (Num_any bw v l sp e n size _ (hW.keep (HF.out _) (by simp) (by simp)) hl hn).mono ?_; rintro r w' ⟨rfl, h⟩)
    go_ret
    exact ⟨rfl, h.behind (HF.out _)⟩
  by_cases k1 : kind = 1
  · subst k1
    have hr : Act0.step ⟨1, n, size, s, m⟩ (l, e) = wStep (l, e) (textStep · s.data.toList size) := by simp [Act0.step]
    rw [hr]
    clear hr
    go_enter Try.func13, Try.ntmps13
    go_wp2_with (go_at_call 42; refine (Text_any bw v l sp e size s _ (hW.keep (HF.out _) (by simp) (by simp)) hl).mono ?_; rintro r w' ⟨rfl, h⟩)
    go_ret
    exact ⟨rfl, h.behind (HF.out _)⟩
  by_cases k2 : kind = 2
  · subst k2
    have hr : Act0.step ⟨2, n, size, s, m⟩ (l, e) = wStep (l, e) (addStep · m) := by simp [Act0.step]
    rw [hr]
    clear hr
    go_enter Try.func13, Try.ntmps13
    have cB : (w.alloc (.cells #[.int .i64 2, .int .i64 n, .int .i64 size, .string s, .slice a m.length cap] 34)).cell? ⟨w.heap.size, 4, none⟩ = some (.slice a m.length cap) := by simp
    have CB := Lib.hid cB
    clear cB
    go_wp2_with fail
    refine (Lent_any _ m msp _ (hS.keep (HF.out _) (by simp)) hm).mono ?_
    rintro r w1 ⟨rfl, o1, f1⟩
    have F1 := (HF.out _).trans f1 (by simp)
    simp only [World.size_alloc] at o1
    have g1 : w.heap.size + 1 < w1.heap.size := o1.lt _ (by simp [blk])
    go_wp2_with fail
    refine (Raw_any bw v _ l sp m _ e _ (hW.keep F1 (by simp) (by simp)) hl o1.sl).mono ?_
    rintro r w2 ⟨rfl, h2⟩
    have HH := Lib.hid h2
    obtain ⟨v', sp', hw2, f2, b2⟩ := h2
    have hn1 : ∀ k, w.heap.size ≤ k → k ∉ bw :: blk v := fun k hk hm => by have := HL.out k hm; omega
    have c2 : w2.cell? ⟨w.heap.size, 4, none⟩ = some (.slice a m.length cap) := f2.cell (f1.cell CB.out (by simp)) (hn1 _ (Nat.le_refl _))
    have O2 := Lib.hid (o1.keep f2 (fun k hk => hn1 k (by simp [blk] at hk; omega)))
    have S2 := Lib.hid ((hS.keep F1 (by simp)).keepR f2 (fun k hk => HD.out k hk))
    clear hn1 b2 hw2
    go_wp2_with (first | (go_at_call 29; refine (Kept_true _ _ _ _ m msp _ O2.out S2.out hm).mono ?_; rintro r w3 ⟨rfl, f3⟩) | (go_at_call 18; refine (Over_any _ m _ _ (O2.out.keep f3 (by simp)) (by simp [marks_length]; omega)).mono ?_; rintro r w4 ⟨rfl, f4⟩))
    go_ret
    refine ⟨rfl, HH.out.ahead F1 (L := blk (.slice (some ⟨w.heap.size + 1, 0, none⟩) m.length (m.length + 3))) ((f3.mono (by simp)).trans f4 (fun i hi => .inl hi)) ?_ HL.out⟩
    intro k hk
    simp [blk] at hk
    omega
  by_cases k3 : kind = 3
  · subst k3
    have hr : Act0.step ⟨3, n, size, s, m⟩ (l, e) = wStep (l, e) (padStep · size) := by simp [Act0.step]
    rw [hr]
    clear hr
    go_enter Try.func13, Try.ntmps13
    go_wp2_with (go_at_call 37; refine (Pad_any bw v l sp e size _ (hW.keep (HF.out _) (by simp) (by simp)) hl).mono ?_; rintro r w' ⟨rfl, h⟩)
    go_ret
    exact ⟨rfl, h.behind (HF.out _)⟩
  · have hr : Act0.step ⟨kind, n, size, s, m⟩ (l, e) = (l, e) := by simp [Act0.step, k0, k1, k2, k3]
    rw [hr]
    have e0 : (kind == 0) = false := by simpa using k0
    have e1 : (kind == 1) = false := by simpa using k1
    have e2 : (kind == 2) = false := by simpa using k2
    have e3 : (kind == 3) = false := by simpa using k3
    clear hr k0 k1 k2 k3
    have hw := WrTo.same hW
    go_enter Try.func13, Try.ntmps13
    go_wp2
    go_ret
    exact ⟨rfl, (WrTo.same (hW.keep (HF.out _) (by simp) (by simp))).behind (HF.out _)⟩
end Go.Proofs.Ytappmjophnhdaaa
