/-
  Contracts of Clone, SameBytes, LentBytes, OverBytes, KeptBytes, and slices of slices of bytes; no conditions but those that each theorem names.
-/
import Derived.Test.YtopjbiccipgnjaaDoorHB
import Derived.Deep.RegionHeld3
import Derived.OpenShut
namespace Go.Proofs.YtopjbiccipgnjaaDoor
open Go.RowKit
set_option linter.unusedVariables false
set_option linter.unusedSimpArgs false

/-- The blocks that a slice can be read from: none, if it has no room. -/
def blkR : Value → List Nat
  | .slice (some a) _ cap => if cap = 0 then [] else [a.block]
  | _ => []
theorem blkR_sub {v : Value} {k : Nat} (h : k ∈ blkR v) : k ∈ blk v := by
  cases v with
  | slice a n cap => cases a with
    | none => simp [blkR] at h
    | some a => simp only [blkR] at h; split at h <;> simp_all [blk]
  | _ => simp [blkR] at h
/-- slices.Clone of bytes: new memory, or none. -/
def Fresh (w : World) (v : Value) : Prop := ∀ k ∈ blk v, w.heap.size ≤ k
theorem eqSl (w : World) (a : Option Addr) (n c : Nat) : (binOp .eql 22 (.slice a n c) (.slice none 0 0)).run Tryd.prog w = .ok (.bool a.isNone) w := Lib.run_eql_slice_nil w 22 5 a n c 0 0 Tryd.underlying22
def Cloned (w : World) (l : List UInt8) (r : Ending) (w' : World) : Prop := ∃ a cap sp', r = .returned (.slice a l.length cap) ∧ OwnB 5 w' (.slice a l.length cap) l sp' ∧ Frm [] w w' ∧ Fresh w (.slice a l.length cap)
theorem Clone_any (v : Value) (l sp : List UInt8) (w : World) (hS : SlB w v l sp) (hl : l.length ≤ 140737488355328) :
    Calls Tryd.prog 36 #[v] w fun r w' => Cloned w l r w' := by
  have hS' := hS
  have he := eqSl
  have hS3 := hS
  obtain ⟨h1, ⟨rfl, h2, h3⟩ | ha⟩ := hS'
  · obtain rfl : l = [] := List.eq_nil_of_length_eq_zero h2
    go_enter Tryd.func36, Tryd.ntmps36
    go_wp2_with fail
    go_ret
    exact ⟨none, 0, [], rfl, OwnB.nil _ _, Frm.refl _ _, by simp [Fresh, blk]⟩
  · have hS2 := Lib.hid hS
    obtain ⟨ad, cap, rfl⟩ : ∃ ad cap, v = .slice (some ad) l.length cap := by
      rcases ha with ⟨a, rfl, h2, h3⟩ | ⟨b, off, cap, rfl, _⟩
      · exact ⟨a, 0, by rw [h2]⟩
      · exact ⟨_, cap, rfl⟩
    clear hS h1 ha hS3
    have o0 : OwnB 5 (w.alloc (.cells #[] 5)) (.slice (some ⟨w.heap.size, 0, none⟩) 0 0) [] [] := OwnB.of_heap (heap_alloc_new _ _) rfl rfl (by simp)
    have f0 : Frm [] w (w.alloc (.cells #[] 5)) := (Frm.refl _ _).alloc _
    go_enter Tryd.func36, Tryd.ntmps36
    go_wp2_with (at_builtin; refine wpList_append_bytes BT o0 (hS2.out.keep f0 (by simp)) (by simp; omega) rfl (.tmp 5) (.tmp 6) rfl rfl rfl ?_; intro a' cap' w' sp' o1 f1 b1)
    go_ret
    refine ⟨a', cap', sp', by simp, by simpa using o1, f0.trans f1 (by simp [blk]), ?_⟩
    intro k hk
    rcases b1 k (by simpa using hk) with h | h
    · simp [blk] at h; omega
    · simp at h; omega
theorem Same_any (v x : Value) (l sp m msp : List UInt8) (w : World) (h1 : SlB w v l sp) (h2 : SlB w x m msp) :
    Calls Tryd.prog 33 #[v, x] w fun r w' => r = .returned (.bool (l == m)) ∧ w' = w := by
  obtain ⟨a, cap, rfl, _, _⟩ := h1.form
  obtain ⟨a2, cap2, rfl, _, _⟩ := h2.form
  have e1 := convert_bytes BT h1 Tryd.underlying9
  have e2 := convert_bytes BT h2 Tryd.underlying9
  go_enter Tryd.func33, Tryd.ntmps33
  go_wp2
  go_ret
  exact ⟨rfl, rfl⟩
/-- The marks behind what is lent. -/
def marks (n : Nat) : Nat → List UInt8
  | 0 => []
  | k + 1 => UInt8.ofNat (160 + n % 90) :: marks (n + 1) k
theorem marks_length (n k : Nat) : (marks n k).length = k := by induction k generalizing n <;> simp [marks, *]
theorem marks_snoc (n k : Nat) : marks n (k + 1) = marks n k ++ [UInt8.ofNat (160 + (n + k) % 90)] := by
  induction k generalizing n with
  | zero => rfl
  | succ k ih => rw [marks, ih, marks, show n + 1 + k = n + (k + 1) by omega]; rfl
def LentRel (w : World) (l : List UInt8) (c : Value) (wr : World) : Prop :=
  ∃ k : Nat, k ≤ 3 ∧ c = .int .i64 ((l.length + k : Nat) : Int) ∧ OwnB 5 wr (.slice (some ⟨w.heap.size, 0, none⟩) (l.length + 3) (l.length + 3)) (l ++ marks l.length k ++ List.replicate (3 - k) 0) [] ∧ Frm [] w wr
set_option maxHeartbeats 1000000 in
theorem Lent_any (v : Value) (l sp : List UInt8) (w : World) (hS : SlB w v l sp) (hl : l.length ≤ 1000000) :
    Calls Tryd.prog 10 #[v] w fun r w' => r = .returned (.slice (some ⟨w.heap.size, 0, none⟩) l.length (l.length + 3)) ∧
      OwnB 5 w' (.slice (some ⟨w.heap.size, 0, none⟩) l.length (l.length + 3)) l (marks l.length 3) ∧ Frm [] w w' := by
  obtain ⟨a, cap, rfl, hc1, hc2⟩ := hS.form
  have hsrc : ∀ wx, Frm [] w wx → Src Tryd.prog 1 22 (.slice a l.length cap) l.length (bvs l) wx := fun wx fx => Sl.src Tryd.underlying22 (hS.keep fx (by simp)) (bvs_one l)
  have Hsrc := Lib.hid hsrc
  clear hsrc
  go_enter Tryd.func10, Tryd.ntmps10
  go_wp2_with (first | (at_make; refine wpList_make_bytes BT (l.length + 3) (by omega) rfl (.tmp 7) (.tmp 7) rfl rfl rfl rfl rfl ?_; intro w1 o1 f1) | ((with_reducible (show wpList _ _ _ (Oper.mk _ (Op.call (Call.mk (Callee.builtin Builtin.copy) _ _)) _ _ _ _ :: _) _ _)); (refine wpList_copy_bytes BT o1 0 (Hsrc.out _ f1) (by simp <;> omega) (by omega) (fun _ => rfl) rfl (.tmp 9) (.tmp 10) rfl rfl rfl ?_); intro w2 o2 f2))
  go_loopw [4] (LentRel w l) (fun c _ => l.length + 3 - (intOf c).toNat)
  case atStart =>
    refine ⟨0, by omega, rfl, ?_, f1.trans f2 (by simp)⟩
    simpa [marks] using o2
  case round =>
    obtain ⟨k, hk, rfl, o3, f3⟩ := hrel
    by_cases hlt : k < 3
    · have hc := o3.cell (l.length + k) (by simp [marks_length]; omega)
      have hf := o3.frozen (l.length + k)
      unfold bv at hc
      go_wp2
      refine ⟨⟨k + 1, by omega, by go_num, ?_, f3.setCell _ _ (.inr (Nat.le_refl _))⟩, by simp [intOf]; omega⟩
      have h4 := o3.store (l.length + k) (by simp [marks_length]; omega) (UInt8.ofNat (160 + (l.length + k) % 90)) (u := .int .u8 (160 + ((l.length : Int) + k) % 90)) (by simp [bv]; omega)
      rw [show 3 - k = (3 - (k + 1)) + 1 by omega, List.set_append_right _ _ (by simp [marks_length]), show l.length + k - (l ++ marks l.length k).length = 0 by simp [marks_length], List.replicate_succ, List.set_cons_zero] at h4
      rw [marks_snoc]
      simpa using h4
    · obtain rfl : k = 3 := by omega
      go_wp2
      go_ret
      refine ⟨rfl, ?_, f3⟩
      refine OwnB.of_heap ?_ rfl (by simp [marks_length]) (by simp [maxLen]; omega)
      have := o3.heap
      simpa using this
def OverRel (w : World) (g cap : Nat) (c : Value) (wr : World) : Prop :=
  ∃ k : Nat, ∃ L : List UInt8, k ≤ cap ∧ c = .int .i64 k ∧ L.length = cap ∧ OwnB 5 wr (.slice (some ⟨g, 0, none⟩) cap cap) L [] ∧ Frm [g] w wr
set_option maxHeartbeats 1000000 in
theorem Over_all (v : Value) (l sp : List UInt8) (w : World) (hO : OwnB 5 w v l sp) :
    Calls Tryd.prog 17 #[v] w fun r w' => r = .returned (.tuple #[]) ∧ Frm (blk v) w w' := by
  have hO' := hO
  obtain ⟨h1, ⟨rfl, h2, h3⟩ | ⟨g, cap, rfl, h3, h4, h5, h6⟩⟩ := hO'
  · go_enter Tryd.func17, Tryd.ntmps17
    go_wp2
    go_loop [3] (fun c => c = .int .i64 0) (fun _ => 0)
    case atStart => rfl
    case round =>
      subst hrel
      go_wp2
      go_end0
      exact ⟨rfl, Frm.refl _ _⟩
  · obtain ⟨k1, k2, k3⟩ := hO.caps
    have o1 : OwnB 5 w (.slice (some ⟨g, 0, none⟩) cap cap) (l ++ sp) [] := OwnB.of_heap (by simpa using hO.heap) (by simp; omega) (by simp; omega) h4
    have hcap : (cap : Int) ≤ 9223372036854775807 := by simp [maxLen] at h4; omega
    have hlen : (l ++ sp).length = cap := by simp; omega
    have HL := Lib.hid hlen
    clear hO h1 h5 h6 k1 k2 k3 hlen
    go_enter Tryd.func17, Tryd.ntmps17
    go_wp2
    go_loopw [3] (OverRel w g cap) (fun c _ => cap - (intOf c).toNat)
    case atStart => exact ⟨0, _, Nat.zero_le _, rfl, HL.out, o1, Frm.refl _ _⟩
    case round =>
      obtain ⟨k, L, hk, rfl, hL, o2, f2⟩ := hrel
      have HL2 := Lib.hid hL
      by_cases hlt : k < cap
      · have hc := o2.cell k (by simp; omega)
        have hf := o2.frozen k
        unfold bv at hc
        generalize (L ++ [])[k]! = x at hc
        clear hL
        have hx := Go.bounds_u8 (Go.wf_bits .xor .u8 x.toNat 90)
        have HX := Lib.hid hx
        clear hx
        go_wp2
        refine ⟨⟨k + 1, _, by omega, by go_num, ?_, o2.store k (by rw [HL2.out]; exact hlt) (UInt8.ofNat (bits .xor .u8 x.toNat 90).toNat) ?_, f2.setCell _ _ (by simp)⟩, by simp [intOf]; omega⟩
        · rw [List.length_set, HL2.out]
        · have := HX.out; simp only [bv, UInt8.toNat_ofNat']; congr 1; omega
      · obtain rfl : k = cap := by omega
        clear hL
        go_wp2
        go_end0
        exact ⟨rfl, f2⟩
theorem OwnB.whole {T : TypeId} {w : World} {g n cap : Nat} {l sp : List UInt8} (h : OwnB T w (.slice (some ⟨g, 0, none⟩) n cap) l sp) : OwnB T w (.slice (some ⟨g, 0, none⟩) cap cap) (l ++ sp) [] := by
  obtain ⟨k1, k2, k3⟩ := h.caps
  exact OwnB.of_heap (by simpa using h.heap) (by simp; omega) (by simp; omega) k3
set_option maxHeartbeats 1000000 in
theorem Kept_true (g n cap : Nat) (x : Value) (l msp : List UInt8) (w : World) (hO : OwnB 5 w (.slice (some ⟨g, 0, none⟩) n cap) l (marks l.length 3)) (hS : SlB w x l msp) (hl : l.length ≤ 1000000) :
    Calls Tryd.prog 18 #[.slice (some ⟨g, 0, none⟩) n cap, x] w fun r w' => r = .returned (.bool true) ∧ Frm [] w w' := by
  obtain ⟨a, cap2, rfl, hc1, hc2⟩ := hS.form
  obtain ⟨k1, k2, k3⟩ := hO.caps
  rw [marks_length] at k2
  subst k1
  have Hw := Lib.hid hO.whole
  clear k3 hO
  have HN := Lib.hid k2
  have hg : ((l.length : Int) == (l.length : Int)) = true := by simp
  have hn0 : (0 : Int) ≤ (cap : Int) := by omega
  have hle : (cap : Int) ≤ (cap : Int) := by omega
  have hsum : IntKind.i64.wrap ((l.length : Int) + 3) = (cap : Int) := by rw [IntWalk.i64_in _ (by omega)]; omega
  clear k2
  go_enter Tryd.func18, Tryd.ntmps18
  go_wp2
  go_region_held3 (fun _ => True)
    (first | trivial | go_keep)
    (first | (go_at_call 10; refine (Lent_any _ l msp _ (hS.keep ((Frm.refl [] _).drewN _) (by simp)) hl).mono ?_; rw [← HN.out]; rintro r w1 ⟨rfl, o1, f1⟩) | (go_at_call 33; refine (Same_any _ _ _ [] _ [] _ (Hw.out.keep (((Frm.refl [] _).drewN _).trans f1 (by simp)) (by simp)).sl o1.whole.sl).mono ?_; rintro r w2 ⟨rfl, rfl⟩))
  go_wp2
  go_ret
  exact ⟨by simp, ((Frm.refl [] _).drewN _).trans f1 (by simp)⟩
/-- A cut of a row that can be read can be read. -/
theorem SlB.cut {w : World} {a : Option Addr} {n cap : Nat} {l sp : List UInt8} (h : SlB w (.slice a n cap) l sp) (lo hi : Nat) (h1 : lo ≤ hi) (h2 : hi ≤ l.length) :
    SlB w (.slice (if cap = lo then a else a.map (·.add (lo * 1))) (hi - lo) (cap - lo)) ((l.drop lo).take (hi - lo)) (l.drop hi ++ sp) := by
  have hlen : ((l.drop lo).take (hi - lo)).length = hi - lo := by simp; omega
  obtain ⟨k1, ⟨k2, k3, k4⟩ | ⟨a, k2, k3, k4⟩ | ⟨b, off, c, k2, k3, k4, k5, k6⟩⟩ := h
  · cases k2
    obtain rfl : l = [] := List.eq_nil_of_length_eq_zero k3
    obtain rfl : sp = [] := by simpa [bvs] using k4
    simp at h2
    subst h2
    obtain rfl : lo = 0 := by omega
    simpa using SlB.nil w
  · cases k2
    obtain rfl : l = [] := List.eq_nil_of_length_eq_zero k3
    obtain rfl : sp = [] := by simpa [bvs] using k4
    simp at h2
    subst h2
    obtain rfl : lo = 0 := by omega
    exact ⟨rfl, .inr (.inl ⟨a, rfl, rfl, rfl⟩)⟩
  · cases k2
    have hc : cap = l.length + sp.length := by simpa [bvs_length] using k5.symm
    have hl : l.drop lo = (l.drop lo).take (hi - lo) ++ l.drop hi := by
      conv => lhs; rw [← List.take_append_drop (hi - lo) (l.drop lo)]
      rw [List.drop_drop, show lo + (hi - lo) = hi by omega]
    by_cases hcl : cap = lo
    · rw [if_pos hcl]
      have e1 : hi = lo := by omega
      have e2 : lo = l.length := by omega
      obtain rfl : sp = [] := List.eq_nil_of_length_eq_zero (by omega)
      subst e1
      refine ⟨by simp [bvs], .inr (.inr ⟨b, off, cap - hi, by simp, by omega, by omega, by simp [bvs]; omega, fun i u hu => ?_⟩)⟩
      rw [show List.drop hi l = [] from List.drop_eq_nil_of_le (by omega)] at hu
      simp [bvs] at hu
    · rw [if_neg hcl]
      refine ⟨by simp [bvs], .inr (.inr ⟨b, off + lo, cap - lo, by simp [add_plain]; omega, by omega, by omega, by simp [bvs]; omega, fun i u hu => ?_⟩)⟩
      have := k6 (lo + i) u (by
        rw [← bvs_append] at hu ⊢
        rw [← List.append_assoc, ← hl, ← List.drop_append_of_le_length (by omega)] at hu
        simpa [bvs] using hu)
      rw [Nat.add_assoc]
      exact this
theorem slice_lh {P : Program} {tS T : TypeId} (B : ByteTys P tS T) {w : World} {a : Option Addr} {n cap : Nat} {l sp : List UInt8} (h : SlB w (.slice a n cap) l sp) (lo hi : Nat) (h1 : lo ≤ hi) (h2 : hi ≤ l.length) :
    ∃ a' c', (∀ (x y : Int) (wx : World), x = lo → y = hi → (Instr.slice tS (.slice a n cap) (some (.int .i64 x)) (some (.int .i64 y)) none).run P wx = .ok (.slice a' (hi - lo) c') wx) ∧
      SlB w (.slice a' (hi - lo) c') ((l.drop lo).take (hi - lo)) (l.drop hi ++ sp) := by
  obtain ⟨a2, c2, e, hle, hm⟩ := h.form
  cases e
  refine ⟨_, _, fun x y wx hx hy => ?_, h.cut lo hi h1 h2⟩
  subst hx
  subst hy
  obtain ⟨i, hi', hz, hs, hby⟩ := info_parts B.info
  have he : P.elem tS = T := by simp [Program.elem, B.sl]
  have hsz : (sizeOf (P.elem tS)).run P wx = .ok 1 wx := by rw [he]; simp [sizeOf, typeInfo, hi', hs]
  rw [run_slice_lh (P := P) wx tS a l.length cap (by rw [he]; exact B.sl) .i64 .i64 lo hi (by omega) (by omega) (by omega), hsz]
  simp [Result.andThen, sliced]
theorem slice_l {P : Program} {tS T : TypeId} (B : ByteTys P tS T) {w : World} {a : Option Addr} {n cap : Nat} {l sp : List UInt8} (h : SlB w (.slice a n cap) l sp) (lo : Nat) (h1 : lo ≤ l.length) :
    ∃ a' c', (∀ (x : Int) (wx : World), x = lo → (Instr.slice tS (.slice a n cap) (some (.int .i64 x)) none none).run P wx = .ok (.slice a' (l.length - lo) c') wx) ∧
      SlB w (.slice a' (l.length - lo) c') (l.drop lo) sp := by
  obtain ⟨a2, c2, e, hle, hm⟩ := h.form
  cases e
  have hc := h.cut lo l.length h1 (Nat.le_refl _)
  rw [List.take_of_length_le (by simp), List.drop_length, List.nil_append] at hc
  refine ⟨_, _, fun x wx hx => ?_, hc⟩
  subst hx
  obtain ⟨i, hi', hz, hs, hby⟩ := info_parts B.info
  have he : P.elem tS = T := by simp [Program.elem, B.sl]
  have hsz : (sizeOf (P.elem tS)).run P wx = .ok 1 wx := by rw [he]; simp [sizeOf, typeInfo, hi', hs]
  rw [run_slice_l (P := P) wx tS a l.length cap (by rw [he]; exact B.sl) .i64 lo (by omega) (by omega), hsz]
  simp [Result.andThen, sliced]
theorem heap_alloc_at {w : World} {o : Obj} {n : Nat} (hn : n = w.heap.size) : (w.alloc o).heap[n]? = some o := by subst hn; exact heap_alloc_new _ _
end Go.Proofs.YtopjbiccipgnjaaDoor
