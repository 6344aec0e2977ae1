/-
  Contracts of demand and of the steps that ask. No conditions but those that each theorem names.
-/
import Derived.Test.YtjdejhgfkjeeiaaGreatDoorUR
namespace Go.Proofs.YtjdejhgfkjeeiaaGreatDoor
open Go.RowKit
set_option linter.unusedVariables false
set_option linter.unusedSimpArgs false
set_option maxRecDepth 100000

open Pt (Pt may enc readPt readE zeroPt pc pv PtV SlA OwnA)
section
variable {w0 w w' : World} {g : Nat} {n : Int} {S : List UInt8} {br : Nat} {rv : Value} {rsp : List UInt8} {st : Nat × Int × Int} {v : Value} {u : Ub} {E : Value} {L : List Addr}
/-- What is wrong, one more. -/
def addL (b : Bool) (L : List Addr) (s : Addr) : List Addr := if b = true then L else L ++ [s]
/-- What a step hands on. -/
def Hands (w0 : World) (g : Nat) (n : Int) (S : List UInt8) (br : Nat) (rv : Value) (rsp : List UInt8) (st : Nat × Int × Int) (v : Value) (u : Ub) (L : List Addr) (r : Ending) (w : World) : Prop := r = .returned (.pointer (some ⟨g, 0, none⟩)) ∧ ∃ E, RG w0 w g n S br rv rsp st v u E L
theorem RG.wrote (h : RG w0 w g n S br rv rsp st v u E L) {E' : Value} {L' : List Addr} (he : ErrT w [g, br] E' L') : RG w0 (w.setCell ⟨g, 327, none⟩ E') g n S br rv rsp st v u E' L' := by
  have hb := h.blk
  rw [rcs_w] at hb
  have h2 := hb.put1 (o := 327) (u' := E') (by simp [bvs_length, h.len, uc_length h.wf])
  rw [← rcs_w] at h2
  exact h.put ((Frm.refl _ _).setCell _ _ (by simp)) h2 h.wf h.ptv h.vb (.inr he)
theorem want_no (h : RG w0 w g n S br rv rsp st v u E L) (s : Addr) (hs : ∃ c t, w0.heap[s.block]? = some (.cells c t (0, 0))) (hE : E = .nilIface ∨ ∃ a b, E = .iface a b)
    (hJ : ∀ W, W = w.alloc (.cells #[E, .iface 212 (.pointer (some s))] 93) → Calls Tryz.prog 145 #[.slice (some ⟨w.heap.size, 0, none⟩) 2 2] W (JoinP [g, br] (L ++ [s]) W)) :
    Calls Tryz.prog 111 #[.pointer (some ⟨g, 0, none⟩), .bool false, .iface 212 (.pointer (some s))] w (Hands w0 g n S br rv rsp st v u (L ++ [s])) := by
  have cw := h.wrong
  have fa : Frm [] w (w.alloc (.cells #[E, .iface 212 (.pointer (some s))] 93)) := (Frm.refl [] w).alloc _
  have H := Lib.hid h
  have HJ := Lib.hid (hJ _ rfl)
  have FA := Lib.hid fa
  clear h hJ fa hs
  rcases hE with rfl | ⟨a, b, rfl⟩
  all_goals
    go_enter Tryz.func111, Tryz.ntmps111
    go_wp2_with (go_at_call 145; refine HJ.out.mono ?_; rintro r w1 ⟨E', rfl, e1, f1⟩; obtain ⟨ty1, x1, rfl⟩ := e1.form; have h1 := H.out.keep0 (FA.out.trans f1 (by simp)); have c1 := h1.wrong; have z1 := h1.blk.frozen 327; have H1 := Lib.hid h1; have HE1 := Lib.hid e1; clear h1 e1 f1)
    go_ret
    exact ⟨rfl, _, H1.out.wrote HE1.out⟩
theorem want_any (h : RG w0 w g n S br rv rsp st v u E L) (b : Bool) (s : Addr) (hs : ∃ c t, w0.heap[s.block]? = some (.cells c t (0, 0))) :
    Calls Tryz.prog 111 #[.pointer (some ⟨g, 0, none⟩), .bool b, .iface 212 (.pointer (some s))] w (Hands w0 g n S br rv rsp st v u (addL b L s)) := by
  cases b with
  | true =>
    have H := Lib.hid h
    clear h
    go_enter Tryz.func111, Tryz.ntmps111
    go_wp2_with fail
    go_ret
    exact ⟨rfl, E, H.out⟩
  | false =>
    rw [show addL false L s = L ++ [s] from rfl]
    refine want_no h s hs (h.err.imp And.left ErrT.form) ?_
    rintro W rfl
    obtain ⟨c, t, hc⟩ := hs
    have hlt := lt_heap hc
    have hsx : s.block ∉ [g, br] := by have := h.lo; simp; omega
    have fa : Frm [] w (w.alloc (.cells #[E, .iface 212 (.pointer (some s))] 93)) := (Frm.refl [] w).alloc _
    have hh := heap_alloc_new w (.cells #[E, .iface 212 (.pointer (some s))] 93)
    have hX : ∀ i ∈ [g, br], i < (w.alloc (.cells #[E, .iface 212 (.pointer (some s))] 93)).heap.size := fun i hi => by
      have h1 := h.lt
      have h2 := lt_heap h.rd.1
      simp at hi ⊢
      omega
    have hl : ErrT (w.alloc (.cells #[E, .iface 212 (.pointer (some s))] 93)) [g, br] (.iface 212 (.pointer (some s))) [s] := .leaf s c t hsx ((h.frm.trans fa (by simp)).heap hc (by simp))
    rcases h.err with ⟨rfl, rfl⟩ | he
    · exact Join_one [g, br] w.heap.size ⟨_, _, _, rfl⟩ [s] _ hX hh hl
    · obtain ⟨a, b, rfl⟩ := he.form
      exact Join_two [g, br] w.heap.size ⟨_, _, _, rfl⟩ ⟨_, _, _, rfl⟩ L [s] _ hX hh (he.keep0 fa) hl
theorem heap_of_sen {w0 : World} {s0 s1 s2 : Addr} (h : Sens w0 s0 s1 s2) {w : World} (f : Frm [] w0 w) : w.cell? ⟨0, 0, none⟩ = some (.iface 212 (.pointer (some s0))) ∧ w.cell? ⟨1, 0, none⟩ = some (.iface 212 (.pointer (some s1))) ∧ w.cell? ⟨2, 0, none⟩ = some (.iface 212 (.pointer (some s2))) := by
  have k := h.keep0 f
  exact ⟨k.v0, k.v1, k.v2⟩
set_option maxHeartbeats 2000000 in
theorem whole_any {s0 s1 s2 : Addr} (hs : Sens w0 s0 s1 s2) (h : RG w0 w g n S br rv rsp st v u E L) : Calls Tryz.prog 64 #[.pointer (some ⟨g, 0, none⟩)] w (Hands w0 g n S br rv rsp st v u (addL (n == 256) L s0)) := by
  have HSE := Lib.hid hs
  have H := Lib.hid h
  have fd : Frm [] w w.drew := (Frm.refl [] w).drew
  obtain ⟨q, hq⟩ : ∃ q, (n == 256) = q := ⟨_, rfl⟩
  rw [hq]
  have HD := Lib.hid (want_any (h.keep0 fd) q s0 hs.h0)
  clear h hs fd
  go_enter Tryz.func64, Tryz.ntmps64
  go_wp2_with fail
  refine wp_region_held_drew (S := fun z => ∃ E' L', RG w0 z g n S br rv rsp st v u E' L') (by kernel_rfl) (⟨E, L, H.out.keep0 (Frm.refl [] w).drew⟩) (fun hHeld => ?_)
  refine wpAnyH_take (i := 0) (oi := { dst := some 3, op := Op.move (Operand.tmp 0), type := 86, pos := "reading.go:65", after := #[], guard := none }) (v := ?_) rfl (by kernel_rfl) (by kernel_rfl) (by kernel_rfl) (fun _ _ _ h => h) (Or.inl ⟨by rfl, ?_⟩) hHeld ?_
  rotate_left
  focus (intro z hSw; clear hSw; go_simp; try with_reducible rfl)
  try simp only [Act.put, List.setIfInBounds_toArray, List.set_cons_zero, List.set_cons_succ]
  refine wpAnyH_take (i := 1) (oi := { dst := some 4, op := Op.move (Operand.tmp 0), type := 86, pos := "reading.go:65", after := #[], guard := none }) (v := ?_) rfl (by kernel_rfl) (by kernel_rfl) (by kernel_rfl) (fun _ _ _ h => h) (Or.inl ⟨by rfl, ?_⟩) hHeld ?_
  rotate_left
  focus (intro z hSw; clear hSw; go_simp; try with_reducible rfl)
  try simp only [Act.put, List.setIfInBounds_toArray, List.set_cons_zero, List.set_cons_succ]
  refine wpAnyH_take (i := 2) (oi := { dst := some 5, op := Op.nilCheck (Operand.tmp 4), type := 0, pos := "reading.go:65", after := #[{ on := 1, ground := Ground.data }], guard := none }) (v := ?_) rfl (by kernel_rfl) (by kernel_rfl) (by kernel_rfl) (fun _ _ _ h => h) (Or.inl ⟨by rfl, ?_⟩) hHeld ?_
  rotate_left
  focus (intro z hSw; clear hSw; go_simp; try with_reducible rfl)
  try simp only [Act.put, List.setIfInBounds_toArray, List.set_cons_zero, List.set_cons_succ]
  refine wpAnyH_take (i := 3) (oi := { dst := some 6, op := Op.fieldAddr 95 (Operand.tmp 5) 0, type := 0, pos := "reading.go:65", after := #[{ on := 2, ground := Ground.data }], guard := none }) (v := ?_) rfl (by kernel_rfl) (by kernel_rfl) (by kernel_rfl) (fun _ _ _ h => h) (Or.inl ⟨by rfl, ?_⟩) hHeld ?_
  rotate_left
  focus (intro z hSw; clear hSw; go_simp; try with_reducible rfl)
  try simp only [Act.put, List.setIfInBounds_toArray, List.set_cons_zero, List.set_cons_succ]
  refine wpAnyH_take (i := 4) (oi := { dst := some 7, op := Op.load 3 (Operand.tmp 6), type := 3, pos := "reading.go:65", after := #[{ on := 3, ground := Ground.data }], guard := none }) (v := ?_) rfl (by kernel_rfl) (by kernel_rfl) (by kernel_rfl) (fun _ _ _ h => h) (Or.inl ⟨by rfl, ?_⟩) hHeld ?_
  rotate_left
  focus (intro z hSw; obtain ⟨_, _, hz⟩ := hSw; have cz := hz.size; have cf := hz.fld; have cw := hz.wrong; obtain ⟨g0, g1, g2⟩ := heap_of_sen HSE.out hz.frm; clear hz; go_simp; try with_reducible rfl)
  try simp only [Act.put, List.setIfInBounds_toArray, List.set_cons_zero, List.set_cons_succ]
  refine wpAnyH_take (i := 5) (oi := { dst := some 8, op := Op.binOp BinOp.eql 3 (Operand.tmp 7) (Operand.const (Value.int IntKind.i64 256)) 3, type := 4, pos := "reading.go:65", after := #[{ on := 4, ground := Ground.data }], guard := none }) (v := ?_) rfl (by kernel_rfl) (by kernel_rfl) (by kernel_rfl) (fun _ _ _ h => h) (Or.inl ⟨by rfl, ?_⟩) hHeld ?_
  rotate_left
  focus (intro z hSw; clear hSw; go_simp; try with_reducible rfl)
  try simp only [Act.put, List.setIfInBounds_toArray, List.set_cons_zero, List.set_cons_succ]
  refine wpAnyH_take (i := 6) (oi := { dst := some 9, op := Op.load 93 (Operand.global 0), type := 93, pos := "reading.go:65", after := #[], guard := none }) (v := ?_) rfl (by kernel_rfl) (by kernel_rfl) (by kernel_rfl) (fun _ _ _ h => h) (Or.inl ⟨by rfl, ?_⟩) hHeld ?_
  rotate_left
  focus (intro z hSw; obtain ⟨_, _, hz⟩ := hSw; have cz := hz.size; have cf := hz.fld; have cw := hz.wrong; obtain ⟨g0, g1, g2⟩ := heap_of_sen HSE.out hz.frm; clear hz; go_simp; try with_reducible rfl)
  try simp only [Act.put, List.setIfInBounds_toArray, List.set_cons_zero, List.set_cons_succ]
  refine wpAnyH_ready (rs := [7]) (by kernel_rfl) (by simp) ?_
  refine AllReadyH.cons (o := { dst := some 10, op := Op.call { callee := Callee.value (Operand.func 111), args := #[Operand.tmp 3, Operand.tmp 8, Operand.tmp 9], argTypes := #[86, 4, 93] }, type := 86, pos := "reading.go:65", after := #[{ on := 0, ground := Ground.data }, { on := 5, ground := Ground.data }, { on := 6, ground := Ground.data }], guard := none }) rfl (fun K hK => ?_) AllReadyH.nil
  go_simp
  refine HD.out.mono ?_
  rintro r w2 ⟨rfl, h2⟩
  have H2 := Lib.hid h2
  clear h2
  refine hK.out _ _ ?_ (fun hNext => ?_)
  · exact ⟨_, _, H2.out.choose_spec⟩
  clear hK K hHeld
  have hHeld := hNext
  clear hNext
  try simp only [Act.put, List.setIfInBounds_toArray, List.set_cons_zero, List.set_cons_succ]
  refine wpAnyH_take (i := 8) (oi := { dst := some 2, op := Op.assign (Operand.tmp 10), type := 86, pos := "reading.go:65", after := #[{ on := 7, ground := Ground.data }, { on := 7, ground := Ground.chain }, { on := 0, ground := Ground.phase }, { on := 1, ground := Ground.phase }, { on := 2, ground := Ground.phase }, { on := 3, ground := Ground.phase }, { on := 4, ground := Ground.phase }, { on := 5, ground := Ground.phase }, { on := 6, ground := Ground.phase }, { on := 7, ground := Ground.phase }], guard := none }) (v := ?_) rfl (by kernel_rfl) (by kernel_rfl) (by kernel_rfl) (fun _ _ _ h => h) (Or.inl ⟨by rfl, ?_⟩) hHeld ?_
  rotate_left
  focus (intro z hSw; clear hSw; go_simp; try with_reducible rfl)
  try simp only [Act.put, List.setIfInBounds_toArray, List.set_cons_zero, List.set_cons_succ]
  refine wpAnyH_done (by kernel_rfl) ?_ _
  clear hHeld
  go_wp2_with fail
  go_ret
  exact ⟨rfl, H2.out⟩
end
end Go.Proofs.YtjdejhgfkjeeiaaGreatDoor
