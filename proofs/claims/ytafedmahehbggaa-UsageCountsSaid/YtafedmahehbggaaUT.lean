/-
  A map of bits: one entry changed, all of it gone through. No conditions but those that each theorem names.
-/
import Derived.Test.YtafedmahehbggaaUS
namespace Go.Proofs.Ytafedmahehbggaa
open Go.RowKit Go.Sort Go.Maps
set_option linter.unusedVariables false
set_option linter.unusedSimpArgs false
set_option maxRecDepth 100000

open Kr (OwnE SlE Enco RowTys)
open Go.MapKept Go.ChangeMaps Go.WideElems
theorem klaw25 : WideMaps.KeyLaw Try.prog 25 := deep_law_laid laidOutA (m := 2) (by omega) (of_decide_eq_true (by kernel_rfl)) (by kernel_rfl) wide23
/-- The entry that a map's place for a key is: what a look-up gives lies there, and an update by that leaves the same map. -/
theorem entry_look {H : Type} {P : Program} {w : World} {t k e : TypeId} {R : Value → Option (DataW H × List MemPlace)} {b : Nat} {es : Array MapEntry} {clock : Nat} (K : WideMaps.KeyLaw P k) (ht : P.underlying t = some (.map k e)) {z : Value} (hz : ∀ u : World, (zeroValue e).run P u = .ok z u) (hb : w.heap[b]? = some (.map es clock)) (F : Fit P k R es clock)
    {key : Value} {kl : Lit} (hkey : keyOf P k key = some kl) :
    ∃ (v0 : Value) (st : Nat) (es1 : Array MapEntry) (clock1 : Nat), (Instr.mapEntry t (.map (some b)) key).run P w = .ok (.tuple #[v0, goInt st]) (setBlock w b (.map es1 clock1)) ∧
      (Instr.lookup t (.map (some b)) key false).run P w = .ok v0 w ∧ (Instr.mapUpdate t (.map (some b)) key v0).run P w = .ok () (setBlock w b (.map es1 clock1)) := by
  rcases K.find w hkey es.toList F.keys with ⟨h1, h2⟩ | ⟨j, e0, h1, h2, h3⟩
  · refine ⟨z, clock, es.push ⟨key, z, clock⟩, clock + 1, ?_, ?_, ?_⟩
    · simp [Instr.mapEntry, run_underlying ht, MapKept.run_getObj_map hb, K.check w false hkey, h1, hz, MapKept.run_setObj_map _ hb, Result.andThen, setBlock]
    · simp [Instr.lookup, run_underlying ht, MapKept.run_getObj_map hb, K.check w, hkey, h1, hz, Result.andThen]
    · simp [Instr.mapUpdate, run_underlying ht, MapKept.run_getObj_map hb, K.check w false hkey, h1, MapKept.run_setObj_map _ hb, Result.andThen, setBlock]
  · have hj : es[j]? = some e0 := by simpa using h2
    have same1 : ∀ f : MapEntry → MapEntry, f e0 = e0 → es.modify j f = es := fun f hf => by
      apply Array.ext'
      rw [Array.toList_modify, modify_eq_set _ _ _ _ h2, hf]
      exact set_self _ _ _ h2
    have s1 := same1 (fun e => { e with key := key }) (by rw [← h3])
    have s2 := same1 (fun e => { e with key := key, val := e0.val }) (by rw [← h3])
    refine ⟨e0.val, e0.born, es, clock, ?_, ?_, ?_⟩
    · simp [Instr.mapEntry, run_underlying ht, MapKept.run_getObj_map hb, K.check w false hkey, h1, hj, h3, K.stays w hkey, s1, MapKept.run_setObj_map _ hb, Result.andThen, setBlock]
    · simp [Instr.lookup, run_underlying ht, MapKept.run_getObj_map hb, K.check w, hkey, h1, Result.andThen]
    · simp [Instr.mapUpdate, run_underlying ht, MapKept.run_getObj_map hb, K.check w false hkey, h1, hj, h3, K.stays w hkey, s2, MapKept.run_setObj_map _ hb, Result.andThen, setBlock]

/-- A map of bits: at most n entries; what each address has. -/
def BitW (w : World) (b n : Nat) (f : Ad → Nat) : Prop := ∃ D : DataW Unit, w.ownsMap Try.prog 25 (plainElem (H := Unit) Try.prog 51) b n D ∧ BitD D f
theorem BitW.keep {w w' : World} {b n : Nat} {f : Ad → Nat} {L : List Nat} (h : BitW w b n f) (fr : Frm L w w') (hb : b ∉ L) : BitW w' b n f := by
  obtain ⟨D, h1, h2⟩ := h
  exact ⟨D, ownsMap_frm h1 fr hb, h2⟩
theorem BitW.lt {w : World} {b n : Nat} {f : Ad → Nat} (h : BitW w b n f) : b < w.heap.size := by
  obtain ⟨D, h1, h2⟩ := h
  exact h1.lt
theorem BitW.congr {w : World} {b n : Nat} {f g : Ad → Nat} (h : BitW w b n f) (e : ∀ x, f x = g x) : BitW w b n g := by
  obtain ⟨D, h1, h2⟩ := h
  exact ⟨D, h1, h2.congr fun x _ => e x⟩
theorem BitW.mono {w : World} {b n n' : Nat} {f : Ad → Nat} (h : BitW w b n f) (e : n ≤ n') : BitW w b n' f := by
  obtain ⟨D, h1, h2⟩ := h
  exact ⟨D, h1.mono e, h2⟩
/-- What adding bits to an address's does, in the parts that the program does it in. -/
structure Stp (W : World) (b nn : Nat) (f : Ad → Nat) (x : Ad) (d st : Nat) (W2 W3 : World) : Prop where
  look : (Instr.lookup 55 (.map (some b)) (av x) false).run Try.prog W = .ok (.int .u64 (f x : Nat)) W
  entry : (Instr.mapEntry 55 (.map (some b)) (av x)).run Try.prog W = .ok (.tuple #[.int .u64 (f x : Nat), .int .i64 st]) W2
  look2 : (Instr.lookup 55 (.map (some b)) (av x) false).run Try.prog W2 = .ok (.int .u64 (f x : Nat)) W2
  store : (Instr.entryStore 55 (.map (some b)) (.int .i64 st) (.int .u64 ((f x ||| d : Nat) : Int))).run Try.prog W2 = .ok () W3
  own : BitW W3 b (nn + 1) (fun y => if y = x then f x ||| d else f y)
  grown2 : W.grownBy W2 (some b)
  grown : W.grownBy W3 (some b)
theorem wf_u64 {n : Nat} (h : n < 18446744073709551616) : (Lit.int .u64 (n : Int)).wf = true := by
  simp [Lit.wf, IntKind.min, IntKind.max, IntKind.bits, IntKind.signed]
  omega
theorem bit_step {W : World} {b nn : Nat} {f : Ad → Nat} (h : BitW W b nn f) (hn : nn < maxLen) (x : Ad) (hx : WfA x) (d : Nat) (h0 : f x ||| d ≠ 0) (h1 : f x < 18446744073709551616) (h2 : d < 18446744073709551616) :
    ∃ st W2 W3, Stp W b nn f x d st W2 W3 := by
  obtain ⟨D, hown, hC⟩ := h
  have hz : ∀ u : World, (zeroValue 51).run Try.prog u = .ok (.int .u64 0) u := fun u => Try.zeroValue51 u
  have hw0 : (Lit.int .u64 ((f x : Nat) : Int)).wf = true := wf_u64 h1
  have hw1 : (Lit.int .u64 ((f x ||| d : Nat) : Int)).wf = true := wf_u64 (Nat.or_lt_two_pow (n := 64) h1 h2)
  have hk := key_A hx
  obtain ⟨es, clock, hb, F, hsz, hD⟩ := id hown
  obtain ⟨v0, st, es1, clock1, e1, e2, e3⟩ := entry_look klaw25 Try.underlying55 hz hb F hk
  obtain ⟨v0', st', es1', clock1', f1, _, f3⟩ := entry_then_store klaw25 Try.underlying55 hz hb F hk
  have hh := e1.symm.trans f1
  simp only [Result.ok.injEq, Value.tuple.injEq, Array.mk.injEq, List.cons.injEq, and_true] at hh
  obtain ⟨⟨rfl, hst⟩, hsb⟩ := hh
  obtain rfl : st = st' := by
    simp only [goInt, Value.int.injEq, true_and] at hst
    omega
  have hb1 := heap_setBlock_same hb (.map es1 clock1)
  have hb1' : (setBlock W b (.map es1 clock1)).heap[b]? = some (.map es1' clock1') := by rw [hsb]; exact heap_setBlock_same hb _
  obtain ⟨c, g1, g2, g3⟩ := hown.lookup_int law23 Try.underlying55 Try.underlying51 (hz W) hk
  have hc : c = ((f x : Nat) : Int) := by
    have := g2.symm.trans (hC x hx).2
    simpa using this
  subst hc
  obtain rfl : v0 = .int .u64 ((f x : Nat) : Int) := by
    have := e2.symm.trans g1
    simpa using this
  obtain ⟨Wu, u1, u2, u3⟩ := hown.update law23 Try.underlying55 hn hk (plainElem_int Try.underlying51 hw0)
  obtain rfl : setBlock W b (.map es1 clock1) = Wu := by
    have := e3.symm.trans u1
    simpa using this
  obtain ⟨c2, k1, k2, k3⟩ := u2.lookup_int law23 Try.underlying55 Try.underlying51 (hz _) hk
  have hc2 : c2 = ((f x : Nat) : Int) := by
    rw [Maps.atKey_put_same hown.isMap (kA_key hx)] at k2
    simpa using k2.symm
  subst hc2
  obtain ⟨es', clock', s1, s2⟩ := f3 (setBlock W b (.map es1 clock1)) (.int .u64 ((f x ||| d : Nat) : Int)) hb1'
  obtain ⟨W3, t1, t2, t3⟩ := hown.update law23 Try.underlying55 hn hk (plainElem_int Try.underlying51 hw1)
  obtain rfl : setBlock W b (.map es' clock') = W3 := by
    have := s2.symm.trans t1
    simpa using this
  have hbb : setBlock (setBlock W b (.map es1 clock1)) b (.map es' clock') = setBlock W b (.map es' clock') := by simp [setBlock]
  rw [hbb] at s1
  exact ⟨st, _, _, g1, e1, k1, s1, ⟨_, t2, hC.put hown.isMap hx d h0⟩, u3, t3⟩
theorem AT' : AdTys Try.prog 30 25 := ⟨Try.underlying30, by kernel_rfl⟩
theorem sla_one' {w : World} {g : Nat} {x : Ad} (h : w.heap[g]? = some (.cells #[.int .i64 x.1, .int .i64 x.2] 25 (0, 0))) : SlA w (.slice (some ⟨g, 0, none⟩) 1 1) [x] [] := by
  refine OwnA.sl (T := 25) (OwnA.of_heap (n := 1) (cap := 1) ?_ rfl rfl (by decide))
  rw [h]
  rfl
/-- How far a map is gone through. -/
def WhRel (p : Nat → Bool) (f : Ad → Nat) (D : DataW Unit) (b r n : Nat) (w0 : World) (v : Value) (wr : World) : Prop :=
  ∃ (left : Lit → Bool) (cnt : Nat) (met sp : List Ad), wr.ranges Try.prog 25 (plainElem (H := Unit) Try.prog 51) b r n D left cnt ∧ Met D left met ∧ met.length + cnt ≤ n ∧ OwnA 25 wr v (met.filter fun x => p (f x)) sp ∧ (∀ i ∈ blk v, w0.heap.size ≤ i) ∧ Frm [r] w0 wr
/-- What is told: those of whose bits p is true, each once, in some order. -/
def Chosen (p : Nat → Bool) (f : Ad → Nat) (n : Nat) (w : World) (e : Ending) (w' : World) : Prop :=
  ∃ v ss sp, e = .returned v ∧ OwnA 25 w' v ss sp ∧ (∀ x, WfA x → (x ∈ ss ↔ f x ≠ 0 ∧ p (f x) = true)) ∧ (∀ x ∈ ss, WfA x) ∧ ss.length ≤ n ∧ Frm [] w w' ∧ ∀ i ∈ blk v, w.heap.size ≤ i
set_option maxHeartbeats 2000000 in
theorem where_any (p : Nat → Bool) (gf : Nat) (g : Nat) (eg : ∀ args w, (callFunc gf args).run Try.prog w = .ok (.enter gf args) w) (f : Ad → Nat) (hlt : ∀ x, f x < 18446744073709551616) (b n : Nat) (w : World)
    (hw : ∀ n W, n < 18446744073709551616 → Frm [] w W → Calls Try.prog gf #[.int .u64 ((n : Nat) : Int), .pointer (some ⟨g, 0, none⟩)] W fun e w' => e = .returned (.bool (p n)) ∧ w' = W)
    (hS : BitW w b n f) (hn : n ≤ 1000000) :
    Calls Try.prog 38 #[.map (some b), .func (.func gf) #[] #[.pointer (some ⟨g, 0, none⟩)]] w (Chosen p f n w) := by
  obtain ⟨D, hown, hD⟩ := hS
  have hsz := hown.size_le
  have HO := Lib.hid hown
  have HD := Lib.hid hD
  have HZ := Lib.hid hsz
  have HN := Lib.hid hn
  have HW := Lib.hid hw
  have HL := Lib.hid hlt
  clear hown hD hsz hn hw hlt
  go_enter Try.func38, Try.ntmps38
  go_wp2_with (at_range; refine wpList_range_own _ rfl _ 55 rfl 25 51 law23 Try.underlying55 (plainElem (H := Unit) Try.prog 51) b n D rfl HO.out ?_; intro w1 hr1 hg1 hs1)
  have HS1 := Lib.hid hs1
  clear hs1
  go_frame
  obtain ⟨r, hr⟩ : ∃ r, w.heap.size = r := ⟨_, rfl⟩
  rw [hr] at hr1 ⊢
  have HR := Lib.hid hr
  have R1 := Lib.hid hr1
  have F1 := Lib.hid (Frm.of_grown hg1 (L := []) (by simp))
  clear hr hr1 hg1
  go_loopw [5] (WhRel p f D b r n w1) (fun _ wr => wr.rangeLeft b r)
  case atStart => exact ⟨_, _, [], [], R1.out, Met.start D, by have := HZ.out; simpa using this, OwnA.nil 25 _, by simp [blk], Frm.refl _ _⟩
  case round =>
    obtain ⟨left, cnt, met, sp, hrg, hm, hcnt, ho, hfr, fr⟩ := hrel
    obtain ⟨ss, hss⟩ : ∃ ss, (met.filter fun x => p (f x)) = ss := ⟨_, rfl⟩
    rw [hss] at ho
    obtain ⟨a3, c3, rfl, _, _⟩ := ho.sl.form
    have SS := Lib.hid hss
    have RG := Lib.hid hrg
    have M := Lib.hid hm
    have C := Lib.hid hcnt
    have O := Lib.hid ho
    have FR := Lib.hid hfr
    have F := Lib.hid fr
    clear hrg hm hcnt ho hfr fr hss
    go_wp2_with (at_next; refine wpList_next_ranges _ rfl _ rfl 25 law23 (plainElem (H := Unit) Try.prog 51) av (fun z : Int => Value.int .u64 z) (fun key kl hk => by obtain ⟨x, hx, _⟩ := key_inv hk; exact ⟨x, hx⟩) (fun v y hv => by obtain ⟨c, h1, _⟩ := plainElem_int_inv Try.underlying51 hv; exact ⟨c, h1⟩) b r n D left cnt rfl RG.out ?_ ?_)
    · intro hc0 hl0
      have HL0 := Lib.hid hl0
      clear hc0 hl0
      go_wp2_with fail
      go_ret
      refine ⟨_, ss, sp, rfl, O.out, fun x hx => ?_, fun x hx => ?_, ?_, ?_, ?_⟩
      · rw [← SS.out, List.mem_filter, (M.out.2.2 x hx), HL0.out, HD.out.has hx]
        simp
      · rw [← SS.out] at hx
        exact M.out.2.1 x (List.mem_filter.1 hx).1
      · have h1 := C.out
        have h2 := List.length_filter_le (fun x => p (f x)) met
        rw [SS.out] at h2
        omega
      · have hr := HR.out
        have hz := F1.out.size
        exact (F1.out.trans F.out (fun i hi => by simp at hi; omega))
      · intro i hi; have := FR.out i hi; have := F1.out.size; omega
    · intro xa xb c kl yd yp w2 cnt2 hkey hlk hv hat hrg2 hltc hg2 hs2 hen
      clear hs2
      obtain ⟨x, hx, hwx, rfl⟩ := key_inv hkey
      obtain rfl := av_inj hx
      obtain ⟨c', hc1, hc2, hwc⟩ := plainElem_int_inv Try.underlying51 hv
      have hcf : c = ((f (xa, xb) : Nat) : Int) := by
        have e1 := hat (.lit (.int .u64 0))
        rw [(HD.out (xa, xb) hwx).2] at e1
        have e2 : yd = .lit (.int .u64 c') := by cases hc2; rfl
        rw [e2] at e1
        simp at hc1 e1
        omega
      subst hcf
      have hst := M.out.step hwx hlk (has_true_of_atKey hat)
      have ho2 := O.out.keep (Frm.of_grown hg2 (L := [r]) (by simp)) (fun i hi => by have := FR.out i hi; have := HS1.out; have := HR.out; simp; omega)
      have hrl : r < w1.heap.size := by have := HS1.out; have := HR.out; omega
      have hbl : b < r := by have := HO.out.lt; have := HR.out; omega
      have hfw : Frm [] w w2 := (F1.out.trans (F.out.trans (Frm.of_grown hg2 (L := [r]) (by simp)) (by simp)) (fun i hi => by simp at hi; have := HR.out; omega))
      have HFW := Lib.hid hfw
      have LQ := Lib.hid (And.intro hrl hbl)
      have ST := Lib.hid hst
      have RG2 := Lib.hid hrg2
      have O2 := Lib.hid ho2
      have F2 := Lib.hid (F.out.trans (Frm.of_grown hg2 (L := [r]) (by simp)) (by simp))
      have LT := Lib.hid hltc
      have HFX := Lib.hid (HL.out (xa, xb))
      clear hst hrg2 ho2 hg2 hltc hkey hlk hv hat hwx hx hc1 hc2 hwc hfw hrl hbl
      obtain ⟨q, hq⟩ : ∃ q, p (f (xa, xb)) = q := ⟨_, rfl⟩
      have hfl : (met ++ [(xa, xb)]).filter (fun x => p (f x)) = ss ++ (if q then [(xa, xb)] else []) := by
        rw [List.filter_append, SS.out]
        congr 1
        cases q <;> simp [hq]
      have FL := Lib.hid hfl
      have hcall : ∀ W, Frm [] w W → Calls Try.prog gf #[.int .u64 ((f (xa, xb) : Nat) : Int), .pointer (some ⟨g, 0, none⟩)] W fun e w' => e = .returned (.bool q) ∧ w' = W := fun W hf => by rw [← hq]; exact HW.out _ W HFX.out hf
      have HC := Lib.hid hcall
      clear hfl hcall hq
      generalize ((f (xa, xb) : Nat) : Int) = fx at *
      unfold av at hen
      go_upto_region 5 with (fail)
      have f3 : Frm [] w2 (w2.alloc (.cells #[.int .i64 xa, .int .i64 xb] 25)) := (Frm.refl [] w2).alloc _
      have h3 := heap_alloc_new w2 (.cells #[.int .i64 xa, .int .i64 xb] 25)
      generalize w2.alloc (.cells #[.int .i64 xa, .int .i64 xb] 25) = w3 at *
      obtain ⟨g3, hg3⟩ : ∃ g3, w2.heap.size = g3 := ⟨_, rfl⟩
      rw [hg3] at h3 ⊢
      have G3 := Lib.hid hg3
      have F3 := Lib.hid f3
      have O3 := Lib.hid (O2.out.keep f3 (by simp))
      have RG3 := Lib.hid (ranges_frm RG2.out f3 (by simp) (by simp))
      have d0 : w3.cell? ⟨g3, 0, none⟩ = some (.int .i64 xa) := by rw [cell_of_heap h3]; rfl
      have d1 : w3.cell? ⟨g3, 1, none⟩ = some (.int .i64 xb) := by rw [cell_of_heap h3]; rfl
      clear hg3 f3 h3 hen
      go_upto_region 6 with (fail)
      refine (HC.out _ (HFW.out.trans F3.out (by simp))).mono ?_
      rintro e w4 ⟨rfl, hw4⟩
      obtain rfl := hw4.symm
      cases q with
      | false =>
        have hnew : WhRel p f D b r n w1 (.slice a3 ss.length c3) w3 := ⟨_, cnt2, met ++ [(xa, xb)], sp, RG3.out, ST.out, by have := C.out; have := LT.out; simp; omega, by rw [FL.out]; simpa using O3.out, FR.out, F2.out.trans F3.out (by simp)⟩
        have hme : w3.rangeLeft b r < wr.rangeLeft b r := by rw [RG3.out.left_eq, RG.out.left_eq]; exact LT.out
        have HNW := Lib.hid hnew
        have HME := Lib.hid hme
        clear hnew hme
        go_wp2_with fail
        go_roundw
        case rel => exact HNW.out
        case measure => exact HME.out
      | true =>
        have hbr : ∀ i ∈ blk (.slice a3 ss.length c3), w1.heap.size ≤ i := FR.out
        have HBR := Lib.hid hbr
        have HSL := Lib.hid (show ss.length ≤ met.length by have h2 := List.length_filter_le (fun x => p (f x)) met; rw [SS.out] at h2; exact h2)
        clear hbr
        go_wp2_with (at_builtin; refine wpList_append_ads AT' (O3.out.keep ((Frm.refl [] _).alloc _) (by simp)) (sla_one' (x := (xa, xb)) (heap_alloc_at (by simp))) (by have := C.out; have := HN.out; have := HSL.out; simp; omega) rfl (.tmp 18) (.tmp 20) rfl rfl rfl ?_; intro a4 cap4 w4 sp4 o4 f4 n4)
        have hf4 : Frm (blk (.slice a3 ss.length c3)) w3 w4 := ((Frm.refl _ _).alloc _).trans f4 (fun i hi => .inl hi)
        have hr4 := ranges_frm RG3.out hf4 (fun h => by have := HBR.out _ h; have := LQ.out; omega) (fun h => by have := HBR.out _ h; have := LQ.out; omega)
        have hnew : WhRel p f D b r n w1 (.slice a4 (ss.length + 1) cap4) w4 := ⟨_, cnt2, met ++ [(xa, xb)], sp4, hr4, ST.out, by have := C.out; have := LT.out; simp; omega, by rw [FL.out]; simpa using o4, fun i hi => by
          rcases n4 i (by simpa using hi) with h | h
          · exact HBR.out i h
          · have := (F2.out.trans F3.out (by simp)).size; simp at h; omega, (F2.out.trans F3.out (by simp)).trans hf4 (fun i hi => .inr (HBR.out i hi))⟩
        have hme : w4.rangeLeft b r < wr.rangeLeft b r := by rw [hr4.left_eq, RG.out.left_eq]; exact LT.out
        have HNW := Lib.hid hnew
        have HME := Lib.hid hme
        clear hf4 hr4 hnew hme o4 f4 n4
        go_wp2_with fail
        go_roundw
        case rel => exact HNW.out
        case measure => exact HME.out
set_option maxHeartbeats 2000000 in
theorem where0_any (p : Nat → Bool) (gf : Nat) (eg : ∀ args w, (callFunc gf args).run Try.prog w = .ok (.enter gf args) w) (f : Ad → Nat) (hlt : ∀ x, f x < 18446744073709551616) (b n : Nat) (w : World)
    (hw : ∀ n W, n < 18446744073709551616 → Frm [] w W → Calls Try.prog gf #[.int .u64 ((n : Nat) : Int)] W fun e w' => e = .returned (.bool (p n)) ∧ w' = W)
    (hS : BitW w b n f) (hn : n ≤ 1000000) :
    Calls Try.prog 38 #[.map (some b), .func (.func gf) #[] #[]] w (Chosen p f n w) := by
  obtain ⟨D, hown, hD⟩ := hS
  have hsz := hown.size_le
  have HO := Lib.hid hown
  have HD := Lib.hid hD
  have HZ := Lib.hid hsz
  have HN := Lib.hid hn
  have HW := Lib.hid hw
  have HL := Lib.hid hlt
  clear hown hD hsz hn hw hlt
  go_enter Try.func38, Try.ntmps38
  go_wp2_with (at_range; refine wpList_range_own _ rfl _ 55 rfl 25 51 law23 Try.underlying55 (plainElem (H := Unit) Try.prog 51) b n D rfl HO.out ?_; intro w1 hr1 hg1 hs1)
  have HS1 := Lib.hid hs1
  clear hs1
  go_frame
  obtain ⟨r, hr⟩ : ∃ r, w.heap.size = r := ⟨_, rfl⟩
  rw [hr] at hr1 ⊢
  have HR := Lib.hid hr
  have R1 := Lib.hid hr1
  have F1 := Lib.hid (Frm.of_grown hg1 (L := []) (by simp))
  clear hr hr1 hg1
  go_loopw [5] (WhRel p f D b r n w1) (fun _ wr => wr.rangeLeft b r)
  case atStart => exact ⟨_, _, [], [], R1.out, Met.start D, by have := HZ.out; simpa using this, OwnA.nil 25 _, by simp [blk], Frm.refl _ _⟩
  case round =>
    obtain ⟨left, cnt, met, sp, hrg, hm, hcnt, ho, hfr, fr⟩ := hrel
    obtain ⟨ss, hss⟩ : ∃ ss, (met.filter fun x => p (f x)) = ss := ⟨_, rfl⟩
    rw [hss] at ho
    obtain ⟨a3, c3, rfl, _, _⟩ := ho.sl.form
    have SS := Lib.hid hss
    have RG := Lib.hid hrg
    have M := Lib.hid hm
    have C := Lib.hid hcnt
    have O := Lib.hid ho
    have FR := Lib.hid hfr
    have F := Lib.hid fr
    clear hrg hm hcnt ho hfr fr hss
    go_wp2_with (at_next; refine wpList_next_ranges _ rfl _ rfl 25 law23 (plainElem (H := Unit) Try.prog 51) av (fun z : Int => Value.int .u64 z) (fun key kl hk => by obtain ⟨x, hx, _⟩ := key_inv hk; exact ⟨x, hx⟩) (fun v y hv => by obtain ⟨c, h1, _⟩ := plainElem_int_inv Try.underlying51 hv; exact ⟨c, h1⟩) b r n D left cnt rfl RG.out ?_ ?_)
    · intro hc0 hl0
      have HL0 := Lib.hid hl0
      clear hc0 hl0
      go_wp2_with fail
      go_ret
      refine ⟨_, ss, sp, rfl, O.out, fun x hx => ?_, fun x hx => ?_, ?_, ?_, ?_⟩
      · rw [← SS.out, List.mem_filter, (M.out.2.2 x hx), HL0.out, HD.out.has hx]
        simp
      · rw [← SS.out] at hx
        exact M.out.2.1 x (List.mem_filter.1 hx).1
      · have h1 := C.out
        have h2 := List.length_filter_le (fun x => p (f x)) met
        rw [SS.out] at h2
        omega
      · have hr := HR.out
        have hz := F1.out.size
        exact (F1.out.trans F.out (fun i hi => by simp at hi; omega))
      · intro i hi; have := FR.out i hi; have := F1.out.size; omega
    · intro xa xb c kl yd yp w2 cnt2 hkey hlk hv hat hrg2 hltc hg2 hs2 hen
      clear hs2
      obtain ⟨x, hx, hwx, rfl⟩ := key_inv hkey
      obtain rfl := av_inj hx
      obtain ⟨c', hc1, hc2, hwc⟩ := plainElem_int_inv Try.underlying51 hv
      have hcf : c = ((f (xa, xb) : Nat) : Int) := by
        have e1 := hat (.lit (.int .u64 0))
        rw [(HD.out (xa, xb) hwx).2] at e1
        have e2 : yd = .lit (.int .u64 c') := by cases hc2; rfl
        rw [e2] at e1
        simp at hc1 e1
        omega
      subst hcf
      have hst := M.out.step hwx hlk (has_true_of_atKey hat)
      have ho2 := O.out.keep (Frm.of_grown hg2 (L := [r]) (by simp)) (fun i hi => by have := FR.out i hi; have := HS1.out; have := HR.out; simp; omega)
      have hrl : r < w1.heap.size := by have := HS1.out; have := HR.out; omega
      have hbl : b < r := by have := HO.out.lt; have := HR.out; omega
      have hfw : Frm [] w w2 := (F1.out.trans (F.out.trans (Frm.of_grown hg2 (L := [r]) (by simp)) (by simp)) (fun i hi => by simp at hi; have := HR.out; omega))
      have HFW := Lib.hid hfw
      have LQ := Lib.hid (And.intro hrl hbl)
      have ST := Lib.hid hst
      have RG2 := Lib.hid hrg2
      have O2 := Lib.hid ho2
      have F2 := Lib.hid (F.out.trans (Frm.of_grown hg2 (L := [r]) (by simp)) (by simp))
      have LT := Lib.hid hltc
      have HFX := Lib.hid (HL.out (xa, xb))
      clear hst hrg2 ho2 hg2 hltc hkey hlk hv hat hwx hx hc1 hc2 hwc hfw hrl hbl
      obtain ⟨q, hq⟩ : ∃ q, p (f (xa, xb)) = q := ⟨_, rfl⟩
      have hfl : (met ++ [(xa, xb)]).filter (fun x => p (f x)) = ss ++ (if q then [(xa, xb)] else []) := by
        rw [List.filter_append, SS.out]
        congr 1
        cases q <;> simp [hq]
      have FL := Lib.hid hfl
      have hcall : ∀ W, Frm [] w W → Calls Try.prog gf #[.int .u64 ((f (xa, xb) : Nat) : Int)] W fun e w' => e = .returned (.bool q) ∧ w' = W := fun W hf => by rw [← hq]; exact HW.out _ W HFX.out hf
      have HC := Lib.hid hcall
      clear hfl hcall hq
      generalize ((f (xa, xb) : Nat) : Int) = fx at *
      unfold av at hen
      go_upto_region 5 with (fail)
      have f3 : Frm [] w2 (w2.alloc (.cells #[.int .i64 xa, .int .i64 xb] 25)) := (Frm.refl [] w2).alloc _
      have h3 := heap_alloc_new w2 (.cells #[.int .i64 xa, .int .i64 xb] 25)
      generalize w2.alloc (.cells #[.int .i64 xa, .int .i64 xb] 25) = w3 at *
      obtain ⟨g3, hg3⟩ : ∃ g3, w2.heap.size = g3 := ⟨_, rfl⟩
      rw [hg3] at h3 ⊢
      have G3 := Lib.hid hg3
      have F3 := Lib.hid f3
      have O3 := Lib.hid (O2.out.keep f3 (by simp))
      have RG3 := Lib.hid (ranges_frm RG2.out f3 (by simp) (by simp))
      have d0 : w3.cell? ⟨g3, 0, none⟩ = some (.int .i64 xa) := by rw [cell_of_heap h3]; rfl
      have d1 : w3.cell? ⟨g3, 1, none⟩ = some (.int .i64 xb) := by rw [cell_of_heap h3]; rfl
      clear hg3 f3 h3 hen
      go_upto_region 6 with (fail)
      refine (HC.out _ (HFW.out.trans F3.out (by simp))).mono ?_
      rintro e w4 ⟨rfl, hw4⟩
      obtain rfl := hw4.symm
      cases q with
      | false =>
        have hnew : WhRel p f D b r n w1 (.slice a3 ss.length c3) w3 := ⟨_, cnt2, met ++ [(xa, xb)], sp, RG3.out, ST.out, by have := C.out; have := LT.out; simp; omega, by rw [FL.out]; simpa using O3.out, FR.out, F2.out.trans F3.out (by simp)⟩
        have hme : w3.rangeLeft b r < wr.rangeLeft b r := by rw [RG3.out.left_eq, RG.out.left_eq]; exact LT.out
        have HNW := Lib.hid hnew
        have HME := Lib.hid hme
        clear hnew hme
        go_wp2_with fail
        go_roundw
        case rel => exact HNW.out
        case measure => exact HME.out
      | true =>
        have hbr : ∀ i ∈ blk (.slice a3 ss.length c3), w1.heap.size ≤ i := FR.out
        have HBR := Lib.hid hbr
        have HSL := Lib.hid (show ss.length ≤ met.length by have h2 := List.length_filter_le (fun x => p (f x)) met; rw [SS.out] at h2; exact h2)
        clear hbr
        go_wp2_with (at_builtin; refine wpList_append_ads AT' (O3.out.keep ((Frm.refl [] _).alloc _) (by simp)) (sla_one' (x := (xa, xb)) (heap_alloc_at (by simp))) (by have := C.out; have := HN.out; have := HSL.out; simp; omega) rfl (.tmp 18) (.tmp 20) rfl rfl rfl ?_; intro a4 cap4 w4 sp4 o4 f4 n4)
        have hf4 : Frm (blk (.slice a3 ss.length c3)) w3 w4 := ((Frm.refl _ _).alloc _).trans f4 (fun i hi => .inl hi)
        have hr4 := ranges_frm RG3.out hf4 (fun h => by have := HBR.out _ h; have := LQ.out; omega) (fun h => by have := HBR.out _ h; have := LQ.out; omega)
        have hnew : WhRel p f D b r n w1 (.slice a4 (ss.length + 1) cap4) w4 := ⟨_, cnt2, met ++ [(xa, xb)], sp4, hr4, ST.out, by have := C.out; have := LT.out; simp; omega, by rw [FL.out]; simpa using o4, fun i hi => by
          rcases n4 i (by simpa using hi) with h | h
          · exact HBR.out i h
          · have := (F2.out.trans F3.out (by simp)).size; simp at h; omega, (F2.out.trans F3.out (by simp)).trans hf4 (fun i hi => .inr (HBR.out i hi))⟩
        have hme : w4.rangeLeft b r < wr.rangeLeft b r := by rw [hr4.left_eq, RG.out.left_eq]; exact LT.out
        have HNW := Lib.hid hnew
        have HME := Lib.hid hme
        clear hf4 hr4 hnew hme o4 f4 n4
        go_wp2_with fail
        go_roundw
        case rel => exact HNW.out
        case measure => exact HME.out
end Go.Proofs.Ytafedmahehbggaa
