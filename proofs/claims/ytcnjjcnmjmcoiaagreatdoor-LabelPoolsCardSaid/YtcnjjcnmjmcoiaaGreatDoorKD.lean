/-
  A map's entry counted up by one, in parts. No conditions but those that each theorem names.
-/
import Derived.Test.YtcnjjcnmjmcoiaaGreatDoorKI
import Derived.WideKeyEntry
namespace Go.Proofs.YtcnjjcnmjmcoiaaGreatDoor
open Go.RowKit Go.Maps Go.MapKept Go.ChangeMaps Go.WideElems
set_option linter.unusedVariables false
set_option linter.unusedSimpArgs false
set_option maxRecDepth 100000

theorem klaw26 : WideMaps.KeyLaw Tryz.prog 26 := deep_law_laid (by kernel_rfl : laidOutB Tryz.prog = true) (m := 2) (by omega) (of_decide_eq_true (by kernel_rfl)) (by kernel_rfl) wide26
/-- The entry that a map's place for a key is: what a look-up gives lies there, and an update by that leaves the same map. -/
theorem entry_look {H : Type} {P : Program} {w : World} {t k e : TypeId} {R : Value → Option (DataW H × List MemPlace)} {b : Nat} {es : Array MapEntry} {clock : Nat} (K : WideMaps.KeyLaw P k) (ht : P.underlying t = some (.map k e)) {z : Value} (hz : ∀ u : World, (zeroValue e).run P u = .ok z u) (hb : w.heap[b]? = some (.map es clock)) (F : Fit P k R es clock)
    {key : Value} {kl : Lit} (hkey : keyOf P k key = some kl) :
    ∃ (v0 : Value) (st : Nat) (es1 : Array MapEntry) (clock1 : Nat), (Instr.mapEntry t (.map (some b)) key).run P w = .ok (.tuple #[v0, goInt st]) (setBlock w b (.map es1 clock1)) ∧
      (Instr.lookup t (.map (some b)) key false).run P w = .ok v0 w ∧ (Instr.mapUpdate t (.map (some b)) key v0).run P w = .ok () (setBlock w b (.map es1 clock1)) := by
  rcases K.find w hkey es.toList F.keys with ⟨h1, h2⟩ | ⟨j, e0, h1, h2, h3⟩
  · refine ⟨z, clock, es.push ⟨key, z, clock⟩, clock + 1, ?_, ?_, ?_⟩
    · simp [Instr.mapEntry, run_underlying ht, MapKept.run_getObj_map hb, K.check w false hkey, h1, hz, MapKept.run_setObj_map _ hb, Result.andThen, setBlock]
    · simp [Instr.lookup, run_underlying ht, MapKept.run_getObj_map hb, K.check w, hkey, h1, hz, Result.andThen]
    · simp [Instr.mapUpdate, run_underlying ht, MapKept.run_getObj_map hb, K.check w false hkey, h1, MapKept.run_setObj_map _ hb, Result.andThen, setBlock]
  · have hj : es[j]? = some e0 := by simpa using h2
    have same1 : ∀ f : MapEntry → MapEntry, f e0 = e0 → es.modify j f = es := fun f hf => by
      apply Array.ext'
      rw [Array.toList_modify, modify_eq_set _ _ _ _ h2, hf]
      exact set_self _ _ _ h2
    have s1 := same1 (fun e => { e with key := key }) (by rw [← h3])
    have s2 := same1 (fun e => { e with key := key, val := e0.val }) (by rw [← h3])
    refine ⟨e0.val, e0.born, es, clock, ?_, ?_, ?_⟩
    · simp [Instr.mapEntry, run_underlying ht, MapKept.run_getObj_map hb, K.check w false hkey, h1, hj, h3, K.stays w hkey, s1, MapKept.run_setObj_map _ hb, Result.andThen, setBlock]
    · simp [Instr.lookup, run_underlying ht, MapKept.run_getObj_map hb, K.check w, hkey, h1, Result.andThen]
    · simp [Instr.mapUpdate, run_underlying ht, MapKept.run_getObj_map hb, K.check w false hkey, h1, hj, h3, K.stays w hkey, s2, MapKept.run_setObj_map _ hb, Result.andThen, setBlock]

/-- What counting an ID up by one does, in the parts that the program does it in, in either order. -/
structure Stp (W : World) (b nn : Nat) (S : List IdT) (x : IdT) (c : Int) (st : Nat) (W2 W3 : World) (D3 : DataW Unit) : Prop where
  look : (Instr.lookup 53 (.map (some b)) (vI x) false).run Tryz.prog W = .ok (.int .i64 c) W
  entry : (Instr.mapEntry 53 (.map (some b)) (vI x)).run Tryz.prog W = .ok (.tuple #[.int .i64 c, .int .i64 st]) W2
  look2 : (Instr.lookup 53 (.map (some b)) (vI x) false).run Tryz.prog W2 = .ok (.int .i64 c) W2
  store : (Instr.entryStore 53 (.map (some b)) (.int .i64 st) (.int .i64 (c + 1))).run Tryz.prog W2 = .ok () W3
  own : W3.ownsMap Tryz.prog 26 (plainElem (H := Unit) Tryz.prog 3) b (nn + 1) D3
  cnt : CntD D3 (S ++ [x])
  grown2 : W.grownBy W2 (some b)
  grown : W.grownBy W3 (some b)
theorem count_step {W : World} {b nn : Nat} {D : DataW Unit} {S : List IdT} (hown : W.ownsMap Tryz.prog 26 (plainElem (H := Unit) Tryz.prog 3) b nn D) (hC : CntD D S) (hn : nn < maxLen) (x : IdT) (hs : S.length ≤ 100000000) :
    ∃ st W2 W3 D3, Stp W b nn S x (S.count x : Nat) st W2 W3 D3 := by
  have hz : ∀ u : World, (zeroValue 3).run Tryz.prog u = .ok (.int .i64 0) u := fun u => Tryz.zeroValue3 u
  have hcl : S.count x ≤ S.length := List.count_le_length
  have hw0 : (Lit.int .i64 ((S.count x : Nat) : Int)).wf = true := WalkArith.wf_i64 (by omega)
  have hw1 : (Lit.int .i64 (((S.count x : Nat) : Int) + 1)).wf = true := WalkArith.wf_i64 (by omega)
  obtain ⟨es, clock, hb, F, hsz, hD⟩ := id hown
  obtain ⟨v0, st, es1, clock1, e1, e2, e3⟩ := entry_look klaw26 Tryz.underlying53 hz hb F (key_I x)
  obtain ⟨v0', st', es1', clock1', f1, _, f3⟩ := entry_then_store klaw26 Tryz.underlying53 hz hb F (key_I x)
  have hh := e1.symm.trans f1
  simp only [Result.ok.injEq, Value.tuple.injEq, Array.mk.injEq, List.cons.injEq, and_true] at hh
  obtain ⟨⟨rfl, hst⟩, hsb⟩ := hh
  obtain rfl : st = st' := by
    simp only [goInt, Value.int.injEq, true_and] at hst
    omega
  have hb1 := heap_setBlock_same hb (.map es1 clock1)
  have hb1' : (setBlock W b (.map es1 clock1)).heap[b]? = some (.map es1' clock1') := by rw [hsb]; exact heap_setBlock_same hb _
  obtain ⟨c, g1, g2, g3⟩ := hown.lookup_int law26 Tryz.underlying53 Tryz.underlying3 (hz W) (key_I x)
  have hc : c = ((S.count x : Nat) : Int) := by
    have := g2.symm.trans (hC x).2
    simpa using this
  subst hc
  obtain rfl : v0 = .int .i64 ((S.count x : Nat) : Int) := by
    have := e2.symm.trans g1
    simpa using this
  obtain ⟨Wu, u1, u2, u3⟩ := hown.update law26 Tryz.underlying53 hn (key_I x) (plainElem_int Tryz.underlying3 hw0)
  obtain rfl : setBlock W b (.map es1 clock1) = Wu := by
    have := e3.symm.trans u1
    simpa using this
  obtain ⟨c2, k1, k2, k3⟩ := u2.lookup_int law26 Tryz.underlying53 Tryz.underlying3 (hz _) (key_I x)
  have hc2 : c2 = ((S.count x : Nat) : Int) := by
    rw [Maps.atKey_put_same hown.isMap (kI_key x)] at k2
    simpa using k2.symm
  subst hc2
  obtain ⟨es', clock', s1, s2⟩ := f3 (setBlock W b (.map es1 clock1)) (.int .i64 (((S.count x : Nat) : Int) + 1)) hb1'
  obtain ⟨W3, t1, t2, t3⟩ := hown.update law26 Tryz.underlying53 hn (key_I x) (plainElem_int Tryz.underlying3 hw1)
  obtain rfl : setBlock W b (.map es' clock') = W3 := by
    have := s2.symm.trans t1
    simpa using this
  have hbb : setBlock (setBlock W b (.map es1 clock1)) b (.map es' clock') = setBlock W b (.map es' clock') := by simp [setBlock]
  rw [hbb] at s1
  exact ⟨st, _, _, _, ⟨g1, e1, k1, s1, t2, hC.put hown.isMap x, u3, t3⟩⟩
end Go.Proofs.YtcnjjcnmjmcoiaaGreatDoor
