/-
  Contracts of Check, of the program and of the answer of the document. No conditions but those that each theorem names.
-/
import Derived.Test.YtjjcjocomanohaaPD
import Derived.Test.YtjjcjocomanohaaP6
namespace Go.Proofs.Ytjjcjocomanohaa
open Go.RowKit
set_option linter.unusedVariables false
set_option linter.unusedSimpArgs false
set_option maxRecDepth 100000

def adOkB (l : List Ad) (j : Nat) : Bool := match l[j]? with
  | none => true
  | some x => decide ((0 ≤ x.1 ∧ x.1 ≤ 7) ∧ (5 ≤ x.2 ∧ x.2 ≤ 4095)) && (List.range j).all (fun i => match l[i]? with | none => true | some y => x.1 != y.1)
def mayRestB (p : Pt) : Bool := decide (1 ≤ p.ads.length ∧ p.ads.length ≤ 3) && (List.range p.ads.length).all (adOkB p.ads) && decide (1 ≤ p.b ∧ p.b ≤ 2147483648) && decide (0 ≤ p.l ∧ p.l ≤ 3)
def mayB (p : Pt) : Bool := hole p || mayRestB p
theorem adOkB_iff (l : List Ad) (j : Nat) : adOkB l j = true ↔ adOk l j := by
  unfold adOkB adOk
  cases h : l[j]? with
  | none => simp
  | some x =>
    simp only [Bool.and_eq_true, decide_eq_true_eq, List.all_eq_true, List.mem_range, Option.some.injEq]
    constructor
    · rintro ⟨h1, h2⟩ y rfl
      refine ⟨h1.1, h1.2, fun i hi z hz => ?_⟩
      have := h2 i hi
      rw [hz] at this
      simpa using this
    · intro h2
      obtain ⟨k1, k2, k3⟩ := h2 x rfl
      refine ⟨⟨k1, k2⟩, fun i hi => ?_⟩
      cases hz : l[i]? with
      | none => rfl
      | some y => simpa using k3 i hi y hz
theorem adsOk_iff (l : List Ad) : (List.range l.length).all (adOkB l) = true ↔ AdsOk l := by
  simp only [List.all_eq_true, List.mem_range, adOkB_iff]
  exact ⟨fun h j hj => h j hj, fun h j hj => h j hj⟩
theorem mayRestB_iff (p : Pt) : mayRestB p = true ↔ MayRest p := by
  simp only [mayRestB, MayRest, Bool.and_eq_true, decide_eq_true_eq, adsOk_iff, and_assoc]
theorem mayB_iff (p : Pt) : mayB p = true ↔ may p := by simp only [mayB, may, Bool.or_eq_true, mayRestB_iff]
theorem mayB_not (p : Pt) : mayB p = false ↔ ¬ may p := by rw [← mayB_iff]; simp
/-- What Check tells. -/
def chk (p : Pt) : Int := if mayB p = true then 0 else 2
theorem enter_of {P : Program} {f : FuncId} {fn : Func} (hf : P.funcs[f]? = some fn) (hname : (fn.name == "runtime.NumGoroutine") = false) (hb : fn.body.isSome = true) (args : Array Value) (w : World) :
    (callFunc f args).run P w = .ok (.enter f args) w := by
  have h1 : fn.name ≠ "runtime.NumGoroutine" := by simpa using hname
  obtain ⟨c, hc⟩ := Option.isSome_iff_exists.1 hb
  simp [callFunc, hf, h1, hc]
set_option maxHeartbeats 1000000 in
theorem check1_any (g : Nat) (a : Option Addr) (cap : Nat) (p : Pt) (sp : List Ad) (w : World) (hb : PB w g (.slice a p.ads.length cap) p.b p.l p.s) (hS : SlA w (.slice a p.ads.length cap) p.ads sp) (hs : p.s.length = 32) (hl : p.ads.length ≤ 1000000) :
    Calls Try.prog 52 #[.pointer (some ⟨g, 0, none⟩)] w (MayP p w) := by
  have hD := fun W (f : Frm [] w W) => demandMay_any (pv (.slice a p.ads.length cap) p.b p.l p.s) p W ⟨a, cap, sp, rfl, hS.keep f (by simp), hs⟩ hl
  have G := Lib.hid (hb.gets hs)
  have HD := Lib.hid hD
  clear hD hS hb
  generalize p.ads.length = n at *
  go_enter Try.func52, Try.ntmps52
  go_wp2_with (first | ((with_reducible (show wpList _ _ _ (Oper.mk _ (Op.load 26 _) _ _ _ _ :: _) _ _)); refine wpList_load_g (by rfl) 26 _ rfl _ rfl G.out.all ?_) | (go_at_call 53; refine (HD.out _ (Frm.refl [] w)).mono ?_; rintro r w2 ⟨⟨rfl, hb⟩ | ⟨rfl, hb⟩, f2⟩; rotate_left; exact ⟨rfl, Or.inr ⟨rfl, hb⟩, f2⟩))
  go_end0
  exact ⟨Or.inl ⟨rfl, hb⟩, f2⟩
theorem field40 (a b : Value) (W : World) : (Instr.field 40 (.agg #[a, b]) 0).run Try.prog W = .ok a W := by kernel_rfl
set_option maxHeartbeats 1000000 in
theorem Check_any (x : Value) (p : Pt) (w : World) (hp : PtV w x p) (hl : p.ads.length ≤ 1000000) :
    Calls Try.prog 18 #[x] w fun e w' => e = .returned (.int .i64 (chk p)) ∧ Frm [] w w' := by
  obtain ⟨a, cap, sp, rfl, hS, hs⟩ := hp
  have B1 := PB.new w (.slice a p.ads.length cap) p.b p.l p.s
  have f : Frm [] w (w.alloc (.cells (pc (.slice a p.ads.length cap) p.b p.l p.s).toArray 26)) := (Frm.refl [] w).alloc _
  have hS1 := hS.keep f (by simp)
  unfold pv
  have hD := fun W (f1 : Frm [] (w.alloc (.cells (pc (.slice a p.ads.length cap) p.b p.l p.s).toArray 26)) W) => check1_any w.heap.size a cap p sp W (B1.keep f1 (by simp)) (hS1.keep f1 (by simp)) hs hl
  generalize hA : (pc (.slice a p.ads.length cap) p.b p.l p.s).toArray = A at *
  generalize p.ads.length = n at *
  have hmf : ∀ (fn : Fn) (first cap : Array Value) (w : World), (Instr.makeFunc fn first cap).run Try.prog w = .ok (.func fn first cap) w := fun _ _ _ _ => rfl
  have HD := Lib.hid hD
  clear hD hA hS hS1 B1
  go_enter Try.func18, Try.ntmps18
  go_upto_region 1 with (fail)
  have hwz : w.heap.size < (w.alloc (.cells A 26)).heap.size := by simp
  generalize w.alloc (.cells A 26) = W at *
  cases hm : mayB p with
  | true =>
    have hmay := (mayB_iff p).1 hm
    have hc : chk p = 0 := by simp [chk, hm]
    have HCc := Lib.hid hc
    clear hc
    have hF := faultOf_ret 52 #[.pointer (some ⟨w.heap.size, 0, none⟩)] (fun z => Frm [] W z) W (fun w => enter_of Try.func52 (by kernel_rfl) (by kernel_rfl) _ w) (fun w1 f1 => (HD.out w1 f1).mono (by
      rintro e w' ⟨⟨rfl, _⟩ | ⟨rfl, hn⟩, f2⟩
      · exact ⟨rfl, f2, f1.trans f2 (by simp)⟩
      · exact absurd hmay hn))
    have HF := Lib.hid hF
    clear hF
    have hf40 := field40
    go_wp2_with (go_at_call 51; refine HF.out.mono ?_; rintro r w2 ⟨rfl, w1, f1, f2⟩)
    go_ret
    exact ⟨by rw [HCc.out]; rfl, f.trans (f1.trans f2 (by simp)) (by simp)⟩
  | false =>
    have hmay := (mayB_not p).1 hm
    have hc : chk p = 2 := by simp [chk, hm]
    have HCc := Lib.hid hc
    clear hc
    have hF := faultOf_gave 52 #[.pointer (some ⟨w.heap.size, 0, none⟩)] 2 0 W (fun w => enter_of Try.func52 (by kernel_rfl) (by kernel_rfl) _ w) (fun w1 f1 => (HD.out w1 f1).mono (by
      rintro e w' ⟨⟨rfl, hy⟩ | ⟨rfl, hn⟩, f2⟩
      · exact absurd hy hmay
      · exact ⟨rfl, f2⟩))
    have HF := Lib.hid hF
    clear hF
    have hf40 := field40
    go_wp2_with (go_at_call 51; refine HF.out.mono ?_; rintro r w2 ⟨rfl, f1⟩)
    go_ret
    exact ⟨by rw [HCc.out]; rfl, f.trans f1 (by simp)⟩
end Go.Proofs.Ytjjcjocomanohaa
