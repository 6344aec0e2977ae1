/-
  Contracts of the document's Choose and Many. No conditions but those that each theorem names.
-/
import Derived.Test.YtojchfpfemofkaaT1
namespace Go.Proofs.Ytojchfpfemofkaa
open Go.RowKit
set_option linter.unusedVariables false
set_option linter.unusedSimpArgs false
set_option maxRecDepth 100000

/-- append's step, where a slice's length has a name of its own. -/
theorem wpList_append_n {α : Type} {enc : α → List Value} {k : Nat} {T : TypeId} {w : World} {l m : List α} {sp msp : List Value} {n nn : Nat} {p : Option Addr} {cap : Nat} (E : Enco enc k) {P : Program} {tS : TypeId} {by' : Nat} (B : RowTys P tS T k by') {ops : Array Oper} {rest : List Oper} {o : Oper} {a : Act} {Q : Exit → Act → World → Prop}
    {y : Value} (hO : OwnE enc k T w (.slice p n cap) l sp) (hS : SlE enc k w y m msp) (hnn : n + m.length = nn) (hb : nn ≤ 1000000000) (hby : by' ≤ 1000)
    (hg : o.guard = none) (s x : Operand) (hop : o.op = Op.call { callee := Callee.builtin Builtin.append, args := #[s, x], argTypes := #[tS, tS] }) (hs : a.eval s = .slice p n cap) (hx : a.eval x = y)
    (kk : ∀ a' cap' w' sp', OwnE enc k T w' (.slice a' nn cap') (l ++ m) sp' → Frm (blk (.slice p n cap)) w w' → (∀ i ∈ blk (.slice a' nn cap'), i ∈ blk (.slice p n cap) ∨ w.heap.size ≤ i) →
      wpList P ops Q rest (a.put o.dst (.slice a' nn cap')) w') :
    wpList P ops Q (o :: rest) a w := by
  obtain ⟨a3, cap3, h3, _, _⟩ := hO.sl.form
  cases h3
  subst hnn
  exact wpList_append_e E B hO hS hb hby hg s x hop hs hx kk
theorem sli_one {W : World} {g : Nat} {y : Int} (h : W.heap[g]? = some (.cells #[.int .i64 y] 3 (0, 0))) : SlI W (.slice (some ⟨g, 0, none⟩) 1 1) [y] [] := SlE.of_block encI (by rw [h]; rfl) rfl (by omega)
theorem app_new {w W w5 : World} {v v' : Value} {o : Obj} (N : ∀ i ∈ blk v, w.heap.size ≤ i) (F : Frm [] w W) (f5 : Frm (blk v) (W.alloc o) w5) (b5 : ∀ i ∈ blk v', i ∈ blk v ∨ (W.alloc o).heap.size ≤ i) : Frm [] w w5 ∧ ∀ i ∈ blk v', w.heap.size ≤ i := by
  have F1 := F.alloc o
  refine ⟨F1.trans f5 fun i hi => .inr (N i hi), fun i hi => ?_⟩
  rcases b5 i hi with h | h
  · exact N i h
  · exact Nat.le_trans F1.size h
def CntRel2 (t : List Bool) (w0 : World) (uv cv : Value) (wr : World) : Prop := ∃ k : Nat, k ≤ t.length ∧ cv = .int .i64 k ∧ uv = .int .i64 (upN (t.take k)) ∧ wr = w0
def lenV : Value → Nat
  | .slice _ n _ => n
  | _ => 0
def OutRel (r : List Int) (wn : Nat) (w0 : World) (ov : Value) (wr : World) : Prop := ∃ (l : List Nat) (p : Option Addr) (n cap : Nat) (sp : List Value), ov = .slice p n cap ∧ n = l.length ∧ chs r l.length = some l ∧ l.length ≤ wn ∧ OwnI wr (.slice p n cap) (cz l) sp ∧ (∀ i ∈ blk (.slice p n cap), w0.heap.size ≤ i) ∧ Frm [] w0 wr
set_option maxHeartbeats 4000000 in
theorem RefChoose_any (v d : Value) (f : List Int) (t : List Bool) (c : Int) (sp dsp : List Value) (w : World) (hS : SlI w v f sp) (hT : SlO w d t dsp) (hl : f.length ≤ 12) (hl2 : t.length ≤ 12) :
    Calls Try.prog 12 #[v, d, .int .i64 c] w (ToldI w (cz (chA f t c).1) (chA f t c).2) := by
  have hC := RefCheck_any v d f t c sp dsp w hS hT hl hl2
  obtain ⟨a, cap, rfl, _, _⟩ := hS.form
  obtain ⟨a2, cap2, rfl, _, _⟩ := hT.form
  by_cases hF : Fine f t c
  · rw [chkC_fine hF] at hC
    have HC := Lib.hid hC
    have HF := Lib.hid hF
    have HS := Lib.hid hS
    have HT := Lib.hid hT
    have hwt : min c (upN t : Int) = ((wt c t : Nat) : Int) := by
      have := hF.c1
      unfold wt
      omega
    have HW := Lib.hid hwt
    have hl8 : ((t.length : Nat) : Int) ≤ 12 := by omega
    have HLT := Lib.hid (And.intro hl hl2)
    clear hC hS hT hl hl2 hF hwt
    go_enter Try.func12, Try.ntmps12
    go_wp2_with (first
      | (go_at_call 15; refine Calls.mono (HC.out) ?_; rintro ee W1 ⟨rfl, rfl⟩))
    clear HC
    go_loopw [9, 10] (CntRel2 t W1) (fun _ cv _ => t.length - (intOf cv).toNat)
    case atStart => exact ⟨0, by omega, rfl, rfl, rfl⟩
    case round =>
      obtain ⟨k, hk, rfl, rfl, rfl⟩ := hrel
      by_cases hlt : k < t.length
      · obtain ⟨b1, off1, rfl⟩ := HT.out.at (by omega)
        have c1 := cellO HT.out k hlt
        have hus := upN_step t k hlt
        have hub := upN_le (t.take k)
        have htl : (t.take k).length = k := by simp; omega
        cases hb : t[k] with
        | true =>
          rw [hb, if_pos rfl] at hus
          rw [hb] at c1
          generalize upN (t.take k) = u at *
          have hw1 : IntKind.i64.wrap ((u : Int) + 1) = (u : Int) + 1 := IntWalk.i64_in _ (by omega)
          have HU := Lib.hid hus
          clear hus hb hub htl
          go_wp2_with fail
          go_roundw
          case rel => exact ⟨k + 1, by omega, by go_num, by rw [HU.out]; go_num, rfl⟩
          case measure => simp [intOf]; omega
        | false =>
          rw [hb] at c1 hus
          simp only [Bool.false_eq_true, if_false] at hus
          have HU := Lib.hid hus
          clear hus hb hub htl
          generalize upN (t.take k) = u at *
          go_wp2_with fail
          go_roundw
          case rel => exact ⟨k + 1, by omega, by go_num, by rw [HU.out], rfl⟩
          case measure => simp [intOf]; omega
      · obtain rfl : k = t.length := by omega
        rw [List.take_length]
        by_cases hw0 : wt c t = 0
        · have hm0 : min c (upN t : Int) = 0 := by rw [HW.out, hw0]; rfl
          have HA := Lib.hid (chA_none HF.out (cho_lt (.inl hw0)))
          clear hw0
          go_wp2_with fail
          go_ret2
          rw [HA.out]
          exact ⟨_, [], rfl, OwnE.nil _ _ _ _, Frm.refl _ _, by simp [blk]⟩
        · have hm0 : (((wt c t : Nat) : Int) == 0) = false := by simp; omega
          have hmw := HW.out
          have HWP := Lib.hid (show wt c t ≠ 0 ∧ wt c t ≤ 3 from ⟨hw0, by have := HF.out.c3; unfold wt; omega⟩)
          have HA := Lib.hid (fun l (h : chs (rm f t) (wt c t) = some l) => chA_some HF.out (show cho (rm f t) (wt c t) = some l by unfold cho; rw [if_neg hw0]; exact h))
          have HNA := Lib.hid (fun (h : chs (rm f t) (wt c t) = none) => chA_none HF.out (show cho (rm f t) (wt c t) = none by unfold cho; rw [if_neg hw0]; exact h))
          have HBE := Lib.hid (fun x l xsp W h1 h2 h3 h4 => best_any (.slice a f.length cap) (.slice a2 t.length cap2) x f t l sp dsp xsp W h1 h2 h3 HLT.out.1 HF.out.tl h4)
          have hrl := rm_length f t
          clear hw0 HW
          generalize wt c t = wn at *
          generalize chA f t c = res at *
          generalize rm f t = r at *
          generalize upN t = u at *
          have hmn : (wn : Int) ≤ 3 := by have := HWP.out.2; omega
          go_wp2_with fail
          rw [hmw] at *
          clear hmw hm0
          go_loopw [12] (OutRel r wn wr) (fun ov _ => wn - lenV ov)
          case atStart => exact ⟨[], none, 0, 0, [], rfl, rfl, rfl, by simp, OwnE.nil _ _ _ _, by simp [blk], Frm.refl _ _⟩
          case round =>
            obtain ⟨l, p, n, cp, osp, rfl, rfl, hch, hln, o, nb, fr⟩ := hrel
            have HO := Lib.hid o
            have HN := Lib.hid nb
            have FR := Lib.hid fr
            have hll : l.length ≤ 12 := by have := HWP.out.2; omega
            by_cases hlt : l.length < wn
            · have HB := Lib.hid (HBE.out _ l _ _ (HS.out.keep0 fr) (HT.out.keep0 fr) o.sl hll)
              have hbs := bst_spec r l r.length
              cases hb : bst r l r.length with
              | none =>
                have HNO := Lib.hid (HNA.out (chs_none (show chs r (l.length + 1) = none by rw [chs]; simp only [hch, hb]) wn (by omega)))
                have hb' := hb
                rw [hrl] at hb'
                rw [hb'] at HB
                have HRL := Lib.hid hrl
                clear hrl hb'
                simp only [bz] at HB
                clear o nb fr hch hbs hb
                generalize l.length = ll at *
                go_wp2_with (go_at_call 26; refine Calls.mono (HB.out) ?_; rintro ee W1 ⟨rfl, f1⟩)
                go_ret2
                rw [HNO.out]
                exact ⟨_, [], rfl, OwnE.nil _ _ _ _, FR.out.trans f1 (by simp), by simp [blk]⟩
              | some m =>
                have HNX := Lib.hid (show chs r (l.length + 1) = some (l ++ [m]) by rw [chs]; simp only [hch, hb])
                have hb' := hb
                rw [hrl] at hb'
                rw [hb'] at HB
                have HRL := Lib.hid hrl
                clear hrl hb'
                simp only [bz] at HB
                clear o nb fr hch hbs hb
                go_wp2_with fail
                refine Calls.mono (HB.out) ?_
                rintro ee W1 ⟨rfl, f1⟩
                have O4 := Lib.hid ((HO.out.keep0 f1).keep0 ((Frm.refl [] W1).alloc (.cells #[.int .i64 (m : Int)] 3)))
                have S4 := Lib.hid (sli_one (heap_alloc_new W1 (.cells #[.int .i64 (m : Int)] 3)))
                have F4 := Lib.hid (FR.out.trans f1 (by simp))
                clear f1 HO
                have hbn : l.length + 1 ≤ 1000000000 := by omega
                have HL12 := Lib.hid hbn
                generalize hlg : l.length = ll at *
                have HLG := Lib.hid hlg
                clear hlg
                go_wp2_with (at_builtin; refine wpList_append_n encI tysI O4.out S4.out (nn := ll + 1) (by simp) HL12.out (by omega) rfl (.tmp 48) (.tmp 50) rfl rfl rfl ?_; intro a5 c5 w5 sp5 o5 f5 b5)
                go_roundw
                case rel =>
                  obtain ⟨q1, q2⟩ := app_new HN.out F4.out f5 b5
                  exact ⟨l ++ [m], a5, ll + 1, c5, sp5, rfl, by simp [HLG.out], by rw [List.length_append, HLG.out]; exact HNX.out, by simp [HLG.out]; omega, by simpa [cz] using o5, q2, q1⟩
                case measure => have := HLG.out; simp [lenV]; omega
            · obtain rfl : wn = l.length := by omega
              have HAA := Lib.hid (HA.out l hch)
              have hlt9 : ¬ (l.length : Int) < (l.length : Int) := by omega
              clear o nb fr hch
              go_wp2_with fail
              go_ret2
              rw [HAA.out]
              exact ⟨_, osp, rfl, HO.out, FR.out, HN.out⟩
  · rw [chkC_bad hF] at hC
    rw [chA_bad hF]
    have HC := Lib.hid hC
    clear hC hS hT hl hl2 hF
    go_enter Try.func12, Try.ntmps12
    go_wp2_with (first
      | (go_at_call 15; refine Calls.mono (HC.out) ?_; rintro ee W1 ⟨rfl, rfl⟩))
    go_ret2
    exact ⟨_, [], rfl, OwnE.nil _ _ _ _, Frm.refl _ _, by simp [blk]⟩
end Go.Proofs.Ytojchfpfemofkaa
