/-
  Contract of Holders. No conditions but those that each theorem names.
-/
import Derived.Test.YtafedmahehbggaaUZ
namespace Go.Proofs.Ytafedmahehbggaa
open Go.RowKit Go.Sort Go.Maps
set_option linter.unusedVariables false
set_option linter.unusedSimpArgs false
set_option maxRecDepth 100000

open Kr (OwnE SlE Enco RowTys)
open Kr (flt_cons flt_nil flt_length flt_oneCell flt_append flt_get)
theorem yieldsIf_ld {P : Program} {ops : Array Oper} {S : World → Prop} {op : Oper} {a : Act} (hw : Region.wanted op (yielded ops a.tmps) = true) (ty : TypeId) (x : Operand) (ho : op.op = .load ty x)
    (p : Addr) (hx : a.eval x = .pointer (some p)) {v : Value} (hl : ∀ w, S w → (Instr.loadAt ty (.pointer (some p))).run P w = .ok v w) : YieldsIf P ops S op v a :=
  .inl ⟨hw, fun w hS => by simp [execOp, ho, hx, hl w hS, Result.andThen]⟩
theorem load53 {w : World} {g : Nat} {c0 c1 c2 : Value} (h : w.heap[g]? = some (.cells #[c0, c1, c2] 53 (0, 0))) : (Instr.loadAt 53 (.pointer (some ⟨g, 0, none⟩))).run Try.prog w = .ok (.agg #[c0, c1, c2]) w :=
  run_loadAt_mid w g 0 53 [c0, c1, c2] _ (fun j u hu => by rw [Nat.zero_add, cell_of_heap h]; simpa using hu) Try.underlying53 rfl (by kernel_rfl)
theorem exec_lk_run {o : Oper} {a : Act} {w : World} {m k : Operand} {vm vk v : Value} (ho : o.op = .lookup 55 m k false) (hm : a.eval m = vm) (hk : a.eval k = vk) (h : (Instr.lookup 55 vm vk false).run Try.prog w = .ok v w) : (execOp a.eval o).run Try.prog w = .ok (.value v) w := by
  subst hm
  subst hk
  unfold execOp
  simp only [ho, Sem.run_bind, Sem.run_pure, h, Result.andThen_ok]
theorem BitW.look {w : World} {b n : Nat} {f : Ad → Nat} (h : BitW w b n f) {x : Ad} (hx : WfA x) : (Instr.lookup 55 (.map (some b)) (av x) false).run Try.prog w = .ok (.int .u64 (f x : Nat)) w := by
  obtain ⟨D, hown, hC⟩ := h
  obtain ⟨c, g1, g2, g3⟩ := hown.lookup_int law23 Try.underlying55 Try.underlying51 (Try.zeroValue51 w) (key_A hx)
  have hc : c = ((f x : Nat) : Int) := by
    have := g2.symm.trans (hC x hx).2
    simpa using this
  rw [hc] at g1; exact g1
/-- Numbers of the call's own. -/
def GotI (l : List Int) (w : World) (v : Value) (wr : World) : Prop := ∃ sp, OwnI wr v l sp ∧ ∀ i ∈ blk v, w.heap.size ≤ i
theorem GotI.keep {l : List Int} {w wr wr' : World} {v : Value} {L : List Nat} (h : GotI l w v wr) (f : Frm L wr wr') (hn : ∀ i ∈ blk v, i ∉ L) : GotI l w v wr' := by
  obtain ⟨sp, h1, h2⟩ := h
  exact ⟨sp, h1.keep f hn, h2⟩
def ToldN (w : World) (l : List Int) (e : Ending) (w' : World) : Prop := ∃ v sp, e = .returned v ∧ OwnI w' v l sp ∧ Frm [] w w' ∧ ∀ i ∈ blk v, w.heap.size ≤ i
def HoRel (L : List (List Ad)) (x : Ad) (v : Value) (z g g0 : Nat) (w : World) (d cv : Value) (wr : World) : Prop :=
  Row1 wr g v z ∧ wr.heap[g0]? = some (.cells #[.int .i64 x.1, .int .i64 x.2] 25 (0, 0)) ∧ Frm [] w wr ∧ ((cv = .int .i64 0 ∧ d = .slice none 0 0) ∨ (cv = .int .i64 1 ∧ GotI (who L x L.length) w d wr))
def HiRel (L : List (List Ad)) (x : Ad) (v : Value) (z g g0 g3 : Nat) (w : World) (d cv : Value) (wr : World) : Prop :=
  Row1 wr g v z ∧ wr.heap[g0]? = some (.cells #[.int .i64 x.1, .int .i64 x.2] 25 (0, 0)) ∧ wr.heap[g3]? = some (.cells #[.int .i64 0, v, .int .u64 (z : Int)] 53 (0, 0)) ∧ Frm [] w wr ∧ ∃ k : Nat, k ≤ L.length ∧ cv = .int .i64 k ∧ GotI (who L x k) w d wr
theorem own_blk {T k : Nat} {w : World} {v : Value} {n : Nat} {xs sp : List Value} (h : Own T k w v n xs sp) : ∀ i ∈ blk v, ∃ cs, w.heap[i]? = some (.cells cs T (0, 0)) := by
  obtain ⟨_, ⟨rfl, _, _⟩ | ⟨g, cap, rfl, _, _, _, hh⟩⟩ := h
  · intro i hi; simp [blk] at hi
  · intro i hi
    simp [blk] at hi
    subst hi
    exact ⟨_, hh⟩
theorem who_len (L : List (List Ad)) (x : Ad) : ∀ k, (who L x k).length ≤ k
  | 0 => by simp [who]
  | k + 1 => by
    have := who_len L x k
    rw [who_succ, List.length_append]
    split <;> simp <;> omega
set_option maxHeartbeats 8000000 in
theorem Holders_any (L : List (List Ad)) (v : Value) (x : Ad) (w : World) (hS : LsA w v L) (hL : Hs L) (hx : WfA x) :
    Calls Try.prog 21 #[v, av x] w (ToldN w (who L x L.length)) := by
  have f0 : Frm [] w (w.alloc (.cells #[.int .i64 x.1, .int .i64 x.2] 25)) := (Frm.refl [] w).alloc _
  have h00 := heap_alloc_new w (.cells #[.int .i64 x.1, .int .i64 x.2] 25)
  by_cases h0 : L.length = 0
  · obtain rfl : L = [] := List.eq_nil_of_length_eq_zero h0
    have HR := Lib.hid (rows_none v (.slice none 0 0) [] [] _ (hS.keep0 f0) (SlE.nil _ _ _) (by simp))
    have F0 := Lib.hid f0
    unfold av
    clear hS hL h0 f0 h00
    go_enter Try.func21, Try.ntmps21
    go_wp2_with fail
    generalize w.alloc (.cells #[.int .i64 x.1, .int .i64 x.2] 25) = w0 at *
    refine HR.out.mono ?_
    rintro e w1 ⟨rfl, f1⟩
    have F1 := Lib.hid (F0.out.trans f1 (by simp))
    clear f1 HR
    go_wp2_with fail
    go_loopw [5, 13] (fun d c wr => d = .slice none 0 0 ∧ c = .int .i64 0 ∧ wr = w1) (fun _ c _ => 0)
    case atStart => exact ⟨rfl, rfl, rfl⟩
    case round =>
      obtain ⟨rfl, rfl, rfl⟩ := hrel
      go_wp2_with fail
      go_ret
      exact ⟨_, [], rfl, OwnE.nil _ _ _ _, F1.out, by simp [blk]⟩
  · have HR := Lib.hid (rows_any L v (.slice none 0 0) [] [] _ (hS.keep0 f0) hL.n (by omega) (SlE.nil _ _ _) (by simp))
    have HS := Lib.hid hS
    have HL := Lib.hid hL
    have F0 := Lib.hid f0
    have H0 := Lib.hid h00
    have WX := Lib.hid hx
    obtain ⟨a, cap, rfl, hcap⟩ := hS.form
    have hL9 : (L.length : Int) ≤ 64 := by have := hL.n; omega
    unfold av
    clear hS hL hcap f0 h00 hx
    go_enter Try.func21, Try.ntmps21
    go_wp2_with fail
    generalize w.alloc (.cells #[.int .i64 x.1, .int .i64 x.2] 25) = w0 at *
    obtain ⟨g0, hg0⟩ : ∃ g0, w.heap.size = g0 := ⟨_, rfl⟩
    rw [hg0] at H0 ⊢
    have HG0 := Lib.hid hg0
    clear hg0
    refine HR.out.mono ?_
    rintro e w1 ⟨g, c1, rfl, hr, f1, ng⟩
    have R1 := Lib.hid hr
    have F1 := Lib.hid (F0.out.trans f1 (by simp))
    have H1 := Lib.hid (f1.heap H0.out (by simp))
    clear hr f1 ng HR H0
    go_wp2_with fail
    go_loopw [5, 13] (HoRel L x (.slice a L.length cap) (nb L.length []) g g0 w) (fun _ c _ => 1 - (intOf c).toNat)
    case atStart => exact ⟨R1.out, H1.out, F1.out, .inl ⟨rfl, rfl⟩⟩
    case round =>
      obtain ⟨hr, hx0, f, ⟨rfl, rfl⟩ | ⟨rfl, hg⟩⟩ := hrel
      · obtain ⟨c0, c1, c2, _⟩ := hr.cell
        have F := Lib.hid f
        have R := Lib.hid hr
        have HX0 := Lib.hid hx0
        clear f hr hx0
        generalize nb L.length [] = z at *
        go_upto_region 5 with (fail)
        have f3 : Frm [] wr (wr.alloc (.cells #[.int .i64 0, .slice a L.length cap, .int .u64 z] 53)) := (Frm.refl [] wr).alloc _
        have h3 := heap_alloc_new wr (.cells #[.int .i64 0, .slice a L.length cap, .int .u64 z] 53)
        have R3 := Lib.hid (R.out.keep f3 (by simp))
        have F3 := Lib.hid (F.out.trans f3 (by simp))
        have X3 := Lib.hid (f3.heap HX0.out (by simp))
        generalize wr.alloc (.cells #[.int .i64 0, .slice a L.length cap, .int .u64 z] 53) = w3 at *
        obtain ⟨g3, hg3⟩ : ∃ g3, wr.heap.size = g3 := ⟨_, rfl⟩
        rw [hg3] at h3 ⊢
        have H3 := Lib.hid h3
        clear c0 c1 c2 f3 h3 hg3 HX0
        refine wp_region_held_drew (S := fun z => Frm [] w3 z) (by kernel_rfl) ((Frm.refl [] w3).drew) (fun hHeld => ?_)
        refine wpAnyH_take (i := 0) (oi := { dst := some 17, op := Op.load 53 (Operand.tmp 7), type := 53, pos := "usage.go:50", after := #[], guard := none }) rfl (by kernel_rfl) (by kernel_rfl) (by kernel_rfl) (fun _ _ _ h => h) (yieldsIf_ld (by rfl) 53 _ rfl _ rfl (fun z hSw => load53 (hSw.heap H3.out (by simp)))) hHeld ?_
        try simp only [Act.put, List.setIfInBounds_toArray, List.set_cons_zero, List.set_cons_succ]
        refine wpAnyH_take (i := 2) (oi := { dst := some 19, op := Op.load 25 (Operand.tmp 3), type := 25, pos := "usage.go:50", after := #[], guard := none }) rfl (by kernel_rfl) (by kernel_rfl) (by kernel_rfl) (fun _ _ _ h => h) (yieldsIf_ld (by rfl) 25 _ rfl _ rfl (fun z hSw => load25 (hSw.heap X3.out (by simp)))) hHeld ?_
        try simp only [Act.put, List.setIfInBounds_toArray, List.set_cons_zero, List.set_cons_succ]
        refine wpAnyH_ready (rs := [1]) (by kernel_rfl) (by simp) ?_
        refine AllReadyH.cons (o := { dst := some 18, op := Op.call { callee := Callee.value (Operand.func 37), args := #[Operand.tmp 17], argTypes := #[53] }, type := 55, pos := "usage.go:50", after := #[{ on := 0, ground := Ground.data }], guard := none }) rfl (fun K hK => ?_) AllReadyH.nil
        go_simp
        refine (count_any L _ _ _ _ (HS.out.keep0 (F3.out.trans hHeld (by simp))) HL.out.n HL.out.l HL.out.w).mono ?_
        rintro e w4 ⟨b, n, rfl, hB, hn, f4, nb4⟩
        refine hK.out _ _ ?_ (fun hNext => ?_)
        · exact hHeld.trans f4 (by simp)
        clear hK K hHeld
        have hHeld := hNext
        clear hNext
        try simp only [Act.put, List.setIfInBounds_toArray, List.set_cons_zero, List.set_cons_succ]
        refine wpAnyH_ready (rs := [3]) (by kernel_rfl) (by simp) ?_
        refine AllReadyH.cons (o := { dst := some 20, op := Op.lookup 55 (Operand.tmp 18) (Operand.tmp 19) false, type := 51, pos := "usage.go:50", after := #[{ on := 1, ground := Ground.data }, { on := 2, ground := Ground.data }], guard := none }) rfl (fun K hK => ?_) AllReadyH.nil
        refine step_val (v := .int .u64 ((hb L x L.length : Nat) : Int)) (w' := w4) rfl (exec_lk_run rfl rfl rfl (BitW.look hB WX.out)) ?_
        refine hK.out _ _ ?_ (fun hNext => ?_)
        · exact hHeld
        clear hK K hHeld
        have hHeld := hNext
        clear hNext
        try simp only [Act.put, List.setIfInBounds_toArray, List.set_cons_zero, List.set_cons_succ]
        refine wpAnyH_take (i := 4) (oi := { dst := some 8, op := Op.assign (Operand.tmp 20), type := 51, pos := "usage.go:50", after := #[{ on := 3, ground := Ground.data }, { on := 1, ground := Ground.chain }, { on := 0, ground := Ground.phase }, { on := 1, ground := Ground.phase }, { on := 2, ground := Ground.phase }, { on := 3, ground := Ground.phase }], guard := none }) (v := ?_) rfl (by kernel_rfl) (by kernel_rfl) (by kernel_rfl) (fun _ _ _ h => h) (Or.inl ⟨by rfl, ?_⟩) hHeld ?_
        rotate_left
        focus (intro z hSw; clear hSw; go_simp; try with_reducible rfl)
        try simp only [Act.put, List.setIfInBounds_toArray, List.set_cons_zero, List.set_cons_succ]
        refine wpAnyH_done (by kernel_rfl) ?_ _
        have F4 := Lib.hid (F3.out.trans hHeld (by simp))
        have R4 := Lib.hid (R3.out.keep hHeld (by simp))
        have H4 := Lib.hid (hHeld.heap H3.out (by simp))
        have X4 := Lib.hid (hHeld.heap X3.out (by simp))
        clear hHeld hB hn nb4 f4 R3 H3 X3
        have d1 : w4.cell? ⟨g3, 1, none⟩ = some (.slice a L.length cap) := by rw [cell_of_heap H4.out]; rfl
        go_wp2_with fail
        clear d1
        go_loopw [5, 24] (HiRel L x (.slice a L.length cap) z g g0 g3 w) (fun _ c _ => L.length - (intOf c).toNat)
        case atStart => exact ⟨R4.out, X4.out, H4.out, F4.out, 0, by omega, rfl, [], OwnE.nil _ _ _ _, by simp [blk]⟩
        case round =>
          obtain ⟨hr, hx0, h3, f, k, hk, rfl, sp, o, nf⟩ := hrel
          have hwl := who_len L x k
          have hws := who_succ L x k
          have HHB := Lib.hid (fun W (hk : k < L.length) => has2_any (hb L x L.length) k (HL.out.lt x) (by have := HL.out.n; omega) W)
          have hbb := hb_bit L x k L.length
          obtain ⟨q, hq⟩ : ∃ q, (hb L x L.length).testBit k = q := ⟨_, rfl⟩
          rw [hq] at HHB hbb
          clear hq
          generalize ((hb L x L.length : Nat) : Int) = y at *
          obtain ⟨wl, hwl2⟩ : ∃ wl, who L x k = wl := ⟨_, rfl⟩
          rw [hwl2] at o hwl hws
          obtain ⟨b5, c5, rfl, _, _⟩ := o.sl.form
          have d0 : wr.cell? ⟨g3, 0, none⟩ = some (.int .i64 0) := by rw [cell_of_heap h3]; rfl
          have R := Lib.hid hr
          have X := Lib.hid hx0
          have H := Lib.hid h3
          have F := Lib.hid f
          have O := Lib.hid o
          have NF := Lib.hid nf
          have WS := Lib.hid hws
          have WL := Lib.hid hwl
          have W2 := Lib.hid hwl2
          have HB9 := Lib.hid hbb
          clear hr hx0 h3 f o nf hws hwl hwl2 hbb
          by_cases hlt : k < L.length
          · have hkk : IntKind.i64.wrap ((0 : Int) + (k : Int)) = (k : Int) := by rw [IntWalk.i64_in _ (by omega)]; omega
            go_wp2_with fail
            refine (HHB.out _ hlt).mono ?_
            rintro e w9 ⟨rfl, hw9⟩
            obtain rfl := hw9.symm
            cases q with
            | false =>
              have hn : who L x (k + 1) = wl := by
                have h9 := HB9.out
                have : ¬ x ∈ L.getD k [] := fun h => by
                  rw [decide_eq_true (show k < L.length ∧ x ∈ L.getD k [] from ⟨hlt, h⟩)] at h9; cases h9
                rw [WS.out, if_neg this, List.append_nil]
              have HN := Lib.hid hn
              clear hn
              go_wp2_with fail
              go_roundw
              case rel => exact ⟨R.out, X.out, H.out, F.out, k + 1, by omega, by go_num, sp, by rw [HN.out]; exact O.out, NF.out⟩
              case measure => simp [intOf]; omega
            | true =>
              have hn : who L x (k + 1) = wl ++ [(k : Int)] := by
                have h9 := HB9.out.symm
                simp only [decide_eq_true_eq] at h9
                rw [WS.out, if_pos h9.2]
              have HN := Lib.hid hn
              clear hn
              have f1 : Frm [] wr (wr.alloc (.cells #[.int .i64 (k : Int)] 3)) := (Frm.refl [] wr).alloc _
              have F1 := Lib.hid f1
              have O1 := Lib.hid (O.out.keep0 f1)
              have I1 := Lib.hid (one_int wr (k : Int))
              have R1 := Lib.hid (R.out.keep f1 (by simp))
              have X1 := Lib.hid (f1.heap X.out (by simp))
              have H1 := Lib.hid (f1.heap H.out (by simp))
              clear f1
              go_wp2_with (at_builtin; refine Kr.wpList_append_e encI tysI O1.out I1.out (by have := WL.out; simp; omega) (by decide) rfl (.tmp 30) (.tmp 35) rfl rfl rfl ?_; intro a6 cap6 w6 sp6 o6 f6 n6)
              have hfw : w.heap.size ≤ (wr.alloc (.cells #[.int .i64 (k : Int)] 3)).heap.size := (F.out.trans F1.out (by simp)).size
              have hob := own_blk O1.out
              have q1 : g ∉ blk (.slice b5 wl.length c5) := fun h => by obtain ⟨cs, hc⟩ := hob _ h; obtain ⟨sp', hr'⟩ := R1.out; rw [hr'] at hc; cases hc
              have q2 : g0 ∉ blk (.slice b5 wl.length c5) := fun h => by obtain ⟨cs, hc⟩ := hob _ h; rw [X1.out] at hc; cases hc
              have q3 : g3 ∉ blk (.slice b5 wl.length c5) := fun h => by obtain ⟨cs, hc⟩ := hob _ h; rw [H1.out] at hc; cases hc
              have O6 := Lib.hid (show GotI (who L x (k + 1)) w (.slice a6 (wl.length + 1) cap6) w6 from ⟨sp6, by rw [HN.out]; exact o6, fun i hi => by
                rcases n6 i hi with h | h
                · exact NF.out i h
                · omega⟩)
              have F6 := Lib.hid ((F.out.trans F1.out (by simp)).trans f6 (fun i hi => .inr (NF.out i hi)))
              have R6 := Lib.hid (R1.out.keep f6 q1)
              have X6 := Lib.hid (f6.heap X1.out q2)
              have H6 := Lib.hid (f6.heap H1.out q3)
              clear o6 f6 n6 q1 q2 q3 hob
              go_wp2_with fail
              go_roundw
              case rel => exact ⟨R6.out, X6.out, H6.out, F6.out, k + 1, by omega, by go_num, O6.out⟩
              case measure => simp [intOf]; omega
          · obtain rfl : k = L.length := by omega
            go_wp2_with fail
            go_roundw
            case rel => exact ⟨R.out, X.out, F.out, .inr ⟨rfl, sp, by rw [W2.out]; exact O.out, NF.out⟩⟩
            case measure => decide
      · obtain ⟨sp, o, nf⟩ := hg
        have F := Lib.hid f
        obtain ⟨b5, c5, rfl, _, _⟩ := o.sl.form
        have O := Lib.hid (And.intro o nf)
        clear f hr o nf hx0
        go_wp2_with fail
        go_ret
        exact ⟨_, sp, rfl, O.out.1, F.out, O.out.2⟩
end Go.Proofs.Ytafedmahehbggaa
