/-
  What the contracts tell at examples. No conditions but those that each theorem names.
-/
import Derived.Test.YtgbgpmdhlocjhaaE4
namespace Go.Proofs.Ytgbgpmdhlocjhaa
open Go.RowKit
set_option linter.unusedVariables false
set_option linter.unusedSimpArgs false
set_option maxRecDepth 100000

/-- A yes that leaves all as it was. -/
def Yes (w : World) (e : Ending) (w' : World) : Prop := e = .returned (.bool true) ∧ Frm [] w w'
theorem sli_lit {W : World} {g n : Nat} {l : List Int} (h : W.heap[g]? = some (.cells (flt iE l).toArray 3 (0, 0))) (hn : n = l.length) (hm : n ≤ 1000) : SlI W (.slice (some ⟨g, 0, none⟩) n n) l [] := SlE.of_block encI h hn (by omega)
theorem lit_of (l : List Ex) {W : World} {n : Nat} {cs : Array Value} (hc : cs = (flt iE (prs l)).toArray) (hn : n = (prs l).length) (hl : l.length ≤ 300) : Calls Try.prog 35 #[.slice (some ⟨W.heap.size, 0, none⟩) n n] (W.alloc (.cells cs 3)) (Told1 (W.alloc (.cells cs 3)) l) := by
  have h := prs_length l
  exact of_any l _ [] _ (sli_lit (by rw [← hc]; exact heap_alloc_new _ _) hn (by omega)) (by omega)
theorem lit_is (l : List Ex) {W : World} {n : Nat} {cs : Array Value} {v : Value} {sp : List Value} (hc : cs = (flt iE (prs l)).toArray) (hn : n = (prs l).length) (hl : l.length ≤ 300) (h1 : SlX W v l sp) : Calls Try.prog 36 #[v, .int .i64 0, .slice (some ⟨W.heap.size, 0, none⟩) n n] (W.alloc (.cells cs 3)) fun e w' => e = .returned (.bool true) ∧ Frm [] (W.alloc (.cells cs 3)) w' := by
  have h := prs_length l
  exact is_true l _ _ _ [] _ (h1.keep0 ((Frm.refl [] W).alloc _)) (sli_lit (by rw [← hc]; exact heap_alloc_new _ _) hn (by omega)) (by omega)
def smX (x : Ex) : Bool := decide (-9223372036854775808 ≤ x.1) && decide (x.1 ≤ 9223372036854775807)
theorem sm_all {l : List Ex} (h : l.all smX = true) : ∀ x ∈ l, -9223372036854775808 ≤ x.1 ∧ x.1 ≤ 9223372036854775807 := fun x hx => by
  have := List.all_eq_true.1 h x hx
  simpa [smX] using this
theorem Good.sm {l : List Ex} (h : Good l) : ∀ x ∈ l, -9223372036854775808 ≤ x.1 ∧ x.1 ≤ 9223372036854775807 := fun x hx => by have := h.1 x hx; omega
theorem Good.big {l : List Ex} (h : Good l) : l.length ≤ 1000000000 := by have := h.len; omega
theorem chk_ex (l : List Ex) (c : Int) (hc : chkE l = c) (hs : l.all smX = true) (hl : l.length ≤ 300) {v : Value} {sp : List Value} {w : World} (h : SlX w v l sp) : Calls Try.prog 19 #[v] w fun e w' => e = .returned (.int .i64 c) ∧ Frm [] w w' := by
  subst hc
  exact Check_any v l sp w h (by omega) (sm_all hs)
theorem cnt_ex (l : List Ex) (c : Int) (hc : numE l = c) (hs : l.all smX = true) (hl : l.length ≤ 300) {v : Value} {sp : List Value} {w : World} (h : SlX w v l sp) : Calls Try.prog 21 #[v] w fun e w' => e = .returned (.int .i64 c) ∧ Frm [] w w' := by
  subst hc
  exact Count_any v l sp w h (by omega) (sm_all hs)
theorem of_ex (l : List Int) (r : List Ex) (c : Int) (EX : OfP l r c) {v : Value} {sp : List Value} {w : World} (h : SlI w v l sp) (hl : l.length ≤ 300) : Calls Try.prog 15 #[v] w (ToldX w r c) :=
  (Of_any v l sp w h (by omega)).mono fun e w' ⟨r', c', h', t⟩ => by
    obtain ⟨rfl, rfl⟩ := h'.eq EX
    exact t
theorem lit_ofI (l : List Int) (r : List Ex) (c : Int) (EX : OfP l r c) {W : World} {n : Nat} {cs : Array Value} (hc : cs = (flt iE l).toArray) (hn : n = l.length) (hl : l.length ≤ 300) : Calls Try.prog 15 #[.slice (some ⟨W.heap.size, 0, none⟩) n n] (W.alloc (.cells cs 3)) (ToldX (W.alloc (.cells cs 3)) r c) :=
  of_ex l r c EX (sli_lit (by rw [← hc]; exact heap_alloc_new _ _) hn (by omega)) hl
theorem list_ex (l : List Ex) (s : List Int) (c : Int) (EX : ListP l s c) (hs : l.all smX = true) (hl : l.length ≤ 300) {v : Value} {sp : List Value} {w : World} (h : SlX w v l sp) : Calls Try.prog 13 #[v] w (ToldI w s c) :=
  (List_any v l sp w h (by omega) (sm_all hs)).mono fun e w' ⟨r', c', h', t⟩ => by
    obtain ⟨rfl, rfl⟩ := h'.eq EX
    exact t
theorem low_ex (l : List Ex) (n : Int) (r : List Ex) (c : Int) (EX : LowP l n r c) (hs : l.all smX = true) (hl : l.length ≤ 300) (hn : -9223372036854775808 ≤ n ∧ n ≤ 9223372036854775807) {v : Value} {sp : List Value} {w : World} (h : SlX w v l sp) : Calls Try.prog 33 #[v, .int .i64 n] w (ToldX w r c) :=
  (Lowest_any v l n sp w h (by omega) (sm_all hs) hn).mono fun e w' ⟨r', c', h', t⟩ => by
    obtain ⟨rfl, rfl⟩ := h'.eq EX
    exact t
theorem mk_ex {f : FuncId} {args : Array Value} {w : World} {F : Bool → Bool → Bool} {l m r : List Ex} {c : Int} (h : Calls Try.prog f args w fun e w' => ∃ r c, MkP F l m r c ∧ ToldX w r c e w') (EX : MkP F l m r c) : Calls Try.prog f args w (ToldX w r c) :=
  h.mono fun e w' ⟨r', c', h', t⟩ => by
    obtain ⟨rfl, rfl⟩ := h'.eq EX
    exact t
theorem wi_ex {f : FuncId} {args : Array Value} {w : World} {l m r : List Ex} {c : Int} {b : Bool} (h : Calls Try.prog f args w fun e w' => ∃ r c, MkP (fOf 1) l m r c ∧ e = .returned (.bool (wiB r c)) ∧ Frm [] w w') (EX : MkP (fOf 1) l m r c) (hb : wiB r c = b) : Calls Try.prog f args w fun e w' => e = .returned (.bool b) ∧ Frm [] w w' :=
  h.mono fun e w' ⟨r', c', h', t⟩ => by
    obtain ⟨rfl, rfl⟩ := h'.eq EX
    subst hb
    exact t
theorem eg1 : OfP [6, 4, 3, 4] [(3, 2), (6, 1)] 0 := .inl ⟨by unfold inR; decide, rfl, by decide, fun s => by simp [hasE]; omega⟩
theorem eg2 : MkP (fOf 0) [(3, 2)] [(5, 1)] [(3, 3)] 0 := .inl ⟨by decide, by decide, rfl, by decide, fun s => by simp [hasE, hasB, fOf]; omega⟩
theorem eg3 : ListP [(3, 2), (6, 1)] [3, 4, 6] 0 := .inl ⟨by decide, rfl, by decide⟩
theorem eg4 : OfP [4096] [] 2 := .inr ⟨by unfold inR; decide, rfl, rfl⟩
theorem eg5 : MkP (fOf 1) [(3, 5)] [(5, 1)] [(3, 2), (6, 2)] 0 := .inl ⟨by decide, by decide, rfl, by decide, fun s => by simp [hasE, hasB, fOf]; omega⟩
theorem eg6 : MkP (fOf 2) [(3, 5)] [(0, 4), (6, 9)] [(3, 1), (6, 2)] 0 := .inl ⟨by decide, by decide, rfl, by decide, fun s => by simp [hasE, hasB, fOf]; omega⟩
theorem eg7 : LowP [(3, 2), (6, 4)] 3 [(3, 2), (6, 1)] 0 := .inl ⟨by decide, by decide, by decide, rfl, by decide, fun s => by
  rw [show (secs [(3, 2), (6, 4)]).take (3 : Int).toNat = [3, 4, 6] by decide]; simp [hasE]; omega⟩
theorem eg8 : LowP [(3, 2)] 3 [] 8 := .inr (.inl ⟨by decide, by decide, by decide, rfl, rfl⟩)
theorem eg9 : LowP [(3, 2)] 0 [] 0 := .inl ⟨by decide, by decide, by decide, rfl, by decide, fun s => by
  rw [show (secs [(3, 2)]).take (0 : Int).toNat = [] by decide]; simp [hasE]⟩
theorem eg10 : LowP [(3, 2)] (-1) [] 2 := .inr (.inr ⟨.inr (by decide), rfl, rfl⟩)
theorem eg11 : MkP (fOf 1) [(4, 1)] [(3, 2)] [] 0 := .inl ⟨by decide, by decide, rfl, by decide, fun s => by simp [hasE, hasB, fOf]; omega⟩
theorem eg12 : MkP (fOf 1) [(3, 2)] [(4, 1)] [(3, 1)] 0 := .inl ⟨by decide, by decide, rfl, by decide, fun s => by simp [hasE, hasB, fOf]; omega⟩
end Go.Proofs.Ytgbgpmdhlocjhaa
