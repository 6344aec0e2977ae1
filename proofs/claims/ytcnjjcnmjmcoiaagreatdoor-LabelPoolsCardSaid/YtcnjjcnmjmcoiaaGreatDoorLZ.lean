/-
  Labels: plain facts, values, blocks; contracts of Check, There, and of the closures that write a label. No conditions but those that each theorem names.
-/
import Derived.Test.YtcnjjcnmjmcoiaaGreatDoorFB
import Derived.Test.YtcnjjcnmjmcoiaaGreatDoorHZ
import Derived.Deep.MidRow
import Derived.Deep.WholeRow
namespace Go.Proofs.YtcnjjcnmjmcoiaaGreatDoor
open Go.RowKit
set_option linter.unusedVariables false
set_option linter.unusedSimpArgs false
set_option maxRecDepth 100000

theorem sha_length (b : List UInt8) : (Hs.sha b).length = 32 := Hs.digK_length _ _
theorem beBytes_high (c n k : Nat) : beBytes (c * 256 ^ k + n) k = beBytes n k := by
  have key : ∀ j, j ≤ k → beBytes (c * 256 ^ k + n) j = beBytes n j := by
    intro j
    induction j with
    | zero => intro _; rfl
    | succ j ih =>
      intro hj
      show UInt8.ofNat _ :: _ = UInt8.ofNat _ :: _
      rw [ih (by omega)]
      congr 1
      have h1 : 2 ^ (8 * j) = 256 ^ j := by rw [Nat.pow_mul]
      have h2 : c * 256 ^ k = 256 ^ j * (c * 256 ^ (k - j - 1) * 256) := by
        have : 256 ^ k = 256 ^ j * (256 ^ (k - j - 1) * 256) := by rw [← Nat.pow_succ, ← Nat.pow_add]; congr 1; omega
        rw [this]
        ac_rfl
      have hp : 0 < 256 ^ j := Nat.pow_pos (by omega)
      rw [h1, h2, Nat.mul_add_div hp]
      apply UInt8.toNat_inj.1
      simp
  exact key k (Nat.le_refl _)
theorem beNat_cons (b : UInt8) (r : List UInt8) : beNat (b :: r) = b.toNat * 256 ^ r.length + beNat r := by
  have h : ∀ (r : List UInt8) (n : Nat), r.foldl (fun n b => n * 256 + b.toNat) n = n * 256 ^ r.length + r.foldl (fun n b => n * 256 + b.toNat) 0 := by
    intro r
    induction r with
    | nil => intro n; simp
    | cons c r ih =>
      intro n
      simp only [List.foldl_cons, List.length_cons]
      rw [ih (n * 256 + c.toNat), ih (0 * 256 + c.toNat), Nat.pow_succ, Nat.add_mul, Nat.zero_mul, Nat.zero_add, Nat.mul_comm (256 ^ r.length) 256, Nat.mul_assoc]
      omega
  have := h r b.toNat
  simpa [beNat] using this
theorem beBytes_back (m : List UInt8) : beBytes (beNat m) m.length = m := by
  induction m with
  | nil => rfl
  | cons b r ih =>
    have h1 : 2 ^ (8 * r.length) = 256 ^ r.length := by rw [Nat.pow_mul]
    have hp : 0 < 256 ^ r.length := Nat.pow_pos (by omega)
    show UInt8.ofNat _ :: beBytes _ r.length = b :: r
    rw [beNat_cons, beBytes_high, ih, h1, Nat.mul_comm, Nat.mul_add_div hp, Nat.div_eq_of_lt (beNat_lt r)]
    simp
theorem beNat_beBytes (n : Nat) : ∀ k, beNat (beBytes n k) = n % 256 ^ k := by
  intro k
  induction k with
  | zero => simp [beBytes, beNat, Nat.mod_one]
  | succ k ih =>
    have h1 : 2 ^ (8 * k) = 256 ^ k := by rw [Nat.pow_mul]
    show beNat (UInt8.ofNat _ :: beBytes n k) = _
    rw [beNat_cons, beBytes_length, ih, h1, Nat.mod_pow_succ]
    simp
    rw [Nat.mul_comm]; omega
/-- A label: its pool and its numbers. -/
structure Lab where
  pool : List UInt8
  dev : Int
  devs : Int
  cop : Int
  sec : Int
  life : Int
theorem Lab.ext' {l m : Lab} (h1 : l.pool = m.pool) (h2 : l.dev = m.dev) (h3 : l.devs = m.devs) (h4 : l.cop = m.cop) (h5 : l.sec = m.sec) (h6 : l.life = m.life) : l = m := by
  cases l; cases m; simp_all
instance : DecidableEq Lab := fun l m =>
  if h : l.pool = m.pool ∧ l.dev = m.dev ∧ l.devs = m.devs ∧ l.cop = m.cop ∧ l.sec = m.sec ∧ l.life = m.life then .isTrue (Lab.ext' h.1 h.2.1 h.2.2.1 h.2.2.2.1 h.2.2.2.2.1 h.2.2.2.2.2) else .isFalse (fun e => h (by subst e; simp))
/-- Which may be. -/
structure May (l : Lab) : Prop where
  n2 : 2 ≤ l.devs
  n8 : l.devs ≤ 8
  d0 : 0 ≤ l.dev
  d1 : l.dev < l.devs
  c1 : 1 ≤ l.cop
  c3 : l.cop ≤ 3
  cn : l.cop ≤ l.devs
  s8 : 8 ≤ l.sec
  s4 : l.sec ≤ 4096
  l0 : 0 ≤ l.life
  l1 : l.life ≤ 2147483648
def mayB (l : Lab) : Bool := decide (2 ≤ l.devs ∧ l.devs ≤ 8 ∧ 0 ≤ l.dev ∧ l.dev < l.devs ∧ 1 ≤ l.cop ∧ l.cop ≤ 3 ∧ l.cop ≤ l.devs ∧ 8 ≤ l.sec ∧ l.sec ≤ 4096 ∧ 0 ≤ l.life ∧ l.life ≤ 2147483648)
theorem mayB_iff {l : Lab} : mayB l = true ↔ May l := by
  simp only [mayB, decide_eq_true_eq]
  exact ⟨fun ⟨a, b, c, d, e, f, g, h, i, j, k⟩ => ⟨a, b, c, d, e, f, g, h, i, j, k⟩, fun ⟨a, b, c, d, e, f, g, h, i, j, k⟩ => ⟨a, b, c, d, e, f, g, h, i, j, k⟩⟩
theorem mayB_no {l : Lab} : mayB l = false ↔ ¬ May l := by rw [← mayB_iff]; simp
def mark : List UInt8 := [67, 65, 85, 76, 75, 69, 82, 49]
/-- The numbers as bytes. -/
def numsL (l : Lab) : List UInt8 := beBytes l.dev.toNat 1 ++ (beBytes l.devs.toNat 1 ++ (beBytes l.cop.toNat 1 ++ (beBytes l.sec.toNat 2 ++ beBytes l.life.toNat 5)))
def headL (l : Lab) : List UInt8 := mark ++ (l.pool ++ (numsL l ++ List.replicate 174 0))
/-- A label as a sector. -/
def packL (l : Lab) : List UInt8 := headL l ++ Hs.sha (headL l)
theorem numsL_length (l : Lab) : (numsL l).length = 10 := by simp [numsL, beBytes_length]
theorem headL_length {l : Lab} (h : l.pool.length = 32) : (headL l).length = 224 := by simp [headL, numsL_length, mark, h, -List.reduceReplicate]
theorem packL_length {l : Lab} (h : l.pool.length = 32) : (packL l).length = 256 := by unfold packL; rw [List.length_append, headL_length h, sha_length]
theorem packL_head {l : Lab} (h : l.pool.length = 32) : (packL l).take 224 = headL l := by
  unfold packL; rw [List.take_append_of_le_length (by rw [headL_length h]; exact Nat.le_refl _), List.take_of_length_le (by rw [headL_length h]; exact Nat.le_refl _)]
theorem packL_sum {l : Lab} (h : l.pool.length = 32) : (packL l).drop 224 = Hs.sha (headL l) := by
  unfold packL; rw [List.drop_append_of_le_length (by rw [headL_length h]; exact Nat.le_refl _), List.drop_eq_nil_of_le (by rw [headL_length h]; exact Nat.le_refl _), List.nil_append]
def seg (b : List UInt8) (p n : Nat) : List UInt8 := (b.drop p).take n
/-- What stands in a sector's places. -/
def parse (b : List UInt8) : Lab := ⟨seg b 8 32, beNat (seg b 40 1), beNat (seg b 41 1), beNat (seg b 42 1), beNat (seg b 43 2), beNat (seg b 45 5)⟩
theorem seg_app (a b r : List UInt8) (p n : Nat) (h : a.length = p) (k : b.length = n) : seg (a ++ (b ++ r)) p n = b := by
  unfold seg
  subst h; subst k
  simp
theorem be_int {n : Int} {k : Nat} (h0 : 0 ≤ n) (h : n < 256 ^ k) : (beNat (beBytes n.toNat k) : Int) = n := by
  obtain ⟨m, rfl⟩ := Int.eq_ofNat_of_zero_le h0
  rw [beNat_beBytes]
  simp only [Int.toNat_natCast]
  have h' : (m : Int) < ((256 ^ k : Nat) : Int) := by rw [Int.natCast_pow]; exact h
  rw [Nat.mod_eq_of_lt (Int.ofNat_lt.1 h')]
theorem parse_pack {l : Lab} (h : l.pool.length = 32) (hm : May l) : parse (packL l) = l := by
  have e0 : packL l = mark ++ (l.pool ++ (beBytes l.dev.toNat 1 ++ (beBytes l.devs.toNat 1 ++ (beBytes l.cop.toNat 1 ++ (beBytes l.sec.toNat 2 ++ (beBytes l.life.toNat 5 ++ (List.replicate 174 0 ++ Hs.sha (headL l)))))))) := by
    simp [packL, headL, numsL, -List.reduceReplicate]
  have lb := beBytes_length
  unfold parse
  rw [e0]
  apply Lab.ext'
  · exact seg_app mark _ _ 8 32 rfl h
  · simp only
    rw [show ∀ r : List UInt8, mark ++ (l.pool ++ (beBytes l.dev.toNat 1 ++ r)) = (mark ++ l.pool) ++ (beBytes l.dev.toNat 1 ++ r) from fun r => by simp, seg_app _ _ _ 40 1 (by simp [mark, h]) (lb _ _)]
    exact be_int hm.d0 (by have := hm.d1; have := hm.n8; omega)
  · simp only
    rw [show ∀ r : List UInt8, mark ++ (l.pool ++ (beBytes l.dev.toNat 1 ++ (beBytes l.devs.toNat 1 ++ r))) = (mark ++ (l.pool ++ beBytes l.dev.toNat 1)) ++ (beBytes l.devs.toNat 1 ++ r) from fun r => by simp, seg_app _ _ _ 41 1 (by simp [mark, h, lb]) (lb _ _)]
    exact be_int (by have := hm.n2; omega) (by have := hm.n8; omega)
  · simp only
    rw [show ∀ r : List UInt8, mark ++ (l.pool ++ (beBytes l.dev.toNat 1 ++ (beBytes l.devs.toNat 1 ++ (beBytes l.cop.toNat 1 ++ r)))) = (mark ++ (l.pool ++ (beBytes l.dev.toNat 1 ++ beBytes l.devs.toNat 1))) ++ (beBytes l.cop.toNat 1 ++ r) from fun r => by simp, seg_app _ _ _ 42 1 (by simp [mark, h, lb]) (lb _ _)]
    exact be_int (by have := hm.c1; omega) (by have := hm.c3; omega)
  · simp only
    rw [show ∀ r : List UInt8, mark ++ (l.pool ++ (beBytes l.dev.toNat 1 ++ (beBytes l.devs.toNat 1 ++ (beBytes l.cop.toNat 1 ++ (beBytes l.sec.toNat 2 ++ r))))) = (mark ++ (l.pool ++ (beBytes l.dev.toNat 1 ++ (beBytes l.devs.toNat 1 ++ beBytes l.cop.toNat 1)))) ++ (beBytes l.sec.toNat 2 ++ r) from fun r => by simp, seg_app _ _ _ 43 2 (by simp [mark, h, lb]) (lb _ _)]
    exact be_int (by have := hm.s8; omega) (by have := hm.s4; omega)
  · simp only
    rw [show ∀ r : List UInt8, mark ++ (l.pool ++ (beBytes l.dev.toNat 1 ++ (beBytes l.devs.toNat 1 ++ (beBytes l.cop.toNat 1 ++ (beBytes l.sec.toNat 2 ++ (beBytes l.life.toNat 5 ++ r)))))) = (mark ++ (l.pool ++ (beBytes l.dev.toNat 1 ++ (beBytes l.devs.toNat 1 ++ (beBytes l.cop.toNat 1 ++ beBytes l.sec.toNat 2))))) ++ (beBytes l.life.toNat 5 ++ r) from fun r => by simp, seg_app _ _ _ 45 5 (by simp [mark, h, lb]) (lb _ _)]
    exact be_int hm.l0 (by have := hm.l1; omega)
theorem seg_length {b : List UInt8} {p n : Nat} (h : p + n ≤ b.length) : (seg b p n).length = n := by simp [seg]; omega
theorem parse_pool {b : List UInt8} (h : b.length = 256) : (parse b).pool.length = 32 := seg_length (by omega)
def zeroLab : Lab := ⟨List.replicate 32 0, 0, 0, 0, 0, 0⟩
/-- The label that a sector is, or why it is none. -/
def unp (b : List UInt8) : Lab × Int :=
  if b.length ≠ 256 then (zeroLab, 4) else if b = List.replicate 256 0 then (zeroLab, 6) else if mayB (parse b) = true ∧ packL (parse b) = b then (parse b, 0) else (zeroLab, 11)
theorem packL_mark (l : Lab) : (packL l).take 8 = mark := by simp [packL, headL, mark, -List.reduceReplicate]
theorem packL_ne_zeros (l : Lab) : packL l ≠ List.replicate 256 0 := by
  intro h
  have := packL_mark l
  rw [h] at this
  exact absurd this (by decide)
theorem unp_pack {l : Lab} (h : l.pool.length = 32) (hm : May l) : unp (packL l) = (l, 0) := by
  unfold unp
  rw [if_neg (by rw [packL_length h]; simp), if_neg (packL_ne_zeros l), parse_pack h hm, if_pos ⟨mayB_iff.2 hm, rfl⟩]
theorem unp_cases (b : List UInt8) : (∃ e, e ≠ 0 ∧ unp b = (zeroLab, e)) ∨ (unp b = (parse b, 0) ∧ b.length = 256 ∧ May (parse b) ∧ packL (parse b) = b) := by
  unfold unp
  by_cases h1 : b.length ≠ 256
  · rw [if_pos h1]; exact .inl ⟨4, by decide, rfl⟩
  rw [if_neg h1]
  by_cases h2 : b = List.replicate 256 0
  · rw [if_pos h2]; exact .inl ⟨6, by decide, rfl⟩
  rw [if_neg h2]
  by_cases h3 : mayB (parse b) = true ∧ packL (parse b) = b
  · rw [if_pos h3]; exact .inr ⟨rfl, by omega, mayB_iff.1 h3.1, h3.2⟩
  · rw [if_neg h3]; exact .inl ⟨11, by decide, rfl⟩
/-- What Pack tells. -/
def packO (l : Lab) : List UInt8 := if mayB l = true then packL l else []
def mayE (l : Lab) : Int := if mayB l = true then 0 else 2
theorem mayE_yes {l : Lab} (h : May l) : mayE l = 0 := by simp [mayE, mayB_iff.2 h]
theorem mayE_no {l : Lab} (h : ¬ May l) : mayE l = 2 := by simp [mayE, mayB_no.2 h]
theorem packO_yes {l : Lab} (h : May l) : packO l = packL l := by simp [packO, mayB_iff.2 h]
theorem packO_no {l : Lab} (h : ¬ May l) : packO l = [] := by simp [packO, mayB_no.2 h]
theorem turned_no {l : Lab} (hp : l.pool.length = 32) (at' : Nat) (x : UInt8) (hat : at' < 256) (hx : ((packL l).getD at' 0) ≠ x)
    (hd : at' < 224 → Hs.sha (((packL l).set at' x).take 224) ≠ Hs.sha ((packL l).take 224)) : unp ((packL l).set at' x) = (zeroLab, 11) := by
  have hlen := packL_length hp
  unfold unp
  rw [if_neg (by simp [hlen]), if_neg ?_, if_neg ?_]
  · rintro ⟨h1, h2⟩
    have hq : (parse ((packL l).set at' x)).pool.length = 32 := parse_pool (by simp [hlen])
    have e1 := packL_head hq
    have e2 := packL_sum hq
    rw [h2] at e1 e2
    rw [← e1] at e2
    by_cases hlt : at' < 224
    · refine hd hlt ?_
      rw [← e2, packL_head hp, List.drop_set_of_lt hlt, packL_sum hp]
    · rw [List.take_set_of_le (by omega), packL_head hp, ← packL_sum hp] at e2
      have h3 : ((packL l).set at' x).getD at' 0 = (packL l).getD at' 0 := by
        have h4 : ∀ L : List UInt8, L.getD at' 0 = (L.drop 224).getD (at' - 224) 0 := fun L => by
          simp only [List.getD_eq_getElem?_getD, List.getElem?_drop]
          rw [show 224 + (at' - 224) = at' by omega]
        rw [h4, h4 (packL l), e2]
      refine hx ?_
      rw [← h3]
      simp [List.getD_eq_getElem?_getD, hlen, hat]
  · intro h
    have h5 := packL_mark l
    have h6 : ∀ i, i < 8 → i ≠ at' → ((packL l).set at' x).getD i 0 = mark.getD i 0 := fun i hi hne => by
      rw [← h5]
      simp only [List.getD_eq_getElem?_getD]
      rw [List.getElem?_set_ne (fun e => hne e.symm), List.getElem?_take_of_lt hi]
    rw [h] at h6
    by_cases h0 : at' = 0
    · have := h6 1 (by omega) (by omega)
      simp [mark, List.getD_eq_getElem?_getD, -List.reduceReplicate] at this
    · have := h6 0 (by omega) (by omega)
      simp [mark, List.getD_eq_getElem?_getD, -List.reduceReplicate] at this
end Go.Proofs.YtcnjjcnmjmcoiaaGreatDoor

namespace Go.Proofs.YtcnjjcnmjmcoiaaGreatDoor
open Go.RowKit
set_option linter.unusedVariables false
set_option linter.unusedSimpArgs false
set_option maxRecDepth 100000

theorem ret_bool {a b : Bool} (h : a = b) : Ending.returned (.bool a) = .returned (.bool b) := by rw [h]
def idv (s : List UInt8) : Value := .agg (bvs s).toArray
/-- A label's cells. -/
def lc (l : Lab) : List Value := bvs l.pool ++ [.int .i64 l.dev, .int .i64 l.devs, .int .i64 l.cop, .int .i64 l.sec, .int .i64 l.life]
def lv (l : Lab) : Value := .agg (lc l).toArray
theorem lc_length {l : Lab} (h : l.pool.length = 32) : (lc l).length = 37 := by simp [lc, bvs_length, h]
theorem lc_one (l : Lab) : (lc l).toArray.all (·.oneCell') = true := all_oneCell_toArray (fun u hu => by
  rcases List.mem_append.1 hu with h | h
  · exact bvs_one _ u h
  · simp at h
    rcases h with rfl | rfl | rfl | rfl | rfl <;> rfl)
theorem i28 : (Tryz.prog.info? 28).map (·.size) = some 37 := by kernel_rfl
theorem i26 : (Tryz.prog.info? 26).map (·.size) = some 32 := by kernel_rfl
theorem d26 : Tryz.prog.underlying 26 = some (.array 32 5) := by kernel_rfl
/-- A label's block. -/
structure LB (w : World) (g : Nat) (l : Lab) : Prop where
  at' : w.heap[g]? = some (.cells (lc l).toArray 28 (0, 0))
  len : l.pool.length = 32
theorem LB.keep {w w' : World} {L : List Nat} {g : Nat} {l : Lab} (h : LB w g l) (f : Frm L w w') (hn : g ∉ L) : LB w' g l := ⟨f.heap h.1 hn, h.2⟩
theorem LB.keep0 {w w' : World} {g : Nat} {l : Lab} (h : LB w g l) (f : Frm [] w w') : LB w' g l := h.keep f (by simp)
theorem LB.lt {w : World} {g : Nat} {l : Lab} (h : LB w g l) : g < w.heap.size := lt_heap h.1
theorem LB.new (w : World) {l : Lab} (hl : l.pool.length = 32) : LB (w.alloc (.cells (lc l).toArray 28)) w.heap.size l := ⟨heap_alloc_new _ _, hl⟩
theorem LB.num {w : World} {g : Nat} {l : Lab} (h : LB w g l) (i : Nat) {u : Value} (hu : ([.int .i64 l.dev, .int .i64 l.devs, .int .i64 l.cop, .int .i64 l.sec, .int .i64 l.life] : List Value)[i]? = some u) : w.cell? ⟨g, 32 + i, none⟩ = some u := by
  rw [cell_of_heap h.1]
  have hb : (bvs l.pool).length = 32 := by rw [bvs_length, h.2]
  simp only [List.getElem?_toArray, lc]
  rw [List.getElem?_append_right (by omega), hb, show 32 + i - 32 = i by omega]
  exact hu
/-- What loads of its parts give. -/
structure Gets (w : World) (g : Nat) (l : Lab) : Prop where
  c1 : w.cell? ⟨g, 32, none⟩ = some (.int .i64 l.dev)
  c2 : w.cell? ⟨g, 33, none⟩ = some (.int .i64 l.devs)
  c3 : w.cell? ⟨g, 34, none⟩ = some (.int .i64 l.cop)
  c4 : w.cell? ⟨g, 35, none⟩ = some (.int .i64 l.sec)
  c5 : w.cell? ⟨g, 36, none⟩ = some (.int .i64 l.life)
  all : (Instr.loadAt 28 (.pointer (some ⟨g, 0, none⟩))).run Tryz.prog w = .ok (lv l) w
  sum : (Instr.loadAt 26 (.pointer (some ⟨g, 0, none⟩))).run Tryz.prog w = .ok (idv l.pool) w
theorem LB.gets {w : World} {g : Nat} {l : Lab} (h : LB w g l) : Gets w g l := by
  refine ⟨h.num 0 rfl, h.num 1 rfl, h.num 2 rfl, h.num 3 rfl, h.num 4 rfl, ?_, ?_⟩
  · refine run_loadAt_mid w g 0 28 (lc l) _ (fun j u hu => ?_) Tryz.underlying28 rfl ?_
    · rw [cell_of_heap h.1]; simpa using hu
    · rw [i28, lc_length h.2]
  · refine run_loadAt_mid w g 0 26 (bvs l.pool) _ (fun j u hu => ?_) d26 rfl ?_
    · have hj : j < (bvs l.pool).length := (List.getElem?_eq_some_iff.1 hu).1
      rw [cell_of_heap h.1, Nat.zero_add, List.getElem?_toArray, lc, List.getElem?_append_left hj]; exact hu
    · rw [i26, bvs_length, h.2]
theorem LB.var {w : World} {g : Nat} {l : Lab} (h : LB w g l) : (loadVar 28 ⟨g, 0, none⟩).run Tryz.prog w = .ok (lv l) w :=
  run_loadVar_row w g 28 28 _ (0, 0) _ h.1 Tryz.underlying28 rfl (by rw [i28]; simp [lc_length h.2])
/-- A load whose value is known, guarded or not. -/
theorem wpList_load_g {P : Program} {ops : Array Oper} {rest : List Oper} {op : Oper} {a : Act} {w : World} {Q : Exit → Act → World → Prop} (hw : Region.wanted op (yielded ops a.tmps) = true) (ty : TypeId) (x : Operand) (ho : op.op = .load ty x)
    (p : Addr) (hx : a.eval x = .pointer (some p)) {v : Value} (hl : (Instr.loadAt ty (.pointer (some p))).run P w = .ok v w)
    (h : wpList P ops Q rest (a.put op.dst v) w) : wpList P ops Q (op :: rest) a w :=
  wpList_step fun K hK => by
    have he : (execOp a.eval op).run P w = .ok (.value v) w := by simp [execOp, ho, hx, hl, Result.andThen]
    rw [if_pos hw]
    unfold Oper.wp
    rw [he]
    exact hK _ _ h
theorem zeroLab_len : zeroLab.pool.length = 32 := rfl
theorem alloc28 (W : World) : (Instr.alloc 28 true (.tuple #[])).run Tryz.prog W = .ok (.pointer (some ⟨W.heap.size, 0, none⟩)) (W.alloc (.cells (lc zeroLab).toArray 28)) := by kernel_rfl
theorem exec_alloc28 {o : Oper} {a : Act} (hop : o.op = Op.alloc 28) (W : World) : (execOp a.eval o).run Tryz.prog W = .ok (.value (.pointer (some ⟨W.heap.size, 0, none⟩))) (W.alloc (.cells (lc zeroLab).toArray 28)) := by
  have h := alloc28 W
  generalize W.alloc (.cells (lc zeroLab).toArray 28) = W2 at *
  simp only [execOp, hop, Sem.run_bind, Sem.run_pure, h, Result.andThen_ok]
theorem bld28z (W : World) : (Instr.build 28 #[]).run Tryz.prog W = .ok (lv zeroLab) W := by kernel_rfl
theorem exec_bld28z {o : Oper} {a : Act} (hop : o.op = Op.build 28 #[]) (W : World) : (execOp a.eval o).run Tryz.prog W = .ok (.value (lv zeroLab)) W := by
  have hb := bld28z W
  simp only [execOp, hop, List.map_toArray, List.map_nil, Sem.run_bind, Sem.run_pure, hb, Result.andThen_ok]
/-- A label is laid into a new variable. -/
theorem wpList_lay28 {ops : Array Oper} {rest : List Oper} {o1 o3 : Oper} {a : Act} {W : World} {Q : Exit → Act → World → Prop} (g1 : o1.guard = none) (g3 : o3.guard = none)
    (h1 : o1.op = .alloc 28) (p x : Operand) (h3 : o3.op = .store 28 p x) {l : Lab} (hl : l.pool.length = 32)
    (e1 : (a.put o1.dst (.pointer (some ⟨W.heap.size, 0, none⟩))).eval p = .pointer (some ⟨W.heap.size, 0, none⟩))
    (e2 : (a.put o1.dst (.pointer (some ⟨W.heap.size, 0, none⟩))).eval x = lv l)
    (k : wpList Tryz.prog ops Q rest ((a.put o1.dst (.pointer (some ⟨W.heap.size, 0, none⟩))).put o3.dst undef) (W.alloc (.cells (lc l).toArray 28))) :
    wpList Tryz.prog ops Q (o1 :: o3 :: rest) a W := by
  refine wpList_val g1 (exec_alloc28 h1 _) ?_
  refine wpList_store_row g3 28 p x h3 W.heap.size (lc l).toArray e1 e2 28 _ (heap_alloc_new _ _) (by rw [i28]; simp [lc_length hl]) (by simp [lc_length hl, lc_length zeroLab_len]) (lc_one l) ?_
  rw [World.setRow_alloc_new]
  exact k
/-- A label is stored over another one. -/
theorem wpList_store28 {ops : Array Oper} {rest : List Oper} {o3 : Oper} {a : Act} {W : World} {Q : Exit → Act → World → Prop} (g3 : o3.guard = none)
    (p x : Operand) (h3 : o3.op = .store 28 p x) {l l0 : Lab} {g : Nat} (h0 : LB W g l0) (hl : l.pool.length = 32)
    (e1 : a.eval p = .pointer (some ⟨g, 0, none⟩)) (e2 : a.eval x = lv l)
    (k : ∀ V, LB V g l → Frm [g] W V → wpList Tryz.prog ops Q rest (a.put o3.dst undef) V) :
    wpList Tryz.prog ops Q (o3 :: rest) a W := by
  refine wpList_store_row g3 28 p x h3 g (lc l).toArray e1 e2 28 _ h0.1 (by rw [i28]; simp [lc_length hl]) (by simp [lc_length hl, lc_length h0.2]) (lc_one l) ?_
  exact k _ ⟨setRow_heap W g _ _ 28 (0, 0) h0.1, hl⟩ ⟨rfl, rfl, rfl, by simp [World.setRow], fun k hk hn => setRow_other _ _ k _ (by simpa using hn)⟩
/-- Results that lie in a cell and in a slot. -/
theorem results_cell_slot {P : Program} {fn : Func} {p q : Tmp} {t1 : TypeId} (h : fn.results = #[.cell p t1, .tmp q]) (tmps : Array Value) (w : World) {a1 : Addr} {v1 v2 : Value} (h1 : tmps.getD p undef = .pointer (some a1)) (h2 : tmps.getD q undef = v2)
    (k1 : (loadVar t1 a1).run P w = .ok v1 w) : (results fn tmps).run P w = .ok (.tuple #[v1, v2]) w := by
  have h1' : tmps[p]?.getD undef = .pointer (some a1) := by simpa using h1
  have h2' : tmps[q]?.getD undef = v2 := by simpa using h2
  simp [results, h, h1', h2', asAddr, k1, Result.andThen]
theorem LB.set {w : World} {g : Nat} {l m : Lab} (h : LB w g l) (i : Nat) (u : Value) (hm : m.pool = l.pool) (hc : ([.int .i64 l.dev, .int .i64 l.devs, .int .i64 l.cop, .int .i64 l.sec, .int .i64 l.life] : List Value).set i u = [.int .i64 m.dev, .int .i64 m.devs, .int .i64 m.cop, .int .i64 m.sec, .int .i64 m.life]) : LB (w.setCell ⟨g, 32 + i, none⟩ u) g m := by
  have hb : (bvs l.pool).length = 32 := by rw [bvs_length, h.2]
  refine ⟨?_, by rw [hm, h.2]⟩
  rw [heap_setCell_same _ h.1, List.setIfInBounds_toArray, lc, List.set_append_right _ _ (by omega), hb, show 32 + i - 32 = i by omega, hc, lc, hm]
theorem eqIn26 (d : Nat) (l m : List UInt8) (hl : l.length = 32) (hm : m.length = 32) (W : World) : (Op.equalIn (d + 2) 26 (idv l) (idv m)).run Tryz.prog W = .ok (l == m) W := by
  obtain ⟨i, hi, _⟩ := info_parts BT.info
  rw [show idv l = .agg (bvs l).toArray from rfl, show idv m = .agg (bvs m).toArray from rfl, Hs.bvs_ints, Hs.bvs_ints, run_equalIn_array W (d + 1) _ _ d26 hi, show Tryz.prog.cellsOf 5 = 1 by kernel_rfl, List.range_eq_range', Hs.eqItems_ints (k := .u8) (fun W => by kernel_rfl) (fun W => by kernel_rfl) Tryz.underlying5 d _ _ (by simp [hl, hm]) W 32 0 (by simp [hl]), List.drop_zero, List.drop_zero, Hs.beq_inj (fun b : UInt8 => (b.toNat : Int)) (fun a b h => UInt8.toNat_inj.1 (by omega))]
theorem part26 (n : Lab) (hn : n.pool.length = 32) (W : World) : (part 26 (lc n).toArray 0).run Tryz.prog W = .ok (idv n.pool) W := by
  have h1 : (isAgg 26).run Tryz.prog W = .ok true W := by kernel_rfl
  have h2 : (sizeOf 26).run Tryz.prog W = .ok 32 W := by kernel_rfl
  have hb : (bvs n.pool).length = 32 := by rw [bvs_length, hn]
  unfold part
  simp only [Sem.run_bind, h1, h2, Result.andThen_ok, if_true, Sem.run_pure]
  congr 2
  rw [List.extract_toArray]
  congr 1
  congr 1
  simp [lc, ← hb]
theorem part3 (n : Lab) (hn : n.pool.length = 32) (i : Nat) {u : Value} (hu : ([.int .i64 n.dev, .int .i64 n.devs, .int .i64 n.cop, .int .i64 n.sec, .int .i64 n.life] : List Value)[i]? = some u) (W : World) : (part 3 (lc n).toArray (32 + i)).run Tryz.prog W = .ok u W := by
  have h1 : (isAgg 3).run Tryz.prog W = .ok false W := by kernel_rfl
  have hb : (bvs n.pool).length = 32 := by rw [bvs_length, hn]
  have hc : (lc n).toArray[32 + i]? = some u := by
    rw [List.getElem?_toArray, lc, List.getElem?_append_right (by omega), hb, show 32 + i - 32 = i by omega]; exact hu
  unfold part
  simp [Sem.run_bind, h1, Result.andThen_ok, hc]
theorem labEq (l m : Lab) : (l.pool == m.pool && (l.dev == m.dev && (l.devs == m.devs && (l.cop == m.cop && (l.sec == m.sec && l.life == m.life))))) = decide (l = m) := by
  rw [Bool.eq_iff_iff, decide_eq_true_eq]
  simp only [Bool.and_eq_true, beq_iff_eq]
  exact ⟨fun ⟨a, b, c, d, e, f⟩ => Lab.ext' a b c d e f, fun h => by subst h; simp⟩
/-- '==' of labels. -/
theorem eql28 (l m : Lab) (hl : l.pool.length = 32) (hm : m.pool.length = 32) (W : World) : (binOp .eql 28 (lv l) (lv m)).run Tryz.prog W = .ok (.bool (decide (l = m))) W := by
  have ht : Tryz.prog.underlying 28 = some (.struct (Tryz.prog.fieldsOf 28)) := by kernel_rfl
  have hp : Tryz.prog.stoodInHeld 28 = false := by kernel_rfl
  have p1 := fun n hn W => part3 n hn 0 rfl W
  have p2 := fun n hn W => part3 n hn 1 rfl W
  have p3 := fun n hn W => part3 n hn 2 rfl W
  have p4 := fun n hn W => part3 n hn 3 rfl W
  have p5 := fun n hn W => part3 n hn 4 rfl W
  simp only [Nat.add_zero, Nat.reduceAdd] at p1 p2 p3 p4 p5
  have q := fun d a b W => run_equalIn_int (P := Tryz.prog) W d 3 .i64 .i64 a b Tryz.underlying3
  unfold lv
  rw [run_eql_struct, run_equalIn_struct W 9999 28 _ _ ht hp, ← labEq]
  simp only [Program.fieldsOf, Tryz.underlying28, Op.eqFields, part26 _ hl, part26 _ hm, Sem.run_bind, Result.andThen_ok, eqIn26 9997 _ _ hl hm, ne_eq, String.reduceEq, not_false_eq_true, if_true]
  cases l.pool == m.pool
  · simp only [Op.eqFields, p1 _ hl, p1 _ hm, p2 _ hl, p2 _ hm, p3 _ hl, p3 _ hm, p4 _ hl, p4 _ hm, p5 _ hl, p5 _ hm, Sem.run_bind, Sem.run_pure, Result.andThen_ok, q 9998, ne_eq, String.reduceEq, not_false_eq_true, if_true, Bool.not_true, Bool.not_false, Bool.false_eq_true, if_false, Bool.false_and, Bool.true_and]
  simp only [Op.eqFields, p1 _ hl, p1 _ hm, p2 _ hl, p2 _ hm, p3 _ hl, p3 _ hm, p4 _ hl, p4 _ hm, p5 _ hl, p5 _ hm, Sem.run_bind, Sem.run_pure, Result.andThen_ok, q 9998, ne_eq, String.reduceEq, not_false_eq_true, if_true, Bool.not_true, Bool.not_false, Bool.false_eq_true, if_false, Bool.false_and, Bool.true_and]
  cases l.dev == m.dev
  · simp only [Op.eqFields, p1 _ hl, p1 _ hm, p2 _ hl, p2 _ hm, p3 _ hl, p3 _ hm, p4 _ hl, p4 _ hm, p5 _ hl, p5 _ hm, Sem.run_bind, Sem.run_pure, Result.andThen_ok, q 9998, ne_eq, String.reduceEq, not_false_eq_true, if_true, Bool.not_true, Bool.not_false, Bool.false_eq_true, if_false, Bool.false_and, Bool.true_and]
  simp only [Op.eqFields, p1 _ hl, p1 _ hm, p2 _ hl, p2 _ hm, p3 _ hl, p3 _ hm, p4 _ hl, p4 _ hm, p5 _ hl, p5 _ hm, Sem.run_bind, Sem.run_pure, Result.andThen_ok, q 9998, ne_eq, String.reduceEq, not_false_eq_true, if_true, Bool.not_true, Bool.not_false, Bool.false_eq_true, if_false, Bool.false_and, Bool.true_and]
  cases l.devs == m.devs
  · simp only [Op.eqFields, p1 _ hl, p1 _ hm, p2 _ hl, p2 _ hm, p3 _ hl, p3 _ hm, p4 _ hl, p4 _ hm, p5 _ hl, p5 _ hm, Sem.run_bind, Sem.run_pure, Result.andThen_ok, q 9998, ne_eq, String.reduceEq, not_false_eq_true, if_true, Bool.not_true, Bool.not_false, Bool.false_eq_true, if_false, Bool.false_and, Bool.true_and]
  simp only [Op.eqFields, p1 _ hl, p1 _ hm, p2 _ hl, p2 _ hm, p3 _ hl, p3 _ hm, p4 _ hl, p4 _ hm, p5 _ hl, p5 _ hm, Sem.run_bind, Sem.run_pure, Result.andThen_ok, q 9998, ne_eq, String.reduceEq, not_false_eq_true, if_true, Bool.not_true, Bool.not_false, Bool.false_eq_true, if_false, Bool.false_and, Bool.true_and]
  cases l.cop == m.cop
  · simp only [Op.eqFields, p1 _ hl, p1 _ hm, p2 _ hl, p2 _ hm, p3 _ hl, p3 _ hm, p4 _ hl, p4 _ hm, p5 _ hl, p5 _ hm, Sem.run_bind, Sem.run_pure, Result.andThen_ok, q 9998, ne_eq, String.reduceEq, not_false_eq_true, if_true, Bool.not_true, Bool.not_false, Bool.false_eq_true, if_false, Bool.false_and, Bool.true_and]
  simp only [Op.eqFields, p1 _ hl, p1 _ hm, p2 _ hl, p2 _ hm, p3 _ hl, p3 _ hm, p4 _ hl, p4 _ hm, p5 _ hl, p5 _ hm, Sem.run_bind, Sem.run_pure, Result.andThen_ok, q 9998, ne_eq, String.reduceEq, not_false_eq_true, if_true, Bool.not_true, Bool.not_false, Bool.false_eq_true, if_false, Bool.false_and, Bool.true_and]
  cases l.sec == m.sec
  · simp only [Op.eqFields, p1 _ hl, p1 _ hm, p2 _ hl, p2 _ hm, p3 _ hl, p3 _ hm, p4 _ hl, p4 _ hm, p5 _ hl, p5 _ hm, Sem.run_bind, Sem.run_pure, Result.andThen_ok, q 9998, ne_eq, String.reduceEq, not_false_eq_true, if_true, Bool.not_true, Bool.not_false, Bool.false_eq_true, if_false, Bool.false_and, Bool.true_and]
  simp only [Op.eqFields, p1 _ hl, p1 _ hm, p2 _ hl, p2 _ hm, p3 _ hl, p3 _ hm, p4 _ hl, p4 _ hm, p5 _ hl, p5 _ hm, Sem.run_bind, Sem.run_pure, Result.andThen_ok, q 9998, ne_eq, String.reduceEq, not_false_eq_true, if_true, Bool.not_true, Bool.not_false, Bool.false_eq_true, if_false, Bool.false_and, Bool.true_and]
  cases l.life == m.life
  · simp only [Op.eqFields, p1 _ hl, p1 _ hm, p2 _ hl, p2 _ hm, p3 _ hl, p3 _ hm, p4 _ hl, p4 _ hm, p5 _ hl, p5 _ hm, Sem.run_bind, Sem.run_pure, Result.andThen_ok, q 9998, ne_eq, String.reduceEq, not_false_eq_true, if_true, Bool.not_true, Bool.not_false, Bool.false_eq_true, if_false, Bool.false_and, Bool.true_and]
  simp only [Op.eqFields, p1 _ hl, p1 _ hm, p2 _ hl, p2 _ hm, p3 _ hl, p3 _ hm, p4 _ hl, p4 _ hm, p5 _ hl, p5 _ hm, Sem.run_bind, Sem.run_pure, Result.andThen_ok, q 9998, ne_eq, String.reduceEq, not_false_eq_true, if_true, Bool.not_true, Bool.not_false, Bool.false_eq_true, if_false, Bool.false_and, Bool.true_and]
end Go.Proofs.YtcnjjcnmjmcoiaaGreatDoor

namespace Go.Proofs.YtcnjjcnmjmcoiaaGreatDoor
open Go.RowKit
set_option linter.unusedVariables false
set_option linter.unusedSimpArgs false
set_option maxRecDepth 100000

theorem within_any (n lo hi : Int) (w : World) : Calls Tryz.prog 54 #[.int .i64 n, .int .i64 lo, .int .i64 hi] w fun r w' => r = .returned (.bool (decide (lo ≤ n) && decide (n ≤ hi))) ∧ w' = w := by
  go_enter Tryz.func54, Tryz.ntmps54
  go_wp2
  all_goals
    go_ret
    refine ⟨ret_bool ?_, rfl⟩
    symm
    simp
    omega
theorem mayBe_any (l : Lab) (hl : l.pool.length = 32) (w : World) : Calls Tryz.prog 30 #[lv l] w fun r w' => r = .returned (.bool (mayB l)) ∧ Frm [] w w' := by
  have G1 := (LB.new w hl).gets
  have f : Frm [] w (w.alloc (.cells (lc l).toArray 28)) := (Frm.refl [] w).alloc _
  unfold lv
  generalize hA : (lc l).toArray = A at *
  go_enter Tryz.func30, Tryz.ntmps30
  go_upto_region 1 with (fail)
  generalize w.alloc (.cells A 28) = W at *
  obtain ⟨c1, c2, c3, c4, c5, _, _⟩ := G1
  clear hA
  obtain ⟨pool, dev, devs, cop, sec, life⟩ := l
  dsimp only at *
  by_cases hd : 2 ≤ devs ∧ devs ≤ 8
  · have hw : IntKind.i64.wrap (devs - 1) = devs - 1 := IntWalk.i64_in _ (by omega)
    have hd2 := hd.1
    have hd8 := hd.2
    go_wp2_with (go_at_call 54; refine (within_any _ _ _ _).mono ?_; rintro r w' ⟨rfl, rfl⟩)
    all_goals
      go_ret
      refine ⟨ret_bool ?_, f⟩
      rw [Bool.eq_iff_iff]
      simp only [mayB, decide_eq_true_eq]
      simp_all <;> omega
  · have hb : (decide (2 ≤ devs) && decide (devs ≤ 8)) = false := by simp; omega
    go_wp2_with (go_at_call 54; refine (within_any _ _ _ _).mono ?_; rintro r w' ⟨rfl, rfl⟩; rw [hb])
    all_goals
      go_ret
      refine ⟨ret_bool ?_, f⟩
      symm
      simp only [mayB, decide_eq_false_iff_not]
      omega
theorem Check_any (l : Lab) (hl : l.pool.length = 32) (w : World) : Calls Tryz.prog 18 #[lv l] w fun r w' => r = .returned (.int .i64 (mayE l)) ∧ Frm [] w w' := by
  have B1 := LB.new w hl
  have f : Frm [] w (w.alloc (.cells (lc l).toArray 28)) := (Frm.refl [] w).alloc _
  have hlv : lv l = .agg (lc l).toArray := rfl
  have HLV := Lib.hid hlv
  rw [hlv]
  clear hlv
  generalize hA : (lc l).toArray = A at *
  go_enter Tryz.func18, Tryz.ntmps18
  go_upto_region 1 with (fail)
  generalize w.alloc (.cells A 28) = W at *
  have G1 := Lib.hid B1.gets.all
  clear hA B1 HLV
  have HM := Lib.hid (mayBe_any l hl)
  cases hb : mayB l
  all_goals
    rw [hb] at HM
    have HB := Lib.hid hb
    clear hb
    go_wp2_with (first | ((with_reducible (show wpList _ _ _ (Oper.mk _ (Op.load 28 _) _ _ _ _ :: _) _ _)); refine wpList_load_g (by rfl) 28 _ rfl _ rfl G1.out ?_) | (go_at_call 30; refine (HM.out _).mono ?_; rintro r w2 ⟨rfl, f2⟩))
    go_ret
    exact ⟨by simp [mayE, HB.out], f.trans f2 (by simp)⟩
theorem agg_guard (op : BinOp) (x y : Operand) (s s2 : List UInt8) (W : World) : (eqGuard op 26 x y (idv s) (idv s2)).run Tryz.prog W = .ok () W := Hs.guard_agg op 26 x y _ _ (by kernel_rfl) W
theorem lab_guard (op : BinOp) (x y : Operand) (s s2 : Lab) (W : World) : (eqGuard op 28 x y (lv s) (lv s2)).run Tryz.prog W = .ok () W := Hs.guard_agg op 28 x y _ _ (by kernel_rfl) W
/-- Whether a label is that of a device of a pool, in its life. -/
def thereB (l : Lab) (pool : List UInt8) (dev life : Int) : Bool := mayB l && (l.pool == pool && (l.dev == dev && l.life == life))
theorem There_any (l : Lab) (pool : List UInt8) (dev life : Int) (hl : l.pool.length = 32) (hp : pool.length = 32) (w : World) : Calls Tryz.prog 15 #[lv l, idv pool, .int .i64 dev, .int .i64 life] w fun r w' => r = .returned (.bool (thereB l pool dev life)) ∧ Frm [] w w' := by
  have B1 : LB ((w.alloc (.cells (lc l).toArray 28)).alloc (.cells (bvs pool).toArray 26)) w.heap.size l := (LB.new w hl).keep0 ((Frm.refl [] _).alloc _)
  have hB : ((w.alloc (.cells (lc l).toArray 28)).alloc (.cells (bvs pool).toArray 26)).heap[w.heap.size + 1]? = some (.cells (bvs pool).toArray 26 (0, 0)) := heap_alloc_at (by simp)
  have f : Frm [] w ((w.alloc (.cells (lc l).toArray 28)).alloc (.cells (bvs pool).toArray 26)) := ((Frm.refl [] w).alloc _).alloc _
  have hq : (binOp .eql 26 (idv l.pool) (idv pool)).run Tryz.prog = _ := funext fun W => Hs.eql29 l.pool pool hl hp W
  have hg := fun op x y W => agg_guard op x y l.pool pool W
  have hl2 : ∀ W : World, W.heap[w.heap.size + 1]? = some (.cells (bvs pool).toArray 26 (0, 0)) → (Instr.loadAt 26 (.pointer (some ⟨w.heap.size + 1, 0, none⟩))).run Tryz.prog W = .ok (idv pool) W := fun W h => run_loadAt_mid W _ 0 26 (bvs pool) _ (fun j u hu => by rw [cell_of_heap h]; simpa using hu) d26 rfl (by rw [i26, bvs_length, hp])
  have HB2 := Lib.hid hB
  have L2 := Lib.hid hl2
  have HM := Lib.hid (mayBe_any l hl)
  have HT := Lib.hid (show thereB l pool dev life = (mayB l && (l.pool == pool && (l.dev == dev && l.life == life))) from rfl)
  clear hl2 hB
  unfold lv idv
  generalize hA : (lc l).toArray = A at *
  generalize hC : (bvs pool).toArray = C at *
  go_enter Tryz.func15, Tryz.ntmps15
  go_upto_region 1 with (fail)
  generalize (w.alloc (.cells A 28)).alloc (.cells C 26) = W at *
  have G1 := Lib.hid B1
  clear hA hC B1
  obtain ⟨c1, c2, c3, c4, c5, l1, l2⟩ := G1.out.gets
  have L1 := Lib.hid l1
  have L3 := Lib.hid l2
  clear l1 l2 c2 c3 c4
  cases hb : mayB l
  · rw [hb] at HM
    have HB := Lib.hid hb
    clear hb
    go_wp2_with (first | ((with_reducible (show wpList _ _ _ (Oper.mk _ (Op.load 28 _) _ _ _ _ :: _) _ _)); refine wpList_load_g (by rfl) 28 _ rfl _ rfl L1.out ?_) | (go_at_call 30; refine (HM.out _).mono ?_; rintro r w2 ⟨rfl, f2⟩))
    go_ret
    exact ⟨ret_bool (by rw [HT.out, HB.out]; rfl), f.trans f2 (by simp)⟩
  · rw [hb] at HM
    have HB := Lib.hid hb
    clear hb
    clear c1 c5
    go_wp2_with (first | ((with_reducible (show wpList _ _ _ (Oper.mk (some 9) (Op.load 28 _) _ _ _ _ :: _) _ _)); refine wpList_load_g (by rfl) 28 _ rfl _ rfl L1.out ?_) | (go_at_call 30; refine (HM.out _).mono ?_; rintro r w2 ⟨rfl, f2⟩; obtain ⟨c1, _, _, _, c5, _, hs⟩ := (G1.out.keep0 f2).gets; have L4 := Lib.hid hs; have L5 := Lib.hid (L2.out _ (f2.heap HB2.out (by simp))); clear hs) | ((with_reducible (show wpList _ _ _ (Oper.mk (some 13) (Op.load 26 _) _ _ _ _ :: _) _ _)); refine wpList_load_g (by rfl) 26 _ rfl _ rfl L4.out ?_) | ((with_reducible (show wpList _ _ _ (Oper.mk (some 14) (Op.load 26 _) _ _ _ _ :: _) _ _)); refine wpList_load_g (by rfl) 26 _ rfl _ rfl L5.out ?_))
    all_goals
      go_ret
      refine ⟨ret_bool ?_, f.trans f2 (by simp)⟩
      rw [HT.out, HB.out]
      simp_all
end Go.Proofs.YtcnjjcnmjmcoiaaGreatDoor

namespace Go.Proofs.YtcnjjcnmjmcoiaaGreatDoor
open Go.RowKit
set_option linter.unusedVariables false
set_option linter.unusedSimpArgs false
set_option maxRecDepth 100000

theorem RefCheck_any (l : Lab) (hl : l.pool.length = 32) (w : World) : Calls Tryz.prog 34 #[lv l] w fun r w' => r = .returned (.int .i64 (mayE l)) ∧ Frm [] w w' := by
  have G1 := (LB.new w hl).gets
  have f : Frm [] w (w.alloc (.cells (lc l).toArray 28)) := (Frm.refl [] w).alloc _
  unfold lv
  generalize hA : (lc l).toArray = A at *
  go_enter Tryz.func34, Tryz.ntmps34
  go_upto_region 1 with (fail)
  generalize w.alloc (.cells A 28) = W at *
  obtain ⟨c1, c2, c3, c4, c5, _, _⟩ := G1
  clear hA
  obtain ⟨pool, dev, devs, cop, sec, life⟩ := l
  dsimp only at *
  go_wp2
  all_goals
    go_ret
    refine ⟨?_, f⟩
    simp only [Bool.or_eq_true, Bool.or_eq_false_iff, decide_eq_true_eq, decide_eq_false_iff_not, not_or, Int.not_lt, Int.not_le] at *
    first
      | (refine Eq.trans (b := .returned (.int .i64 2)) rfl ?_; rw [mayE_no (fun h => by obtain ⟨a1, a2, a3, a4, a5, a6, a7, a8, a9, a10, a11⟩ := h; dsimp only at *; omega)])
      | (refine Eq.trans (b := .returned (.int .i64 0)) rfl ?_; rw [mayE_yes ⟨by dsimp only; omega, by dsimp only; omega, by dsimp only; omega, by dsimp only; omega, by dsimp only; omega, by dsimp only; omega, by dsimp only; omega, by dsimp only; omega, by dsimp only; omega, by dsimp only; omega, by dsimp only; omega⟩])
theorem RefThere_any (l : Lab) (pool : List UInt8) (dev life : Int) (hl : l.pool.length = 32) (hp : pool.length = 32) (w : World) : Calls Tryz.prog 16 #[lv l, idv pool, .int .i64 dev, .int .i64 life] w fun r w' => r = .returned (.bool (thereB l pool dev life)) ∧ Frm [] w w' := by
  have B1 : LB ((w.alloc (.cells (lc l).toArray 28)).alloc (.cells (bvs pool).toArray 26)) w.heap.size l := (LB.new w hl).keep0 ((Frm.refl [] _).alloc _)
  have hB : ((w.alloc (.cells (lc l).toArray 28)).alloc (.cells (bvs pool).toArray 26)).heap[w.heap.size + 1]? = some (.cells (bvs pool).toArray 26 (0, 0)) := heap_alloc_at (by simp)
  have f : Frm [] w ((w.alloc (.cells (lc l).toArray 28)).alloc (.cells (bvs pool).toArray 26)) := ((Frm.refl [] w).alloc _).alloc _
  have hq : (binOp .eql 26 (idv l.pool) (idv pool)).run Tryz.prog = _ := funext fun W => Hs.eql29 l.pool pool hl hp W
  have hg := fun op x y W => agg_guard op x y l.pool pool W
  have hl2 : ∀ W : World, W.heap[w.heap.size + 1]? = some (.cells (bvs pool).toArray 26 (0, 0)) → (Instr.loadAt 26 (.pointer (some ⟨w.heap.size + 1, 0, none⟩))).run Tryz.prog W = .ok (idv pool) W := fun W h => run_loadAt_mid W _ 0 26 (bvs pool) _ (fun j u hu => by rw [cell_of_heap h]; simpa using hu) d26 rfl (by rw [i26, bvs_length, hp])
  have HB2 := Lib.hid hB
  have L2 := Lib.hid hl2
  have HM := Lib.hid (RefCheck_any l hl)
  have HT := Lib.hid (show thereB l pool dev life = (mayB l && (l.pool == pool && (l.dev == dev && l.life == life))) from rfl)
  clear hl2 hB
  unfold lv idv
  generalize hA : (lc l).toArray = A at *
  generalize hC : (bvs pool).toArray = C at *
  go_enter Tryz.func16, Tryz.ntmps16
  go_upto_region 1 with (fail)
  generalize (w.alloc (.cells A 28)).alloc (.cells C 26) = W at *
  have G1 := Lib.hid B1
  clear hA hC B1
  obtain ⟨c1, c2, c3, c4, c5, l1, l2⟩ := G1.out.gets
  have L1 := Lib.hid l1
  have L3 := Lib.hid l2
  clear l1 l2 c2 c3 c4
  cases hb : mayB l
  · rw [show mayE l = 2 by simp [mayE, hb]] at HM
    have HB := Lib.hid hb
    clear hb
    go_wp2_with (first | ((with_reducible (show wpList _ _ _ (Oper.mk _ (Op.load 28 _) _ _ _ _ :: _) _ _)); refine wpList_load_g (by rfl) 28 _ rfl _ rfl L1.out ?_) | (go_at_call 34; refine (HM.out _).mono ?_; rintro r w2 ⟨rfl, f2⟩))
    go_ret
    exact ⟨ret_bool (by rw [HT.out, HB.out]; rfl), f.trans f2 (by simp)⟩
  · rw [show mayE l = 0 by simp [mayE, hb]] at HM
    have HB := Lib.hid hb
    clear hb
    clear c1 c5
    go_wp2_with (first | ((with_reducible (show wpList _ _ _ (Oper.mk (some 9) (Op.load 28 _) _ _ _ _ :: _) _ _)); refine wpList_load_g (by rfl) 28 _ rfl _ rfl L1.out ?_) | (go_at_call 34; refine (HM.out _).mono ?_; rintro r w2 ⟨rfl, f2⟩; obtain ⟨c1, _, _, _, c5, _, hs⟩ := (G1.out.keep0 f2).gets; have L4 := Lib.hid hs; have L5 := Lib.hid (L2.out _ (f2.heap HB2.out (by simp))); clear hs) | ((with_reducible (show wpList _ _ _ (Oper.mk (some 14) (Op.load 26 _) _ _ _ _ :: _) _ _)); refine wpList_load_g (by rfl) 26 _ rfl _ rfl L4.out ?_) | ((with_reducible (show wpList _ _ _ (Oper.mk (some 15) (Op.load 26 _) _ _ _ _ :: _) _ _)); refine wpList_load_g (by rfl) 26 _ rfl _ rfl L5.out ?_))
    all_goals
      go_ret
      refine ⟨ret_bool ?_, f.trans f2 (by simp)⟩
      rw [HT.out, HB.out]
      simp_all
end Go.Proofs.YtcnjjcnmjmcoiaaGreatDoor

namespace Go.Proofs.YtcnjjcnmjmcoiaaGreatDoor
open Go.RowKit
set_option linter.unusedVariables false
set_option linter.unusedSimpArgs false
set_option maxRecDepth 100000

theorem step_raw {m x : List UInt8} (h : m.length + x.length ≤ 65536) : wStep (m, 0) (addStep · x) = (m ++ x, 0) := by
  simp [wStep, addStep, h]
theorem step_num {m : List UInt8} {n size : Int} (h1 : 1 ≤ size) (h7 : size ≤ 7) (h0 : 0 ≤ n) (h : n < 2 ^ (8 * size.toNat)) (hl : m.length ≤ 60000) : wStep (m, 0) (numStep · n size) = (m ++ beBytes n.toNat size.toNat, 0) := by
  simp only [wStep, if_true, numStep]
  rw [if_neg (by simp [isSizeB]; omega), if_neg (by omega)]
  unfold addStep
  rw [if_pos (by rw [beBytes_length]; omega)]
theorem step_pad {m : List UInt8} {t : Nat} (h : m.length ≤ t) (h6 : t ≤ 65536) : wStep (m, 0) (padStep · t) = (m ++ List.replicate (t - m.length) 0, 0) := by
  simp only [wStep, if_true, padStep]
  rw [if_neg (by omega)]
  unfold addStep
  simp only [Int.toNat_natCast, List.length_replicate]
  rw [if_pos (by omega)]
/-- Done, and the writer has these bytes. -/
def Wrote (w : World) (bw : Nat) (v : Value) (m : List UInt8) (r : Ending) (w' : World) : Prop := r = .returned (.tuple #[]) ∧ WrTo w bw v m 0 w'
theorem c1_any (bw : Nat) (v : Value) (m sp : List UInt8) (w : World) (hW : Wr w bw v m sp 0) (hl : m.length ≤ 1000) : Calls Tryz.prog 59 #[.pointer (some ⟨bw, 0, none⟩)] w (Wrote w bw v (m ++ mark)) := by
  have hS := Hs.slb_new w mark 8 #[.int .u8 67, .int .u8 65, .int .u8 85, .int .u8 76, .int .u8 75, .int .u8 69, .int .u8 82, .int .u8 49] (8, 9) rfl rfl (by simp [mark, maxLen])
  have f : Frm [] w (w.alloc (.cells #[.int .u8 67, .int .u8 65, .int .u8 85, .int .u8 76, .int .u8 75, .int .u8 69, .int .u8 82, .int .u8 49] 5 (8, 9))) := (Frm.refl [] w).alloc _
  have HR := Lib.hid (Raw_any bw v _ m sp mark [] 0 _ (hW.keep f (by simp) (by simp)) (by omega) hS)
  rw [step_raw (by simp [mark]; omega)] at HR
  clear hS
  have kc := fun (w : World) (C : Array Value) (n c : Nat) => Lib.run_convert_bytes_const (P := Tryz.prog) w 22 5 C n c Tryz.underlying22 Tryz.underlying5
  go_enter Tryz.func59, Tryz.ntmps59
  go_wp2_with (go_at_call 60; refine HR.out.mono ?_; rintro r w' ⟨rfl, hw⟩)
  go_end0
  exact ⟨rfl, hw.behind f⟩
theorem sliceAt26 (b : Nat) (W : World) : (Instr.sliceAt 26 (.pointer (some ⟨b, 0, none⟩)) none none none).run Tryz.prog W = .ok (.slice (some ⟨b, 0, none⟩) 32 32) W := by
  have hu : Tryz.prog.underlying 26 = some (.array (Tryz.prog.arrayLen 26) (Tryz.prog.elem 26)) := by kernel_rfl
  have hl : Tryz.prog.arrayLen 26 = 32 := by kernel_rfl
  have he : Tryz.prog.elem 26 = 5 := by kernel_rfl
  have hs : (sizeOf 5).run Tryz.prog W = .ok 1 W := by kernel_rfl
  rw [run_sliceAt_array_all (P := Tryz.prog) W 26 _ hu, he, hs, hl]
  rfl
theorem LB.poolS {w : World} {g : Nat} {l : Lab} (h : LB w g l) : SlB w (.slice (some ⟨g, 0, none⟩) 32 32) l.pool [] := by
  have hb : (bvs l.pool).length = 32 := by rw [bvs_length, h.2]
  refine ⟨by simp [hb, h.2], .inr (.inr ⟨g, 0, 32, by rw [h.2], by rw [h.2]; exact Nat.le_refl _, by simp [maxLen], by simp [bvs, h.2], fun i u hu => ?_⟩)⟩
  have hu' : (bvs l.pool)[i]? = some u := by simpa [bvs] using hu
  have hi : i < (bvs l.pool).length := (List.getElem?_eq_some_iff.1 hu').1
  rw [cell_of_heap h.1, Nat.zero_add, List.getElem?_toArray, lc, List.getElem?_append_left hi]
  exact hu'
theorem c2_any (g bw : Nat) (l : Lab) (v : Value) (m sp : List UInt8) (w : World) (hW : Wr w bw v m sp 0) (hB : LB w g l) (hl : m.length ≤ 1000) : Calls Tryz.prog 61 #[.pointer (some ⟨bw, 0, none⟩), .pointer (some ⟨g, 0, none⟩)] w (Wrote w bw v (m ++ l.pool)) := by
  have HR := Lib.hid (Raw_any bw v _ m sp l.pool [] 0 _ hW (by omega) hB.poolS)
  rw [step_raw (by rw [hB.2]; omega)] at HR
  have hs := sliceAt26 g
  go_enter Tryz.func61, Tryz.ntmps61
  go_wp2_with (go_at_call 60; refine HR.out.mono ?_; rintro r w' ⟨rfl, hw⟩)
  go_end0
  exact ⟨rfl, hw⟩
theorem c3_any (g bw : Nat) (l : Lab) (v : Value) (m sp : List UInt8) (w : World) (hW : Wr w bw v m sp 0) (hB : LB w g l) (hl : m.length ≤ 1000) (h0 : 0 ≤ l.dev) (h9 : l.dev < 256) : Calls Tryz.prog 62 #[.pointer (some ⟨bw, 0, none⟩), .pointer (some ⟨g, 0, none⟩)] w (Wrote w bw v (m ++ beBytes l.dev.toNat 1)) := by
  have HR := Lib.hid (Num_any bw v m sp 0 l.dev 1 _ hW (by omega) (by omega))
  rw [step_num (size := 1) (by omega) (by omega) h0 (by rw [show (2 : Int) ^ (8 * Int.toNat 1) = 256 from rfl]; exact h9) (by omega)] at HR
  have hc := hB.gets.c1
  go_enter Tryz.func62, Tryz.ntmps62
  go_wp2_with (go_at_call 63; refine HR.out.mono ?_; rintro r w' ⟨rfl, hw⟩)
  go_end0
  exact ⟨rfl, hw⟩
theorem c4_any (g bw : Nat) (l : Lab) (v : Value) (m sp : List UInt8) (w : World) (hW : Wr w bw v m sp 0) (hB : LB w g l) (hl : m.length ≤ 1000) (h0 : 0 ≤ l.devs) (h9 : l.devs < 256) : Calls Tryz.prog 64 #[.pointer (some ⟨bw, 0, none⟩), .pointer (some ⟨g, 0, none⟩)] w (Wrote w bw v (m ++ beBytes l.devs.toNat 1)) := by
  have HR := Lib.hid (Num_any bw v m sp 0 l.devs 1 _ hW (by omega) (by omega))
  rw [step_num (size := 1) (by omega) (by omega) h0 (by rw [show (2 : Int) ^ (8 * Int.toNat 1) = 256 from rfl]; exact h9) (by omega)] at HR
  have hc := hB.gets.c2
  go_enter Tryz.func64, Tryz.ntmps64
  go_wp2_with (go_at_call 63; refine HR.out.mono ?_; rintro r w' ⟨rfl, hw⟩)
  go_end0
  exact ⟨rfl, hw⟩
theorem c5_any (g bw : Nat) (l : Lab) (v : Value) (m sp : List UInt8) (w : World) (hW : Wr w bw v m sp 0) (hB : LB w g l) (hl : m.length ≤ 1000) (h0 : 0 ≤ l.cop) (h9 : l.cop < 256) : Calls Tryz.prog 65 #[.pointer (some ⟨bw, 0, none⟩), .pointer (some ⟨g, 0, none⟩)] w (Wrote w bw v (m ++ beBytes l.cop.toNat 1)) := by
  have HR := Lib.hid (Num_any bw v m sp 0 l.cop 1 _ hW (by omega) (by omega))
  rw [step_num (size := 1) (by omega) (by omega) h0 (by rw [show (2 : Int) ^ (8 * Int.toNat 1) = 256 from rfl]; exact h9) (by omega)] at HR
  have hc := hB.gets.c3
  go_enter Tryz.func65, Tryz.ntmps65
  go_wp2_with (go_at_call 63; refine HR.out.mono ?_; rintro r w' ⟨rfl, hw⟩)
  go_end0
  exact ⟨rfl, hw⟩
theorem c6_any (g bw : Nat) (l : Lab) (v : Value) (m sp : List UInt8) (w : World) (hW : Wr w bw v m sp 0) (hB : LB w g l) (hl : m.length ≤ 1000) (h0 : 0 ≤ l.sec) (h9 : l.sec < 65536) : Calls Tryz.prog 66 #[.pointer (some ⟨bw, 0, none⟩), .pointer (some ⟨g, 0, none⟩)] w (Wrote w bw v (m ++ beBytes l.sec.toNat 2)) := by
  have HR := Lib.hid (Num_any bw v m sp 0 l.sec 2 _ hW (by omega) (by omega))
  rw [step_num (size := 2) (by omega) (by omega) h0 (by rw [show (2 : Int) ^ (8 * Int.toNat 2) = 65536 from rfl]; exact h9) (by omega)] at HR
  have hc := hB.gets.c4
  go_enter Tryz.func66, Tryz.ntmps66
  go_wp2_with (go_at_call 63; refine HR.out.mono ?_; rintro r w' ⟨rfl, hw⟩)
  go_end0
  exact ⟨rfl, hw⟩
theorem c7_any (g bw : Nat) (l : Lab) (v : Value) (m sp : List UInt8) (w : World) (hW : Wr w bw v m sp 0) (hB : LB w g l) (hl : m.length ≤ 1000) (h0 : 0 ≤ l.life) (h9 : l.life < 1099511627776) : Calls Tryz.prog 67 #[.pointer (some ⟨bw, 0, none⟩), .pointer (some ⟨g, 0, none⟩)] w (Wrote w bw v (m ++ beBytes l.life.toNat 5)) := by
  have HR := Lib.hid (Num_any bw v m sp 0 l.life 5 _ hW (by omega) (by omega))
  rw [step_num (size := 5) (by omega) (by omega) h0 (by rw [show (2 : Int) ^ (8 * Int.toNat 5) = 1099511627776 from rfl]; exact h9) (by omega)] at HR
  have hc := hB.gets.c5
  go_enter Tryz.func67, Tryz.ntmps67
  go_wp2_with (go_at_call 63; refine HR.out.mono ?_; rintro r w' ⟨rfl, hw⟩)
  go_end0
  exact ⟨rfl, hw⟩
theorem c8_any (bw : Nat) (v : Value) (m sp : List UInt8) (w : World) (hW : Wr w bw v m sp 0) (hl : m.length ≤ 224) : Calls Tryz.prog 68 #[.pointer (some ⟨bw, 0, none⟩)] w (Wrote w bw v (m ++ List.replicate (224 - m.length) 0)) := by
  have HR := Lib.hid (Pad_any bw v m sp 0 (224 : Nat) _ hW (by omega))
  rw [step_pad hl (by omega)] at HR
  go_enter Tryz.func68, Tryz.ntmps68
  go_wp2_with (go_at_call 69; refine HR.out.mono ?_; rintro r w' ⟨rfl, hw⟩)
  go_end0
  exact ⟨rfl, hw⟩
theorem alloc26 (W : World) : (Instr.alloc 26 true (.tuple #[])).run Tryz.prog W = .ok (.pointer (some ⟨W.heap.size, 0, none⟩)) (W.alloc (.cells (bvs (List.replicate 32 0)).toArray 26)) := by kernel_rfl
theorem exec_alloc26 {o : Oper} {a : Act} (hop : o.op = Op.alloc 26) (W : World) : (execOp a.eval o).run Tryz.prog W = .ok (.value (.pointer (some ⟨W.heap.size, 0, none⟩))) (W.alloc (.cells (bvs (List.replicate 32 0)).toArray 26)) := by
  have h := alloc26 W
  generalize W.alloc (.cells (bvs (List.replicate 32 0)).toArray 26) = W2 at *
  simp only [execOp, hop, Sem.run_bind, Sem.run_pure, h, Result.andThen_ok]
/-- An ID is laid into a new variable. -/
theorem wpList_lay26 {ops : Array Oper} {rest : List Oper} {o1 o3 : Oper} {a : Act} {W : World} {Q : Exit → Act → World → Prop} (g1 : o1.guard = none) (g3 : o3.guard = none)
    (h1 : o1.op = .alloc 26) (p x : Operand) (h3 : o3.op = .store 26 p x) {s : List UInt8} (hs : s.length = 32)
    (e1 : (a.put o1.dst (.pointer (some ⟨W.heap.size, 0, none⟩))).eval p = .pointer (some ⟨W.heap.size, 0, none⟩))
    (e2 : (a.put o1.dst (.pointer (some ⟨W.heap.size, 0, none⟩))).eval x = idv s)
    (k : wpList Tryz.prog ops Q rest ((a.put o1.dst (.pointer (some ⟨W.heap.size, 0, none⟩))).put o3.dst undef) (W.alloc (.cells (bvs s).toArray 26))) :
    wpList Tryz.prog ops Q (o1 :: o3 :: rest) a W := by
  refine wpList_val g1 (exec_alloc26 h1 _) ?_
  refine wpList_store_row g3 26 p x h3 W.heap.size (bvs s).toArray e1 e2 26 _ (heap_alloc_new _ _) (by rw [i26]; simp [bvs_length, hs]) (by simp [bvs_length, hs]) (all_oneCell_toArray (bvs_one s)) ?_
  rw [World.setRow_alloc_new]
  exact k
/-- A digest, as new bytes. -/
def Told32 (w : World) (b : List UInt8) (r : Ending) (w' : World) : Prop := ∃ g, w.heap.size ≤ g ∧ r = .returned (.slice (some ⟨g, 0, none⟩) 32 32) ∧ SlB w' (.slice (some ⟨g, 0, none⟩) 32 32) (Hs.sha b) [] ∧ Frm [] w w'
theorem digest_any (bw : Nat) (v : Value) (m sp : List UInt8) (w : World) (hW : Wr w bw v m sp 0) (hl : m.length ≤ 1000) (hG : Hs.Glob w) : Calls Tryz.prog 71 #[.pointer (some ⟨bw, 0, none⟩)] w (Told32 w m) := by
  have HO := Lib.hid (Out_any bw v m sp 0 w hW (by omega))
  have HG := Lib.hid hG
  have hs := sliceAt26
  clear hG
  go_enter Tryz.func71, Tryz.ntmps71
  go_wp2_with (go_at_call 38; refine HO.out.mono ?_; rintro r w1 ⟨a, cap, sp', rfl, o1, f1, n1⟩)
  have e0 : outB m 0 = m := rfl
  rw [e0] at o1 n1 ⊢
  have HS := Lib.hid (Hs.Sum_any _ m sp' w1 o1.sl (by omega) (HG.out.keep f1 (by simp)))
  have F1 := Lib.hid f1
  have hsz := f1.size
  clear o1 n1 f1
  have hsl := sha_length m
  go_upto_region 3 with (first
    | ((with_reducible (show wpList _ _ _ (Oper.mk _ (Op.alloc 26) _ _ _ _ :: _) _ _)); refine wpList_lay26 rfl rfl rfl _ _ rfl (s := Hs.sha m) hsl rfl rfl ?_)
    | (go_at_call 100; refine HS.out.mono ?_; rintro r w2 ⟨rfl, f2⟩))
  go_wp2_with fail
  go_ret
  have f3 : Frm [] w (w2.alloc (.cells (bvs (Hs.sha m)).toArray 26)) := (F1.out.trans f2 (by simp)).alloc _
  refine ⟨w2.heap.size, (F1.out.trans f2 (by simp)).size, rfl, ?_, f3⟩
  have hp := Hs.slb_part (heap_alloc_new w2 (.cells (bvs (Hs.sha m)).toArray 26)) 0 32 32 (by rw [hsl]; omega) (Nat.le_refl _) (by rw [hsl]; omega) (by rw [hsl]; decide)
  rw [List.drop_zero, List.take_of_length_le (by rw [hsl]; omega)] at hp
  exact hp
theorem c9_any (bw : Nat) (v : Value) (m sp : List UInt8) (w : World) (hW : Wr w bw v m sp 0) (hl : m.length ≤ 1000) (hG : Hs.Glob w) : Calls Tryz.prog 70 #[.pointer (some ⟨bw, 0, none⟩)] w (Wrote w bw v (m ++ Hs.sha m)) := by
  have HD := Lib.hid (digest_any bw v m sp w hW hl hG)
  have HW := Lib.hid hW
  have hsl := sha_length m
  clear hG hW
  go_enter Tryz.func70, Tryz.ntmps70
  go_wp2_with (go_at_call 71; refine HD.out.mono ?_; rintro r w1 ⟨g, hg, rfl, hS, f1⟩)
  have HR := Lib.hid (Raw_any bw v _ m sp (Hs.sha m) [] 0 _ (HW.out.keep f1 (by simp) (by simp)) (by omega) hS)
  rw [step_raw (by omega)] at HR
  refine HR.out.mono ?_
  rintro r w' ⟨rfl, hw⟩
  go_wp2
  go_end0
  exact ⟨rfl, hw.behind f1⟩
end Go.Proofs.YtcnjjcnmjmcoiaaGreatDoor
