/-
  Plain facts of uberblocks: their bytes, what bytes are read as, what of a torn sector. No conditions but those that each theorem names.
-/
import Derived.Test.YtjdejhgfkjeeiaaGreatDoorFB
import Derived.Test.YtjdejhgfkjeeiaaGreatDoorHZ
import Derived.Test.YtjdejhgfkjeeiaaGreatDoorPY
namespace Go.Proofs.YtjdejhgfkjeeiaaGreatDoor
open Go.RowKit
set_option linter.unusedVariables false
set_option linter.unusedSimpArgs false
set_option maxRecDepth 100000

open Pt (Pt may enc readPt readE zeroPt)
theorem sha_length (b : List UInt8) : (Hs.sha b).length = 32 := Hs.digK_length _ _
theorem beBytes_high (c n k : Nat) : beBytes (c * 256 ^ k + n) k = beBytes n k := by
  have key : ∀ j, j ≤ k → beBytes (c * 256 ^ k + n) j = beBytes n j := by
    intro j
    induction j with
    | zero => intro _; rfl
    | succ j ih =>
      intro hj
      show UInt8.ofNat _ :: _ = UInt8.ofNat _ :: _
      rw [ih (by omega)]
      congr 1
      have h1 : 2 ^ (8 * j) = 256 ^ j := by rw [Nat.pow_mul]
      have h2 : c * 256 ^ k = 256 ^ j * (c * 256 ^ (k - j - 1) * 256) := by
        have : 256 ^ k = 256 ^ j * (256 ^ (k - j - 1) * 256) := by rw [← Nat.pow_succ, ← Nat.pow_add]; congr 1; omega
        rw [this]
        ac_rfl
      have hp : 0 < 256 ^ j := Nat.pow_pos (by omega)
      rw [h1, h2, Nat.mul_add_div hp]
      apply UInt8.toNat_inj.1
      simp
  exact key k (Nat.le_refl _)
theorem beNat_cons (b : UInt8) (r : List UInt8) : beNat (b :: r) = b.toNat * 256 ^ r.length + beNat r := by
  have h : ∀ (r : List UInt8) (n : Nat), r.foldl (fun n b => n * 256 + b.toNat) n = n * 256 ^ r.length + r.foldl (fun n b => n * 256 + b.toNat) 0 := by
    intro r
    induction r with
    | nil => intro n; simp
    | cons c r ih =>
      intro n
      simp only [List.foldl_cons, List.length_cons]
      rw [ih (n * 256 + c.toNat), ih (0 * 256 + c.toNat), Nat.pow_succ, Nat.add_mul, Nat.zero_mul, Nat.zero_add, Nat.mul_comm (256 ^ r.length) 256, Nat.mul_assoc]
      omega
  have := h r b.toNat
  simpa [beNat] using this
theorem beBytes_back (m : List UInt8) : beBytes (beNat m) m.length = m := by
  induction m with
  | nil => rfl
  | cons b r ih =>
    have h1 : 2 ^ (8 * r.length) = 256 ^ r.length := by rw [Nat.pow_mul]
    have hp : 0 < 256 ^ r.length := Nat.pow_pos (by omega)
    show UInt8.ofNat _ :: beBytes _ r.length = b :: r
    rw [beNat_cons, beBytes_high, ih, h1, Nat.mul_comm, Nat.mul_add_div hp, Nat.div_eq_of_lt (beNat_lt r)]
    simp
theorem beNat_beBytes (n : Nat) : ∀ k, beNat (beBytes n k) = n % 256 ^ k := by
  intro k
  induction k with
  | zero => simp [beBytes, beNat, Nat.mod_one]
  | succ k ih =>
    have h1 : 2 ^ (8 * k) = 256 ^ k := by rw [Nat.pow_mul]
    show beNat (UInt8.ofNat _ :: beBytes n k) = _
    rw [beNat_cons, beBytes_length, ih, h1, Nat.mod_pow_succ]
    simp
    rw [Nat.mul_comm]; omega
theorem be_int {n : Int} {k : Nat} (h0 : 0 ≤ n) (h : n < 256 ^ k) : (beNat (beBytes n.toNat k) : Int) = n := by
  obtain ⟨m, rfl⟩ := Int.eq_ofNat_of_zero_le h0
  rw [beNat_beBytes]
  simp only [Int.toNat_natCast]
  have h' : (m : Int) < ((256 ^ k : Nat) : Int) := by rw [Int.natCast_pow]; exact h
  rw [Nat.mod_eq_of_lt (Int.ofNat_lt.1 h')]
/-- An uberblock: its numbers, its root, its pool. -/
structure Ub where
  txg : Int
  root : Pt
  len : Int
  pool : List UInt8
theorem Ub.ext' {u v : Ub} (h1 : u.txg = v.txg) (h2 : u.root = v.root) (h3 : u.len = v.len) (h4 : u.pool = v.pool) : u = v := by cases u; cases v; simp_all
/-- What an uberblock's IDs have for lengths. -/
structure WfU (u : Ub) : Prop where
  pool : u.pool.length = 32
  sum : u.root.s.length = 32
/-- Which may be. -/
structure MayU (u : Ub) : Prop where
  t1 : 1 ≤ u.txg
  t2 : u.txg ≤ 2147483648
  r : Pt.hole u.root = true ∨ (may u.root ∧ u.root.l = 3 ∧ u.root.b ≤ u.txg)
  l0 : 0 ≤ u.len
  l1 : u.len ≤ 16384
theorem MayU.root {u : Ub} (h : MayU u) : may u.root := by
  rcases h.r with h | ⟨h, _⟩
  · exact .inl h
  · exact h
def rootB (p : Pt) (txg : Int) : Bool := Pt.hole p || (Pt.mayB p && (p.l == 3 && decide (p.b ≤ txg)))
def mayUB (u : Ub) : Bool := decide (1 ≤ u.txg ∧ u.txg ≤ 2147483648) && (rootB u.root u.txg && decide (0 ≤ u.len ∧ u.len ≤ 16384))
theorem mayUB_iff {u : Ub} : mayUB u = true ↔ MayU u := by
  simp only [mayUB, rootB, Bool.and_eq_true, Bool.or_eq_true, decide_eq_true_eq, beq_iff_eq, Pt.mayB_iff]
  exact ⟨fun ⟨⟨a, b⟩, c, d, e⟩ => ⟨a, b, c, d, e⟩, fun ⟨a, b, c, d, e⟩ => ⟨⟨a, b⟩, c, d, e⟩⟩
theorem mayUB_no {u : Ub} : mayUB u = false ↔ ¬ MayU u := by rw [← mayUB_iff]; simp
def mayE (u : Ub) : Int := if mayUB u = true then 0 else 2
theorem mayE_yes {u : Ub} (h : MayU u) : mayE u = 0 := by simp [mayE, mayUB_iff.2 h]
theorem mayE_no {u : Ub} (h : ¬ MayU u) : mayE u = 2 := by simp [mayE, mayUB_no.2 h]
def mark : List UInt8 := [67, 65, 85, 76, 75, 69, 82, 50]
def midU (u : Ub) : List UInt8 := beBytes u.txg.toNat 5 ++ beBytes u.len.toNat 3
def headU (u : Ub) : List UInt8 := mark ++ (u.pool ++ (midU u ++ (enc u.root ++ List.replicate 129 0)))
/-- An uberblock as a sector. -/
def packU (u : Ub) : List UInt8 := headU u ++ Hs.sha (headU u)
def packO (u : Ub) : List UInt8 := if mayUB u = true then packU u else []
theorem packO_yes {u : Ub} (h : MayU u) : packO u = packU u := by simp [packO, mayUB_iff.2 h]
theorem packO_no {u : Ub} (h : ¬ MayU u) : packO u = [] := by simp [packO, mayUB_no.2 h]
theorem midU_length (u : Ub) : (midU u).length = 8 := by simp [midU, beBytes_length]
theorem headU_length {u : Ub} (w : WfU u) (h : MayU u) : (headU u).length = 224 := by simp [headU, midU_length, mark, w.pool, Pt.enc_len h.root w.sum, -List.reduceReplicate]
theorem packU_length {u : Ub} (w : WfU u) (h : MayU u) : (packU u).length = 256 := by unfold packU; rw [List.length_append, headU_length w h, sha_length]
theorem packU_head {u : Ub} (w : WfU u) (h : MayU u) : (packU u).take 224 = headU u := by
  unfold packU; rw [List.take_append_of_le_length (by rw [headU_length w h]; exact Nat.le_refl _), List.take_of_length_le (by rw [headU_length w h]; exact Nat.le_refl _)]
theorem packU_sum {u : Ub} (w : WfU u) (h : MayU u) : (packU u).drop 224 = Hs.sha (headU u) := by
  unfold packU; rw [List.drop_append_of_le_length (by rw [headU_length w h]; exact Nat.le_refl _), List.drop_eq_nil_of_le (by rw [headU_length w h]; exact Nat.le_refl _), List.nil_append]
def seg (b : List UInt8) (p n : Nat) : List UInt8 := (b.drop p).take n
theorem seg_app (a b r : List UInt8) (p n : Nat) (h : a.length = p) (k : b.length = n) : seg (a ++ (b ++ r)) p n = b := by
  unfold seg
  subst h; subst k
  simp
theorem seg_length {b : List UInt8} {p n : Nat} (h : p + n ≤ b.length) : (seg b p n).length = n := by simp [seg]; omega
theorem seg_next (b : List UInt8) (p n : Nat) : b.drop p = seg b p n ++ b.drop (p + n) := by
  unfold seg
  rw [← List.drop_drop, List.take_append_drop]
/-- What stands in a sector's places. -/
def parse (b : List UInt8) : Ub := ⟨beNat (seg b 40 5), readPt (seg b 48 47), beNat (seg b 45 3), seg b 8 32⟩
theorem readPt_sum (l : List UInt8) : (readPt l).s.length = 32 := by
  unfold readPt
  by_cases h : Pt.goodB l = true
  · rw [if_pos h]
    have := ((Pt.goodB_iff l).1 h).1
    simp [Pt.rawPt]
    omega
  · rw [if_neg h]; rfl
theorem parse_wf {b : List UInt8} (h : b.length = 256) : WfU (parse b) := ⟨seg_length (by omega), readPt_sum _⟩
theorem parse_pack {u : Ub} (w : WfU u) (hm : MayU u) : parse (packU u) = u := by
  have e0 : packU u = mark ++ (u.pool ++ (beBytes u.txg.toNat 5 ++ (beBytes u.len.toNat 3 ++ (enc u.root ++ (List.replicate 129 0 ++ Hs.sha (headU u)))))) := by
    simp [packU, headU, midU, -List.reduceReplicate]
  have lb := beBytes_length
  have hp := w.pool
  have he := Pt.enc_len hm.root w.sum
  unfold parse
  rw [e0]
  apply Ub.ext'
  · simp only
    rw [show ∀ r : List UInt8, mark ++ (u.pool ++ (beBytes u.txg.toNat 5 ++ r)) = (mark ++ u.pool) ++ (beBytes u.txg.toNat 5 ++ r) from fun r => by simp, seg_app _ _ _ 40 5 (by simp [mark, hp]) (lb _ _)]
    exact be_int (by have := hm.t1; omega) (by have := hm.t2; omega)
  · simp only
    rw [show ∀ r : List UInt8, mark ++ (u.pool ++ (beBytes u.txg.toNat 5 ++ (beBytes u.len.toNat 3 ++ (enc u.root ++ r)))) = (mark ++ (u.pool ++ (beBytes u.txg.toNat 5 ++ beBytes u.len.toNat 3))) ++ (enc u.root ++ r) from fun r => by simp, seg_app _ _ _ 48 47 (by simp [mark, hp, lb]) he]
    exact (Pt.read_enc hm.root w.sum).2.2
  · simp only
    rw [show ∀ r : List UInt8, mark ++ (u.pool ++ (beBytes u.txg.toNat 5 ++ (beBytes u.len.toNat 3 ++ r))) = (mark ++ (u.pool ++ beBytes u.txg.toNat 5)) ++ (beBytes u.len.toNat 3 ++ r) from fun r => by simp, seg_app _ _ _ 45 3 (by simp [mark, hp, lb]) (lb _ _)]
    exact be_int hm.l0 (by have := hm.l1; omega)
  · exact seg_app mark _ _ 8 32 rfl hp
def zeroU : Ub := ⟨0, zeroPt, 0, List.replicate 32 0⟩
theorem zeroU_wf : WfU zeroU := ⟨rfl, rfl⟩
/-- The uberblock that a sector is, or why it is none. -/
def unp (b : List UInt8) : Ub × Int :=
  if b.length ≠ 256 then (zeroU, 4) else if b = List.replicate 256 0 then (zeroU, 6) else if mayUB (parse b) = true ∧ packU (parse b) = b then (parse b, 0) else (zeroU, 11)
theorem packU_mark (u : Ub) : (packU u).take 8 = mark := by simp [packU, headU, mark, -List.reduceReplicate]
theorem packU_ne_zeros (u : Ub) : packU u ≠ List.replicate 256 0 := by
  intro h
  have := packU_mark u
  rw [h] at this
  exact absurd this (by decide)
theorem unp_pack {u : Ub} (w : WfU u) (hm : MayU u) : unp (packU u) = (u, 0) := by
  unfold unp
  rw [if_neg (by rw [packU_length w hm]; simp), if_neg (packU_ne_zeros u), parse_pack w hm, if_pos ⟨mayUB_iff.2 hm, rfl⟩]
theorem unp_cases (b : List UInt8) : (∃ e, e ≠ 0 ∧ unp b = (zeroU, e)) ∨ (unp b = (parse b, 0) ∧ b.length = 256 ∧ MayU (parse b) ∧ packU (parse b) = b) := by
  unfold unp
  by_cases h1 : b.length ≠ 256
  · rw [if_pos h1]; exact .inl ⟨4, by decide, rfl⟩
  rw [if_neg h1]
  by_cases h2 : b = List.replicate 256 0
  · rw [if_pos h2]; exact .inl ⟨6, by decide, rfl⟩
  rw [if_neg h2]
  by_cases h3 : mayUB (parse b) = true ∧ packU (parse b) = b
  · rw [if_pos h3]; exact .inr ⟨rfl, by omega, mayUB_iff.1 h3.1, h3.2⟩
  · rw [if_neg h3]; exact .inl ⟨11, by decide, rfl⟩
theorem unp_wf (b : List UInt8) : WfU (unp b).1 := by
  rcases unp_cases b with ⟨e, _, h⟩ | ⟨h, h2, _⟩ <;> rw [h]
  · exact zeroU_wf
  · exact parse_wf h2
theorem pack_parts {u : Ub} (w : WfU u) (hm : MayU u) : seg (packU u) 48 47 = enc u.root ∧ seg (packU u) 95 129 = List.replicate 129 0 := by
  have e0 : packU u = mark ++ (u.pool ++ (beBytes u.txg.toNat 5 ++ (beBytes u.len.toNat 3 ++ (enc u.root ++ (List.replicate 129 0 ++ Hs.sha (headU u)))))) := by
    simp [packU, headU, midU, -List.reduceReplicate]
  have lb := beBytes_length
  have hp := w.pool
  have he := Pt.enc_len hm.root w.sum
  rw [e0]
  constructor
  · rw [show ∀ r : List UInt8, mark ++ (u.pool ++ (beBytes u.txg.toNat 5 ++ (beBytes u.len.toNat 3 ++ (enc u.root ++ r)))) = (mark ++ (u.pool ++ (beBytes u.txg.toNat 5 ++ beBytes u.len.toNat 3))) ++ (enc u.root ++ r) from fun r => by simp, seg_app _ _ _ 48 47 (by simp [mark, hp, lb]) he]
  · rw [show ∀ r : List UInt8, mark ++ (u.pool ++ (beBytes u.txg.toNat 5 ++ (beBytes u.len.toNat 3 ++ (enc u.root ++ (List.replicate 129 0 ++ r))))) = (mark ++ (u.pool ++ (beBytes u.txg.toNat 5 ++ (beBytes u.len.toNat 3 ++ enc u.root)))) ++ (List.replicate 129 0 ++ r) from fun r => by simp [-List.reduceReplicate], seg_app _ _ _ 95 129 (by simp [mark, hp, lb, he]) (by simp [-List.reduceReplicate])]
/-- What a reader asks of a sector, piece by piece. -/
def asks (b : List UInt8) : Bool := (seg b 0 8 == mark) && ((readE (seg b 48 47) == 0) && ((seg b 95 129 == List.replicate 129 0) && ((Hs.sha (b.take 224) == b.drop 224) && mayUB (parse b))))
theorem asks_iff {b : List UInt8} (hb : b.length = 256) : asks b = true ↔ mayUB (parse b) = true ∧ packU (parse b) = b := by
  unfold asks
  simp only [Bool.and_eq_true, beq_iff_eq]
  constructor
  · rintro ⟨h1, h2, h3, h4, h5⟩
    refine ⟨h5, ?_⟩
    have hm := mayUB_iff.1 h5
    have hw := parse_wf hb
    have hl : (seg b 40 5).length = 5 := seg_length (by omega)
    have hl3 : (seg b 45 3).length = 3 := seg_length (by omega)
    have e5 : beBytes (parse b).txg.toNat 5 = seg b 40 5 := by
      have := beBytes_back (seg b 40 5)
      rw [hl] at this
      exact this
    have e3 : beBytes (parse b).len.toNat 3 = seg b 45 3 := by
      have := beBytes_back (seg b 45 3)
      rw [hl3] at this
      exact this
    have er : enc (parse b).root = seg b 48 47 := by
      rcases Pt.read_cases (seg b 48 47) with ⟨_, _, h, _⟩ | ⟨h, _⟩
      · exact h
      · exact absurd h2 h
    have hh : headU (parse b) = b.take 224 := by
      have hs : ∀ (p n : Nat), p + n ≤ 224 → (b.take 224).drop p = seg b p n ++ (b.take 224).drop (p + n) := fun p n h => by
        rw [seg_next _ p n]
        congr 1
        unfold seg
        rw [List.drop_take, List.take_take, Nat.min_eq_left (by omega)]
      have e := hs 0 8 (by omega)
      rw [List.drop_zero] at e
      rw [e, hs (0 + 8) 32 (by omega), hs (0 + 8 + 32) 5 (by omega), hs (0 + 8 + 32 + 5) 3 (by omega), hs (0 + 8 + 32 + 5 + 3) 47 (by omega), hs (0 + 8 + 32 + 5 + 3 + 47) 129 (by omega), List.drop_eq_nil_of_le (by simp; omega)]
      simp only [Nat.zero_add, Nat.reduceAdd, List.append_nil]
      rw [h1, h3]
      unfold headU midU
      rw [e5, e3, er, List.append_assoc]
      rfl
    unfold packU
    rw [hh, h4, List.take_append_drop]
  · rintro ⟨h5, h⟩
    have hm := mayUB_iff.1 h5
    have hw := parse_wf hb
    have lb := beBytes_length
    have hp := hw.pool
    have he := Pt.enc_len hm.root hw.sum
    have h1 := packU_mark (parse b)
    have h4 := packU_sum hw hm
    have h6 := packU_head hw hm
    rw [h] at h1 h4 h6
    obtain ⟨er, ez⟩ := pack_parts hw hm
    rw [h] at er ez
    refine ⟨by unfold seg; rw [List.drop_zero]; exact h1, ?_, ez, ?_, h5⟩
    · rw [er]; exact (Pt.read_enc hm.root hw.sum).1
    · rw [h6, h4]
theorem unp_full {b : List UInt8} (hb : b.length = 256) : unp b = if b = List.replicate 256 0 then (zeroU, 6) else if asks b = true then (parse b, 0) else (zeroU, 11) := by
  unfold unp
  rw [if_neg (by omega)]
  by_cases h : b = List.replicate 256 0
  · rw [if_pos h, if_pos h]
  · rw [if_neg h, if_neg h]
    by_cases h2 : asks b = true
    · rw [if_pos h2, if_pos ((asks_iff hb).1 h2)]
    · rw [if_neg h2, if_neg (fun h3 => h2 ((asks_iff hb).2 h3))]
theorem unp_none (b : List UInt8) (h : b.length = 256) (hs : Hs.sha (b.take 224) ≠ b.drop 224) (hz : b ≠ List.replicate 256 0) : unp b = (zeroU, 11) := by
  rw [unp_full h, if_neg hz, if_neg]
  intro h2
  unfold asks at h2
  simp only [Bool.and_eq_true, beq_iff_eq] at h2
  exact hs h2.2.2.2.1
/-- Of a torn sector no third one is told. -/
theorem torn_no {u : Ub} {b : List UInt8} (wu : WfU u) (hu : MayU u) (t : Nat) (ht : t ≤ 256) (hb : (∃ v, WfU v ∧ MayU v ∧ b = packU v) ∨ b = List.replicate 256 0)
    (h1 : (packU u).take t ++ b.drop t ≠ packU u) (h2 : (packU u).take t ++ b.drop t ≠ b)
    (hd : ((packU u).take t ++ b.drop t).take 224 ≠ (packU u).take 224 → ((packU u).take t ++ b.drop t).take 224 ≠ b.take 224 → Hs.sha (((packU u).take t ++ b.drop t).take 224) ≠ ((packU u).take t ++ b.drop t).drop 224) :
    unp ((packU u).take t ++ b.drop t) = (zeroU, 11) := by
  have la := packU_length wu hu
  have lb : b.length = 256 := by
    rcases hb with ⟨v, wv, hv, rfl⟩ | rfl
    · exact packU_length wv hv
    · simp [-List.reduceReplicate]
  obtain ⟨s, hs⟩ : ∃ s, s = (packU u).take t ++ b.drop t := ⟨_, rfl⟩
  have ls : s.length = 256 := by rw [hs]; simp; omega
  have h0 : t ≠ 0 := fun e => by subst e; exact h2 (by simp)
  have hm0 : s[0]? = some 67 := by
    have h3 := packU_mark u
    have h4 : (packU u)[0]? = some 67 := by
      have := congrArg (·[0]?) h3
      simpa [mark] using this
    rw [hs, List.getElem?_append_left (by simp; omega), List.getElem?_take_of_lt (by omega), h4]
  have hz : s ≠ List.replicate 256 0 := fun e => by
    rw [e, List.getElem?_replicate_of_lt (by omega)] at hm0
    exact absurd hm0 (by decide)
  rw [← hs] at h1 h2 hd ⊢
  refine unp_none s ls ?_ hz
  intro hsum
  by_cases ha : s.take 224 = (packU u).take 224
  · apply h1
    have : s.drop 224 = (packU u).drop 224 := by rw [← hsum, ha, packU_head wu hu, packU_sum wu hu]
    rw [← List.take_append_drop 224 s, ← List.take_append_drop 224 (packU u), ha, this]
  · by_cases hbb : s.take 224 = b.take 224
    · rcases hb with ⟨v, wv, hv, rfl⟩ | rfl
      · apply h2
        have : s.drop 224 = (packU v).drop 224 := by rw [← hsum, hbb, packU_head wv hv, packU_sum wv hv]
        rw [← List.take_append_drop 224 s, ← List.take_append_drop 224 (packU v), hbb, this]
      · have h5 : (s.take 224)[0]? = some 67 := by rw [List.getElem?_take_of_lt (by omega), hm0]
        rw [hbb, List.getElem?_take_of_lt (by omega), List.getElem?_replicate_of_lt (by omega)] at h5
        exact absurd h5 (by decide)
    · exact hd ha hbb hsum
end Go.Proofs.YtjdejhgfkjeeiaaGreatDoor
