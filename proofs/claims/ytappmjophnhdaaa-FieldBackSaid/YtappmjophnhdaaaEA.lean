/-
  Plain lemmas: what is written is read as it was; no conditions but those that each theorem names.
-/
import Derived.Test.YtappmjophnhdaaaDA
import Derived.Test.YtappmjophnhdaaaBC
namespace Go.Proofs.Ytappmjophnhdaaa
open Go.RowKit
set_option linter.unusedVariables false
set_option linter.unusedSimpArgs false

/-- The bytes of an act that can be written. -/
def wrA (y : Act0) : List UInt8 := if y.kind = 0 then beBytes y.n.toNat y.size.toNat else if y.kind = 1 then textBytes y.s.data.toList y.size.toNat else y.m
/-- How many they are. -/
def roomI (y : Act0) : Int := if y.kind = 0 then y.size else if y.kind = 1 then 1 + y.size else y.m.length
def RightAct (y : Act0) : Prop :=
  (y.kind = 0 ∧ 1 ≤ y.size ∧ y.size ≤ 7 ∧ 0 ≤ y.n ∧ y.n < 2 ^ (8 * y.size.toNat)) ∨ (y.kind = 1 ∧ 0 ≤ y.size ∧ y.size ≤ 255 ∧ (y.s.data.toList.length : Int) ≤ y.size) ∨ y.kind = 2
theorem rightA_right (x : Act0) : RightAct (rightA x) := by
  unfold rightA
  split
  · rename_i k0
    have p7 := pickI_range x.size 7 (by decide)
    have h2 : 1 ≤ (2 : Int) ^ (8 * (1 + pickI x.size 7).toNat) := by
      have : 1 ≤ 2 ^ (8 * (1 + pickI x.size 7).toNat) := Nat.one_le_two_pow
      exact_mod_cast this
    have hp := pickI_range x.n _ h2
    exact .inl ⟨k0, by simp only; omega, by simp only; omega, hp.1, hp.2⟩
  · split
    · rename_i k1
      have p7 := pickI_range x.size 256 (by decide)
      refine .inr (.inl ⟨k1, p7.1, by simp only; omega, ?_⟩)
      show ((ByteArray.size (if pickI x.size 256 < x.s.size then x.s.extract 0 (pickI x.size 256).toNat else x.s) : Nat) : Int) ≤ pickI x.size 256
      split
      · rw [ByteArray.size_extract]; omega
      · omega
    · exact .inr (.inr rfl)
theorem wrA_room {y : Act0} (h : RightAct y) : roomI y = ((wrA y).length : Int) := by
  unfold roomI wrA
  rcases h with ⟨h, h1, h2, _⟩ | ⟨h, h1, h2, h3⟩ | h
  · simp only [h, if_true]; rw [beBytes_length]; omega
  · simp only [h, if_true]; rw [if_neg (by decide), if_neg (by decide), textBytes_length _ _ (by omega)]; omega
  · simp only [h]; rfl
theorem wrA_le {y : Act0} (h : RightAct y) (hm : y.m.length ≤ 300) : (wrA y).length ≤ 300 := by
  have := wrA_room h
  unfold roomI at this
  rcases h with ⟨h, h1, h2, _⟩ | ⟨h, h1, h2, h3⟩ | h <;> simp [h] at this <;> omega
theorem right_wr {y : Act0} (h : RightAct y) {l : List UInt8} (hl : l.length + 300 ≤ 65536) (hm : y.m.length ≤ 300) : y.step (l, 0) = (l ++ wrA y, 0) := by
  have hle := wrA_le h hm
  have add : addStep l (wrA y) = (l ++ wrA y, 0) := by unfold addStep; rw [if_pos (by omega)]
  obtain ⟨kind, n, size, s, m⟩ := y
  rcases h with ⟨h, h1, h2, h3, h4⟩ | ⟨h, h1, h2, h3⟩ | h
  · simp only at h h1 h2 h3 h4
    subst h
    simp only [wrA, if_true] at add
    simp only [Act0.step, if_true, wStep, numStep, wrA]
    rw [if_neg (by simp [isSizeB]; omega), if_neg (by omega)]
    exact add
  · simp only at h h1 h2 h3
    subst h
    simp only [wrA, if_true] at add
    simp only [Act0.step, wStep, textStep, wrA]
    rw [if_neg (by decide)] at add ⊢
    simp only [if_true] at add ⊢
    rw [if_neg (by simp [isMostB]; omega), if_neg (by omega)]
    exact add
  · simp only at h
    subst h
    simp only [wrA] at add
    simp only [Act0.step, wStep, wrA]
    exact add
theorem beNat_beBytes (n : Nat) : ∀ k, beNat (beBytes n k) = n % 256 ^ k := by
  intro k
  induction k with
  | zero => simp [beBytes, beNat, Nat.mod_one]
  | succ k ih =>
    have h1 : 2 ^ (8 * k) = 256 ^ k := by rw [Nat.pow_mul]
    show beNat (UInt8.ofNat _ :: beBytes n k) = _
    rw [beNat_cons, beBytes_length, ih, h1, Nat.mod_pow_succ]
    simp
    rw [Nat.mul_comm]; omega
theorem num_back {L : List UInt8} {p : Nat} {size n : Int} (h1 : 1 ≤ size) (h2 : size ≤ 7) (h3 : 0 ≤ n) (h4 : n < 2 ^ (8 * size.toNat)) (hL : p + size.toNat ≤ L.length) (hx : (L.drop p).take size.toNat = beBytes n.toNat size.toNat) :
    rNum L (p, 0, 0) size n n = (n, p + size.toNat, 0, 0) := by
  obtain ⟨z, rfl⟩ := Int.eq_ofNat_of_zero_le (show 0 ≤ size by omega)
  obtain ⟨m, rfl⟩ := Int.eq_ofNat_of_zero_le h3
  simp only [Int.toNat_natCast] at *
  have hm : m < 256 ^ z := by
    have : (2 : Int) ^ (8 * z) = ((256 ^ z : Nat) : Int) := by rw [Int.pow_mul]; norm_cast
    rw [this] at h4; omega
  have hb : beNat ((L.drop p).take z) = m := by rw [hx, beNat_beBytes, Nat.mod_eq_of_lt hm]
  have hs : isSizeB (z : Int) = true := by simp [isSizeB]; omega
  have hl : ¬ L.length < p + z := by omega
  simp [rNum, stepR, numRead, hs, hl, hb]
theorem text_back {L : List UInt8} {p : Nat} {size : Int} {s : ByteArray} (h1 : 0 ≤ size) (h2 : size ≤ 255) (h3 : (s.data.toList.length : Int) ≤ size) (hL : p + (1 + size.toNat) ≤ L.length) (hx : (L.drop p).take (1 + size.toNat) = textBytes s.data.toList size.toNat) :
    rText L (p, 0, 0) size = (s.data.toList, p + (1 + size.toNat), 0, 0) := by
  obtain ⟨z, rfl⟩ := Int.eq_ofNat_of_zero_le h1
  simp only [Int.toNat_natCast] at *
  have hs : isMostB (z : Int) = true := by simp [isMostB]; omega
  have hl : ¬ L.length < p + (1 + z) := by omega
  unfold textBytes at hx
  have hb : (UInt8.ofNat s.data.toList.length).toNat = s.data.toList.length := by rw [UInt8.toNat_ofNat']; omega
  have hf : firstNot ((s.data.toList ++ List.replicate (z - s.data.toList.length) 0).drop s.data.toList.length) = -1 := by
    rw [List.drop_left]
    exact firstNot_none fun j hj => by simp at hj; simp [List.getElem?_replicate, hj]
  have hz : ¬ (z : Int) < (s.data.toList.length : Int) := by omega
  unfold rText textRead
  simp only [hs, Int.toNat_natCast, hl, if_false, Bool.true_eq_false, hx]
  rw [hb, if_neg hz, if_neg (by rw [hf]; decide), List.take_left]
  simp [stepR]
theorem raw_back {L m : List UInt8} {p : Nat} (hL : p + m.length ≤ L.length) (hx : (L.drop p).take m.length = m) : rRaw L (p, 0, 0) m.length = (m, p + m.length, 0, 0) := by
  have h0 : ¬ (m.length : Int) < 0 := by omega
  have hl : ¬ L.length < p + m.length := by omega
  simp [rRaw, stepR, rawRead, hl, h0, hx]
/-- All that acts are written as. -/
def wrs (ys : List Act0) : List UInt8 := (ys.map wrA).flatten
theorem wrs_snoc (ys : List Act0) (k : Nat) (hk : k < ys.length) : wrs (ys.take (k + 1)) = wrs (ys.take k) ++ wrA ys[k] := by
  unfold wrs
  rw [List.take_succ_eq_append_getElem hk, List.map_append, List.flatten_append]
  simp
theorem wrs_split (ys : List Act0) (k : Nat) (hk : k < ys.length) : wrs ys = wrs (ys.take k) ++ (wrA ys[k] ++ wrs (ys.drop (k + 1))) := by
  conv => lhs; rw [← List.take_append_drop (k + 1) ys]
  have : ∀ a b : List Act0, wrs (a ++ b) = wrs a ++ wrs b := fun a b => by simp [wrs]
  rw [this, wrs_snoc ys k hk, List.append_assoc]
theorem wrs_le {ys : List Act0} (h : ∀ y ∈ ys, (wrA y).length ≤ 300) : (wrs ys).length ≤ 300 * ys.length := by
  induction ys with
  | nil => simp [wrs]
  | cons y ys ih =>
    have h1 := ih (fun z hz => h z (List.mem_cons_of_mem _ hz))
    have h2 := h y (by simp)
    have : wrs (y :: ys) = wrA y ++ wrs ys := by simp [wrs]
    rw [this]
    simp
    omega
theorem wrs_at (ys : List Act0) (k : Nat) (hk : k < ys.length) (z : List UInt8) : ((wrs ys ++ z).drop (wrs (ys.take k)).length).take (wrA ys[k]).length = wrA ys[k] := by
  rw [wrs_split ys k hk, List.append_assoc, List.drop_left, List.append_assoc, List.take_left]
end Go.Proofs.Ytappmjophnhdaaa
