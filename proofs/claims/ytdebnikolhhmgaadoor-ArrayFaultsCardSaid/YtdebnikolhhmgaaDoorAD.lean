/-
  The methods of what New did not make. No conditions but those that each theorem names.
-/
import Derived.Test.YtdebnikolhhmgaaDoorAC
import Derived.OwnWalk
namespace Go.Proofs.YtdebnikolhhmgaaDoor
open Go.RowKit
set_option linter.unusedVariables false
set_option linter.unusedSimpArgs false
set_option maxRecDepth 100000

open Kr (OwnE SlE Enco RowTys)
theorem Read_no {w : World} {lo : Nat} {s : Nat → Addr} (h : Sn w lo s) (p : Value) (d a : Int) (hp : Un w p) :
    Calls Tryd.prog 11 #[p, .int .i64 d, .int .i64 a] w fun e w' => e = .returned (.tuple #[.slice none 0 0, .int .i64 1]) ∧ Frm [] w w' := by
  have HS := Lib.hid h
  have HU := Lib.hid hp
  have F := Lib.hid (Frm.refl [] w)
  obtain ⟨q, rfl⟩ := hp.form
  clear h hp
  go_enter Tryd.func11, Tryd.ntmps11
  go_wp2_with (first
    | (go_at_call 39; refine (sectorOf_any _ _ _).mono ?_; rintro e w1 ⟨b1, b2, rfl, h1, h2, f1⟩; have F := Lib.hid (F.out.trans f1 (by simp)); clear h1 h2 f1)
    | (go_at_call 40; refine (there_any _ _).mono ?_; rintro e w2 ⟨b3, rfl, h3, f2⟩; have F := Lib.hid (F.out.trans f2 (by simp)); clear h3 f2)
    | (go_at_call 41; refine (noFailure_any _ _).mono ?_; rintro e w3 ⟨b4, rfl, h4, f3⟩; have F := Lib.hid (F.out.trans f3 (by simp)); clear h4 f3)
    | (go_at_call 46; refine (argument_any _ _).mono ?_; rintro e w4 ⟨b5, rfl, h5, f4⟩; have F := Lib.hid (F.out.trans f4 (by simp)); clear h5 f4)
    | (go_at_call 50; refine (deviceOf_any _ _).mono ?_; rintro e w5 ⟨b6, rfl, h6, f5⟩; have F := Lib.hid (F.out.trans f5 (by simp)); clear h6 f5)
    | (go_at_call 55; refine (byteOf_any _ _).mono ?_; rintro e w6 ⟨b7, rfl, h7, f6⟩; have F := Lib.hid (F.out.trans f6 (by simp)); clear h7 f6)
    | (go_at_call 53; refine (within_any _ _ _ _).mono ?_; rintro e w7 ⟨rfl, hw7⟩; obtain rfl := hw7.symm)
    | (go_at_call 59; refine (HU.out.keep0 F.out).made.mono ?_; rintro e w8 ⟨rfl, hw8⟩; obtain rfl := hw8.symm)
    | (go_at_call 37; refine (demand_no (HS.out.keep0 (F.out.alloc _)) _ _ (HU.out.keep0 (F.out.alloc _))).mono ?_; rintro e w9 ⟨rfl, f9⟩; unfold rfu; have G := Lib.hid ((F.out.alloc _).trans f9 (by simp)); clear f9)
    | (go_at_call 42; refine (number_any (HS.out.keep0 G.out) txA 1 (by omega)).mono ?_; rintro e w10 ⟨rfl, f10⟩; have G := Lib.hid (G.out.trans f10 (by simp)); clear f10))
  exact bodyPost_ret (v := .tuple #[.slice none 0 0, .int .i64 1]) (by simp [results, Tryd.results11, go_sem, code]) rfl ⟨rfl, G.out⟩
theorem Peek_no {w : World} {lo : Nat} {s : Nat → Addr} (h : Sn w lo s) (p : Value) (d a : Int) (hp : Un w p) :
    Calls Tryd.prog 12 #[p, .int .i64 d, .int .i64 a] w fun e w' => e = .returned (.tuple #[.slice none 0 0, .bool false]) ∧ Frm [] w w' := by
  have HS := Lib.hid h
  have HU := Lib.hid hp
  have F := Lib.hid (Frm.refl [] w)
  obtain ⟨q, rfl⟩ := hp.form
  clear h hp
  go_enter Tryd.func12, Tryd.ntmps12
  go_wp2_with (first
    | (go_at_call 39; refine (sectorOf_any _ _ _).mono ?_; rintro e w1 ⟨b1, b2, rfl, h1, h2, f1⟩; have F := Lib.hid (F.out.trans f1 (by simp)); clear h1 h2 f1)
    | (go_at_call 40; refine (there_any _ _).mono ?_; rintro e w2 ⟨b3, rfl, h3, f2⟩; have F := Lib.hid (F.out.trans f2 (by simp)); clear h3 f2)
    | (go_at_call 41; refine (noFailure_any _ _).mono ?_; rintro e w3 ⟨b4, rfl, h4, f3⟩; have F := Lib.hid (F.out.trans f3 (by simp)); clear h4 f3)
    | (go_at_call 46; refine (argument_any _ _).mono ?_; rintro e w4 ⟨b5, rfl, h5, f4⟩; have F := Lib.hid (F.out.trans f4 (by simp)); clear h5 f4)
    | (go_at_call 50; refine (deviceOf_any _ _).mono ?_; rintro e w5 ⟨b6, rfl, h6, f5⟩; have F := Lib.hid (F.out.trans f5 (by simp)); clear h6 f5)
    | (go_at_call 55; refine (byteOf_any _ _).mono ?_; rintro e w6 ⟨b7, rfl, h7, f6⟩; have F := Lib.hid (F.out.trans f6 (by simp)); clear h7 f6)
    | (go_at_call 53; refine (within_any _ _ _ _).mono ?_; rintro e w7 ⟨rfl, hw7⟩; obtain rfl := hw7.symm)
    | (go_at_call 59; refine (HU.out.keep0 F.out).made.mono ?_; rintro e w8 ⟨rfl, hw8⟩; obtain rfl := hw8.symm)
    | (go_at_call 37; refine (demand_no (HS.out.keep0 (F.out.alloc _)) _ _ (HU.out.keep0 (F.out.alloc _))).mono ?_; rintro e w9 ⟨rfl, f9⟩; unfold rfu; have G := Lib.hid ((F.out.alloc _).trans f9 (by simp)); clear f9)
    | (go_at_call 42; refine (number_any (HS.out.keep0 G.out) txA 1 (by omega)).mono ?_; rintro e w10 ⟨rfl, f10⟩; have G := Lib.hid (G.out.trans f10 (by simp)); clear f10))
  exact bodyPost_ret (v := .tuple #[.slice none 0 0, .bool false]) (by simp [results, Tryd.results12, go_sem]) rfl ⟨rfl, G.out⟩
theorem Write_no {w : World} {lo : Nat} {s : Nat → Addr} (h : Sn w lo s) (p : Value) (d a : Int) (b0 : Option Addr) (bn bc : Nat) (hp : Un w p) :
    Calls Tryd.prog 13 #[p, .int .i64 d, .int .i64 a, .slice b0 bn bc] w fun e w' => e = .returned (.int .i64 1) ∧ Frm [] w w' := by
  have HS := Lib.hid h
  have HU := Lib.hid hp
  have F := Lib.hid (Frm.refl [] w)
  obtain ⟨q, rfl⟩ := hp.form
  clear h hp
  go_enter Tryd.func13, Tryd.ntmps13
  go_wp2_with (first
    | (go_at_call 39; refine (sectorOf_any _ _ _).mono ?_; rintro e w1 ⟨b1, b2, rfl, h1, h2, f1⟩; have F := Lib.hid (F.out.trans f1 (by simp)); clear h1 h2 f1)
    | (go_at_call 40; refine (there_any _ _).mono ?_; rintro e w2 ⟨b3, rfl, h3, f2⟩; have F := Lib.hid (F.out.trans f2 (by simp)); clear h3 f2)
    | (go_at_call 41; refine (noFailure_any _ _).mono ?_; rintro e w3 ⟨b4, rfl, h4, f3⟩; have F := Lib.hid (F.out.trans f3 (by simp)); clear h4 f3)
    | (go_at_call 46; refine (argument_any _ _).mono ?_; rintro e w4 ⟨b5, rfl, h5, f4⟩; have F := Lib.hid (F.out.trans f4 (by simp)); clear h5 f4)
    | (go_at_call 50; refine (deviceOf_any _ _).mono ?_; rintro e w5 ⟨b6, rfl, h6, f5⟩; have F := Lib.hid (F.out.trans f5 (by simp)); clear h6 f5)
    | (go_at_call 55; refine (byteOf_any _ _).mono ?_; rintro e w6 ⟨b7, rfl, h7, f6⟩; have F := Lib.hid (F.out.trans f6 (by simp)); clear h7 f6)
    | (go_at_call 53; refine (within_any _ _ _ _).mono ?_; rintro e w7 ⟨rfl, hw7⟩; obtain rfl := hw7.symm)
    | (go_at_call 59; refine (HU.out.keep0 F.out).made.mono ?_; rintro e w8 ⟨rfl, hw8⟩; obtain rfl := hw8.symm)
    | (go_at_call 37; refine (demand_no (HS.out.keep0 (F.out.alloc _)) _ _ (HU.out.keep0 (F.out.alloc _))).mono ?_; rintro e w9 ⟨rfl, f9⟩; unfold rfu; have G := Lib.hid ((F.out.alloc _).trans f9 (by simp)); clear f9)
    | (go_at_call 42; refine (number_any (HS.out.keep0 G.out) txA 1 (by omega)).mono ?_; rintro e w10 ⟨rfl, f10⟩; have G := Lib.hid (G.out.trans f10 (by simp)); clear f10))
  go_ret
  exact ⟨rfl, G.out⟩
theorem Flush_no {w : World} {lo : Nat} {s : Nat → Addr} (h : Sn w lo s) (p : Value) (d : Int) (hp : Un w p) :
    Calls Tryd.prog 14 #[p, .int .i64 d] w fun e w' => e = .returned (.int .i64 1) ∧ Frm [] w w' := by
  have HS := Lib.hid h
  have HU := Lib.hid hp
  have F := Lib.hid (Frm.refl [] w)
  obtain ⟨q, rfl⟩ := hp.form
  clear h hp
  go_enter Tryd.func14, Tryd.ntmps14
  go_wp2_with (first
    | (go_at_call 39; refine (sectorOf_any _ _ _).mono ?_; rintro e w1 ⟨b1, b2, rfl, h1, h2, f1⟩; have F := Lib.hid (F.out.trans f1 (by simp)); clear h1 h2 f1)
    | (go_at_call 40; refine (there_any _ _).mono ?_; rintro e w2 ⟨b3, rfl, h3, f2⟩; have F := Lib.hid (F.out.trans f2 (by simp)); clear h3 f2)
    | (go_at_call 41; refine (noFailure_any _ _).mono ?_; rintro e w3 ⟨b4, rfl, h4, f3⟩; have F := Lib.hid (F.out.trans f3 (by simp)); clear h4 f3)
    | (go_at_call 46; refine (argument_any _ _).mono ?_; rintro e w4 ⟨b5, rfl, h5, f4⟩; have F := Lib.hid (F.out.trans f4 (by simp)); clear h5 f4)
    | (go_at_call 50; refine (deviceOf_any _ _).mono ?_; rintro e w5 ⟨b6, rfl, h6, f5⟩; have F := Lib.hid (F.out.trans f5 (by simp)); clear h6 f5)
    | (go_at_call 55; refine (byteOf_any _ _).mono ?_; rintro e w6 ⟨b7, rfl, h7, f6⟩; have F := Lib.hid (F.out.trans f6 (by simp)); clear h7 f6)
    | (go_at_call 53; refine (within_any _ _ _ _).mono ?_; rintro e w7 ⟨rfl, hw7⟩; obtain rfl := hw7.symm)
    | (go_at_call 59; refine (HU.out.keep0 F.out).made.mono ?_; rintro e w8 ⟨rfl, hw8⟩; obtain rfl := hw8.symm)
    | (go_at_call 37; refine (demand_no (HS.out.keep0 (F.out.alloc _)) _ _ (HU.out.keep0 (F.out.alloc _))).mono ?_; rintro e w9 ⟨rfl, f9⟩; unfold rfu; have G := Lib.hid ((F.out.alloc _).trans f9 (by simp)); clear f9)
    | (go_at_call 42; refine (number_any (HS.out.keep0 G.out) txA 1 (by omega)).mono ?_; rintro e w10 ⟨rfl, f10⟩; have G := Lib.hid (G.out.trans f10 (by simp)); clear f10))
  go_ret
  exact ⟨rfl, G.out⟩
theorem Fuse_no {w : World} {lo : Nat} {s : Nat → Addr} (h : Sn w lo s) (p : Value) (n : Int) (hp : Un w p) :
    Calls Tryd.prog 15 #[p, .int .i64 n] w fun e w' => e = .returned (.int .i64 1) ∧ Frm [] w w' := by
  have HS := Lib.hid h
  have HU := Lib.hid hp
  have F := Lib.hid (Frm.refl [] w)
  obtain ⟨q, rfl⟩ := hp.form
  clear h hp
  go_enter Tryd.func15, Tryd.ntmps15
  go_wp2_with (first
    | (go_at_call 39; refine (sectorOf_any _ _ _).mono ?_; rintro e w1 ⟨b1, b2, rfl, h1, h2, f1⟩; have F := Lib.hid (F.out.trans f1 (by simp)); clear h1 h2 f1)
    | (go_at_call 40; refine (there_any _ _).mono ?_; rintro e w2 ⟨b3, rfl, h3, f2⟩; have F := Lib.hid (F.out.trans f2 (by simp)); clear h3 f2)
    | (go_at_call 41; refine (noFailure_any _ _).mono ?_; rintro e w3 ⟨b4, rfl, h4, f3⟩; have F := Lib.hid (F.out.trans f3 (by simp)); clear h4 f3)
    | (go_at_call 46; refine (argument_any _ _).mono ?_; rintro e w4 ⟨b5, rfl, h5, f4⟩; have F := Lib.hid (F.out.trans f4 (by simp)); clear h5 f4)
    | (go_at_call 50; refine (deviceOf_any _ _).mono ?_; rintro e w5 ⟨b6, rfl, h6, f5⟩; have F := Lib.hid (F.out.trans f5 (by simp)); clear h6 f5)
    | (go_at_call 55; refine (byteOf_any _ _).mono ?_; rintro e w6 ⟨b7, rfl, h7, f6⟩; have F := Lib.hid (F.out.trans f6 (by simp)); clear h7 f6)
    | (go_at_call 53; refine (within_any _ _ _ _).mono ?_; rintro e w7 ⟨rfl, hw7⟩; obtain rfl := hw7.symm)
    | (go_at_call 59; refine (HU.out.keep0 F.out).made.mono ?_; rintro e w8 ⟨rfl, hw8⟩; obtain rfl := hw8.symm)
    | (go_at_call 37; refine (demand_no (HS.out.keep0 (F.out.alloc _)) _ _ (HU.out.keep0 (F.out.alloc _))).mono ?_; rintro e w9 ⟨rfl, f9⟩; unfold rfu; have G := Lib.hid ((F.out.alloc _).trans f9 (by simp)); clear f9)
    | (go_at_call 42; refine (number_any (HS.out.keep0 G.out) txA 1 (by omega)).mono ?_; rintro e w10 ⟨rfl, f10⟩; have G := Lib.hid (G.out.trans f10 (by simp)); clear f10))
  go_ret
  exact ⟨rfl, G.out⟩
theorem Crash_no {w : World} {lo : Nat} {s : Nat → Addr} (h : Sn w lo s) (p : Value) (kv : Value) (n : Int) (hp : Un w p) :
    Calls Tryd.prog 16 #[p, kv, .int .i64 n] w fun e w' => e = .returned (.int .i64 1) ∧ Frm [] w w' := by
  have HS := Lib.hid h
  have HU := Lib.hid hp
  have F := Lib.hid (Frm.refl [] w)
  obtain ⟨q, rfl⟩ := hp.form
  clear h hp
  go_enter Tryd.func16, Tryd.ntmps16
  go_wp2_with (first
    | (go_at_call 39; refine (sectorOf_any _ _ _).mono ?_; rintro e w1 ⟨b1, b2, rfl, h1, h2, f1⟩; have F := Lib.hid (F.out.trans f1 (by simp)); clear h1 h2 f1)
    | (go_at_call 40; refine (there_any _ _).mono ?_; rintro e w2 ⟨b3, rfl, h3, f2⟩; have F := Lib.hid (F.out.trans f2 (by simp)); clear h3 f2)
    | (go_at_call 41; refine (noFailure_any _ _).mono ?_; rintro e w3 ⟨b4, rfl, h4, f3⟩; have F := Lib.hid (F.out.trans f3 (by simp)); clear h4 f3)
    | (go_at_call 46; refine (argument_any _ _).mono ?_; rintro e w4 ⟨b5, rfl, h5, f4⟩; have F := Lib.hid (F.out.trans f4 (by simp)); clear h5 f4)
    | (go_at_call 50; refine (deviceOf_any _ _).mono ?_; rintro e w5 ⟨b6, rfl, h6, f5⟩; have F := Lib.hid (F.out.trans f5 (by simp)); clear h6 f5)
    | (go_at_call 55; refine (byteOf_any _ _).mono ?_; rintro e w6 ⟨b7, rfl, h7, f6⟩; have F := Lib.hid (F.out.trans f6 (by simp)); clear h7 f6)
    | (go_at_call 53; refine (within_any _ _ _ _).mono ?_; rintro e w7 ⟨rfl, hw7⟩; obtain rfl := hw7.symm)
    | (go_at_call 59; refine (HU.out.keep0 F.out).made.mono ?_; rintro e w8 ⟨rfl, hw8⟩; obtain rfl := hw8.symm)
    | (go_at_call 37; refine (demand_no (HS.out.keep0 (F.out.alloc _)) _ _ (HU.out.keep0 (F.out.alloc _))).mono ?_; rintro e w9 ⟨rfl, f9⟩; unfold rfu; have G := Lib.hid ((F.out.alloc _).trans f9 (by simp)); clear f9)
    | (go_at_call 42; refine (number_any (HS.out.keep0 G.out) txA 1 (by omega)).mono ?_; rintro e w10 ⟨rfl, f10⟩; have G := Lib.hid (G.out.trans f10 (by simp)); clear f10))
  go_ret
  exact ⟨rfl, G.out⟩
theorem Spoil_no {w : World} {lo : Nat} {s : Nat → Addr} (h : Sn w lo s) (p : Value) (d a n m : Int) (hp : Un w p) :
    Calls Tryd.prog 17 #[p, .int .i64 d, .int .i64 a, .int .i64 n, .int .u8 m] w fun e w' => e = .returned (.int .i64 1) ∧ Frm [] w w' := by
  have HS := Lib.hid h
  have HU := Lib.hid hp
  have F := Lib.hid (Frm.refl [] w)
  obtain ⟨q, rfl⟩ := hp.form
  clear h hp
  go_enter Tryd.func17, Tryd.ntmps17
  go_wp2_with (first
    | (go_at_call 39; refine (sectorOf_any _ _ _).mono ?_; rintro e w1 ⟨b1, b2, rfl, h1, h2, f1⟩; have F := Lib.hid (F.out.trans f1 (by simp)); clear h1 h2 f1)
    | (go_at_call 40; refine (there_any _ _).mono ?_; rintro e w2 ⟨b3, rfl, h3, f2⟩; have F := Lib.hid (F.out.trans f2 (by simp)); clear h3 f2)
    | (go_at_call 41; refine (noFailure_any _ _).mono ?_; rintro e w3 ⟨b4, rfl, h4, f3⟩; have F := Lib.hid (F.out.trans f3 (by simp)); clear h4 f3)
    | (go_at_call 46; refine (argument_any _ _).mono ?_; rintro e w4 ⟨b5, rfl, h5, f4⟩; have F := Lib.hid (F.out.trans f4 (by simp)); clear h5 f4)
    | (go_at_call 50; refine (deviceOf_any _ _).mono ?_; rintro e w5 ⟨b6, rfl, h6, f5⟩; have F := Lib.hid (F.out.trans f5 (by simp)); clear h6 f5)
    | (go_at_call 55; refine (byteOf_any _ _).mono ?_; rintro e w6 ⟨b7, rfl, h7, f6⟩; have F := Lib.hid (F.out.trans f6 (by simp)); clear h7 f6)
    | (go_at_call 53; refine (within_any _ _ _ _).mono ?_; rintro e w7 ⟨rfl, hw7⟩; obtain rfl := hw7.symm)
    | (go_at_call 59; refine (HU.out.keep0 F.out).made.mono ?_; rintro e w8 ⟨rfl, hw8⟩; obtain rfl := hw8.symm)
    | (go_at_call 37; refine (demand_no (HS.out.keep0 (F.out.alloc _)) _ _ (HU.out.keep0 (F.out.alloc _))).mono ?_; rintro e w9 ⟨rfl, f9⟩; unfold rfu; have G := Lib.hid ((F.out.alloc _).trans f9 (by simp)); clear f9)
    | (go_at_call 42; refine (number_any (HS.out.keep0 G.out) txA 1 (by omega)).mono ?_; rintro e w10 ⟨rfl, f10⟩; have G := Lib.hid (G.out.trans f10 (by simp)); clear f10))
  go_ret
  exact ⟨rfl, G.out⟩
theorem Lose_no {w : World} {lo : Nat} {s : Nat → Addr} (h : Sn w lo s) (p : Value) (d : Int) (hp : Un w p) :
    Calls Tryd.prog 18 #[p, .int .i64 d] w fun e w' => e = .returned (.int .i64 1) ∧ Frm [] w w' := by
  have HS := Lib.hid h
  have HU := Lib.hid hp
  have F := Lib.hid (Frm.refl [] w)
  obtain ⟨q, rfl⟩ := hp.form
  clear h hp
  go_enter Tryd.func18, Tryd.ntmps18
  go_wp2_with (first
    | (go_at_call 39; refine (sectorOf_any _ _ _).mono ?_; rintro e w1 ⟨b1, b2, rfl, h1, h2, f1⟩; have F := Lib.hid (F.out.trans f1 (by simp)); clear h1 h2 f1)
    | (go_at_call 40; refine (there_any _ _).mono ?_; rintro e w2 ⟨b3, rfl, h3, f2⟩; have F := Lib.hid (F.out.trans f2 (by simp)); clear h3 f2)
    | (go_at_call 41; refine (noFailure_any _ _).mono ?_; rintro e w3 ⟨b4, rfl, h4, f3⟩; have F := Lib.hid (F.out.trans f3 (by simp)); clear h4 f3)
    | (go_at_call 46; refine (argument_any _ _).mono ?_; rintro e w4 ⟨b5, rfl, h5, f4⟩; have F := Lib.hid (F.out.trans f4 (by simp)); clear h5 f4)
    | (go_at_call 50; refine (deviceOf_any _ _).mono ?_; rintro e w5 ⟨b6, rfl, h6, f5⟩; have F := Lib.hid (F.out.trans f5 (by simp)); clear h6 f5)
    | (go_at_call 55; refine (byteOf_any _ _).mono ?_; rintro e w6 ⟨b7, rfl, h7, f6⟩; have F := Lib.hid (F.out.trans f6 (by simp)); clear h7 f6)
    | (go_at_call 53; refine (within_any _ _ _ _).mono ?_; rintro e w7 ⟨rfl, hw7⟩; obtain rfl := hw7.symm)
    | (go_at_call 59; refine (HU.out.keep0 F.out).made.mono ?_; rintro e w8 ⟨rfl, hw8⟩; obtain rfl := hw8.symm)
    | (go_at_call 37; refine (demand_no (HS.out.keep0 (F.out.alloc _)) _ _ (HU.out.keep0 (F.out.alloc _))).mono ?_; rintro e w9 ⟨rfl, f9⟩; unfold rfu; have G := Lib.hid ((F.out.alloc _).trans f9 (by simp)); clear f9)
    | (go_at_call 42; refine (number_any (HS.out.keep0 G.out) txA 1 (by omega)).mono ?_; rintro e w10 ⟨rfl, f10⟩; have G := Lib.hid (G.out.trans f10 (by simp)); clear f10))
  go_ret
  exact ⟨rfl, G.out⟩
theorem Stray_no {w : World} {lo : Nat} {s : Nat → Addr} (h : Sn w lo s) (p : Value) (d a : Int) (hp : Un w p) :
    Calls Tryd.prog 19 #[p, .int .i64 d, .int .i64 a] w fun e w' => e = .returned (.int .i64 1) ∧ Frm [] w w' := by
  have HS := Lib.hid h
  have HU := Lib.hid hp
  have F := Lib.hid (Frm.refl [] w)
  obtain ⟨q, rfl⟩ := hp.form
  clear h hp
  go_enter Tryd.func19, Tryd.ntmps19
  go_wp2_with (first
    | (go_at_call 39; refine (sectorOf_any _ _ _).mono ?_; rintro e w1 ⟨b1, b2, rfl, h1, h2, f1⟩; have F := Lib.hid (F.out.trans f1 (by simp)); clear h1 h2 f1)
    | (go_at_call 40; refine (there_any _ _).mono ?_; rintro e w2 ⟨b3, rfl, h3, f2⟩; have F := Lib.hid (F.out.trans f2 (by simp)); clear h3 f2)
    | (go_at_call 41; refine (noFailure_any _ _).mono ?_; rintro e w3 ⟨b4, rfl, h4, f3⟩; have F := Lib.hid (F.out.trans f3 (by simp)); clear h4 f3)
    | (go_at_call 46; refine (argument_any _ _).mono ?_; rintro e w4 ⟨b5, rfl, h5, f4⟩; have F := Lib.hid (F.out.trans f4 (by simp)); clear h5 f4)
    | (go_at_call 50; refine (deviceOf_any _ _).mono ?_; rintro e w5 ⟨b6, rfl, h6, f5⟩; have F := Lib.hid (F.out.trans f5 (by simp)); clear h6 f5)
    | (go_at_call 55; refine (byteOf_any _ _).mono ?_; rintro e w6 ⟨b7, rfl, h7, f6⟩; have F := Lib.hid (F.out.trans f6 (by simp)); clear h7 f6)
    | (go_at_call 53; refine (within_any _ _ _ _).mono ?_; rintro e w7 ⟨rfl, hw7⟩; obtain rfl := hw7.symm)
    | (go_at_call 59; refine (HU.out.keep0 F.out).made.mono ?_; rintro e w8 ⟨rfl, hw8⟩; obtain rfl := hw8.symm)
    | (go_at_call 37; refine (demand_no (HS.out.keep0 (F.out.alloc _)) _ _ (HU.out.keep0 (F.out.alloc _))).mono ?_; rintro e w9 ⟨rfl, f9⟩; unfold rfu; have G := Lib.hid ((F.out.alloc _).trans f9 (by simp)); clear f9)
    | (go_at_call 42; refine (number_any (HS.out.keep0 G.out) txA 1 (by omega)).mono ?_; rintro e w10 ⟨rfl, f10⟩; have G := Lib.hid (G.out.trans f10 (by simp)); clear f10))
  go_ret
  exact ⟨rfl, G.out⟩
theorem Fail_no {w : World} {lo : Nat} {s : Nat → Addr} (h : Sn w lo s) (p : Value) (d n : Int) (hp : Un w p) :
    Calls Tryd.prog 20 #[p, .int .i64 d, .int .i64 n] w fun e w' => e = .returned (.int .i64 1) ∧ Frm [] w w' := by
  have HS := Lib.hid h
  have HU := Lib.hid hp
  have F := Lib.hid (Frm.refl [] w)
  obtain ⟨q, rfl⟩ := hp.form
  clear h hp
  go_enter Tryd.func20, Tryd.ntmps20
  go_wp2_with (first
    | (go_at_call 39; refine (sectorOf_any _ _ _).mono ?_; rintro e w1 ⟨b1, b2, rfl, h1, h2, f1⟩; have F := Lib.hid (F.out.trans f1 (by simp)); clear h1 h2 f1)
    | (go_at_call 40; refine (there_any _ _).mono ?_; rintro e w2 ⟨b3, rfl, h3, f2⟩; have F := Lib.hid (F.out.trans f2 (by simp)); clear h3 f2)
    | (go_at_call 41; refine (noFailure_any _ _).mono ?_; rintro e w3 ⟨b4, rfl, h4, f3⟩; have F := Lib.hid (F.out.trans f3 (by simp)); clear h4 f3)
    | (go_at_call 46; refine (argument_any _ _).mono ?_; rintro e w4 ⟨b5, rfl, h5, f4⟩; have F := Lib.hid (F.out.trans f4 (by simp)); clear h5 f4)
    | (go_at_call 50; refine (deviceOf_any _ _).mono ?_; rintro e w5 ⟨b6, rfl, h6, f5⟩; have F := Lib.hid (F.out.trans f5 (by simp)); clear h6 f5)
    | (go_at_call 55; refine (byteOf_any _ _).mono ?_; rintro e w6 ⟨b7, rfl, h7, f6⟩; have F := Lib.hid (F.out.trans f6 (by simp)); clear h7 f6)
    | (go_at_call 53; refine (within_any _ _ _ _).mono ?_; rintro e w7 ⟨rfl, hw7⟩; obtain rfl := hw7.symm)
    | (go_at_call 59; refine (HU.out.keep0 F.out).made.mono ?_; rintro e w8 ⟨rfl, hw8⟩; obtain rfl := hw8.symm)
    | (go_at_call 37; refine (demand_no (HS.out.keep0 (F.out.alloc _)) _ _ (HU.out.keep0 (F.out.alloc _))).mono ?_; rintro e w9 ⟨rfl, f9⟩; unfold rfu; have G := Lib.hid ((F.out.alloc _).trans f9 (by simp)); clear f9)
    | (go_at_call 42; refine (number_any (HS.out.keep0 G.out) txA 1 (by omega)).mono ?_; rintro e w10 ⟨rfl, f10⟩; have G := Lib.hid (G.out.trans f10 (by simp)); clear f10))
  go_ret
  exact ⟨rfl, G.out⟩
theorem Pull_no {w : World} {lo : Nat} {s : Nat → Addr} (h : Sn w lo s) (p : Value) (d : Int) (hp : Un w p) :
    Calls Tryd.prog 21 #[p, .int .i64 d] w fun e w' => e = .returned (.int .i64 1) ∧ Frm [] w w' := by
  have HS := Lib.hid h
  have HU := Lib.hid hp
  have F := Lib.hid (Frm.refl [] w)
  obtain ⟨q, rfl⟩ := hp.form
  clear h hp
  go_enter Tryd.func21, Tryd.ntmps21
  go_wp2_with (first
    | (go_at_call 39; refine (sectorOf_any _ _ _).mono ?_; rintro e w1 ⟨b1, b2, rfl, h1, h2, f1⟩; have F := Lib.hid (F.out.trans f1 (by simp)); clear h1 h2 f1)
    | (go_at_call 40; refine (there_any _ _).mono ?_; rintro e w2 ⟨b3, rfl, h3, f2⟩; have F := Lib.hid (F.out.trans f2 (by simp)); clear h3 f2)
    | (go_at_call 41; refine (noFailure_any _ _).mono ?_; rintro e w3 ⟨b4, rfl, h4, f3⟩; have F := Lib.hid (F.out.trans f3 (by simp)); clear h4 f3)
    | (go_at_call 46; refine (argument_any _ _).mono ?_; rintro e w4 ⟨b5, rfl, h5, f4⟩; have F := Lib.hid (F.out.trans f4 (by simp)); clear h5 f4)
    | (go_at_call 50; refine (deviceOf_any _ _).mono ?_; rintro e w5 ⟨b6, rfl, h6, f5⟩; have F := Lib.hid (F.out.trans f5 (by simp)); clear h6 f5)
    | (go_at_call 55; refine (byteOf_any _ _).mono ?_; rintro e w6 ⟨b7, rfl, h7, f6⟩; have F := Lib.hid (F.out.trans f6 (by simp)); clear h7 f6)
    | (go_at_call 53; refine (within_any _ _ _ _).mono ?_; rintro e w7 ⟨rfl, hw7⟩; obtain rfl := hw7.symm)
    | (go_at_call 59; refine (HU.out.keep0 F.out).made.mono ?_; rintro e w8 ⟨rfl, hw8⟩; obtain rfl := hw8.symm)
    | (go_at_call 37; refine (demand_no (HS.out.keep0 (F.out.alloc _)) _ _ (HU.out.keep0 (F.out.alloc _))).mono ?_; rintro e w9 ⟨rfl, f9⟩; unfold rfu; have G := Lib.hid ((F.out.alloc _).trans f9 (by simp)); clear f9)
    | (go_at_call 42; refine (number_any (HS.out.keep0 G.out) txA 1 (by omega)).mono ?_; rintro e w10 ⟨rfl, f10⟩; have G := Lib.hid (G.out.trans f10 (by simp)); clear f10))
  go_ret
  exact ⟨rfl, G.out⟩
theorem Fit_no {w : World} {lo : Nat} {s : Nat → Addr} (h : Sn w lo s) (p : Value) (d : Int) (hp : Un w p) :
    Calls Tryd.prog 22 #[p, .int .i64 d] w fun e w' => e = .returned (.int .i64 1) ∧ Frm [] w w' := by
  have HS := Lib.hid h
  have HU := Lib.hid hp
  have F := Lib.hid (Frm.refl [] w)
  obtain ⟨q, rfl⟩ := hp.form
  clear h hp
  go_enter Tryd.func22, Tryd.ntmps22
  go_wp2_with (first
    | (go_at_call 39; refine (sectorOf_any _ _ _).mono ?_; rintro e w1 ⟨b1, b2, rfl, h1, h2, f1⟩; have F := Lib.hid (F.out.trans f1 (by simp)); clear h1 h2 f1)
    | (go_at_call 40; refine (there_any _ _).mono ?_; rintro e w2 ⟨b3, rfl, h3, f2⟩; have F := Lib.hid (F.out.trans f2 (by simp)); clear h3 f2)
    | (go_at_call 41; refine (noFailure_any _ _).mono ?_; rintro e w3 ⟨b4, rfl, h4, f3⟩; have F := Lib.hid (F.out.trans f3 (by simp)); clear h4 f3)
    | (go_at_call 46; refine (argument_any _ _).mono ?_; rintro e w4 ⟨b5, rfl, h5, f4⟩; have F := Lib.hid (F.out.trans f4 (by simp)); clear h5 f4)
    | (go_at_call 50; refine (deviceOf_any _ _).mono ?_; rintro e w5 ⟨b6, rfl, h6, f5⟩; have F := Lib.hid (F.out.trans f5 (by simp)); clear h6 f5)
    | (go_at_call 55; refine (byteOf_any _ _).mono ?_; rintro e w6 ⟨b7, rfl, h7, f6⟩; have F := Lib.hid (F.out.trans f6 (by simp)); clear h7 f6)
    | (go_at_call 53; refine (within_any _ _ _ _).mono ?_; rintro e w7 ⟨rfl, hw7⟩; obtain rfl := hw7.symm)
    | (go_at_call 59; refine (HU.out.keep0 F.out).made.mono ?_; rintro e w8 ⟨rfl, hw8⟩; obtain rfl := hw8.symm)
    | (go_at_call 37; refine (demand_no (HS.out.keep0 (F.out.alloc _)) _ _ (HU.out.keep0 (F.out.alloc _))).mono ?_; rintro e w9 ⟨rfl, f9⟩; unfold rfu; have G := Lib.hid ((F.out.alloc _).trans f9 (by simp)); clear f9)
    | (go_at_call 42; refine (number_any (HS.out.keep0 G.out) txA 1 (by omega)).mono ?_; rintro e w10 ⟨rfl, f10⟩; have G := Lib.hid (G.out.trans f10 (by simp)); clear f10))
  go_ret
  exact ⟨rfl, G.out⟩
theorem Devs_no {w : World} {lo : Nat} {s : Nat → Addr} (h : Sn w lo s) (p : Value)  (hp : Un w p) :
    Calls Tryd.prog 23 #[p] w fun e w' => e = .returned (.int .i64 0) ∧ Frm [] w w' := by
  have HS := Lib.hid h
  have HU := Lib.hid hp
  have F := Lib.hid (Frm.refl [] w)
  obtain ⟨q, rfl⟩ := hp.form
  clear h hp
  go_enter Tryd.func23, Tryd.ntmps23
  go_wp2_with (first
    | (go_at_call 39; refine (sectorOf_any _ _ _).mono ?_; rintro e w1 ⟨b1, b2, rfl, h1, h2, f1⟩; have F := Lib.hid (F.out.trans f1 (by simp)); clear h1 h2 f1)
    | (go_at_call 40; refine (there_any _ _).mono ?_; rintro e w2 ⟨b3, rfl, h3, f2⟩; have F := Lib.hid (F.out.trans f2 (by simp)); clear h3 f2)
    | (go_at_call 41; refine (noFailure_any _ _).mono ?_; rintro e w3 ⟨b4, rfl, h4, f3⟩; have F := Lib.hid (F.out.trans f3 (by simp)); clear h4 f3)
    | (go_at_call 46; refine (argument_any _ _).mono ?_; rintro e w4 ⟨b5, rfl, h5, f4⟩; have F := Lib.hid (F.out.trans f4 (by simp)); clear h5 f4)
    | (go_at_call 50; refine (deviceOf_any _ _).mono ?_; rintro e w5 ⟨b6, rfl, h6, f5⟩; have F := Lib.hid (F.out.trans f5 (by simp)); clear h6 f5)
    | (go_at_call 55; refine (byteOf_any _ _).mono ?_; rintro e w6 ⟨b7, rfl, h7, f6⟩; have F := Lib.hid (F.out.trans f6 (by simp)); clear h7 f6)
    | (go_at_call 53; refine (within_any _ _ _ _).mono ?_; rintro e w7 ⟨rfl, hw7⟩; obtain rfl := hw7.symm)
    | (go_at_call 59; refine (HU.out.keep0 F.out).made.mono ?_; rintro e w8 ⟨rfl, hw8⟩; obtain rfl := hw8.symm)
    | (go_at_call 37; refine (demand_no (HS.out.keep0 (F.out.alloc _)) _ _ (HU.out.keep0 (F.out.alloc _))).mono ?_; rintro e w9 ⟨rfl, f9⟩; unfold rfu; have G := Lib.hid ((F.out.alloc _).trans f9 (by simp)); clear f9)
    | (go_at_call 42; refine (number_any (HS.out.keep0 G.out) txA 1 (by omega)).mono ?_; rintro e w10 ⟨rfl, f10⟩; have G := Lib.hid (G.out.trans f10 (by simp)); clear f10))
  go_ret
  exact ⟨rfl, F.out⟩
theorem Sectors_no {w : World} {lo : Nat} {s : Nat → Addr} (h : Sn w lo s) (p : Value)  (hp : Un w p) :
    Calls Tryd.prog 24 #[p] w fun e w' => e = .returned (.int .i64 0) ∧ Frm [] w w' := by
  have HS := Lib.hid h
  have HU := Lib.hid hp
  have F := Lib.hid (Frm.refl [] w)
  obtain ⟨q, rfl⟩ := hp.form
  clear h hp
  go_enter Tryd.func24, Tryd.ntmps24
  go_wp2_with (first
    | (go_at_call 39; refine (sectorOf_any _ _ _).mono ?_; rintro e w1 ⟨b1, b2, rfl, h1, h2, f1⟩; have F := Lib.hid (F.out.trans f1 (by simp)); clear h1 h2 f1)
    | (go_at_call 40; refine (there_any _ _).mono ?_; rintro e w2 ⟨b3, rfl, h3, f2⟩; have F := Lib.hid (F.out.trans f2 (by simp)); clear h3 f2)
    | (go_at_call 41; refine (noFailure_any _ _).mono ?_; rintro e w3 ⟨b4, rfl, h4, f3⟩; have F := Lib.hid (F.out.trans f3 (by simp)); clear h4 f3)
    | (go_at_call 46; refine (argument_any _ _).mono ?_; rintro e w4 ⟨b5, rfl, h5, f4⟩; have F := Lib.hid (F.out.trans f4 (by simp)); clear h5 f4)
    | (go_at_call 50; refine (deviceOf_any _ _).mono ?_; rintro e w5 ⟨b6, rfl, h6, f5⟩; have F := Lib.hid (F.out.trans f5 (by simp)); clear h6 f5)
    | (go_at_call 55; refine (byteOf_any _ _).mono ?_; rintro e w6 ⟨b7, rfl, h7, f6⟩; have F := Lib.hid (F.out.trans f6 (by simp)); clear h7 f6)
    | (go_at_call 53; refine (within_any _ _ _ _).mono ?_; rintro e w7 ⟨rfl, hw7⟩; obtain rfl := hw7.symm)
    | (go_at_call 59; refine (HU.out.keep0 F.out).made.mono ?_; rintro e w8 ⟨rfl, hw8⟩; obtain rfl := hw8.symm)
    | (go_at_call 37; refine (demand_no (HS.out.keep0 (F.out.alloc _)) _ _ (HU.out.keep0 (F.out.alloc _))).mono ?_; rintro e w9 ⟨rfl, f9⟩; unfold rfu; have G := Lib.hid ((F.out.alloc _).trans f9 (by simp)); clear f9)
    | (go_at_call 42; refine (number_any (HS.out.keep0 G.out) txA 1 (by omega)).mono ?_; rintro e w10 ⟨rfl, f10⟩; have G := Lib.hid (G.out.trans f10 (by simp)); clear f10))
  go_ret
  exact ⟨rfl, F.out⟩
theorem Loose_no {w : World} {lo : Nat} {s : Nat → Addr} (h : Sn w lo s) (p : Value)  (hp : Un w p) :
    Calls Tryd.prog 25 #[p] w fun e w' => e = .returned (.int .i64 0) ∧ Frm [] w w' := by
  have HS := Lib.hid h
  have HU := Lib.hid hp
  have F := Lib.hid (Frm.refl [] w)
  obtain ⟨q, rfl⟩ := hp.form
  clear h hp
  go_enter Tryd.func25, Tryd.ntmps25
  go_wp2_with (first
    | (go_at_call 39; refine (sectorOf_any _ _ _).mono ?_; rintro e w1 ⟨b1, b2, rfl, h1, h2, f1⟩; have F := Lib.hid (F.out.trans f1 (by simp)); clear h1 h2 f1)
    | (go_at_call 40; refine (there_any _ _).mono ?_; rintro e w2 ⟨b3, rfl, h3, f2⟩; have F := Lib.hid (F.out.trans f2 (by simp)); clear h3 f2)
    | (go_at_call 41; refine (noFailure_any _ _).mono ?_; rintro e w3 ⟨b4, rfl, h4, f3⟩; have F := Lib.hid (F.out.trans f3 (by simp)); clear h4 f3)
    | (go_at_call 46; refine (argument_any _ _).mono ?_; rintro e w4 ⟨b5, rfl, h5, f4⟩; have F := Lib.hid (F.out.trans f4 (by simp)); clear h5 f4)
    | (go_at_call 50; refine (deviceOf_any _ _).mono ?_; rintro e w5 ⟨b6, rfl, h6, f5⟩; have F := Lib.hid (F.out.trans f5 (by simp)); clear h6 f5)
    | (go_at_call 55; refine (byteOf_any _ _).mono ?_; rintro e w6 ⟨b7, rfl, h7, f6⟩; have F := Lib.hid (F.out.trans f6 (by simp)); clear h7 f6)
    | (go_at_call 53; refine (within_any _ _ _ _).mono ?_; rintro e w7 ⟨rfl, hw7⟩; obtain rfl := hw7.symm)
    | (go_at_call 59; refine (HU.out.keep0 F.out).made.mono ?_; rintro e w8 ⟨rfl, hw8⟩; obtain rfl := hw8.symm)
    | (go_at_call 37; refine (demand_no (HS.out.keep0 (F.out.alloc _)) _ _ (HU.out.keep0 (F.out.alloc _))).mono ?_; rintro e w9 ⟨rfl, f9⟩; unfold rfu; have G := Lib.hid ((F.out.alloc _).trans f9 (by simp)); clear f9)
    | (go_at_call 42; refine (number_any (HS.out.keep0 G.out) txA 1 (by omega)).mono ?_; rintro e w10 ⟨rfl, f10⟩; have G := Lib.hid (G.out.trans f10 (by simp)); clear f10))
  go_ret
  exact ⟨rfl, F.out⟩
theorem Steps_no {w : World} {lo : Nat} {s : Nat → Addr} (h : Sn w lo s) (p : Value)  (hp : Un w p) :
    Calls Tryd.prog 26 #[p] w fun e w' => e = .returned (.int .i64 0) ∧ Frm [] w w' := by
  have HS := Lib.hid h
  have HU := Lib.hid hp
  have F := Lib.hid (Frm.refl [] w)
  obtain ⟨q, rfl⟩ := hp.form
  clear h hp
  go_enter Tryd.func26, Tryd.ntmps26
  go_wp2_with (first
    | (go_at_call 39; refine (sectorOf_any _ _ _).mono ?_; rintro e w1 ⟨b1, b2, rfl, h1, h2, f1⟩; have F := Lib.hid (F.out.trans f1 (by simp)); clear h1 h2 f1)
    | (go_at_call 40; refine (there_any _ _).mono ?_; rintro e w2 ⟨b3, rfl, h3, f2⟩; have F := Lib.hid (F.out.trans f2 (by simp)); clear h3 f2)
    | (go_at_call 41; refine (noFailure_any _ _).mono ?_; rintro e w3 ⟨b4, rfl, h4, f3⟩; have F := Lib.hid (F.out.trans f3 (by simp)); clear h4 f3)
    | (go_at_call 46; refine (argument_any _ _).mono ?_; rintro e w4 ⟨b5, rfl, h5, f4⟩; have F := Lib.hid (F.out.trans f4 (by simp)); clear h5 f4)
    | (go_at_call 50; refine (deviceOf_any _ _).mono ?_; rintro e w5 ⟨b6, rfl, h6, f5⟩; have F := Lib.hid (F.out.trans f5 (by simp)); clear h6 f5)
    | (go_at_call 55; refine (byteOf_any _ _).mono ?_; rintro e w6 ⟨b7, rfl, h7, f6⟩; have F := Lib.hid (F.out.trans f6 (by simp)); clear h7 f6)
    | (go_at_call 53; refine (within_any _ _ _ _).mono ?_; rintro e w7 ⟨rfl, hw7⟩; obtain rfl := hw7.symm)
    | (go_at_call 59; refine (HU.out.keep0 F.out).made.mono ?_; rintro e w8 ⟨rfl, hw8⟩; obtain rfl := hw8.symm)
    | (go_at_call 37; refine (demand_no (HS.out.keep0 (F.out.alloc _)) _ _ (HU.out.keep0 (F.out.alloc _))).mono ?_; rintro e w9 ⟨rfl, f9⟩; unfold rfu; have G := Lib.hid ((F.out.alloc _).trans f9 (by simp)); clear f9)
    | (go_at_call 42; refine (number_any (HS.out.keep0 G.out) txA 1 (by omega)).mono ?_; rintro e w10 ⟨rfl, f10⟩; have G := Lib.hid (G.out.trans f10 (by simp)); clear f10))
  go_ret
  exact ⟨rfl, F.out⟩
theorem Up_no {w : World} {lo : Nat} {s : Nat → Addr} (h : Sn w lo s) (p : Value) (d : Int) (hp : Un w p) :
    Calls Tryd.prog 27 #[p, .int .i64 d] w fun e w' => e = .returned (.bool false) ∧ Frm [] w w' := by
  have HS := Lib.hid h
  have HU := Lib.hid hp
  have F := Lib.hid (Frm.refl [] w)
  obtain ⟨q, rfl⟩ := hp.form
  clear h hp
  go_enter Tryd.func27, Tryd.ntmps27
  go_wp2_with (first
    | (go_at_call 39; refine (sectorOf_any _ _ _).mono ?_; rintro e w1 ⟨b1, b2, rfl, h1, h2, f1⟩; have F := Lib.hid (F.out.trans f1 (by simp)); clear h1 h2 f1)
    | (go_at_call 40; refine (there_any _ _).mono ?_; rintro e w2 ⟨b3, rfl, h3, f2⟩; have F := Lib.hid (F.out.trans f2 (by simp)); clear h3 f2)
    | (go_at_call 41; refine (noFailure_any _ _).mono ?_; rintro e w3 ⟨b4, rfl, h4, f3⟩; have F := Lib.hid (F.out.trans f3 (by simp)); clear h4 f3)
    | (go_at_call 46; refine (argument_any _ _).mono ?_; rintro e w4 ⟨b5, rfl, h5, f4⟩; have F := Lib.hid (F.out.trans f4 (by simp)); clear h5 f4)
    | (go_at_call 50; refine (deviceOf_any _ _).mono ?_; rintro e w5 ⟨b6, rfl, h6, f5⟩; have F := Lib.hid (F.out.trans f5 (by simp)); clear h6 f5)
    | (go_at_call 55; refine (byteOf_any _ _).mono ?_; rintro e w6 ⟨b7, rfl, h7, f6⟩; have F := Lib.hid (F.out.trans f6 (by simp)); clear h7 f6)
    | (go_at_call 53; refine (within_any _ _ _ _).mono ?_; rintro e w7 ⟨rfl, hw7⟩; obtain rfl := hw7.symm)
    | (go_at_call 59; refine (HU.out.keep0 F.out).made.mono ?_; rintro e w8 ⟨rfl, hw8⟩; obtain rfl := hw8.symm)
    | (go_at_call 37; refine (demand_no (HS.out.keep0 (F.out.alloc _)) _ _ (HU.out.keep0 (F.out.alloc _))).mono ?_; rintro e w9 ⟨rfl, f9⟩; unfold rfu; have G := Lib.hid ((F.out.alloc _).trans f9 (by simp)); clear f9)
    | (go_at_call 42; refine (number_any (HS.out.keep0 G.out) txA 1 (by omega)).mono ?_; rintro e w10 ⟨rfl, f10⟩; have G := Lib.hid (G.out.trans f10 (by simp)); clear f10))
  go_ret
  exact ⟨rfl, G.out⟩
end Go.Proofs.YtdebnikolhhmgaaDoor
