/-
  Contracts of Turn at a piece of 64 bytes, and of the document's Start, table and words; no conditions but those that each theorem names.
-/
import Derived.Test.YtopjbiccipgnjaaDoorHT
import Derived.Test.YtopjbiccipgnjaaDoorHM
import Derived.StillTailTactics
import Derived.Shelf.Abstract
namespace Go.Proofs.YtopjbiccipgnjaaDoor
open Go.RowKit
set_option linter.unusedVariables false
set_option linter.unusedSimpArgs false
set_option maxRecDepth 100000

theorem results_cell_tmp {P : Program} {fn : Func} {p q : Tmp} {t1 : TypeId} (h : fn.results = #[.cell p t1, .tmp q]) (tmps : Array Value) (w : World) (g1 : Nat) (T1 : TypeId) (cs1 : Array Value) (fr1 : Nat × Nat) (d1 : TypeDesc)
    (hp : tmps.getD p undef = .pointer (some ⟨g1, 0, none⟩)) (hg1 : w.heap[g1]? = some (.cells cs1 T1 fr1))
    (hu1 : P.underlying t1 = some d1) (hd1 : (match d1 with | .struct _ | .array _ _ => true | _ => false) = true) (hi1 : (P.info? t1).map (·.size) = some cs1.size) :
    (results fn tmps).run P w = .ok (.tuple #[.agg cs1, tmps.getD q undef]) w := by
  have hp' : tmps[p]?.getD undef = .pointer (some ⟨g1, 0, none⟩) := by simpa using hp
  simp [results, h, hp', asAddr, run_loadVar_row w g1 T1 t1 cs1 fr1 d1 hg1 hu1 hd1 hi1]
theorem arrayAt59c (a : Addr) (c : Nat) (W : World) : (Instr.arrayAt 59 (.slice (some a) 64 c)).run Tryd.prog W = .ok (.pointer (some a)) W := by
  have hl : Tryd.prog.arrayLen 59 = 64 := by kernel_rfl
  simp [Instr.arrayAt, run_underlying d59, go_sem]
theorem i36 : (Tryd.prog.info? 36).map (·.size) = some 8 := by kernel_rfl
def Z8 : Array Value := #[.int .u32 0, .int .u32 0, .int .u32 0, .int .u32 0, .int .u32 0, .int .u32 0, .int .u32 0, .int .u32 0]
theorem W32_sz (s : S8) : (W32 s.l).toArray.size = 8 := by simp [W32_length, S8.l]
set_option maxHeartbeats 1000000 in
theorem Turn_any (s : S8) (v : Value) (l sp : List UInt8) (w : World) (hS : SlB w v l sp) (hl : l.length = 64) (hG : Glob w) :
    Calls Tryd.prog 19 #[.agg (W32 s.l).toArray, v] w fun r w' => r = .returned (.tuple #[.agg (W32 (turn s l).l).toArray, .int .i64 0]) ∧ Frm [] w w' := by
  obtain ⟨b, off, cap, rfl, hc⟩ : ∃ b off cap, v = .slice (some ⟨b, off, none⟩) 64 cap ∧ ∀ i u, (bvs l)[i]? = some u → w.cell? ⟨b, off + i, none⟩ = some u := by
    obtain ⟨h1, h2 | ⟨a, h2, h3, h4⟩ | ⟨b, off, cap, h2, h3, h4, h5, h6⟩⟩ := hS
    · omega
    · omega
    · exact ⟨b, off, cap, by rw [h2, hl], fun i u hu => h6 i u (by rw [List.getElem?_append_left]; exact hu; rcases Nat.lt_or_ge i (bvs l).length with h | h; exact h; rw [List.getElem?_eq_none h] at hu; cases hu)⟩
  have HC := Lib.hid hc
  have HL := Lib.hid hl
  have HG := Lib.hid hG
  have ha := fun c W => arrayAt59c ⟨b, off, none⟩ c W
  have ht := fun W hG => turned_any s l hl W hG
  generalize turn s l = y at *
  have HT := Lib.hid ht
  clear hc hl hS hG ht
  go_enter Tryd.func19, Tryd.ntmps19
  go_upto_region 3 with (fail)
  have h0 : IsW ((w.alloc (.cells (W32 s.l).toArray 36)).alloc (.cells Z8 36)) w.heap.size 36 s.l := heap_alloc_lt (heap_alloc_new _ _)
  have h1 : ((w.alloc (.cells (W32 s.l).toArray 36)).alloc (.cells Z8 36)).heap[w.heap.size + 1]? = some (.cells Z8 36 (0, 0)) := heap_alloc_at (by simp)
  have hF : Frm [] w ((w.alloc (.cells (W32 s.l).toArray 36)).alloc (.cells Z8 36)) := ((Frm.refl _ _).alloc _).alloc _
  change Code.wp _ _ _ _ ((w.alloc (.cells (W32 s.l).toArray 36)).alloc (.cells Z8 36))
  generalize (w.alloc (.cells (W32 s.l).toArray 36)).alloc (.cells Z8 36) = W at *
  have H0 := Lib.hid h0
  have H1 := Lib.hid h1
  have HF := Lib.hid hF
  clear h0 h1 hF
  refine wp_region_still_tail 4 (by kernel_rfl) (by kernel_rfl) ?_
  change wpStill _ _ (World.drew _) _ _ _
  simp only [List.take_succ_cons, List.take_zero, List.drop_succ_cons, List.drop_zero]
  refine wpStill_val rfl (exec_load_row 36 (.tmp 2) rfl w.heap.size 0 rfl (W32 s.l) _ (fun i u hu => ?_) d36 rfl (by rw [W32_length]; exact i36)) ?_
  · rw [Nat.zero_add, World.cell?_drew, cell_of_heap H0.out]; simpa using hu
  still_step
  still_step
  refine wpStill_val rfl (exec_load_row 59 (.tmp 12) rfl b off rfl (bvs l) _ (fun i u hu => ?_) d59 rfl (by rw [bvs_length, HL.out]; exact i59)) ?_
  · rw [World.cell?_drew]; exact HF.out.cell (HC.out i u hu) (by simp)
  refine wpStill_nil ?_
  change wpList _ _ _ _ _ (World.drew _)
  have hturn := HT.out W.drew ((HG.out.keep HF.out (by simp)).keep ((Frm.refl [] W).drew) (by simp))
  go_wp2_with fail
  refine hturn.mono ?_
  rintro r w4 ⟨rfl, f4⟩
  have H14 := Lib.hid (f4.heap (show W.drew.heap[w.heap.size + 1]? = _ from H1.out) (by simp))
  have HFF := Lib.hid (((HF.out.drew).trans f4 (by simp)).setRow (w.heap.size + 1) (W32 y.l).toArray (.inr (by omega)))
  have HRES := Lib.hid (setRow_heap w4 (w.heap.size + 1) _ (W32 y.l).toArray 36 (0, 0) H14.out)
  clear hturn f4
  have hsz := W32_sz y
  have HSZ := Lib.hid hsz
  clear hsz
  simp only []
  go_step
  refine wpList_store_row rfl 36 (.tmp 4) (.tmp 14) rfl (w.heap.size + 1) (W32 y.l).toArray rfl rfl 36 _ H14.out (by rw [HSZ.out]; exact i36) (by rw [HSZ.out]; rfl) (W32_one _) ?_
  generalize w4.setRow (w.heap.size + 1) (W32 y.l).toArray = w9 at *
  go_wp2_with fail
  exact bodyPost_ret (v := .tuple #[.agg (W32 y.l).toArray, .int .i64 0]) ((results_cell_tmp (p := 4) (q := 5) (t1 := 36) rfl _ _ (w.heap.size + 1) 36 _ (0, 0) _ rfl HRES.out d36 rfl (by rw [HSZ.out]; exact i36)).trans rfl) rfl ⟨rfl, HFF.out⟩
theorem RefStart_any (w : World) : Calls Tryd.prog 22 #[] w fun r w' => r = .returned (.agg (W32 s0.l).toArray) ∧ Frm [] w w' := by
  go_enter Tryd.func22, Tryd.ntmps22
  go_wp2
  exact bodyPost_ret (v := .agg (W32 s0.l).toArray) (by simp [results, Tryd.results22, go_sem, W32_lit, s0, wi]) rfl ⟨rfl, (Frm.refl _ _).alloc _⟩
theorem kTab_len : kTab.length = 64 := by kernel_rfl
theorem Z64_len : (List.replicate 64 (Value.int .u32 0)).toArray.size = 64 := by kernel_rfl
theorem build61 (W : World) : (Instr.build 61 #[(0, .int .u32 1116352408), (1, .int .u32 1899447441), (2, .int .u32 3049323471), (3, .int .u32 3921009573), (4, .int .u32 961987163), (5, .int .u32 1508970993), (6, .int .u32 2453635748), (7, .int .u32 2870763221), (8, .int .u32 3624381080), (9, .int .u32 310598401), (10, .int .u32 607225278), (11, .int .u32 1426881987), (12, .int .u32 1925078388), (13, .int .u32 2162078206), (14, .int .u32 2614888103), (15, .int .u32 3248222580), (16, .int .u32 3835390401), (17, .int .u32 4022224774), (18, .int .u32 264347078), (19, .int .u32 604807628), (20, .int .u32 770255983), (21, .int .u32 1249150122), (22, .int .u32 1555081692), (23, .int .u32 1996064986), (24, .int .u32 2554220882), (25, .int .u32 2821834349), (26, .int .u32 2952996808), (27, .int .u32 3210313671), (28, .int .u32 3336571891), (29, .int .u32 3584528711), (30, .int .u32 113926993), (31, .int .u32 338241895), (32, .int .u32 666307205), (33, .int .u32 773529912), (34, .int .u32 1294757372), (35, .int .u32 1396182291), (36, .int .u32 1695183700), (37, .int .u32 1986661051), (38, .int .u32 2177026350), (39, .int .u32 2456956037), (40, .int .u32 2730485921), (41, .int .u32 2820302411), (42, .int .u32 3259730800), (43, .int .u32 3345764771), (44, .int .u32 3516065817), (45, .int .u32 3600352804), (46, .int .u32 4094571909), (47, .int .u32 275423344), (48, .int .u32 430227734), (49, .int .u32 506948616), (50, .int .u32 659060556), (51, .int .u32 883997877), (52, .int .u32 958139571), (53, .int .u32 1322822218), (54, .int .u32 1537002063), (55, .int .u32 1747873779), (56, .int .u32 1955562222), (57, .int .u32 2024104815), (58, .int .u32 2227730452), (59, .int .u32 2361852424), (60, .int .u32 2428436474), (61, .int .u32 2756734187), (62, .int .u32 3204031479), (63, .int .u32 3329325298)]).run Tryd.prog W = .ok (.agg (W32 kTab).toArray) W :=
  run_build (P := Tryd.prog) W 61 _ _ (by kernel_rfl)
set_option maxHeartbeats 1000000 in
theorem table_any (w : World) : Calls Tryd.prog 39 #[] w fun r w' => r = .returned (.agg (W32 kTab).toArray) ∧ Frm [] w w' := by
  have hb := build61
  go_enter Tryd.func39, Tryd.ntmps39
  go_upto_region 1 with (fail)
  have h0 : (w.alloc (.cells (W32 (List.replicate 64 0)).toArray 61)).heap[w.heap.size]? = some (.cells (W32 (List.replicate 64 0)).toArray 61 (0, 0)) := heap_alloc_new _ _
  have hF : Frm [] w (w.alloc (.cells (W32 (List.replicate 64 0)).toArray 61)) := (Frm.refl _ _).alloc _
  change Code.wp _ _ _ _ (w.alloc (.cells (W32 (List.replicate 64 0)).toArray 61))
  generalize w.alloc (.cells (W32 (List.replicate 64 0)).toArray 61) = W at *
  have hsz : (W32 kTab).toArray.size = 64 := by rw [List.size_toArray, W32_length, kTab_len]
  have hsz0 : (W32 (List.replicate 64 (0 : UInt32))).toArray.size = 64 := by rw [List.size_toArray, W32_length, List.length_replicate]
  obtain ⟨vk, hK⟩ : ∃ vk, W32 kTab = vk := ⟨_, rfl⟩
  rw [hK] at hsz hb
  have hone : vk.toArray.all (·.oneCell') = true := by rw [← hK]; exact W32_one _
  refine wp_region_lit ?_
  refine wpList_val rfl (v := .agg vk.toArray) (w' := W) ?_ ?_
  · simp only [execOp]; go_simp; rw [← hK]; kernel_rfl
  refine wpList_store_row rfl 61 (.tmp 0) (.tmp 1) rfl w.heap.size vk.toArray rfl rfl 61 _ h0 (by rw [hsz]; exact i61) (by rw [hsz, hsz0]) hone ?_
  have HRES := Lib.hid (setRow_heap W w.heap.size _ vk.toArray 61 (0, 0) h0)
  have HFF := Lib.hid (hF.setRow w.heap.size vk.toArray (.inr (Nat.le_refl _)))
  generalize W.setRow w.heap.size vk.toArray = w9 at *
  clear hb
  go_wp2_with fail
  refine bodyPost_ret (v := .agg vk.toArray) (results_cell_row rfl _ _ _ 61 _ (0, 0) _ rfl HRES.out d61 rfl (by rw [hsz]; exact i61)) rfl ⟨?_, HFF.out⟩
  rw [hK]
end Go.Proofs.YtopjbiccipgnjaaDoor
