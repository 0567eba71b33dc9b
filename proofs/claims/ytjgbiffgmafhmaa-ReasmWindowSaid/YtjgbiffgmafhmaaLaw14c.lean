/-
  The law ReasmWindow: What lies beyond the window is not taken, what lies ahead of what is waited for is not told again, of more holes than there is room for the last piece is let go: whatever is handed in, the law answers true. No condition.
-/
/-
  Pieces of a stream: ReasmWindow: the walk.
-/
import Derived.Test.YtjgbiffgmafhmaaRwA
import Derived.Test.YtjgbiffgmafhmaaReL
import Derived.Test.YtjgbiffgmafhmaaOv2
namespace Go.Proofs.Ytjgbiffgmafhmaa
open Go.RowKit Go.Lib
theorem KPart_nil (W : World) : KPart.Sl W (.slice none 0 0) [] := DK.Sl.nil KPart W
theorem cvU32w {N F : Int} (h : F = N % 4294967296) (W : World) : (convert 3 52 (.int .i64 N)).run Try.prog W = .ok (.int .u32 F) W := by
  subst h
  simp [go_sem, convert, IntKind.wrap_u32]
theorem cvI32w {F : Int} (h : 0 ≤ F ∧ F < 4294967296) (W : World) : (convert 52 3 (.int .u32 F)).run Try.prog W = .ok (.int .i64 F) W := by
  have := wrap_i64 F (by omega) (by omega)
  simp [go_sem, convert, this]
theorem cvB (k : Nat) (W : World) : (convert 3 5 (.int .i64 (k : Int))).run Try.prog W = .ok (.int .u8 ((UInt8.ofNat k).toNat : Int)) W := by
  have e : IntKind.u8.wrap (k : Int) = ((UInt8.ofNat k).toNat : Int) := by rw [IntKind.wrap_u8]; simp
  simp [go_sem, convert, e]
theorem sl_mid {W : World} {q : Nat} {l : List UInt8} (h : RowAt W q (l.map B8)) (i n c : Nat) (hi : i + n ≤ l.length) (hc : n ≤ c) (hm : c ≤ maxLen) : Sl W (.slice (some ⟨q, i, none⟩) n c) ((l.drop i).take n) := by
  have hl : ((l.drop i).take n).length = n := by rw [List.length_take, List.length_drop]; omega
  refine ⟨some ⟨q, i, none⟩, c, by rw [hl], by rw [hl]; exact hc, hm, fun e => (nomatch e), fun _ => ⟨q, i, rfl, h.2.2, fun k x hx => ?_⟩⟩
  rw [List.getElem?_take] at hx
  split at hx
  · rw [List.getElem?_drop] at hx
    exact h.1 (i + k) _ (by rw [List.getElem?_map, hx]; rfl)
  · cases hx
theorem sl_row2 {W : World} {q : Nat} (h : RowAt W q [B8 0, B8 0]) : Sl W (.slice (some ⟨q, 0, none⟩) 2 2) [0, 0] := sl_mid (l := [0, 0]) h 0 2 2 (by decide) (by decide) (by decide)
theorem row_fill {W : World} {q k : Nat} (h : RowAt W q ((fillB k).map B8)) (hk : k < 2148) : RowAt (W.setCell ⟨q, k, none⟩ (.int .u8 ((UInt8.ofNat k).toNat : Int))) q ((fillB (k + 1)).map B8) := by
  rw [← fillB_set hk, List.map_set]
  exact h.set1 k _ (by rw [List.length_map, fillB_len]; exact hk)
section
variable {a : Act} {ρ : Operand → Value} {d : Option Tmp} {ty : TypeId} {pos : String} {af : Array Edge} {g : Option (Nat × Bool)}
theorem mk_big (w : World) : (execOp a.eval ⟨d, .makeSlice 34 (.const (.int .i64 2148)) (.const (.int .i64 2148)), ty, pos, af, g⟩).run Try.prog w = .ok (.value (.slice (some ⟨w.heap.size, 0, none⟩) 2148 2148)) (w.alloc (.cells ((fillB 0).map B8).toArray 5)) := by
  obtain ⟨i0, hi, hz0, hz1, hz2⟩ := info_parts infoU8
  have h := run_makeSlice (P := Try.prog) w 34 5 i0 (.int .u8 0) Try.underlying34 hi hz0 .i64 .i64 2148 2148 (by decide) (by decide) (by rw [hz1]; decide) (by rw [hz2]; decide) (by decide)
  rw [hz1, rep_cells (.int .u8 0) (.int .u8 0) _ rfl, show (2148 : Int).toNat = 2148 from rfl, Nat.mul_one] at h
  rw [fillB_zero, List.map_replicate, show B8 0 = .int .u8 0 from rfl]
  simp only [execOp, eval_cst, Sem.run_bind, h, Result.andThen_ok, Sem.run_pure]
theorem bs00 (w : World) : (execOp a.eval ⟨d, .buildSlice 34 2 #[(0, .const (.int .u8 0)), (1, .const (.int .u8 0))], ty, pos, af, g⟩).run Try.prog w = .ok (.value (.slice (some ⟨w.heap.size, 0, none⟩) 2 2)) (w.alloc (.cells ([B8 0, B8 0] : List Value).toArray 5)) := by
  simp [execOp, go_sem, Instr.buildSlice, B8]
end
theorem sl_to2148 (ad : Addr) (j : Nat) (hj : j ≤ 2148) (w : World) : (Instr.sliceAt 34 (.slice (some ad) 2148 2148) none (some (.int .i64 (j : Int))) none).run Try.prog w = .ok (.slice (some ad) j 2148) w := by
  obtain ⟨i0, hi, -⟩ := info_parts infoU8
  exact ro_slice_to w 34 5 Try.underlying34 hi ad 2148 2148 j hj
theorem sl_from100 (q : Nat) (w : World) : (Instr.sliceAt 34 (.slice (some ⟨q, 0, none⟩) 2148 2148) (some (.int .i64 100)) none none).run Try.prog w = .ok (.slice (some ⟨q, 100, none⟩) 2048 2048) w :=
  ro_slice_from w 34 5 1 Try.underlying34 (by have := infoU8; revert this; cases Try.prog.info? 5 with | none => simp | some x => simp; intro _ h _; exact h) ⟨q, 0, none⟩ 2148 2148 100 (by decide)
theorem sl_one1 (q : Nat) {i : Nat} (hi : i < 10) (w : World) : (Instr.sliceAt 34 (.slice (some ⟨q, 0, none⟩) 2148 2148) (some (.int .i64 (i : Int))) (some (.int .i64 ((i + 1 : Nat) : Int))) none).run Try.prog w = .ok (.slice (some ⟨q, i, none⟩) 1 (2148 - i)) w := by
  have h := ro_slice_both w 34 5 1 Try.underlying34 (by have := infoU8; revert this; cases Try.prog.info? 5 with | none => simp | some x => simp; intro _ h _; exact h) ⟨q, 0, none⟩ 2148 2148 i (i + 1) (by omega) (by omega)
  rw [if_neg (by omega), add_off, show 0 + i * 1 = i by omega, show i + 1 - i = 1 by omega] at h
  exact h
theorem big_one {i : Nat} (hi : i < 10) : (bigL.drop i).take 1 = [UInt8.ofNat i] := by
  have h : bigL[i]? = some (UInt8.ofNat i) := bigL_get (by omega)
  have e := List.drop_eq_getElem_cons (l := bigL) (i := i) (by rw [bigL_len]; omega)
  rw [List.getElem?_eq_getElem (by rw [bigL_len]; omega)] at h
  rw [e, Option.some.inj h]; rfl
theorem ok_nil {F seq : Int} {D : List UInt8} (hF : 0 ≤ F ∧ F < 4294967296) (hs : 0 ≤ seq ∧ seq < 4294967296) (hd : D.length ≤ 65536) : addOk F [] seq D = true := by
  unfold addOk
  rw [decide_eq_true hs.1, decide_eq_true hs.2, decide_eq_true hd]
  have : bufB F [] = true := by unfold bufB; rw [decide_eq_true (by refine ⟨hF.1, hF.2, by decide⟩)]; rfl
  rw [this]; rfl
theorem ok_Ri {F seq : Int} {i : Nat} {b : UInt8} (hF : 0 ≤ F ∧ F < 4294967296) (hi : i < 10) (hs : 0 ≤ seq ∧ seq < 4294967296) : addOk F ((Ri (min i 8)).map (toP F)) seq [b] = true := by
  have h := okR_bufB hF (Ri_ok ⟨min i 8, by omega⟩) (by rw [Ri_len]; simp only; omega)
  unfold addOk
  rw [h, decide_eq_true hs.1, decide_eq_true hs.2]; rfl
theorem ok_Ri8 {F : Int} {b : UInt8} (hF : 0 ≤ F ∧ F < 4294967296) : addOk F ((Ri 8).map (toP F)) F [b] = true := ok_Ri (i := 8) hF (by decide) hF
theorem win_one {F : Int} (hF : 0 ≤ F ∧ F < 4294967296) : addNext F [] F bigL = addv F 2048 ∧ addParts F [] F bigL = [] ∧ addTold F [] F bigL = bigL.take 2048 := by
  have h := big_front (S := bigL) (D := bigL) (o := 0) hF (by omega) (by rw [bigL_len]; decide) (fun j x hj _ => by rwa [show ((0 : Int) + (j : Int)).toNat = j by omega])
  rwa [addv_zero hF] at h
theorem win_two {F : Int} (hF : 0 ≤ F ∧ F < 4294967296) : addNext F [] (addv F (-100)) bigL = addv F 2048 ∧ addParts F [] (addv F (-100)) bigL = [] ∧ addTold F [] (addv F (-100)) bigL = (bigL.drop 100).take 2048 :=
  big_front (S := bigL.drop 100) (D := bigL) (o := -100) hF (by omega) (by rw [bigL_len]; decide) (fun j x hj h0 => by rw [List.getElem?_drop, show 100 + ((-100 : Int) + (j : Int)).toNat = j by omega]; exact hj)
theorem win_last {F : Int} (hF : 0 ≤ F ∧ F < 4294967296) : addNext F ((Ri 8).map (toP F)) F [0] = addNext F ((Ri 8).map (toP F)) F [0] ∧ addParts F ((Ri 8).map (toP F)) F [0] = addParts F ((Ri 8).map (toP F)) F [0] ∧ addTold F ((Ri 8).map (toP F)) F [0] = [0, 0] := by
  have h := rel_facts (next := F) (o := 0) (D := [0]) hF (by omega) (okR_lt _ _ (Ri_ok ⟨8, by decide⟩)) Ri_last.1 Ri_last.2 (by rw [List.length_drop, Ri_len]; decide)
  rw [addv_zero hF] at h
  exact ⟨rfl, rfl, h.2.2⟩
set_option maxRecDepth 100000 in
set_option maxHeartbeats 4000000 in
theorem window_walk0 (c0 c2 : Value) (N1 N3 : Int) (w : World) :
    Calls Try.prog 5 #[.agg #[c0, .int .i64 N1, c2, .int .i64 N3]] w fun e w' => e = .returned (.bool true) ∧ Below w.heap.size w w' := by
  obtain ⟨F, hFe⟩ : ∃ F : Int, F = N1 % 4294967296 := ⟨_, rfl⟩
  have hF : 0 ≤ F ∧ F < 4294967296 := by omega
  have hadd1 := win_one hF
  have hadd2 := win_two hF
  have hlast := win_last hF
  have hb0 := Below.refl w.heap.size w
  refine ow_enter 177 Try.func5 rfl Try.ntmps5 (by simp) ?_
  rintro a hsz hdf hargs
  have s_0 : a.tmps[0]? = some (.agg #[c0, .int .i64 N1, c2, .int .i64 N3]) := hargs 0 _ rfl
  clear hargs
  refine wp_seq ?_
  refine ow_region [_, _] rfl (by intro o ho; simp only [List.mem_cons, List.not_mem_nil, or_false] at ho; rcases ho with rfl | rfl <;> rfl) ?_
  obtain ⟨q1, hq1⟩ : ∃ x, x = w.heap.size := ⟨_, rfl⟩
  refine ow_run 1 (.pointer (some ⟨q1, 0, none⟩)) (w.alloc (.cells #[c0, .int .i64 N1, c2, .int .i64 N3] 51)) rfl (by rw [hq1]; exact (run_boxOp (eval_of s_0) (by simp [go_sem, Instr.box]))) ?_
  have hqq1 : w.heap.size ≤ q1 := by rw [hq1]; exact hb0.size
  refine fresh (C := fun x W => wpRun _ _ x W _) (fun x X => _ = x ∧ Below w.heap.size w X ∧ RowAt X q1 [c0, .int .i64 N1, c2, .int .i64 N3]) ⟨rfl, (hb0.alloc hb0.size _), (by rw [hq1]; exact rowAt_alloc _ [c0, .int .i64 N1, c2, .int .i64 N3] _)⟩ ?_
  rintro _ W2 ⟨rfl, hbW2, rW2_0⟩
  clear hq1
  refine ow_run 2 (.bool false) _ rfl (run_assignOp (eval_cst _ _)) ?_
  refine fresh (C := fun x W => wpRun _ [] x W _) (fun x X => _ = X ∧ x.tmps.size = 177 ∧ x.defers = [] ∧ x.tmps[1]? = some (.pointer (some ⟨q1, 0, none⟩))) ⟨rfl, (by simp only [put_size]; exact hsz), (by simp only [put_defers]; exact hdf), (pf1 (by decide) (put_get _ _ _ (by rw [hsz]; decide)))⟩ ?_
  clear hsz hdf s_0
  rintro a _ ⟨rfl, hsz, hdf, s_1⟩
  refine ow_then ?_
  refine wp_seq ?_
  refine ow_region [_, _, _, _, _] rfl (by intro o ho; simp only [List.mem_cons, List.not_mem_nil, or_false] at ho; rcases ho with rfl | rfl | rfl | rfl | rfl <;> rfl) ?_
  refine ow_run 23 (.pointer (some ⟨q1, 1, none⟩)) _ rfl (run_fieldAddr (eval_of s_1) (by simp [go_sem, Instr.fieldAt])) ?_
  refine ow_run 24 (.int .i64 N1) _ rfl (run_loadOp (eval_of (put_get _ _ _ (by rw [hsz]; decide))) (by simp [go_sem, Instr.loadAt, rW2_0.cell (j := 1) rfl])) ?_
  refine ow_run 25 (.int .u32 F) _ rfl (run_convOp (eval_of (put_get _ _ _ (by simp only [put_size]; rw [hsz]; decide))) (cvU32w hFe _)) ?_
  refine ow_run 26 (.int .i64 F) _ rfl (run_convOp (eval_of (put_get _ _ _ (by simp only [put_size]; rw [hsz]; decide))) (cvI32w hF _)) ?_
  refine ow_run 3 (.int .i64 F) _ rfl (run_assignOp (eval_of (put_get _ _ _ (by simp only [put_size]; rw [hsz]; decide)))) ?_
  refine fresh (C := fun x W => wpRun _ [] x W _) (fun x X => _ = X ∧ x.tmps.size = 177 ∧ x.defers = [] ∧ x.tmps[3]? = some (.int .i64 F)) ⟨rfl, (by simp only [put_size]; exact hsz), (by simp only [put_defers]; exact hdf), (put_get _ _ _ (by simp only [put_size]; rw [hsz]; decide))⟩ ?_
  clear hsz hdf s_1
  rintro a _ ⟨rfl, hsz, hdf, s_3⟩
  refine ow_then ?_
  refine wp_seq ?_
  refine ow_region [_, _, _, _] rfl (by intro o ho; simp only [List.mem_cons, List.not_mem_nil, or_false] at ho; rcases ho with rfl | rfl | rfl | rfl <;> rfl) ?_
  refine ow_run 27 (.int .i64 F) _ rfl (run_moveOp (eval_of s_3)) ?_
  refine ow_run 28 (.agg #[.int .i64 F, .slice none 0 0]) _ rfl (run_buildOp (bp1 (eval_of (put_get _ _ _ (by rw [hsz]; decide)))) (by first | rfl | kernel_rfl)) ?_
  obtain ⟨q5, hq5⟩ : ∃ x, x = W2.heap.size := ⟨_, rfl⟩
  refine ow_run 4 (.pointer (some ⟨q5, 0, none⟩)) (W2.alloc (.cells #[.int .i64 0, .slice none 0 0] 24)) rfl (by rw [hq5]; exact (run_allocOp (by simp [go_sem, Instr.alloc]))) ?_
  have hqq5 : w.heap.size ≤ q5 := by rw [hq5]; exact hbW2.size
  have hnq5_q1 : q1 < q5 := by rw [hq5]; exact rW2_0.2.2
  refine fresh (C := fun x W => wpRun _ _ x W _) (fun x X => _ = x ∧ Below w.heap.size w X ∧ RowAt X q1 [c0, .int .i64 N1, c2, .int .i64 N3] ∧ RowAt X q5 [.int .i64 0, .slice none 0 0]) ⟨rfl, (hbW2.alloc hbW2.size _), (rW2_0.below ((Below.refl _ W2).alloc (Nat.le_refl _) _)), (by rw [hq5]; exact rowAt_alloc _ [.int .i64 0, .slice none 0 0] _)⟩ ?_
  rintro _ W6 ⟨rfl, hbW6, rW6_0, rW6_1⟩
  clear hq5
  refine ow_skip _ rfl (run_storeOp (eval_of (put_get _ _ _ (by simp only [put_size]; rw [hsz]; decide))) (eval_of (pf1 (by decide) (put_get _ _ _ (by simp only [put_size]; rw [hsz]; decide)))) (run_storeN (xs := [.int .i64 F, .slice none 0 0]) rW6_1 (by simp) (by kernel_rfl) rfl)) ?_
  refine fresh (C := fun x W => wpRun _ _ x W _) (fun x X => _ = x ∧ Below w.heap.size w X ∧ RowAt X q1 [c0, .int .i64 N1, c2, .int .i64 N3] ∧ RowAt X q5 [.int .i64 F, .slice none 0 0]) ⟨rfl, (below_sets (by omega) _ _ _ hbW6), (RowAt.sets_other _ _ _ rW6_0 (by omega)), (RowAt.sets [.int .i64 F, .slice none 0 0] 0 _ _ rW6_1 (by simp))⟩ ?_
  rintro _ W7 ⟨rfl, hbW7, rW7_0, rW7_1⟩
  refine fresh (C := fun x W => wpRun _ [] x W _) (fun x X => _ = X ∧ x.tmps.size = 177 ∧ x.defers = [] ∧ x.tmps[3]? = some (.int .i64 F) ∧ x.tmps[4]? = some (.pointer (some ⟨q5, 0, none⟩))) ⟨rfl, (by simp only [put_size]; exact hsz), (by simp only [put_defers]; exact hdf), (pf1 (by decide) (pf2 (by decide) s_3)), (put_get _ _ _ (by simp only [put_size]; rw [hsz]; decide))⟩ ?_
  clear hsz hdf s_3
  rintro a _ ⟨rfl, hsz, hdf, s_3, s_4⟩
  refine ow_then ?_
  refine wp_seq ?_
  refine ow_region [_, _] rfl (by intro o ho; simp only [List.mem_cons, List.not_mem_nil, or_false] at ho; rcases ho with rfl | rfl <;> rfl) ?_
  obtain ⟨q9, hq9⟩ : ∃ x, x = W7.heap.size := ⟨_, rfl⟩
  refine ow_run 29 (.slice (some ⟨q9, 0, none⟩) 2148 2148) (W7.alloc (.cells (((fillB 0).map B8)).toArray 5)) rfl (by rw [hq9]; exact (mk_big _)) ?_
  have hqq9 : w.heap.size ≤ q9 := by rw [hq9]; exact hbW7.size
  have hnq9_q1 : q1 < q9 := by rw [hq9]; exact rW7_0.2.2
  have hnq9_q5 : q5 < q9 := by rw [hq9]; exact rW7_1.2.2
  refine fresh (C := fun x W => wpRun _ _ x W _) (fun x X => _ = x ∧ Below w.heap.size w X ∧ RowAt X q1 [c0, .int .i64 N1, c2, .int .i64 N3] ∧ RowAt X q5 [.int .i64 F, .slice none 0 0] ∧ RowAt X q9 ((fillB 0).map B8)) ⟨rfl, (hbW7.alloc hbW7.size _), (rW7_0.below ((Below.refl _ W7).alloc (Nat.le_refl _) _)), (rW7_1.below ((Below.refl _ W7).alloc (Nat.le_refl _) _)), (by rw [hq9]; exact rowAt_alloc _ (((fillB 0).map B8)) _)⟩ ?_
  rintro _ W10 ⟨rfl, hbW10, rW10_0, rW10_1, rW10_2⟩
  clear hq9
  refine ow_run 5 (.slice (some ⟨q9, 0, none⟩) 2148 2148) _ rfl (run_assignOp (eval_of (put_get _ _ _ (by rw [hsz]; decide)))) ?_
  refine fresh (C := fun x W => wpRun _ [] x W _) (fun x X => _ = X ∧ x.tmps.size = 177 ∧ x.defers = [] ∧ x.tmps[3]? = some (.int .i64 F) ∧ x.tmps[4]? = some (.pointer (some ⟨q5, 0, none⟩)) ∧ x.tmps[5]? = some (.slice (some ⟨q9, 0, none⟩) 2148 2148)) ⟨rfl, (by simp only [put_size]; exact hsz), (by simp only [put_defers]; exact hdf), (pf2 (by decide) s_3), (pf2 (by decide) s_4), (put_get _ _ _ (by simp only [put_size]; rw [hsz]; decide))⟩ ?_
  clear hsz hdf s_3 s_4
  rintro a _ ⟨rfl, hsz, hdf, s_3, s_4, s_5⟩
  refine ow_then ?_
  refine wp_seq ?_
  refine wp_seq ?_
  refine ow_region [_] rfl (by intro o ho; simp only [List.mem_cons, List.not_mem_nil, or_false] at ho; subst ho; rfl) ?_
  refine ow_run 6 (.int .i64 0) _ rfl (run_assignOp (eval_cst _ _)) ?_
  refine fresh (C := fun x W => wpRun _ [] x W _) (fun x X => _ = X ∧ x.tmps.size = 177 ∧ x.defers = [] ∧ x.tmps[3]? = some (.int .i64 F) ∧ x.tmps[4]? = some (.pointer (some ⟨q5, 0, none⟩)) ∧ x.tmps[5]? = some (.slice (some ⟨q9, 0, none⟩) 2148 2148) ∧ x.tmps[6]? = some (.int .i64 0)) ⟨rfl, (by simp only [put_size]; exact hsz), (by simp only [put_defers]; exact hdf), (pf1 (by decide) s_3), (pf1 (by decide) s_4), (pf1 (by decide) s_5), (put_get _ _ _ (by rw [hsz]; decide))⟩ ?_
  clear hsz hdf s_5 s_3 s_4
  rintro a _ ⟨rfl, hsz, hdf, s_3, s_4, s_5, s_6⟩
  refine ow_then ?_
  refine wp_block ?_
  refine ow_loop (fun N a W => ∃ (k : Nat), N = 2148 - k ∧ k ≤ 2148 ∧ a.tmps.size = 177 ∧ a.defers = [] ∧ a.tmps[3]? = some (.int .i64 F) ∧ a.tmps[4]? = some (.pointer (some ⟨q5, 0, none⟩)) ∧ a.tmps[5]? = some (.slice (some ⟨q9, 0, none⟩) 2148 2148) ∧ a.tmps[6]? = some (.int .i64 ((k : Nat) : Int)) ∧ Below w.heap.size w W ∧ RowAt W q1 [c0, .int .i64 N1, c2, .int .i64 N3] ∧ RowAt W q5 [.int .i64 F, .slice none 0 0] ∧ RowAt W q9 ((fillB k).map B8)) _ ⟨0, rfl, Nat.zero_le _, hsz, hdf, s_3, s_4, s_5, (by first | exact s_6 | (rw [s_6]; congr 2; first | rfl | omega | (push_cast; omega)) | (rw [s_6]; first | rfl | (simp; try omega))), hbW10, rW10_0, rW10_1, rW10_2⟩ ?_
  clear hsz hdf s_3 s_4 s_5 s_6
  rintro N a W13 ⟨k, rfl, hkl, hsz, hdf, s_3, s_4, s_5, s_6, hbW13, rW13_0, rW13_1, rW13_2⟩
  intro K15 hK15
  refine wp_seq ?_
  refine wp_seq ?_
  refine ow_region [_, _, _, _] rfl (by intro o ho; simp only [List.mem_cons, List.not_mem_nil, or_false] at ho; rcases ho with rfl | rfl | rfl | rfl <;> rfl) ?_
  refine ow_run 30 (.int .i64 ((k : Nat) : Int)) _ rfl (run_moveOp (eval_of s_6)) ?_
  refine ow_run 31 (.slice (some ⟨q9, 0, none⟩) 2148 2148) _ rfl (run_moveOp (eval_of (pf1 (by decide) s_5))) ?_
  refine ow_run 32 (.int .i64 2148) _ rfl (run_lenOp Try.underlying34 (eval_of (put_get _ _ _ (by simp only [put_size]; rw [hsz]; decide)))) ?_
  refine ow_run 33 (.bool (decide (((k : Nat) : Int) < 2148))) _ rfl (run_binOp (eval_of (pf2 (by decide) (put_get _ _ _ (by rw [hsz]; decide)))) (eval_of (put_get _ _ _ (by simp only [put_size]; rw [hsz]; decide))) (by simp [go_sem]) (lssIw _ _ _)) ?_
  refine fresh (C := fun x W => wpRun _ [] x W _) (fun x X => _ = X ∧ x.tmps.size = 177 ∧ x.defers = [] ∧ x.tmps[3]? = some (.int .i64 F) ∧ x.tmps[4]? = some (.pointer (some ⟨q5, 0, none⟩)) ∧ x.tmps[5]? = some (.slice (some ⟨q9, 0, none⟩) 2148 2148) ∧ x.tmps[6]? = some (.int .i64 ((k : Nat) : Int)) ∧ x.tmps[33]? = some (.bool (decide (((k : Nat) : Int) < 2148)))) ⟨rfl, (by simp only [put_size]; exact hsz), (by simp only [put_defers]; exact hdf), (pf4 (by decide) s_3), (pf4 (by decide) s_4), (pf4 (by decide) s_5), (pf4 (by decide) s_6), (put_get _ _ _ (by simp only [put_size]; rw [hsz]; decide))⟩ ?_
  clear hsz hdf s_3 s_4 s_5 s_6
  rintro a _ ⟨rfl, hsz, hdf, s_3, s_4, s_5, s_6, s_33⟩
  refine ow_then ?_
  rcases Bool.eq_false_or_eq_true ((decide (((k : Nat) : Int) < 2148))) with hb_17 | hb_17
  · skip
    refine ow_true (eval_of (flag_of s_33 hb_17)) ?_
    refine wp_skip ?_
    refine ow_then ?_
    refine wp_seq ?_
    refine wp_block ?_
    have hk2 : k < 2148 := by have h := hb_17; rw [decide_eq_true_eq] at h; omega
    refine ow_region [_, _, _, _, _, _] rfl (by intro o ho; simp only [List.mem_cons, List.not_mem_nil, or_false] at ho; rcases ho with rfl | rfl | rfl | rfl | rfl | rfl <;> rfl) ?_
    refine ow_run 36 (.slice (some ⟨q9, 0, none⟩) 2148 2148) _ rfl (run_moveOp (eval_of s_5)) ?_
    refine ow_run 37 (.int .i64 ((k : Nat) : Int)) _ rfl (run_moveOp (eval_of (pf1 (by decide) s_6))) ?_
    refine ow_run 38 (.int .i64 ((k : Nat) : Int)) _ rfl (run_moveOp (eval_of (pf2 (by decide) s_6))) ?_
    refine ow_run 39 (.int .u8 ((UInt8.ofNat k).toNat : Int)) _ rfl (run_convOp (eval_of (put_get _ _ _ (by simp only [put_size]; rw [hsz]; decide))) (cvB k _)) ?_
    refine ow_run 40 (.pointer (some ⟨q9, k, none⟩)) _ rfl (run_indexOp (eval_of (pf1 (by decide) (pf2 (by decide) (put_get _ _ _ (by rw [hsz]; decide))))) (eval_of (pf2 (by decide) (put_get _ _ _ (by simp only [put_size]; rw [hsz]; decide)))) (idxByteRow _ _ _ _ hk2 _)) ?_
    refine ow_skip _ rfl (run_storeOp (eval_of (put_get _ _ _ (by simp only [put_size]; rw [hsz]; decide))) (eval_of (pf1 (by decide) (put_get _ _ _ (by simp only [put_size]; rw [hsz]; decide)))) (run_store1 rW13_2 (by rw [List.length_map, fillB_len]; exact hk2) (by kernel_rfl) rfl)) ?_
    refine fresh (C := fun x W => wpRun _ _ x W _) (fun x X => _ = x ∧ Below w.heap.size w X ∧ RowAt X q1 [c0, .int .i64 N1, c2, .int .i64 N3] ∧ RowAt X q5 [.int .i64 F, .slice none 0 0] ∧ RowAt X q9 ((fillB (k + 1)).map B8)) ⟨rfl, (below_set1 hbW13 (by omega)), (rW13_0.other (by omega)), (rW13_1.other (by omega)), (row_fill rW13_2 hk2)⟩ ?_
    rintro _ W18 ⟨rfl, hbW18, rW18_0, rW18_1, rW18_2⟩
    refine fresh (C := fun x W => wpRun _ [] x W _) (fun x X => _ = X ∧ x.tmps.size = 177 ∧ x.defers = [] ∧ x.tmps[3]? = some (.int .i64 F) ∧ x.tmps[4]? = some (.pointer (some ⟨q5, 0, none⟩)) ∧ x.tmps[5]? = some (.slice (some ⟨q9, 0, none⟩) 2148 2148) ∧ x.tmps[6]? = some (.int .i64 ((k : Nat) : Int))) ⟨rfl, (by simp only [put_size]; exact hsz), (by simp only [put_defers]; exact hdf), (pf1 (by decide) (pf4 (by decide) s_3)), (pf1 (by decide) (pf4 (by decide) s_4)), (pf1 (by decide) (pf4 (by decide) s_5)), (pf1 (by decide) (pf4 (by decide) s_6))⟩ ?_
    clear hsz hdf s_33 s_3 s_4 s_5 s_6
    rintro a _ ⟨rfl, hsz, hdf, s_3, s_4, s_5, s_6⟩
    refine ow_blk _ ?_
    refine ow_then ?_
    refine ow_region [_, _, _] rfl (by intro o ho; simp only [List.mem_cons, List.not_mem_nil, or_false] at ho; rcases ho with rfl | rfl | rfl <;> rfl) ?_
    refine ow_run 34 (.int .i64 ((k : Nat) : Int)) _ rfl (run_moveOp (eval_of s_6)) ?_
    refine ow_run 35 (.int .i64 (((k + 1) : Nat) : Int)) _ rfl (run_binOp (eval_of (put_get _ _ _ (by rw [hsz]; decide))) (eval_cst _ _) (by simp [go_sem]) (addIw _ _ _ _ (by omega) (by omega) (by omega))) ?_
    refine ow_run 6 (.int .i64 (((k + 1) : Nat) : Int)) _ rfl (run_assignOp (eval_of (put_get _ _ _ (by simp only [put_size]; rw [hsz]; decide)))) ?_
    refine fresh (C := fun x W => wpRun _ [] x W _) (fun x X => _ = X ∧ x.tmps.size = 177 ∧ x.defers = [] ∧ x.tmps[3]? = some (.int .i64 F) ∧ x.tmps[4]? = some (.pointer (some ⟨q5, 0, none⟩)) ∧ x.tmps[5]? = some (.slice (some ⟨q9, 0, none⟩) 2148 2148) ∧ x.tmps[6]? = some (.int .i64 (((k + 1) : Nat) : Int))) ⟨rfl, (by simp only [put_size]; exact hsz), (by simp only [put_defers]; exact hdf), (pf1 (by decide) (pf2 (by decide) s_3)), (pf1 (by decide) (pf2 (by decide) s_4)), (pf1 (by decide) (pf2 (by decide) s_5)), (put_get _ _ _ (by simp only [put_size]; rw [hsz]; decide))⟩ ?_
    clear hsz hdf s_3 s_4 s_5 s_6
    rintro a _ ⟨rfl, hsz, hdf, s_3, s_4, s_5, s_6⟩
    exact ow_then (hK15 _ _ _ (by omega) ⟨(k + 1), rfl, hk2, hsz, hdf, s_3, s_4, s_5, (by first | exact s_6 | (rw [s_6]; congr 2; first | rfl | omega | (push_cast; omega)) | (rw [s_6]; first | rfl | (simp; try omega))), hbW18, rW18_0, rW18_1, rW18_2⟩)
  · skip
    refine ow_false (eval_of (flag_of s_33 hb_17)) ?_
    refine wp_exit ?_
    refine ow_then_exit ?_
    refine ow_then_exit ?_
    refine ow_blk_exit _ ?_
    refine ow_then ?_
    refine wp_seq ?_
    have hke : k = 2148 := by have h := hb_17; rw [decide_eq_false_iff_not] at h; omega
    have hbig := rW13_2
    rw [hke, fillB_all] at hbig
    refine ow_region [_, _, _, _, _, _, _, _, _, _, _, _] rfl (by intro o ho; simp only [List.mem_cons, List.not_mem_nil, or_false] at ho; rcases ho with rfl | rfl | rfl | rfl | rfl | rfl | rfl | rfl | rfl | rfl | rfl | rfl <;> rfl) ?_
    refine ow_run 42 (.agg #[.int .i64 F, .slice none 0 0]) _ rfl (run_loadOp (eval_of s_4) (run_loadN [.int .i64 F, .slice none 0 0] rW13_1 (fun j v hj => by simpa using hj) Try.underlying24 rfl (by kernel_rfl))) ?_
    refine ow_run 43 (.int .i64 F) _ rfl (run_moveOp (eval_of (pf1 (by decide) s_3))) ?_
    refine ow_run 44 (.slice (some ⟨q9, 0, none⟩) 2148 2148) _ rfl (run_moveOp (eval_of (pf2 (by decide) s_5))) ?_
    have hbs_x := hbW13
    have hwx_q1 : q1 < W13.heap.size := rW13_0.2.2
    have hwx_q5 : q5 < W13.heap.size := rW13_1.2.2
    have hwx_q9 : q9 < W13.heap.size := hbig.2.2
    refine ow_call 45 (fun v X => ∃ ax cx vtx PX, v = .tuple #[.agg #[.int .i64 (addv F 2048), .slice ax PX.length cx], vtx, .int .i64 0] ∧ PX.map Prod.fst = [] ∧ Below W13.heap.size W13 X ∧ DOwn KPart 58 X W13.heap.size (.slice ax PX.length cx) PX ∧ X.ownsRow W13.heap.size 5 1 vtx ((bigL.take 2048) : List UInt8).length (((bigL.take 2048) : List UInt8).map B8)) rfl _ _ (run_callOp Try.func20 rfl rfl (arr3 (eval_of (pf2 (by decide) (put_get _ _ _ (by rw [hsz]; decide)))) (eval_of (pf1 (by decide) (put_get _ _ _ (by simp only [put_size]; rw [hsz]; decide)))) (eval_of (put_get _ _ _ (by simp only [put_size]; rw [hsz]; decide))))) ((radd_good _ _ F F [] bigL W13 (KPart_nil W13) (sl_mid hbig 0 2148 2148 (by rw [bigL_len]; omega) (by omega) (by have : maxLen = 9223372036854775807 := rfl; omega)) (ok_nil hF hF (by rw [bigL_len]; decide))).mono fun e X ⟨v4, vt, PL, he, hP, ho, ht, _, hb⟩ => by obtain ⟨a4, c4, rfl⟩ := ho.slice; obtain ⟨e1, e2, e3⟩ := hadd1; rw [e1] at he; rw [e2] at hP; rw [e3] at ht; exact ⟨_, he, a4, c4, vt, PL, rfl, hP, hb, ho, ht⟩) ?_
    rintro _ V22 ⟨ax, cx, vtx, PX, rfl, hPx, hb21, hx, hxt⟩
    refine fresh (C := fun x W => wpRun _ _ x W _) (fun x X => _ = x ∧ Below w.heap.size w X ∧ RowAt X q1 [c0, .int .i64 N1, c2, .int .i64 N3] ∧ RowAt X q5 [.int .i64 F, .slice none 0 0] ∧ RowAt X q9 (bigL.map B8) ∧ DOwn KPart 58 X W13.heap.size (.slice ax PX.length cx) PX ∧ X.ownsRow W13.heap.size 5 1 vtx ((bigL.take 2048) : List UInt8).length (((bigL.take 2048) : List UInt8).map B8)) ⟨rfl, (hbW13.trans (hb21.mono hbW13.size)), (rW13_0.below hb21), (rW13_1.below hb21), (hbig.below hb21), hx, hxt⟩ ?_
    rintro _ W23 ⟨rfl, hbW23, rW23_0, rW23_1, rW23_2, fW23_0, fW23_1⟩
    refine ow_run 41 (.tuple #[.agg #[.int .i64 (addv F 2048), .slice ax PX.length cx], vtx, .int .i64 0]) _ rfl (run_moveOp (eval_of (put_get _ _ _ (by simp only [put_size]; rw [hsz]; decide)))) ?_
    refine ow_run 46 (.agg #[.int .i64 (addv F 2048), .slice ax PX.length cx]) _ rfl (run_extractOp (eval_of (put_get _ _ _ (by simp only [put_size]; rw [hsz]; decide))) rfl) ?_
    refine ow_run 47 (vtx) _ rfl (run_extractOp (eval_of (pf1 (by decide) (put_get _ _ _ (by simp only [put_size]; rw [hsz]; decide)))) rfl) ?_
    refine ow_run 48 (.int .i64 0) _ rfl (run_extractOp (eval_of (pf2 (by decide) (put_get _ _ _ (by simp only [put_size]; rw [hsz]; decide)))) rfl) ?_
    obtain ⟨q24, hq24⟩ : ∃ x, x = W23.heap.size := ⟨_, rfl⟩
    refine ow_run 7 (.pointer (some ⟨q24, 0, none⟩)) (W23.alloc (.cells #[.int .i64 0, .slice none 0 0] 24)) rfl (by rw [hq24]; exact (run_allocOp (by simp [go_sem, Instr.alloc]))) ?_
    have hqq24 : w.heap.size ≤ q24 := by rw [hq24]; exact hbW23.size
    have hyq24_x : ∀ k, DBlk (.slice ax PX.length cx) PX k → k < q24 := fun k hk => by have := (dblk_lt fW23_0 hk).2; omega
    have hyq24_xt : ∀ k, (vtx : Value).ownBlock = some k → k < q24 := fun k hk => by have := (blk_lt fW23_1 hk).2; omega
    have hnq24_q1 : q1 < q24 := by rw [hq24]; exact rW23_0.2.2
    have hnq24_q5 : q5 < q24 := by rw [hq24]; exact rW23_1.2.2
    have hnq24_q9 : q9 < q24 := by rw [hq24]; exact rW23_2.2.2
    refine fresh (C := fun x W => wpRun _ _ x W _) (fun x X => _ = x ∧ Below w.heap.size w X ∧ RowAt X q1 [c0, .int .i64 N1, c2, .int .i64 N3] ∧ RowAt X q5 [.int .i64 F, .slice none 0 0] ∧ RowAt X q9 (bigL.map B8) ∧ RowAt X q24 [.int .i64 0, .slice none 0 0] ∧ DOwn KPart 58 X W13.heap.size (.slice ax PX.length cx) PX ∧ X.ownsRow W13.heap.size 5 1 vtx ((bigL.take 2048) : List UInt8).length (((bigL.take 2048) : List UInt8).map B8)) ⟨rfl, (hbW23.alloc hbW23.size _), (rW23_0.below ((Below.refl _ W23).alloc (Nat.le_refl _) _)), (rW23_1.below ((Below.refl _ W23).alloc (Nat.le_refl _) _)), (rW23_2.below ((Below.refl _ W23).alloc (Nat.le_refl _) _)), (by rw [hq24]; exact rowAt_alloc _ [.int .i64 0, .slice none 0 0] _), (fW23_0.below ((Below.refl _ W23).alloc (Nat.le_refl _) _)), (below_own fW23_1 ((Below.refl _ W23).alloc (Nat.le_refl _) _))⟩ ?_
    rintro _ W25 ⟨rfl, hbW25, rW25_0, rW25_1, rW25_2, rW25_3, fW25_0, fW25_1⟩
    clear hq24
    refine ow_skip _ rfl (run_storeOp (eval_of (put_get _ _ _ (by simp only [put_size]; rw [hsz]; decide))) (eval_of (pf1 (by decide) (pf2 (by decide) (put_get _ _ _ (by simp only [put_size]; rw [hsz]; decide))))) (run_storeN (xs := [.int .i64 (addv F 2048), .slice ax PX.length cx]) rW25_3 (by simp) (by kernel_rfl) rfl)) ?_
    refine fresh (C := fun x W => wpRun _ _ x W _) (fun x X => _ = x ∧ Below w.heap.size w X ∧ RowAt X q1 [c0, .int .i64 N1, c2, .int .i64 N3] ∧ RowAt X q5 [.int .i64 F, .slice none 0 0] ∧ RowAt X q9 (bigL.map B8) ∧ RowAt X q24 [.int .i64 (addv F 2048), .slice ax PX.length cx] ∧ DOwn KPart 58 X W13.heap.size (.slice ax PX.length cx) PX ∧ X.ownsRow W13.heap.size 5 1 vtx ((bigL.take 2048) : List UInt8).length (((bigL.take 2048) : List UInt8).map B8)) ⟨rfl, (below_sets (by omega) _ _ _ hbW25), (RowAt.sets_other _ _ _ rW25_0 (by omega)), (RowAt.sets_other _ _ _ rW25_1 (by omega)), (RowAt.sets_other _ _ _ rW25_2 (by omega)), (RowAt.sets [.int .i64 (addv F 2048), .slice ax PX.length cx] 0 _ _ rW25_3 (by simp)), (down_setlt hyq24_x (down_setlt hyq24_x fW25_0)), (own_setlt hyq24_xt (own_setlt hyq24_xt fW25_1))⟩ ?_
    rintro _ W26 ⟨rfl, hbW26, rW26_0, rW26_1, rW26_2, rW26_3, fW26_0, fW26_1⟩
    refine ow_run 8 (vtx) _ rfl (run_assignOp (eval_of (pf2 (by decide) (put_get _ _ _ (by simp only [put_size]; rw [hsz]; decide))))) ?_
    refine ow_run 9 (.int .i64 0) _ rfl (run_assignOp (eval_of (pf2 (by decide) (put_get _ _ _ (by simp only [put_size]; rw [hsz]; decide))))) ?_
    refine fresh (C := fun x W => wpRun _ [] x W _) (fun x X => _ = X ∧ x.tmps.size = 177 ∧ x.defers = [] ∧ x.tmps[3]? = some (.int .i64 F) ∧ x.tmps[4]? = some (.pointer (some ⟨q5, 0, none⟩)) ∧ x.tmps[5]? = some (.slice (some ⟨q9, 0, none⟩) 2148 2148) ∧ x.tmps[7]? = some (.pointer (some ⟨q24, 0, none⟩)) ∧ x.tmps[8]? = some (vtx) ∧ x.tmps[9]? = some (.int .i64 0)) ⟨rfl, (by simp only [put_size]; exact hsz), (by simp only [put_defers]; exact hdf), (pf1 (by decide) (pf2 (by decide) (pf8 (by decide) s_3))), (pf1 (by decide) (pf2 (by decide) (pf8 (by decide) s_4))), (pf1 (by decide) (pf2 (by decide) (pf8 (by decide) s_5))), (pf2 (by decide) (put_get _ _ _ (by simp only [put_size]; rw [hsz]; decide))), (pf1 (by decide) (put_get _ _ _ (by simp only [put_size]; rw [hsz]; decide))), (put_get _ _ _ (by simp only [put_size]; rw [hsz]; decide))⟩ ?_
    clear hsz hdf s_33 s_3 s_4 s_5 s_6
    rintro a _ ⟨rfl, hsz, hdf, s_3, s_4, s_5, s_7, s_8, s_9⟩
    refine ow_then ?_
    refine wp_mid (fun a W => ∃ (qy : Nat) (ay : Option Addr) (cy : Nat) (vty : Value) (PY : List (EP × Value)), PY.map Prod.fst = [] ∧ q1 < qy ∧ q5 < qy ∧ q9 < qy ∧ q24 < qy ∧ a.tmps.size = 177 ∧ a.defers = [] ∧ a.tmps[3]? = some (.int .i64 F) ∧ a.tmps[4]? = some (.pointer (some ⟨q5, 0, none⟩)) ∧ a.tmps[5]? = some (.slice (some ⟨q9, 0, none⟩) 2148 2148) ∧ a.tmps[7]? = some (.pointer (some ⟨q24, 0, none⟩)) ∧ a.tmps[8]? = some (vtx) ∧ a.tmps[9]? = some (.int .i64 0) ∧ a.tmps[10]? = some (.pointer (some ⟨qy, 0, none⟩)) ∧ a.tmps[11]? = some (vty) ∧ a.tmps[12]? = some (.int .i64 0) ∧ Below w.heap.size w W ∧ RowAt W q1 [c0, .int .i64 N1, c2, .int .i64 N3] ∧ RowAt W q5 [.int .i64 F, .slice none 0 0] ∧ RowAt W q9 (bigL.map B8) ∧ RowAt W q24 [.int .i64 (addv F 2048), .slice ax PX.length cx] ∧ RowAt W qy [.int .i64 (addv F 2048), .slice ay PY.length cy] ∧ DOwn KPart 58 W W13.heap.size (.slice ax PX.length cx) PX ∧ W.ownsRow W13.heap.size 5 1 vtx ((bigL.take 2048) : List UInt8).length (((bigL.take 2048) : List UInt8).map B8) ∧ DOwn KPart 58 W w.heap.size (.slice ay PY.length cy) PY ∧ W.ownsRow w.heap.size 5 1 vty (((bigL.drop 100).take 2048) : List UInt8).length ((((bigL.drop 100).take 2048) : List UInt8).map B8)) (fun K28 hK28 => ?_) ?_
    · skip
      refine ah_region (fun W => Below w.heap.size w W ∧ RowAt W q1 [c0, .int .i64 N1, c2, .int .i64 N3] ∧ RowAt W q5 [.int .i64 F, .slice none 0 0] ∧ RowAt W q9 (bigL.map B8) ∧ RowAt W q24 [.int .i64 (addv F 2048), .slice ax PX.length cx] ∧ DOwn KPart 58 W W13.heap.size (.slice ax PX.length cx) PX ∧ W.ownsRow W13.heap.size 5 1 vtx ((bigL.take 2048) : List UInt8).length (((bigL.take 2048) : List UInt8).map B8)) (by kernel_rfl) 13 rfl ?_
      refine fresh (C := fun x W => AH _ _ _ _ _ _ x W) (fun x X => _ = x ∧ Below w.heap.size w X ∧ RowAt X q1 [c0, .int .i64 N1, c2, .int .i64 N3] ∧ RowAt X q5 [.int .i64 F, .slice none 0 0] ∧ RowAt X q9 (bigL.map B8) ∧ RowAt X q24 [.int .i64 (addv F 2048), .slice ax PX.length cx] ∧ DOwn KPart 58 X W13.heap.size (.slice ax PX.length cx) PX ∧ X.ownsRow W13.heap.size 5 1 vtx ((bigL.take 2048) : List UInt8).length (((bigL.take 2048) : List UInt8).map B8)) ⟨rfl, (hbW26.trans (((Below.refl _ W26).drew).mono hbW26.size)), (rW26_0.below ((Below.refl _ W26).drew)), (rW26_1.below ((Below.refl _ W26).drew)), (rW26_2.below ((Below.refl _ W26).drew)), (rW26_3.below ((Below.refl _ W26).drew)), (fW26_0.below ((Below.refl _ W26).drew)), (below_own fW26_1 ((Below.refl _ W26).drew))⟩ ?_
      rintro _ W29 ⟨rfl, hbW29, rW29_0, rW29_1, rW29_2, rW29_3, fW29_0, fW29_1⟩
      refine ah_takeW 0 50 (.agg #[.int .i64 F, .slice none 0 0]) rfl (wanted_none rfl) rfl (by kernel_rfl) (by kernel_rfl) (by kernel_rfl) (fun _ _ _ h => h) ⟨hbW29, rW29_0, rW29_1, rW29_2, rW29_3, fW29_0, fW29_1⟩ (fun W hW => by (try obtain ⟨hbW29, rW29_0, rW29_1, rW29_2, rW29_3, fW29_0, fW29_1⟩ := hW); exact (run_loadOp (eval_of s_4) (run_loadN [.int .i64 F, .slice none 0 0] rW29_1 (fun j v hj => by simpa using hj) Try.underlying24 rfl (by kernel_rfl)))) ?_
      refine ah_takeW 1 51 (.int .i64 F) rfl (wanted_none rfl) rfl (by kernel_rfl) (by kernel_rfl) (by kernel_rfl) (fun _ _ _ h => h) ⟨hbW29, rW29_0, rW29_1, rW29_2, rW29_3, fW29_0, fW29_1⟩ (fun W hW => by (try obtain ⟨hbW29, rW29_0, rW29_1, rW29_2, rW29_3, fW29_0, fW29_1⟩ := hW); exact (run_moveOp (eval_of (pf1 (by decide) s_3)))) ?_
      refine ah_takeW 3 53 (.slice (some ⟨q9, 0, none⟩) 2148 2148) rfl (wanted_none rfl) rfl (by kernel_rfl) (by kernel_rfl) (by kernel_rfl) (fun _ _ _ h => h) ⟨hbW29, rW29_0, rW29_1, rW29_2, rW29_3, fW29_0, fW29_1⟩ (fun W hW => by (try obtain ⟨hbW29, rW29_0, rW29_1, rW29_2, rW29_3, fW29_0, fW29_1⟩ := hW); exact (run_moveOp (eval_of (pf2 (by decide) s_5)))) ?_
      refine ah_two 2 9 (by kernel_rfl) ?_ ?_
      · skip
        refine ao_call rfl (wanted_none rfl) 52 (fun v X => v = (.int .i64 (addv F (-100))) ∧ W29 = X) rfl _ _ (run_callOp Try.func18 rfl rfl (arr2 (eval_of (pf1 (by decide) (put_get _ _ _ (by simp only [put_size]; rw [hsz]; decide)))) (eval_cst _ _))) ((radd12_any F (-100) W29).mono fun e X h => ⟨_, h.1, rfl, h.2⟩) ?_
        rintro _ _ ⟨rfl, rfl⟩
        refine ⟨⟨hbW29, rW29_0, rW29_1, rW29_2, rW29_3, fW29_0, fW29_1⟩, ?_⟩
        refine ah_two 4 9 (by kernel_rfl) ?_ ?_
        · skip
          have hbs_y := hbW29
          have hwy_q1 : q1 < W29.heap.size := rW29_0.2.2
          have hwy_q5 : q5 < W29.heap.size := rW29_1.2.2
          have hwy_q9 : q9 < W29.heap.size := rW29_2.2.2
          have hwy_q24 : q24 < W29.heap.size := rW29_3.2.2
          refine ao_call rfl (wanted_none rfl) 54 (fun v X => ∃ ay cy vty PY, v = .tuple #[.agg #[.int .i64 (addv F 2048), .slice ay PY.length cy], vty, .int .i64 0] ∧ PY.map Prod.fst = [] ∧ Below W29.heap.size W29 X ∧ DOwn KPart 58 X W29.heap.size (.slice ay PY.length cy) PY ∧ X.ownsRow W29.heap.size 5 1 vty (((bigL.drop 100).take 2048) : List UInt8).length ((((bigL.drop 100).take 2048) : List UInt8).map B8)) rfl _ _ (run_callOp Try.func20 rfl rfl (arr3 (eval_of (pf1 (by decide) (pf2 (by decide) (put_get _ _ _ (by rw [hsz]; decide))))) (eval_of (put_get _ _ _ (by simp only [put_size]; rw [hsz]; decide))) (eval_of (pf1 (by decide) (put_get _ _ _ (by simp only [put_size]; rw [hsz]; decide)))))) ((radd_good _ _ F (addv F (-100)) [] bigL W29 (KPart_nil W29) (sl_mid rW29_2 0 2148 2148 (by rw [bigL_len]; omega) (by omega) (by have : maxLen = 9223372036854775807 := rfl; omega)) (ok_nil hF (addv_bd _ _) (by rw [bigL_len]; decide))).mono fun e X ⟨v4, vt, PL, he, hP, ho, ht, _, hb⟩ => by obtain ⟨a4, c4, rfl⟩ := ho.slice; obtain ⟨e1, e2, e3⟩ := hadd2; rw [e1] at he; rw [e2] at hP; rw [e3] at ht; exact ⟨_, he, a4, c4, vt, PL, rfl, hP, hb, ho, ht⟩) ?_
          rintro _ V31 ⟨ay, cy, vty, PY, rfl, hPy, hb30, hy, hyt⟩
          have hbN := (hbW29.trans (hb30.mono hbW29.size))
          have hbN32 := hbN
          have rN33 := (rW29_0.below hb30)
          have rN34 := (rW29_1.below hb30)
          have rN35 := (rW29_2.below hb30)
          have rN36 := (rW29_3.below hb30)
          have fN37 := (fW29_0.below hb30)
          have fN38 := (below_own fW29_1 hb30)
          refine ⟨⟨hbN32, rN33, rN34, rN35, rN36, fN37, fN38⟩, ?_⟩
          refine ah_takeW 5 49 (.tuple #[.agg #[.int .i64 (addv F 2048), .slice ay PY.length cy], vty, .int .i64 0]) rfl (wanted_none rfl) rfl (by kernel_rfl) (by kernel_rfl) (by kernel_rfl) (fun _ _ _ h => h) ⟨hbN32, rN33, rN34, rN35, rN36, fN37, fN38⟩ (fun W hW => by (try obtain ⟨hbN32, rN33, rN34, rN35, rN36, fN37, fN38⟩ := hW); exact (run_moveOp (eval_of (put_get _ _ _ (by simp only [put_size]; rw [hsz]; decide))))) ?_
          refine ah_takeW 6 55 (.agg #[.int .i64 (addv F 2048), .slice ay PY.length cy]) rfl (wanted_none rfl) rfl (by kernel_rfl) (by kernel_rfl) (by kernel_rfl) (fun _ _ _ h => h) ⟨hbN32, rN33, rN34, rN35, rN36, fN37, fN38⟩ (fun W hW => by (try obtain ⟨hbN32, rN33, rN34, rN35, rN36, fN37, fN38⟩ := hW); exact (run_extractOp (eval_of (put_get _ _ _ (by simp only [put_size]; rw [hsz]; decide))) rfl)) ?_
          refine ah_takeW 7 56 (vty) rfl (wanted_none rfl) rfl (by kernel_rfl) (by kernel_rfl) (by kernel_rfl) (fun _ _ _ h => h) ⟨hbN32, rN33, rN34, rN35, rN36, fN37, fN38⟩ (fun W hW => by (try obtain ⟨hbN32, rN33, rN34, rN35, rN36, fN37, fN38⟩ := hW); exact (run_extractOp (eval_of (pf1 (by decide) (put_get _ _ _ (by simp only [put_size]; rw [hsz]; decide)))) rfl)) ?_
          refine ah_takeW 8 57 (.int .i64 0) rfl (wanted_none rfl) rfl (by kernel_rfl) (by kernel_rfl) (by kernel_rfl) (fun _ _ _ h => h) ⟨hbN32, rN33, rN34, rN35, rN36, fN37, fN38⟩ (fun W hW => by (try obtain ⟨hbN32, rN33, rN34, rN35, rN36, fN37, fN38⟩ := hW); exact (run_extractOp (eval_of (pf2 (by decide) (put_get _ _ _ (by simp only [put_size]; rw [hsz]; decide)))) rfl)) ?_
          refine ah_one 9 (by kernel_rfl) ?_
          obtain ⟨q39, hq39⟩ : ∃ x, x = V31.heap.size := ⟨_, rfl⟩
          refine ao_run rfl (wanted_none rfl) 10 (.pointer (some ⟨q39, 0, none⟩)) (V31.alloc (.cells #[.int .i64 0, .slice none 0 0] 24)) rfl (by rw [hq39]; exact (run_allocOp (by simp [go_sem, Instr.alloc]))) ⟨(hbN32.alloc hbN32.size _), (rN33.below ((Below.refl _ V31).alloc (Nat.le_refl _) _)), (rN34.below ((Below.refl _ V31).alloc (Nat.le_refl _) _)), (rN35.below ((Below.refl _ V31).alloc (Nat.le_refl _) _)), (rN36.below ((Below.refl _ V31).alloc (Nat.le_refl _) _)), (fN37.below ((Below.refl _ V31).alloc (Nat.le_refl _) _)), (below_own fN38 ((Below.refl _ V31).alloc (Nat.le_refl _) _))⟩ ?_
          have hqq39 : w.heap.size ≤ q39 := by rw [hq39]; exact hbN32.size
          have hyq39_x : ∀ k, DBlk (.slice ax PX.length cx) PX k → k < q39 := fun k hk => by have := (dblk_lt fN37 hk).2; omega
          have hyq39_xt : ∀ k, (vtx : Value).ownBlock = some k → k < q39 := fun k hk => by have := (blk_lt fN38 hk).2; omega
          have hyq39_y : ∀ k, DBlk (.slice ay PY.length cy) PY k → k < q39 := fun k hk => by have := (dblk_lt hy hk).2; omega
          have hyq39_yt : ∀ k, (vty : Value).ownBlock = some k → k < q39 := fun k hk => by have := (blk_lt hyt hk).2; omega
          have hnq39_q1 : q1 < q39 := by rw [hq39]; exact rN33.2.2
          have hnq39_q5 : q5 < q39 := by rw [hq39]; exact rN34.2.2
          have hnq39_q9 : q9 < q39 := by rw [hq39]; exact rN35.2.2
          have hnq39_q24 : q24 < q39 := by rw [hq39]; exact rN36.2.2
          refine fresh (C := fun x W => AH _ _ _ _ _ _ x W) (fun x X => _ = x ∧ Below w.heap.size w X ∧ RowAt X q1 [c0, .int .i64 N1, c2, .int .i64 N3] ∧ RowAt X q5 [.int .i64 F, .slice none 0 0] ∧ RowAt X q9 (bigL.map B8) ∧ RowAt X q24 [.int .i64 (addv F 2048), .slice ax PX.length cx] ∧ RowAt X q39 [.int .i64 0, .slice none 0 0] ∧ DOwn KPart 58 X W13.heap.size (.slice ax PX.length cx) PX ∧ X.ownsRow W13.heap.size 5 1 vtx ((bigL.take 2048) : List UInt8).length (((bigL.take 2048) : List UInt8).map B8) ∧ DOwn KPart 58 X W29.heap.size (.slice ay PY.length cy) PY ∧ X.ownsRow W29.heap.size 5 1 vty (((bigL.drop 100).take 2048) : List UInt8).length ((((bigL.drop 100).take 2048) : List UInt8).map B8)) ⟨rfl, (hbN32.alloc hbN32.size _), (rN33.below ((Below.refl _ V31).alloc (Nat.le_refl _) _)), (rN34.below ((Below.refl _ V31).alloc (Nat.le_refl _) _)), (rN35.below ((Below.refl _ V31).alloc (Nat.le_refl _) _)), (rN36.below ((Below.refl _ V31).alloc (Nat.le_refl _) _)), (by rw [hq39]; exact rowAt_alloc _ [.int .i64 0, .slice none 0 0] _), (fN37.below ((Below.refl _ V31).alloc (Nat.le_refl _) _)), (below_own fN38 ((Below.refl _ V31).alloc (Nat.le_refl _) _)), (hy.below ((Below.refl _ V31).alloc (Nat.le_refl _) _)), (below_own hyt ((Below.refl _ V31).alloc (Nat.le_refl _) _))⟩ ?_
          rintro _ W40 ⟨rfl, hbW40, rW40_0, rW40_1, rW40_2, rW40_3, rW40_4, fW40_0, fW40_1, fW40_2, fW40_3⟩
          clear hq39
          refine ah_one 10 (by kernel_rfl) ?_
          refine ao_skip rfl (wanted_none rfl) rfl _ (run_storeOp (eval_of (put_get _ _ _ (by simp only [put_size]; rw [hsz]; decide))) (eval_of (pf1 (by decide) (pf2 (by decide) (put_get _ _ _ (by simp only [put_size]; rw [hsz]; decide))))) (run_storeN (xs := [.int .i64 (addv F 2048), .slice ay PY.length cy]) rW40_4 (by simp) (by kernel_rfl) rfl)) ⟨(below_sets (by omega) _ _ _ hbW40), (RowAt.sets_other _ _ _ rW40_0 (by omega)), (RowAt.sets_other _ _ _ rW40_1 (by omega)), (RowAt.sets_other _ _ _ rW40_2 (by omega)), (RowAt.sets_other _ _ _ rW40_3 (by omega)), (down_setlt hyq39_x (down_setlt hyq39_x fW40_0)), (own_setlt hyq39_xt (own_setlt hyq39_xt fW40_1))⟩ ?_
          refine fresh (C := fun x W => AH _ _ _ _ _ _ x W) (fun x X => _ = x ∧ Below w.heap.size w X ∧ RowAt X q1 [c0, .int .i64 N1, c2, .int .i64 N3] ∧ RowAt X q5 [.int .i64 F, .slice none 0 0] ∧ RowAt X q9 (bigL.map B8) ∧ RowAt X q24 [.int .i64 (addv F 2048), .slice ax PX.length cx] ∧ RowAt X q39 [.int .i64 (addv F 2048), .slice ay PY.length cy] ∧ DOwn KPart 58 X W13.heap.size (.slice ax PX.length cx) PX ∧ X.ownsRow W13.heap.size 5 1 vtx ((bigL.take 2048) : List UInt8).length (((bigL.take 2048) : List UInt8).map B8) ∧ DOwn KPart 58 X W29.heap.size (.slice ay PY.length cy) PY ∧ X.ownsRow W29.heap.size 5 1 vty (((bigL.drop 100).take 2048) : List UInt8).length ((((bigL.drop 100).take 2048) : List UInt8).map B8)) ⟨rfl, (below_sets (by omega) _ _ _ hbW40), (RowAt.sets_other _ _ _ rW40_0 (by omega)), (RowAt.sets_other _ _ _ rW40_1 (by omega)), (RowAt.sets_other _ _ _ rW40_2 (by omega)), (RowAt.sets_other _ _ _ rW40_3 (by omega)), (RowAt.sets [.int .i64 (addv F 2048), .slice ay PY.length cy] 0 _ _ rW40_4 (by simp)), (down_setlt hyq39_x (down_setlt hyq39_x fW40_0)), (own_setlt hyq39_xt (own_setlt hyq39_xt fW40_1)), (down_setlt hyq39_y (down_setlt hyq39_y fW40_2)), (own_setlt hyq39_yt (own_setlt hyq39_yt fW40_3))⟩ ?_
          rintro _ W41 ⟨rfl, hbW41, rW41_0, rW41_1, rW41_2, rW41_3, rW41_4, fW41_0, fW41_1, fW41_2, fW41_3⟩
          refine ah_takeW 11 11 (vty) rfl (wanted_none rfl) rfl (by kernel_rfl) (by kernel_rfl) (by kernel_rfl) (fun _ _ _ h => h) ⟨hbW41, rW41_0, rW41_1, rW41_2, rW41_3, fW41_0, fW41_1⟩ (fun W hW => by (try obtain ⟨hbW41, rW41_0, rW41_1, rW41_2, rW41_3, fW41_0, fW41_1⟩ := hW); exact (run_assignOp (eval_of (pf2 (by decide) (put_get _ _ _ (by simp only [put_size]; rw [hsz]; decide)))))) ?_
          refine ah_takeW 12 12 (.int .i64 0) rfl (wanted_none rfl) rfl (by kernel_rfl) (by kernel_rfl) (by kernel_rfl) (fun _ _ _ h => h) ⟨hbW41, rW41_0, rW41_1, rW41_2, rW41_3, fW41_0, fW41_1⟩ (fun W hW => by (try obtain ⟨hbW41, rW41_0, rW41_1, rW41_2, rW41_3, fW41_0, fW41_1⟩ := hW); exact (run_assignOp (eval_of (pf2 (by decide) (put_get _ _ _ (by simp only [put_size]; rw [hsz]; decide)))))) ?_
          refine fresh (C := fun x W => AH _ _ _ _ _ _ x W) (fun x X => _ = X ∧ x.tmps.size = 177 ∧ x.defers = [] ∧ x.tmps[3]? = some (.int .i64 F) ∧ x.tmps[4]? = some (.pointer (some ⟨q5, 0, none⟩)) ∧ x.tmps[5]? = some (.slice (some ⟨q9, 0, none⟩) 2148 2148) ∧ x.tmps[7]? = some (.pointer (some ⟨q24, 0, none⟩)) ∧ x.tmps[8]? = some (vtx) ∧ x.tmps[9]? = some (.int .i64 0) ∧ x.tmps[10]? = some (.pointer (some ⟨q39, 0, none⟩)) ∧ x.tmps[11]? = some (vty) ∧ x.tmps[12]? = some (.int .i64 0)) ⟨rfl, (by simp only [put_size]; exact hsz), (by simp only [put_defers]; exact hdf), (pf4 (by decide) (pf8 (by decide) s_3)), (pf4 (by decide) (pf8 (by decide) s_4)), (pf4 (by decide) (pf8 (by decide) s_5)), (pf4 (by decide) (pf8 (by decide) s_7)), (pf4 (by decide) (pf8 (by decide) s_8)), (pf4 (by decide) (pf8 (by decide) s_9)), (pf2 (by decide) (put_get _ _ _ (by simp only [put_size]; rw [hsz]; decide))), (pf1 (by decide) (put_get _ _ _ (by simp only [put_size]; rw [hsz]; decide))), (put_get _ _ _ (by simp only [put_size]; rw [hsz]; decide))⟩ ?_
          clear hsz hdf s_3 s_4 s_5 s_7 s_8 s_9
          rintro a _ ⟨rfl, hsz, hdf, s_3, s_4, s_5, s_7, s_8, s_9, s_10, s_11, s_12⟩
          refine ah_done (by kernel_rfl) ?_
          have hws : w.heap.size ≤ W29.heap.size := hbs_y.size
          exact ow_then (hK28 _ _ ⟨q39, ay, cy, vty, PY, hPy, by omega, by omega, by omega, by omega, hsz, hdf, s_3, s_4, s_5, s_7, s_8, s_9, (by first | exact s_10 | (rw [s_10]; congr 2; first | rfl | omega | (push_cast; omega)) | (rw [s_10]; first | rfl | (simp; try omega))), s_11, s_12, hbW41, rW41_0, rW41_1, rW41_2, rW41_3, rW41_4, fW41_0, fW41_1, (DOwn.mono fW41_2 hws), (own_mono fW41_3 hws)⟩)
        · skip
          obtain ⟨q43, hq43⟩ : ∃ x, x = W29.heap.size := ⟨_, rfl⟩
          refine ao_run rfl (wanted_none rfl) 10 (.pointer (some ⟨q43, 0, none⟩)) (W29.alloc (.cells #[.int .i64 0, .slice none 0 0] 24)) rfl (by rw [hq43]; exact (run_allocOp (by simp [go_sem, Instr.alloc]))) ⟨(hbW29.alloc hbW29.size _), (rW29_0.below ((Below.refl _ W29).alloc (Nat.le_refl _) _)), (rW29_1.below ((Below.refl _ W29).alloc (Nat.le_refl _) _)), (rW29_2.below ((Below.refl _ W29).alloc (Nat.le_refl _) _)), (rW29_3.below ((Below.refl _ W29).alloc (Nat.le_refl _) _)), (fW29_0.below ((Below.refl _ W29).alloc (Nat.le_refl _) _)), (below_own fW29_1 ((Below.refl _ W29).alloc (Nat.le_refl _) _))⟩ ?_
          have hqq43 : w.heap.size ≤ q43 := by rw [hq43]; exact hbW29.size
          have hyq43_x : ∀ k, DBlk (.slice ax PX.length cx) PX k → k < q43 := fun k hk => by have := (dblk_lt fW29_0 hk).2; omega
          have hyq43_xt : ∀ k, (vtx : Value).ownBlock = some k → k < q43 := fun k hk => by have := (blk_lt fW29_1 hk).2; omega
          have hnq43_q1 : q1 < q43 := by rw [hq43]; exact rW29_0.2.2
          have hnq43_q5 : q5 < q43 := by rw [hq43]; exact rW29_1.2.2
          have hnq43_q9 : q9 < q43 := by rw [hq43]; exact rW29_2.2.2
          have hnq43_q24 : q24 < q43 := by rw [hq43]; exact rW29_3.2.2
          refine fresh (C := fun x W => AH _ _ _ _ _ _ x W) (fun x X => _ = x ∧ Below w.heap.size w X ∧ RowAt X q1 [c0, .int .i64 N1, c2, .int .i64 N3] ∧ RowAt X q5 [.int .i64 F, .slice none 0 0] ∧ RowAt X q9 (bigL.map B8) ∧ RowAt X q24 [.int .i64 (addv F 2048), .slice ax PX.length cx] ∧ RowAt X q43 [.int .i64 0, .slice none 0 0] ∧ DOwn KPart 58 X W13.heap.size (.slice ax PX.length cx) PX ∧ X.ownsRow W13.heap.size 5 1 vtx ((bigL.take 2048) : List UInt8).length (((bigL.take 2048) : List UInt8).map B8)) ⟨rfl, (hbW29.alloc hbW29.size _), (rW29_0.below ((Below.refl _ W29).alloc (Nat.le_refl _) _)), (rW29_1.below ((Below.refl _ W29).alloc (Nat.le_refl _) _)), (rW29_2.below ((Below.refl _ W29).alloc (Nat.le_refl _) _)), (rW29_3.below ((Below.refl _ W29).alloc (Nat.le_refl _) _)), (by rw [hq43]; exact rowAt_alloc _ [.int .i64 0, .slice none 0 0] _), (fW29_0.below ((Below.refl _ W29).alloc (Nat.le_refl _) _)), (below_own fW29_1 ((Below.refl _ W29).alloc (Nat.le_refl _) _))⟩ ?_
          rintro _ W44 ⟨rfl, hbW44, rW44_0, rW44_1, rW44_2, rW44_3, rW44_4, fW44_0, fW44_1⟩
          clear hq43
          refine ah_one 4 (by kernel_rfl) ?_
          have hbs_y := hbW44
          have hwy_q1 : q1 < W44.heap.size := rW44_0.2.2
          have hwy_q5 : q5 < W44.heap.size := rW44_1.2.2
          have hwy_q9 : q9 < W44.heap.size := rW44_2.2.2
          have hwy_q24 : q24 < W44.heap.size := rW44_3.2.2
          have hwy_q43 : q43 < W44.heap.size := rW44_4.2.2
          refine ao_call rfl (wanted_none rfl) 54 (fun v X => ∃ ay cy vty PY, v = .tuple #[.agg #[.int .i64 (addv F 2048), .slice ay PY.length cy], vty, .int .i64 0] ∧ PY.map Prod.fst = [] ∧ Below W44.heap.size W44 X ∧ DOwn KPart 58 X W44.heap.size (.slice ay PY.length cy) PY ∧ X.ownsRow W44.heap.size 5 1 vty (((bigL.drop 100).take 2048) : List UInt8).length ((((bigL.drop 100).take 2048) : List UInt8).map B8)) rfl _ _ (run_callOp Try.func20 rfl rfl (arr3 (eval_of (pf4 (by decide) (put_get _ _ _ (by rw [hsz]; decide)))) (eval_of (pf1 (by decide) (put_get _ _ _ (by simp only [put_size]; rw [hsz]; decide)))) (eval_of (pf2 (by decide) (put_get _ _ _ (by simp only [put_size]; rw [hsz]; decide)))))) ((radd_good _ _ F (addv F (-100)) [] bigL W44 (KPart_nil W44) (sl_mid rW44_2 0 2148 2148 (by rw [bigL_len]; omega) (by omega) (by have : maxLen = 9223372036854775807 := rfl; omega)) (ok_nil hF (addv_bd _ _) (by rw [bigL_len]; decide))).mono fun e X ⟨v4, vt, PL, he, hP, ho, ht, _, hb⟩ => by obtain ⟨a4, c4, rfl⟩ := ho.slice; obtain ⟨e1, e2, e3⟩ := hadd2; rw [e1] at he; rw [e2] at hP; rw [e3] at ht; exact ⟨_, he, a4, c4, vt, PL, rfl, hP, hb, ho, ht⟩) ?_
          rintro _ V46 ⟨ay, cy, vty, PY, rfl, hPy, hb45, hy, hyt⟩
          have hbN := (hbW44.trans (hb45.mono hbW44.size))
          have hbN47 := hbN
          have rN48 := (rW44_0.below hb45)
          have rN49 := (rW44_1.below hb45)
          have rN50 := (rW44_2.below hb45)
          have rN51 := (rW44_3.below hb45)
          have rN52 := (rW44_4.below hb45)
          have fN53 := (fW44_0.below hb45)
          have fN54 := (below_own fW44_1 hb45)
          refine ⟨⟨hbN47, rN48, rN49, rN50, rN51, fN53, fN54⟩, ?_⟩
          refine ah_takeW 5 49 (.tuple #[.agg #[.int .i64 (addv F 2048), .slice ay PY.length cy], vty, .int .i64 0]) rfl (wanted_none rfl) rfl (by kernel_rfl) (by kernel_rfl) (by kernel_rfl) (fun _ _ _ h => h) ⟨hbN47, rN48, rN49, rN50, rN51, fN53, fN54⟩ (fun W hW => by (try obtain ⟨hbN47, rN48, rN49, rN50, rN51, fN53, fN54⟩ := hW); exact (run_moveOp (eval_of (put_get _ _ _ (by simp only [put_size]; rw [hsz]; decide))))) ?_
          refine ah_takeW 6 55 (.agg #[.int .i64 (addv F 2048), .slice ay PY.length cy]) rfl (wanted_none rfl) rfl (by kernel_rfl) (by kernel_rfl) (by kernel_rfl) (fun _ _ _ h => h) ⟨hbN47, rN48, rN49, rN50, rN51, fN53, fN54⟩ (fun W hW => by (try obtain ⟨hbN47, rN48, rN49, rN50, rN51, fN53, fN54⟩ := hW); exact (run_extractOp (eval_of (put_get _ _ _ (by simp only [put_size]; rw [hsz]; decide))) rfl)) ?_
          refine ah_takeW 7 56 (vty) rfl (wanted_none rfl) rfl (by kernel_rfl) (by kernel_rfl) (by kernel_rfl) (fun _ _ _ h => h) ⟨hbN47, rN48, rN49, rN50, rN51, fN53, fN54⟩ (fun W hW => by (try obtain ⟨hbN47, rN48, rN49, rN50, rN51, fN53, fN54⟩ := hW); exact (run_extractOp (eval_of (pf1 (by decide) (put_get _ _ _ (by simp only [put_size]; rw [hsz]; decide)))) rfl)) ?_
          refine ah_takeW 8 57 (.int .i64 0) rfl (wanted_none rfl) rfl (by kernel_rfl) (by kernel_rfl) (by kernel_rfl) (fun _ _ _ h => h) ⟨hbN47, rN48, rN49, rN50, rN51, fN53, fN54⟩ (fun W hW => by (try obtain ⟨hbN47, rN48, rN49, rN50, rN51, fN53, fN54⟩ := hW); exact (run_extractOp (eval_of (pf2 (by decide) (put_get _ _ _ (by simp only [put_size]; rw [hsz]; decide)))) rfl)) ?_
          refine ah_one 10 (by kernel_rfl) ?_
          refine ao_skip rfl (wanted_none rfl) rfl _ (run_storeOp (eval_of (pf1 (by decide) (pf4 (by decide) (put_get _ _ _ (by simp only [put_size]; rw [hsz]; decide))))) (eval_of (pf2 (by decide) (put_get _ _ _ (by simp only [put_size]; rw [hsz]; decide)))) (run_storeN (xs := [.int .i64 (addv F 2048), .slice ay PY.length cy]) rN52 (by simp) (by kernel_rfl) rfl)) ⟨(below_sets (by omega) _ _ _ hbN47), (RowAt.sets_other _ _ _ rN48 (by omega)), (RowAt.sets_other _ _ _ rN49 (by omega)), (RowAt.sets_other _ _ _ rN50 (by omega)), (RowAt.sets_other _ _ _ rN51 (by omega)), (down_setlt hyq43_x (down_setlt hyq43_x fN53)), (own_setlt hyq43_xt (own_setlt hyq43_xt fN54))⟩ ?_
          refine fresh (C := fun x W => AH _ _ _ _ _ _ x W) (fun x X => _ = x ∧ Below w.heap.size w X ∧ RowAt X q1 [c0, .int .i64 N1, c2, .int .i64 N3] ∧ RowAt X q5 [.int .i64 F, .slice none 0 0] ∧ RowAt X q9 (bigL.map B8) ∧ RowAt X q24 [.int .i64 (addv F 2048), .slice ax PX.length cx] ∧ RowAt X q43 [.int .i64 (addv F 2048), .slice ay PY.length cy] ∧ DOwn KPart 58 X W13.heap.size (.slice ax PX.length cx) PX ∧ X.ownsRow W13.heap.size 5 1 vtx ((bigL.take 2048) : List UInt8).length (((bigL.take 2048) : List UInt8).map B8) ∧ DOwn KPart 58 X W44.heap.size (.slice ay PY.length cy) PY ∧ X.ownsRow W44.heap.size 5 1 vty (((bigL.drop 100).take 2048) : List UInt8).length ((((bigL.drop 100).take 2048) : List UInt8).map B8)) ⟨rfl, (below_sets (by omega) _ _ _ hbN47), (RowAt.sets_other _ _ _ rN48 (by omega)), (RowAt.sets_other _ _ _ rN49 (by omega)), (RowAt.sets_other _ _ _ rN50 (by omega)), (RowAt.sets_other _ _ _ rN51 (by omega)), (RowAt.sets [.int .i64 (addv F 2048), .slice ay PY.length cy] 0 _ _ rN52 (by simp)), (down_setlt hyq43_x (down_setlt hyq43_x fN53)), (own_setlt hyq43_xt (own_setlt hyq43_xt fN54)), (down_setl hwy_q43 (down_setl hwy_q43 hy)), (own_set2 hwy_q43 (own_set2 hwy_q43 hyt))⟩ ?_
          rintro _ W55 ⟨rfl, hbW55, rW55_0, rW55_1, rW55_2, rW55_3, rW55_4, fW55_0, fW55_1, fW55_2, fW55_3⟩
          refine ah_takeW 11 11 (vty) rfl (wanted_none rfl) rfl (by kernel_rfl) (by kernel_rfl) (by kernel_rfl) (fun _ _ _ h => h) ⟨hbW55, rW55_0, rW55_1, rW55_2, rW55_3, fW55_0, fW55_1⟩ (fun W hW => by (try obtain ⟨hbW55, rW55_0, rW55_1, rW55_2, rW55_3, fW55_0, fW55_1⟩ := hW); exact (run_assignOp (eval_of (pf1 (by decide) (put_get _ _ _ (by simp only [put_size]; rw [hsz]; decide)))))) ?_
          refine ah_takeW 12 12 (.int .i64 0) rfl (wanted_none rfl) rfl (by kernel_rfl) (by kernel_rfl) (by kernel_rfl) (fun _ _ _ h => h) ⟨hbW55, rW55_0, rW55_1, rW55_2, rW55_3, fW55_0, fW55_1⟩ (fun W hW => by (try obtain ⟨hbW55, rW55_0, rW55_1, rW55_2, rW55_3, fW55_0, fW55_1⟩ := hW); exact (run_assignOp (eval_of (pf1 (by decide) (put_get _ _ _ (by simp only [put_size]; rw [hsz]; decide)))))) ?_
          refine fresh (C := fun x W => AH _ _ _ _ _ _ x W) (fun x X => _ = X ∧ x.tmps.size = 177 ∧ x.defers = [] ∧ x.tmps[3]? = some (.int .i64 F) ∧ x.tmps[4]? = some (.pointer (some ⟨q5, 0, none⟩)) ∧ x.tmps[5]? = some (.slice (some ⟨q9, 0, none⟩) 2148 2148) ∧ x.tmps[7]? = some (.pointer (some ⟨q24, 0, none⟩)) ∧ x.tmps[8]? = some (vtx) ∧ x.tmps[9]? = some (.int .i64 0) ∧ x.tmps[10]? = some (.pointer (some ⟨q43, 0, none⟩)) ∧ x.tmps[11]? = some (vty) ∧ x.tmps[12]? = some (.int .i64 0)) ⟨rfl, (by simp only [put_size]; exact hsz), (by simp only [put_defers]; exact hdf), (pf4 (by decide) (pf8 (by decide) s_3)), (pf4 (by decide) (pf8 (by decide) s_4)), (pf4 (by decide) (pf8 (by decide) s_5)), (pf4 (by decide) (pf8 (by decide) s_7)), (pf4 (by decide) (pf8 (by decide) s_8)), (pf4 (by decide) (pf8 (by decide) s_9)), (pf1 (by decide) (pf2 (by decide) (pf4 (by decide) (put_get _ _ _ (by simp only [put_size]; rw [hsz]; decide))))), (pf1 (by decide) (put_get _ _ _ (by simp only [put_size]; rw [hsz]; decide))), (put_get _ _ _ (by simp only [put_size]; rw [hsz]; decide))⟩ ?_
          clear hsz hdf s_3 s_4 s_5 s_7 s_8 s_9
          rintro a _ ⟨rfl, hsz, hdf, s_3, s_4, s_5, s_7, s_8, s_9, s_10, s_11, s_12⟩
          refine ah_done (by kernel_rfl) ?_
          have hws : w.heap.size ≤ W44.heap.size := hbs_y.size
          exact ow_then (hK28 _ _ ⟨q43, ay, cy, vty, PY, hPy, by omega, by omega, by omega, by omega, hsz, hdf, s_3, s_4, s_5, s_7, s_8, s_9, (by first | exact s_10 | (rw [s_10]; congr 2; first | rfl | omega | (push_cast; omega)) | (rw [s_10]; first | rfl | (simp; try omega))), s_11, s_12, hbW55, rW55_0, rW55_1, rW55_2, rW55_3, rW55_4, fW55_0, fW55_1, (DOwn.mono fW55_2 hws), (own_mono fW55_3 hws)⟩)
      · skip
        obtain ⟨q57, hq57⟩ : ∃ x, x = W29.heap.size := ⟨_, rfl⟩
        refine ao_run rfl (wanted_none rfl) 10 (.pointer (some ⟨q57, 0, none⟩)) (W29.alloc (.cells #[.int .i64 0, .slice none 0 0] 24)) rfl (by rw [hq57]; exact (run_allocOp (by simp [go_sem, Instr.alloc]))) ⟨(hbW29.alloc hbW29.size _), (rW29_0.below ((Below.refl _ W29).alloc (Nat.le_refl _) _)), (rW29_1.below ((Below.refl _ W29).alloc (Nat.le_refl _) _)), (rW29_2.below ((Below.refl _ W29).alloc (Nat.le_refl _) _)), (rW29_3.below ((Below.refl _ W29).alloc (Nat.le_refl _) _)), (fW29_0.below ((Below.refl _ W29).alloc (Nat.le_refl _) _)), (below_own fW29_1 ((Below.refl _ W29).alloc (Nat.le_refl _) _))⟩ ?_
        have hqq57 : w.heap.size ≤ q57 := by rw [hq57]; exact hbW29.size
        have hyq57_x : ∀ k, DBlk (.slice ax PX.length cx) PX k → k < q57 := fun k hk => by have := (dblk_lt fW29_0 hk).2; omega
        have hyq57_xt : ∀ k, (vtx : Value).ownBlock = some k → k < q57 := fun k hk => by have := (blk_lt fW29_1 hk).2; omega
        have hnq57_q1 : q1 < q57 := by rw [hq57]; exact rW29_0.2.2
        have hnq57_q5 : q5 < q57 := by rw [hq57]; exact rW29_1.2.2
        have hnq57_q9 : q9 < q57 := by rw [hq57]; exact rW29_2.2.2
        have hnq57_q24 : q24 < q57 := by rw [hq57]; exact rW29_3.2.2
        refine fresh (C := fun x W => AH _ _ _ _ _ _ x W) (fun x X => _ = x ∧ Below w.heap.size w X ∧ RowAt X q1 [c0, .int .i64 N1, c2, .int .i64 N3] ∧ RowAt X q5 [.int .i64 F, .slice none 0 0] ∧ RowAt X q9 (bigL.map B8) ∧ RowAt X q24 [.int .i64 (addv F 2048), .slice ax PX.length cx] ∧ RowAt X q57 [.int .i64 0, .slice none 0 0] ∧ DOwn KPart 58 X W13.heap.size (.slice ax PX.length cx) PX ∧ X.ownsRow W13.heap.size 5 1 vtx ((bigL.take 2048) : List UInt8).length (((bigL.take 2048) : List UInt8).map B8)) ⟨rfl, (hbW29.alloc hbW29.size _), (rW29_0.below ((Below.refl _ W29).alloc (Nat.le_refl _) _)), (rW29_1.below ((Below.refl _ W29).alloc (Nat.le_refl _) _)), (rW29_2.below ((Below.refl _ W29).alloc (Nat.le_refl _) _)), (rW29_3.below ((Below.refl _ W29).alloc (Nat.le_refl _) _)), (by rw [hq57]; exact rowAt_alloc _ [.int .i64 0, .slice none 0 0] _), (fW29_0.below ((Below.refl _ W29).alloc (Nat.le_refl _) _)), (below_own fW29_1 ((Below.refl _ W29).alloc (Nat.le_refl _) _))⟩ ?_
        rintro _ W58 ⟨rfl, hbW58, rW58_0, rW58_1, rW58_2, rW58_3, rW58_4, fW58_0, fW58_1⟩
        clear hq57
        refine ah_one 2 (by kernel_rfl) ?_
        refine ao_call rfl (wanted_none rfl) 52 (fun v X => v = (.int .i64 (addv F (-100))) ∧ W58 = X) rfl _ _ (run_callOp Try.func18 rfl rfl (arr2 (eval_of (pf2 (by decide) (put_get _ _ _ (by simp only [put_size]; rw [hsz]; decide)))) (eval_cst _ _))) ((radd12_any F (-100) W58).mono fun e X h => ⟨_, h.1, rfl, h.2⟩) ?_
        rintro _ _ ⟨rfl, rfl⟩
        refine ⟨⟨hbW58, rW58_0, rW58_1, rW58_2, rW58_3, fW58_0, fW58_1⟩, ?_⟩
        refine ah_one 4 (by kernel_rfl) ?_
        have hbs_y := hbW58
        have hwy_q1 : q1 < W58.heap.size := rW58_0.2.2
        have hwy_q5 : q5 < W58.heap.size := rW58_1.2.2
        have hwy_q9 : q9 < W58.heap.size := rW58_2.2.2
        have hwy_q24 : q24 < W58.heap.size := rW58_3.2.2
        have hwy_q57 : q57 < W58.heap.size := rW58_4.2.2
        refine ao_call rfl (wanted_none rfl) 54 (fun v X => ∃ ay cy vty PY, v = .tuple #[.agg #[.int .i64 (addv F 2048), .slice ay PY.length cy], vty, .int .i64 0] ∧ PY.map Prod.fst = [] ∧ Below W58.heap.size W58 X ∧ DOwn KPart 58 X W58.heap.size (.slice ay PY.length cy) PY ∧ X.ownsRow W58.heap.size 5 1 vty (((bigL.drop 100).take 2048) : List UInt8).length ((((bigL.drop 100).take 2048) : List UInt8).map B8)) rfl _ _ (run_callOp Try.func20 rfl rfl (arr3 (eval_of (pf4 (by decide) (put_get _ _ _ (by rw [hsz]; decide)))) (eval_of (put_get _ _ _ (by simp only [put_size]; rw [hsz]; decide))) (eval_of (pf2 (by decide) (put_get _ _ _ (by simp only [put_size]; rw [hsz]; decide)))))) ((radd_good _ _ F (addv F (-100)) [] bigL W58 (KPart_nil W58) (sl_mid rW58_2 0 2148 2148 (by rw [bigL_len]; omega) (by omega) (by have : maxLen = 9223372036854775807 := rfl; omega)) (ok_nil hF (addv_bd _ _) (by rw [bigL_len]; decide))).mono fun e X ⟨v4, vt, PL, he, hP, ho, ht, _, hb⟩ => by obtain ⟨a4, c4, rfl⟩ := ho.slice; obtain ⟨e1, e2, e3⟩ := hadd2; rw [e1] at he; rw [e2] at hP; rw [e3] at ht; exact ⟨_, he, a4, c4, vt, PL, rfl, hP, hb, ho, ht⟩) ?_
        rintro _ V60 ⟨ay, cy, vty, PY, rfl, hPy, hb59, hy, hyt⟩
        have hbN := (hbW58.trans (hb59.mono hbW58.size))
        have hbN61 := hbN
        have rN62 := (rW58_0.below hb59)
        have rN63 := (rW58_1.below hb59)
        have rN64 := (rW58_2.below hb59)
        have rN65 := (rW58_3.below hb59)
        have rN66 := (rW58_4.below hb59)
        have fN67 := (fW58_0.below hb59)
        have fN68 := (below_own fW58_1 hb59)
        refine ⟨⟨hbN61, rN62, rN63, rN64, rN65, fN67, fN68⟩, ?_⟩
        refine ah_takeW 5 49 (.tuple #[.agg #[.int .i64 (addv F 2048), .slice ay PY.length cy], vty, .int .i64 0]) rfl (wanted_none rfl) rfl (by kernel_rfl) (by kernel_rfl) (by kernel_rfl) (fun _ _ _ h => h) ⟨hbN61, rN62, rN63, rN64, rN65, fN67, fN68⟩ (fun W hW => by (try obtain ⟨hbN61, rN62, rN63, rN64, rN65, fN67, fN68⟩ := hW); exact (run_moveOp (eval_of (put_get _ _ _ (by simp only [put_size]; rw [hsz]; decide))))) ?_
        refine ah_takeW 6 55 (.agg #[.int .i64 (addv F 2048), .slice ay PY.length cy]) rfl (wanted_none rfl) rfl (by kernel_rfl) (by kernel_rfl) (by kernel_rfl) (fun _ _ _ h => h) ⟨hbN61, rN62, rN63, rN64, rN65, fN67, fN68⟩ (fun W hW => by (try obtain ⟨hbN61, rN62, rN63, rN64, rN65, fN67, fN68⟩ := hW); exact (run_extractOp (eval_of (put_get _ _ _ (by simp only [put_size]; rw [hsz]; decide))) rfl)) ?_
        refine ah_takeW 7 56 (vty) rfl (wanted_none rfl) rfl (by kernel_rfl) (by kernel_rfl) (by kernel_rfl) (fun _ _ _ h => h) ⟨hbN61, rN62, rN63, rN64, rN65, fN67, fN68⟩ (fun W hW => by (try obtain ⟨hbN61, rN62, rN63, rN64, rN65, fN67, fN68⟩ := hW); exact (run_extractOp (eval_of (pf1 (by decide) (put_get _ _ _ (by simp only [put_size]; rw [hsz]; decide)))) rfl)) ?_
        refine ah_takeW 8 57 (.int .i64 0) rfl (wanted_none rfl) rfl (by kernel_rfl) (by kernel_rfl) (by kernel_rfl) (fun _ _ _ h => h) ⟨hbN61, rN62, rN63, rN64, rN65, fN67, fN68⟩ (fun W hW => by (try obtain ⟨hbN61, rN62, rN63, rN64, rN65, fN67, fN68⟩ := hW); exact (run_extractOp (eval_of (pf2 (by decide) (put_get _ _ _ (by simp only [put_size]; rw [hsz]; decide)))) rfl)) ?_
        refine ah_one 10 (by kernel_rfl) ?_
        refine ao_skip rfl (wanted_none rfl) rfl _ (run_storeOp (eval_of (pf2 (by decide) (pf4 (by decide) (put_get _ _ _ (by simp only [put_size]; rw [hsz]; decide))))) (eval_of (pf2 (by decide) (put_get _ _ _ (by simp only [put_size]; rw [hsz]; decide)))) (run_storeN (xs := [.int .i64 (addv F 2048), .slice ay PY.length cy]) rN66 (by simp) (by kernel_rfl) rfl)) ⟨(below_sets (by omega) _ _ _ hbN61), (RowAt.sets_other _ _ _ rN62 (by omega)), (RowAt.sets_other _ _ _ rN63 (by omega)), (RowAt.sets_other _ _ _ rN64 (by omega)), (RowAt.sets_other _ _ _ rN65 (by omega)), (down_setlt hyq57_x (down_setlt hyq57_x fN67)), (own_setlt hyq57_xt (own_setlt hyq57_xt fN68))⟩ ?_
        refine fresh (C := fun x W => AH _ _ _ _ _ _ x W) (fun x X => _ = x ∧ Below w.heap.size w X ∧ RowAt X q1 [c0, .int .i64 N1, c2, .int .i64 N3] ∧ RowAt X q5 [.int .i64 F, .slice none 0 0] ∧ RowAt X q9 (bigL.map B8) ∧ RowAt X q24 [.int .i64 (addv F 2048), .slice ax PX.length cx] ∧ RowAt X q57 [.int .i64 (addv F 2048), .slice ay PY.length cy] ∧ DOwn KPart 58 X W13.heap.size (.slice ax PX.length cx) PX ∧ X.ownsRow W13.heap.size 5 1 vtx ((bigL.take 2048) : List UInt8).length (((bigL.take 2048) : List UInt8).map B8) ∧ DOwn KPart 58 X W58.heap.size (.slice ay PY.length cy) PY ∧ X.ownsRow W58.heap.size 5 1 vty (((bigL.drop 100).take 2048) : List UInt8).length ((((bigL.drop 100).take 2048) : List UInt8).map B8)) ⟨rfl, (below_sets (by omega) _ _ _ hbN61), (RowAt.sets_other _ _ _ rN62 (by omega)), (RowAt.sets_other _ _ _ rN63 (by omega)), (RowAt.sets_other _ _ _ rN64 (by omega)), (RowAt.sets_other _ _ _ rN65 (by omega)), (RowAt.sets [.int .i64 (addv F 2048), .slice ay PY.length cy] 0 _ _ rN66 (by simp)), (down_setlt hyq57_x (down_setlt hyq57_x fN67)), (own_setlt hyq57_xt (own_setlt hyq57_xt fN68)), (down_setl hwy_q57 (down_setl hwy_q57 hy)), (own_set2 hwy_q57 (own_set2 hwy_q57 hyt))⟩ ?_
        rintro _ W69 ⟨rfl, hbW69, rW69_0, rW69_1, rW69_2, rW69_3, rW69_4, fW69_0, fW69_1, fW69_2, fW69_3⟩
        refine ah_takeW 11 11 (vty) rfl (wanted_none rfl) rfl (by kernel_rfl) (by kernel_rfl) (by kernel_rfl) (fun _ _ _ h => h) ⟨hbW69, rW69_0, rW69_1, rW69_2, rW69_3, fW69_0, fW69_1⟩ (fun W hW => by (try obtain ⟨hbW69, rW69_0, rW69_1, rW69_2, rW69_3, fW69_0, fW69_1⟩ := hW); exact (run_assignOp (eval_of (pf1 (by decide) (put_get _ _ _ (by simp only [put_size]; rw [hsz]; decide)))))) ?_
        refine ah_takeW 12 12 (.int .i64 0) rfl (wanted_none rfl) rfl (by kernel_rfl) (by kernel_rfl) (by kernel_rfl) (fun _ _ _ h => h) ⟨hbW69, rW69_0, rW69_1, rW69_2, rW69_3, fW69_0, fW69_1⟩ (fun W hW => by (try obtain ⟨hbW69, rW69_0, rW69_1, rW69_2, rW69_3, fW69_0, fW69_1⟩ := hW); exact (run_assignOp (eval_of (pf1 (by decide) (put_get _ _ _ (by simp only [put_size]; rw [hsz]; decide)))))) ?_
        refine fresh (C := fun x W => AH _ _ _ _ _ _ x W) (fun x X => _ = X ∧ x.tmps.size = 177 ∧ x.defers = [] ∧ x.tmps[3]? = some (.int .i64 F) ∧ x.tmps[4]? = some (.pointer (some ⟨q5, 0, none⟩)) ∧ x.tmps[5]? = some (.slice (some ⟨q9, 0, none⟩) 2148 2148) ∧ x.tmps[7]? = some (.pointer (some ⟨q24, 0, none⟩)) ∧ x.tmps[8]? = some (vtx) ∧ x.tmps[9]? = some (.int .i64 0) ∧ x.tmps[10]? = some (.pointer (some ⟨q57, 0, none⟩)) ∧ x.tmps[11]? = some (vty) ∧ x.tmps[12]? = some (.int .i64 0)) ⟨rfl, (by simp only [put_size]; exact hsz), (by simp only [put_defers]; exact hdf), (pf4 (by decide) (pf8 (by decide) s_3)), (pf4 (by decide) (pf8 (by decide) s_4)), (pf4 (by decide) (pf8 (by decide) s_5)), (pf4 (by decide) (pf8 (by decide) s_7)), (pf4 (by decide) (pf8 (by decide) s_8)), (pf4 (by decide) (pf8 (by decide) s_9)), (pf8 (by decide) (put_get _ _ _ (by simp only [put_size]; rw [hsz]; decide))), (pf1 (by decide) (put_get _ _ _ (by simp only [put_size]; rw [hsz]; decide))), (put_get _ _ _ (by simp only [put_size]; rw [hsz]; decide))⟩ ?_
        clear hsz hdf s_3 s_4 s_5 s_7 s_8 s_9
        rintro a _ ⟨rfl, hsz, hdf, s_3, s_4, s_5, s_7, s_8, s_9, s_10, s_11, s_12⟩
        refine ah_done (by kernel_rfl) ?_
        have hws : w.heap.size ≤ W58.heap.size := hbs_y.size
        exact ow_then (hK28 _ _ ⟨q57, ay, cy, vty, PY, hPy, by omega, by omega, by omega, by omega, hsz, hdf, s_3, s_4, s_5, s_7, s_8, s_9, (by first | exact s_10 | (rw [s_10]; congr 2; first | rfl | omega | (push_cast; omega)) | (rw [s_10]; first | rfl | (simp; try omega))), s_11, s_12, hbW69, rW69_0, rW69_1, rW69_2, rW69_3, rW69_4, fW69_0, fW69_1, (DOwn.mono fW69_2 hws), (own_mono fW69_3 hws)⟩)
    · skip
      clear hsz hdf s_3 s_4 s_5 s_7 s_8 s_9
      rintro a W71 ⟨qy, ay, cy, vty, PY, hPy, hlqy_q1, hlqy_q5, hlqy_q9, hlqy_q24, hsz, hdf, s_3, s_4, s_5, s_7, s_8, s_9, s_10, s_11, s_12, hbW71, rW71_0, rW71_1, rW71_2, rW71_3, rW71_4, fW71_0, fW71_1, gW71_0, gW71_1⟩
      refine wp_mid (fun a W => ∃ (qv : Nat) (av : Option Addr) (cv : Nat) (atv : Option Addr) (ctv : Nat) (PV : List (EP × Value)), PV.map Prod.fst = [] ∧ q1 < qv ∧ q5 < qv ∧ q9 < qv ∧ q24 < qv ∧ qy < qv ∧ a.tmps.size = 177 ∧ a.defers = [] ∧ a.tmps[3]? = some (.int .i64 F) ∧ a.tmps[4]? = some (.pointer (some ⟨q5, 0, none⟩)) ∧ a.tmps[5]? = some (.slice (some ⟨q9, 0, none⟩) 2148 2148) ∧ a.tmps[7]? = some (.pointer (some ⟨q24, 0, none⟩)) ∧ a.tmps[8]? = some (vtx) ∧ a.tmps[9]? = some (.int .i64 0) ∧ a.tmps[10]? = some (.pointer (some ⟨qy, 0, none⟩)) ∧ a.tmps[11]? = some (vty) ∧ a.tmps[12]? = some (.int .i64 0) ∧ a.tmps[13]? = some (.pointer (some ⟨qv, 0, none⟩)) ∧ a.tmps[14]? = some (.slice atv 0 ctv) ∧ a.tmps[15]? = some (.int .i64 0) ∧ Below w.heap.size w W ∧ RowAt W q1 [c0, .int .i64 N1, c2, .int .i64 N3] ∧ RowAt W q5 [.int .i64 F, .slice none 0 0] ∧ RowAt W q9 (bigL.map B8) ∧ RowAt W q24 [.int .i64 (addv F 2048), .slice ax PX.length cx] ∧ RowAt W qy [.int .i64 (addv F 2048), .slice ay PY.length cy] ∧ RowAt W qv [.int .i64 F, .slice av PV.length cv] ∧ DOwn KPart 58 W W13.heap.size (.slice ax PX.length cx) PX ∧ W.ownsRow W13.heap.size 5 1 vtx ((bigL.take 2048) : List UInt8).length (((bigL.take 2048) : List UInt8).map B8) ∧ DOwn KPart 58 W w.heap.size (.slice ay PY.length cy) PY ∧ W.ownsRow w.heap.size 5 1 vty (((bigL.drop 100).take 2048) : List UInt8).length ((((bigL.drop 100).take 2048) : List UInt8).map B8) ∧ DOwn KPart 58 W w.heap.size (.slice av PV.length cv) PV ∧ W.ownsRow w.heap.size 5 1 (.slice atv 0 ctv) ([] : List UInt8).length (([] : List UInt8).map B8)) (fun K73 hK73 => ?_) ?_
      · skip
        refine ah_region (fun W => Below w.heap.size w W ∧ RowAt W q1 [c0, .int .i64 N1, c2, .int .i64 N3] ∧ RowAt W q5 [.int .i64 F, .slice none 0 0] ∧ RowAt W q9 (bigL.map B8) ∧ RowAt W q24 [.int .i64 (addv F 2048), .slice ax PX.length cx] ∧ RowAt W qy [.int .i64 (addv F 2048), .slice ay PY.length cy] ∧ DOwn KPart 58 W W13.heap.size (.slice ax PX.length cx) PX ∧ W.ownsRow W13.heap.size 5 1 vtx ((bigL.take 2048) : List UInt8).length (((bigL.take 2048) : List UInt8).map B8) ∧ DOwn KPart 58 W w.heap.size (.slice ay PY.length cy) PY ∧ W.ownsRow w.heap.size 5 1 vty (((bigL.drop 100).take 2048) : List UInt8).length ((((bigL.drop 100).take 2048) : List UInt8).map B8)) (by kernel_rfl) 13 rfl ?_
        refine fresh (C := fun x W => AH _ _ _ _ _ _ x W) (fun x X => _ = x ∧ Below w.heap.size w X ∧ RowAt X q1 [c0, .int .i64 N1, c2, .int .i64 N3] ∧ RowAt X q5 [.int .i64 F, .slice none 0 0] ∧ RowAt X q9 (bigL.map B8) ∧ RowAt X q24 [.int .i64 (addv F 2048), .slice ax PX.length cx] ∧ RowAt X qy [.int .i64 (addv F 2048), .slice ay PY.length cy] ∧ DOwn KPart 58 X W13.heap.size (.slice ax PX.length cx) PX ∧ X.ownsRow W13.heap.size 5 1 vtx ((bigL.take 2048) : List UInt8).length (((bigL.take 2048) : List UInt8).map B8) ∧ DOwn KPart 58 X w.heap.size (.slice ay PY.length cy) PY ∧ X.ownsRow w.heap.size 5 1 vty (((bigL.drop 100).take 2048) : List UInt8).length ((((bigL.drop 100).take 2048) : List UInt8).map B8)) ⟨rfl, (hbW71.trans (((Below.refl _ W71).drew).mono hbW71.size)), (rW71_0.below ((Below.refl _ W71).drew)), (rW71_1.below ((Below.refl _ W71).drew)), (rW71_2.below ((Below.refl _ W71).drew)), (rW71_3.below ((Below.refl _ W71).drew)), (rW71_4.below ((Below.refl _ W71).drew)), (fW71_0.below ((Below.refl _ W71).drew)), (below_own fW71_1 ((Below.refl _ W71).drew)), (gW71_0.below ((Below.refl _ W71).drew)), (below_own gW71_1 ((Below.refl _ W71).drew))⟩ ?_
        rintro _ W74 ⟨rfl, hbW74, rW74_0, rW74_1, rW74_2, rW74_3, rW74_4, fW74_0, fW74_1, fW74_2, fW74_3⟩
        refine ah_takeW 0 59 (.agg #[.int .i64 F, .slice none 0 0]) rfl (wanted_none rfl) rfl (by kernel_rfl) (by kernel_rfl) (by kernel_rfl) (fun _ _ _ h => h) ⟨hbW74, rW74_0, rW74_1, rW74_2, rW74_3, rW74_4, fW74_0, fW74_1, fW74_2, fW74_3⟩ (fun W hW => by (try obtain ⟨hbW74, rW74_0, rW74_1, rW74_2, rW74_3, rW74_4, fW74_0, fW74_1, fW74_2, fW74_3⟩ := hW); exact (run_loadOp (eval_of s_4) (run_loadN [.int .i64 F, .slice none 0 0] rW74_1 (fun j v hj => by simpa using hj) Try.underlying24 rfl (by kernel_rfl)))) ?_
        refine ah_takeW 1 60 (.int .i64 F) rfl (wanted_none rfl) rfl (by kernel_rfl) (by kernel_rfl) (by kernel_rfl) (fun _ _ _ h => h) ⟨hbW74, rW74_0, rW74_1, rW74_2, rW74_3, rW74_4, fW74_0, fW74_1, fW74_2, fW74_3⟩ (fun W hW => by (try obtain ⟨hbW74, rW74_0, rW74_1, rW74_2, rW74_3, rW74_4, fW74_0, fW74_1, fW74_2, fW74_3⟩ := hW); exact (run_moveOp (eval_of (pf1 (by decide) s_3)))) ?_
        refine ah_takeW 3 62 (.slice (some ⟨q9, 0, none⟩) 2148 2148) rfl (wanted_none rfl) rfl (by kernel_rfl) (by kernel_rfl) (by kernel_rfl) (fun _ _ _ h => h) ⟨hbW74, rW74_0, rW74_1, rW74_2, rW74_3, rW74_4, fW74_0, fW74_1, fW74_2, fW74_3⟩ (fun W hW => by (try obtain ⟨hbW74, rW74_0, rW74_1, rW74_2, rW74_3, rW74_4, fW74_0, fW74_1, fW74_2, fW74_3⟩ := hW); exact (run_moveOp (eval_of (pf2 (by decide) s_5)))) ?_
        refine ah_two 2 9 (by kernel_rfl) ?_ ?_
        · skip
          refine ao_call rfl (wanted_none rfl) 61 (fun v X => v = (.int .i64 (addv F 2048)) ∧ W74 = X) rfl _ _ (run_callOp Try.func18 rfl rfl (arr2 (eval_of (pf1 (by decide) (put_get _ _ _ (by simp only [put_size]; rw [hsz]; decide)))) (eval_cst _ _))) ((radd12_any F 2048 W74).mono fun e X h => ⟨_, h.1, rfl, h.2⟩) ?_
          rintro _ _ ⟨rfl, rfl⟩
          refine ⟨⟨hbW74, rW74_0, rW74_1, rW74_2, rW74_3, rW74_4, fW74_0, fW74_1, fW74_2, fW74_3⟩, ?_⟩
          refine ah_two 4 9 (by kernel_rfl) ?_ ?_
          · skip
            have hbs_v := hbW74
            have hwv_q1 : q1 < W74.heap.size := rW74_0.2.2
            have hwv_q5 : q5 < W74.heap.size := rW74_1.2.2
            have hwv_q9 : q9 < W74.heap.size := rW74_2.2.2
            have hwv_q24 : q24 < W74.heap.size := rW74_3.2.2
            have hwv_qy : qy < W74.heap.size := rW74_4.2.2
            refine ao_call rfl (wanted_none rfl) 63 (fun v X => ∃ av cv atv ctv PV, v = .tuple #[.agg #[.int .i64 F, .slice av PV.length cv], (.slice atv 0 ctv), .int .i64 0] ∧ PV.map Prod.fst = [] ∧ Below W74.heap.size W74 X ∧ DOwn KPart 58 X W74.heap.size (.slice av PV.length cv) PV ∧ X.ownsRow W74.heap.size 5 1 (.slice atv 0 ctv) ([] : List UInt8).length (([] : List UInt8).map B8)) rfl _ _ (run_callOp Try.func20 rfl rfl (arr3 (eval_of (pf1 (by decide) (pf2 (by decide) (put_get _ _ _ (by rw [hsz]; decide))))) (eval_of (put_get _ _ _ (by simp only [put_size]; rw [hsz]; decide))) (eval_of (pf1 (by decide) (put_get _ _ _ (by simp only [put_size]; rw [hsz]; decide)))))) ((radd_good _ _ F (addv F 2048) [] bigL W74 (KPart_nil W74) (sl_mid rW74_2 0 2148 2148 (by rw [bigL_len]; omega) (by omega) (by have : maxLen = 9223372036854775807 := rfl; omega)) (ok_nil hF (addv_bd _ _) (by rw [bigL_len]; decide))).mono fun e X ⟨v4, vt, PL, he, hP, ho, ht, _, hb⟩ => by obtain ⟨a4, c4, rfl⟩ := ho.slice; obtain ⟨e1, e2, e3⟩ := (big_far hF); rw [e1] at he; rw [e2] at hP; rw [e3] at ht; obtain ⟨at4, ct4, rfl⟩ := own_slice ht; exact ⟨_, he, a4, c4, at4, ct4, PL, rfl, hP, hb, ho, ht⟩) ?_
            rintro _ V76 ⟨av, cv, atv, ctv, PV, rfl, hPv, hb75, hv, hvt⟩
            have hbN := (hbW74.trans (hb75.mono hbW74.size))
            have hbN77 := hbN
            have rN78 := (rW74_0.below hb75)
            have rN79 := (rW74_1.below hb75)
            have rN80 := (rW74_2.below hb75)
            have rN81 := (rW74_3.below hb75)
            have rN82 := (rW74_4.below hb75)
            have fN83 := (fW74_0.below hb75)
            have fN84 := (below_own fW74_1 hb75)
            have fN85 := (fW74_2.below hb75)
            have fN86 := (below_own fW74_3 hb75)
            refine ⟨⟨hbN77, rN78, rN79, rN80, rN81, rN82, fN83, fN84, fN85, fN86⟩, ?_⟩
            refine ah_takeW 5 58 (.tuple #[.agg #[.int .i64 F, .slice av PV.length cv], .slice atv 0 ctv, .int .i64 0]) rfl (wanted_none rfl) rfl (by kernel_rfl) (by kernel_rfl) (by kernel_rfl) (fun _ _ _ h => h) ⟨hbN77, rN78, rN79, rN80, rN81, rN82, fN83, fN84, fN85, fN86⟩ (fun W hW => by (try obtain ⟨hbN77, rN78, rN79, rN80, rN81, rN82, fN83, fN84, fN85, fN86⟩ := hW); exact (run_moveOp (eval_of (put_get _ _ _ (by simp only [put_size]; rw [hsz]; decide))))) ?_
            refine ah_takeW 6 64 (.agg #[.int .i64 F, .slice av PV.length cv]) rfl (wanted_none rfl) rfl (by kernel_rfl) (by kernel_rfl) (by kernel_rfl) (fun _ _ _ h => h) ⟨hbN77, rN78, rN79, rN80, rN81, rN82, fN83, fN84, fN85, fN86⟩ (fun W hW => by (try obtain ⟨hbN77, rN78, rN79, rN80, rN81, rN82, fN83, fN84, fN85, fN86⟩ := hW); exact (run_extractOp (eval_of (put_get _ _ _ (by simp only [put_size]; rw [hsz]; decide))) rfl)) ?_
            refine ah_takeW 7 65 (.slice atv 0 ctv) rfl (wanted_none rfl) rfl (by kernel_rfl) (by kernel_rfl) (by kernel_rfl) (fun _ _ _ h => h) ⟨hbN77, rN78, rN79, rN80, rN81, rN82, fN83, fN84, fN85, fN86⟩ (fun W hW => by (try obtain ⟨hbN77, rN78, rN79, rN80, rN81, rN82, fN83, fN84, fN85, fN86⟩ := hW); exact (run_extractOp (eval_of (pf1 (by decide) (put_get _ _ _ (by simp only [put_size]; rw [hsz]; decide)))) rfl)) ?_
            refine ah_takeW 8 66 (.int .i64 0) rfl (wanted_none rfl) rfl (by kernel_rfl) (by kernel_rfl) (by kernel_rfl) (fun _ _ _ h => h) ⟨hbN77, rN78, rN79, rN80, rN81, rN82, fN83, fN84, fN85, fN86⟩ (fun W hW => by (try obtain ⟨hbN77, rN78, rN79, rN80, rN81, rN82, fN83, fN84, fN85, fN86⟩ := hW); exact (run_extractOp (eval_of (pf2 (by decide) (put_get _ _ _ (by simp only [put_size]; rw [hsz]; decide)))) rfl)) ?_
            refine ah_one 9 (by kernel_rfl) ?_
            obtain ⟨q87, hq87⟩ : ∃ x, x = V76.heap.size := ⟨_, rfl⟩
            refine ao_run rfl (wanted_none rfl) 13 (.pointer (some ⟨q87, 0, none⟩)) (V76.alloc (.cells #[.int .i64 0, .slice none 0 0] 24)) rfl (by rw [hq87]; exact (run_allocOp (by simp [go_sem, Instr.alloc]))) ⟨(hbN77.alloc hbN77.size _), (rN78.below ((Below.refl _ V76).alloc (Nat.le_refl _) _)), (rN79.below ((Below.refl _ V76).alloc (Nat.le_refl _) _)), (rN80.below ((Below.refl _ V76).alloc (Nat.le_refl _) _)), (rN81.below ((Below.refl _ V76).alloc (Nat.le_refl _) _)), (rN82.below ((Below.refl _ V76).alloc (Nat.le_refl _) _)), (fN83.below ((Below.refl _ V76).alloc (Nat.le_refl _) _)), (below_own fN84 ((Below.refl _ V76).alloc (Nat.le_refl _) _)), (fN85.below ((Below.refl _ V76).alloc (Nat.le_refl _) _)), (below_own fN86 ((Below.refl _ V76).alloc (Nat.le_refl _) _))⟩ ?_
            have hqq87 : w.heap.size ≤ q87 := by rw [hq87]; exact hbN77.size
            have hyq87_x : ∀ k, DBlk (.slice ax PX.length cx) PX k → k < q87 := fun k hk => by have := (dblk_lt fN83 hk).2; omega
            have hyq87_xt : ∀ k, (vtx : Value).ownBlock = some k → k < q87 := fun k hk => by have := (blk_lt fN84 hk).2; omega
            have hyq87_y : ∀ k, DBlk (.slice ay PY.length cy) PY k → k < q87 := fun k hk => by have := (dblk_lt fN85 hk).2; omega
            have hyq87_yt : ∀ k, (vty : Value).ownBlock = some k → k < q87 := fun k hk => by have := (blk_lt fN86 hk).2; omega
            have hyq87_v : ∀ k, DBlk (.slice av PV.length cv) PV k → k < q87 := fun k hk => by have := (dblk_lt hv hk).2; omega
            have hyq87_vt : ∀ k, ((.slice atv 0 ctv) : Value).ownBlock = some k → k < q87 := fun k hk => by have := (blk_lt hvt hk).2; omega
            have hnq87_q1 : q1 < q87 := by rw [hq87]; exact rN78.2.2
            have hnq87_q5 : q5 < q87 := by rw [hq87]; exact rN79.2.2
            have hnq87_q9 : q9 < q87 := by rw [hq87]; exact rN80.2.2
            have hnq87_q24 : q24 < q87 := by rw [hq87]; exact rN81.2.2
            have hnq87_qy : qy < q87 := by rw [hq87]; exact rN82.2.2
            refine fresh (C := fun x W => AH _ _ _ _ _ _ x W) (fun x X => _ = x ∧ Below w.heap.size w X ∧ RowAt X q1 [c0, .int .i64 N1, c2, .int .i64 N3] ∧ RowAt X q5 [.int .i64 F, .slice none 0 0] ∧ RowAt X q9 (bigL.map B8) ∧ RowAt X q24 [.int .i64 (addv F 2048), .slice ax PX.length cx] ∧ RowAt X qy [.int .i64 (addv F 2048), .slice ay PY.length cy] ∧ RowAt X q87 [.int .i64 0, .slice none 0 0] ∧ DOwn KPart 58 X W13.heap.size (.slice ax PX.length cx) PX ∧ X.ownsRow W13.heap.size 5 1 vtx ((bigL.take 2048) : List UInt8).length (((bigL.take 2048) : List UInt8).map B8) ∧ DOwn KPart 58 X w.heap.size (.slice ay PY.length cy) PY ∧ X.ownsRow w.heap.size 5 1 vty (((bigL.drop 100).take 2048) : List UInt8).length ((((bigL.drop 100).take 2048) : List UInt8).map B8) ∧ DOwn KPart 58 X W74.heap.size (.slice av PV.length cv) PV ∧ X.ownsRow W74.heap.size 5 1 (.slice atv 0 ctv) ([] : List UInt8).length (([] : List UInt8).map B8)) ⟨rfl, (hbN77.alloc hbN77.size _), (rN78.below ((Below.refl _ V76).alloc (Nat.le_refl _) _)), (rN79.below ((Below.refl _ V76).alloc (Nat.le_refl _) _)), (rN80.below ((Below.refl _ V76).alloc (Nat.le_refl _) _)), (rN81.below ((Below.refl _ V76).alloc (Nat.le_refl _) _)), (rN82.below ((Below.refl _ V76).alloc (Nat.le_refl _) _)), (by rw [hq87]; exact rowAt_alloc _ [.int .i64 0, .slice none 0 0] _), (fN83.below ((Below.refl _ V76).alloc (Nat.le_refl _) _)), (below_own fN84 ((Below.refl _ V76).alloc (Nat.le_refl _) _)), (fN85.below ((Below.refl _ V76).alloc (Nat.le_refl _) _)), (below_own fN86 ((Below.refl _ V76).alloc (Nat.le_refl _) _)), (hv.below ((Below.refl _ V76).alloc (Nat.le_refl _) _)), (below_own hvt ((Below.refl _ V76).alloc (Nat.le_refl _) _))⟩ ?_
            rintro _ W88 ⟨rfl, hbW88, rW88_0, rW88_1, rW88_2, rW88_3, rW88_4, rW88_5, fW88_0, fW88_1, fW88_2, fW88_3, fW88_4, fW88_5⟩
            clear hq87
            refine ah_one 10 (by kernel_rfl) ?_
            refine ao_skip rfl (wanted_none rfl) rfl _ (run_storeOp (eval_of (put_get _ _ _ (by simp only [put_size]; rw [hsz]; decide))) (eval_of (pf1 (by decide) (pf2 (by decide) (put_get _ _ _ (by simp only [put_size]; rw [hsz]; decide))))) (run_storeN (xs := [.int .i64 F, .slice av PV.length cv]) rW88_5 (by simp) (by kernel_rfl) rfl)) ⟨(below_sets (by omega) _ _ _ hbW88), (RowAt.sets_other _ _ _ rW88_0 (by omega)), (RowAt.sets_other _ _ _ rW88_1 (by omega)), (RowAt.sets_other _ _ _ rW88_2 (by omega)), (RowAt.sets_other _ _ _ rW88_3 (by omega)), (RowAt.sets_other _ _ _ rW88_4 (by omega)), (down_setlt hyq87_x (down_setlt hyq87_x fW88_0)), (own_setlt hyq87_xt (own_setlt hyq87_xt fW88_1)), (down_setlt hyq87_y (down_setlt hyq87_y fW88_2)), (own_setlt hyq87_yt (own_setlt hyq87_yt fW88_3))⟩ ?_
            refine fresh (C := fun x W => AH _ _ _ _ _ _ x W) (fun x X => _ = x ∧ Below w.heap.size w X ∧ RowAt X q1 [c0, .int .i64 N1, c2, .int .i64 N3] ∧ RowAt X q5 [.int .i64 F, .slice none 0 0] ∧ RowAt X q9 (bigL.map B8) ∧ RowAt X q24 [.int .i64 (addv F 2048), .slice ax PX.length cx] ∧ RowAt X qy [.int .i64 (addv F 2048), .slice ay PY.length cy] ∧ RowAt X q87 [.int .i64 F, .slice av PV.length cv] ∧ DOwn KPart 58 X W13.heap.size (.slice ax PX.length cx) PX ∧ X.ownsRow W13.heap.size 5 1 vtx ((bigL.take 2048) : List UInt8).length (((bigL.take 2048) : List UInt8).map B8) ∧ DOwn KPart 58 X w.heap.size (.slice ay PY.length cy) PY ∧ X.ownsRow w.heap.size 5 1 vty (((bigL.drop 100).take 2048) : List UInt8).length ((((bigL.drop 100).take 2048) : List UInt8).map B8) ∧ DOwn KPart 58 X W74.heap.size (.slice av PV.length cv) PV ∧ X.ownsRow W74.heap.size 5 1 (.slice atv 0 ctv) ([] : List UInt8).length (([] : List UInt8).map B8)) ⟨rfl, (below_sets (by omega) _ _ _ hbW88), (RowAt.sets_other _ _ _ rW88_0 (by omega)), (RowAt.sets_other _ _ _ rW88_1 (by omega)), (RowAt.sets_other _ _ _ rW88_2 (by omega)), (RowAt.sets_other _ _ _ rW88_3 (by omega)), (RowAt.sets_other _ _ _ rW88_4 (by omega)), (RowAt.sets [.int .i64 F, .slice av PV.length cv] 0 _ _ rW88_5 (by simp)), (down_setlt hyq87_x (down_setlt hyq87_x fW88_0)), (own_setlt hyq87_xt (own_setlt hyq87_xt fW88_1)), (down_setlt hyq87_y (down_setlt hyq87_y fW88_2)), (own_setlt hyq87_yt (own_setlt hyq87_yt fW88_3)), (down_setlt hyq87_v (down_setlt hyq87_v fW88_4)), (own_setlt hyq87_vt (own_setlt hyq87_vt fW88_5))⟩ ?_
            rintro _ W89 ⟨rfl, hbW89, rW89_0, rW89_1, rW89_2, rW89_3, rW89_4, rW89_5, fW89_0, fW89_1, fW89_2, fW89_3, fW89_4, fW89_5⟩
            refine ah_takeW 11 14 (.slice atv 0 ctv) rfl (wanted_none rfl) rfl (by kernel_rfl) (by kernel_rfl) (by kernel_rfl) (fun _ _ _ h => h) ⟨hbW89, rW89_0, rW89_1, rW89_2, rW89_3, rW89_4, fW89_0, fW89_1, fW89_2, fW89_3⟩ (fun W hW => by (try obtain ⟨hbW89, rW89_0, rW89_1, rW89_2, rW89_3, rW89_4, fW89_0, fW89_1, fW89_2, fW89_3⟩ := hW); exact (run_assignOp (eval_of (pf2 (by decide) (put_get _ _ _ (by simp only [put_size]; rw [hsz]; decide)))))) ?_
            refine ah_takeW 12 15 (.int .i64 0) rfl (wanted_none rfl) rfl (by kernel_rfl) (by kernel_rfl) (by kernel_rfl) (fun _ _ _ h => h) ⟨hbW89, rW89_0, rW89_1, rW89_2, rW89_3, rW89_4, fW89_0, fW89_1, fW89_2, fW89_3⟩ (fun W hW => by (try obtain ⟨hbW89, rW89_0, rW89_1, rW89_2, rW89_3, rW89_4, fW89_0, fW89_1, fW89_2, fW89_3⟩ := hW); exact (run_assignOp (eval_of (pf2 (by decide) (put_get _ _ _ (by simp only [put_size]; rw [hsz]; decide)))))) ?_
            refine fresh (C := fun x W => AH _ _ _ _ _ _ x W) (fun x X => _ = X ∧ x.tmps.size = 177 ∧ x.defers = [] ∧ x.tmps[3]? = some (.int .i64 F) ∧ x.tmps[4]? = some (.pointer (some ⟨q5, 0, none⟩)) ∧ x.tmps[5]? = some (.slice (some ⟨q9, 0, none⟩) 2148 2148) ∧ x.tmps[7]? = some (.pointer (some ⟨q24, 0, none⟩)) ∧ x.tmps[8]? = some (vtx) ∧ x.tmps[9]? = some (.int .i64 0) ∧ x.tmps[10]? = some (.pointer (some ⟨qy, 0, none⟩)) ∧ x.tmps[11]? = some (vty) ∧ x.tmps[12]? = some (.int .i64 0) ∧ x.tmps[13]? = some (.pointer (some ⟨q87, 0, none⟩)) ∧ x.tmps[14]? = some (.slice atv 0 ctv) ∧ x.tmps[15]? = some (.int .i64 0)) ⟨rfl, (by simp only [put_size]; exact hsz), (by simp only [put_defers]; exact hdf), (pf4 (by decide) (pf8 (by decide) s_3)), (pf4 (by decide) (pf8 (by decide) s_4)), (pf4 (by decide) (pf8 (by decide) s_5)), (pf4 (by decide) (pf8 (by decide) s_7)), (pf4 (by decide) (pf8 (by decide) s_8)), (pf4 (by decide) (pf8 (by decide) s_9)), (pf4 (by decide) (pf8 (by decide) s_10)), (pf4 (by decide) (pf8 (by decide) s_11)), (pf4 (by decide) (pf8 (by decide) s_12)), (pf2 (by decide) (put_get _ _ _ (by simp only [put_size]; rw [hsz]; decide))), (pf1 (by decide) (put_get _ _ _ (by simp only [put_size]; rw [hsz]; decide))), (put_get _ _ _ (by simp only [put_size]; rw [hsz]; decide))⟩ ?_
            clear hsz hdf s_3 s_4 s_5 s_7 s_8 s_9 s_10 s_11 s_12
            rintro a _ ⟨rfl, hsz, hdf, s_3, s_4, s_5, s_7, s_8, s_9, s_10, s_11, s_12, s_13, s_14, s_15⟩
            refine ah_done (by kernel_rfl) ?_
            have hws : w.heap.size ≤ W74.heap.size := hbs_v.size
            exact ow_then (hK73 _ _ ⟨q87, av, cv, atv, ctv, PV, hPv, by omega, by omega, by omega, by omega, by omega, hsz, hdf, s_3, s_4, s_5, s_7, s_8, s_9, s_10, s_11, s_12, (by first | exact s_13 | (rw [s_13]; congr 2; first | rfl | omega | (push_cast; omega)) | (rw [s_13]; first | rfl | (simp; try omega))), s_14, s_15, hbW89, rW89_0, rW89_1, rW89_2, rW89_3, rW89_4, rW89_5, fW89_0, fW89_1, fW89_2, fW89_3, (DOwn.mono fW89_4 hws), (own_mono fW89_5 hws)⟩)
          · skip
            obtain ⟨q91, hq91⟩ : ∃ x, x = W74.heap.size := ⟨_, rfl⟩
            refine ao_run rfl (wanted_none rfl) 13 (.pointer (some ⟨q91, 0, none⟩)) (W74.alloc (.cells #[.int .i64 0, .slice none 0 0] 24)) rfl (by rw [hq91]; exact (run_allocOp (by simp [go_sem, Instr.alloc]))) ⟨(hbW74.alloc hbW74.size _), (rW74_0.below ((Below.refl _ W74).alloc (Nat.le_refl _) _)), (rW74_1.below ((Below.refl _ W74).alloc (Nat.le_refl _) _)), (rW74_2.below ((Below.refl _ W74).alloc (Nat.le_refl _) _)), (rW74_3.below ((Below.refl _ W74).alloc (Nat.le_refl _) _)), (rW74_4.below ((Below.refl _ W74).alloc (Nat.le_refl _) _)), (fW74_0.below ((Below.refl _ W74).alloc (Nat.le_refl _) _)), (below_own fW74_1 ((Below.refl _ W74).alloc (Nat.le_refl _) _)), (fW74_2.below ((Below.refl _ W74).alloc (Nat.le_refl _) _)), (below_own fW74_3 ((Below.refl _ W74).alloc (Nat.le_refl _) _))⟩ ?_
            have hqq91 : w.heap.size ≤ q91 := by rw [hq91]; exact hbW74.size
            have hyq91_x : ∀ k, DBlk (.slice ax PX.length cx) PX k → k < q91 := fun k hk => by have := (dblk_lt fW74_0 hk).2; omega
            have hyq91_xt : ∀ k, (vtx : Value).ownBlock = some k → k < q91 := fun k hk => by have := (blk_lt fW74_1 hk).2; omega
            have hyq91_y : ∀ k, DBlk (.slice ay PY.length cy) PY k → k < q91 := fun k hk => by have := (dblk_lt fW74_2 hk).2; omega
            have hyq91_yt : ∀ k, (vty : Value).ownBlock = some k → k < q91 := fun k hk => by have := (blk_lt fW74_3 hk).2; omega
            have hnq91_q1 : q1 < q91 := by rw [hq91]; exact rW74_0.2.2
            have hnq91_q5 : q5 < q91 := by rw [hq91]; exact rW74_1.2.2
            have hnq91_q9 : q9 < q91 := by rw [hq91]; exact rW74_2.2.2
            have hnq91_q24 : q24 < q91 := by rw [hq91]; exact rW74_3.2.2
            have hnq91_qy : qy < q91 := by rw [hq91]; exact rW74_4.2.2
            refine fresh (C := fun x W => AH _ _ _ _ _ _ x W) (fun x X => _ = x ∧ Below w.heap.size w X ∧ RowAt X q1 [c0, .int .i64 N1, c2, .int .i64 N3] ∧ RowAt X q5 [.int .i64 F, .slice none 0 0] ∧ RowAt X q9 (bigL.map B8) ∧ RowAt X q24 [.int .i64 (addv F 2048), .slice ax PX.length cx] ∧ RowAt X qy [.int .i64 (addv F 2048), .slice ay PY.length cy] ∧ RowAt X q91 [.int .i64 0, .slice none 0 0] ∧ DOwn KPart 58 X W13.heap.size (.slice ax PX.length cx) PX ∧ X.ownsRow W13.heap.size 5 1 vtx ((bigL.take 2048) : List UInt8).length (((bigL.take 2048) : List UInt8).map B8) ∧ DOwn KPart 58 X w.heap.size (.slice ay PY.length cy) PY ∧ X.ownsRow w.heap.size 5 1 vty (((bigL.drop 100).take 2048) : List UInt8).length ((((bigL.drop 100).take 2048) : List UInt8).map B8)) ⟨rfl, (hbW74.alloc hbW74.size _), (rW74_0.below ((Below.refl _ W74).alloc (Nat.le_refl _) _)), (rW74_1.below ((Below.refl _ W74).alloc (Nat.le_refl _) _)), (rW74_2.below ((Below.refl _ W74).alloc (Nat.le_refl _) _)), (rW74_3.below ((Below.refl _ W74).alloc (Nat.le_refl _) _)), (rW74_4.below ((Below.refl _ W74).alloc (Nat.le_refl _) _)), (by rw [hq91]; exact rowAt_alloc _ [.int .i64 0, .slice none 0 0] _), (fW74_0.below ((Below.refl _ W74).alloc (Nat.le_refl _) _)), (below_own fW74_1 ((Below.refl _ W74).alloc (Nat.le_refl _) _)), (fW74_2.below ((Below.refl _ W74).alloc (Nat.le_refl _) _)), (below_own fW74_3 ((Below.refl _ W74).alloc (Nat.le_refl _) _))⟩ ?_
            rintro _ W92 ⟨rfl, hbW92, rW92_0, rW92_1, rW92_2, rW92_3, rW92_4, rW92_5, fW92_0, fW92_1, fW92_2, fW92_3⟩
            clear hq91
            refine ah_one 4 (by kernel_rfl) ?_
            have hbs_v := hbW92
            have hwv_q1 : q1 < W92.heap.size := rW92_0.2.2
            have hwv_q5 : q5 < W92.heap.size := rW92_1.2.2
            have hwv_q9 : q9 < W92.heap.size := rW92_2.2.2
            have hwv_q24 : q24 < W92.heap.size := rW92_3.2.2
            have hwv_qy : qy < W92.heap.size := rW92_4.2.2
            have hwv_q91 : q91 < W92.heap.size := rW92_5.2.2
            refine ao_call rfl (wanted_none rfl) 63 (fun v X => ∃ av cv atv ctv PV, v = .tuple #[.agg #[.int .i64 F, .slice av PV.length cv], (.slice atv 0 ctv), .int .i64 0] ∧ PV.map Prod.fst = [] ∧ Below W92.heap.size W92 X ∧ DOwn KPart 58 X W92.heap.size (.slice av PV.length cv) PV ∧ X.ownsRow W92.heap.size 5 1 (.slice atv 0 ctv) ([] : List UInt8).length (([] : List UInt8).map B8)) rfl _ _ (run_callOp Try.func20 rfl rfl (arr3 (eval_of (pf4 (by decide) (put_get _ _ _ (by rw [hsz]; decide)))) (eval_of (pf1 (by decide) (put_get _ _ _ (by simp only [put_size]; rw [hsz]; decide)))) (eval_of (pf2 (by decide) (put_get _ _ _ (by simp only [put_size]; rw [hsz]; decide)))))) ((radd_good _ _ F (addv F 2048) [] bigL W92 (KPart_nil W92) (sl_mid rW92_2 0 2148 2148 (by rw [bigL_len]; omega) (by omega) (by have : maxLen = 9223372036854775807 := rfl; omega)) (ok_nil hF (addv_bd _ _) (by rw [bigL_len]; decide))).mono fun e X ⟨v4, vt, PL, he, hP, ho, ht, _, hb⟩ => by obtain ⟨a4, c4, rfl⟩ := ho.slice; obtain ⟨e1, e2, e3⟩ := (big_far hF); rw [e1] at he; rw [e2] at hP; rw [e3] at ht; obtain ⟨at4, ct4, rfl⟩ := own_slice ht; exact ⟨_, he, a4, c4, at4, ct4, PL, rfl, hP, hb, ho, ht⟩) ?_
            rintro _ V94 ⟨av, cv, atv, ctv, PV, rfl, hPv, hb93, hv, hvt⟩
            have hbN := (hbW92.trans (hb93.mono hbW92.size))
            have hbN95 := hbN
            have rN96 := (rW92_0.below hb93)
            have rN97 := (rW92_1.below hb93)
            have rN98 := (rW92_2.below hb93)
            have rN99 := (rW92_3.below hb93)
            have rN100 := (rW92_4.below hb93)
            have rN101 := (rW92_5.below hb93)
            have fN102 := (fW92_0.below hb93)
            have fN103 := (below_own fW92_1 hb93)
            have fN104 := (fW92_2.below hb93)
            have fN105 := (below_own fW92_3 hb93)
            refine ⟨⟨hbN95, rN96, rN97, rN98, rN99, rN100, fN102, fN103, fN104, fN105⟩, ?_⟩
            refine ah_takeW 5 58 (.tuple #[.agg #[.int .i64 F, .slice av PV.length cv], .slice atv 0 ctv, .int .i64 0]) rfl (wanted_none rfl) rfl (by kernel_rfl) (by kernel_rfl) (by kernel_rfl) (fun _ _ _ h => h) ⟨hbN95, rN96, rN97, rN98, rN99, rN100, fN102, fN103, fN104, fN105⟩ (fun W hW => by (try obtain ⟨hbN95, rN96, rN97, rN98, rN99, rN100, fN102, fN103, fN104, fN105⟩ := hW); exact (run_moveOp (eval_of (put_get _ _ _ (by simp only [put_size]; rw [hsz]; decide))))) ?_
            refine ah_takeW 6 64 (.agg #[.int .i64 F, .slice av PV.length cv]) rfl (wanted_none rfl) rfl (by kernel_rfl) (by kernel_rfl) (by kernel_rfl) (fun _ _ _ h => h) ⟨hbN95, rN96, rN97, rN98, rN99, rN100, fN102, fN103, fN104, fN105⟩ (fun W hW => by (try obtain ⟨hbN95, rN96, rN97, rN98, rN99, rN100, fN102, fN103, fN104, fN105⟩ := hW); exact (run_extractOp (eval_of (put_get _ _ _ (by simp only [put_size]; rw [hsz]; decide))) rfl)) ?_
            refine ah_takeW 7 65 (.slice atv 0 ctv) rfl (wanted_none rfl) rfl (by kernel_rfl) (by kernel_rfl) (by kernel_rfl) (fun _ _ _ h => h) ⟨hbN95, rN96, rN97, rN98, rN99, rN100, fN102, fN103, fN104, fN105⟩ (fun W hW => by (try obtain ⟨hbN95, rN96, rN97, rN98, rN99, rN100, fN102, fN103, fN104, fN105⟩ := hW); exact (run_extractOp (eval_of (pf1 (by decide) (put_get _ _ _ (by simp only [put_size]; rw [hsz]; decide)))) rfl)) ?_
            refine ah_takeW 8 66 (.int .i64 0) rfl (wanted_none rfl) rfl (by kernel_rfl) (by kernel_rfl) (by kernel_rfl) (fun _ _ _ h => h) ⟨hbN95, rN96, rN97, rN98, rN99, rN100, fN102, fN103, fN104, fN105⟩ (fun W hW => by (try obtain ⟨hbN95, rN96, rN97, rN98, rN99, rN100, fN102, fN103, fN104, fN105⟩ := hW); exact (run_extractOp (eval_of (pf2 (by decide) (put_get _ _ _ (by simp only [put_size]; rw [hsz]; decide)))) rfl)) ?_
            refine ah_one 10 (by kernel_rfl) ?_
            refine ao_skip rfl (wanted_none rfl) rfl _ (run_storeOp (eval_of (pf1 (by decide) (pf4 (by decide) (put_get _ _ _ (by simp only [put_size]; rw [hsz]; decide))))) (eval_of (pf2 (by decide) (put_get _ _ _ (by simp only [put_size]; rw [hsz]; decide)))) (run_storeN (xs := [.int .i64 F, .slice av PV.length cv]) rN101 (by simp) (by kernel_rfl) rfl)) ⟨(below_sets (by omega) _ _ _ hbN95), (RowAt.sets_other _ _ _ rN96 (by omega)), (RowAt.sets_other _ _ _ rN97 (by omega)), (RowAt.sets_other _ _ _ rN98 (by omega)), (RowAt.sets_other _ _ _ rN99 (by omega)), (RowAt.sets_other _ _ _ rN100 (by omega)), (down_setlt hyq91_x (down_setlt hyq91_x fN102)), (own_setlt hyq91_xt (own_setlt hyq91_xt fN103)), (down_setlt hyq91_y (down_setlt hyq91_y fN104)), (own_setlt hyq91_yt (own_setlt hyq91_yt fN105))⟩ ?_
            refine fresh (C := fun x W => AH _ _ _ _ _ _ x W) (fun x X => _ = x ∧ Below w.heap.size w X ∧ RowAt X q1 [c0, .int .i64 N1, c2, .int .i64 N3] ∧ RowAt X q5 [.int .i64 F, .slice none 0 0] ∧ RowAt X q9 (bigL.map B8) ∧ RowAt X q24 [.int .i64 (addv F 2048), .slice ax PX.length cx] ∧ RowAt X qy [.int .i64 (addv F 2048), .slice ay PY.length cy] ∧ RowAt X q91 [.int .i64 F, .slice av PV.length cv] ∧ DOwn KPart 58 X W13.heap.size (.slice ax PX.length cx) PX ∧ X.ownsRow W13.heap.size 5 1 vtx ((bigL.take 2048) : List UInt8).length (((bigL.take 2048) : List UInt8).map B8) ∧ DOwn KPart 58 X w.heap.size (.slice ay PY.length cy) PY ∧ X.ownsRow w.heap.size 5 1 vty (((bigL.drop 100).take 2048) : List UInt8).length ((((bigL.drop 100).take 2048) : List UInt8).map B8) ∧ DOwn KPart 58 X W92.heap.size (.slice av PV.length cv) PV ∧ X.ownsRow W92.heap.size 5 1 (.slice atv 0 ctv) ([] : List UInt8).length (([] : List UInt8).map B8)) ⟨rfl, (below_sets (by omega) _ _ _ hbN95), (RowAt.sets_other _ _ _ rN96 (by omega)), (RowAt.sets_other _ _ _ rN97 (by omega)), (RowAt.sets_other _ _ _ rN98 (by omega)), (RowAt.sets_other _ _ _ rN99 (by omega)), (RowAt.sets_other _ _ _ rN100 (by omega)), (RowAt.sets [.int .i64 F, .slice av PV.length cv] 0 _ _ rN101 (by simp)), (down_setlt hyq91_x (down_setlt hyq91_x fN102)), (own_setlt hyq91_xt (own_setlt hyq91_xt fN103)), (down_setlt hyq91_y (down_setlt hyq91_y fN104)), (own_setlt hyq91_yt (own_setlt hyq91_yt fN105)), (down_setl hwv_q91 (down_setl hwv_q91 hv)), (own_set2 hwv_q91 (own_set2 hwv_q91 hvt))⟩ ?_
            rintro _ W106 ⟨rfl, hbW106, rW106_0, rW106_1, rW106_2, rW106_3, rW106_4, rW106_5, fW106_0, fW106_1, fW106_2, fW106_3, fW106_4, fW106_5⟩
            refine ah_takeW 11 14 (.slice atv 0 ctv) rfl (wanted_none rfl) rfl (by kernel_rfl) (by kernel_rfl) (by kernel_rfl) (fun _ _ _ h => h) ⟨hbW106, rW106_0, rW106_1, rW106_2, rW106_3, rW106_4, fW106_0, fW106_1, fW106_2, fW106_3⟩ (fun W hW => by (try obtain ⟨hbW106, rW106_0, rW106_1, rW106_2, rW106_3, rW106_4, fW106_0, fW106_1, fW106_2, fW106_3⟩ := hW); exact (run_assignOp (eval_of (pf1 (by decide) (put_get _ _ _ (by simp only [put_size]; rw [hsz]; decide)))))) ?_
            refine ah_takeW 12 15 (.int .i64 0) rfl (wanted_none rfl) rfl (by kernel_rfl) (by kernel_rfl) (by kernel_rfl) (fun _ _ _ h => h) ⟨hbW106, rW106_0, rW106_1, rW106_2, rW106_3, rW106_4, fW106_0, fW106_1, fW106_2, fW106_3⟩ (fun W hW => by (try obtain ⟨hbW106, rW106_0, rW106_1, rW106_2, rW106_3, rW106_4, fW106_0, fW106_1, fW106_2, fW106_3⟩ := hW); exact (run_assignOp (eval_of (pf1 (by decide) (put_get _ _ _ (by simp only [put_size]; rw [hsz]; decide)))))) ?_
            refine fresh (C := fun x W => AH _ _ _ _ _ _ x W) (fun x X => _ = X ∧ x.tmps.size = 177 ∧ x.defers = [] ∧ x.tmps[3]? = some (.int .i64 F) ∧ x.tmps[4]? = some (.pointer (some ⟨q5, 0, none⟩)) ∧ x.tmps[5]? = some (.slice (some ⟨q9, 0, none⟩) 2148 2148) ∧ x.tmps[7]? = some (.pointer (some ⟨q24, 0, none⟩)) ∧ x.tmps[8]? = some (vtx) ∧ x.tmps[9]? = some (.int .i64 0) ∧ x.tmps[10]? = some (.pointer (some ⟨qy, 0, none⟩)) ∧ x.tmps[11]? = some (vty) ∧ x.tmps[12]? = some (.int .i64 0) ∧ x.tmps[13]? = some (.pointer (some ⟨q91, 0, none⟩)) ∧ x.tmps[14]? = some (.slice atv 0 ctv) ∧ x.tmps[15]? = some (.int .i64 0)) ⟨rfl, (by simp only [put_size]; exact hsz), (by simp only [put_defers]; exact hdf), (pf4 (by decide) (pf8 (by decide) s_3)), (pf4 (by decide) (pf8 (by decide) s_4)), (pf4 (by decide) (pf8 (by decide) s_5)), (pf4 (by decide) (pf8 (by decide) s_7)), (pf4 (by decide) (pf8 (by decide) s_8)), (pf4 (by decide) (pf8 (by decide) s_9)), (pf4 (by decide) (pf8 (by decide) s_10)), (pf4 (by decide) (pf8 (by decide) s_11)), (pf4 (by decide) (pf8 (by decide) s_12)), (pf1 (by decide) (pf2 (by decide) (pf4 (by decide) (put_get _ _ _ (by simp only [put_size]; rw [hsz]; decide))))), (pf1 (by decide) (put_get _ _ _ (by simp only [put_size]; rw [hsz]; decide))), (put_get _ _ _ (by simp only [put_size]; rw [hsz]; decide))⟩ ?_
            clear hsz hdf s_3 s_4 s_5 s_7 s_8 s_9 s_10 s_11 s_12
            rintro a _ ⟨rfl, hsz, hdf, s_3, s_4, s_5, s_7, s_8, s_9, s_10, s_11, s_12, s_13, s_14, s_15⟩
            refine ah_done (by kernel_rfl) ?_
            have hws : w.heap.size ≤ W92.heap.size := hbs_v.size
            exact ow_then (hK73 _ _ ⟨q91, av, cv, atv, ctv, PV, hPv, by omega, by omega, by omega, by omega, by omega, hsz, hdf, s_3, s_4, s_5, s_7, s_8, s_9, s_10, s_11, s_12, (by first | exact s_13 | (rw [s_13]; congr 2; first | rfl | omega | (push_cast; omega)) | (rw [s_13]; first | rfl | (simp; try omega))), s_14, s_15, hbW106, rW106_0, rW106_1, rW106_2, rW106_3, rW106_4, rW106_5, fW106_0, fW106_1, fW106_2, fW106_3, (DOwn.mono fW106_4 hws), (own_mono fW106_5 hws)⟩)
        · skip
          obtain ⟨q108, hq108⟩ : ∃ x, x = W74.heap.size := ⟨_, rfl⟩
          refine ao_run rfl (wanted_none rfl) 13 (.pointer (some ⟨q108, 0, none⟩)) (W74.alloc (.cells #[.int .i64 0, .slice none 0 0] 24)) rfl (by rw [hq108]; exact (run_allocOp (by simp [go_sem, Instr.alloc]))) ⟨(hbW74.alloc hbW74.size _), (rW74_0.below ((Below.refl _ W74).alloc (Nat.le_refl _) _)), (rW74_1.below ((Below.refl _ W74).alloc (Nat.le_refl _) _)), (rW74_2.below ((Below.refl _ W74).alloc (Nat.le_refl _) _)), (rW74_3.below ((Below.refl _ W74).alloc (Nat.le_refl _) _)), (rW74_4.below ((Below.refl _ W74).alloc (Nat.le_refl _) _)), (fW74_0.below ((Below.refl _ W74).alloc (Nat.le_refl _) _)), (below_own fW74_1 ((Below.refl _ W74).alloc (Nat.le_refl _) _)), (fW74_2.below ((Below.refl _ W74).alloc (Nat.le_refl _) _)), (below_own fW74_3 ((Below.refl _ W74).alloc (Nat.le_refl _) _))⟩ ?_
          have hqq108 : w.heap.size ≤ q108 := by rw [hq108]; exact hbW74.size
          have hyq108_x : ∀ k, DBlk (.slice ax PX.length cx) PX k → k < q108 := fun k hk => by have := (dblk_lt fW74_0 hk).2; omega
          have hyq108_xt : ∀ k, (vtx : Value).ownBlock = some k → k < q108 := fun k hk => by have := (blk_lt fW74_1 hk).2; omega
          have hyq108_y : ∀ k, DBlk (.slice ay PY.length cy) PY k → k < q108 := fun k hk => by have := (dblk_lt fW74_2 hk).2; omega
          have hyq108_yt : ∀ k, (vty : Value).ownBlock = some k → k < q108 := fun k hk => by have := (blk_lt fW74_3 hk).2; omega
          have hnq108_q1 : q1 < q108 := by rw [hq108]; exact rW74_0.2.2
          have hnq108_q5 : q5 < q108 := by rw [hq108]; exact rW74_1.2.2
          have hnq108_q9 : q9 < q108 := by rw [hq108]; exact rW74_2.2.2
          have hnq108_q24 : q24 < q108 := by rw [hq108]; exact rW74_3.2.2
          have hnq108_qy : qy < q108 := by rw [hq108]; exact rW74_4.2.2
          refine fresh (C := fun x W => AH _ _ _ _ _ _ x W) (fun x X => _ = x ∧ Below w.heap.size w X ∧ RowAt X q1 [c0, .int .i64 N1, c2, .int .i64 N3] ∧ RowAt X q5 [.int .i64 F, .slice none 0 0] ∧ RowAt X q9 (bigL.map B8) ∧ RowAt X q24 [.int .i64 (addv F 2048), .slice ax PX.length cx] ∧ RowAt X qy [.int .i64 (addv F 2048), .slice ay PY.length cy] ∧ RowAt X q108 [.int .i64 0, .slice none 0 0] ∧ DOwn KPart 58 X W13.heap.size (.slice ax PX.length cx) PX ∧ X.ownsRow W13.heap.size 5 1 vtx ((bigL.take 2048) : List UInt8).length (((bigL.take 2048) : List UInt8).map B8) ∧ DOwn KPart 58 X w.heap.size (.slice ay PY.length cy) PY ∧ X.ownsRow w.heap.size 5 1 vty (((bigL.drop 100).take 2048) : List UInt8).length ((((bigL.drop 100).take 2048) : List UInt8).map B8)) ⟨rfl, (hbW74.alloc hbW74.size _), (rW74_0.below ((Below.refl _ W74).alloc (Nat.le_refl _) _)), (rW74_1.below ((Below.refl _ W74).alloc (Nat.le_refl _) _)), (rW74_2.below ((Below.refl _ W74).alloc (Nat.le_refl _) _)), (rW74_3.below ((Below.refl _ W74).alloc (Nat.le_refl _) _)), (rW74_4.below ((Below.refl _ W74).alloc (Nat.le_refl _) _)), (by rw [hq108]; exact rowAt_alloc _ [.int .i64 0, .slice none 0 0] _), (fW74_0.below ((Below.refl _ W74).alloc (Nat.le_refl _) _)), (below_own fW74_1 ((Below.refl _ W74).alloc (Nat.le_refl _) _)), (fW74_2.below ((Below.refl _ W74).alloc (Nat.le_refl _) _)), (below_own fW74_3 ((Below.refl _ W74).alloc (Nat.le_refl _) _))⟩ ?_
          rintro _ W109 ⟨rfl, hbW109, rW109_0, rW109_1, rW109_2, rW109_3, rW109_4, rW109_5, fW109_0, fW109_1, fW109_2, fW109_3⟩
          clear hq108
          refine ah_one 2 (by kernel_rfl) ?_
          refine ao_call rfl (wanted_none rfl) 61 (fun v X => v = (.int .i64 (addv F 2048)) ∧ W109 = X) rfl _ _ (run_callOp Try.func18 rfl rfl (arr2 (eval_of (pf2 (by decide) (put_get _ _ _ (by simp only [put_size]; rw [hsz]; decide)))) (eval_cst _ _))) ((radd12_any F 2048 W109).mono fun e X h => ⟨_, h.1, rfl, h.2⟩) ?_
          rintro _ _ ⟨rfl, rfl⟩
          refine ⟨⟨hbW109, rW109_0, rW109_1, rW109_2, rW109_3, rW109_4, fW109_0, fW109_1, fW109_2, fW109_3⟩, ?_⟩
          refine ah_one 4 (by kernel_rfl) ?_
          have hbs_v := hbW109
          have hwv_q1 : q1 < W109.heap.size := rW109_0.2.2
          have hwv_q5 : q5 < W109.heap.size := rW109_1.2.2
          have hwv_q9 : q9 < W109.heap.size := rW109_2.2.2
          have hwv_q24 : q24 < W109.heap.size := rW109_3.2.2
          have hwv_qy : qy < W109.heap.size := rW109_4.2.2
          have hwv_q108 : q108 < W109.heap.size := rW109_5.2.2
          refine ao_call rfl (wanted_none rfl) 63 (fun v X => ∃ av cv atv ctv PV, v = .tuple #[.agg #[.int .i64 F, .slice av PV.length cv], (.slice atv 0 ctv), .int .i64 0] ∧ PV.map Prod.fst = [] ∧ Below W109.heap.size W109 X ∧ DOwn KPart 58 X W109.heap.size (.slice av PV.length cv) PV ∧ X.ownsRow W109.heap.size 5 1 (.slice atv 0 ctv) ([] : List UInt8).length (([] : List UInt8).map B8)) rfl _ _ (run_callOp Try.func20 rfl rfl (arr3 (eval_of (pf4 (by decide) (put_get _ _ _ (by rw [hsz]; decide)))) (eval_of (put_get _ _ _ (by simp only [put_size]; rw [hsz]; decide))) (eval_of (pf2 (by decide) (put_get _ _ _ (by simp only [put_size]; rw [hsz]; decide)))))) ((radd_good _ _ F (addv F 2048) [] bigL W109 (KPart_nil W109) (sl_mid rW109_2 0 2148 2148 (by rw [bigL_len]; omega) (by omega) (by have : maxLen = 9223372036854775807 := rfl; omega)) (ok_nil hF (addv_bd _ _) (by rw [bigL_len]; decide))).mono fun e X ⟨v4, vt, PL, he, hP, ho, ht, _, hb⟩ => by obtain ⟨a4, c4, rfl⟩ := ho.slice; obtain ⟨e1, e2, e3⟩ := (big_far hF); rw [e1] at he; rw [e2] at hP; rw [e3] at ht; obtain ⟨at4, ct4, rfl⟩ := own_slice ht; exact ⟨_, he, a4, c4, at4, ct4, PL, rfl, hP, hb, ho, ht⟩) ?_
          rintro _ V111 ⟨av, cv, atv, ctv, PV, rfl, hPv, hb110, hv, hvt⟩
          have hbN := (hbW109.trans (hb110.mono hbW109.size))
          have hbN112 := hbN
          have rN113 := (rW109_0.below hb110)
          have rN114 := (rW109_1.below hb110)
          have rN115 := (rW109_2.below hb110)
          have rN116 := (rW109_3.below hb110)
          have rN117 := (rW109_4.below hb110)
          have rN118 := (rW109_5.below hb110)
          have fN119 := (fW109_0.below hb110)
          have fN120 := (below_own fW109_1 hb110)
          have fN121 := (fW109_2.below hb110)
          have fN122 := (below_own fW109_3 hb110)
          refine ⟨⟨hbN112, rN113, rN114, rN115, rN116, rN117, fN119, fN120, fN121, fN122⟩, ?_⟩
          refine ah_takeW 5 58 (.tuple #[.agg #[.int .i64 F, .slice av PV.length cv], .slice atv 0 ctv, .int .i64 0]) rfl (wanted_none rfl) rfl (by kernel_rfl) (by kernel_rfl) (by kernel_rfl) (fun _ _ _ h => h) ⟨hbN112, rN113, rN114, rN115, rN116, rN117, fN119, fN120, fN121, fN122⟩ (fun W hW => by (try obtain ⟨hbN112, rN113, rN114, rN115, rN116, rN117, fN119, fN120, fN121, fN122⟩ := hW); exact (run_moveOp (eval_of (put_get _ _ _ (by simp only [put_size]; rw [hsz]; decide))))) ?_
          refine ah_takeW 6 64 (.agg #[.int .i64 F, .slice av PV.length cv]) rfl (wanted_none rfl) rfl (by kernel_rfl) (by kernel_rfl) (by kernel_rfl) (fun _ _ _ h => h) ⟨hbN112, rN113, rN114, rN115, rN116, rN117, fN119, fN120, fN121, fN122⟩ (fun W hW => by (try obtain ⟨hbN112, rN113, rN114, rN115, rN116, rN117, fN119, fN120, fN121, fN122⟩ := hW); exact (run_extractOp (eval_of (put_get _ _ _ (by simp only [put_size]; rw [hsz]; decide))) rfl)) ?_
          refine ah_takeW 7 65 (.slice atv 0 ctv) rfl (wanted_none rfl) rfl (by kernel_rfl) (by kernel_rfl) (by kernel_rfl) (fun _ _ _ h => h) ⟨hbN112, rN113, rN114, rN115, rN116, rN117, fN119, fN120, fN121, fN122⟩ (fun W hW => by (try obtain ⟨hbN112, rN113, rN114, rN115, rN116, rN117, fN119, fN120, fN121, fN122⟩ := hW); exact (run_extractOp (eval_of (pf1 (by decide) (put_get _ _ _ (by simp only [put_size]; rw [hsz]; decide)))) rfl)) ?_
          refine ah_takeW 8 66 (.int .i64 0) rfl (wanted_none rfl) rfl (by kernel_rfl) (by kernel_rfl) (by kernel_rfl) (fun _ _ _ h => h) ⟨hbN112, rN113, rN114, rN115, rN116, rN117, fN119, fN120, fN121, fN122⟩ (fun W hW => by (try obtain ⟨hbN112, rN113, rN114, rN115, rN116, rN117, fN119, fN120, fN121, fN122⟩ := hW); exact (run_extractOp (eval_of (pf2 (by decide) (put_get _ _ _ (by simp only [put_size]; rw [hsz]; decide)))) rfl)) ?_
          refine ah_one 10 (by kernel_rfl) ?_
          refine ao_skip rfl (wanted_none rfl) rfl _ (run_storeOp (eval_of (pf2 (by decide) (pf4 (by decide) (put_get _ _ _ (by simp only [put_size]; rw [hsz]; decide))))) (eval_of (pf2 (by decide) (put_get _ _ _ (by simp only [put_size]; rw [hsz]; decide)))) (run_storeN (xs := [.int .i64 F, .slice av PV.length cv]) rN118 (by simp) (by kernel_rfl) rfl)) ⟨(below_sets (by omega) _ _ _ hbN112), (RowAt.sets_other _ _ _ rN113 (by omega)), (RowAt.sets_other _ _ _ rN114 (by omega)), (RowAt.sets_other _ _ _ rN115 (by omega)), (RowAt.sets_other _ _ _ rN116 (by omega)), (RowAt.sets_other _ _ _ rN117 (by omega)), (down_setlt hyq108_x (down_setlt hyq108_x fN119)), (own_setlt hyq108_xt (own_setlt hyq108_xt fN120)), (down_setlt hyq108_y (down_setlt hyq108_y fN121)), (own_setlt hyq108_yt (own_setlt hyq108_yt fN122))⟩ ?_
          refine fresh (C := fun x W => AH _ _ _ _ _ _ x W) (fun x X => _ = x ∧ Below w.heap.size w X ∧ RowAt X q1 [c0, .int .i64 N1, c2, .int .i64 N3] ∧ RowAt X q5 [.int .i64 F, .slice none 0 0] ∧ RowAt X q9 (bigL.map B8) ∧ RowAt X q24 [.int .i64 (addv F 2048), .slice ax PX.length cx] ∧ RowAt X qy [.int .i64 (addv F 2048), .slice ay PY.length cy] ∧ RowAt X q108 [.int .i64 F, .slice av PV.length cv] ∧ DOwn KPart 58 X W13.heap.size (.slice ax PX.length cx) PX ∧ X.ownsRow W13.heap.size 5 1 vtx ((bigL.take 2048) : List UInt8).length (((bigL.take 2048) : List UInt8).map B8) ∧ DOwn KPart 58 X w.heap.size (.slice ay PY.length cy) PY ∧ X.ownsRow w.heap.size 5 1 vty (((bigL.drop 100).take 2048) : List UInt8).length ((((bigL.drop 100).take 2048) : List UInt8).map B8) ∧ DOwn KPart 58 X W109.heap.size (.slice av PV.length cv) PV ∧ X.ownsRow W109.heap.size 5 1 (.slice atv 0 ctv) ([] : List UInt8).length (([] : List UInt8).map B8)) ⟨rfl, (below_sets (by omega) _ _ _ hbN112), (RowAt.sets_other _ _ _ rN113 (by omega)), (RowAt.sets_other _ _ _ rN114 (by omega)), (RowAt.sets_other _ _ _ rN115 (by omega)), (RowAt.sets_other _ _ _ rN116 (by omega)), (RowAt.sets_other _ _ _ rN117 (by omega)), (RowAt.sets [.int .i64 F, .slice av PV.length cv] 0 _ _ rN118 (by simp)), (down_setlt hyq108_x (down_setlt hyq108_x fN119)), (own_setlt hyq108_xt (own_setlt hyq108_xt fN120)), (down_setlt hyq108_y (down_setlt hyq108_y fN121)), (own_setlt hyq108_yt (own_setlt hyq108_yt fN122)), (down_setl hwv_q108 (down_setl hwv_q108 hv)), (own_set2 hwv_q108 (own_set2 hwv_q108 hvt))⟩ ?_
          rintro _ W123 ⟨rfl, hbW123, rW123_0, rW123_1, rW123_2, rW123_3, rW123_4, rW123_5, fW123_0, fW123_1, fW123_2, fW123_3, fW123_4, fW123_5⟩
          refine ah_takeW 11 14 (.slice atv 0 ctv) rfl (wanted_none rfl) rfl (by kernel_rfl) (by kernel_rfl) (by kernel_rfl) (fun _ _ _ h => h) ⟨hbW123, rW123_0, rW123_1, rW123_2, rW123_3, rW123_4, fW123_0, fW123_1, fW123_2, fW123_3⟩ (fun W hW => by (try obtain ⟨hbW123, rW123_0, rW123_1, rW123_2, rW123_3, rW123_4, fW123_0, fW123_1, fW123_2, fW123_3⟩ := hW); exact (run_assignOp (eval_of (pf1 (by decide) (put_get _ _ _ (by simp only [put_size]; rw [hsz]; decide)))))) ?_
          refine ah_takeW 12 15 (.int .i64 0) rfl (wanted_none rfl) rfl (by kernel_rfl) (by kernel_rfl) (by kernel_rfl) (fun _ _ _ h => h) ⟨hbW123, rW123_0, rW123_1, rW123_2, rW123_3, rW123_4, fW123_0, fW123_1, fW123_2, fW123_3⟩ (fun W hW => by (try obtain ⟨hbW123, rW123_0, rW123_1, rW123_2, rW123_3, rW123_4, fW123_0, fW123_1, fW123_2, fW123_3⟩ := hW); exact (run_assignOp (eval_of (pf1 (by decide) (put_get _ _ _ (by simp only [put_size]; rw [hsz]; decide)))))) ?_
          refine fresh (C := fun x W => AH _ _ _ _ _ _ x W) (fun x X => _ = X ∧ x.tmps.size = 177 ∧ x.defers = [] ∧ x.tmps[3]? = some (.int .i64 F) ∧ x.tmps[4]? = some (.pointer (some ⟨q5, 0, none⟩)) ∧ x.tmps[5]? = some (.slice (some ⟨q9, 0, none⟩) 2148 2148) ∧ x.tmps[7]? = some (.pointer (some ⟨q24, 0, none⟩)) ∧ x.tmps[8]? = some (vtx) ∧ x.tmps[9]? = some (.int .i64 0) ∧ x.tmps[10]? = some (.pointer (some ⟨qy, 0, none⟩)) ∧ x.tmps[11]? = some (vty) ∧ x.tmps[12]? = some (.int .i64 0) ∧ x.tmps[13]? = some (.pointer (some ⟨q108, 0, none⟩)) ∧ x.tmps[14]? = some (.slice atv 0 ctv) ∧ x.tmps[15]? = some (.int .i64 0)) ⟨rfl, (by simp only [put_size]; exact hsz), (by simp only [put_defers]; exact hdf), (pf4 (by decide) (pf8 (by decide) s_3)), (pf4 (by decide) (pf8 (by decide) s_4)), (pf4 (by decide) (pf8 (by decide) s_5)), (pf4 (by decide) (pf8 (by decide) s_7)), (pf4 (by decide) (pf8 (by decide) s_8)), (pf4 (by decide) (pf8 (by decide) s_9)), (pf4 (by decide) (pf8 (by decide) s_10)), (pf4 (by decide) (pf8 (by decide) s_11)), (pf4 (by decide) (pf8 (by decide) s_12)), (pf8 (by decide) (put_get _ _ _ (by simp only [put_size]; rw [hsz]; decide))), (pf1 (by decide) (put_get _ _ _ (by simp only [put_size]; rw [hsz]; decide))), (put_get _ _ _ (by simp only [put_size]; rw [hsz]; decide))⟩ ?_
          clear hsz hdf s_3 s_4 s_5 s_7 s_8 s_9 s_10 s_11 s_12
          rintro a _ ⟨rfl, hsz, hdf, s_3, s_4, s_5, s_7, s_8, s_9, s_10, s_11, s_12, s_13, s_14, s_15⟩
          refine ah_done (by kernel_rfl) ?_
          have hws : w.heap.size ≤ W109.heap.size := hbs_v.size
          exact ow_then (hK73 _ _ ⟨q108, av, cv, atv, ctv, PV, hPv, by omega, by omega, by omega, by omega, by omega, hsz, hdf, s_3, s_4, s_5, s_7, s_8, s_9, s_10, s_11, s_12, (by first | exact s_13 | (rw [s_13]; congr 2; first | rfl | omega | (push_cast; omega)) | (rw [s_13]; first | rfl | (simp; try omega))), s_14, s_15, hbW123, rW123_0, rW123_1, rW123_2, rW123_3, rW123_4, rW123_5, fW123_0, fW123_1, fW123_2, fW123_3, (DOwn.mono fW123_4 hws), (own_mono fW123_5 hws)⟩)
      · skip
        clear hsz hdf s_3 s_4 s_5 s_7 s_8 s_9 s_10 s_11 s_12
        rintro a W125 ⟨qv, av, cv, atv, ctv, PV, hPv, hlqv_q1, hlqv_q5, hlqv_q9, hlqv_q24, hlqv_qy, hsz, hdf, s_3, s_4, s_5, s_7, s_8, s_9, s_10, s_11, s_12, s_13, s_14, s_15, hbW125, rW125_0, rW125_1, rW125_2, rW125_3, rW125_4, rW125_5, fW125_0, fW125_1, fW125_2, fW125_3, gW125_0, gW125_1⟩
        refine wp_seq ?_
        refine wp_seq ?_
        refine ah_region (fun W => Below w.heap.size w W ∧ RowAt W q1 [c0, .int .i64 N1, c2, .int .i64 N3] ∧ RowAt W q5 [.int .i64 F, .slice none 0 0] ∧ RowAt W q9 (bigL.map B8) ∧ RowAt W q24 [.int .i64 (addv F 2048), .slice ax PX.length cx] ∧ RowAt W qy [.int .i64 (addv F 2048), .slice ay PY.length cy] ∧ RowAt W qv [.int .i64 F, .slice av PV.length cv] ∧ DOwn KPart 58 W W13.heap.size (.slice ax PX.length cx) PX ∧ W.ownsRow W13.heap.size 5 1 vtx ((bigL.take 2048) : List UInt8).length (((bigL.take 2048) : List UInt8).map B8) ∧ DOwn KPart 58 W w.heap.size (.slice ay PY.length cy) PY ∧ W.ownsRow w.heap.size 5 1 vty (((bigL.drop 100).take 2048) : List UInt8).length ((((bigL.drop 100).take 2048) : List UInt8).map B8) ∧ DOwn KPart 58 W w.heap.size (.slice av PV.length cv) PV ∧ W.ownsRow w.heap.size 5 1 (.slice atv 0 ctv) ([] : List UInt8).length (([] : List UInt8).map B8)) (by kernel_rfl) 52 rfl ?_
        refine fresh (C := fun x W => AH _ _ _ _ _ _ x W) (fun x X => _ = x ∧ Below w.heap.size w X ∧ RowAt X q1 [c0, .int .i64 N1, c2, .int .i64 N3] ∧ RowAt X q5 [.int .i64 F, .slice none 0 0] ∧ RowAt X q9 (bigL.map B8) ∧ RowAt X q24 [.int .i64 (addv F 2048), .slice ax PX.length cx] ∧ RowAt X qy [.int .i64 (addv F 2048), .slice ay PY.length cy] ∧ RowAt X qv [.int .i64 F, .slice av PV.length cv] ∧ DOwn KPart 58 X W13.heap.size (.slice ax PX.length cx) PX ∧ X.ownsRow W13.heap.size 5 1 vtx ((bigL.take 2048) : List UInt8).length (((bigL.take 2048) : List UInt8).map B8) ∧ DOwn KPart 58 X w.heap.size (.slice ay PY.length cy) PY ∧ X.ownsRow w.heap.size 5 1 vty (((bigL.drop 100).take 2048) : List UInt8).length ((((bigL.drop 100).take 2048) : List UInt8).map B8) ∧ DOwn KPart 58 X w.heap.size (.slice av PV.length cv) PV ∧ X.ownsRow w.heap.size 5 1 (.slice atv 0 ctv) ([] : List UInt8).length (([] : List UInt8).map B8)) ⟨rfl, (hbW125.trans (((Below.refl _ W125).drew).mono hbW125.size)), (rW125_0.below ((Below.refl _ W125).drew)), (rW125_1.below ((Below.refl _ W125).drew)), (rW125_2.below ((Below.refl _ W125).drew)), (rW125_3.below ((Below.refl _ W125).drew)), (rW125_4.below ((Below.refl _ W125).drew)), (rW125_5.below ((Below.refl _ W125).drew)), (fW125_0.below ((Below.refl _ W125).drew)), (below_own fW125_1 ((Below.refl _ W125).drew)), (fW125_2.below ((Below.refl _ W125).drew)), (below_own fW125_3 ((Below.refl _ W125).drew)), (gW125_0.below ((Below.refl _ W125).drew)), (below_own gW125_1 ((Below.refl _ W125).drew))⟩ ?_
        rintro _ W127 ⟨rfl, hbW127, rW127_0, rW127_1, rW127_2, rW127_3, rW127_4, rW127_5, fW127_0, fW127_1, fW127_2, fW127_3, fW127_4, fW127_5⟩
        refine ah_takeW 0 67 (.int .i64 0) rfl (wanted_none rfl) rfl (by kernel_rfl) (by kernel_rfl) (by kernel_rfl) (fun _ _ _ h => h) ⟨hbW127, rW127_0, rW127_1, rW127_2, rW127_3, rW127_4, rW127_5, fW127_0, fW127_1, fW127_2, fW127_3, fW127_4, fW127_5⟩ (fun W hW => by (try obtain ⟨hbW127, rW127_0, rW127_1, rW127_2, rW127_3, rW127_4, rW127_5, fW127_0, fW127_1, fW127_2, fW127_3, fW127_4, fW127_5⟩ := hW); exact (run_moveOp (eval_of s_9))) ?_
        refine ah_one 1 (by kernel_rfl) ?_
        refine ao_call rfl (wanted_none rfl) 68 (fun v X => v = (.int .i64 0) ∧ W127 = X) rfl _ _ (run_callOp Try.func16 rfl rfl (arr1 (eval_of (put_get _ _ _ (by rw [hsz]; decide))))) ((num14_any 0 W127).mono fun e X h => ⟨_, h.1, rfl, h.2⟩) ?_
        rintro _ _ ⟨rfl, rfl⟩
        refine ⟨⟨hbW127, rW127_0, rW127_1, rW127_2, rW127_3, rW127_4, rW127_5, fW127_0, fW127_1, fW127_2, fW127_3, fW127_4, fW127_5⟩, ?_⟩
        refine ah_takeW 2 69 (.bool false) rfl (wanted_none rfl) rfl (by kernel_rfl) (by kernel_rfl) (by kernel_rfl) (fun _ _ _ h => h) ⟨hbW127, rW127_0, rW127_1, rW127_2, rW127_3, rW127_4, rW127_5, fW127_0, fW127_1, fW127_2, fW127_3, fW127_4, fW127_5⟩ (fun W hW => by (try obtain ⟨hbW127, rW127_0, rW127_1, rW127_2, rW127_3, rW127_4, rW127_5, fW127_0, fW127_1, fW127_2, fW127_3, fW127_4, fW127_5⟩ := hW); exact (run_binOp (eval_of (put_get _ _ _ (by simp only [put_size]; rw [hsz]; decide))) (eval_cst _ _) (eqIntI _ _ _ _ _ _ _) (neqIb _ _ _ false (by decide)))) ?_
        refine ah_takeW 3 70 (.bool false) rfl (wanted_none rfl) rfl (by kernel_rfl) (by kernel_rfl) (by kernel_rfl) (fun _ _ _ h => h) ⟨hbW127, rW127_0, rW127_1, rW127_2, rW127_3, rW127_4, rW127_5, fW127_0, fW127_1, fW127_2, fW127_3, fW127_4, fW127_5⟩ (fun W hW => by (try obtain ⟨hbW127, rW127_0, rW127_1, rW127_2, rW127_3, rW127_4, rW127_5, fW127_0, fW127_1, fW127_2, fW127_3, fW127_4, fW127_5⟩ := hW); exact (run_moveOp (eval_of (put_get _ _ _ (by simp only [put_size]; rw [hsz]; decide))))) ?_
        refine ah_takeW 4 71 (vtx) rfl (wanted_yes rfl (by kernel_rfl) (put_get _ _ _ (by simp only [put_size]; rw [hsz]; decide))) rfl (by kernel_rfl) (by kernel_rfl) (by kernel_rfl) (fun _ _ _ h => h) ⟨hbW127, rW127_0, rW127_1, rW127_2, rW127_3, rW127_4, rW127_5, fW127_0, fW127_1, fW127_2, fW127_3, fW127_4, fW127_5⟩ (fun W hW => by (try obtain ⟨hbW127, rW127_0, rW127_1, rW127_2, rW127_3, rW127_4, rW127_5, fW127_0, fW127_1, fW127_2, fW127_3, fW127_4, fW127_5⟩ := hW); exact (run_moveOp (eval_of (pf4 (by decide) s_8)))) ?_
        refine ah_takeW 5 72 (.slice (some ⟨q9, 0, none⟩) 2148 2148) rfl (wanted_yes rfl (by kernel_rfl) (pf1 (by decide) (put_get _ _ _ (by simp only [put_size]; rw [hsz]; decide)))) rfl (by kernel_rfl) (by kernel_rfl) (by kernel_rfl) (fun _ _ _ h => h) ⟨hbW127, rW127_0, rW127_1, rW127_2, rW127_3, rW127_4, rW127_5, fW127_0, fW127_1, fW127_2, fW127_3, fW127_4, fW127_5⟩ (fun W hW => by (try obtain ⟨hbW127, rW127_0, rW127_1, rW127_2, rW127_3, rW127_4, rW127_5, fW127_0, fW127_1, fW127_2, fW127_3, fW127_4, fW127_5⟩ := hW); exact (run_moveOp (eval_of (pf1 (by decide) (pf4 (by decide) s_5))))) ?_
        refine ah_takeW 6 73 (.slice (some ⟨q9, 0, none⟩) 2048 2148) rfl (wanted_yes rfl (by kernel_rfl) (pf2 (by decide) (put_get _ _ _ (by simp only [put_size]; rw [hsz]; decide)))) rfl (by kernel_rfl) (by kernel_rfl) (by kernel_rfl) (fun _ _ _ h => h) ⟨hbW127, rW127_0, rW127_1, rW127_2, rW127_3, rW127_4, rW127_5, fW127_0, fW127_1, fW127_2, fW127_3, fW127_4, fW127_5⟩ (fun W hW => by (try obtain ⟨hbW127, rW127_0, rW127_1, rW127_2, rW127_3, rW127_4, rW127_5, fW127_0, fW127_1, fW127_2, fW127_3, fW127_4, fW127_5⟩ := hW); exact (run_sliceOp1 (eval_of (put_get _ _ _ (by simp only [put_size]; rw [hsz]; decide))) (eval_cst _ _) (sl_to2148 _ 2048 (by decide) _))) ?_
        refine ah_one 7 (by kernel_rfl) ?_
        refine ao_call rfl (wanted_yes rfl (by kernel_rfl) (pf1 (by decide) (pf2 (by decide) (put_get _ _ _ (by simp only [put_size]; rw [hsz]; decide))))) 74 (fun v X => v = .bool true ∧ Below W127.heap.size W127 X) rfl _ _ (run_callOp Try.func24 rfl rfl (arr2 (eval_of (pf2 (by decide) (put_get _ _ _ (by simp only [put_size]; rw [hsz]; decide)))) (eval_of (put_get _ _ _ (by simp only [put_size]; rw [hsz]; decide))))) ((eqBytes_same _ _ (bigL.take 2048) W127 (by simp; try omega) (Sl.of_own fW127_1).1 (sl_mid rW127_2 0 2048 2148 (by rw [bigL_len]; omega) (by omega) (by have : maxLen = 9223372036854775807 := rfl; omega))).mono fun e X ⟨he, k, hX⟩ => ⟨_, he, rfl, by rw [hX]; exact bdrew (Below.refl _ _) k⟩) ?_
        rintro _ V129 ⟨rfl, hb128⟩
        have hbN := (hbW127.trans (hb128.mono hbW127.size))
        have hbN130 := hbN
        have rN131 := (rW127_0.below hb128)
        have rN132 := (rW127_1.below hb128)
        have rN133 := (rW127_2.below hb128)
        have rN134 := (rW127_3.below hb128)
        have rN135 := (rW127_4.below hb128)
        have rN136 := (rW127_5.below hb128)
        have fN137 := (fW127_0.below hb128)
        have fN138 := (below_own fW127_1 hb128)
        have fN139 := (fW127_2.below hb128)
        have fN140 := (below_own fW127_3 hb128)
        have fN141 := (fW127_4.below hb128)
        have fN142 := (below_own fW127_5 hb128)
        refine ⟨⟨hbN130, rN131, rN132, rN133, rN134, rN135, rN136, fN137, fN138, fN139, fN140, fN141, fN142⟩, ?_⟩
        refine ah_takeW 8 75 (.bool false) rfl (wanted_yes rfl (by kernel_rfl) (pf4 (by decide) (put_get _ _ _ (by simp only [put_size]; rw [hsz]; decide)))) rfl (by kernel_rfl) (by kernel_rfl) (by kernel_rfl) (fun _ _ _ h => h) ⟨hbN130, rN131, rN132, rN133, rN134, rN135, rN136, fN137, fN138, fN139, fN140, fN141, fN142⟩ (fun W hW => by (try obtain ⟨hbN130, rN131, rN132, rN133, rN134, rN135, rN136, fN137, fN138, fN139, fN140, fN141, fN142⟩ := hW); exact (run_notOp (eval_of (put_get _ _ _ (by simp only [put_size]; rw [hsz]; decide))))) ?_
        refine ah_takeW 9 76 (.bool false) rfl (wanted_none rfl) rfl (by kernel_rfl) (by kernel_rfl) (by kernel_rfl) (fun _ _ _ h => h) ⟨hbN130, rN131, rN132, rN133, rN134, rN135, rN136, fN137, fN138, fN139, fN140, fN141, fN142⟩ (fun W hW => by (try obtain ⟨hbN130, rN131, rN132, rN133, rN134, rN135, rN136, fN137, fN138, fN139, fN140, fN141, fN142⟩ := hW); exact (run_pickF (eval_of (pf1 (by decide) (pf4 (by decide) (put_get _ _ _ (by simp only [put_size]; rw [hsz]; decide))))) (eval_of (put_get _ _ _ (by simp only [put_size]; rw [hsz]; decide))))) ?_
        refine ah_takeW 10 77 (.bool false) rfl (wanted_none rfl) rfl (by kernel_rfl) (by kernel_rfl) (by kernel_rfl) (fun _ _ _ h => h) ⟨hbN130, rN131, rN132, rN133, rN134, rN135, rN136, fN137, fN138, fN139, fN140, fN141, fN142⟩ (fun W hW => by (try obtain ⟨hbN130, rN131, rN132, rN133, rN134, rN135, rN136, fN137, fN138, fN139, fN140, fN141, fN142⟩ := hW); exact (run_moveOp (eval_of (put_get _ _ _ (by simp only [put_size]; rw [hsz]; decide))))) ?_
        refine ah_takeW 11 78 (.pointer (some ⟨q24, 0, none⟩)) rfl (wanted_yes rfl (by kernel_rfl) (put_get _ _ _ (by simp only [put_size]; rw [hsz]; decide))) rfl (by kernel_rfl) (by kernel_rfl) (by kernel_rfl) (fun _ _ _ h => h) ⟨hbN130, rN131, rN132, rN133, rN134, rN135, rN136, fN137, fN138, fN139, fN140, fN141, fN142⟩ (fun W hW => by (try obtain ⟨hbN130, rN131, rN132, rN133, rN134, rN135, rN136, fN137, fN138, fN139, fN140, fN141, fN142⟩ := hW); exact (run_fieldAddr (eval_of (pf1 (by decide) (pf2 (by decide) (pf8 (by decide) s_7)))) (by simp [go_sem, Instr.fieldAt]))) ?_
        refine ah_takeW 12 79 (.int .i64 (addv F 2048)) rfl (wanted_yes rfl (by kernel_rfl) (pf1 (by decide) (put_get _ _ _ (by simp only [put_size]; rw [hsz]; decide)))) rfl (by kernel_rfl) (by kernel_rfl) (by kernel_rfl) (fun _ _ _ h => h) ⟨hbN130, rN131, rN132, rN133, rN134, rN135, rN136, fN137, fN138, fN139, fN140, fN141, fN142⟩ (fun W hW => by (try obtain ⟨hbN130, rN131, rN132, rN133, rN134, rN135, rN136, fN137, fN138, fN139, fN140, fN141, fN142⟩ := hW); exact (run_loadOp (eval_of (put_get _ _ _ (by simp only [put_size]; rw [hsz]; decide))) (by simp [go_sem, Instr.loadAt, rN134.cell (j := 0) rfl]))) ?_
        refine ah_takeW 13 80 (.int .i64 F) rfl (wanted_yes rfl (by kernel_rfl) (pf2 (by decide) (put_get _ _ _ (by simp only [put_size]; rw [hsz]; decide)))) rfl (by kernel_rfl) (by kernel_rfl) (by kernel_rfl) (fun _ _ _ h => h) ⟨hbN130, rN131, rN132, rN133, rN134, rN135, rN136, fN137, fN138, fN139, fN140, fN141, fN142⟩ (fun W hW => by (try obtain ⟨hbN130, rN131, rN132, rN133, rN134, rN135, rN136, fN137, fN138, fN139, fN140, fN141, fN142⟩ := hW); exact (run_moveOp (eval_of (pf1 (by decide) (pf4 (by decide) (pf8 (by decide) s_3)))))) ?_
        refine ah_one 14 (by kernel_rfl) ?_
        refine ao_call rfl (wanted_yes rfl (by kernel_rfl) (pf1 (by decide) (pf2 (by decide) (put_get _ _ _ (by simp only [put_size]; rw [hsz]; decide))))) 81 (fun v X => v = (.int .i64 (addv F 2048)) ∧ V129 = X) rfl _ _ (run_callOp Try.func18 rfl rfl (arr2 (eval_of (put_get _ _ _ (by simp only [put_size]; rw [hsz]; decide))) (eval_cst _ _))) ((radd12_any F 2048 V129).mono fun e X h => ⟨_, h.1, rfl, h.2⟩) ?_
        rintro _ _ ⟨rfl, rfl⟩
        refine ⟨⟨hbN130, rN131, rN132, rN133, rN134, rN135, rN136, fN137, fN138, fN139, fN140, fN141, fN142⟩, ?_⟩
        refine ah_takeW 15 82 (.bool false) rfl (wanted_yes rfl (by kernel_rfl) (pf4 (by decide) (put_get _ _ _ (by simp only [put_size]; rw [hsz]; decide)))) rfl (by kernel_rfl) (by kernel_rfl) (by kernel_rfl) (fun _ _ _ h => h) ⟨hbN130, rN131, rN132, rN133, rN134, rN135, rN136, fN137, fN138, fN139, fN140, fN141, fN142⟩ (fun W hW => by (try obtain ⟨hbN130, rN131, rN132, rN133, rN134, rN135, rN136, fN137, fN138, fN139, fN140, fN141, fN142⟩ := hW); exact (run_binOp (eval_of (pf2 (by decide) (put_get _ _ _ (by simp only [put_size]; rw [hsz]; decide)))) (eval_of (put_get _ _ _ (by simp only [put_size]; rw [hsz]; decide))) (eqIntI _ _ _ _ _ _ _) (neqIb _ _ _ false (by simp)))) ?_
        refine ah_takeW 16 83 (.bool false) rfl (wanted_none rfl) rfl (by kernel_rfl) (by kernel_rfl) (by kernel_rfl) (fun _ _ _ h => h) ⟨hbN130, rN131, rN132, rN133, rN134, rN135, rN136, fN137, fN138, fN139, fN140, fN141, fN142⟩ (fun W hW => by (try obtain ⟨hbN130, rN131, rN132, rN133, rN134, rN135, rN136, fN137, fN138, fN139, fN140, fN141, fN142⟩ := hW); exact (run_pickF (eval_of (pf1 (by decide) (pf4 (by decide) (put_get _ _ _ (by simp only [put_size]; rw [hsz]; decide))))) (eval_of (put_get _ _ _ (by simp only [put_size]; rw [hsz]; decide))))) ?_
        refine ah_takeW 17 84 (.bool false) rfl (wanted_none rfl) rfl (by kernel_rfl) (by kernel_rfl) (by kernel_rfl) (fun _ _ _ h => h) ⟨hbN130, rN131, rN132, rN133, rN134, rN135, rN136, fN137, fN138, fN139, fN140, fN141, fN142⟩ (fun W hW => by (try obtain ⟨hbN130, rN131, rN132, rN133, rN134, rN135, rN136, fN137, fN138, fN139, fN140, fN141, fN142⟩ := hW); exact (run_moveOp (eval_of (put_get _ _ _ (by simp only [put_size]; rw [hsz]; decide))))) ?_
        refine ah_takeW 18 85 (.int .i64 0) rfl (wanted_yes rfl (by kernel_rfl) (put_get _ _ _ (by simp only [put_size]; rw [hsz]; decide))) rfl (by kernel_rfl) (by kernel_rfl) (by kernel_rfl) (fun _ _ _ h => h) ⟨hbN130, rN131, rN132, rN133, rN134, rN135, rN136, fN137, fN138, fN139, fN140, fN141, fN142⟩ (fun W hW => by (try obtain ⟨hbN130, rN131, rN132, rN133, rN134, rN135, rN136, fN137, fN138, fN139, fN140, fN141, fN142⟩ := hW); exact (run_moveOp (eval_of (pf2 (by decide) (pf16 (by decide) s_12))))) ?_
        refine ah_one 19 (by kernel_rfl) ?_
        refine ao_call rfl (wanted_yes rfl (by kernel_rfl) (pf1 (by decide) (put_get _ _ _ (by simp only [put_size]; rw [hsz]; decide)))) 86 (fun v X => v = (.int .i64 0) ∧ V129 = X) rfl _ _ (run_callOp Try.func16 rfl rfl (arr1 (eval_of (put_get _ _ _ (by simp only [put_size]; rw [hsz]; decide))))) ((num14_any 0 V129).mono fun e X h => ⟨_, h.1, rfl, h.2⟩) ?_
        rintro _ _ ⟨rfl, rfl⟩
        refine ⟨⟨hbN130, rN131, rN132, rN133, rN134, rN135, rN136, fN137, fN138, fN139, fN140, fN141, fN142⟩, ?_⟩
        refine ah_takeW 20 87 (.bool false) rfl (wanted_yes rfl (by kernel_rfl) (pf2 (by decide) (put_get _ _ _ (by simp only [put_size]; rw [hsz]; decide)))) rfl (by kernel_rfl) (by kernel_rfl) (by kernel_rfl) (fun _ _ _ h => h) ⟨hbN130, rN131, rN132, rN133, rN134, rN135, rN136, fN137, fN138, fN139, fN140, fN141, fN142⟩ (fun W hW => by (try obtain ⟨hbN130, rN131, rN132, rN133, rN134, rN135, rN136, fN137, fN138, fN139, fN140, fN141, fN142⟩ := hW); exact (run_binOp (eval_of (put_get _ _ _ (by simp only [put_size]; rw [hsz]; decide))) (eval_cst _ _) (eqIntI _ _ _ _ _ _ _) (neqIb _ _ _ false (by decide)))) ?_
        refine ah_takeW 21 88 (.bool false) rfl (wanted_none rfl) rfl (by kernel_rfl) (by kernel_rfl) (by kernel_rfl) (fun _ _ _ h => h) ⟨hbN130, rN131, rN132, rN133, rN134, rN135, rN136, fN137, fN138, fN139, fN140, fN141, fN142⟩ (fun W hW => by (try obtain ⟨hbN130, rN131, rN132, rN133, rN134, rN135, rN136, fN137, fN138, fN139, fN140, fN141, fN142⟩ := hW); exact (run_pickF (eval_of (pf1 (by decide) (pf2 (by decide) (put_get _ _ _ (by simp only [put_size]; rw [hsz]; decide))))) (eval_of (put_get _ _ _ (by simp only [put_size]; rw [hsz]; decide))))) ?_
        refine ah_takeW 22 89 (.bool false) rfl (wanted_none rfl) rfl (by kernel_rfl) (by kernel_rfl) (by kernel_rfl) (fun _ _ _ h => h) ⟨hbN130, rN131, rN132, rN133, rN134, rN135, rN136, fN137, fN138, fN139, fN140, fN141, fN142⟩ (fun W hW => by (try obtain ⟨hbN130, rN131, rN132, rN133, rN134, rN135, rN136, fN137, fN138, fN139, fN140, fN141, fN142⟩ := hW); exact (run_moveOp (eval_of (put_get _ _ _ (by simp only [put_size]; rw [hsz]; decide))))) ?_
        refine ah_takeW 23 90 (vty) rfl (wanted_yes rfl (by kernel_rfl) (put_get _ _ _ (by simp only [put_size]; rw [hsz]; decide))) rfl (by kernel_rfl) (by kernel_rfl) (by kernel_rfl) (fun _ _ _ h => h) ⟨hbN130, rN131, rN132, rN133, rN134, rN135, rN136, fN137, fN138, fN139, fN140, fN141, fN142⟩ (fun W hW => by (try obtain ⟨hbN130, rN131, rN132, rN133, rN134, rN135, rN136, fN137, fN138, fN139, fN140, fN141, fN142⟩ := hW); exact (run_moveOp (eval_of (pf1 (by decide) (pf2 (by decide) (pf4 (by decide) (pf16 (by decide) s_11))))))) ?_
        refine ah_takeW 24 91 (.slice (some ⟨q9, 0, none⟩) 2148 2148) rfl (wanted_yes rfl (by kernel_rfl) (pf1 (by decide) (put_get _ _ _ (by simp only [put_size]; rw [hsz]; decide)))) rfl (by kernel_rfl) (by kernel_rfl) (by kernel_rfl) (fun _ _ _ h => h) ⟨hbN130, rN131, rN132, rN133, rN134, rN135, rN136, fN137, fN138, fN139, fN140, fN141, fN142⟩ (fun W hW => by (try obtain ⟨hbN130, rN131, rN132, rN133, rN134, rN135, rN136, fN137, fN138, fN139, fN140, fN141, fN142⟩ := hW); exact (run_moveOp (eval_of (pf8 (by decide) (pf16 (by decide) s_5))))) ?_
        refine ah_takeW 25 92 (.slice (some ⟨q9, 100, none⟩) 2048 2048) rfl (wanted_yes rfl (by kernel_rfl) (pf2 (by decide) (put_get _ _ _ (by simp only [put_size]; rw [hsz]; decide)))) rfl (by kernel_rfl) (by kernel_rfl) (by kernel_rfl) (fun _ _ _ h => h) ⟨hbN130, rN131, rN132, rN133, rN134, rN135, rN136, fN137, fN138, fN139, fN140, fN141, fN142⟩ (fun W hW => by (try obtain ⟨hbN130, rN131, rN132, rN133, rN134, rN135, rN136, fN137, fN138, fN139, fN140, fN141, fN142⟩ := hW); exact (run_sliceLo _ (eval_of (put_get _ _ _ (by simp only [put_size]; rw [hsz]; decide))) (eval_cst _ _) (sl_from100 _ _))) ?_
        refine ah_one 26 (by kernel_rfl) ?_
        refine ao_call rfl (wanted_yes rfl (by kernel_rfl) (pf1 (by decide) (pf2 (by decide) (put_get _ _ _ (by simp only [put_size]; rw [hsz]; decide))))) 93 (fun v X => v = .bool true ∧ Below V129.heap.size V129 X) rfl _ _ (run_callOp Try.func24 rfl rfl (arr2 (eval_of (pf2 (by decide) (put_get _ _ _ (by simp only [put_size]; rw [hsz]; decide)))) (eval_of (put_get _ _ _ (by simp only [put_size]; rw [hsz]; decide))))) ((eqBytes_same _ _ ((bigL.drop 100).take 2048) V129 (by simp; try omega) (Sl.of_own fN140).1 (sl_mid rN133 100 2048 2048 (by rw [bigL_len]; omega) (by omega) (by have : maxLen = 9223372036854775807 := rfl; omega))).mono fun e X ⟨he, k, hX⟩ => ⟨_, he, rfl, by rw [hX]; exact bdrew (Below.refl _ _) k⟩) ?_
        rintro _ V144 ⟨rfl, hb143⟩
        have hbN := (hbN130.trans (hb143.mono hbN130.size))
        have hbN145 := hbN
        have rN146 := (rN131.below hb143)
        have rN147 := (rN132.below hb143)
        have rN148 := (rN133.below hb143)
        have rN149 := (rN134.below hb143)
        have rN150 := (rN135.below hb143)
        have rN151 := (rN136.below hb143)
        have fN152 := (fN137.below hb143)
        have fN153 := (below_own fN138 hb143)
        have fN154 := (fN139.below hb143)
        have fN155 := (below_own fN140 hb143)
        have fN156 := (fN141.below hb143)
        have fN157 := (below_own fN142 hb143)
        refine ⟨⟨hbN145, rN146, rN147, rN148, rN149, rN150, rN151, fN152, fN153, fN154, fN155, fN156, fN157⟩, ?_⟩
        refine ah_takeW 27 94 (.bool false) rfl (wanted_yes rfl (by kernel_rfl) (pf4 (by decide) (put_get _ _ _ (by simp only [put_size]; rw [hsz]; decide)))) rfl (by kernel_rfl) (by kernel_rfl) (by kernel_rfl) (fun _ _ _ h => h) ⟨hbN145, rN146, rN147, rN148, rN149, rN150, rN151, fN152, fN153, fN154, fN155, fN156, fN157⟩ (fun W hW => by (try obtain ⟨hbN145, rN146, rN147, rN148, rN149, rN150, rN151, fN152, fN153, fN154, fN155, fN156, fN157⟩ := hW); exact (run_notOp (eval_of (put_get _ _ _ (by simp only [put_size]; rw [hsz]; decide))))) ?_
        refine ah_takeW 28 95 (.bool false) rfl (wanted_none rfl) rfl (by kernel_rfl) (by kernel_rfl) (by kernel_rfl) (fun _ _ _ h => h) ⟨hbN145, rN146, rN147, rN148, rN149, rN150, rN151, fN152, fN153, fN154, fN155, fN156, fN157⟩ (fun W hW => by (try obtain ⟨hbN145, rN146, rN147, rN148, rN149, rN150, rN151, fN152, fN153, fN154, fN155, fN156, fN157⟩ := hW); exact (run_pickF (eval_of (pf1 (by decide) (pf4 (by decide) (put_get _ _ _ (by simp only [put_size]; rw [hsz]; decide))))) (eval_of (put_get _ _ _ (by simp only [put_size]; rw [hsz]; decide))))) ?_
        refine ah_takeW 29 96 (.bool false) rfl (wanted_none rfl) rfl (by kernel_rfl) (by kernel_rfl) (by kernel_rfl) (fun _ _ _ h => h) ⟨hbN145, rN146, rN147, rN148, rN149, rN150, rN151, fN152, fN153, fN154, fN155, fN156, fN157⟩ (fun W hW => by (try obtain ⟨hbN145, rN146, rN147, rN148, rN149, rN150, rN151, fN152, fN153, fN154, fN155, fN156, fN157⟩ := hW); exact (run_moveOp (eval_of (put_get _ _ _ (by simp only [put_size]; rw [hsz]; decide))))) ?_
        refine ah_takeW 30 97 (.pointer (some ⟨qy, 0, none⟩)) rfl (wanted_yes rfl (by kernel_rfl) (put_get _ _ _ (by simp only [put_size]; rw [hsz]; decide))) rfl (by kernel_rfl) (by kernel_rfl) (by kernel_rfl) (fun _ _ _ h => h) ⟨hbN145, rN146, rN147, rN148, rN149, rN150, rN151, fN152, fN153, fN154, fN155, fN156, fN157⟩ (fun W hW => by (try obtain ⟨hbN145, rN146, rN147, rN148, rN149, rN150, rN151, fN152, fN153, fN154, fN155, fN156, fN157⟩ := hW); exact (run_fieldAddr (eval_of (pf2 (by decide) (pf4 (by decide) (pf8 (by decide) (pf16 (by decide) s_10))))) (by simp [go_sem, Instr.fieldAt]))) ?_
        refine ah_takeW 31 98 (.int .i64 (addv F 2048)) rfl (wanted_yes rfl (by kernel_rfl) (pf1 (by decide) (put_get _ _ _ (by simp only [put_size]; rw [hsz]; decide)))) rfl (by kernel_rfl) (by kernel_rfl) (by kernel_rfl) (fun _ _ _ h => h) ⟨hbN145, rN146, rN147, rN148, rN149, rN150, rN151, fN152, fN153, fN154, fN155, fN156, fN157⟩ (fun W hW => by (try obtain ⟨hbN145, rN146, rN147, rN148, rN149, rN150, rN151, fN152, fN153, fN154, fN155, fN156, fN157⟩ := hW); exact (run_loadOp (eval_of (put_get _ _ _ (by simp only [put_size]; rw [hsz]; decide))) (by simp [go_sem, Instr.loadAt, rN150.cell (j := 0) rfl]))) ?_
        refine ah_takeW 32 99 (.pointer (some ⟨q24, 0, none⟩)) rfl (wanted_yes rfl (by kernel_rfl) (pf2 (by decide) (put_get _ _ _ (by simp only [put_size]; rw [hsz]; decide)))) rfl (by kernel_rfl) (by kernel_rfl) (by kernel_rfl) (fun _ _ _ h => h) ⟨hbN145, rN146, rN147, rN148, rN149, rN150, rN151, fN152, fN153, fN154, fN155, fN156, fN157⟩ (fun W hW => by (try obtain ⟨hbN145, rN146, rN147, rN148, rN149, rN150, rN151, fN152, fN153, fN154, fN155, fN156, fN157⟩ := hW); exact (run_fieldAddr (eval_of (pf16 (by decide) (pf16 (by decide) s_7))) (by simp [go_sem, Instr.fieldAt]))) ?_
        refine ah_takeW 33 100 (.int .i64 (addv F 2048)) rfl (wanted_yes rfl (by kernel_rfl) (pf1 (by decide) (pf2 (by decide) (put_get _ _ _ (by simp only [put_size]; rw [hsz]; decide))))) rfl (by kernel_rfl) (by kernel_rfl) (by kernel_rfl) (fun _ _ _ h => h) ⟨hbN145, rN146, rN147, rN148, rN149, rN150, rN151, fN152, fN153, fN154, fN155, fN156, fN157⟩ (fun W hW => by (try obtain ⟨hbN145, rN146, rN147, rN148, rN149, rN150, rN151, fN152, fN153, fN154, fN155, fN156, fN157⟩ := hW); exact (run_loadOp (eval_of (put_get _ _ _ (by simp only [put_size]; rw [hsz]; decide))) (by simp [go_sem, Instr.loadAt, rN149.cell (j := 0) rfl]))) ?_
        refine ah_takeW 34 101 (.bool false) rfl (wanted_yes rfl (by kernel_rfl) (pf4 (by decide) (put_get _ _ _ (by simp only [put_size]; rw [hsz]; decide)))) rfl (by kernel_rfl) (by kernel_rfl) (by kernel_rfl) (fun _ _ _ h => h) ⟨hbN145, rN146, rN147, rN148, rN149, rN150, rN151, fN152, fN153, fN154, fN155, fN156, fN157⟩ (fun W hW => by (try obtain ⟨hbN145, rN146, rN147, rN148, rN149, rN150, rN151, fN152, fN153, fN154, fN155, fN156, fN157⟩ := hW); exact (run_binOp (eval_of (pf2 (by decide) (put_get _ _ _ (by simp only [put_size]; rw [hsz]; decide)))) (eval_of (put_get _ _ _ (by simp only [put_size]; rw [hsz]; decide))) (eqIntI _ _ _ _ _ _ _) (neqIb _ _ _ false (by simp)))) ?_
        refine ah_takeW 35 102 (.bool false) rfl (wanted_none rfl) rfl (by kernel_rfl) (by kernel_rfl) (by kernel_rfl) (fun _ _ _ h => h) ⟨hbN145, rN146, rN147, rN148, rN149, rN150, rN151, fN152, fN153, fN154, fN155, fN156, fN157⟩ (fun W hW => by (try obtain ⟨hbN145, rN146, rN147, rN148, rN149, rN150, rN151, fN152, fN153, fN154, fN155, fN156, fN157⟩ := hW); exact (run_pickF (eval_of (pf1 (by decide) (pf4 (by decide) (put_get _ _ _ (by simp only [put_size]; rw [hsz]; decide))))) (eval_of (put_get _ _ _ (by simp only [put_size]; rw [hsz]; decide))))) ?_
        refine ah_takeW 36 103 (.bool false) rfl (wanted_none rfl) rfl (by kernel_rfl) (by kernel_rfl) (by kernel_rfl) (fun _ _ _ h => h) ⟨hbN145, rN146, rN147, rN148, rN149, rN150, rN151, fN152, fN153, fN154, fN155, fN156, fN157⟩ (fun W hW => by (try obtain ⟨hbN145, rN146, rN147, rN148, rN149, rN150, rN151, fN152, fN153, fN154, fN155, fN156, fN157⟩ := hW); exact (run_moveOp (eval_of (put_get _ _ _ (by simp only [put_size]; rw [hsz]; decide))))) ?_
        refine ah_takeW 37 104 (.int .i64 0) rfl (wanted_yes rfl (by kernel_rfl) (put_get _ _ _ (by simp only [put_size]; rw [hsz]; decide))) rfl (by kernel_rfl) (by kernel_rfl) (by kernel_rfl) (fun _ _ _ h => h) ⟨hbN145, rN146, rN147, rN148, rN149, rN150, rN151, fN152, fN153, fN154, fN155, fN156, fN157⟩ (fun W hW => by (try obtain ⟨hbN145, rN146, rN147, rN148, rN149, rN150, rN151, fN152, fN153, fN154, fN155, fN156, fN157⟩ := hW); exact (run_moveOp (eval_of (pf1 (by decide) (pf4 (by decide) (pf16 (by decide) (pf16 (by decide) s_15))))))) ?_
        refine ah_one 38 (by kernel_rfl) ?_
        refine ao_call rfl (wanted_yes rfl (by kernel_rfl) (pf1 (by decide) (put_get _ _ _ (by simp only [put_size]; rw [hsz]; decide)))) 105 (fun v X => v = (.int .i64 0) ∧ V144 = X) rfl _ _ (run_callOp Try.func16 rfl rfl (arr1 (eval_of (put_get _ _ _ (by simp only [put_size]; rw [hsz]; decide))))) ((num14_any 0 V144).mono fun e X h => ⟨_, h.1, rfl, h.2⟩) ?_
        rintro _ _ ⟨rfl, rfl⟩
        refine ⟨⟨hbN145, rN146, rN147, rN148, rN149, rN150, rN151, fN152, fN153, fN154, fN155, fN156, fN157⟩, ?_⟩
        refine ah_takeW 39 106 (.bool false) rfl (wanted_yes rfl (by kernel_rfl) (pf2 (by decide) (put_get _ _ _ (by simp only [put_size]; rw [hsz]; decide)))) rfl (by kernel_rfl) (by kernel_rfl) (by kernel_rfl) (fun _ _ _ h => h) ⟨hbN145, rN146, rN147, rN148, rN149, rN150, rN151, fN152, fN153, fN154, fN155, fN156, fN157⟩ (fun W hW => by (try obtain ⟨hbN145, rN146, rN147, rN148, rN149, rN150, rN151, fN152, fN153, fN154, fN155, fN156, fN157⟩ := hW); exact (run_binOp (eval_of (put_get _ _ _ (by simp only [put_size]; rw [hsz]; decide))) (eval_cst _ _) (eqIntI _ _ _ _ _ _ _) (neqIb _ _ _ false (by decide)))) ?_
        refine ah_takeW 40 107 (.bool false) rfl (wanted_none rfl) rfl (by kernel_rfl) (by kernel_rfl) (by kernel_rfl) (fun _ _ _ h => h) ⟨hbN145, rN146, rN147, rN148, rN149, rN150, rN151, fN152, fN153, fN154, fN155, fN156, fN157⟩ (fun W hW => by (try obtain ⟨hbN145, rN146, rN147, rN148, rN149, rN150, rN151, fN152, fN153, fN154, fN155, fN156, fN157⟩ := hW); exact (run_pickF (eval_of (pf1 (by decide) (pf2 (by decide) (put_get _ _ _ (by simp only [put_size]; rw [hsz]; decide))))) (eval_of (put_get _ _ _ (by simp only [put_size]; rw [hsz]; decide))))) ?_
        refine ah_takeW 41 108 (.bool false) rfl (wanted_none rfl) rfl (by kernel_rfl) (by kernel_rfl) (by kernel_rfl) (fun _ _ _ h => h) ⟨hbN145, rN146, rN147, rN148, rN149, rN150, rN151, fN152, fN153, fN154, fN155, fN156, fN157⟩ (fun W hW => by (try obtain ⟨hbN145, rN146, rN147, rN148, rN149, rN150, rN151, fN152, fN153, fN154, fN155, fN156, fN157⟩ := hW); exact (run_moveOp (eval_of (put_get _ _ _ (by simp only [put_size]; rw [hsz]; decide))))) ?_
        refine ah_takeW 42 109 (.slice atv 0 ctv) rfl (wanted_yes rfl (by kernel_rfl) (put_get _ _ _ (by simp only [put_size]; rw [hsz]; decide))) rfl (by kernel_rfl) (by kernel_rfl) (by kernel_rfl) (fun _ _ _ h => h) ⟨hbN145, rN146, rN147, rN148, rN149, rN150, rN151, fN152, fN153, fN154, fN155, fN156, fN157⟩ (fun W hW => by (try obtain ⟨hbN145, rN146, rN147, rN148, rN149, rN150, rN151, fN152, fN153, fN154, fN155, fN156, fN157⟩ := hW); exact (run_moveOp (eval_of (pf2 (by decide) (pf8 (by decide) (pf16 (by decide) (pf16 (by decide) s_14))))))) ?_
        refine ah_takeW 43 110 (.int .i64 0) rfl (wanted_yes rfl (by kernel_rfl) (pf1 (by decide) (put_get _ _ _ (by simp only [put_size]; rw [hsz]; decide)))) rfl (by kernel_rfl) (by kernel_rfl) (by kernel_rfl) (fun _ _ _ h => h) ⟨hbN145, rN146, rN147, rN148, rN149, rN150, rN151, fN152, fN153, fN154, fN155, fN156, fN157⟩ (fun W hW => by (try obtain ⟨hbN145, rN146, rN147, rN148, rN149, rN150, rN151, fN152, fN153, fN154, fN155, fN156, fN157⟩ := hW); exact (run_lenOp Try.underlying34 (eval_of (put_get _ _ _ (by simp only [put_size]; rw [hsz]; decide))))) ?_
        refine ah_takeW 44 111 (.bool false) rfl (wanted_yes rfl (by kernel_rfl) (pf2 (by decide) (put_get _ _ _ (by simp only [put_size]; rw [hsz]; decide)))) rfl (by kernel_rfl) (by kernel_rfl) (by kernel_rfl) (fun _ _ _ h => h) ⟨hbN145, rN146, rN147, rN148, rN149, rN150, rN151, fN152, fN153, fN154, fN155, fN156, fN157⟩ (fun W hW => by (try obtain ⟨hbN145, rN146, rN147, rN148, rN149, rN150, rN151, fN152, fN153, fN154, fN155, fN156, fN157⟩ := hW); exact (run_binOp (eval_of (put_get _ _ _ (by simp only [put_size]; rw [hsz]; decide))) (eval_cst _ _) (by simp [go_sem]) (gtrIb _ _ _ false (by decide)))) ?_
        refine ah_takeW 45 112 (.bool false) rfl (wanted_none rfl) rfl (by kernel_rfl) (by kernel_rfl) (by kernel_rfl) (fun _ _ _ h => h) ⟨hbN145, rN146, rN147, rN148, rN149, rN150, rN151, fN152, fN153, fN154, fN155, fN156, fN157⟩ (fun W hW => by (try obtain ⟨hbN145, rN146, rN147, rN148, rN149, rN150, rN151, fN152, fN153, fN154, fN155, fN156, fN157⟩ := hW); exact (run_pickF (eval_of (pf1 (by decide) (pf2 (by decide) (put_get _ _ _ (by simp only [put_size]; rw [hsz]; decide))))) (eval_of (put_get _ _ _ (by simp only [put_size]; rw [hsz]; decide))))) ?_
        refine ah_takeW 46 113 (.bool false) rfl (wanted_none rfl) rfl (by kernel_rfl) (by kernel_rfl) (by kernel_rfl) (fun _ _ _ h => h) ⟨hbN145, rN146, rN147, rN148, rN149, rN150, rN151, fN152, fN153, fN154, fN155, fN156, fN157⟩ (fun W hW => by (try obtain ⟨hbN145, rN146, rN147, rN148, rN149, rN150, rN151, fN152, fN153, fN154, fN155, fN156, fN157⟩ := hW); exact (run_moveOp (eval_of (put_get _ _ _ (by simp only [put_size]; rw [hsz]; decide))))) ?_
        refine ah_takeW 47 114 (.agg #[.int .i64 F, .slice av PV.length cv]) rfl (wanted_yes rfl (by kernel_rfl) (put_get _ _ _ (by simp only [put_size]; rw [hsz]; decide))) rfl (by kernel_rfl) (by kernel_rfl) (by kernel_rfl) (fun _ _ _ h => h) ⟨hbN145, rN146, rN147, rN148, rN149, rN150, rN151, fN152, fN153, fN154, fN155, fN156, fN157⟩ (fun W hW => by (try obtain ⟨hbN145, rN146, rN147, rN148, rN149, rN150, rN151, fN152, fN153, fN154, fN155, fN156, fN157⟩ := hW); exact (run_loadOp (eval_of (pf1 (by decide) (pf2 (by decide) (pf4 (by decide) (pf8 (by decide) (pf16 (by decide) (pf16 (by decide) s_13))))))) (run_loadN [.int .i64 F, .slice av PV.length cv] rN151 (fun j v hj => by simpa using hj) Try.underlying24 rfl (by kernel_rfl)))) ?_
        refine ah_takeW 48 115 (.agg #[.int .i64 F, .slice none 0 0]) rfl (wanted_yes rfl (by kernel_rfl) (pf1 (by decide) (put_get _ _ _ (by simp only [put_size]; rw [hsz]; decide)))) rfl (by kernel_rfl) (by kernel_rfl) (by kernel_rfl) (fun _ _ _ h => h) ⟨hbN145, rN146, rN147, rN148, rN149, rN150, rN151, fN152, fN153, fN154, fN155, fN156, fN157⟩ (fun W hW => by (try obtain ⟨hbN145, rN146, rN147, rN148, rN149, rN150, rN151, fN152, fN153, fN154, fN155, fN156, fN157⟩ := hW); exact (run_loadOp (eval_of (pf16 (by decide) (pf16 (by decide) (pf16 (by decide) s_4)))) (run_loadN [.int .i64 F, .slice none 0 0] rN147 (fun j v hj => by simpa using hj) Try.underlying24 rfl (by kernel_rfl)))) ?_
        refine ah_one 49 (by kernel_rfl) ?_
        refine ao_call rfl (wanted_yes rfl (by kernel_rfl) (pf2 (by decide) (put_get _ _ _ (by simp only [put_size]; rw [hsz]; decide)))) 116 (fun v X => v = .bool true ∧ Below V144.heap.size V144 X) rfl _ _ (run_callOp Try.func23 rfl rfl (arr2 (eval_of (pf1 (by decide) (put_get _ _ _ (by simp only [put_size]; rw [hsz]; decide)))) (eval_of (put_get _ _ _ (by simp only [put_size]; rw [hsz]; decide))))) ((eqBuffer_same _ _ F [] V144 (by decide) (fun x hx => by simp at hx) (by have h := fN156.of; rw [hPv] at h; exact h) (KPart_nil _)).mono fun e X h => ⟨_, h.1, rfl, h.2⟩) ?_
        rintro _ V159 ⟨rfl, hb158⟩
        have hbN := (hbN145.trans (hb158.mono hbN145.size))
        have hbN160 := hbN
        have rN161 := (rN146.below hb158)
        have rN162 := (rN147.below hb158)
        have rN163 := (rN148.below hb158)
        have rN164 := (rN149.below hb158)
        have rN165 := (rN150.below hb158)
        have rN166 := (rN151.below hb158)
        have fN167 := (fN152.below hb158)
        have fN168 := (below_own fN153 hb158)
        have fN169 := (fN154.below hb158)
        have fN170 := (below_own fN155 hb158)
        have fN171 := (fN156.below hb158)
        have fN172 := (below_own fN157 hb158)
        refine ⟨⟨hbN160, rN161, rN162, rN163, rN164, rN165, rN166, fN167, fN168, fN169, fN170, fN171, fN172⟩, ?_⟩
        refine ah_takeW 50 117 (.bool false) rfl (wanted_yes rfl (by kernel_rfl) (pf1 (by decide) (pf2 (by decide) (put_get _ _ _ (by simp only [put_size]; rw [hsz]; decide))))) rfl (by kernel_rfl) (by kernel_rfl) (by kernel_rfl) (fun _ _ _ h => h) ⟨hbN160, rN161, rN162, rN163, rN164, rN165, rN166, fN167, fN168, fN169, fN170, fN171, fN172⟩ (fun W hW => by (try obtain ⟨hbN160, rN161, rN162, rN163, rN164, rN165, rN166, fN167, fN168, fN169, fN170, fN171, fN172⟩ := hW); exact (run_notOp (eval_of (put_get _ _ _ (by simp only [put_size]; rw [hsz]; decide))))) ?_
        refine ah_takeW 51 118 (.bool false) rfl (wanted_none rfl) rfl (by kernel_rfl) (by kernel_rfl) (by kernel_rfl) (fun _ _ _ h => h) ⟨hbN160, rN161, rN162, rN163, rN164, rN165, rN166, fN167, fN168, fN169, fN170, fN171, fN172⟩ (fun W hW => by (try obtain ⟨hbN160, rN161, rN162, rN163, rN164, rN165, rN166, fN167, fN168, fN169, fN170, fN171, fN172⟩ := hW); exact (run_pickF (eval_of (pf4 (by decide) (put_get _ _ _ (by simp only [put_size]; rw [hsz]; decide)))) (eval_of (put_get _ _ _ (by simp only [put_size]; rw [hsz]; decide))))) ?_
        refine fresh (C := fun x W => AH _ _ _ _ _ _ x W) (fun x X => _ = X ∧ x.tmps.size = 177 ∧ x.defers = [] ∧ x.tmps[3]? = some (.int .i64 F) ∧ x.tmps[4]? = some (.pointer (some ⟨q5, 0, none⟩)) ∧ x.tmps[5]? = some (.slice (some ⟨q9, 0, none⟩) 2148 2148) ∧ x.tmps[118]? = some (.bool false)) ⟨rfl, (by simp only [put_size]; exact hsz), (by simp only [put_defers]; exact hdf), (pf4 (by decide) (pf16 (by decide) (pf16 (by decide) (pf16 (by decide) s_3)))), (pf4 (by decide) (pf16 (by decide) (pf16 (by decide) (pf16 (by decide) s_4)))), (pf4 (by decide) (pf16 (by decide) (pf16 (by decide) (pf16 (by decide) s_5)))), (put_get _ _ _ (by simp only [put_size]; rw [hsz]; decide))⟩ ?_
        clear hsz hdf s_3 s_4 s_5 s_7 s_8 s_9 s_10 s_11 s_12 s_13 s_14 s_15
        rintro a _ ⟨rfl, hsz, hdf, s_3, s_4, s_5, s_118⟩
        refine ah_done (by kernel_rfl) ?_
        refine ow_then ?_
        refine ow_false (eval_of s_118) ?_
        refine wp_skip ?_
        refine ow_then ?_
        refine wp_seq ?_
        refine wp_seq ?_
        refine ow_region [_] rfl (by intro o ho; simp only [List.mem_cons, List.not_mem_nil, or_false] at ho; subst ho; rfl) ?_
        refine ow_run 16 (.int .i64 0) _ rfl (run_assignOp (eval_cst _ _)) ?_
        refine fresh (C := fun x W => wpRun _ [] x W _) (fun x X => _ = X ∧ x.tmps.size = 177 ∧ x.defers = [] ∧ x.tmps[3]? = some (.int .i64 F) ∧ x.tmps[4]? = some (.pointer (some ⟨q5, 0, none⟩)) ∧ x.tmps[5]? = some (.slice (some ⟨q9, 0, none⟩) 2148 2148) ∧ x.tmps[16]? = some (.int .i64 0)) ⟨rfl, (by simp only [put_size]; exact hsz), (by simp only [put_defers]; exact hdf), (pf1 (by decide) s_3), (pf1 (by decide) s_4), (pf1 (by decide) s_5), (put_get _ _ _ (by rw [hsz]; decide))⟩ ?_
        clear hsz hdf s_3 s_4 s_5 s_118
        rintro a _ ⟨rfl, hsz, hdf, s_3, s_4, s_5, s_16⟩
        refine ow_then ?_
        refine wp_block ?_
        refine ow_loop (fun N a W => ∃ (i : Nat) (ab : Option Addr) (cb : Nat) (PB : List (EP × Value)), N = 10 - i ∧ i ≤ 10 ∧ PB.map Prod.fst = (Ri (min i 8)).map (toP F) ∧ a.tmps.size = 177 ∧ a.defers = [] ∧ a.tmps[3]? = some (.int .i64 F) ∧ a.tmps[4]? = some (.pointer (some ⟨q5, 0, none⟩)) ∧ a.tmps[5]? = some (.slice (some ⟨q9, 0, none⟩) 2148 2148) ∧ a.tmps[16]? = some (.int .i64 ((i : Nat) : Int)) ∧ Below w.heap.size w W ∧ RowAt W q5 [.int .i64 F, .slice ab PB.length cb] ∧ RowAt W q9 (bigL.map B8) ∧ DOwn KPart 58 W w.heap.size (.slice ab PB.length cb) PB) _ ⟨0, none, 0, [], rfl, Nat.zero_le _, rfl, hsz, hdf, s_3, s_4, s_5, (by first | exact s_16 | (rw [s_16]; congr 2; first | rfl | omega | (push_cast; omega)) | (rw [s_16]; first | rfl | (simp; try omega))), hbN160, rN162, rN163, DOwn.nil _ _ _ _⟩ ?_
        clear hsz hdf s_3 s_4 s_5 s_16
        rintro N a W175 ⟨i, ab, cb, PB, rfl, hi11, hPb, hsz, hdf, s_3, s_4, s_5, s_16, hbW175, rW175_0, rW175_1, gW175_0⟩
        intro K177 hK177
        refine wp_seq ?_
        refine wp_seq ?_
        refine ow_region [_, _] rfl (by intro o ho; simp only [List.mem_cons, List.not_mem_nil, or_false] at ho; rcases ho with rfl | rfl <;> rfl) ?_
        refine ow_run 119 (.int .i64 ((i : Nat) : Int)) _ rfl (run_moveOp (eval_of s_16)) ?_
        refine ow_run 120 (.bool (decide (((i : Nat) : Int) < 10))) _ rfl (run_binOp (eval_of (put_get _ _ _ (by rw [hsz]; decide))) (eval_cst _ _) (by simp [go_sem]) (lssIw _ _ _)) ?_
        refine fresh (C := fun x W => wpRun _ [] x W _) (fun x X => _ = X ∧ x.tmps.size = 177 ∧ x.defers = [] ∧ x.tmps[3]? = some (.int .i64 F) ∧ x.tmps[4]? = some (.pointer (some ⟨q5, 0, none⟩)) ∧ x.tmps[5]? = some (.slice (some ⟨q9, 0, none⟩) 2148 2148) ∧ x.tmps[16]? = some (.int .i64 ((i : Nat) : Int)) ∧ x.tmps[120]? = some (.bool (decide (((i : Nat) : Int) < 10)))) ⟨rfl, (by simp only [put_size]; exact hsz), (by simp only [put_defers]; exact hdf), (pf2 (by decide) s_3), (pf2 (by decide) s_4), (pf2 (by decide) s_5), (pf2 (by decide) s_16), (put_get _ _ _ (by simp only [put_size]; rw [hsz]; decide))⟩ ?_
        clear hsz hdf s_3 s_4 s_5 s_16
        rintro a _ ⟨rfl, hsz, hdf, s_3, s_4, s_5, s_16, s_120⟩
        refine ow_then ?_
        rcases Bool.eq_false_or_eq_true ((decide (((i : Nat) : Int) < 10))) with hb_179 | hb_179
        · skip
          refine ow_true (eval_of (flag_of s_120 hb_179)) ?_
          refine wp_skip ?_
          refine ow_then ?_
          refine wp_seq ?_
          refine wp_block ?_
          have hi10 : i < 10 := by have h := hb_179; rw [decide_eq_true_eq] at h; omega
          have hl4 : q5 < q5 + 1 := by omega
          refine wp_mid (fun a W => ∃ (qc : Nat) (ac : Option Addr) (cc : Nat) (atc : Option Addr) (ctc : Nat) (PC : List (EP × Value)), PC.map Prod.fst = (Ri (min (i + 1) 8)).map (toP F) ∧ q5 < qc ∧ q9 < qc ∧ a.tmps.size = 177 ∧ a.defers = [] ∧ a.tmps[3]? = some (.int .i64 F) ∧ a.tmps[4]? = some (.pointer (some ⟨q5, 0, none⟩)) ∧ a.tmps[5]? = some (.slice (some ⟨q9, 0, none⟩) 2148 2148) ∧ a.tmps[16]? = some (.int .i64 ((i : Nat) : Int)) ∧ a.tmps[17]? = some (.pointer (some ⟨qc, 0, none⟩)) ∧ a.tmps[18]? = some (.slice atc 0 ctc) ∧ a.tmps[19]? = some (.int .i64 0) ∧ Below w.heap.size w W ∧ RowAt W q5 [.int .i64 F, .slice ab PB.length cb] ∧ RowAt W q9 (bigL.map B8) ∧ RowAt W qc [.int .i64 F, .slice ac PC.length cc] ∧ DOwn KPart 58 W (q5 + 1) (.slice ac PC.length cc) PC ∧ W.ownsRow w.heap.size 5 1 (.slice atc 0 ctc) ([] : List UInt8).length (([] : List UInt8).map B8)) (fun K180 hK180 => ?_) ?_
          · skip
            refine ah_region (fun W => Below w.heap.size w W ∧ RowAt W q5 [.int .i64 F, .slice ab PB.length cb] ∧ RowAt W q9 (bigL.map B8) ∧ DOwn KPart 58 W w.heap.size (.slice ab PB.length cb) PB) (by kernel_rfl) 20 rfl ?_
            refine fresh (C := fun x W => AH _ _ _ _ _ _ x W) (fun x X => _ = x ∧ Below w.heap.size w X ∧ RowAt X q5 [.int .i64 F, .slice ab PB.length cb] ∧ RowAt X q9 (bigL.map B8) ∧ DOwn KPart 58 X w.heap.size (.slice ab PB.length cb) PB) ⟨rfl, (hbW175.trans (((Below.refl _ W175).drew).mono hbW175.size)), (rW175_0.below ((Below.refl _ W175).drew)), (rW175_1.below ((Below.refl _ W175).drew)), (gW175_0.below ((Below.refl _ W175).drew))⟩ ?_
            rintro _ W181 ⟨rfl, hbW181, rW181_0, rW181_1, fW181_0⟩
            refine ah_takeW 0 124 (.agg #[.int .i64 F, .slice ab PB.length cb]) rfl (wanted_none rfl) rfl (by kernel_rfl) (by kernel_rfl) (by kernel_rfl) (fun _ _ _ h => h) ⟨hbW181, rW181_0, rW181_1, fW181_0⟩ (fun W hW => by (try obtain ⟨hbW181, rW181_0, rW181_1, fW181_0⟩ := hW); exact (run_loadOp (eval_of s_4) (run_loadN [.int .i64 F, .slice ab PB.length cb] rW181_0 (fun j v hj => by simpa using hj) Try.underlying24 rfl (by kernel_rfl)))) ?_
            refine ah_takeW 1 125 (.int .i64 F) rfl (wanted_none rfl) rfl (by kernel_rfl) (by kernel_rfl) (by kernel_rfl) (fun _ _ _ h => h) ⟨hbW181, rW181_0, rW181_1, fW181_0⟩ (fun W hW => by (try obtain ⟨hbW181, rW181_0, rW181_1, fW181_0⟩ := hW); exact (run_moveOp (eval_of (pf1 (by decide) s_3)))) ?_
            refine ah_takeW 2 126 (.int .i64 ((i : Nat) : Int)) rfl (wanted_none rfl) rfl (by kernel_rfl) (by kernel_rfl) (by kernel_rfl) (fun _ _ _ h => h) ⟨hbW181, rW181_0, rW181_1, fW181_0⟩ (fun W hW => by (try obtain ⟨hbW181, rW181_0, rW181_1, fW181_0⟩ := hW); exact (run_moveOp (eval_of (pf2 (by decide) s_16)))) ?_
            refine ah_takeW 3 127 (.int .i64 (((2 * i) : Nat) : Int)) rfl (wanted_none rfl) rfl (by kernel_rfl) (by kernel_rfl) (by kernel_rfl) (fun _ _ _ h => h) ⟨hbW181, rW181_0, rW181_1, fW181_0⟩ (fun W hW => by (try obtain ⟨hbW181, rW181_0, rW181_1, fW181_0⟩ := hW); exact (run_binOp (eval_cst _ _) (eval_of (put_get _ _ _ (by simp only [put_size]; rw [hsz]; decide))) (by simp [go_sem]) (mulIw _ _ _ _ (by omega) (by omega) (by omega)))) ?_
            refine ah_takeW 4 128 (.int .i64 (((2 * i + 1) : Nat) : Int)) rfl (wanted_none rfl) rfl (by kernel_rfl) (by kernel_rfl) (by kernel_rfl) (fun _ _ _ h => h) ⟨hbW181, rW181_0, rW181_1, fW181_0⟩ (fun W hW => by (try obtain ⟨hbW181, rW181_0, rW181_1, fW181_0⟩ := hW); exact (run_binOp (eval_of (put_get _ _ _ (by simp only [put_size]; rw [hsz]; decide))) (eval_cst _ _) (by simp [go_sem]) (addIw _ _ _ _ (by omega) (by omega) (by omega)))) ?_
            refine ah_takeW 6 130 (.slice (some ⟨q9, 0, none⟩) 2148 2148) rfl (wanted_none rfl) rfl (by kernel_rfl) (by kernel_rfl) (by kernel_rfl) (fun _ _ _ h => h) ⟨hbW181, rW181_0, rW181_1, fW181_0⟩ (fun W hW => by (try obtain ⟨hbW181, rW181_0, rW181_1, fW181_0⟩ := hW); exact (run_moveOp (eval_of (pf1 (by decide) (pf4 (by decide) s_5))))) ?_
            refine ah_takeW 7 131 (.int .i64 ((i : Nat) : Int)) rfl (wanted_none rfl) rfl (by kernel_rfl) (by kernel_rfl) (by kernel_rfl) (fun _ _ _ h => h) ⟨hbW181, rW181_0, rW181_1, fW181_0⟩ (fun W hW => by (try obtain ⟨hbW181, rW181_0, rW181_1, fW181_0⟩ := hW); exact (run_moveOp (eval_of (pf2 (by decide) (pf4 (by decide) s_16))))) ?_
            refine ah_takeW 8 132 (.int .i64 ((i : Nat) : Int)) rfl (wanted_none rfl) rfl (by kernel_rfl) (by kernel_rfl) (by kernel_rfl) (fun _ _ _ h => h) ⟨hbW181, rW181_0, rW181_1, fW181_0⟩ (fun W hW => by (try obtain ⟨hbW181, rW181_0, rW181_1, fW181_0⟩ := hW); exact (run_moveOp (eval_of (pf1 (by decide) (pf2 (by decide) (pf4 (by decide) s_16)))))) ?_
            refine ah_takeW 9 133 (.int .i64 (((i + 1) : Nat) : Int)) rfl (wanted_none rfl) rfl (by kernel_rfl) (by kernel_rfl) (by kernel_rfl) (fun _ _ _ h => h) ⟨hbW181, rW181_0, rW181_1, fW181_0⟩ (fun W hW => by (try obtain ⟨hbW181, rW181_0, rW181_1, fW181_0⟩ := hW); exact (run_binOp (eval_of (put_get _ _ _ (by simp only [put_size]; rw [hsz]; decide))) (eval_cst _ _) (by simp [go_sem]) (addIw _ _ _ _ (by omega) (by omega) (by omega)))) ?_
            refine ah_takeW 10 134 (.slice (some ⟨q9, i, none⟩) 1 (2148 - i)) rfl (wanted_none rfl) rfl (by kernel_rfl) (by kernel_rfl) (by kernel_rfl) (fun _ _ _ h => h) ⟨hbW181, rW181_0, rW181_1, fW181_0⟩ (fun W hW => by (try obtain ⟨hbW181, rW181_0, rW181_1, fW181_0⟩ := hW); exact (run_sliceOp2 (eval_of (pf1 (by decide) (pf2 (by decide) (put_get _ _ _ (by simp only [put_size]; rw [hsz]; decide))))) (eval_of (pf2 (by decide) (put_get _ _ _ (by simp only [put_size]; rw [hsz]; decide)))) (eval_of (put_get _ _ _ (by simp only [put_size]; rw [hsz]; decide))) (sl_one1 _ hi10 _))) ?_
            refine ah_two 5 16 (by kernel_rfl) ?_ ?_
            · skip
              refine ao_call rfl (wanted_none rfl) 129 (fun v X => v = (.int .i64 (addv F (((2 * i + 1) : Nat) : Int))) ∧ W181 = X) rfl _ _ (run_callOp Try.func18 rfl rfl (arr2 (eval_of (pf8 (by decide) (put_get _ _ _ (by simp only [put_size]; rw [hsz]; decide)))) (eval_of (pf1 (by decide) (pf4 (by decide) (put_get _ _ _ (by simp only [put_size]; rw [hsz]; decide))))))) ((radd12_any F (((2 * i + 1) : Nat) : Int) W181).mono fun e X h => ⟨_, h.1, rfl, h.2⟩) ?_
              rintro _ _ ⟨rfl, rfl⟩
              refine ⟨⟨hbW181, rW181_0, rW181_1, fW181_0⟩, ?_⟩
              refine ah_two 11 16 (by kernel_rfl) ?_ ?_
              · skip
                have hbs_c := hbW181
                have hwc_q5 : q5 < W181.heap.size := rW181_0.2.2
                have hwc_q9 : q9 < W181.heap.size := rW181_1.2.2
                refine ao_call rfl (wanted_none rfl) 135 (fun v X => ∃ ac cc atc ctc PC, v = .tuple #[.agg #[.int .i64 F, .slice ac PC.length cc], (.slice atc 0 ctc), .int .i64 0] ∧ PC.map Prod.fst = ((Ri (min (i + 1) 8)).map (toP F)) ∧ Below W181.heap.size W181 X ∧ DOwn KPart 58 X W181.heap.size (.slice ac PC.length cc) PC ∧ X.ownsRow W181.heap.size 5 1 (.slice atc 0 ctc) ([] : List UInt8).length (([] : List UInt8).map B8)) rfl _ _ (run_callOp Try.func20 rfl rfl (arr3 (eval_of (pf2 (by decide) (pf8 (by decide) (put_get _ _ _ (by rw [hsz]; decide))))) (eval_of (put_get _ _ _ (by simp only [put_size]; rw [hsz]; decide))) (eval_of (pf1 (by decide) (put_get _ _ _ (by simp only [put_size]; rw [hsz]; decide)))))) ((radd_good _ _ F (addv F (((2 * i + 1) : Nat) : Int)) ((Ri (min i 8)).map (toP F)) [UInt8.ofNat i] W181 (by have h := fW181_0.of; rw [hPb] at h; exact h) (by have h := (sl_mid rW181_1 i 1 (2148 - i) (by rw [bigL_len]; omega) (by omega) (by have : maxLen = 9223372036854775807 := rfl; omega)); rwa [big_one hi10] at h) (ok_Ri hF hi10 (addv_bd _ _))).mono fun e X ⟨v4, vt, PL, he, hP, ho, ht, _, hb⟩ => by obtain ⟨a4, c4, rfl⟩ := ho.slice; obtain ⟨e1, e2, e3⟩ := (Ri_add hF hi10); rw [e1] at he; rw [e2] at hP; rw [e3] at ht; obtain ⟨at4, ct4, rfl⟩ := own_slice ht; exact ⟨_, he, a4, c4, at4, ct4, PL, rfl, hP, hb, ho, ht⟩) ?_
                rintro _ V183 ⟨ac, cc, atc, ctc, PC, rfl, hPc, hb182, hc, hct⟩
                have hbN := (hbW181.trans (hb182.mono hbW181.size))
                have hbN184 := hbN
                have rN185 := (rW181_0.below hb182)
                have rN186 := (rW181_1.below hb182)
                have fN187 := (fW181_0.below hb182)
                refine ⟨⟨hbN184, rN185, rN186, fN187⟩, ?_⟩
                refine ah_takeW 12 123 (.tuple #[.agg #[.int .i64 F, .slice ac PC.length cc], .slice atc 0 ctc, .int .i64 0]) rfl (wanted_none rfl) rfl (by kernel_rfl) (by kernel_rfl) (by kernel_rfl) (fun _ _ _ h => h) ⟨hbN184, rN185, rN186, fN187⟩ (fun W hW => by (try obtain ⟨hbN184, rN185, rN186, fN187⟩ := hW); exact (run_moveOp (eval_of (put_get _ _ _ (by simp only [put_size]; rw [hsz]; decide))))) ?_
                refine ah_takeW 13 136 (.agg #[.int .i64 F, .slice ac PC.length cc]) rfl (wanted_none rfl) rfl (by kernel_rfl) (by kernel_rfl) (by kernel_rfl) (fun _ _ _ h => h) ⟨hbN184, rN185, rN186, fN187⟩ (fun W hW => by (try obtain ⟨hbN184, rN185, rN186, fN187⟩ := hW); exact (run_extractOp (eval_of (put_get _ _ _ (by simp only [put_size]; rw [hsz]; decide))) rfl)) ?_
                refine ah_takeW 14 137 (.slice atc 0 ctc) rfl (wanted_none rfl) rfl (by kernel_rfl) (by kernel_rfl) (by kernel_rfl) (fun _ _ _ h => h) ⟨hbN184, rN185, rN186, fN187⟩ (fun W hW => by (try obtain ⟨hbN184, rN185, rN186, fN187⟩ := hW); exact (run_extractOp (eval_of (pf1 (by decide) (put_get _ _ _ (by simp only [put_size]; rw [hsz]; decide)))) rfl)) ?_
                refine ah_takeW 15 138 (.int .i64 0) rfl (wanted_none rfl) rfl (by kernel_rfl) (by kernel_rfl) (by kernel_rfl) (fun _ _ _ h => h) ⟨hbN184, rN185, rN186, fN187⟩ (fun W hW => by (try obtain ⟨hbN184, rN185, rN186, fN187⟩ := hW); exact (run_extractOp (eval_of (pf2 (by decide) (put_get _ _ _ (by simp only [put_size]; rw [hsz]; decide)))) rfl)) ?_
                refine ah_one 16 (by kernel_rfl) ?_
                obtain ⟨q188, hq188⟩ : ∃ x, x = V183.heap.size := ⟨_, rfl⟩
                refine ao_run rfl (wanted_none rfl) 17 (.pointer (some ⟨q188, 0, none⟩)) (V183.alloc (.cells #[.int .i64 0, .slice none 0 0] 24)) rfl (by rw [hq188]; exact (run_allocOp (by simp [go_sem, Instr.alloc]))) ⟨(hbN184.alloc hbN184.size _), (rN185.below ((Below.refl _ V183).alloc (Nat.le_refl _) _)), (rN186.below ((Below.refl _ V183).alloc (Nat.le_refl _) _)), (fN187.below ((Below.refl _ V183).alloc (Nat.le_refl _) _))⟩ ?_
                have hqq188 : w.heap.size ≤ q188 := by rw [hq188]; exact hbN184.size
                have hyq188_b : ∀ k, DBlk (.slice ab PB.length cb) PB k → k < q188 := fun k hk => by have := (dblk_lt fN187 hk).2; omega
                have hyq188_c : ∀ k, DBlk (.slice ac PC.length cc) PC k → k < q188 := fun k hk => by have := (dblk_lt hc hk).2; omega
                have hyq188_ct : ∀ k, ((.slice atc 0 ctc) : Value).ownBlock = some k → k < q188 := fun k hk => by have := (blk_lt hct hk).2; omega
                have hnq188_q5 : q5 < q188 := by rw [hq188]; exact rN185.2.2
                have hnq188_q9 : q9 < q188 := by rw [hq188]; exact rN186.2.2
                refine fresh (C := fun x W => AH _ _ _ _ _ _ x W) (fun x X => _ = x ∧ Below w.heap.size w X ∧ RowAt X q5 [.int .i64 F, .slice ab PB.length cb] ∧ RowAt X q9 (bigL.map B8) ∧ RowAt X q188 [.int .i64 0, .slice none 0 0] ∧ DOwn KPart 58 X w.heap.size (.slice ab PB.length cb) PB ∧ DOwn KPart 58 X W181.heap.size (.slice ac PC.length cc) PC ∧ X.ownsRow W181.heap.size 5 1 (.slice atc 0 ctc) ([] : List UInt8).length (([] : List UInt8).map B8)) ⟨rfl, (hbN184.alloc hbN184.size _), (rN185.below ((Below.refl _ V183).alloc (Nat.le_refl _) _)), (rN186.below ((Below.refl _ V183).alloc (Nat.le_refl _) _)), (by rw [hq188]; exact rowAt_alloc _ [.int .i64 0, .slice none 0 0] _), (fN187.below ((Below.refl _ V183).alloc (Nat.le_refl _) _)), (hc.below ((Below.refl _ V183).alloc (Nat.le_refl _) _)), (below_own hct ((Below.refl _ V183).alloc (Nat.le_refl _) _))⟩ ?_
                rintro _ W189 ⟨rfl, hbW189, rW189_0, rW189_1, rW189_2, fW189_0, fW189_1, fW189_2⟩
                clear hq188
                refine ah_one 17 (by kernel_rfl) ?_
                refine ao_skip rfl (wanted_none rfl) rfl _ (run_storeOp (eval_of (put_get _ _ _ (by simp only [put_size]; rw [hsz]; decide))) (eval_of (pf1 (by decide) (pf2 (by decide) (put_get _ _ _ (by simp only [put_size]; rw [hsz]; decide))))) (run_storeN (xs := [.int .i64 F, .slice ac PC.length cc]) rW189_2 (by simp) (by kernel_rfl) rfl)) ⟨(below_sets (by omega) _ _ _ hbW189), (RowAt.sets_other _ _ _ rW189_0 (by omega)), (RowAt.sets_other _ _ _ rW189_1 (by omega)), (down_setlt hyq188_b (down_setlt hyq188_b fW189_0))⟩ ?_
                refine fresh (C := fun x W => AH _ _ _ _ _ _ x W) (fun x X => _ = x ∧ Below w.heap.size w X ∧ RowAt X q5 [.int .i64 F, .slice ab PB.length cb] ∧ RowAt X q9 (bigL.map B8) ∧ RowAt X q188 [.int .i64 F, .slice ac PC.length cc] ∧ DOwn KPart 58 X w.heap.size (.slice ab PB.length cb) PB ∧ DOwn KPart 58 X W181.heap.size (.slice ac PC.length cc) PC ∧ X.ownsRow W181.heap.size 5 1 (.slice atc 0 ctc) ([] : List UInt8).length (([] : List UInt8).map B8)) ⟨rfl, (below_sets (by omega) _ _ _ hbW189), (RowAt.sets_other _ _ _ rW189_0 (by omega)), (RowAt.sets_other _ _ _ rW189_1 (by omega)), (RowAt.sets [.int .i64 F, .slice ac PC.length cc] 0 _ _ rW189_2 (by simp)), (down_setlt hyq188_b (down_setlt hyq188_b fW189_0)), (down_setlt hyq188_c (down_setlt hyq188_c fW189_1)), (own_setlt hyq188_ct (own_setlt hyq188_ct fW189_2))⟩ ?_
                rintro _ W190 ⟨rfl, hbW190, rW190_0, rW190_1, rW190_2, fW190_0, fW190_1, fW190_2⟩
                refine ah_takeW 18 18 (.slice atc 0 ctc) rfl (wanted_none rfl) rfl (by kernel_rfl) (by kernel_rfl) (by kernel_rfl) (fun _ _ _ h => h) ⟨hbW190, rW190_0, rW190_1, fW190_0⟩ (fun W hW => by (try obtain ⟨hbW190, rW190_0, rW190_1, fW190_0⟩ := hW); exact (run_assignOp (eval_of (pf2 (by decide) (put_get _ _ _ (by simp only [put_size]; rw [hsz]; decide)))))) ?_
                refine ah_takeW 19 19 (.int .i64 0) rfl (wanted_none rfl) rfl (by kernel_rfl) (by kernel_rfl) (by kernel_rfl) (fun _ _ _ h => h) ⟨hbW190, rW190_0, rW190_1, fW190_0⟩ (fun W hW => by (try obtain ⟨hbW190, rW190_0, rW190_1, fW190_0⟩ := hW); exact (run_assignOp (eval_of (pf2 (by decide) (put_get _ _ _ (by simp only [put_size]; rw [hsz]; decide)))))) ?_
                refine fresh (C := fun x W => AH _ _ _ _ _ _ x W) (fun x X => _ = X ∧ x.tmps.size = 177 ∧ x.defers = [] ∧ x.tmps[3]? = some (.int .i64 F) ∧ x.tmps[4]? = some (.pointer (some ⟨q5, 0, none⟩)) ∧ x.tmps[5]? = some (.slice (some ⟨q9, 0, none⟩) 2148 2148) ∧ x.tmps[16]? = some (.int .i64 ((i : Nat) : Int)) ∧ x.tmps[17]? = some (.pointer (some ⟨q188, 0, none⟩)) ∧ x.tmps[18]? = some (.slice atc 0 ctc) ∧ x.tmps[19]? = some (.int .i64 0)) ⟨rfl, (by simp only [put_size]; exact hsz), (by simp only [put_defers]; exact hdf), (pf1 (by decide) (pf2 (by decide) (pf16 (by decide) s_3))), (pf1 (by decide) (pf2 (by decide) (pf16 (by decide) s_4))), (pf1 (by decide) (pf2 (by decide) (pf16 (by decide) s_5))), (pf1 (by decide) (pf2 (by decide) (pf16 (by decide) s_16))), (pf2 (by decide) (put_get _ _ _ (by simp only [put_size]; rw [hsz]; decide))), (pf1 (by decide) (put_get _ _ _ (by simp only [put_size]; rw [hsz]; decide))), (put_get _ _ _ (by simp only [put_size]; rw [hsz]; decide))⟩ ?_
                clear hsz hdf s_3 s_4 s_5 s_16 s_120
                rintro a _ ⟨rfl, hsz, hdf, s_3, s_4, s_5, s_16, s_17, s_18, s_19⟩
                refine ah_done (by kernel_rfl) ?_
                have hws : w.heap.size ≤ W181.heap.size := hbs_c.size
                exact ow_then (hK180 _ _ ⟨q188, ac, cc, atc, ctc, PC, hPc, by omega, by omega, hsz, hdf, s_3, s_4, s_5, s_16, (by first | exact s_17 | (rw [s_17]; congr 2; first | rfl | omega | (push_cast; omega)) | (rw [s_17]; first | rfl | (simp; try omega))), s_18, s_19, hbW190, rW190_0, rW190_1, rW190_2, (DOwn.mono fW190_1 hwc_q5), (own_mono fW190_2 hws)⟩)
              · skip
                obtain ⟨q192, hq192⟩ : ∃ x, x = W181.heap.size := ⟨_, rfl⟩
                refine ao_run rfl (wanted_none rfl) 17 (.pointer (some ⟨q192, 0, none⟩)) (W181.alloc (.cells #[.int .i64 0, .slice none 0 0] 24)) rfl (by rw [hq192]; exact (run_allocOp (by simp [go_sem, Instr.alloc]))) ⟨(hbW181.alloc hbW181.size _), (rW181_0.below ((Below.refl _ W181).alloc (Nat.le_refl _) _)), (rW181_1.below ((Below.refl _ W181).alloc (Nat.le_refl _) _)), (fW181_0.below ((Below.refl _ W181).alloc (Nat.le_refl _) _))⟩ ?_
                have hqq192 : w.heap.size ≤ q192 := by rw [hq192]; exact hbW181.size
                have hyq192_b : ∀ k, DBlk (.slice ab PB.length cb) PB k → k < q192 := fun k hk => by have := (dblk_lt fW181_0 hk).2; omega
                have hnq192_q5 : q5 < q192 := by rw [hq192]; exact rW181_0.2.2
                have hnq192_q9 : q9 < q192 := by rw [hq192]; exact rW181_1.2.2
                refine fresh (C := fun x W => AH _ _ _ _ _ _ x W) (fun x X => _ = x ∧ Below w.heap.size w X ∧ RowAt X q5 [.int .i64 F, .slice ab PB.length cb] ∧ RowAt X q9 (bigL.map B8) ∧ RowAt X q192 [.int .i64 0, .slice none 0 0] ∧ DOwn KPart 58 X w.heap.size (.slice ab PB.length cb) PB) ⟨rfl, (hbW181.alloc hbW181.size _), (rW181_0.below ((Below.refl _ W181).alloc (Nat.le_refl _) _)), (rW181_1.below ((Below.refl _ W181).alloc (Nat.le_refl _) _)), (by rw [hq192]; exact rowAt_alloc _ [.int .i64 0, .slice none 0 0] _), (fW181_0.below ((Below.refl _ W181).alloc (Nat.le_refl _) _))⟩ ?_
                rintro _ W193 ⟨rfl, hbW193, rW193_0, rW193_1, rW193_2, fW193_0⟩
                clear hq192
                refine ah_one 11 (by kernel_rfl) ?_
                have hbs_c := hbW193
                have hwc_q5 : q5 < W193.heap.size := rW193_0.2.2
                have hwc_q9 : q9 < W193.heap.size := rW193_1.2.2
                have hwc_q192 : q192 < W193.heap.size := rW193_2.2.2
                refine ao_call rfl (wanted_none rfl) 135 (fun v X => ∃ ac cc atc ctc PC, v = .tuple #[.agg #[.int .i64 F, .slice ac PC.length cc], (.slice atc 0 ctc), .int .i64 0] ∧ PC.map Prod.fst = ((Ri (min (i + 1) 8)).map (toP F)) ∧ Below W193.heap.size W193 X ∧ DOwn KPart 58 X W193.heap.size (.slice ac PC.length cc) PC ∧ X.ownsRow W193.heap.size 5 1 (.slice atc 0 ctc) ([] : List UInt8).length (([] : List UInt8).map B8)) rfl _ _ (run_callOp Try.func20 rfl rfl (arr3 (eval_of (pf1 (by decide) (pf2 (by decide) (pf8 (by decide) (put_get _ _ _ (by rw [hsz]; decide)))))) (eval_of (pf1 (by decide) (put_get _ _ _ (by simp only [put_size]; rw [hsz]; decide)))) (eval_of (pf2 (by decide) (put_get _ _ _ (by simp only [put_size]; rw [hsz]; decide)))))) ((radd_good _ _ F (addv F (((2 * i + 1) : Nat) : Int)) ((Ri (min i 8)).map (toP F)) [UInt8.ofNat i] W193 (by have h := fW193_0.of; rw [hPb] at h; exact h) (by have h := (sl_mid rW193_1 i 1 (2148 - i) (by rw [bigL_len]; omega) (by omega) (by have : maxLen = 9223372036854775807 := rfl; omega)); rwa [big_one hi10] at h) (ok_Ri hF hi10 (addv_bd _ _))).mono fun e X ⟨v4, vt, PL, he, hP, ho, ht, _, hb⟩ => by obtain ⟨a4, c4, rfl⟩ := ho.slice; obtain ⟨e1, e2, e3⟩ := (Ri_add hF hi10); rw [e1] at he; rw [e2] at hP; rw [e3] at ht; obtain ⟨at4, ct4, rfl⟩ := own_slice ht; exact ⟨_, he, a4, c4, at4, ct4, PL, rfl, hP, hb, ho, ht⟩) ?_
                rintro _ V195 ⟨ac, cc, atc, ctc, PC, rfl, hPc, hb194, hc, hct⟩
                have hbN := (hbW193.trans (hb194.mono hbW193.size))
                have hbN196 := hbN
                have rN197 := (rW193_0.below hb194)
                have rN198 := (rW193_1.below hb194)
                have rN199 := (rW193_2.below hb194)
                have fN200 := (fW193_0.below hb194)
                refine ⟨⟨hbN196, rN197, rN198, fN200⟩, ?_⟩
                refine ah_takeW 12 123 (.tuple #[.agg #[.int .i64 F, .slice ac PC.length cc], .slice atc 0 ctc, .int .i64 0]) rfl (wanted_none rfl) rfl (by kernel_rfl) (by kernel_rfl) (by kernel_rfl) (fun _ _ _ h => h) ⟨hbN196, rN197, rN198, fN200⟩ (fun W hW => by (try obtain ⟨hbN196, rN197, rN198, fN200⟩ := hW); exact (run_moveOp (eval_of (put_get _ _ _ (by simp only [put_size]; rw [hsz]; decide))))) ?_
                refine ah_takeW 13 136 (.agg #[.int .i64 F, .slice ac PC.length cc]) rfl (wanted_none rfl) rfl (by kernel_rfl) (by kernel_rfl) (by kernel_rfl) (fun _ _ _ h => h) ⟨hbN196, rN197, rN198, fN200⟩ (fun W hW => by (try obtain ⟨hbN196, rN197, rN198, fN200⟩ := hW); exact (run_extractOp (eval_of (put_get _ _ _ (by simp only [put_size]; rw [hsz]; decide))) rfl)) ?_
                refine ah_takeW 14 137 (.slice atc 0 ctc) rfl (wanted_none rfl) rfl (by kernel_rfl) (by kernel_rfl) (by kernel_rfl) (fun _ _ _ h => h) ⟨hbN196, rN197, rN198, fN200⟩ (fun W hW => by (try obtain ⟨hbN196, rN197, rN198, fN200⟩ := hW); exact (run_extractOp (eval_of (pf1 (by decide) (put_get _ _ _ (by simp only [put_size]; rw [hsz]; decide)))) rfl)) ?_
                refine ah_takeW 15 138 (.int .i64 0) rfl (wanted_none rfl) rfl (by kernel_rfl) (by kernel_rfl) (by kernel_rfl) (fun _ _ _ h => h) ⟨hbN196, rN197, rN198, fN200⟩ (fun W hW => by (try obtain ⟨hbN196, rN197, rN198, fN200⟩ := hW); exact (run_extractOp (eval_of (pf2 (by decide) (put_get _ _ _ (by simp only [put_size]; rw [hsz]; decide)))) rfl)) ?_
                refine ah_one 17 (by kernel_rfl) ?_
                refine ao_skip rfl (wanted_none rfl) rfl _ (run_storeOp (eval_of (pf1 (by decide) (pf4 (by decide) (put_get _ _ _ (by simp only [put_size]; rw [hsz]; decide))))) (eval_of (pf2 (by decide) (put_get _ _ _ (by simp only [put_size]; rw [hsz]; decide)))) (run_storeN (xs := [.int .i64 F, .slice ac PC.length cc]) rN199 (by simp) (by kernel_rfl) rfl)) ⟨(below_sets (by omega) _ _ _ hbN196), (RowAt.sets_other _ _ _ rN197 (by omega)), (RowAt.sets_other _ _ _ rN198 (by omega)), (down_setlt hyq192_b (down_setlt hyq192_b fN200))⟩ ?_
                refine fresh (C := fun x W => AH _ _ _ _ _ _ x W) (fun x X => _ = x ∧ Below w.heap.size w X ∧ RowAt X q5 [.int .i64 F, .slice ab PB.length cb] ∧ RowAt X q9 (bigL.map B8) ∧ RowAt X q192 [.int .i64 F, .slice ac PC.length cc] ∧ DOwn KPart 58 X w.heap.size (.slice ab PB.length cb) PB ∧ DOwn KPart 58 X W193.heap.size (.slice ac PC.length cc) PC ∧ X.ownsRow W193.heap.size 5 1 (.slice atc 0 ctc) ([] : List UInt8).length (([] : List UInt8).map B8)) ⟨rfl, (below_sets (by omega) _ _ _ hbN196), (RowAt.sets_other _ _ _ rN197 (by omega)), (RowAt.sets_other _ _ _ rN198 (by omega)), (RowAt.sets [.int .i64 F, .slice ac PC.length cc] 0 _ _ rN199 (by simp)), (down_setlt hyq192_b (down_setlt hyq192_b fN200)), (down_setl hwc_q192 (down_setl hwc_q192 hc)), (own_set2 hwc_q192 (own_set2 hwc_q192 hct))⟩ ?_
                rintro _ W201 ⟨rfl, hbW201, rW201_0, rW201_1, rW201_2, fW201_0, fW201_1, fW201_2⟩
                refine ah_takeW 18 18 (.slice atc 0 ctc) rfl (wanted_none rfl) rfl (by kernel_rfl) (by kernel_rfl) (by kernel_rfl) (fun _ _ _ h => h) ⟨hbW201, rW201_0, rW201_1, fW201_0⟩ (fun W hW => by (try obtain ⟨hbW201, rW201_0, rW201_1, fW201_0⟩ := hW); exact (run_assignOp (eval_of (pf1 (by decide) (put_get _ _ _ (by simp only [put_size]; rw [hsz]; decide)))))) ?_
                refine ah_takeW 19 19 (.int .i64 0) rfl (wanted_none rfl) rfl (by kernel_rfl) (by kernel_rfl) (by kernel_rfl) (fun _ _ _ h => h) ⟨hbW201, rW201_0, rW201_1, fW201_0⟩ (fun W hW => by (try obtain ⟨hbW201, rW201_0, rW201_1, fW201_0⟩ := hW); exact (run_assignOp (eval_of (pf1 (by decide) (put_get _ _ _ (by simp only [put_size]; rw [hsz]; decide)))))) ?_
                refine fresh (C := fun x W => AH _ _ _ _ _ _ x W) (fun x X => _ = X ∧ x.tmps.size = 177 ∧ x.defers = [] ∧ x.tmps[3]? = some (.int .i64 F) ∧ x.tmps[4]? = some (.pointer (some ⟨q5, 0, none⟩)) ∧ x.tmps[5]? = some (.slice (some ⟨q9, 0, none⟩) 2148 2148) ∧ x.tmps[16]? = some (.int .i64 ((i : Nat) : Int)) ∧ x.tmps[17]? = some (.pointer (some ⟨q192, 0, none⟩)) ∧ x.tmps[18]? = some (.slice atc 0 ctc) ∧ x.tmps[19]? = some (.int .i64 0)) ⟨rfl, (by simp only [put_size]; exact hsz), (by simp only [put_defers]; exact hdf), (pf1 (by decide) (pf2 (by decide) (pf16 (by decide) s_3))), (pf1 (by decide) (pf2 (by decide) (pf16 (by decide) s_4))), (pf1 (by decide) (pf2 (by decide) (pf16 (by decide) s_5))), (pf1 (by decide) (pf2 (by decide) (pf16 (by decide) s_16))), (pf1 (by decide) (pf2 (by decide) (pf4 (by decide) (put_get _ _ _ (by simp only [put_size]; rw [hsz]; decide))))), (pf1 (by decide) (put_get _ _ _ (by simp only [put_size]; rw [hsz]; decide))), (put_get _ _ _ (by simp only [put_size]; rw [hsz]; decide))⟩ ?_
                clear hsz hdf s_3 s_4 s_5 s_16 s_120
                rintro a _ ⟨rfl, hsz, hdf, s_3, s_4, s_5, s_16, s_17, s_18, s_19⟩
                refine ah_done (by kernel_rfl) ?_
                have hws : w.heap.size ≤ W193.heap.size := hbs_c.size
                exact ow_then (hK180 _ _ ⟨q192, ac, cc, atc, ctc, PC, hPc, by omega, by omega, hsz, hdf, s_3, s_4, s_5, s_16, (by first | exact s_17 | (rw [s_17]; congr 2; first | rfl | omega | (push_cast; omega)) | (rw [s_17]; first | rfl | (simp; try omega))), s_18, s_19, hbW201, rW201_0, rW201_1, rW201_2, (DOwn.mono fW201_1 hwc_q5), (own_mono fW201_2 hws)⟩)
            · skip
              obtain ⟨q203, hq203⟩ : ∃ x, x = W181.heap.size := ⟨_, rfl⟩
              refine ao_run rfl (wanted_none rfl) 17 (.pointer (some ⟨q203, 0, none⟩)) (W181.alloc (.cells #[.int .i64 0, .slice none 0 0] 24)) rfl (by rw [hq203]; exact (run_allocOp (by simp [go_sem, Instr.alloc]))) ⟨(hbW181.alloc hbW181.size _), (rW181_0.below ((Below.refl _ W181).alloc (Nat.le_refl _) _)), (rW181_1.below ((Below.refl _ W181).alloc (Nat.le_refl _) _)), (fW181_0.below ((Below.refl _ W181).alloc (Nat.le_refl _) _))⟩ ?_
              have hqq203 : w.heap.size ≤ q203 := by rw [hq203]; exact hbW181.size
              have hyq203_b : ∀ k, DBlk (.slice ab PB.length cb) PB k → k < q203 := fun k hk => by have := (dblk_lt fW181_0 hk).2; omega
              have hnq203_q5 : q5 < q203 := by rw [hq203]; exact rW181_0.2.2
              have hnq203_q9 : q9 < q203 := by rw [hq203]; exact rW181_1.2.2
              refine fresh (C := fun x W => AH _ _ _ _ _ _ x W) (fun x X => _ = x ∧ Below w.heap.size w X ∧ RowAt X q5 [.int .i64 F, .slice ab PB.length cb] ∧ RowAt X q9 (bigL.map B8) ∧ RowAt X q203 [.int .i64 0, .slice none 0 0] ∧ DOwn KPart 58 X w.heap.size (.slice ab PB.length cb) PB) ⟨rfl, (hbW181.alloc hbW181.size _), (rW181_0.below ((Below.refl _ W181).alloc (Nat.le_refl _) _)), (rW181_1.below ((Below.refl _ W181).alloc (Nat.le_refl _) _)), (by rw [hq203]; exact rowAt_alloc _ [.int .i64 0, .slice none 0 0] _), (fW181_0.below ((Below.refl _ W181).alloc (Nat.le_refl _) _))⟩ ?_
              rintro _ W204 ⟨rfl, hbW204, rW204_0, rW204_1, rW204_2, fW204_0⟩
              clear hq203
              refine ah_one 5 (by kernel_rfl) ?_
              refine ao_call rfl (wanted_none rfl) 129 (fun v X => v = (.int .i64 (addv F (((2 * i + 1) : Nat) : Int))) ∧ W204 = X) rfl _ _ (run_callOp Try.func18 rfl rfl (arr2 (eval_of (pf1 (by decide) (pf8 (by decide) (put_get _ _ _ (by simp only [put_size]; rw [hsz]; decide))))) (eval_of (pf2 (by decide) (pf4 (by decide) (put_get _ _ _ (by simp only [put_size]; rw [hsz]; decide))))))) ((radd12_any F (((2 * i + 1) : Nat) : Int) W204).mono fun e X h => ⟨_, h.1, rfl, h.2⟩) ?_
              rintro _ _ ⟨rfl, rfl⟩
              refine ⟨⟨hbW204, rW204_0, rW204_1, fW204_0⟩, ?_⟩
              refine ah_one 11 (by kernel_rfl) ?_
              have hbs_c := hbW204
              have hwc_q5 : q5 < W204.heap.size := rW204_0.2.2
              have hwc_q9 : q9 < W204.heap.size := rW204_1.2.2
              have hwc_q203 : q203 < W204.heap.size := rW204_2.2.2
              refine ao_call rfl (wanted_none rfl) 135 (fun v X => ∃ ac cc atc ctc PC, v = .tuple #[.agg #[.int .i64 F, .slice ac PC.length cc], (.slice atc 0 ctc), .int .i64 0] ∧ PC.map Prod.fst = ((Ri (min (i + 1) 8)).map (toP F)) ∧ Below W204.heap.size W204 X ∧ DOwn KPart 58 X W204.heap.size (.slice ac PC.length cc) PC ∧ X.ownsRow W204.heap.size 5 1 (.slice atc 0 ctc) ([] : List UInt8).length (([] : List UInt8).map B8)) rfl _ _ (run_callOp Try.func20 rfl rfl (arr3 (eval_of (pf1 (by decide) (pf2 (by decide) (pf8 (by decide) (put_get _ _ _ (by rw [hsz]; decide)))))) (eval_of (put_get _ _ _ (by simp only [put_size]; rw [hsz]; decide))) (eval_of (pf2 (by decide) (put_get _ _ _ (by simp only [put_size]; rw [hsz]; decide)))))) ((radd_good _ _ F (addv F (((2 * i + 1) : Nat) : Int)) ((Ri (min i 8)).map (toP F)) [UInt8.ofNat i] W204 (by have h := fW204_0.of; rw [hPb] at h; exact h) (by have h := (sl_mid rW204_1 i 1 (2148 - i) (by rw [bigL_len]; omega) (by omega) (by have : maxLen = 9223372036854775807 := rfl; omega)); rwa [big_one hi10] at h) (ok_Ri hF hi10 (addv_bd _ _))).mono fun e X ⟨v4, vt, PL, he, hP, ho, ht, _, hb⟩ => by obtain ⟨a4, c4, rfl⟩ := ho.slice; obtain ⟨e1, e2, e3⟩ := (Ri_add hF hi10); rw [e1] at he; rw [e2] at hP; rw [e3] at ht; obtain ⟨at4, ct4, rfl⟩ := own_slice ht; exact ⟨_, he, a4, c4, at4, ct4, PL, rfl, hP, hb, ho, ht⟩) ?_
              rintro _ V206 ⟨ac, cc, atc, ctc, PC, rfl, hPc, hb205, hc, hct⟩
              have hbN := (hbW204.trans (hb205.mono hbW204.size))
              have hbN207 := hbN
              have rN208 := (rW204_0.below hb205)
              have rN209 := (rW204_1.below hb205)
              have rN210 := (rW204_2.below hb205)
              have fN211 := (fW204_0.below hb205)
              refine ⟨⟨hbN207, rN208, rN209, fN211⟩, ?_⟩
              refine ah_takeW 12 123 (.tuple #[.agg #[.int .i64 F, .slice ac PC.length cc], .slice atc 0 ctc, .int .i64 0]) rfl (wanted_none rfl) rfl (by kernel_rfl) (by kernel_rfl) (by kernel_rfl) (fun _ _ _ h => h) ⟨hbN207, rN208, rN209, fN211⟩ (fun W hW => by (try obtain ⟨hbN207, rN208, rN209, fN211⟩ := hW); exact (run_moveOp (eval_of (put_get _ _ _ (by simp only [put_size]; rw [hsz]; decide))))) ?_
              refine ah_takeW 13 136 (.agg #[.int .i64 F, .slice ac PC.length cc]) rfl (wanted_none rfl) rfl (by kernel_rfl) (by kernel_rfl) (by kernel_rfl) (fun _ _ _ h => h) ⟨hbN207, rN208, rN209, fN211⟩ (fun W hW => by (try obtain ⟨hbN207, rN208, rN209, fN211⟩ := hW); exact (run_extractOp (eval_of (put_get _ _ _ (by simp only [put_size]; rw [hsz]; decide))) rfl)) ?_
              refine ah_takeW 14 137 (.slice atc 0 ctc) rfl (wanted_none rfl) rfl (by kernel_rfl) (by kernel_rfl) (by kernel_rfl) (fun _ _ _ h => h) ⟨hbN207, rN208, rN209, fN211⟩ (fun W hW => by (try obtain ⟨hbN207, rN208, rN209, fN211⟩ := hW); exact (run_extractOp (eval_of (pf1 (by decide) (put_get _ _ _ (by simp only [put_size]; rw [hsz]; decide)))) rfl)) ?_
              refine ah_takeW 15 138 (.int .i64 0) rfl (wanted_none rfl) rfl (by kernel_rfl) (by kernel_rfl) (by kernel_rfl) (fun _ _ _ h => h) ⟨hbN207, rN208, rN209, fN211⟩ (fun W hW => by (try obtain ⟨hbN207, rN208, rN209, fN211⟩ := hW); exact (run_extractOp (eval_of (pf2 (by decide) (put_get _ _ _ (by simp only [put_size]; rw [hsz]; decide)))) rfl)) ?_
              refine ah_one 17 (by kernel_rfl) ?_
              refine ao_skip rfl (wanted_none rfl) rfl _ (run_storeOp (eval_of (pf2 (by decide) (pf4 (by decide) (put_get _ _ _ (by simp only [put_size]; rw [hsz]; decide))))) (eval_of (pf2 (by decide) (put_get _ _ _ (by simp only [put_size]; rw [hsz]; decide)))) (run_storeN (xs := [.int .i64 F, .slice ac PC.length cc]) rN210 (by simp) (by kernel_rfl) rfl)) ⟨(below_sets (by omega) _ _ _ hbN207), (RowAt.sets_other _ _ _ rN208 (by omega)), (RowAt.sets_other _ _ _ rN209 (by omega)), (down_setlt hyq203_b (down_setlt hyq203_b fN211))⟩ ?_
              refine fresh (C := fun x W => AH _ _ _ _ _ _ x W) (fun x X => _ = x ∧ Below w.heap.size w X ∧ RowAt X q5 [.int .i64 F, .slice ab PB.length cb] ∧ RowAt X q9 (bigL.map B8) ∧ RowAt X q203 [.int .i64 F, .slice ac PC.length cc] ∧ DOwn KPart 58 X w.heap.size (.slice ab PB.length cb) PB ∧ DOwn KPart 58 X W204.heap.size (.slice ac PC.length cc) PC ∧ X.ownsRow W204.heap.size 5 1 (.slice atc 0 ctc) ([] : List UInt8).length (([] : List UInt8).map B8)) ⟨rfl, (below_sets (by omega) _ _ _ hbN207), (RowAt.sets_other _ _ _ rN208 (by omega)), (RowAt.sets_other _ _ _ rN209 (by omega)), (RowAt.sets [.int .i64 F, .slice ac PC.length cc] 0 _ _ rN210 (by simp)), (down_setlt hyq203_b (down_setlt hyq203_b fN211)), (down_setl hwc_q203 (down_setl hwc_q203 hc)), (own_set2 hwc_q203 (own_set2 hwc_q203 hct))⟩ ?_
              rintro _ W212 ⟨rfl, hbW212, rW212_0, rW212_1, rW212_2, fW212_0, fW212_1, fW212_2⟩
              refine ah_takeW 18 18 (.slice atc 0 ctc) rfl (wanted_none rfl) rfl (by kernel_rfl) (by kernel_rfl) (by kernel_rfl) (fun _ _ _ h => h) ⟨hbW212, rW212_0, rW212_1, fW212_0⟩ (fun W hW => by (try obtain ⟨hbW212, rW212_0, rW212_1, fW212_0⟩ := hW); exact (run_assignOp (eval_of (pf1 (by decide) (put_get _ _ _ (by simp only [put_size]; rw [hsz]; decide)))))) ?_
              refine ah_takeW 19 19 (.int .i64 0) rfl (wanted_none rfl) rfl (by kernel_rfl) (by kernel_rfl) (by kernel_rfl) (fun _ _ _ h => h) ⟨hbW212, rW212_0, rW212_1, fW212_0⟩ (fun W hW => by (try obtain ⟨hbW212, rW212_0, rW212_1, fW212_0⟩ := hW); exact (run_assignOp (eval_of (pf1 (by decide) (put_get _ _ _ (by simp only [put_size]; rw [hsz]; decide)))))) ?_
              refine fresh (C := fun x W => AH _ _ _ _ _ _ x W) (fun x X => _ = X ∧ x.tmps.size = 177 ∧ x.defers = [] ∧ x.tmps[3]? = some (.int .i64 F) ∧ x.tmps[4]? = some (.pointer (some ⟨q5, 0, none⟩)) ∧ x.tmps[5]? = some (.slice (some ⟨q9, 0, none⟩) 2148 2148) ∧ x.tmps[16]? = some (.int .i64 ((i : Nat) : Int)) ∧ x.tmps[17]? = some (.pointer (some ⟨q203, 0, none⟩)) ∧ x.tmps[18]? = some (.slice atc 0 ctc) ∧ x.tmps[19]? = some (.int .i64 0)) ⟨rfl, (by simp only [put_size]; exact hsz), (by simp only [put_defers]; exact hdf), (pf1 (by decide) (pf2 (by decide) (pf16 (by decide) s_3))), (pf1 (by decide) (pf2 (by decide) (pf16 (by decide) s_4))), (pf1 (by decide) (pf2 (by decide) (pf16 (by decide) s_5))), (pf1 (by decide) (pf2 (by decide) (pf16 (by decide) s_16))), (pf8 (by decide) (put_get _ _ _ (by simp only [put_size]; rw [hsz]; decide))), (pf1 (by decide) (put_get _ _ _ (by simp only [put_size]; rw [hsz]; decide))), (put_get _ _ _ (by simp only [put_size]; rw [hsz]; decide))⟩ ?_
              clear hsz hdf s_3 s_4 s_5 s_16 s_120
              rintro a _ ⟨rfl, hsz, hdf, s_3, s_4, s_5, s_16, s_17, s_18, s_19⟩
              refine ah_done (by kernel_rfl) ?_
              have hws : w.heap.size ≤ W204.heap.size := hbs_c.size
              exact ow_then (hK180 _ _ ⟨q203, ac, cc, atc, ctc, PC, hPc, by omega, by omega, hsz, hdf, s_3, s_4, s_5, s_16, (by first | exact s_17 | (rw [s_17]; congr 2; first | rfl | omega | (push_cast; omega)) | (rw [s_17]; first | rfl | (simp; try omega))), s_18, s_19, hbW212, rW212_0, rW212_1, rW212_2, (DOwn.mono fW212_1 hwc_q5), (own_mono fW212_2 hws)⟩)
          · skip
            clear hsz hdf s_3 s_4 s_5 s_16 s_120
            rintro a W214 ⟨qc, ac, cc, atc, ctc, PC, hPc, hlqc_q5, hlqc_q9, hsz, hdf, s_3, s_4, s_5, s_16, s_17, s_18, s_19, hbW214, rW214_0, rW214_1, rW214_2, gW214_0, gW214_1⟩
            refine wp_seq ?_
            refine wp_seq ?_
            refine owl_region [_, _, _, _, _, _, _, _, _, _, _, _, _, _, _, _, _] rfl ?_
            refine owl_run (wanted_none rfl) 139 (.int .i64 0) _ rfl (run_moveOp (eval_of s_19)) ?_
            refine owl_call (wanted_none rfl) 140 (fun v X => v = (.int .i64 0) ∧ W214 = X) rfl _ _ (run_callOp Try.func16 rfl rfl (arr1 (eval_of (put_get _ _ _ (by rw [hsz]; decide))))) ((num14_any 0 W214).mono fun e X h => ⟨_, h.1, rfl, h.2⟩) ?_
            rintro _ _ ⟨rfl, rfl⟩
            refine owl_run (wanted_none rfl) 141 (.bool false) _ rfl (run_binOp (eval_of (put_get _ _ _ (by simp only [put_size]; rw [hsz]; decide))) (eval_cst _ _) (eqIntI _ _ _ _ _ _ _) (neqIb _ _ _ false (by decide))) ?_
            refine owl_run (wanted_none rfl) 142 (.bool false) _ rfl (run_moveOp (eval_of (put_get _ _ _ (by simp only [put_size]; rw [hsz]; decide)))) ?_
            refine owg_run 3 142 false rfl (by kernel_rfl) (put_get _ _ _ (by simp only [put_size]; rw [hsz]; decide)) 143 (.slice atc 0 ctc) _ rfl (run_moveOp (eval_of (pf4 (by decide) s_18))) ?_
            refine owg_run 3 142 false rfl (by kernel_rfl) (pf1 (by decide) (put_get _ _ _ (by simp only [put_size]; rw [hsz]; decide))) 144 (.int .i64 0) _ rfl (run_lenOp Try.underlying34 (eval_of (put_get _ _ _ (by simp only [put_size]; rw [hsz]; decide)))) ?_
            refine owg_run 3 142 false rfl (by kernel_rfl) (pf2 (by decide) (put_get _ _ _ (by simp only [put_size]; rw [hsz]; decide))) 145 (.bool false) _ rfl (run_binOp (eval_of (put_get _ _ _ (by simp only [put_size]; rw [hsz]; decide))) (eval_cst _ _) (by simp [go_sem]) (gtrIb _ _ _ false (by decide))) ?_
            refine owl_run (wanted_none rfl) 146 (.bool false) _ rfl (run_pickF (eval_of (pf1 (by decide) (pf2 (by decide) (put_get _ _ _ (by simp only [put_size]; rw [hsz]; decide))))) (eval_of (put_get _ _ _ (by simp only [put_size]; rw [hsz]; decide)))) ?_
            refine owl_run (wanted_none rfl) 147 (.bool false) _ rfl (run_moveOp (eval_of (put_get _ _ _ (by simp only [put_size]; rw [hsz]; decide)))) ?_
            refine owg_run 8 147 false rfl (by kernel_rfl) (put_get _ _ _ (by simp only [put_size]; rw [hsz]; decide)) 148 (.pointer (some ⟨qc, 1, none⟩)) _ rfl (run_fieldAddr (eval_of (pf1 (by decide) (pf8 (by decide) s_17))) (by simp [go_sem, Instr.fieldAt])) ?_
            refine owg_run 8 147 false rfl (by kernel_rfl) (pf1 (by decide) (put_get _ _ _ (by simp only [put_size]; rw [hsz]; decide))) 149 (.slice ac PC.length cc) _ rfl (run_loadOp (eval_of (put_get _ _ _ (by simp only [put_size]; rw [hsz]; decide))) (by simp [go_sem, Instr.loadAt, rW214_2.cell (j := 1) rfl])) ?_
            refine owg_run 8 147 false rfl (by kernel_rfl) (pf2 (by decide) (put_get _ _ _ (by simp only [put_size]; rw [hsz]; decide))) 150 (.int .i64 ((PC.length : Nat) : Int)) _ rfl (run_lenOp Try.underlying22 (eval_of (put_get _ _ _ (by simp only [put_size]; rw [hsz]; decide)))) ?_
            refine owg_run 8 147 false rfl (by kernel_rfl) (pf1 (by decide) (pf2 (by decide) (put_get _ _ _ (by simp only [put_size]; rw [hsz]; decide)))) 151 (.int .i64 ((i : Nat) : Int)) _ rfl (run_moveOp (eval_of (pf4 (by decide) (pf8 (by decide) s_16)))) ?_
            refine owg_run 8 147 false rfl (by kernel_rfl) (pf4 (by decide) (put_get _ _ _ (by simp only [put_size]; rw [hsz]; decide))) 152 (.int .i64 (((i + 1) : Nat) : Int)) _ rfl (run_binOp (eval_of (put_get _ _ _ (by simp only [put_size]; rw [hsz]; decide))) (eval_cst _ _) (by simp [go_sem]) (addIw _ _ _ _ (by omega) (by omega) (by omega))) ?_
            refine owg_run 8 147 false rfl (by kernel_rfl) (pf1 (by decide) (pf4 (by decide) (put_get _ _ _ (by simp only [put_size]; rw [hsz]; decide)))) 153 (.int .i64 (min (((i + 1) : Nat) : Int) 8)) _ rfl (run_min2 (eval_of (put_get _ _ _ (by simp only [put_size]; rw [hsz]; decide))) (eval_cst _ _) (by omega)) ?_
            refine owg_run 8 147 false rfl (by kernel_rfl) (pf2 (by decide) (pf4 (by decide) (put_get _ _ _ (by simp only [put_size]; rw [hsz]; decide)))) 154 (.bool false) _ rfl (run_binOp (eval_of (pf1 (by decide) (pf2 (by decide) (put_get _ _ _ (by simp only [put_size]; rw [hsz]; decide))))) (eval_of (put_get _ _ _ (by simp only [put_size]; rw [hsz]; decide))) (eqIntI _ _ _ _ _ _ _) (neqIb _ _ _ false (by have h := congrArg List.length hPc; rw [List.length_map, List.length_map, Ri_len] at h; simp; omega))) ?_
            refine owl_run (wanted_none rfl) 155 (.bool false) _ rfl (run_pickF (eval_of (pf1 (by decide) (pf2 (by decide) (pf4 (by decide) (put_get _ _ _ (by simp only [put_size]; rw [hsz]; decide)))))) (eval_of (put_get _ _ _ (by simp only [put_size]; rw [hsz]; decide)))) ?_
            refine fresh (C := fun x W => WL _ _ _ [] x W) (fun x X => _ = X ∧ x.tmps.size = 177 ∧ x.defers = [] ∧ x.tmps[3]? = some (.int .i64 F) ∧ x.tmps[4]? = some (.pointer (some ⟨q5, 0, none⟩)) ∧ x.tmps[5]? = some (.slice (some ⟨q9, 0, none⟩) 2148 2148) ∧ x.tmps[16]? = some (.int .i64 ((i : Nat) : Int)) ∧ x.tmps[17]? = some (.pointer (some ⟨qc, 0, none⟩)) ∧ x.tmps[155]? = some (.bool false)) ⟨rfl, (by simp only [put_size]; exact hsz), (by simp only [put_defers]; exact hdf), (pf1 (by decide) (pf16 (by decide) s_3)), (pf1 (by decide) (pf16 (by decide) s_4)), (pf1 (by decide) (pf16 (by decide) s_5)), (pf1 (by decide) (pf16 (by decide) s_16)), (pf1 (by decide) (pf16 (by decide) s_17)), (put_get _ _ _ (by simp only [put_size]; rw [hsz]; decide))⟩ ?_
            clear hsz hdf s_3 s_4 s_5 s_16 s_17 s_18 s_19
            rintro a _ ⟨rfl, hsz, hdf, s_3, s_4, s_5, s_16, s_17, s_155⟩
            refine wl_done ?_
            refine ow_then ?_
            refine ow_false (eval_of s_155) ?_
            refine wp_skip ?_
            refine ow_then ?_
            refine ow_region [_, _] rfl (by intro o ho; simp only [List.mem_cons, List.not_mem_nil, or_false] at ho; rcases ho with rfl | rfl <;> rfl) ?_
            refine ow_run 156 (.agg #[.int .i64 F, .slice ac PC.length cc]) _ rfl (run_loadOp (eval_of s_17) (run_loadN [.int .i64 F, .slice ac PC.length cc] rW214_2 (fun j v hj => by simpa using hj) Try.underlying24 rfl (by kernel_rfl))) ?_
            refine ow_skip _ rfl (run_storeOp (eval_of (pf1 (by decide) s_4)) (eval_of (put_get _ _ _ (by rw [hsz]; decide))) (run_storeN (xs := [.int .i64 F, .slice ac PC.length cc]) rW214_0 (by simp) (by kernel_rfl) rfl)) ?_
            refine fresh (C := fun x W => wpRun _ _ x W _) (fun x X => _ = x ∧ Below w.heap.size w X ∧ RowAt X q5 [.int .i64 F, .slice ac PC.length cc] ∧ RowAt X q9 (bigL.map B8) ∧ RowAt X qc [.int .i64 F, .slice ac PC.length cc] ∧ DOwn KPart 58 X (q5 + 1) (.slice ac PC.length cc) PC) ⟨rfl, (below_sets (by omega) _ _ _ hbW214), (RowAt.sets [.int .i64 F, .slice ac PC.length cc] 0 _ _ rW214_0 (by simp)), (RowAt.sets_other _ _ _ rW214_1 (by omega)), (RowAt.sets_other _ _ _ rW214_2 (by omega)), (down_setl hl4 (down_setl hl4 gW214_0))⟩ ?_
            rintro _ W217 ⟨rfl, hbW217, rW217_0, rW217_1, rW217_2, fW217_0⟩
            refine fresh (C := fun x W => wpRun _ [] x W _) (fun x X => _ = X ∧ x.tmps.size = 177 ∧ x.defers = [] ∧ x.tmps[3]? = some (.int .i64 F) ∧ x.tmps[4]? = some (.pointer (some ⟨q5, 0, none⟩)) ∧ x.tmps[5]? = some (.slice (some ⟨q9, 0, none⟩) 2148 2148) ∧ x.tmps[16]? = some (.int .i64 ((i : Nat) : Int))) ⟨rfl, (by simp only [put_size]; exact hsz), (by simp only [put_defers]; exact hdf), (pf1 (by decide) s_3), (pf1 (by decide) s_4), (pf1 (by decide) s_5), (pf1 (by decide) s_16)⟩ ?_
            clear hsz hdf s_3 s_4 s_5 s_16 s_17 s_155
            rintro a _ ⟨rfl, hsz, hdf, s_3, s_4, s_5, s_16⟩
            refine ow_blk _ ?_
            refine ow_then ?_
            refine ow_region [_, _, _] rfl (by intro o ho; simp only [List.mem_cons, List.not_mem_nil, or_false] at ho; rcases ho with rfl | rfl | rfl <;> rfl) ?_
            refine ow_run 121 (.int .i64 ((i : Nat) : Int)) _ rfl (run_moveOp (eval_of s_16)) ?_
            refine ow_run 122 (.int .i64 (((i + 1) : Nat) : Int)) _ rfl (run_binOp (eval_of (put_get _ _ _ (by rw [hsz]; decide))) (eval_cst _ _) (by simp [go_sem]) (addIw _ _ _ _ (by omega) (by omega) (by omega))) ?_
            refine ow_run 16 (.int .i64 (((i + 1) : Nat) : Int)) _ rfl (run_assignOp (eval_of (put_get _ _ _ (by simp only [put_size]; rw [hsz]; decide)))) ?_
            refine fresh (C := fun x W => wpRun _ [] x W _) (fun x X => _ = X ∧ x.tmps.size = 177 ∧ x.defers = [] ∧ x.tmps[3]? = some (.int .i64 F) ∧ x.tmps[4]? = some (.pointer (some ⟨q5, 0, none⟩)) ∧ x.tmps[5]? = some (.slice (some ⟨q9, 0, none⟩) 2148 2148) ∧ x.tmps[16]? = some (.int .i64 (((i + 1) : Nat) : Int))) ⟨rfl, (by simp only [put_size]; exact hsz), (by simp only [put_defers]; exact hdf), (pf1 (by decide) (pf2 (by decide) s_3)), (pf1 (by decide) (pf2 (by decide) s_4)), (pf1 (by decide) (pf2 (by decide) s_5)), (put_get _ _ _ (by simp only [put_size]; rw [hsz]; decide))⟩ ?_
            clear hsz hdf s_3 s_4 s_5 s_16
            rintro a _ ⟨rfl, hsz, hdf, s_3, s_4, s_5, s_16⟩
            exact ow_then (hK177 _ _ _ (by omega) ⟨(i + 1), ac, cc, PC, rfl, by omega, hPc, hsz, hdf, s_3, s_4, s_5, (by first | exact s_16 | (rw [s_16]; congr 2; first | rfl | omega | (push_cast; omega)) | (rw [s_16]; first | rfl | (simp; try omega))), hbW217, rW217_0, rW217_1, (DOwn.mono fW217_0 (by omega))⟩)
        · skip
          refine ow_false (eval_of (flag_of s_120 hb_179)) ?_
          refine wp_exit ?_
          refine ow_then_exit ?_
          refine ow_then_exit ?_
          refine ow_blk_exit _ ?_
          refine ow_then ?_
          have hie : i = 10 := by have h := hb_179; rw [decide_eq_false_iff_not] at h; omega
          have hPb8 : PB.map Prod.fst = (Ri 8).map (toP F) := by rw [hPb, hie]; rfl
          refine wp_mid (fun a W => ∃ (ae : Option Addr) (ce : Nat) (vte : Value) (PE : List (EP × Value)), PE.map Prod.fst = (addParts F ((Ri 8).map (toP F)) F [(0 : UInt8)]) ∧ a.tmps.size = 177 ∧ a.defers = [] ∧ a.tmps[21]? = some (vte) ∧ a.tmps[22]? = some (.int .i64 0) ∧ Below w.heap.size w W ∧ RowAt W q5 [.int .i64 F, .slice ab PB.length cb] ∧ RowAt W q9 (bigL.map B8) ∧ DOwn KPart 58 W w.heap.size (.slice ae PE.length ce) PE ∧ W.ownsRow w.heap.size 5 1 vte ([0, 0] : List UInt8).length (([0, 0] : List UInt8).map B8)) (fun K220 hK220 => ?_) ?_
          · skip
            refine ah_region (fun W => Below w.heap.size w W ∧ RowAt W q5 [.int .i64 F, .slice ab PB.length cb] ∧ RowAt W q9 (bigL.map B8) ∧ DOwn KPart 58 W w.heap.size (.slice ab PB.length cb) PB) (by kernel_rfl) 13 rfl ?_
            refine fresh (C := fun x W => AH _ _ _ _ _ _ x W) (fun x X => _ = x ∧ Below w.heap.size w X ∧ RowAt X q5 [.int .i64 F, .slice ab PB.length cb] ∧ RowAt X q9 (bigL.map B8) ∧ DOwn KPart 58 X w.heap.size (.slice ab PB.length cb) PB) ⟨rfl, (hbW175.trans (((Below.refl _ W175).drew).mono hbW175.size)), (rW175_0.below ((Below.refl _ W175).drew)), (rW175_1.below ((Below.refl _ W175).drew)), (gW175_0.below ((Below.refl _ W175).drew))⟩ ?_
            rintro _ W221 ⟨rfl, hbW221, rW221_0, rW221_1, fW221_0⟩
            refine ah_takeW 0 158 (.agg #[.int .i64 F, .slice ab PB.length cb]) rfl (wanted_none rfl) rfl (by kernel_rfl) (by kernel_rfl) (by kernel_rfl) (fun _ _ _ h => h) ⟨hbW221, rW221_0, rW221_1, fW221_0⟩ (fun W hW => by (try obtain ⟨hbW221, rW221_0, rW221_1, fW221_0⟩ := hW); exact (run_loadOp (eval_of s_4) (run_loadN [.int .i64 F, .slice ab PB.length cb] rW221_0 (fun j v hj => by simpa using hj) Try.underlying24 rfl (by kernel_rfl)))) ?_
            refine ah_takeW 1 159 (.int .i64 F) rfl (wanted_none rfl) rfl (by kernel_rfl) (by kernel_rfl) (by kernel_rfl) (fun _ _ _ h => h) ⟨hbW221, rW221_0, rW221_1, fW221_0⟩ (fun W hW => by (try obtain ⟨hbW221, rW221_0, rW221_1, fW221_0⟩ := hW); exact (run_moveOp (eval_of (pf1 (by decide) s_3)))) ?_
            refine ah_takeW 2 160 (.slice (some ⟨q9, 0, none⟩) 2148 2148) rfl (wanted_none rfl) rfl (by kernel_rfl) (by kernel_rfl) (by kernel_rfl) (fun _ _ _ h => h) ⟨hbW221, rW221_0, rW221_1, fW221_0⟩ (fun W hW => by (try obtain ⟨hbW221, rW221_0, rW221_1, fW221_0⟩ := hW); exact (run_moveOp (eval_of (pf2 (by decide) s_5)))) ?_
            refine ah_takeW 3 161 (.slice (some ⟨q9, 0, none⟩) 1 2148) rfl (wanted_none rfl) rfl (by kernel_rfl) (by kernel_rfl) (by kernel_rfl) (fun _ _ _ h => h) ⟨hbW221, rW221_0, rW221_1, fW221_0⟩ (fun W hW => by (try obtain ⟨hbW221, rW221_0, rW221_1, fW221_0⟩ := hW); exact (run_sliceOp1 (eval_of (put_get _ _ _ (by simp only [put_size]; rw [hsz]; decide))) (eval_cst _ _) (sl_to2148 _ 1 (by decide) _))) ?_
            refine ah_two 4 9 (by kernel_rfl) ?_ ?_
            · skip
              have hbs_e := hbW221
              have hwe_q5 : q5 < W221.heap.size := rW221_0.2.2
              have hwe_q9 : q9 < W221.heap.size := rW221_1.2.2
              refine ao_call rfl (wanted_none rfl) 162 (fun v X => ∃ ae ce vte PE, v = .tuple #[.agg #[.int .i64 (addNext F ((Ri 8).map (toP F)) F [(0 : UInt8)]), .slice ae PE.length ce], vte, .int .i64 0] ∧ PE.map Prod.fst = (addParts F ((Ri 8).map (toP F)) F [(0 : UInt8)]) ∧ Below W221.heap.size W221 X ∧ DOwn KPart 58 X W221.heap.size (.slice ae PE.length ce) PE ∧ X.ownsRow W221.heap.size 5 1 vte ([0, 0] : List UInt8).length (([0, 0] : List UInt8).map B8)) rfl _ _ (run_callOp Try.func20 rfl rfl (arr3 (eval_of (pf1 (by decide) (pf2 (by decide) (put_get _ _ _ (by rw [hsz]; decide))))) (eval_of (pf2 (by decide) (put_get _ _ _ (by simp only [put_size]; rw [hsz]; decide)))) (eval_of (put_get _ _ _ (by simp only [put_size]; rw [hsz]; decide))))) ((radd_good _ _ F F ((Ri 8).map (toP F)) [(0 : UInt8)] W221 (by have h := fW221_0.of; rw [hPb8] at h; exact h) (by have h := (sl_mid rW221_1 0 1 2148 (by rw [bigL_len]; omega) (by omega) (by have : maxLen = 9223372036854775807 := rfl; omega)); exact h) (ok_Ri8 hF)).mono fun e X ⟨v4, vt, PL, he, hP, ho, ht, _, hb⟩ => by obtain ⟨a4, c4, rfl⟩ := ho.slice; obtain ⟨e1, e2, e3⟩ := hlast; rw [e3] at ht; exact ⟨_, he, a4, c4, vt, PL, rfl, hP, hb, ho, ht⟩) ?_
              rintro _ V223 ⟨ae, ce, vte, PE, rfl, hPe, hb222, he, het⟩
              have hbN := (hbW221.trans (hb222.mono hbW221.size))
              have hbN224 := hbN
              have rN225 := (rW221_0.below hb222)
              have rN226 := (rW221_1.below hb222)
              have fN227 := (fW221_0.below hb222)
              refine ⟨⟨hbN224, rN225, rN226, fN227⟩, ?_⟩
              refine ah_takeW 5 157 (.tuple #[.agg #[.int .i64 (addNext F ((Ri 8).map (toP F)) F [(0 : UInt8)]), .slice ae PE.length ce], vte, .int .i64 0]) rfl (wanted_none rfl) rfl (by kernel_rfl) (by kernel_rfl) (by kernel_rfl) (fun _ _ _ h => h) ⟨hbN224, rN225, rN226, fN227⟩ (fun W hW => by (try obtain ⟨hbN224, rN225, rN226, fN227⟩ := hW); exact (run_moveOp (eval_of (put_get _ _ _ (by simp only [put_size]; rw [hsz]; decide))))) ?_
              refine ah_takeW 6 163 (.agg #[.int .i64 (addNext F ((Ri 8).map (toP F)) F [(0 : UInt8)]), .slice ae PE.length ce]) rfl (wanted_none rfl) rfl (by kernel_rfl) (by kernel_rfl) (by kernel_rfl) (fun _ _ _ h => h) ⟨hbN224, rN225, rN226, fN227⟩ (fun W hW => by (try obtain ⟨hbN224, rN225, rN226, fN227⟩ := hW); exact (run_extractOp (eval_of (put_get _ _ _ (by simp only [put_size]; rw [hsz]; decide))) rfl)) ?_
              refine ah_takeW 7 164 (vte) rfl (wanted_none rfl) rfl (by kernel_rfl) (by kernel_rfl) (by kernel_rfl) (fun _ _ _ h => h) ⟨hbN224, rN225, rN226, fN227⟩ (fun W hW => by (try obtain ⟨hbN224, rN225, rN226, fN227⟩ := hW); exact (run_extractOp (eval_of (pf1 (by decide) (put_get _ _ _ (by simp only [put_size]; rw [hsz]; decide)))) rfl)) ?_
              refine ah_takeW 8 165 (.int .i64 0) rfl (wanted_none rfl) rfl (by kernel_rfl) (by kernel_rfl) (by kernel_rfl) (fun _ _ _ h => h) ⟨hbN224, rN225, rN226, fN227⟩ (fun W hW => by (try obtain ⟨hbN224, rN225, rN226, fN227⟩ := hW); exact (run_extractOp (eval_of (pf2 (by decide) (put_get _ _ _ (by simp only [put_size]; rw [hsz]; decide)))) rfl)) ?_
              refine ah_one 9 (by kernel_rfl) ?_
              obtain ⟨q228, hq228⟩ : ∃ x, x = V223.heap.size := ⟨_, rfl⟩
              refine ao_run rfl (wanted_none rfl) 20 (.pointer (some ⟨q228, 0, none⟩)) (V223.alloc (.cells #[.int .i64 0, .slice none 0 0] 24)) rfl (by rw [hq228]; exact (run_allocOp (by simp [go_sem, Instr.alloc]))) ⟨(hbN224.alloc hbN224.size _), (rN225.below ((Below.refl _ V223).alloc (Nat.le_refl _) _)), (rN226.below ((Below.refl _ V223).alloc (Nat.le_refl _) _)), (fN227.below ((Below.refl _ V223).alloc (Nat.le_refl _) _))⟩ ?_
              have hqq228 : w.heap.size ≤ q228 := by rw [hq228]; exact hbN224.size
              have hyq228_b : ∀ k, DBlk (.slice ab PB.length cb) PB k → k < q228 := fun k hk => by have := (dblk_lt fN227 hk).2; omega
              have hyq228_e : ∀ k, DBlk (.slice ae PE.length ce) PE k → k < q228 := fun k hk => by have := (dblk_lt he hk).2; omega
              have hyq228_et : ∀ k, (vte : Value).ownBlock = some k → k < q228 := fun k hk => by have := (blk_lt het hk).2; omega
              have hnq228_q5 : q5 < q228 := by rw [hq228]; exact rN225.2.2
              have hnq228_q9 : q9 < q228 := by rw [hq228]; exact rN226.2.2
              refine fresh (C := fun x W => AH _ _ _ _ _ _ x W) (fun x X => _ = x ∧ Below w.heap.size w X ∧ RowAt X q5 [.int .i64 F, .slice ab PB.length cb] ∧ RowAt X q9 (bigL.map B8) ∧ RowAt X q228 [.int .i64 0, .slice none 0 0] ∧ DOwn KPart 58 X w.heap.size (.slice ab PB.length cb) PB ∧ DOwn KPart 58 X W221.heap.size (.slice ae PE.length ce) PE ∧ X.ownsRow W221.heap.size 5 1 vte ([0, 0] : List UInt8).length (([0, 0] : List UInt8).map B8)) ⟨rfl, (hbN224.alloc hbN224.size _), (rN225.below ((Below.refl _ V223).alloc (Nat.le_refl _) _)), (rN226.below ((Below.refl _ V223).alloc (Nat.le_refl _) _)), (by rw [hq228]; exact rowAt_alloc _ [.int .i64 0, .slice none 0 0] _), (fN227.below ((Below.refl _ V223).alloc (Nat.le_refl _) _)), (he.below ((Below.refl _ V223).alloc (Nat.le_refl _) _)), (below_own het ((Below.refl _ V223).alloc (Nat.le_refl _) _))⟩ ?_
              rintro _ W229 ⟨rfl, hbW229, rW229_0, rW229_1, rW229_2, fW229_0, fW229_1, fW229_2⟩
              clear hq228
              refine ah_one 10 (by kernel_rfl) ?_
              refine ao_skip rfl (wanted_none rfl) rfl _ (run_storeOp (eval_of (put_get _ _ _ (by simp only [put_size]; rw [hsz]; decide))) (eval_of (pf1 (by decide) (pf2 (by decide) (put_get _ _ _ (by simp only [put_size]; rw [hsz]; decide))))) (run_storeN (xs := [.int .i64 (addNext F ((Ri 8).map (toP F)) F [(0 : UInt8)]), .slice ae PE.length ce]) rW229_2 (by simp) (by kernel_rfl) rfl)) ⟨(below_sets (by omega) _ _ _ hbW229), (RowAt.sets_other _ _ _ rW229_0 (by omega)), (RowAt.sets_other _ _ _ rW229_1 (by omega)), (down_setlt hyq228_b (down_setlt hyq228_b fW229_0))⟩ ?_
              refine fresh (C := fun x W => AH _ _ _ _ _ _ x W) (fun x X => _ = x ∧ Below w.heap.size w X ∧ RowAt X q5 [.int .i64 F, .slice ab PB.length cb] ∧ RowAt X q9 (bigL.map B8) ∧ RowAt X q228 [.int .i64 (addNext F ((Ri 8).map (toP F)) F [(0 : UInt8)]), .slice ae PE.length ce] ∧ DOwn KPart 58 X w.heap.size (.slice ab PB.length cb) PB ∧ DOwn KPart 58 X W221.heap.size (.slice ae PE.length ce) PE ∧ X.ownsRow W221.heap.size 5 1 vte ([0, 0] : List UInt8).length (([0, 0] : List UInt8).map B8)) ⟨rfl, (below_sets (by omega) _ _ _ hbW229), (RowAt.sets_other _ _ _ rW229_0 (by omega)), (RowAt.sets_other _ _ _ rW229_1 (by omega)), (RowAt.sets [.int .i64 (addNext F ((Ri 8).map (toP F)) F [(0 : UInt8)]), .slice ae PE.length ce] 0 _ _ rW229_2 (by simp)), (down_setlt hyq228_b (down_setlt hyq228_b fW229_0)), (down_setlt hyq228_e (down_setlt hyq228_e fW229_1)), (own_setlt hyq228_et (own_setlt hyq228_et fW229_2))⟩ ?_
              rintro _ W230 ⟨rfl, hbW230, rW230_0, rW230_1, rW230_2, fW230_0, fW230_1, fW230_2⟩
              refine ah_takeW 11 21 (vte) rfl (wanted_none rfl) rfl (by kernel_rfl) (by kernel_rfl) (by kernel_rfl) (fun _ _ _ h => h) ⟨hbW230, rW230_0, rW230_1, fW230_0⟩ (fun W hW => by (try obtain ⟨hbW230, rW230_0, rW230_1, fW230_0⟩ := hW); exact (run_assignOp (eval_of (pf2 (by decide) (put_get _ _ _ (by simp only [put_size]; rw [hsz]; decide)))))) ?_
              refine ah_takeW 12 22 (.int .i64 0) rfl (wanted_none rfl) rfl (by kernel_rfl) (by kernel_rfl) (by kernel_rfl) (fun _ _ _ h => h) ⟨hbW230, rW230_0, rW230_1, fW230_0⟩ (fun W hW => by (try obtain ⟨hbW230, rW230_0, rW230_1, fW230_0⟩ := hW); exact (run_assignOp (eval_of (pf2 (by decide) (put_get _ _ _ (by simp only [put_size]; rw [hsz]; decide)))))) ?_
              refine fresh (C := fun x W => AH _ _ _ _ _ _ x W) (fun x X => _ = X ∧ x.tmps.size = 177 ∧ x.defers = [] ∧ x.tmps[21]? = some (vte) ∧ x.tmps[22]? = some (.int .i64 0)) ⟨rfl, (by simp only [put_size]; exact hsz), (by simp only [put_defers]; exact hdf), (pf1 (by decide) (put_get _ _ _ (by simp only [put_size]; rw [hsz]; decide))), (put_get _ _ _ (by simp only [put_size]; rw [hsz]; decide))⟩ ?_
              clear hsz hdf s_3 s_4 s_5 s_16 s_120
              rintro a _ ⟨rfl, hsz, hdf, s_21, s_22⟩
              refine ah_done (by kernel_rfl) ?_
              have hws : w.heap.size ≤ W221.heap.size := hbs_e.size
              exact ow_then (hK220 _ _ ⟨ae, ce, vte, PE, hPe, hsz, hdf, s_21, s_22, hbW230, rW230_0, rW230_1, (DOwn.mono fW230_1 hws), (own_mono fW230_2 hws)⟩)
            · skip
              obtain ⟨q232, hq232⟩ : ∃ x, x = W221.heap.size := ⟨_, rfl⟩
              refine ao_run rfl (wanted_none rfl) 20 (.pointer (some ⟨q232, 0, none⟩)) (W221.alloc (.cells #[.int .i64 0, .slice none 0 0] 24)) rfl (by rw [hq232]; exact (run_allocOp (by simp [go_sem, Instr.alloc]))) ⟨(hbW221.alloc hbW221.size _), (rW221_0.below ((Below.refl _ W221).alloc (Nat.le_refl _) _)), (rW221_1.below ((Below.refl _ W221).alloc (Nat.le_refl _) _)), (fW221_0.below ((Below.refl _ W221).alloc (Nat.le_refl _) _))⟩ ?_
              have hqq232 : w.heap.size ≤ q232 := by rw [hq232]; exact hbW221.size
              have hyq232_b : ∀ k, DBlk (.slice ab PB.length cb) PB k → k < q232 := fun k hk => by have := (dblk_lt fW221_0 hk).2; omega
              have hnq232_q5 : q5 < q232 := by rw [hq232]; exact rW221_0.2.2
              have hnq232_q9 : q9 < q232 := by rw [hq232]; exact rW221_1.2.2
              refine fresh (C := fun x W => AH _ _ _ _ _ _ x W) (fun x X => _ = x ∧ Below w.heap.size w X ∧ RowAt X q5 [.int .i64 F, .slice ab PB.length cb] ∧ RowAt X q9 (bigL.map B8) ∧ RowAt X q232 [.int .i64 0, .slice none 0 0] ∧ DOwn KPart 58 X w.heap.size (.slice ab PB.length cb) PB) ⟨rfl, (hbW221.alloc hbW221.size _), (rW221_0.below ((Below.refl _ W221).alloc (Nat.le_refl _) _)), (rW221_1.below ((Below.refl _ W221).alloc (Nat.le_refl _) _)), (by rw [hq232]; exact rowAt_alloc _ [.int .i64 0, .slice none 0 0] _), (fW221_0.below ((Below.refl _ W221).alloc (Nat.le_refl _) _))⟩ ?_
              rintro _ W233 ⟨rfl, hbW233, rW233_0, rW233_1, rW233_2, fW233_0⟩
              clear hq232
              refine ah_one 4 (by kernel_rfl) ?_
              have hbs_e := hbW233
              have hwe_q5 : q5 < W233.heap.size := rW233_0.2.2
              have hwe_q9 : q9 < W233.heap.size := rW233_1.2.2
              have hwe_q232 : q232 < W233.heap.size := rW233_2.2.2
              refine ao_call rfl (wanted_none rfl) 162 (fun v X => ∃ ae ce vte PE, v = .tuple #[.agg #[.int .i64 (addNext F ((Ri 8).map (toP F)) F [(0 : UInt8)]), .slice ae PE.length ce], vte, .int .i64 0] ∧ PE.map Prod.fst = (addParts F ((Ri 8).map (toP F)) F [(0 : UInt8)]) ∧ Below W233.heap.size W233 X ∧ DOwn KPart 58 X W233.heap.size (.slice ae PE.length ce) PE ∧ X.ownsRow W233.heap.size 5 1 vte ([0, 0] : List UInt8).length (([0, 0] : List UInt8).map B8)) rfl _ _ (run_callOp Try.func20 rfl rfl (arr3 (eval_of (pf4 (by decide) (put_get _ _ _ (by rw [hsz]; decide)))) (eval_of (pf1 (by decide) (pf2 (by decide) (put_get _ _ _ (by simp only [put_size]; rw [hsz]; decide))))) (eval_of (pf1 (by decide) (put_get _ _ _ (by simp only [put_size]; rw [hsz]; decide)))))) ((radd_good _ _ F F ((Ri 8).map (toP F)) [(0 : UInt8)] W233 (by have h := fW233_0.of; rw [hPb8] at h; exact h) (by have h := (sl_mid rW233_1 0 1 2148 (by rw [bigL_len]; omega) (by omega) (by have : maxLen = 9223372036854775807 := rfl; omega)); exact h) (ok_Ri8 hF)).mono fun e X ⟨v4, vt, PL, he, hP, ho, ht, _, hb⟩ => by obtain ⟨a4, c4, rfl⟩ := ho.slice; obtain ⟨e1, e2, e3⟩ := hlast; rw [e3] at ht; exact ⟨_, he, a4, c4, vt, PL, rfl, hP, hb, ho, ht⟩) ?_
              rintro _ V235 ⟨ae, ce, vte, PE, rfl, hPe, hb234, he, het⟩
              have hbN := (hbW233.trans (hb234.mono hbW233.size))
              have hbN236 := hbN
              have rN237 := (rW233_0.below hb234)
              have rN238 := (rW233_1.below hb234)
              have rN239 := (rW233_2.below hb234)
              have fN240 := (fW233_0.below hb234)
              refine ⟨⟨hbN236, rN237, rN238, fN240⟩, ?_⟩
              refine ah_takeW 5 157 (.tuple #[.agg #[.int .i64 (addNext F ((Ri 8).map (toP F)) F [(0 : UInt8)]), .slice ae PE.length ce], vte, .int .i64 0]) rfl (wanted_none rfl) rfl (by kernel_rfl) (by kernel_rfl) (by kernel_rfl) (fun _ _ _ h => h) ⟨hbN236, rN237, rN238, fN240⟩ (fun W hW => by (try obtain ⟨hbN236, rN237, rN238, fN240⟩ := hW); exact (run_moveOp (eval_of (put_get _ _ _ (by simp only [put_size]; rw [hsz]; decide))))) ?_
              refine ah_takeW 6 163 (.agg #[.int .i64 (addNext F ((Ri 8).map (toP F)) F [(0 : UInt8)]), .slice ae PE.length ce]) rfl (wanted_none rfl) rfl (by kernel_rfl) (by kernel_rfl) (by kernel_rfl) (fun _ _ _ h => h) ⟨hbN236, rN237, rN238, fN240⟩ (fun W hW => by (try obtain ⟨hbN236, rN237, rN238, fN240⟩ := hW); exact (run_extractOp (eval_of (put_get _ _ _ (by simp only [put_size]; rw [hsz]; decide))) rfl)) ?_
              refine ah_takeW 7 164 (vte) rfl (wanted_none rfl) rfl (by kernel_rfl) (by kernel_rfl) (by kernel_rfl) (fun _ _ _ h => h) ⟨hbN236, rN237, rN238, fN240⟩ (fun W hW => by (try obtain ⟨hbN236, rN237, rN238, fN240⟩ := hW); exact (run_extractOp (eval_of (pf1 (by decide) (put_get _ _ _ (by simp only [put_size]; rw [hsz]; decide)))) rfl)) ?_
              refine ah_takeW 8 165 (.int .i64 0) rfl (wanted_none rfl) rfl (by kernel_rfl) (by kernel_rfl) (by kernel_rfl) (fun _ _ _ h => h) ⟨hbN236, rN237, rN238, fN240⟩ (fun W hW => by (try obtain ⟨hbN236, rN237, rN238, fN240⟩ := hW); exact (run_extractOp (eval_of (pf2 (by decide) (put_get _ _ _ (by simp only [put_size]; rw [hsz]; decide)))) rfl)) ?_
              refine ah_one 10 (by kernel_rfl) ?_
              refine ao_skip rfl (wanted_none rfl) rfl _ (run_storeOp (eval_of (pf1 (by decide) (pf4 (by decide) (put_get _ _ _ (by simp only [put_size]; rw [hsz]; decide))))) (eval_of (pf2 (by decide) (put_get _ _ _ (by simp only [put_size]; rw [hsz]; decide)))) (run_storeN (xs := [.int .i64 (addNext F ((Ri 8).map (toP F)) F [(0 : UInt8)]), .slice ae PE.length ce]) rN239 (by simp) (by kernel_rfl) rfl)) ⟨(below_sets (by omega) _ _ _ hbN236), (RowAt.sets_other _ _ _ rN237 (by omega)), (RowAt.sets_other _ _ _ rN238 (by omega)), (down_setlt hyq232_b (down_setlt hyq232_b fN240))⟩ ?_
              refine fresh (C := fun x W => AH _ _ _ _ _ _ x W) (fun x X => _ = x ∧ Below w.heap.size w X ∧ RowAt X q5 [.int .i64 F, .slice ab PB.length cb] ∧ RowAt X q9 (bigL.map B8) ∧ RowAt X q232 [.int .i64 (addNext F ((Ri 8).map (toP F)) F [(0 : UInt8)]), .slice ae PE.length ce] ∧ DOwn KPart 58 X w.heap.size (.slice ab PB.length cb) PB ∧ DOwn KPart 58 X W233.heap.size (.slice ae PE.length ce) PE ∧ X.ownsRow W233.heap.size 5 1 vte ([0, 0] : List UInt8).length (([0, 0] : List UInt8).map B8)) ⟨rfl, (below_sets (by omega) _ _ _ hbN236), (RowAt.sets_other _ _ _ rN237 (by omega)), (RowAt.sets_other _ _ _ rN238 (by omega)), (RowAt.sets [.int .i64 (addNext F ((Ri 8).map (toP F)) F [(0 : UInt8)]), .slice ae PE.length ce] 0 _ _ rN239 (by simp)), (down_setlt hyq232_b (down_setlt hyq232_b fN240)), (down_setl hwe_q232 (down_setl hwe_q232 he)), (own_set2 hwe_q232 (own_set2 hwe_q232 het))⟩ ?_
              rintro _ W241 ⟨rfl, hbW241, rW241_0, rW241_1, rW241_2, fW241_0, fW241_1, fW241_2⟩
              refine ah_takeW 11 21 (vte) rfl (wanted_none rfl) rfl (by kernel_rfl) (by kernel_rfl) (by kernel_rfl) (fun _ _ _ h => h) ⟨hbW241, rW241_0, rW241_1, fW241_0⟩ (fun W hW => by (try obtain ⟨hbW241, rW241_0, rW241_1, fW241_0⟩ := hW); exact (run_assignOp (eval_of (pf1 (by decide) (put_get _ _ _ (by simp only [put_size]; rw [hsz]; decide)))))) ?_
              refine ah_takeW 12 22 (.int .i64 0) rfl (wanted_none rfl) rfl (by kernel_rfl) (by kernel_rfl) (by kernel_rfl) (fun _ _ _ h => h) ⟨hbW241, rW241_0, rW241_1, fW241_0⟩ (fun W hW => by (try obtain ⟨hbW241, rW241_0, rW241_1, fW241_0⟩ := hW); exact (run_assignOp (eval_of (pf1 (by decide) (put_get _ _ _ (by simp only [put_size]; rw [hsz]; decide)))))) ?_
              refine fresh (C := fun x W => AH _ _ _ _ _ _ x W) (fun x X => _ = X ∧ x.tmps.size = 177 ∧ x.defers = [] ∧ x.tmps[21]? = some (vte) ∧ x.tmps[22]? = some (.int .i64 0)) ⟨rfl, (by simp only [put_size]; exact hsz), (by simp only [put_defers]; exact hdf), (pf1 (by decide) (put_get _ _ _ (by simp only [put_size]; rw [hsz]; decide))), (put_get _ _ _ (by simp only [put_size]; rw [hsz]; decide))⟩ ?_
              clear hsz hdf s_3 s_4 s_5 s_16 s_120
              rintro a _ ⟨rfl, hsz, hdf, s_21, s_22⟩
              refine ah_done (by kernel_rfl) ?_
              have hws : w.heap.size ≤ W233.heap.size := hbs_e.size
              exact ow_then (hK220 _ _ ⟨ae, ce, vte, PE, hPe, hsz, hdf, s_21, s_22, hbW241, rW241_0, rW241_1, (DOwn.mono fW241_1 hws), (own_mono fW241_2 hws)⟩)
          · skip
            clear hsz hdf s_3 s_4 s_5 s_16 s_120
            rintro a W243 ⟨ae, ce, vte, PE, hPe, hsz, hdf, s_21, s_22, hbW243, rW243_0, rW243_1, gW243_0, gW243_1⟩
            refine wp_seq ?_
            refine owl_region [_, _, _, _, _, _, _, _, _, _, _, _] rfl ?_
            refine owl_run (wanted_none rfl) 166 (.int .i64 0) _ rfl (run_moveOp (eval_of s_22)) ?_
            refine owl_call (wanted_none rfl) 167 (fun v X => v = (.int .i64 0) ∧ W243 = X) rfl _ _ (run_callOp Try.func16 rfl rfl (arr1 (eval_of (put_get _ _ _ (by rw [hsz]; decide))))) ((num14_any 0 W243).mono fun e X h => ⟨_, h.1, rfl, h.2⟩) ?_
            rintro _ _ ⟨rfl, rfl⟩
            refine owl_run (wanted_none rfl) 168 (.bool true) _ rfl (run_binOp (eval_of (put_get _ _ _ (by simp only [put_size]; rw [hsz]; decide))) (eval_cst _ _) (eqIntI _ _ _ _ _ _ _) (eqlIb _ _ _ true (by decide))) ?_
            refine owl_run (wanted_none rfl) 169 (.bool true) _ rfl (run_moveOp (eval_of (put_get _ _ _ (by simp only [put_size]; rw [hsz]; decide)))) ?_
            refine owg_run 3 169 true rfl (by kernel_rfl) (put_get _ _ _ (by simp only [put_size]; rw [hsz]; decide)) 170 (vte) _ rfl (run_moveOp (eval_of (pf4 (by decide) s_21))) ?_
            obtain ⟨q245, hq245⟩ : ∃ x, x = W243.heap.size := ⟨_, rfl⟩
            refine owg_run 3 169 true rfl (by kernel_rfl) (pf1 (by decide) (put_get _ _ _ (by simp only [put_size]; rw [hsz]; decide))) 171 (.slice (some ⟨q245, 0, none⟩) 2 2) (W243.alloc (.cells (([B8 0, B8 0] : List Value)).toArray 5)) rfl (by rw [hq245]; exact (bs00 _)) ?_
            have hqq245 : w.heap.size ≤ q245 := by rw [hq245]; exact hbW243.size
            have hyq245_e : ∀ k, DBlk (.slice ae PE.length ce) PE k → k < q245 := fun k hk => by have := (dblk_lt gW243_0 hk).2; omega
            have hyq245_et : ∀ k, (vte : Value).ownBlock = some k → k < q245 := fun k hk => by have := (blk_lt gW243_1 hk).2; omega
            have hnq245_q5 : q5 < q245 := by rw [hq245]; exact rW243_0.2.2
            have hnq245_q9 : q9 < q245 := by rw [hq245]; exact rW243_1.2.2
            refine fresh (C := fun x W => WL _ _ _ _ x W) (fun x X => _ = x ∧ Below w.heap.size w X ∧ RowAt X q5 [.int .i64 F, .slice ab PB.length cb] ∧ RowAt X q9 (bigL.map B8) ∧ RowAt X q245 ([B8 0, B8 0] : List Value) ∧ DOwn KPart 58 X w.heap.size (.slice ae PE.length ce) PE ∧ X.ownsRow w.heap.size 5 1 vte ([0, 0] : List UInt8).length (([0, 0] : List UInt8).map B8)) ⟨rfl, (hbW243.alloc hbW243.size _), (rW243_0.below ((Below.refl _ W243).alloc (Nat.le_refl _) _)), (rW243_1.below ((Below.refl _ W243).alloc (Nat.le_refl _) _)), (by rw [hq245]; exact rowAt_alloc _ (([B8 0, B8 0] : List Value)) _), (gW243_0.below ((Below.refl _ W243).alloc (Nat.le_refl _) _)), (below_own gW243_1 ((Below.refl _ W243).alloc (Nat.le_refl _) _))⟩ ?_
            rintro _ W246 ⟨rfl, hbW246, rW246_0, rW246_1, rW246_2, fW246_0, fW246_1⟩
            clear hq245
            refine owg_call 3 169 true rfl (by kernel_rfl) (pf2 (by decide) (put_get _ _ _ (by simp only [put_size]; rw [hsz]; decide))) 172 (fun v X => v = .bool true ∧ Below W246.heap.size W246 X) rfl _ _ (run_callOp Try.func24 rfl rfl (arr2 (eval_of (pf1 (by decide) (put_get _ _ _ (by simp only [put_size]; rw [hsz]; decide)))) (eval_of (put_get _ _ _ (by simp only [put_size]; rw [hsz]; decide))))) ((eqBytes_same _ _ [(0 : UInt8), 0] W246 (by simp; try omega) (Sl.of_own fW246_1).1 (sl_row2 rW246_2)).mono fun e X ⟨he, k, hX⟩ => ⟨_, he, rfl, by rw [hX]; exact bdrew (Below.refl _ _) k⟩) ?_
            rintro _ V248 ⟨rfl, hb247⟩
            refine fresh (C := fun x W => WL _ _ _ _ x W) (fun x X => _ = x ∧ Below w.heap.size w X ∧ RowAt X q5 [.int .i64 F, .slice ab PB.length cb] ∧ RowAt X q9 (bigL.map B8) ∧ RowAt X q245 ([B8 0, B8 0] : List Value) ∧ DOwn KPart 58 X w.heap.size (.slice ae PE.length ce) PE ∧ X.ownsRow w.heap.size 5 1 vte ([0, 0] : List UInt8).length (([0, 0] : List UInt8).map B8)) ⟨rfl, (hbW246.trans (hb247.mono hbW246.size)), (rW246_0.below hb247), (rW246_1.below hb247), (rW246_2.below hb247), (fW246_0.below hb247), (below_own fW246_1 hb247)⟩ ?_
            rintro _ W249 ⟨rfl, hbW249, rW249_0, rW249_1, rW249_2, fW249_0, fW249_1⟩
            refine owl_run (wanted_none rfl) 173 (.bool true) _ rfl (run_pickT (eval_of (pf1 (by decide) (pf2 (by decide) (put_get _ _ _ (by simp only [put_size]; rw [hsz]; decide))))) (eval_of (put_get _ _ _ (by simp only [put_size]; rw [hsz]; decide)))) ?_
            refine owl_run (wanted_none rfl) 174 (.bool true) _ rfl (run_moveOp (eval_of (put_get _ _ _ (by simp only [put_size]; rw [hsz]; decide)))) ?_
            refine owg_call 8 174 true rfl (by kernel_rfl) (put_get _ _ _ (by simp only [put_size]; rw [hsz]; decide)) 175 (fun v X => v = .bool true ∧ Below W249.heap.size W249 X) rfl _ _ (run_callOp Try.func27 rfl rfl (arr0 )) ((wakes14_any W249).mono fun e X h => ⟨_, h.1, rfl, h.2⟩) ?_
            rintro _ V251 ⟨rfl, hb250⟩
            refine fresh (C := fun x W => WL _ _ _ _ x W) (fun x X => _ = x ∧ Below w.heap.size w X ∧ RowAt X q5 [.int .i64 F, .slice ab PB.length cb] ∧ RowAt X q9 (bigL.map B8) ∧ RowAt X q245 ([B8 0, B8 0] : List Value) ∧ DOwn KPart 58 X w.heap.size (.slice ae PE.length ce) PE ∧ X.ownsRow w.heap.size 5 1 vte ([0, 0] : List UInt8).length (([0, 0] : List UInt8).map B8)) ⟨rfl, (hbW249.trans (hb250.mono hbW249.size)), (rW249_0.below hb250), (rW249_1.below hb250), (rW249_2.below hb250), (fW249_0.below hb250), (below_own fW249_1 hb250)⟩ ?_
            rintro _ W252 ⟨rfl, hbW252, rW252_0, rW252_1, rW252_2, fW252_0, fW252_1⟩
            refine owl_run (wanted_none rfl) 176 (.bool true) _ rfl (run_pickT (eval_of (pf1 (by decide) (put_get _ _ _ (by simp only [put_size]; rw [hsz]; decide)))) (eval_of (put_get _ _ _ (by simp only [put_size]; rw [hsz]; decide)))) ?_
            refine owl_run (wanted_none rfl) 2 (.bool true) _ rfl (run_assignOp (eval_of (put_get _ _ _ (by simp only [put_size]; rw [hsz]; decide)))) ?_
            refine fresh (C := fun x W => WL _ _ _ [] x W) (fun x X => _ = X ∧ x.tmps.size = 177 ∧ x.defers = [] ∧ x.tmps[2]? = some (.bool true)) ⟨rfl, (by simp only [put_size]; exact hsz), (by simp only [put_defers]; exact hdf), (put_get _ _ _ (by simp only [put_size]; rw [hsz]; decide))⟩ ?_
            clear hsz hdf s_21 s_22
            rintro a _ ⟨rfl, hsz, hdf, s_2⟩
            refine wl_done ?_
            refine ow_then ?_
            refine wp_ret ?_
            exact ow_ret1 rfl hdf s_2 ⟨rfl, hbW252⟩
set_option maxRecDepth 100000 in
theorem stream14w_of (W : World) (cs : List Value) (h : Rd Try.prog W 51 cs) : ∃ c0 c2 n1 n3, cs = [c0, .int .i64 n1, c2, .int .i64 n3] := by
  obtain ⟨hlen, hf⟩ := h.struct Try.underlying51
  have h4 : cs.length = 4 := hlen.trans (by kernel_rfl)
  match cs, h4 with
  | [c0, c1, c2, c3], _ =>
    obtain ⟨n1, h1, -⟩ := (hf 1 _ rfl).i64 Try.underlying3
    obtain ⟨n3, h3, -⟩ := (hf 3 _ rfl).i64 Try.underlying3
    have cI : Try.prog.cellsOf 3 = 1 := by kernel_rfl
    have e1 : c1 = .int .i64 n1 := by simpa [cI] using h1
    have e3 : c3 = .int .i64 n3 := by simpa [cI] using h3
    subst e1 e3
    exact ⟨c0, c2, n1, n3, rfl⟩
theorem reasmWindow_walk (W : World) (cs : List Value) (h : Rd Try.prog W 51 cs) :
    Calls Try.prog 5 #[.agg cs.toArray] W fun e W' => e = .returned (.bool true) ∧ Below W.heap.size W W' := by
  obtain ⟨c0, c2, n1, n3, rfl⟩ := stream14w_of W cs h
  exact window_walk0 c0 c2 n1 n3 W
namespace reasmWindow
open Go.ChangeShapes Go.WideShapes Go.ChangeAt
theorem own : ownKnob Try.prog.godebug = none := by kernel_rfl
theorem laidOut : laidOutB Try.prog = true := by kernel_rfl
set_option maxRecDepth 100000 in
theorem lifted (os : Os) (started : os.Started) (H : Type) (enc : TypeId × Value → H) :
    ReturnsInHanded {} Try.checked os 5 .any (Rows.reasmWindowSpec.pre6 enc Try.prog Try.f5 Rows.reasmWindowRow.domain false) (Rows.reasmWindowSpec.post enc Try.prog Try.f5 false true false false) := by
  refine returnsInHanded_of_change (C := Try.checked) own started (by kernel_rfl) Try.func5
    (ChangeSpec.witness6 (enc := enc) (C := Try.checked) false ⟨#[], #[.agg #[.slice none 0 0, .int .i64 0, .slice none 0 0, .int .i64 0]], []⟩ 12 (by kernel_rfl) (by kernel_rfl) (by kernel_rfl) (by kernel_rfl)) ?_
  intro W base args ds gs before hval0 hW _ _
  have hval : ∀ (j : Nat) t v, Try.f5.params[j]? = some t → args[j]? = some v → Value.okWide Try.prog W .any base t v := hval0
  have hW' := hW
  obtain ⟨p, q, hA0, hV, rfl, hfz, hnd⟩ := hW
  have hA : DataW.TrodAll enc Try.prog W 0 (fun _ => true) true Try.f5.params.toList args.toList ds p := hA0
  rw [Try.params5] at hA hval
  obtain ⟨v0, vs0, d0, ds0, p0, q0, hargs, rfl, rfl, h0, r0⟩ := trodAll_cons hA
  obtain ⟨rfl, rfl, rfl⟩ := trodAll_nil r0
  obtain rfl : args = #[v0] := by cases args; simp_all
  obtain ⟨rfl, rfl⟩ := trodVars_none hV
  obtain ⟨cs0, rfl⟩ : ∃ cs0 : Array Value, v0 = .agg cs0 := by
    have h := hval 0 51 v0 rfl rfl
    unfold Value.okWide at h
    rw [Try.underlying51] at h
    exact ⟨h.choose, h.choose_spec.1⟩
  have k0 := h0
  have lt0 : ∀ x ∈ p0, x.block < W.heap.size := by obtain ⟨m, hm⟩ := k0; exact DataW.trod_lt m _ _ _ hm
  have hrd : Rd Try.prog W 51 cs0.toList := by obtain ⟨fuel, hf⟩ := h0; exact ⟨H, enc, 0, _, true, fuel, _, hf⟩
  clear hA0 hval0
  refine (show Calls Try.prog 5 _ W (fun e W' => e = .returned (.bool true) ∧ Below W.heap.size W W') from by have := reasmWindow_walk W _ hrd; rwa [Array.toArray_toList] at this).mono fun e W' ⟨he, bel⟩ => ?_
  subst he
  exact ⟨_, rfl, _, _, _, [], _, [], hW', trodAll_mk1 (shut_bool Try.underlying4 _), (trodAll_cons_mk (Below.trod laidOut (by kernel_rfl) (of_decide_eq_true (by kernel_rfl)) k0 bel lt0) trodAll_mk0), rfl, bel.frame _, fun h => by cases h⟩
theorem over : Rows.reasmWindowRow.holds Try.pinned (OpenSpec.ofChange Rows.reasmWindowSpec) :=
  OpenClaim.holds_of_wide 5 Try.f5 rfl rfl rfl rfl rfl rfl rfl ⟨rfl, rfl, rfl, rfl, rfl⟩ rfl rfl rfl rfl rfl (by kernel_rfl) Try.func5 (by kernel_rfl)
    (of_decide_eq_true (by kernel_rfl)) (by unfold Func.isWrapper; first | (rw [if_pos (by decide +kernel)]; kernel_rfl) | (rw [if_neg (by decide +kernel)]; exact ⟨rfl, rfl⟩))
    (fun os started H enc _ => lifted os started H enc)
/-- THE STATEMENT. -/
theorem proved : Rows.ReasmWindowSaid := over
end reasmWindow
-- CLAIM: ReasmWindow reasmWindow.proved
end Go.Proofs.Ytjgbiffgmafhmaa

